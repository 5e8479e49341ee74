/- The law of layer 3 on the least heat. -/
import Derived.Test.YtjaeheodabojfaaWX
import Derived.Test.YtjaeheodabojfaaWB
namespace Go.Proofs.Ytjaeheodabojfaa
open Go.RowKit Go.Maps
attribute [local go_sem] Oper.semAt_some

set_option maxRecDepth 10000 in
set_option maxHeartbeats 3200000 in
theorem best_bad (pp : Option Addr) (cp : Nat) (pf : Option Addr) (cf : Nat) (ps : List Pt) (ms : List FrM) (pbits : Option Addr) (cbits : Nat) (bits : List Int) (w : World) (hB : BkAt w pp pf ps ms) (_hibits : IntsAt w pbits bits) (_hnbits : bits.length ≤ maxLen) (hb : bookB ps (frsM ms) = false) : Calls Try.prog 8 #[.agg #[.slice pp ps.length cp, .slice pf ms.length cf], .slice pbits bits.length cbits] w fun e w' => e = .returned (.bool true) ∧ Below w.heap.size w w' := by
  have hE := below_alloc w (.cells #[.slice pp ps.length cp, .slice pf ms.length cf] 25)
  have HB := Lib.hid (hB.below hE)
  have HE := Lib.hid hE
  have HR := Lib.hid (Row.new w #[.slice pp ps.length cp, .slice pf ms.length cf] 25)
  clear hE
  have HV := Lib.hid hb
  clear hb _hibits _hnbits
  go_enter Try.func8, Try.ntmps8
  go_wp2_with fail
  refine (sound_any pp cp pf cf ps ms _ HB.out).mono ?_
  rintro e w1 ⟨rfl, hb1⟩
  rw [HV.out]
  have HE := Lib.hid (HE.out.trans (hb1.mono HE.out.size))
  have HR := Lib.hid (HR.out.below hb1 HR.out.lt)
  clear hb1
  go_wp2_with fail
  refine (warmed_any _).mono ?_
  rintro e w2 ⟨rfl, hb2⟩
  have HE := Lib.hid (HE.out.trans (hb2.mono HE.out.size))
  clear hb2
  go_wp2_with fail
  go_ret
  exact ⟨rfl, HE.out⟩

set_option maxRecDepth 10000 in
set_option maxHeartbeats 3200000 in
theorem best_yes (pp : Option Addr) (cp : Nat) (pf : Option Addr) (cf : Nat) (ps : List Pt) (ms : List FrM) (pbits : Option Addr) (cbits : Nat) (bits : List Int) (w : World) (hB : BkAt w pp pf ps ms) (hibits : IntsAt w pbits bits) (hnbits : bits.length ≤ maxLen) (hb : bookB ps (frsM ms) = true) (hy : (goodD ps (frsM ms) (mostD ps (frsM ms))).length = ms.length) : Calls Try.prog 8 #[.agg #[.slice pp ps.length cp, .slice pf ms.length cf], .slice pbits bits.length cbits] w fun e w' => e = .returned (.bool true) ∧ Below w.heap.size w w' := by
  obtain ⟨b, o, rfl⟩ : ∃ b o, pp = some ⟨b, o, none⟩ := by
    obtain ⟨b, o, e, _⟩ := hB.p 0 (bookB_iff.1 hb).p1
    exact ⟨b, o, e⟩
  have hE := below_alloc w (.cells #[.slice (some ⟨b, o, none⟩) ps.length cp, .slice pf ms.length cf] 25)
  have HB := Lib.hid (hB.below hE)
  have HE := Lib.hid hE
  have HR := Lib.hid (Row.new w #[.slice (some ⟨b, o, none⟩) ps.length cp, .slice pf ms.length cf] 25)
  clear hE
  have HV := Lib.hid hb
  have HBK := Lib.hid (bk_of hB hb)
  have hok := bookB_iff.1 hb
  have hn4 := HBK.out.n4
  have hn5 := HBK.out.n5
  have hn1 := HBK.out.ok.p1
  have HBI := Lib.hid hibits
  have HBN := Lib.hid hnbits
  have HB0 := Lib.hid hB
  have hfl := frsM_length ms
  have hB2 := bookE_ok hb
  obtain ⟨s, hs⟩ : ∃ s, s = settingL bits ps.length := ⟨_, rfl⟩
  have HS := Lib.hid hs
  have hsl : s.length = ps.length := by rw [hs, settingL_length]
  have HSL := Lib.hid hsl
  have hss : isSetB ps.length s = true := by rw [hs]; exact settingL_set _ _
  have HM := Lib.hid (show ∀ x ∈ s, 0 ≤ x ∧ x ≤ 3 by rw [hs]; exact settingL_mem _ _)
  have hmm := most_mem ps (frsM ms)
  have hms := set_of_mem hmm
  have hml : (mostD ps (frsM ms)).length = ps.length := (mem_setsL.1 hmm).1
  have k1 := most_good hok (set_mem hss)
  have k2 := most_heat (fs := frsM ms) (set_mem hss)
  have k3 := most_first (fs := frsM ms) (set_mem hss)
  have g1 := goodD_length ps (frsM ms) s
  have g2 := goodD_length ps (frsM ms) (mostD ps (frsM ms))
  have SE1 := Lib.hid (setE_yes hb hss)
  have SE2 := Lib.hid (setE_yes hb hms)
  have GV1 := Lib.hid (show goodV ps (frsM ms) s = goodD ps (frsM ms) s by rw [goodV, if_pos SE1.out])
  have GV2 := Lib.hid (show goodV ps (frsM ms) (mostD ps (frsM ms)) = goodD ps (frsM ms) (mostD ps (frsM ms)) by rw [goodV, if_pos SE2.out])
  have HV1 := Lib.hid (show heatV ps (frsM ms) s = heatD ps s by rw [heatV, if_pos SE1.out])
  have HV2 := Lib.hid (show heatV ps (frsM ms) (mostD ps (frsM ms)) = heatD ps (mostD ps (frsM ms)) by rw [heatV, if_pos SE2.out])
  have ML := Lib.hid (show mostL ps (frsM ms) = mostD ps (frsM ms) by rw [mostL, if_pos hb])
  have MF := Lib.hid (show mostF ps (frsM ms) = goodD ps (frsM ms) (mostD ps (frsM ms)) by rw [mostF, if_pos hb])
  have BE := Lib.hid hB2
  have hc := cool_most (ps := ps) (fs := frsM ms) (by rw [hy, hfl])
  have BSE := Lib.hid (show bestE ps (frsM ms) = 0 by rw [bestE, if_pos hb, hc]; rfl)
  have BSL := Lib.hid (show bestL ps (frsM ms) = mostD ps (frsM ms) by rw [bestL, if_pos hb, hc]; rfl)
  have HHR := Lib.hid (fun n (h : n ≤ ps.length) => heatTo_range (s := s) hok.p n h)
  have hr1 := heatD_range hok.p hok.p4 s
  have hr2 := heatD_range hok.p hok.p4 (mostD ps (frsM ms))
  rw [hfl] at g1 g2
  have HH := Lib.hid (show heatTo ps s ps.length = heatD ps s from rfl)
  have HOKP := Lib.hid hok.p
  generalize goodD ps (frsM ms) s = l at *
  generalize hmost : mostD ps (frsM ms) = m at *
  generalize goodD ps (frsM ms) m = own at *
  generalize heatD ps m = v at *
  generalize heatD ps s = wt at *
  have LE1 := Lib.hid k1
  have HY := Lib.hid hy
  have hx1 : ((own.length : Int) == (ms.length : Int)) = true := by simp; omega
  have hx2 : ¬ (own.length : Int) < (l.length : Int) := by omega
  have K2 := Lib.hid k2
  have K3 := Lib.hid k3
  have HML := Lib.hid hml
  clear hb hsl hml hfl hy hibits hnbits hs hss hms hmm hok hB2 hc hmost k1 k2 k3
  go_enter Try.func8, Try.ntmps8
  go_wp2_with fail
  refine (sound_any (some ⟨b, o, none⟩) cp pf cf ps ms _ HB.out).mono ?_
  rintro e w1 ⟨rfl, hb1⟩
  rw [HV.out]
  have HE := Lib.hid (HE.out.trans (hb1.mono HE.out.size))
  have HR := Lib.hid (HR.out.below hb1 HR.out.lt)
  clear hb1
  have c0 := HR.out.cell 0 (v := .slice (some ⟨b, o, none⟩) ps.length cp) rfl
  have c1 := HR.out.cell 1 (v := .slice pf ms.length cf) rfl
  go_wp2_with fail
  clear c0 c1
  refine (setting_any (some ⟨b, o, none⟩) ps.length cp (by omega) pf ms.length cf pbits cbits bits _ (HBI.out.below HE.out) HBN.out).mono ?_
  rw [← HS.out]
  rintro e w2 ⟨q, c, rfl, hi, hb⟩
  have HI := Lib.hid hi
  have HE := Lib.hid (HE.out.trans (hb.mono HE.out.size))
  have HR := Lib.hid (HR.out.below hb HR.out.lt)
  clear hb hi
  have c0 := HR.out.cell 0 (v := .slice (some ⟨b, o, none⟩) ps.length cp) rfl
  have c1 := HR.out.cell 1 (v := .slice pf ms.length cf) rfl
  go_wp2_with fail
  clear c0 c1
  have hd := Good_any (some ⟨b, o, none⟩) cp pf cf ps ms _ (HB0.out.below HE.out) q c s HI.out (by rw [HSL.out]; omega)
  rw [GV1.out, SE1.out] at hd
  refine hd.mono ?_
  clear hd
  rintro e w3 ⟨ql, cl, rfl, hl, hb⟩
  have HE := Lib.hid (HE.out.trans (hb.mono HE.out.size))
  have HR := Lib.hid (HR.out.below hb HR.out.lt)
  have HI := Lib.hid (HI.out.below hb)
  have HL := Lib.hid hl
  clear hl
  clear hb
  have c0 := HR.out.cell 0 (v := .slice (some ⟨b, o, none⟩) ps.length cp) rfl
  have c1 := HR.out.cell 1 (v := .slice pf ms.length cf) rfl
  go_wp2_with fail
  clear c0 c1
  have hd := Heat_any (some ⟨b, o, none⟩) cp pf cf ps ms _ (HB0.out.below HE.out) q c s HI.out (by rw [HSL.out]; omega)
  rw [HV1.out, SE1.out] at hd
  refine hd.mono ?_
  clear hd
  rintro e w4 ⟨rfl, hb⟩
  have HE := Lib.hid (HE.out.trans (hb.mono HE.out.size))
  have HR := Lib.hid (HR.out.below hb HR.out.lt)
  have HI := Lib.hid (HI.out.below hb)
  have HL := Lib.hid (HL.out.below hb)
  clear hb
  have c0 := HR.out.cell 0 (v := .slice (some ⟨b, o, none⟩) ps.length cp) rfl
  have c1 := HR.out.cell 1 (v := .slice pf ms.length cf) rfl
  go_wp2_with fail
  clear c0 c1
  have hd := Most_any (some ⟨b, o, none⟩) cp pf cf ps ms _ (HB0.out.below HE.out)
  rw [ML.out, MF.out, BE.out] at hd
  refine hd.mono ?_
  clear hd
  rintro e w5 ⟨qm, cm, qf, cf2, rfl, hm, hf, hb⟩
  have HE := Lib.hid (HE.out.trans (hb.mono HE.out.size))
  have HR := Lib.hid (HR.out.below hb HR.out.lt)
  have HI := Lib.hid (HI.out.below hb)
  have HL := Lib.hid (HL.out.below hb)
  have HMM := Lib.hid hm
  have HFF := Lib.hid hf
  clear hm hf
  clear hb
  have c0 := HR.out.cell 0 (v := .slice (some ⟨b, o, none⟩) ps.length cp) rfl
  have c1 := HR.out.cell 1 (v := .slice pf ms.length cf) rfl
  go_wp2_with fail
  clear c0 c1
  have hd := Good_any (some ⟨b, o, none⟩) cp pf cf ps ms _ (HB0.out.below HE.out) qm cm m HMM.out (by rw [HML.out]; omega)
  rw [GV2.out, SE2.out] at hd
  refine hd.mono ?_
  clear hd
  rintro e w6 ⟨qo, co, rfl, ho, hb⟩
  have HE := Lib.hid (HE.out.trans (hb.mono HE.out.size))
  have HR := Lib.hid (HR.out.below hb HR.out.lt)
  have HI := Lib.hid (HI.out.below hb)
  have HL := Lib.hid (HL.out.below hb)
  have HMM := Lib.hid (HMM.out.below hb)
  have HFF := Lib.hid (HFF.out.below hb)
  have HO := Lib.hid ho
  clear ho
  clear hb
  have c0 := HR.out.cell 0 (v := .slice (some ⟨b, o, none⟩) ps.length cp) rfl
  have c1 := HR.out.cell 1 (v := .slice pf ms.length cf) rfl
  go_wp2_with fail
  clear c0 c1
  have hd := Heat_any (some ⟨b, o, none⟩) cp pf cf ps ms _ (HB0.out.below HE.out) qm cm m HMM.out (by rw [HML.out]; omega)
  rw [HV2.out, SE2.out] at hd
  refine hd.mono ?_
  clear hd
  rintro e w7 ⟨rfl, hb⟩
  have HE := Lib.hid (HE.out.trans (hb.mono HE.out.size))
  have HR := Lib.hid (HR.out.below hb HR.out.lt)
  have HI := Lib.hid (HI.out.below hb)
  have HL := Lib.hid (HL.out.below hb)
  have HMM := Lib.hid (HMM.out.below hb)
  have HFF := Lib.hid (HFF.out.below hb)
  have HO := Lib.hid (HO.out.below hb)
  clear hb
  have c0 := HR.out.cell 0 (v := .slice (some ⟨b, o, none⟩) ps.length cp) rfl
  have c1 := HR.out.cell 1 (v := .slice pf ms.length cf) rfl
  go_wp2_with fail
  clear c0 c1
  have hd := Best_any (some ⟨b, o, none⟩) cp pf cf ps ms _ (HB0.out.below HE.out)
  rw [BSL.out, BSE.out] at hd
  refine hd.mono ?_
  clear hd
  rintro e w8 ⟨qb, cb, rfl, hbs, hb⟩
  have HE := Lib.hid (HE.out.trans (hb.mono HE.out.size))
  have HR := Lib.hid (HR.out.below hb HR.out.lt)
  have HI := Lib.hid (HI.out.below hb)
  have HL := Lib.hid (HL.out.below hb)
  have HMM := Lib.hid (HMM.out.below hb)
  have HFF := Lib.hid (HFF.out.below hb)
  have HO := Lib.hid (HO.out.below hb)
  have HBS := Lib.hid hbs
  clear hbs
  clear hb
  have c0 := HR.out.cell 0 (v := .slice (some ⟨b, o, none⟩) ps.length cp) rfl
  have c1 := HR.out.cell 1 (v := .slice pf ms.length cf) rfl
  go_wp2_with fail
  clear c0 c1
  refine (Alike_any qo qf co cf2 own own _ (by unfold maxLen; omega) HO.out HFF.out).mono ?_
  rw [show decide (own = own) = true by simp]
  rintro e w9 ⟨rfl, hb⟩
  have HE := Lib.hid (HE.out.trans (hb.mono HE.out.size))
  have HR := Lib.hid (HR.out.below hb HR.out.lt)
  have HI := Lib.hid (HI.out.below hb)
  have HL := Lib.hid (HL.out.below hb)
  have HMM := Lib.hid (HMM.out.below hb)
  have HFF := Lib.hid (HFF.out.below hb)
  have HO := Lib.hid (HO.out.below hb)
  have HBS := Lib.hid (HBS.out.below hb)
  clear hb
  have c0 := HR.out.cell 0 (v := .slice (some ⟨b, o, none⟩) ps.length cp) rfl
  have c1 := HR.out.cell 1 (v := .slice pf ms.length cf) rfl
  go_wp2_with fail
  clear c0 c1
  go_loopw [19, 20] (fun a i wr => ∃ k : Nat, k ≤ s.length ∧ i = .int .i64 k ∧ a = .int .i64 (heatTo ps s k) ∧ Row wr w.heap.size #[.slice (some ⟨b, o, none⟩) ps.length cp, .slice pf ms.length cf] 25 ∧ IntsAt wr q s ∧ IntsAt wr qm m ∧ IntsAt wr qb m ∧ Below w.heap.size w wr) (fun _ i _ => s.length - (intOf i).toNat)
  case atStart => exact ⟨0, by omega, rfl, by simp [heatTo], HR.out, HI.out, HMM.out, HBS.out, HE.out⟩
  case round =>
    clear HR HI HMM HBS HE HL HFF HO
    obtain ⟨k, hk, rfl, rfl, r0, i0, m0, b0, e0⟩ := hrel
    have HR := Lib.hid r0
    have HI := Lib.hid i0
    have HMM := Lib.hid m0
    have HBS := Lib.hid b0
    have HE := Lib.hid e0
    clear r0 i0 m0 b0 e0
    by_cases hlt : k < s.length
    · have hkp : k < ps.length := by have := HSL.out; omega
      have hsk := HM.out _ (at0_mem hlt)
      obtain ⟨d, hd⟩ : ∃ d : Nat, at0 s k = d := ⟨(at0 s k).toNat, by omega⟩
      have hd3 : d ≤ 3 := by omega
      obtain ⟨b', o', e', hcell⟩ := (HB0.out.below HE.out).p.heat hkp hd3
      cases e'
      obtain ⟨b2, o2, rfl, hsc⟩ := HI.out k hlt
      rw [hd] at hsc
      have c0 := HR.out.cell 0 (v := .slice (some ⟨b, o, none⟩) ps.length cp) rfl
      have hr3 := Pt.h_range (HOKP.out ps[k] (List.getElem_mem _)) d
      have hra := HHR.out k (by omega)
      have HN := Lib.hid (heatTo_succ (ps := ps) (s := s) hkp)
      have HD := Lib.hid hd
      have i1 : (0 : Int) ≤ (k : Int) := by omega
      have i2 : (k : Int) < (ps.length : Int) := by omega
      have i3 : (k : Int) < (s.length : Int) := by omega
      have i5 : (0 : Int) ≤ (d : Int) := by omega
      have i6 : (d : Int) < 4 := by omega
      obtain ⟨hh, eh⟩ : ∃ x, ps[k].h d = x := ⟨_, rfl⟩
      obtain ⟨aa, ea⟩ : ∃ x, heatTo ps s k = x := ⟨_, rfl⟩
      have HX := Lib.hid (show heatTo ps s (k + 1) = aa + hh by rw [HN.out, ea, HD.out, eh])
      rw [eh] at hcell hr3
      rw [ea] at hra
      have EA := Lib.hid ea
      clear eh ea hd HN
      have e1 : IntKind.i64.wrap (aa + hh) = aa + hh := IntWalk.i64_in _ (by omega)
      rw [EA.out]
      go_wp2_with fail
      go_quiet (fail)
      go_wp2_with fail
      go_roundw
      case rel => exact ⟨k + 1, by omega, by go_num, by rw [HX.out], HR.out.drewN _, HI.out, HMM.out, HBS.out, below_drewN HE.out _⟩
      case measure => simp [intOf]; omega
    · obtain rfl : k = s.length := by omega
      have HW := Lib.hid (show heatTo ps s s.length = wt by rw [HSL.out]; exact HH.out)
      rw [HW.out]
      have e3 : (wt != wt) = false := by simp
      by_cases h1 : l.length = own.length
      · have h1' : ((l.length : Int) == (own.length : Int)) = true := by simp; omega
        have h2 := K2.out h1
        have h2' : ¬ wt < v := by omega
        by_cases h3 : wt = v
        · have h3' : (wt == v) = true := by simpa using h3
          go_wp2_with fail
          refine (Earlier_any q qm c cm s m _ (by rw [HSL.out]; unfold maxLen; omega) HI.out HMM.out).mono ?_
          rw [K3.out h1 h3]
          rintro e w10 ⟨rfl, hb⟩
          have HMM := Lib.hid (HMM.out.below hb)
          have HBS := Lib.hid (HBS.out.below hb)
          have HE := Lib.hid (HE.out.trans (hb.mono HE.out.size))
          clear hb
          go_wp2_with fail
          refine (Alike_any qb qm cb cm m m _ (by rw [HML.out]; unfold maxLen; omega) HBS.out HMM.out).mono ?_
          rw [show decide (m = m) = true by simp]
          rintro e w11 ⟨rfl, hb⟩
          have HE := Lib.hid (HE.out.trans (hb.mono HE.out.size))
          clear hb
          go_wp2_with fail
          refine (warmed_any _).mono ?_
          rintro e w12 ⟨rfl, hb⟩
          have HE := Lib.hid (HE.out.trans (hb.mono HE.out.size))
          clear hb
          go_wp2_with fail
          go_ret
          exact ⟨rfl, HE.out⟩
        · have h3' : (wt == v) = false := by simpa using h3
          go_wp2_with fail
          refine (Alike_any qb qm cb cm m m _ (by rw [HML.out]; unfold maxLen; omega) HBS.out HMM.out).mono ?_
          rw [show decide (m = m) = true by simp]
          rintro e w11 ⟨rfl, hb⟩
          have HE := Lib.hid (HE.out.trans (hb.mono HE.out.size))
          clear hb
          go_wp2_with fail
          refine (warmed_any _).mono ?_
          rintro e w12 ⟨rfl, hb⟩
          have HE := Lib.hid (HE.out.trans (hb.mono HE.out.size))
          clear hb
          go_wp2_with fail
          go_ret
          exact ⟨rfl, HE.out⟩
      · have h1' : ((l.length : Int) == (own.length : Int)) = false := by simp; omega
        go_wp2_with fail
        refine (Alike_any qb qm cb cm m m _ (by rw [HML.out]; unfold maxLen; omega) HBS.out HMM.out).mono ?_
        rw [show decide (m = m) = true by simp]
        rintro e w11 ⟨rfl, hb⟩
        have HE := Lib.hid (HE.out.trans (hb.mono HE.out.size))
        clear hb
        go_wp2_with fail
        refine (warmed_any _).mono ?_
        rintro e w12 ⟨rfl, hb⟩
        have HE := Lib.hid (HE.out.trans (hb.mono HE.out.size))
        clear hb
        go_wp2_with fail
        go_ret
        exact ⟨rfl, HE.out⟩

set_option maxRecDepth 10000 in
set_option maxHeartbeats 3200000 in
theorem best_no (pp : Option Addr) (cp : Nat) (pf : Option Addr) (cf : Nat) (ps : List Pt) (ms : List FrM) (pbits : Option Addr) (cbits : Nat) (bits : List Int) (w : World) (hB : BkAt w pp pf ps ms) (hibits : IntsAt w pbits bits) (hnbits : bits.length ≤ maxLen) (hb : bookB ps (frsM ms) = true) (hy : (goodD ps (frsM ms) (mostD ps (frsM ms))).length ≠ ms.length) : Calls Try.prog 8 #[.agg #[.slice pp ps.length cp, .slice pf ms.length cf], .slice pbits bits.length cbits] w fun e w' => e = .returned (.bool true) ∧ Below w.heap.size w w' := by
  obtain ⟨b, o, rfl⟩ : ∃ b o, pp = some ⟨b, o, none⟩ := by
    obtain ⟨b, o, e, _⟩ := hB.p 0 (bookB_iff.1 hb).p1
    exact ⟨b, o, e⟩
  have hE := below_alloc w (.cells #[.slice (some ⟨b, o, none⟩) ps.length cp, .slice pf ms.length cf] 25)
  have HB := Lib.hid (hB.below hE)
  have HE := Lib.hid hE
  have HR := Lib.hid (Row.new w #[.slice (some ⟨b, o, none⟩) ps.length cp, .slice pf ms.length cf] 25)
  clear hE
  have HV := Lib.hid hb
  have HBK := Lib.hid (bk_of hB hb)
  have hok := bookB_iff.1 hb
  have hn4 := HBK.out.n4
  have hn5 := HBK.out.n5
  have hn1 := HBK.out.ok.p1
  have HBI := Lib.hid hibits
  have HBN := Lib.hid hnbits
  have HB0 := Lib.hid hB
  have hfl := frsM_length ms
  have hB2 := bookE_ok hb
  obtain ⟨s, hs⟩ : ∃ s, s = settingL bits ps.length := ⟨_, rfl⟩
  have HS := Lib.hid hs
  have hsl : s.length = ps.length := by rw [hs, settingL_length]
  have HSL := Lib.hid hsl
  have hss : isSetB ps.length s = true := by rw [hs]; exact settingL_set _ _
  have HM := Lib.hid (show ∀ x ∈ s, 0 ≤ x ∧ x ≤ 3 by rw [hs]; exact settingL_mem _ _)
  have hmm := most_mem ps (frsM ms)
  have hms := set_of_mem hmm
  have hml : (mostD ps (frsM ms)).length = ps.length := (mem_setsL.1 hmm).1
  have k1 := most_good hok (set_mem hss)
  have k2 := most_heat (fs := frsM ms) (set_mem hss)
  have k3 := most_first (fs := frsM ms) (set_mem hss)
  have g1 := goodD_length ps (frsM ms) s
  have g2 := goodD_length ps (frsM ms) (mostD ps (frsM ms))
  have SE1 := Lib.hid (setE_yes hb hss)
  have SE2 := Lib.hid (setE_yes hb hms)
  have GV1 := Lib.hid (show goodV ps (frsM ms) s = goodD ps (frsM ms) s by rw [goodV, if_pos SE1.out])
  have GV2 := Lib.hid (show goodV ps (frsM ms) (mostD ps (frsM ms)) = goodD ps (frsM ms) (mostD ps (frsM ms)) by rw [goodV, if_pos SE2.out])
  have HV1 := Lib.hid (show heatV ps (frsM ms) s = heatD ps s by rw [heatV, if_pos SE1.out])
  have HV2 := Lib.hid (show heatV ps (frsM ms) (mostD ps (frsM ms)) = heatD ps (mostD ps (frsM ms)) by rw [heatV, if_pos SE2.out])
  have ML := Lib.hid (show mostL ps (frsM ms) = mostD ps (frsM ms) by rw [mostL, if_pos hb])
  have MF := Lib.hid (show mostF ps (frsM ms) = goodD ps (frsM ms) (mostD ps (frsM ms)) by rw [mostF, if_pos hb])
  have BE := Lib.hid hB2
  have hc := cool_none hok (by rw [hfl]; exact hy)
  have BSE := Lib.hid (show bestE ps (frsM ms) = 4 by rw [bestE, if_pos hb, hc]; rfl)
  have BSL := Lib.hid (show bestL ps (frsM ms) = [] by rw [bestL, if_pos hb, hc]; rfl)
  have HHR := Lib.hid (fun n (h : n ≤ ps.length) => heatTo_range (s := s) hok.p n h)
  have hr1 := heatD_range hok.p hok.p4 s
  have hr2 := heatD_range hok.p hok.p4 (mostD ps (frsM ms))
  rw [hfl] at g1 g2
  have HH := Lib.hid (show heatTo ps s ps.length = heatD ps s from rfl)
  have HOKP := Lib.hid hok.p
  generalize goodD ps (frsM ms) s = l at *
  generalize hmost : mostD ps (frsM ms) = m at *
  generalize goodD ps (frsM ms) m = own at *
  generalize heatD ps m = v at *
  generalize heatD ps s = wt at *
  have LE1 := Lib.hid k1
  have HY := Lib.hid hy
  have hx1 : ((own.length : Int) == (ms.length : Int)) = false := by simp; omega
  have hx2 : ¬ (own.length : Int) < (l.length : Int) := by omega
  have K2 := Lib.hid k2
  have K3 := Lib.hid k3
  have HML := Lib.hid hml
  clear hb hsl hml hfl hy hibits hnbits hs hss hms hmm hok hB2 hc hmost k1 k2 k3
  go_enter Try.func8, Try.ntmps8
  go_wp2_with fail
  refine (sound_any (some ⟨b, o, none⟩) cp pf cf ps ms _ HB.out).mono ?_
  rintro e w1 ⟨rfl, hb1⟩
  rw [HV.out]
  have HE := Lib.hid (HE.out.trans (hb1.mono HE.out.size))
  have HR := Lib.hid (HR.out.below hb1 HR.out.lt)
  clear hb1
  have c0 := HR.out.cell 0 (v := .slice (some ⟨b, o, none⟩) ps.length cp) rfl
  have c1 := HR.out.cell 1 (v := .slice pf ms.length cf) rfl
  go_wp2_with fail
  clear c0 c1
  refine (setting_any (some ⟨b, o, none⟩) ps.length cp (by omega) pf ms.length cf pbits cbits bits _ (HBI.out.below HE.out) HBN.out).mono ?_
  rw [← HS.out]
  rintro e w2 ⟨q, c, rfl, hi, hb⟩
  have HI := Lib.hid hi
  have HE := Lib.hid (HE.out.trans (hb.mono HE.out.size))
  have HR := Lib.hid (HR.out.below hb HR.out.lt)
  clear hb hi
  have c0 := HR.out.cell 0 (v := .slice (some ⟨b, o, none⟩) ps.length cp) rfl
  have c1 := HR.out.cell 1 (v := .slice pf ms.length cf) rfl
  go_wp2_with fail
  clear c0 c1
  have hd := Good_any (some ⟨b, o, none⟩) cp pf cf ps ms _ (HB0.out.below HE.out) q c s HI.out (by rw [HSL.out]; omega)
  rw [GV1.out, SE1.out] at hd
  refine hd.mono ?_
  clear hd
  rintro e w3 ⟨ql, cl, rfl, hl, hb⟩
  have HE := Lib.hid (HE.out.trans (hb.mono HE.out.size))
  have HR := Lib.hid (HR.out.below hb HR.out.lt)
  have HI := Lib.hid (HI.out.below hb)
  have HL := Lib.hid hl
  clear hl
  clear hb
  have c0 := HR.out.cell 0 (v := .slice (some ⟨b, o, none⟩) ps.length cp) rfl
  have c1 := HR.out.cell 1 (v := .slice pf ms.length cf) rfl
  go_wp2_with fail
  clear c0 c1
  have hd := Heat_any (some ⟨b, o, none⟩) cp pf cf ps ms _ (HB0.out.below HE.out) q c s HI.out (by rw [HSL.out]; omega)
  rw [HV1.out, SE1.out] at hd
  refine hd.mono ?_
  clear hd
  rintro e w4 ⟨rfl, hb⟩
  have HE := Lib.hid (HE.out.trans (hb.mono HE.out.size))
  have HR := Lib.hid (HR.out.below hb HR.out.lt)
  have HI := Lib.hid (HI.out.below hb)
  have HL := Lib.hid (HL.out.below hb)
  clear hb
  have c0 := HR.out.cell 0 (v := .slice (some ⟨b, o, none⟩) ps.length cp) rfl
  have c1 := HR.out.cell 1 (v := .slice pf ms.length cf) rfl
  go_wp2_with fail
  clear c0 c1
  have hd := Most_any (some ⟨b, o, none⟩) cp pf cf ps ms _ (HB0.out.below HE.out)
  rw [ML.out, MF.out, BE.out] at hd
  refine hd.mono ?_
  clear hd
  rintro e w5 ⟨qm, cm, qf, cf2, rfl, hm, hf, hb⟩
  have HE := Lib.hid (HE.out.trans (hb.mono HE.out.size))
  have HR := Lib.hid (HR.out.below hb HR.out.lt)
  have HI := Lib.hid (HI.out.below hb)
  have HL := Lib.hid (HL.out.below hb)
  have HMM := Lib.hid hm
  have HFF := Lib.hid hf
  clear hm hf
  clear hb
  have c0 := HR.out.cell 0 (v := .slice (some ⟨b, o, none⟩) ps.length cp) rfl
  have c1 := HR.out.cell 1 (v := .slice pf ms.length cf) rfl
  go_wp2_with fail
  clear c0 c1
  have hd := Good_any (some ⟨b, o, none⟩) cp pf cf ps ms _ (HB0.out.below HE.out) qm cm m HMM.out (by rw [HML.out]; omega)
  rw [GV2.out, SE2.out] at hd
  refine hd.mono ?_
  clear hd
  rintro e w6 ⟨qo, co, rfl, ho, hb⟩
  have HE := Lib.hid (HE.out.trans (hb.mono HE.out.size))
  have HR := Lib.hid (HR.out.below hb HR.out.lt)
  have HI := Lib.hid (HI.out.below hb)
  have HL := Lib.hid (HL.out.below hb)
  have HMM := Lib.hid (HMM.out.below hb)
  have HFF := Lib.hid (HFF.out.below hb)
  have HO := Lib.hid ho
  clear ho
  clear hb
  have c0 := HR.out.cell 0 (v := .slice (some ⟨b, o, none⟩) ps.length cp) rfl
  have c1 := HR.out.cell 1 (v := .slice pf ms.length cf) rfl
  go_wp2_with fail
  clear c0 c1
  have hd := Heat_any (some ⟨b, o, none⟩) cp pf cf ps ms _ (HB0.out.below HE.out) qm cm m HMM.out (by rw [HML.out]; omega)
  rw [HV2.out, SE2.out] at hd
  refine hd.mono ?_
  clear hd
  rintro e w7 ⟨rfl, hb⟩
  have HE := Lib.hid (HE.out.trans (hb.mono HE.out.size))
  have HR := Lib.hid (HR.out.below hb HR.out.lt)
  have HI := Lib.hid (HI.out.below hb)
  have HL := Lib.hid (HL.out.below hb)
  have HMM := Lib.hid (HMM.out.below hb)
  have HFF := Lib.hid (HFF.out.below hb)
  have HO := Lib.hid (HO.out.below hb)
  clear hb
  have c0 := HR.out.cell 0 (v := .slice (some ⟨b, o, none⟩) ps.length cp) rfl
  have c1 := HR.out.cell 1 (v := .slice pf ms.length cf) rfl
  go_wp2_with fail
  clear c0 c1
  have hd := Best_any (some ⟨b, o, none⟩) cp pf cf ps ms _ (HB0.out.below HE.out)
  rw [BSL.out, BSE.out] at hd
  refine hd.mono ?_
  clear hd
  rintro e w8 ⟨qb, cb, rfl, hbs, hb⟩
  have HE := Lib.hid (HE.out.trans (hb.mono HE.out.size))
  have HR := Lib.hid (HR.out.below hb HR.out.lt)
  have HI := Lib.hid (HI.out.below hb)
  have HL := Lib.hid (HL.out.below hb)
  have HMM := Lib.hid (HMM.out.below hb)
  have HFF := Lib.hid (HFF.out.below hb)
  have HO := Lib.hid (HO.out.below hb)
  have HBS := Lib.hid hbs
  clear hbs
  clear hb
  have c0 := HR.out.cell 0 (v := .slice (some ⟨b, o, none⟩) ps.length cp) rfl
  have c1 := HR.out.cell 1 (v := .slice pf ms.length cf) rfl
  go_wp2_with fail
  clear c0 c1
  refine (Alike_any qo qf co cf2 own own _ (by unfold maxLen; omega) HO.out HFF.out).mono ?_
  rw [show decide (own = own) = true by simp]
  rintro e w9 ⟨rfl, hb⟩
  have HE := Lib.hid (HE.out.trans (hb.mono HE.out.size))
  have HR := Lib.hid (HR.out.below hb HR.out.lt)
  have HI := Lib.hid (HI.out.below hb)
  have HL := Lib.hid (HL.out.below hb)
  have HMM := Lib.hid (HMM.out.below hb)
  have HFF := Lib.hid (HFF.out.below hb)
  have HO := Lib.hid (HO.out.below hb)
  have HBS := Lib.hid (HBS.out.below hb)
  clear hb
  have c0 := HR.out.cell 0 (v := .slice (some ⟨b, o, none⟩) ps.length cp) rfl
  have c1 := HR.out.cell 1 (v := .slice pf ms.length cf) rfl
  go_wp2_with fail
  clear c0 c1
  go_loopw [19, 20] (fun a i wr => ∃ k : Nat, k ≤ s.length ∧ i = .int .i64 k ∧ a = .int .i64 (heatTo ps s k) ∧ Row wr w.heap.size #[.slice (some ⟨b, o, none⟩) ps.length cp, .slice pf ms.length cf] 25 ∧ IntsAt wr q s ∧ IntsAt wr qm m ∧ IntsAt wr qb [] ∧ Below w.heap.size w wr) (fun _ i _ => s.length - (intOf i).toNat)
  case atStart => exact ⟨0, by omega, rfl, by simp [heatTo], HR.out, HI.out, HMM.out, HBS.out, HE.out⟩
  case round =>
    clear HR HI HMM HBS HE HL HFF HO
    obtain ⟨k, hk, rfl, rfl, r0, i0, m0, b0, e0⟩ := hrel
    have HR := Lib.hid r0
    have HI := Lib.hid i0
    have HMM := Lib.hid m0
    have HBS := Lib.hid b0
    have HE := Lib.hid e0
    clear r0 i0 m0 b0 e0
    by_cases hlt : k < s.length
    · have hkp : k < ps.length := by have := HSL.out; omega
      have hsk := HM.out _ (at0_mem hlt)
      obtain ⟨d, hd⟩ : ∃ d : Nat, at0 s k = d := ⟨(at0 s k).toNat, by omega⟩
      have hd3 : d ≤ 3 := by omega
      obtain ⟨b', o', e', hcell⟩ := (HB0.out.below HE.out).p.heat hkp hd3
      cases e'
      obtain ⟨b2, o2, rfl, hsc⟩ := HI.out k hlt
      rw [hd] at hsc
      have c0 := HR.out.cell 0 (v := .slice (some ⟨b, o, none⟩) ps.length cp) rfl
      have hr3 := Pt.h_range (HOKP.out ps[k] (List.getElem_mem _)) d
      have hra := HHR.out k (by omega)
      have HN := Lib.hid (heatTo_succ (ps := ps) (s := s) hkp)
      have HD := Lib.hid hd
      have i1 : (0 : Int) ≤ (k : Int) := by omega
      have i2 : (k : Int) < (ps.length : Int) := by omega
      have i3 : (k : Int) < (s.length : Int) := by omega
      have i5 : (0 : Int) ≤ (d : Int) := by omega
      have i6 : (d : Int) < 4 := by omega
      obtain ⟨hh, eh⟩ : ∃ x, ps[k].h d = x := ⟨_, rfl⟩
      obtain ⟨aa, ea⟩ : ∃ x, heatTo ps s k = x := ⟨_, rfl⟩
      have HX := Lib.hid (show heatTo ps s (k + 1) = aa + hh by rw [HN.out, ea, HD.out, eh])
      rw [eh] at hcell hr3
      rw [ea] at hra
      have EA := Lib.hid ea
      clear eh ea hd HN
      have e1 : IntKind.i64.wrap (aa + hh) = aa + hh := IntWalk.i64_in _ (by omega)
      rw [EA.out]
      go_wp2_with fail
      go_quiet (fail)
      go_wp2_with fail
      go_roundw
      case rel => exact ⟨k + 1, by omega, by go_num, by rw [HX.out], HR.out.drewN _, HI.out, HMM.out, HBS.out, below_drewN HE.out _⟩
      case measure => simp [intOf]; omega
    · obtain rfl : k = s.length := by omega
      have HW := Lib.hid (show heatTo ps s s.length = wt by rw [HSL.out]; exact HH.out)
      rw [HW.out]
      have e3 : (wt != wt) = false := by simp
      by_cases h1 : l.length = own.length
      · have h1' : ((l.length : Int) == (own.length : Int)) = true := by simp; omega
        have h2 := K2.out h1
        have h2' : ¬ wt < v := by omega
        by_cases h3 : wt = v
        · have h3' : (wt == v) = true := by simpa using h3
          go_wp2_with fail
          refine (Earlier_any q qm c cm s m _ (by rw [HSL.out]; unfold maxLen; omega) HI.out HMM.out).mono ?_
          rw [K3.out h1 h3]
          rintro e w10 ⟨rfl, hb⟩
          have HMM := Lib.hid (HMM.out.below hb)
          have HBS := Lib.hid (HBS.out.below hb)
          have HE := Lib.hid (HE.out.trans (hb.mono HE.out.size))
          clear hb
          go_wp2_with fail
          refine (warmed_any _).mono ?_
          rintro e w12 ⟨rfl, hb⟩
          have HE := Lib.hid (HE.out.trans (hb.mono HE.out.size))
          clear hb
          go_wp2_with fail
          go_ret
          exact ⟨rfl, HE.out⟩
        · have h3' : (wt == v) = false := by simpa using h3
          go_wp2_with fail
          refine (warmed_any _).mono ?_
          rintro e w12 ⟨rfl, hb⟩
          have HE := Lib.hid (HE.out.trans (hb.mono HE.out.size))
          clear hb
          go_wp2_with fail
          go_ret
          exact ⟨rfl, HE.out⟩
      · have h1' : ((l.length : Int) == (own.length : Int)) = false := by simp; omega
        go_wp2_with fail
        refine (warmed_any _).mono ?_
        rintro e w12 ⟨rfl, hb⟩
        have HE := Lib.hid (HE.out.trans (hb.mono HE.out.size))
        clear hb
        go_wp2_with fail
        go_ret
        exact ⟨rfl, HE.out⟩

theorem TunnelBest_any (pp : Option Addr) (cp : Nat) (pf : Option Addr) (cf : Nat) (ps : List Pt) (ms : List FrM) (pbits : Option Addr) (cbits : Nat) (bits : List Int) (w : World) (hB : BkAt w pp pf ps ms) (hibits : IntsAt w pbits bits) (hnbits : bits.length ≤ maxLen) : Calls Try.prog 8 #[.agg #[.slice pp ps.length cp, .slice pf ms.length cf], .slice pbits bits.length cbits] w fun e w' => e = .returned (.bool true) ∧ Below w.heap.size w w' := by
  cases hb : bookB ps (frsM ms)
  · exact best_bad pp cp pf cf ps ms pbits cbits bits w hB hibits hnbits hb
  · by_cases h0 : (goodD ps (frsM ms) (mostD ps (frsM ms))).length = ms.length
    · exact best_yes pp cp pf cf ps ms pbits cbits bits w hB hibits hnbits hb h0
    · exact best_no pp cp pf cf ps ms pbits cbits bits w hB hibits hnbits hb h0
end Go.Proofs.Ytjaeheodabojfaa
