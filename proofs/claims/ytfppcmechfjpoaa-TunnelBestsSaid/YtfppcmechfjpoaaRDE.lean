/- The walks of the specification of layer 3: how dry a frame is. -/
import Derived.Test.YtfppcmechfjpoaaRABC
import Derived.BigRegion
import Derived.Deep.RegionLaw
namespace Go.Proofs.Ytfppcmechfjpoaa
open Go.RowKit Go.Maps
attribute [local go_sem] Oper.semAt_some

set_option maxRecDepth 10000 in
set_option maxHeartbeats 3200000 in
theorem refDriesOf_any (pp : Option Addr) (cp : Nat) (pf : Option Addr) (nf cf : Nat) (ps : List Pt) (q : Option Addr) (c : Nat) (s : List Int) (sp : Option Addr) (sc : Nat) (st : List Int) (flo fhi : Int) (w : World) (hP : PtsAt w pp ps) (hok : ∀ p ∈ ps, PtOk p) (h0 : 0 < ps.length) (h4 : ps.length ≤ 4) (hI : IntsAt w q s) (hs : isSetB ps.length s = true) (hJ : IntsAt w sp st) (hsl : st.length = ps.length) (hsr : ∀ x ∈ st, 0 ≤ x ∧ x ≤ 20) :
    Calls Try.prog 67 #[.agg #[.slice pp ps.length cp, .slice pf nf cf], .slice q s.length c, .agg #[.slice sp st.length sc, .int .i64 flo, .int .i64 fhi]] w fun e w' => e = .returned (.agg #[.int .i64 (dryD Pt.hi ps s st), .int .i64 (dryD Pt.lo ps s st)]) ∧ Below w.heap.size w w' := by
  obtain ⟨b, o, rfl⟩ : ∃ b o, pp = some ⟨b, o, none⟩ := by
    obtain ⟨b, o, e, _⟩ := hP 0 h0
    exact ⟨b, o, e⟩
  simp only [isSetB, setB, Bool.and_eq_true, decide_eq_true_eq, List.all_eq_true] at hs
  obtain ⟨hsl0, hm⟩ := hs
  have HL := Lib.hid hsl0
  have HM := Lib.hid hm
  have HPT := Lib.hid hP
  have HIS := Lib.hid hI
  have HJS := Lib.hid hJ
  have HOK := Lib.hid hok
  have HSR := Lib.hid hsr
  have HSL := Lib.hid hsl
  have HD1 := Lib.hid (fun n (h : n ≤ ps.length) => dryTo_range (d := Pt.hi) (s := s) hok hsr hsl (fun p hp => by have h1 := (hok p hp).l0; have h2 := (hok p hp).l1; omega) n h)
  have HD2 := Lib.hid (fun n (h : n ≤ ps.length) => dryTo_range (d := Pt.lo) (s := s) hok hsr hsl (fun p hp => (hok p hp).l0) n h)
  have hE := below_alloc3 w (.cells #[.slice (some ⟨b, o, none⟩) ps.length cp, .slice pf nf cf] 25) (.cells #[.slice sp st.length sc, .int .i64 flo, .int .i64 fhi] 55) (.cells #[.int .i64 0, .int .i64 0] 32)
  have HE := Lib.hid hE
  have HR := Lib.hid (((Row.new w #[.slice (some ⟨b, o, none⟩) ps.length cp, .slice pf nf cf] 25).alloc (.cells #[.slice sp st.length sc, .int .i64 flo, .int .i64 fhi] 55)).alloc (.cells #[.int .i64 0, .int .i64 0] 32))
  have HF := Lib.hid ((Row.new1 w (.cells #[.slice (some ⟨b, o, none⟩) ps.length cp, .slice pf nf cf] 25) #[.slice sp st.length sc, .int .i64 flo, .int .i64 fhi] 55).alloc (.cells #[.int .i64 0, .int .i64 0] 32))
  have HQ := Lib.hid (Row.new2 w (.cells #[.slice (some ⟨b, o, none⟩) ps.length cp, .slice pf nf cf] 25) (.cells #[.slice sp st.length sc, .int .i64 flo, .int .i64 fhi] 55) #[.int .i64 0, .int .i64 0] 32)
  clear hP hI hJ hok hsr hsl hsl0 hm hE
  go_enter Try.func67, Try.ntmps67
  go_wp2_with fail
  refine (Only_any _ _).mono ?_
  rintro e w1 ⟨rfl, hb⟩
  have HE := Lib.hid (HE.out.trans (hb.mono HE.out.size))
  have HR := Lib.hid (HR.out.below hb HR.out.lt)
  have HF := Lib.hid (HF.out.below hb HF.out.lt)
  have HQ := Lib.hid (HQ.out.below hb HQ.out.lt)
  clear hb
  have hb := below_alloc w1 (.cells #[.int .i64 0, .int .i64 0] 32)
  have HO := Lib.hid (Row.new w1 #[.int .i64 0, .int .i64 0] 32)
  have hob := HQ.out.lt
  have HE := Lib.hid (HE.out.trans (hb.mono HE.out.size))
  have HR := Lib.hid (HR.out.below hb HR.out.lt)
  have HF := Lib.hid (HF.out.below hb HF.out.lt)
  have HQ := Lib.hid (HQ.out.below hb HQ.out.lt)
  clear hb
  go_wp2_with fail
  generalize w1.heap.size = ob at *
  go_loopw [8] (fun i wr => ∃ k : Nat, k ≤ s.length ∧ i = .int .i64 k ∧ Row wr w.heap.size #[.slice (some ⟨b, o, none⟩) ps.length cp, .slice pf nf cf] 25 ∧ Row wr (w.heap.size + 1) #[.slice sp st.length sc, .int .i64 flo, .int .i64 fhi] 55 ∧ Row wr (w.heap.size + 1 + 1) #[.int .i64 0, .int .i64 0] 32 ∧ Row wr ob #[.int .i64 (dryTo Pt.hi ps s st k), .int .i64 (dryTo Pt.lo ps s st k)] 32 ∧ Below w.heap.size w wr) (fun i _ => s.length - (intOf i).toNat)
  case atStart => exact ⟨0, by omega, rfl, HR.out, HF.out, HQ.out, by simpa [dryTo] using HO.out, HE.out⟩
  case round =>
    clear HR HF HQ HO HE
    obtain ⟨k, hk, rfl, r1, r2, r3, r4, e0⟩ := hrel
    have HR := Lib.hid r1
    have HF := Lib.hid r2
    have HQ := Lib.hid r3
    have HO := Lib.hid r4
    have HE := Lib.hid e0
    clear r1 r2 r3 r4 e0
    by_cases hlt : k < s.length
    · have hkp : k < ps.length := by have := HL.out; omega
      have hkt : k < st.length := by have := HSL.out; omega
      have hsk := HM.out _ (at0_mem hlt)
      obtain ⟨d, hd⟩ : ∃ d : Nat, at0 s k = d := ⟨(at0 s k).toNat, by omega⟩
      have hd3 : d ≤ 3 := by omega
      obtain ⟨b', o', e', hcell⟩ := (HPT.out.below HE.out).heat hkp hd3
      cases e'
      obtain ⟨b', o', e', _, _, _, _, hlo, hhi⟩ := (HPT.out.below HE.out) k hkp
      cases e'
      have hhi' : wr.cell? ⟨b, o + k * 6 + 4 + 1, none⟩ = some (.int .i64 ps[k].hi) := hhi
      obtain ⟨b2, o2, rfl, hsc⟩ := (HIS.out.below HE.out) k hlt
      rw [hd] at hsc
      have hokk := HOK.out ps[k] (List.getElem_mem _)
      have hr1 := Pt.h_range hokk d
      have hr2 := hokk.l0
      have hr3 := hokk.l2
      have hr4 := hokk.l1
      have hra := HD1.out k (by omega)
      have hrb := HD2.out k (by omega)
      have hst2 := HSR.out _ (at0_mem hkt)
      have HDD := Lib.hid hd
      have N1 := Lib.hid (dryTo_succ (d := Pt.hi) (ps := ps) (s := s) (stay := st) hkp)
      have N2 := Lib.hid (dryTo_succ (d := Pt.lo) (ps := ps) (s := s) (stay := st) hkp)
      have i1 : (0 : Int) ≤ (k : Int) := by omega
      have i2 : (k : Int) < (ps.length : Int) := by omega
      have i3 : (k : Int) < (s.length : Int) := by omega
      have i4 : (k : Int) < (st.length : Int) := by omega
      have i5 : (0 : Int) ≤ (d : Int) := by omega
      have i6 : (d : Int) < 4 := by omega
      obtain ⟨hh, eh⟩ : ∃ x, ps[k].h d = x := ⟨_, rfl⟩
      obtain ⟨ll, el⟩ : ∃ x, ps[k].lo = x := ⟨_, rfl⟩
      obtain ⟨hl, ehl⟩ : ∃ x, ps[k].hi = x := ⟨_, rfl⟩
      obtain ⟨aa, ea⟩ : ∃ x, dryTo Pt.hi ps s st k = x := ⟨_, rfl⟩
      obtain ⟨ab, eb⟩ : ∃ x, dryTo Pt.lo ps s st k = x := ⟨_, rfl⟩
      obtain ⟨tt, et⟩ : ∃ t : Int, at0 st k = t := ⟨_, rfl⟩
      obtain ⟨m1, em1⟩ : ∃ t : Int, max 0 (hh - hl) = t := ⟨_, rfl⟩
      obtain ⟨m2, em2⟩ : ∃ t : Int, max 0 (hh - ll) = t := ⟨_, rfl⟩
      rw [eh] at hcell hr1
      rw [el] at hlo hr2 hr4
      rw [ehl] at hhi' hr3 hr4
      rw [ea] at hra
      rw [eb] at hrb
      rw [et] at hst2
      have X1 := Lib.hid (show dryTo Pt.hi ps s st (k + 1) = aa + tt * m1 by rw [N1.out, dryAt, ea, HDD.out, eh, ehl, et, em1])
      have X2 := Lib.hid (show dryTo Pt.lo ps s st (k + 1) = ab + tt * m2 by rw [N2.out, dryAt, eb, HDD.out, eh, el, et, em2])
      have b1 : 0 ≤ m1 ∧ m1 ≤ 20 := by omega
      have b2' : 0 ≤ m2 ∧ m2 ≤ 20 := by omega
      have b3 : 0 ≤ tt * m1 ∧ tt * m1 ≤ 400 := ⟨Int.mul_nonneg hst2.1 b1.1, by have h := Int.mul_le_mul hst2.2 b1.2 b1.1 (by omega); omega⟩
      have b4 : 0 ≤ tt * m2 ∧ tt * m2 ≤ 400 := ⟨Int.mul_nonneg hst2.1 b2'.1, by have h := Int.mul_le_mul hst2.2 b2'.2 b2'.1 (by omega); omega⟩
      have EA := Lib.hid ea
      have EB := Lib.hid eb
      have ET := Lib.hid et
      have EM1 := Lib.hid em1
      have EM2 := Lib.hid em2
      rw [ea, eb] at HO
      have c0 := HR.out.cell 0 (v := .slice (some ⟨b, o, none⟩) ps.length cp) rfl
      have hS : ∀ w', From wr w' → w'.cell? ⟨w.heap.size, 0, none⟩ = some (.slice (some ⟨b, o, none⟩) ps.length cp) ∧ w'.cell? ⟨b2, o2 + k, none⟩ = some (.int .i64 d) ∧ w'.cell? ⟨b, o + k * 6 + d, none⟩ = some (.int .i64 hh) ∧ w'.cell? ⟨b, o + k * 6 + 4, none⟩ = some (.int .i64 ll) ∧ w'.cell? ⟨b, o + k * 6 + 4 + 1, none⟩ = some (.int .i64 hl) := fun w' q => ⟨q.cell c0, q.cell hsc, q.cell hcell, q.cell hlo, q.cell hhi'⟩
      have HSS := Lib.hid hS
      have KI := Lib.hid (From.refl wr)
      clear hS eh el ehl ea eb et em1 em2 hd N1 N2 hokk hcell hlo hhi hhi' hsc
      go_upto_region 5 with (fail)
      clear c0
      go_cut [9, 10] from 18 to 34 (fun a9 a10 wx => a9 = .int .i64 hh ∧ ∃ db, a10 = .pointer (some ⟨db, 0, none⟩) ∧ wr.heap.size ≤ db ∧ Row wx db #[.int .i64 ll, .int .i64 hl] 32 ∧ From wr wx)
      case first =>
        go_region_held3 (fun w' => w'.cell? ⟨w.heap.size, 0, none⟩ = some (.slice (some ⟨b, o, none⟩) ps.length cp) ∧ w'.cell? ⟨b2, o2 + k, none⟩ = some (.int .i64 d) ∧ w'.cell? ⟨b, o + k * 6 + d, none⟩ = some (.int .i64 hh) ∧ w'.cell? ⟨b, o + k * 6 + 4, none⟩ = some (.int .i64 ll) ∧ w'.cell? ⟨b, o + k * 6 + 4 + 1, none⟩ = some (.int .i64 hl)) (first
            | with_reducible exact HSS.out _ KI.out
            | with_reducible exact HSS.out _ KI.out.drew
            | exact HSS.out _ (KI.out.below (below_alloc _ _))
            | exact HSS.out _ (KI.out.below (below_alloc _ _)).drew) (fail)
        all_goals
          go_wp2_with fail
          go_meet
          exact ⟨rfl, _, rfl, Nat.le_refl _, (Row.new _ _ _).drew, ((From.refl wr).below (below_alloc _ _)).drew⟩
      case rest =>
        obtain ⟨rfl, db, rfl, hdb, rdb, ki⟩ := hcut
        generalize wc = w5 at *
        have RD := Lib.hid rdb
        have KI := Lib.hid ki
        have hwr := KI.out.b.size
        have hobl := HO.out.lt
        have hndb : db ≠ ob := by omega
        have HO5 := Lib.hid (KI.out.row HO.out)
        have HF5 := Lib.hid (KI.out.row HF.out)
        obtain ⟨b3, o3, hsp, hc3⟩ := (HJS.out.below (HE.out.trans (KI.out.b.mono HE.out.size))) k hkt
        rw [ET.out] at hc3
        have hbw3 : b3 < w.heap.size := by
          obtain ⟨_, _, e2, q⟩ := HJS.out k hkt
          rw [hsp] at e2
          cases e2
          exact cell_block q
        have o0 := HO5.out.cell 0 (v := .int .i64 aa) rfl
        have o1 := HO5.out.free 0
        have f0 := HF5.out.cell 0 (v := .slice sp st.length sc) rfl
        have g1 := RD.out.cell 1 (v := .int .i64 hl) rfl
        have g0 := RD.out.cell 0 (v := .int .i64 ll) rfl
        rw [hsp] at f0
        have HSP := Lib.hid hsp
        have e1 : IntKind.i64.wrap (hh - hl) = hh - hl := IntWalk.i64_in _ (by omega)
        have e2 : IntKind.i64.wrap (tt * m1) = tt * m1 := IntWalk.i64_in _ (by omega)
        have e3 : IntKind.i64.wrap (aa + tt * m1) = aa + tt * m1 := IntWalk.i64_in _ (by omega)
        have hx1 : max 0 (hh - hl) = m1 := EM1.out
        clear rdb ki hsp
        go_upto_region 6 with (fail)
        go_cut [] from 35 to 49 (fun wx => FromB ob w5 wx ∧ Row wx ob #[.int .i64 (aa + tt * m1), .int .i64 ab] 32)
        case first =>
          go_region
          all_goals
            go_wp2_with fail
            all_goals
              go_meet
              first
                | (have hv : wrap64 (aa + wrap64 (tt * (hh - hl))) = aa + tt * m1 := (by
                    have h9 : hh - hl = m1 := (by omega)
                    rw [h9, IntWalk.wrap64_in (tt * m1) (by omega), IntWalk.wrap64_in (aa + tt * m1) (by omega)])
                   rw [hv]
                   exact ⟨((FromB.refl _ _).set 0 _).drew, (HO5.out.set 0 _).drew⟩)
                | (have hv : wrap64 (aa + wrap64 0) = aa + tt * m1 := (by
                    have h9 : m1 = 0 := (by omega)
                    rw [h9, Int.mul_zero, IntWalk.wrap64_in 0 (by omega), Int.add_zero, IntWalk.wrap64_in aa (by omega)])
                   rw [hv]
                   exact ⟨((FromB.refl _ _).set 0 _).drew, (HO5.out.set 0 _).drew⟩)
        case rest =>
          obtain ⟨hf6, ho6⟩ := hcut
          clear o0 o1 f0 g1 g0 e1 e2 e3 hx1
          generalize wc = w6 at *
          have HF6 := Lib.hid hf6
          have HO6 := Lib.hid ho6
          clear hf6 ho6
          have o0 := HO6.out.cell 1 (v := .int .i64 ab) rfl
          have o1 := HO6.out.free 1
          have f0 := HF6.out.cell (HF5.out.cell 0 (v := .slice sp st.length sc) rfl) (by omega)
          have g0 := HF6.out.cell (RD.out.cell 0 (v := .int .i64 ll) rfl) (by omega)
          have hc4 := HF6.out.cell hc3 (by omega)
          rw [HSP.out] at f0
          have e1 : IntKind.i64.wrap (hh - ll) = hh - ll := IntWalk.i64_in _ (by omega)
          have e2 : IntKind.i64.wrap (tt * m2) = tt * m2 := IntWalk.i64_in _ (by omega)
          have e3 : IntKind.i64.wrap (ab + tt * m2) = ab + tt * m2 := IntWalk.i64_in _ (by omega)
          have hx2 : max 0 (hh - ll) = m2 := EM2.out
          clear hc3
          go_upto_region 7 with (fail)
          go_region
          all_goals
            go_wp2_with fail
            all_goals
              have hv : wrap64 (ab + wrap64 (tt * if ll < hh then hh - ll else 0)) = ab + tt * m2 := by
                have h9 : (if ll < hh then hh - ll else 0) = m2 := by split <;> omega
                rw [h9, IntWalk.wrap64_in (tt * m2) (by omega), IntWalk.wrap64_in (ab + tt * m2) (by omega)]
              rw [hv]
              go_roundw
              case rel => exact ⟨k + 1, by omega, by go_num, ((HF6.out.set 1 _).drew).row (KI.out.row HR.out) (by omega), ((HF6.out.set 1 _).drew).row HF5.out (by omega), ((HF6.out.set 1 _).drew).row (KI.out.row HQ.out) (by omega), by rw [X1.out, X2.out]; exact (HO6.out.set 1 _).drew, ((HF6.out.set 1 _).drew).base (HE.out.trans (KI.out.b.mono HE.out.size)) (by omega) (HE.out.trans (KI.out.b.mono HE.out.size)).size⟩
              case measure => simp [intOf]; omega
    · obtain rfl : k = s.length := by omega
      have o0 := HO.out.cell 0 (v := .int .i64 (dryTo Pt.hi ps s st s.length)) rfl
      have o1 := HO.out.cell 1 (v := .int .i64 (dryTo Pt.lo ps s st s.length)) rfl
      have X1 := Lib.hid (show dryTo Pt.hi ps s st s.length = dryD Pt.hi ps s st by rw [dryD, HL.out])
      have X2 := Lib.hid (show dryTo Pt.lo ps s st s.length = dryD Pt.lo ps s st by rw [dryD, HL.out])
      rw [X1.out] at o0
      rw [X2.out] at o1
      go_wp2_with (first | (refine store_row rfl 32 _ _ rfl _ #[.int .i64 (dryD Pt.hi ps s st), .int .i64 (dryD Pt.lo ps s st)] _ _ rfl rfl HQ.out (by kernel_rfl) rfl (by simp [Value.oneCell']) ?_))
      have qq := HQ.out.setRow #[.int .i64 (dryD Pt.hi ps s st), .int .i64 (dryD Pt.lo ps s st)]
      exact bodyPost_ret (v := .agg #[.int .i64 (dryD Pt.hi ps s st), .int .i64 (dryD Pt.lo ps s st)]) (results_cell_row Try.results67 _ _ _ _ _ _ _ rfl qq Try.underlying32 rfl (by kernel_rfl)) rfl ⟨rfl, below_setRow HE.out (by omega) _⟩
end Go.Proofs.Ytfppcmechfjpoaa
/- The walks of the specification of layer 3: is a frame dry in time; what becomes of it. -/
namespace Go.Proofs.Ytfppcmechfjpoaa
open Go.RowKit Go.Maps
attribute [local go_sem] Oper.semAt_some

set_option maxHeartbeats 400000 in
theorem Wraps_any (a b c d : Int) (w : World) :
    Calls Try.prog 107 #[.agg #[.int .i64 a, .int .i64 b], .agg #[.int .i64 c, .int .i64 d]] w fun e w' => e = .returned (.bool (decide (a ≤ c) && decide (d ≤ b))) ∧ Below w.heap.size w w' := by
  by_cases h1 : a ≤ c
  · go_enter Try.func107, Try.ntmps107
    go_wp2
    go_ret
    exact ⟨ret_bool (by simp [h1]), below_alloc2 _ _ _⟩
  · have h1' : decide (a ≤ c) = false := by simpa using h1
    go_enter Try.func107, Try.ntmps107
    go_wp2
    go_ret
    exact ⟨ret_bool (by simp), below_alloc2 _ _ _⟩
set_option maxRecDepth 10000 in
set_option maxHeartbeats 3200000 in
theorem refDry_any (pp : Option Addr) (cp : Nat) (pf : Option Addr) (nf cf : Nat) (ps : List Pt) (q : Option Addr) (c : Nat) (s : List Int) (sp : Option Addr) (sc : Nat) (st : List Int) (flo fhi : Int) (w : World) (hP : PtsAt w pp ps) (hok : ∀ p ∈ ps, PtOk p) (h0 : 0 < ps.length) (h4 : ps.length ≤ 4) (hI : IntsAt w q s) (hs : isSetB ps.length s = true) (hJ : IntsAt w sp st) (hsl : st.length = ps.length) (hsr : ∀ x ∈ st, 0 ≤ x ∧ x ≤ 20) :
    Calls Try.prog 84 #[.agg #[.slice pp ps.length cp, .slice pf nf cf], .slice q s.length c, .agg #[.slice sp st.length sc, .int .i64 flo, .int .i64 fhi]] w fun e w' => e = .returned (.bool (decide (flo ≤ dryD Pt.hi ps s st) && decide (dryD Pt.lo ps s st ≤ fhi))) ∧ Below w.heap.size w w' := by
  obtain ⟨W0, hW0⟩ : ∃ W, W = (w.alloc (.cells #[.slice pp ps.length cp, .slice pf nf cf] 25)).alloc (.cells #[.slice sp st.length sc, .int .i64 flo, .int .i64 fhi] 55) := ⟨_, rfl⟩
  have HW0 := Lib.hid hW0
  have HE := Lib.hid (show Below w.heap.size w W0 by rw [hW0]; exact below_alloc2 _ _ _)
  have HR := Lib.hid (show Row W0 w.heap.size #[.slice pp ps.length cp, .slice pf nf cf] 25 by rw [hW0]; exact (Row.new _ _ _).alloc _)
  have HF := Lib.hid (show Row W0 (w.heap.size + 1) #[.slice sp st.length sc, .int .i64 flo, .int .i64 fhi] 55 by rw [hW0]; exact Row.new1 _ _ _ _)
  have HD := Lib.hid (fun w' (k : Below w.heap.size w w') => refDriesOf_any pp cp pf nf cf ps q c s sp sc st flo fhi w' (hP.below k) hok h0 h4 (hI.below k) hs (hJ.below k) hsl hsr)
  have KI := Lib.hid (From.refl W0)
  have HSS := Lib.hid (fun w' (k : From W0 w') => (⟨(k.row HR.out).cell 0 rfl, (k.row HR.out).cell 1 rfl, (k.row HF.out).cell 0 rfl, (k.row HF.out).cell 1 rfl, (k.row HF.out).cell 2 rfl⟩ : w'.cell? ⟨w.heap.size, 0, none⟩ = some (.slice pp ps.length cp) ∧ w'.cell? ⟨w.heap.size, 1, none⟩ = some (.slice pf nf cf) ∧ w'.cell? ⟨w.heap.size + 1, 0, none⟩ = some (.slice sp st.length sc) ∧ w'.cell? ⟨w.heap.size + 1, 1, none⟩ = some (.int .i64 flo) ∧ w'.cell? ⟨w.heap.size + 1, 2, none⟩ = some (.int .i64 fhi)))
  clear hP hok hI hs hJ hsl hsr hW0
  go_enter Try.func84, Try.ntmps84
  go_wp2_with fail
  rw [← HW0.out]
  go_region_held3 (fun w' => w'.cell? ⟨w.heap.size, 0, none⟩ = some (.slice pp ps.length cp) ∧ w'.cell? ⟨w.heap.size, 1, none⟩ = some (.slice pf nf cf) ∧ w'.cell? ⟨w.heap.size + 1, 0, none⟩ = some (.slice sp st.length sc) ∧ w'.cell? ⟨w.heap.size + 1, 1, none⟩ = some (.int .i64 flo) ∧ w'.cell? ⟨w.heap.size + 1, 2, none⟩ = some (.int .i64 fhi)) (first | with_reducible exact HSS.out _ KI.out | with_reducible exact HSS.out _ KI.out.drew)
    (first
      | (go_at_call 67; (first | with_reducible refine (HD.out _ (HE.out.trans (KI.out.b.mono HE.out.size))).mono ?_ | with_reducible refine (HD.out _ (HE.out.trans (KI.out.drew.b.mono HE.out.size))).mono ?_); rintro e wy ⟨rfl, hbu⟩; have KI := Lib.hid (by first | with_reducible exact KI.out.drew.below hbu | with_reducible exact KI.out.below hbu); clear hbu)
      | (go_at_call 107; (with_reducible refine (Wraps_any _ _ _ _ _).mono ?_); rintro e wy ⟨rfl, hbu⟩; have KI := Lib.hid (KI.out.below hbu); clear hbu))
  all_goals
    go_wp2_with fail
    go_ret
    exact ⟨rfl, HE.out.trans (KI.out.b.mono HE.out.size)⟩

theorem asked_frame (ps : List Pt) (fs : List Fr) (l : List Int) (f : Int) : askedV ps fs (isSetB ps.length l && fits f 0 ((fs.length : Int) - 1)) = frameE ps fs l f := by
  unfold askedV frameE setE
  have h : fits f 0 ((fs.length : Int) - 1) = decide (0 ≤ f ∧ f < (fs.length : Int)) := by
    simp only [fits, Bool.decide_and]
    congr 1
    simp only [decide_eq_decide]; omega
  rw [h]
  cases bookB ps fs <;> cases isSetB ps.length l <;> simp
theorem frame_zero {ps : List Pt} {ms : List FrM} {l : List Int} {f : Int} (h : frameE ps (frsM ms) l f = 0) : bookB ps (frsM ms) = true ∧ isSetB ps.length l = true ∧ 0 ≤ f ∧ f < ms.length := by
  unfold frameE setE at h
  rw [frsM_length] at h
  cases hb : bookB ps (frsM ms) <;> cases hs : isSetB ps.length l <;> simp [hb, hs] at h ⊢
  exact h
theorem anchor2 {w : World} {b : Nat} {cs : Array Value} {t : TypeId} (_ : Row w b cs t) : From w w := From.refl w
end Go.Proofs.Ytfppcmechfjpoaa
