/- The law of layer 3 on a hotter damper. -/
import Derived.Test.YtjaeheodabojfaaVG
namespace Go.Proofs.Ytjaeheodabojfaa
open Go.RowKit Go.Maps
attribute [local go_sem] Oper.semAt_some

theorem hot_ints {w : World} {g : Nat} {cur : Array Value} {t : TypeId} {s : List Int} {p : Nat} {v : Int} (hr : Row w g cur t) (hh : HoldsI (cur[·]?) s) : IntsAt (w.setCell ⟨g, p, none⟩ (.int .i64 v)) (some ⟨g, 0, none⟩) (s.set p v) := by
  have hr2 := hr.set p (.int .i64 v)
  refine ints_rowI hr2 fun i hi => ?_
  have hi' : i < s.length := by simpa using hi
  have h1 := hh i hi'
  have hlt : i < cur.size := (Array.getElem?_eq_some_iff.1 h1).1
  rw [at0_lt hi, List.getElem_set]
  by_cases e : p = i
  · subst e
    simp [hlt]
  · rw [if_neg e]
    rw [at0_lt hi'] at h1
    simpa [Array.getElem?_setIfInBounds, e] using h1

set_option maxRecDepth 10000 in
set_option maxHeartbeats 3200000 in
theorem hotter_bad (pp : Option Addr) (cp : Nat) (pf : Option Addr) (cf : Nat) (ps : List Pt) (ms : List FrM) (pb : Option Addr) (cb : Nat) (bits : List Int) (n0 n1 : Int) (w : World) (hB : BkAt w pp pf ps ms) (_hbi : IntsAt w pb bits) (_hbn : bits.length ≤ maxLen) (hb : bookB ps (frsM ms) = false) : Calls Try.prog 12 #[.agg #[.slice pp ps.length cp, .slice pf ms.length cf], .slice pb bits.length cb, .agg #[.int .i64 n0, .int .i64 n1]] w fun e w' => e = .returned (.bool true) ∧ Below w.heap.size w w' := by
  have hE := below_alloc2 w (.cells #[.slice pp ps.length cp, .slice pf ms.length cf] 25) (.cells #[.int .i64 n0, .int .i64 n1] 47)
  have HB := Lib.hid (hB.below hE)
  have HE := Lib.hid hE
  have HR := Lib.hid ((Row.new w #[.slice pp ps.length cp, .slice pf ms.length cf] 25).alloc (.cells #[.int .i64 n0, .int .i64 n1] 47))
  have HN := Lib.hid (Row.new1 w (.cells #[.slice pp ps.length cp, .slice pf ms.length cf] 25) #[.int .i64 n0, .int .i64 n1] 47)
  clear hE
  have HV := Lib.hid hb
  clear hb _hbi _hbn
  go_enter Try.func12, Try.ntmps12
  go_wp2_with fail
  refine (sound_any pp cp pf cf ps ms _ HB.out).mono ?_
  rintro e w1 ⟨rfl, hb1⟩
  rw [HV.out]
  have HE := Lib.hid (HE.out.trans (hb1.mono HE.out.size))
  have HR := Lib.hid (HR.out.below hb1 HR.out.lt)
  have HN := Lib.hid (HN.out.below hb1 HN.out.lt)
  clear hb1
  go_wp2_with fail
  refine (warmed_any _).mono ?_
  rintro e w2 ⟨rfl, hb2⟩
  have HE := Lib.hid (HE.out.trans (hb2.mono HE.out.size))
  clear hb2
  go_wp2_with fail
  go_ret
  exact ⟨rfl, HE.out⟩

set_option maxRecDepth 10000 in
set_option maxHeartbeats 3200000 in
theorem hotter_none (pp : Option Addr) (cp : Nat) (pf : Option Addr) (cf : Nat) (ps : List Pt) (ms : List FrM) (pb : Option Addr) (cb : Nat) (bits : List Int) (n0 n1 : Int) (w : World) (hB : BkAt w pp pf ps ms) (_hbi : IntsAt w pb bits) (_hbn : bits.length ≤ maxLen) (hb : bookB ps (frsM ms) = true) (h0 : ms.length = 0) : Calls Try.prog 12 #[.agg #[.slice pp ps.length cp, .slice pf ms.length cf], .slice pb bits.length cb, .agg #[.int .i64 n0, .int .i64 n1]] w fun e w' => e = .returned (.bool true) ∧ Below w.heap.size w w' := by
  have hE := below_alloc2 w (.cells #[.slice pp ps.length cp, .slice pf ms.length cf] 25) (.cells #[.int .i64 n0, .int .i64 n1] 47)
  have HB := Lib.hid (hB.below hE)
  have HE := Lib.hid hE
  have HR := Lib.hid ((Row.new w #[.slice pp ps.length cp, .slice pf ms.length cf] 25).alloc (.cells #[.int .i64 n0, .int .i64 n1] 47))
  have HN := Lib.hid (Row.new1 w (.cells #[.slice pp ps.length cp, .slice pf ms.length cf] 25) #[.int .i64 n0, .int .i64 n1] 47)
  clear hE
  have HV := Lib.hid hb
  have H0 := Lib.hid h0
  clear hb _hbi _hbn h0
  go_enter Try.func12, Try.ntmps12
  go_wp2_with fail
  refine (sound_any pp cp pf cf ps ms _ HB.out).mono ?_
  rintro e w1 ⟨rfl, hb1⟩
  rw [HV.out]
  have HE := Lib.hid (HE.out.trans (hb1.mono HE.out.size))
  have HR := Lib.hid (HR.out.below hb1 HR.out.lt)
  have HN := Lib.hid (HN.out.below hb1 HN.out.lt)
  clear hb1
  have c1 := HR.out.cell 1 (v := .slice pf ms.length cf) rfl
  clear HR HN HV HB hB
  rw [H0.out] at c1
  go_wp2_with fail
  refine (warmed_any _).mono ?_
  rintro e w2 ⟨rfl, hb2⟩
  have HE := Lib.hid (HE.out.trans (hb2.mono HE.out.size))
  clear hb2 c1
  go_wp2_with fail
  go_ret
  exact ⟨rfl, HE.out⟩

set_option maxRecDepth 10000 in
set_option maxHeartbeats 3200000 in
theorem hotter_main (pp : Option Addr) (cp : Nat) (pf : Option Addr) (cf : Nat) (ps : List Pt) (ms : List FrM) (pb : Option Addr) (cb : Nat) (bits : List Int) (n0 n1 : Int) (w : World) (hB : BkAt w pp pf ps ms) (hbi : IntsAt w pb bits) (hbn : bits.length ≤ maxLen) (hb : bookB ps (frsM ms) = true) (h0 : 0 < ms.length) : Calls Try.prog 12 #[.agg #[.slice pp ps.length cp, .slice pf ms.length cf], .slice pb bits.length cb, .agg #[.int .i64 n0, .int .i64 n1]] w fun e w' => e = .returned (.bool true) ∧ Below w.heap.size w w' := by
  have hE := below_alloc2 w (.cells #[.slice pp ps.length cp, .slice pf ms.length cf] 25) (.cells #[.int .i64 n0, .int .i64 n1] 47)
  have HB := Lib.hid (hB.below hE)
  have HE := Lib.hid hE
  have HR := Lib.hid ((Row.new w #[.slice pp ps.length cp, .slice pf ms.length cf] 25).alloc (.cells #[.int .i64 n0, .int .i64 n1] 47))
  have HN := Lib.hid (Row.new1 w (.cells #[.slice pp ps.length cp, .slice pf ms.length cf] 25) #[.int .i64 n0, .int .i64 n1] 47)
  clear hE
  have HV := Lib.hid hb
  have HBK := Lib.hid (bk_of hB hb)
  have hn4 := HBK.out.n4
  have hn5 := HBK.out.n5
  have hn1 := HBK.out.ok.p1
  have hpos : (0 : Int) < (ms.length : Int) := by omega
  obtain ⟨f, hf, hfl⟩ : ∃ f : Nat, spin n0 ms.length = f ∧ f < ms.length := ⟨(spin n0 ms.length).toNat, by have := spin_range n0 ms.length (by omega); omega, by have := spin_range n0 ms.length (by omega); omega⟩
  obtain ⟨k, hk, hkl⟩ : ∃ k : Nat, spin n1 ps.length = k ∧ k < ps.length := ⟨(spin n1 ps.length).toNat, by have := spin_range n1 ps.length (by omega); omega, by have := spin_range n1 ps.length (by omega); omega⟩
  have HF := Lib.hid hf
  have HK := Lib.hid hk
  have HBI := Lib.hid hbi
  have HBN := Lib.hid hbn
  obtain ⟨s, hs⟩ : ∃ s, s = settingL bits ps.length := ⟨_, rfl⟩
  have HS := Lib.hid hs
  have hsl : s.length = ps.length := by rw [hs, settingL_length]
  have HSL := Lib.hid hsl
  have HM := Lib.hid (show ∀ x ∈ s, 0 ≤ x ∧ x ≤ 3 by rw [hs]; exact settingL_mem _ _)
  have HB0 := Lib.hid hB
  have hi1' : isSetB ps.length s = true := by rw [hs]; exact settingL_set _ _
  have hi2' : isSetB ps.length (hotL s k) = true := hotL_set hi1'
  have hse1 : setE ps (frsM ms) s = 0 := by simp [setE, hb, hi1']
  have hse2 : setE ps (frsM ms) (hotL s k) = 0 := by simp [setE, hb, hi2']
  have hfe1 : frameE ps (frsM ms) s f = 0 := by rw [frameE, if_pos hse1, if_pos (by rw [frsM_length]; omega)]
  have hfe2 : frameE ps (frsM ms) (hotL s k) f = 0 := by rw [frameE, if_pos hse2, if_pos (by rw [frsM_length]; omega)]
  have hst : ∀ x ∈ (stayF (frsM ms) f).stay, 0 ≤ x := by rw [stayF_at hfl]; exact fun x hx => ((HBK.out.fr hfl).s x hx).1
  have hdm : ∀ d : Pt → Int, dryD d ps s (stayF (frsM ms) f).stay ≤ dryD d ps (hotL s k) (stayF (frsM ms) f).stay := fun d => hot_dry d HBK.out.ok.p hsl HM.out (by omega) hst
  obtain ⟨lo1, hl1⟩ : ∃ x, loV ps (frsM ms) s f = x := ⟨_, rfl⟩
  obtain ⟨lo2, hl2⟩ : ∃ x, loV ps (frsM ms) (hotL s k) f = x := ⟨_, rfl⟩
  obtain ⟨hi1, hh1⟩ : ∃ x, hiV ps (frsM ms) s f = x := ⟨_, rfl⟩
  obtain ⟨hi2, hh2⟩ : ∃ x, hiV ps (frsM ms) (hotL s k) f = x := ⟨_, rfl⟩
  obtain ⟨v1, hv1⟩ : ∃ x, heatV ps (frsM ms) s = x := ⟨_, rfl⟩
  obtain ⟨v2, hv2⟩ : ∃ x, heatV ps (frsM ms) (hotL s k) = x := ⟨_, rfl⟩
  have le1 : lo1 ≤ lo2 := by rw [← hl1, ← hl2, loV, loV, if_pos hfe1, if_pos hfe2]; exact hdm _
  have le2 : hi1 ≤ hi2 := by rw [← hh1, ← hh2, hiV, hiV, if_pos hfe1, if_pos hfe2]; exact hdm _
  have le3 : v1 ≤ v2 := by rw [← hv1, ← hv2, heatV, heatV, if_pos hse1, if_pos hse2]; exact hot_heat HBK.out.ok.p hsl HM.out (by omega)
  have SE1 := Lib.hid hse1
  have SE2 := Lib.hid hse2
  have FE1 := Lib.hid hfe1
  have FE2 := Lib.hid hfe2
  have L1 := Lib.hid hl1
  have L2 := Lib.hid hl2
  have H1 := Lib.hid hh1
  have H2 := Lib.hid hh2
  have V1 := Lib.hid hv1
  have V2 := Lib.hid hv2
  clear hi1' hi2' hse1 hse2 hfe1 hfe2 hst hdm hl1 hl2 hh1 hh2 hv1 hv2
  have h0' : ((ms.length : Int) == 0) = false := beq_eq_false_iff_ne.2 (by omega)
  clear hb hbi hbn hf hk hs
  go_enter Try.func12, Try.ntmps12
  go_wp2_with fail
  refine (sound_any pp cp pf cf ps ms _ HB.out).mono ?_
  rintro e w1 ⟨rfl, hb1⟩
  rw [HV.out]
  have HE := Lib.hid (HE.out.trans (hb1.mono HE.out.size))
  have HR := Lib.hid (HR.out.below hb1 HR.out.lt)
  have HN := Lib.hid (HN.out.below hb1 HN.out.lt)
  clear hb1
  have c1 := HR.out.cell 1 (v := .slice pf ms.length cf) rfl
  clear hsl
  go_wp2_with fail
  clear c1
  have hS : ∀ w', From w1 w' → (w'.cell? ⟨w.heap.size, 0, none⟩ = some (.slice pp ps.length cp) ∧ w'.cell? ⟨w.heap.size, 1, none⟩ = some (.slice pf ms.length cf) ∧ w'.cell? ⟨w.heap.size + 1, 0, none⟩ = some (.int .i64 n0) ∧ w'.cell? ⟨w.heap.size + 1, 1, none⟩ = some (.int .i64 n1)) := fun w' k => ⟨(k.row HR.out).cell 0 rfl, (k.row HR.out).cell 1 rfl, (k.row HN.out).cell 0 rfl, (k.row HN.out).cell 1 rfl⟩
  have HSS := Lib.hid hS
  have KI := Lib.hid (From.refl w1)
  clear hS
  go_region_held3 (fun w' => (w'.cell? ⟨w.heap.size, 0, none⟩ = some (.slice pp ps.length cp) ∧ w'.cell? ⟨w.heap.size, 1, none⟩ = some (.slice pf ms.length cf) ∧ w'.cell? ⟨w.heap.size + 1, 0, none⟩ = some (.int .i64 n0) ∧ w'.cell? ⟨w.heap.size + 1, 1, none⟩ = some (.int .i64 n1))) (first | with_reducible exact HSS.out _ KI.out | with_reducible exact HSS.out _ KI.out.drew)
    (first
      | (go_at_call 41; (with_reducible refine (setting_any _ _ _ (by omega) _ _ _ _ _ bits _ (by first | with_reducible exact (HBI.out.below (HE.out.trans (KI.out.b.mono HE.out.size))) | with_reducible exact (HBI.out.below (HE.out.trans (KI.out.drew.b.mono HE.out.size)))) HBN.out).mono ?_); rw [← HS.out]; rintro e u ⟨q, c, rfl, hi, hbu⟩; have HI := Lib.hid hi; have KI := Lib.hid (by first | with_reducible exact KI.out.drew.below hbu | with_reducible exact KI.out.below hbu); clear hbu hi)
      | (go_at_call 48; (with_reducible refine (Spin_any _ _ _ (by unfold I64; omega)).mono ?_); rintro e u' ⟨rfl, rfl⟩; first | rw [HF.out] | rw [HK.out]))
  all_goals
    have HE := Lib.hid (HE.out.trans (KI.out.b.mono HE.out.size))
    have HR := Lib.hid (KI.out.row HR.out)
    obtain ⟨b, o, rfl, hc0⟩ := HI.out 0 (by rw [HSL.out]; omega)
    have hbu : b < u.heap.size := cell_block hc0
    have hiA := HI.out.below (below_alloc u (.cells #[] 3))
    obtain ⟨v, g, cap, cur, w2, hr, ⟨rfl, hrow, hg, hcap, hb2⟩, hh⟩ := copy_ints (u.alloc (.cells #[] 3)) s b o c hiA (by rw [HSL.out]; omega) (by rw [HSL.out]; omega) 26 u.heap.size
    have HRR := Lib.hid hr
    have HROW := Lib.hid hrow
    have HH := Lib.hid hh
    have hgu : u.heap.size < g := by simp at hg; omega
    have hbb := (below_alloc u (.cells #[] 3)).trans (hb2.mono (by simp))
    have HE2 := Lib.hid (HE.out.trans (hbb.mono HE.out.size))
    have HR2 := Lib.hid (HR.out.below hbb HR.out.lt)
    have HI2 := Lib.hid (HI.out.below hbb)
    have hwl := HR.out.lt
    clear hr hrow hh hg hbb hb2 hiA hc0
    have hsk : k < s.length := by rw [HSL.out]; exact hkl
    have i1 : (0 : Int) ≤ (k : Int) := by omega
    have i2 : (k : Int) < (s.length : Int) := by omega
    have hrg := HM.out _ (at0_mem hsk)
    obtain ⟨b', o', e', xk⟩ := HI2.out k hsk
    cases e'
    have gk := HROW.out.cell k (HH.out k hsk)
    have fk := HROW.out.free k
    have hng : w.heap.size ≠ g := by omega
    have c0 := HR2.out.cell 0 (v := .slice pp ps.length cp) rfl
    have c1 := HR2.out.cell 1 (v := .slice pf ms.length cf) rfl
    rcases (show 2 ≤ at0 s k ∨ at0 s k ≤ 1 by omega) with e3 | e3
    · have HX := Lib.hid (show s.set k 3 = hotL s k by rw [hotL, show min 3 (at0 s k + 1) = 3 by omega])
      go_wp2_with (first | (at_builtin; refine wpList_append_run rfl _ _ _ _ rfl (.slice (some ⟨u.heap.size, 0, none⟩) 0 0) _ _ rfl rfl HRR.out ?_))
      all_goals first
        | (exfalso; omega)
        | skip
      have HI3 := Lib.hid (hot_ints (v := 3) HROW.out HH.out (p := k))
      rw [HX.out] at HI3
      have HJ3 := Lib.hid (ints_set HI2.out (b := g) (fun b o e => by cases e; omega) k (.int .i64 3))
      have HE3 := Lib.hid (HE2.out.setCell (p := ⟨g, k, none⟩) (by dsimp only; omega) (.int .i64 3))
      have HR3 := Lib.hid (HR2.out.set_other ⟨g, k, none⟩ (.int .i64 3) (by dsimp only; omega))
      generalize w2.setCell ⟨g, k, none⟩ (.int .i64 (3)) = W3 at *
      clear xk gk fk c0 c1 HX
      have hd := Dries_any pp cp pf cf ps ms _ (HB0.out.below HE3.out) (some ⟨b, o, none⟩) c s HJ3.out (by rw [HSL.out]; omega) f
      rw [FE1.out] at hd
      refine hd.mono ?_
      clear hd
      rintro e w4 ⟨rfl, hb⟩
      have HR3 := Lib.hid (HR3.out.below hb HR3.out.lt)
      have HI3 := Lib.hid (HI3.out.below hb)
      have HJ3 := Lib.hid (HJ3.out.below hb)
      have HE3 := Lib.hid (HE3.out.trans (hb.mono HE3.out.size))
      clear hb
      rw [L1.out, H1.out]
      have hb := below_alloc w4 (.cells #[.int .i64 lo1, .int .i64 hi1] 32)
      have RA := Lib.hid (Row.new w4 #[.int .i64 lo1, .int .i64 hi1] 32)
      have HR3 := Lib.hid (HR3.out.below hb HR3.out.lt)
      have HI3 := Lib.hid (HI3.out.below hb)
      have HJ3 := Lib.hid (HJ3.out.below hb)
      have HE3 := Lib.hid (HE3.out.trans (hb.mono HE3.out.size))
      clear hb
      have c0 := HR3.out.cell 0 (v := .slice pp ps.length cp) rfl
      have c1 := HR3.out.cell 1 (v := .slice pf ms.length cf) rfl
      go_wp2_with fail
      clear c0 c1
      have hd := Dries_any pp cp pf cf ps ms _ (HB0.out.below HE3.out) (some ⟨g, 0, none⟩) cap (hotL s k) HI3.out (by rw [hotL_length, HSL.out]; omega) f
      rw [hotL_length] at hd
      rw [FE2.out] at hd
      refine hd.mono ?_
      clear hd
      rintro e w5 ⟨rfl, hb⟩
      have HR3 := Lib.hid (HR3.out.below hb HR3.out.lt)
      have RA := Lib.hid (RA.out.below hb RA.out.lt)
      have HI3 := Lib.hid (HI3.out.below hb)
      have HJ3 := Lib.hid (HJ3.out.below hb)
      have HE3 := Lib.hid (HE3.out.trans (hb.mono HE3.out.size))
      clear hb
      rw [L2.out, H2.out]
      have hb := below_alloc w5 (.cells #[.int .i64 lo2, .int .i64 hi2] 32)
      have RB := Lib.hid (Row.new w5 #[.int .i64 lo2, .int .i64 hi2] 32)
      have HR3 := Lib.hid (HR3.out.below hb HR3.out.lt)
      have RA := Lib.hid (RA.out.below hb RA.out.lt)
      have HI3 := Lib.hid (HI3.out.below hb)
      have HJ3 := Lib.hid (HJ3.out.below hb)
      have HE3 := Lib.hid (HE3.out.trans (hb.mono HE3.out.size))
      clear hb
      have c0 := HR3.out.cell 0 (v := .slice pp ps.length cp) rfl
      have c1 := HR3.out.cell 1 (v := .slice pf ms.length cf) rfl
      go_wp2_with fail
      clear c0 c1
      have hd := Heat_any pp cp pf cf ps ms _ (HB0.out.below HE3.out) (some ⟨b, o, none⟩) c s HJ3.out (by rw [HSL.out]; omega)
      rw [SE1.out, V1.out] at hd
      refine hd.mono ?_
      clear hd
      rintro e w6 ⟨rfl, hb⟩
      have HR3 := Lib.hid (HR3.out.below hb HR3.out.lt)
      have RA := Lib.hid (RA.out.below hb RA.out.lt)
      have RB := Lib.hid (RB.out.below hb RB.out.lt)
      have HI3 := Lib.hid (HI3.out.below hb)
      have HJ3 := Lib.hid (HJ3.out.below hb)
      have HE3 := Lib.hid (HE3.out.trans (hb.mono HE3.out.size))
      clear hb
      have c0 := HR3.out.cell 0 (v := .slice pp ps.length cp) rfl
      have c1 := HR3.out.cell 1 (v := .slice pf ms.length cf) rfl
      go_wp2_with fail
      clear c0 c1
      have hd := Heat_any pp cp pf cf ps ms _ (HB0.out.below HE3.out) (some ⟨g, 0, none⟩) cap (hotL s k) HI3.out (by rw [hotL_length, HSL.out]; omega)
      rw [hotL_length] at hd
      rw [SE2.out, V2.out] at hd
      refine hd.mono ?_
      clear hd
      rintro e w7 ⟨rfl, hb⟩
      have HR3 := Lib.hid (HR3.out.below hb HR3.out.lt)
      have RA := Lib.hid (RA.out.below hb RA.out.lt)
      have RB := Lib.hid (RB.out.below hb RB.out.lt)
      have HI3 := Lib.hid (HI3.out.below hb)
      have HJ3 := Lib.hid (HJ3.out.below hb)
      have HE3 := Lib.hid (HE3.out.trans (hb.mono HE3.out.size))
      clear hb
      have a0 := RA.out.cell 0 (v := .int .i64 lo1) rfl
      have a1 := RA.out.cell 1 (v := .int .i64 hi1) rfl
      have b0 := RB.out.cell 0 (v := .int .i64 lo2) rfl
      have b1 := RB.out.cell 1 (v := .int .i64 hi2) rfl
      go_wp2_with fail
      refine (warmed_any _).mono ?_
      rintro e w8 ⟨rfl, hb⟩
      have HE3 := Lib.hid (HE3.out.trans (hb.mono HE3.out.size))
      clear hb a0 a1 b0 b1
      go_wp2_with fail
      go_ret
      exact ⟨rfl, HE3.out⟩
    · have HX := Lib.hid (show s.set k (at0 s k + 1) = hotL s k by rw [hotL, show min 3 (at0 s k + 1) = at0 s k + 1 by omega])
      go_wp2_with (first | (at_builtin; refine wpList_append_run rfl _ _ _ _ rfl (.slice (some ⟨u.heap.size, 0, none⟩) 0 0) _ _ rfl rfl HRR.out ?_))
      all_goals first
        | (exfalso; omega)
        | skip
      have HI3 := Lib.hid (hot_ints (v := at0 s k + 1) HROW.out HH.out (p := k))
      rw [HX.out] at HI3
      have HJ3 := Lib.hid (ints_set HI2.out (b := g) (fun b o e => by cases e; omega) k (.int .i64 (at0 s k + 1)))
      have HE3 := Lib.hid (HE2.out.setCell (p := ⟨g, k, none⟩) (by dsimp only; omega) (.int .i64 (at0 s k + 1)))
      have HR3 := Lib.hid (HR2.out.set_other ⟨g, k, none⟩ (.int .i64 (at0 s k + 1)) (by dsimp only; omega))
      generalize w2.setCell ⟨g, k, none⟩ (.int .i64 (at0 s k + 1)) = W3 at *
      clear xk gk fk c0 c1 HX
      have hd := Dries_any pp cp pf cf ps ms _ (HB0.out.below HE3.out) (some ⟨b, o, none⟩) c s HJ3.out (by rw [HSL.out]; omega) f
      rw [FE1.out] at hd
      refine hd.mono ?_
      clear hd
      rintro e w4 ⟨rfl, hb⟩
      have HR3 := Lib.hid (HR3.out.below hb HR3.out.lt)
      have HI3 := Lib.hid (HI3.out.below hb)
      have HJ3 := Lib.hid (HJ3.out.below hb)
      have HE3 := Lib.hid (HE3.out.trans (hb.mono HE3.out.size))
      clear hb
      rw [L1.out, H1.out]
      have hb := below_alloc w4 (.cells #[.int .i64 lo1, .int .i64 hi1] 32)
      have RA := Lib.hid (Row.new w4 #[.int .i64 lo1, .int .i64 hi1] 32)
      have HR3 := Lib.hid (HR3.out.below hb HR3.out.lt)
      have HI3 := Lib.hid (HI3.out.below hb)
      have HJ3 := Lib.hid (HJ3.out.below hb)
      have HE3 := Lib.hid (HE3.out.trans (hb.mono HE3.out.size))
      clear hb
      have c0 := HR3.out.cell 0 (v := .slice pp ps.length cp) rfl
      have c1 := HR3.out.cell 1 (v := .slice pf ms.length cf) rfl
      go_wp2_with fail
      clear c0 c1
      have hd := Dries_any pp cp pf cf ps ms _ (HB0.out.below HE3.out) (some ⟨g, 0, none⟩) cap (hotL s k) HI3.out (by rw [hotL_length, HSL.out]; omega) f
      rw [hotL_length] at hd
      rw [FE2.out] at hd
      refine hd.mono ?_
      clear hd
      rintro e w5 ⟨rfl, hb⟩
      have HR3 := Lib.hid (HR3.out.below hb HR3.out.lt)
      have RA := Lib.hid (RA.out.below hb RA.out.lt)
      have HI3 := Lib.hid (HI3.out.below hb)
      have HJ3 := Lib.hid (HJ3.out.below hb)
      have HE3 := Lib.hid (HE3.out.trans (hb.mono HE3.out.size))
      clear hb
      rw [L2.out, H2.out]
      have hb := below_alloc w5 (.cells #[.int .i64 lo2, .int .i64 hi2] 32)
      have RB := Lib.hid (Row.new w5 #[.int .i64 lo2, .int .i64 hi2] 32)
      have HR3 := Lib.hid (HR3.out.below hb HR3.out.lt)
      have RA := Lib.hid (RA.out.below hb RA.out.lt)
      have HI3 := Lib.hid (HI3.out.below hb)
      have HJ3 := Lib.hid (HJ3.out.below hb)
      have HE3 := Lib.hid (HE3.out.trans (hb.mono HE3.out.size))
      clear hb
      have c0 := HR3.out.cell 0 (v := .slice pp ps.length cp) rfl
      have c1 := HR3.out.cell 1 (v := .slice pf ms.length cf) rfl
      go_wp2_with fail
      clear c0 c1
      have hd := Heat_any pp cp pf cf ps ms _ (HB0.out.below HE3.out) (some ⟨b, o, none⟩) c s HJ3.out (by rw [HSL.out]; omega)
      rw [SE1.out, V1.out] at hd
      refine hd.mono ?_
      clear hd
      rintro e w6 ⟨rfl, hb⟩
      have HR3 := Lib.hid (HR3.out.below hb HR3.out.lt)
      have RA := Lib.hid (RA.out.below hb RA.out.lt)
      have RB := Lib.hid (RB.out.below hb RB.out.lt)
      have HI3 := Lib.hid (HI3.out.below hb)
      have HJ3 := Lib.hid (HJ3.out.below hb)
      have HE3 := Lib.hid (HE3.out.trans (hb.mono HE3.out.size))
      clear hb
      have c0 := HR3.out.cell 0 (v := .slice pp ps.length cp) rfl
      have c1 := HR3.out.cell 1 (v := .slice pf ms.length cf) rfl
      go_wp2_with fail
      clear c0 c1
      have hd := Heat_any pp cp pf cf ps ms _ (HB0.out.below HE3.out) (some ⟨g, 0, none⟩) cap (hotL s k) HI3.out (by rw [hotL_length, HSL.out]; omega)
      rw [hotL_length] at hd
      rw [SE2.out, V2.out] at hd
      refine hd.mono ?_
      clear hd
      rintro e w7 ⟨rfl, hb⟩
      have HR3 := Lib.hid (HR3.out.below hb HR3.out.lt)
      have RA := Lib.hid (RA.out.below hb RA.out.lt)
      have RB := Lib.hid (RB.out.below hb RB.out.lt)
      have HI3 := Lib.hid (HI3.out.below hb)
      have HJ3 := Lib.hid (HJ3.out.below hb)
      have HE3 := Lib.hid (HE3.out.trans (hb.mono HE3.out.size))
      clear hb
      have a0 := RA.out.cell 0 (v := .int .i64 lo1) rfl
      have a1 := RA.out.cell 1 (v := .int .i64 hi1) rfl
      have b0 := RB.out.cell 0 (v := .int .i64 lo2) rfl
      have b1 := RB.out.cell 1 (v := .int .i64 hi2) rfl
      go_wp2_with fail
      refine (warmed_any _).mono ?_
      rintro e w8 ⟨rfl, hb⟩
      have HE3 := Lib.hid (HE3.out.trans (hb.mono HE3.out.size))
      clear hb a0 a1 b0 b1
      go_wp2_with fail
      go_ret
      exact ⟨rfl, HE3.out⟩
theorem TunnelHotter_any (pp : Option Addr) (cp : Nat) (pf : Option Addr) (cf : Nat) (ps : List Pt) (ms : List FrM) (pb : Option Addr) (cb : Nat) (bits : List Int) (n0 n1 : Int) (w : World) (hB : BkAt w pp pf ps ms) (hbi : IntsAt w pb bits) (hbn : bits.length ≤ maxLen) : Calls Try.prog 12 #[.agg #[.slice pp ps.length cp, .slice pf ms.length cf], .slice pb bits.length cb, .agg #[.int .i64 n0, .int .i64 n1]] w fun e w' => e = .returned (.bool true) ∧ Below w.heap.size w w' := by
  cases hb : bookB ps (frsM ms)
  · exact hotter_bad pp cp pf cf ps ms pb cb bits n0 n1 w hB hbi hbn hb
  · by_cases h0 : ms.length = 0
    · exact hotter_none pp cp pf cf ps ms pb cb bits n0 n1 w hB hbi hbn hb h0
    · exact hotter_main pp cp pf cf ps ms pb cb bits n0 n1 w hB hbi hbn hb (by omega)
end Go.Proofs.Ytjaeheodabojfaa
