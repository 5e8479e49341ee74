/- No cutting, that numbers choose, has more pieces that surely are whole than the best one: the law returns true, whatever the log and the numbers. -/
import Derived.Test.YtnnlbbmimdohoaaL4
namespace Go.Proofs.Ytnnlbbmimdohoaa
open Go.RowKit Go.Maps
attribute [local go_sem] Oper.semAt_some

theorem best_ok {long : List Int} {sz : Int} {ks : List K4} (hv : LogOk long sz ks) : cutOk sz (psum long long.length) 0 (bestD long sz ks) = true ∧ countL (wholesD long sz (reachD long ks)) (bestD long sz ks) = (bestD long sz ks).length := by
  have h1 := hv.s1
  have hw := wideN_eq hv.L
  obtain ⟨a, b⟩ := greedy_ok (c := wholesD long sz (reachD long ks)) (sz := sz.toNat) (wide := wideN long) (by omega) (wideN long + 1) 0 (by omega)
  have e : ((sz.toNat : Nat) : Int) = sz := by omega
  rw [e, hw.1] at a
  exact ⟨a, countL_all b⟩
theorem best_most {long : List Int} {sz : Int} {ks : List K4} (hv : LogOk long sz ks) {cut : List Int} (h : cutOk sz (psum long long.length) 0 cut = true) : countL (wholesD long sz (reachD long ks)) cut ≤ (bestD long sz ks).length := by
  have h1 := hv.s1
  have hw := wideN_eq hv.L
  have e : ((sz.toNat : Nat) : Int) = sz := by omega
  exact greedy_most (c := wholesD long sz (reachD long ks)) (sz := sz.toNat) (wide := wideN long) (by omega) (wideN long + 1) 0 cut (by omega) (by rw [e, hw.1]; exact h)
theorem countL_full {c : List Bool} {cut : List Int} (h : countL c cut = cut.length) : ∀ f ∈ cut, b0 c f.toNat = true := by
  unfold countL at h
  have h2 : cut.countP (fun f => b0 c f.toNat) = cut.length := by omega
  exact List.countP_eq_length.1 h2
theorem best_first {long : List Int} {sz : Int} {ks : List K4} (hv : LogOk long sz ks) {cut : List Int} (h : cutOk sz (psum long long.length) 0 cut = true) (hc : countL (wholesD long sz (reachD long ks)) cut = cut.length) (hl : (bestD long sz ks).length ≤ cut.length) : earlier cut (bestD long sz ks) = false := by
  have h1 := hv.s1
  have hw := wideN_eq hv.L
  have e : ((sz.toNat : Nat) : Int) = sz := by omega
  cases he : earlier cut (bestD long sz ks)
  · rfl
  · have := greedy_first (c := wholesD long sz (reachD long ks)) (sz := sz.toNat) (wide := wideN long) (by omega) (wideN long + 1) 0 cut (by omega) (by rw [e, hw.1]; exact h) (countL_full hc) he
    exact absurd this (Nat.not_lt.2 hl)

set_option maxRecDepth 10000 in
set_option maxHeartbeats 1600000 in
theorem PeelMost_any (p1 : Option Addr) (c1 : Nat) (p2 : Option Addr) (c2 : Nat) (long : List Int) (sz : Int) (ks : List K4) (w0 : World) (h : LogAt w0 p1 p2 long ks) (ps : Option Addr) (cs : Nat) (bits : List Int) (hbi : IntsAt w0 ps bits) (hbn : bits.length ≤ maxLen) :
    Calls Try.prog 7 #[.agg #[.slice p1 long.length c1, .int .i64 sz, .slice p2 ks.length c2], .slice ps bits.length cs] w0 fun e w' => e = .returned (.bool true) ∧ Below w0.heap.size w0 w' := by
  go_enter Try.func7, Try.ntmps7
  have hba := below_alloc w0 (.cells #[.slice p1 long.length c1, .int .i64 sz, .slice p2 ks.length c2] 25)
  have r0 := Row.new w0 #[.slice p1 long.length c1, .int .i64 sz, .slice p2 ks.length c2] 25
  have HH := Lib.hid (h.below hba)
  have HS := Lib.hid (hbi.below hba)
  clear h hbi
  cases hb : validB long sz ks
  · go_wp2_with (first | (refine (sound_no p1 c1 p2 c2 long sz ks _ HH.out hb).mono ?_; rintro e w1 ⟨rfl, hb1⟩; have HB := Lib.hid (hba.trans (hb1.mono (by simp <;> omega))); clear hb1) | (refine (peeled_any _).mono ?_; rintro e w2 ⟨rfl, hb2⟩))
    go_ret
    exact ⟨rfl, HB.out.trans (hb2.mono HB.out.size)⟩
  · have hok := valid_ok hb
    have hw := wideN_eq hok.L
    have hs1 := hok.s1
    have hs6 := hok.s6
    have hn6 := hok.L.n6
    have hlong := total_psum hok.L long.length (Nat.le_refl _)
    rw [List.take_length] at hlong
    have HLONG := Lib.hid hlong
    obtain ⟨hbo, hbc⟩ := best_ok hok
    have HBC := Lib.hid hbc
    have hlen := cutD_short hok (reachD long ks)
    generalize hbest : bestD long sz ks = best at *
    have HBEST := Lib.hid hbest
    clear hlong hbc
    go_wp2_with fail
    refine (sound_yes p1 c1 p2 c2 long sz ks _ HH.out hb).mono ?_
    rintro e w1 ⟨rfl, hb1⟩
    have hs1' := hb1.size
    simp at hs1'
    have H1 := Lib.hid (HH.out.below hb1)
    have S1 := Lib.hid (HS.out.below hb1)
    have R1 := Lib.hid (r0.below hb1 (by simp))
    have B1 := Lib.hid (hba.trans (hb1.mono (by simp)))
    clear hb1 hba r0 HH HS
    go_wp2_with (first | (refine load_row rfl 25 _ rfl _ rfl 25 _ _ R1.out Try.underlying25 rfl (by kernel_rfl) ?_))
    refine (Best_good p1 c1 p2 c2 long sz ks _ H1.out hb).mono ?_
    rw [HBEST.out]
    rintro e w2 ⟨pb, cb, rfl, hbi2, hb2⟩
    have hz2 := hb2.size
    have H2 := Lib.hid (H1.out.below hb2)
    have S2 := Lib.hid (S1.out.below hb2)
    have R2 := Lib.hid (R1.out.below hb2 (by omega))
    have B2 := Lib.hid (B1.out.trans (hb2.mono (by omega)))
    have I2 := Lib.hid hbi2
    clear hbi2 hb2
    go_wp2_with (first | (refine load_row rfl 25 _ rfl _ rfl 25 _ _ R2.out Try.underlying25 rfl (by kernel_rfl) ?_))
    refine (Waste_good p1 c1 p2 c2 long sz ks _ H2.out hb).mono ?_
    rw [show ((cutD long sz (reachD long ks)).length : Int) = (best.length : Int) by rw [← HBEST.out]; rfl]
    rintro e w3 ⟨rfl, hb3⟩
    have hz3 := hb3.size
    have H3 := Lib.hid (H2.out.below hb3)
    have S3 := Lib.hid (S2.out.below hb3)
    have R3 := Lib.hid (R2.out.below hb3 (by omega))
    have B3 := Lib.hid (B2.out.trans (hb3.mono (by omega)))
    have I3 := Lib.hid (I2.out.below hb3)
    clear hb3
    go_wp2_with (first | (refine load_row rfl 25 _ rfl _ rfl 25 _ _ R3.out Try.underlying25 rfl (by kernel_rfl) ?_))
    refine (drawn_cut p1 c1 p2 c2 long sz ks _ H3.out hb ps cs bits S3.out hbn).mono ?_
    have hco := drawnL_ok (sz := sz) (wide := psum long long.length) (bits.take 72) 0
    have hcl := drawnL_length (sz := sz) (wide := psum long long.length) (bits.take 72) 0
    rw [List.length_take] at hcl
    generalize drawnL sz (psum long long.length) (bits.take 72) 0 = cut at *
    rintro e w4 ⟨pc, cc, rfl, hci, hb4⟩
    have hz4 := hb4.size
    have H4 := Lib.hid (H3.out.below hb4)
    have S4 := Lib.hid (S3.out.below hb4)
    have R4 := Lib.hid (R3.out.below hb4 (by omega))
    have B4 := Lib.hid (B3.out.trans (hb4.mono (by omega)))
    have I4 := Lib.hid (I3.out.below hb4)
    have C4 := Lib.hid hci
    clear hb4 hci
    go_wp2_with (first | (refine load_row rfl 25 _ rfl _ rfl 25 _ _ R4.out Try.underlying25 rfl (by kernel_rfl) ?_))
    refine (Sure_yes p1 c1 p2 c2 long sz ks _ H4.out pc cut cc C4.out (by unfold maxLen; omega) hb hco).mono ?_
    rintro e w5 ⟨rfl, hb5⟩
    have hz5 := hb5.size
    have H5 := Lib.hid (H4.out.below hb5)
    have S5 := Lib.hid (S4.out.below hb5)
    have R5 := Lib.hid (R4.out.below hb5 (by omega))
    have B5 := Lib.hid (B4.out.trans (hb5.mono (by omega)))
    have I5 := Lib.hid (I4.out.below hb5)
    have C5 := Lib.hid (C4.out.below hb5)
    clear hb5
    go_wp2_with (first | (refine load_row rfl 25 _ rfl _ rfl 25 _ _ R5.out Try.underlying25 rfl (by kernel_rfl) ?_))
    refine (Sure_yes p1 c1 p2 c2 long sz ks _ H5.out pb best cb I5.out (by rw [← HBEST.out]; unfold maxLen bestD; omega) hb hbo).mono ?_
    rw [HBC.out]
    rintro e w6 ⟨rfl, hb6⟩
    have hz6 := hb6.size
    have H6 := Lib.hid (H5.out.below hb6)
    have S6 := Lib.hid (S5.out.below hb6)
    have R6 := Lib.hid (R5.out.below hb6 (by omega))
    have B6 := Lib.hid (B5.out.trans (hb6.mono (by omega)))
    have I6 := Lib.hid (I5.out.below hb6)
    have C6 := Lib.hid (C5.out.below hb6)
    clear hb6
    have hblen : (best.length : Int) ≤ 72 := by rw [← HBEST.out]; exact hlen
    have hm0 : 0 ≤ sz * (best.length : Int) := Int.mul_nonneg (by omega) (by omega)
    have hm1 : sz * (best.length : Int) ≤ 6 * 72 := Int.mul_le_mul hs6 hblen (by omega) (by omega)
    have hmost := best_most hok hco
    rw [HBEST.out] at hmost
    have hfirst := Lib.hid (fun hc hl => best_first hok hco hc hl : countL (wholesD long sz (reachD long ks)) cut = cut.length → (bestD long sz ks).length ≤ cut.length → earlier cut (bestD long sz ks) = false)
    rw [HBEST.out] at hfirst
    have hcle := countL_le (wholesD long sz (reachD long ks)) cut
    generalize countL (wholesD long sz (reachD long ks)) cut = cn at *
    have HT := Lib.hid (fun nq => (by have h := Total_any p1 c1 long (w6.drewN nq) (by unfold maxLen; omega) H6.out.l; rw [HLONG.out] at h; exact h) : ∀ nq, Calls Try.prog 47 #[.slice p1 long.length c1] (w6.drewN nq) fun e w' => e = .returned (.int .i64 (psum long long.length)) ∧ w6.drewN nq = w')
    have k0 := R6.out.cell 0 (v := .slice p1 long.length c1) rfl
    have k1 := R6.out.cell 1 (v := .int .i64 sz) rfl
    clear hbest HBC
    go_wp2_with fail
    go_quiet ((go_at_call 47; exact quiet_eq (HT.out _)))
    rw [show IntKind.i64.wrap (sz * (best.length : Int)) = sz * (best.length : Int) by rw [IntKind.wrap_i64]; omega, show IntKind.i64.wrap (psum long long.length - sz * (best.length : Int)) = psum long long.length - sz * (best.length : Int) by rw [IntKind.wrap_i64]; omega, show decide ((best.length : Int) < cn) = false by simp; omega, bne_self_eq_false, Bool.or_self]
    have B7 := Lib.hid (below_drewN B6.out nq)
    have I7 := Lib.hid (show IntsAt (w6.drewN nq) pb best from I6.out)
    have C7 := Lib.hid (show IntsAt (w6.drewN nq) pc cut from C6.out)
    clear HT k0 k1
    generalize w6.drewN nq = w7 at *
    by_cases hq1 : cn < cut.length
    · go_wp2_with (first | (refine (peeled_any _).mono ?_; rintro e w8 ⟨rfl, hb8⟩))
      all_goals first | (go_ret; exact ⟨rfl, B7.out.trans (hb8.mono B7.out.size)⟩) | (exfalso; omega)
    · by_cases hq2 : cn < best.length
      · go_wp2_with (first | (refine (peeled_any _).mono ?_; rintro e w8 ⟨rfl, hb8⟩))
        all_goals first | (go_ret; exact ⟨rfl, B7.out.trans (hb8.mono B7.out.size)⟩) | (exfalso; omega)
      · have hE := hfirst.out (by omega) (by omega)
        have HE := Lib.hid hE
        clear hE hfirst
        go_wp2_with (first | (refine (Earlier_any pc pb cc cb cut best _ (by unfold maxLen; omega) C7.out I7.out).mono ?_; rw [HE.out]; rintro e w8 ⟨rfl, hb8⟩; have B8 := Lib.hid (B7.out.trans (hb8.mono B7.out.size)); clear hb8) | (refine (peeled_any _).mono ?_; rintro e w9 ⟨rfl, hb9⟩))
        all_goals first | (go_ret; exact ⟨rfl, B8.out.trans (hb9.mono B8.out.size)⟩) | (exfalso; omega)

end Go.Proofs.Ytnnlbbmimdohoaa
