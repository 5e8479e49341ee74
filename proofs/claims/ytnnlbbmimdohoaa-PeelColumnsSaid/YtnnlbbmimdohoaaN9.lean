/- Columns: the law returns true, whatever the log and the numbers. -/
import Derived.Test.YtnnlbbmimdohoaaFB
import Derived.Test.YtnnlbbmimdohoaaL2
namespace Go.Proofs.Ytnnlbbmimdohoaa
open Go.RowKit Go.Maps
attribute [local go_sem] Oper.semAt_some

section
variable (p1 : Option Addr) (c1 : Nat) (p2 : Option Addr) (c2 : Nat) (long : List Int) (sz : Int) (ks : List K4) (w0 : World) (h : LogAt w0 p1 p2 long ks)
include h
theorem both_Ribbon : ∃ v e : Int, (∀ w, Below w0.heap.size w0 w → Calls Try.prog 15 #[.agg #[.slice p1 long.length c1, .int .i64 sz, .slice p2 ks.length c2]] w fun r w' => r = .returned (.tuple #[.int .i64 v, .int .i64 e]) ∧ Below w.heap.size w w') ∧ (∀ w, Below w0.heap.size w0 w → Calls Try.prog 16 #[.agg #[.slice p1 long.length c1, .int .i64 sz, .slice p2 ks.length c2]] w fun r w' => r = .returned (.tuple #[.int .i64 v, .int .i64 e]) ∧ Below w.heap.size w w') := by
  refine ⟨if validB long sz ks then psum long long.length else 0, checkE long sz ks, fun w hb => ?_, fun w hb => refRibbon_any p1 c1 p2 c2 long sz ks w (h.below hb)⟩
  have hl := h.below hb
  refine (ribbon_any p1 c1 p2 c2 long sz ks w hl.l hl.k hl.b1 hl.b2 valid_hok).mono ?_
  rintro r w' ⟨rfl, hb'⟩
  refine ⟨?_, hb'⟩
  cases hv : validB long sz ks <;> simp [checkE, hv, ribTo]
theorem both_Check : ∃ e : Int, (∀ w, Below w0.heap.size w0 w → Calls Try.prog 17 #[.agg #[.slice p1 long.length c1, .int .i64 sz, .slice p2 ks.length c2]] w fun r w' => r = .returned (.int .i64 e) ∧ Below w.heap.size w w') ∧ (∀ w, Below w0.heap.size w0 w → Calls Try.prog 18 #[.agg #[.slice p1 long.length c1, .int .i64 sz, .slice p2 ks.length c2]] w fun r w' => r = .returned (.int .i64 e) ∧ Below w.heap.size w w') := by
  refine ⟨checkE long sz ks, fun w hb => ?_, fun w hb => refCheck_any p1 c1 p2 c2 long sz ks w (h.below hb)⟩
  have hl := h.below hb
  exact check_any p1 c1 p2 c2 long sz ks w hl.l hl.k hl.b1 hl.b2
theorem both_Column (hc1 : long.length ≤ c1) (t a : Int) : ∃ v e : Int, (∀ w, Below w0.heap.size w0 w → Calls Try.prog 19 #[.agg #[.slice p1 long.length c1, .int .i64 sz, .slice p2 ks.length c2], .int .i64 t, .int .i64 a] w fun r w' => r = .returned (.tuple #[.int .i64 v, .int .i64 e]) ∧ Below w.heap.size w w') ∧ (∀ w, Below w0.heap.size w0 w → Calls Try.prog 20 #[.agg #[.slice p1 long.length c1, .int .i64 sz, .slice p2 ks.length c2], .int .i64 t, .int .i64 a] w fun r w' => r = .returned (.tuple #[.int .i64 v, .int .i64 e]) ∧ Below w.heap.size w w') := by
  refine ⟨_, _, fun w hb => ?_, fun w hb => refColumn_any p1 c1 p2 c2 long sz ks w (h.below hb) hc1 t a⟩
  refine (Column_any p1 c1 p2 c2 long sz ks w (h.below hb) t a).mono ?_
  rintro r w' ⟨rfl, hb'⟩
  refine ⟨?_, hb'⟩
  cases hv : validB long sz ks
  · simp
  · have hok := valid_ok hv
    cases hs : showsB a t long.length
    · simp
    · have hs2 := hs
      simp only [showsB, Bool.and_eq_true, decide_eq_true_eq] at hs2
      have hco := colOf_rb hok.L a (t := t.toNat) (by omega)
      simp [hco]
theorem both_Knotty (hc1 : long.length ≤ c1) (c : Int) : ∃ v e : Int, (∀ w, Below w0.heap.size w0 w → Calls Try.prog 21 #[.agg #[.slice p1 long.length c1, .int .i64 sz, .slice p2 ks.length c2], .int .i64 c] w fun r w' => r = .returned (.tuple #[.int .i64 v, .int .i64 e]) ∧ Below w.heap.size w w') ∧ (∀ w, Below w0.heap.size w0 w → Calls Try.prog 22 #[.agg #[.slice p1 long.length c1, .int .i64 sz, .slice p2 ks.length c2], .int .i64 c] w fun r w' => r = .returned (.tuple #[.int .i64 v, .int .i64 e]) ∧ Below w.heap.size w w') := by
  refine ⟨_, _, fun w hb => ?_, fun w hb => refKnotty_any p1 c1 p2 c2 long sz ks w (h.below hb) hc1 c⟩
  cases hv : validB long sz ks
  · rw [if_neg (by simp), if_neg (by simp)]
    exact Knotty_bad p1 c1 p2 c2 long sz ks w (h.below hb) c hv
  · rw [if_pos rfl, if_pos rfl]
    have hw := wideN_eq (valid_ok hv).L
    by_cases hin : 0 ≤ c ∧ c < psum long long.length
    · rw [if_pos hin, if_pos hin]
      obtain ⟨m, rfl⟩ : ∃ m : Nat, c = m := ⟨c.toNat, by omega⟩
      exact Knotty_good p1 c1 p2 c2 long sz ks w (h.below hb) m (by omega) hv
    · rw [if_neg hin, if_neg hin]
      exact Knotty_no p1 c1 p2 c2 long sz ks w (h.below hb) c hv (by omega)
end

set_option maxRecDepth 10000 in
set_option maxHeartbeats 1600000 in
theorem PeelColumns_any (p1 : Option Addr) (c1 : Nat) (p2 : Option Addr) (c2 : Nat) (long : List Int) (sz : Int) (ks : List K4) (w0 : World) (h : LogAt w0 p1 p2 long ks) (hc1 : long.length ≤ c1) (n0 n1 n2 : Int) :
    Calls Try.prog 3 #[.agg #[.slice p1 long.length c1, .int .i64 sz, .slice p2 ks.length c2], .agg #[.int .i64 n0, .int .i64 n1, .int .i64 n2]] w0 fun e w' => e = .returned (.bool true) ∧ Below w0.heap.size w0 w' := by
  obtain ⟨v1, e1, a1, b1⟩ := both_Ribbon p1 c1 p2 c2 long sz ks w0 h
  obtain ⟨e2, a2, b2⟩ := both_Check p1 c1 p2 c2 long sz ks w0 h
  obtain ⟨v3, e3, a3, b3⟩ := both_Column p1 c1 p2 c2 long sz ks w0 h hc1 n0 n1
  obtain ⟨v4, e4, a4, b4⟩ := both_Knotty p1 c1 p2 c2 long sz ks w0 h hc1 n2
  have A1 := Lib.hid a1
  have B1 := Lib.hid b1
  have A2 := Lib.hid a2
  have B2 := Lib.hid b2
  have A3 := Lib.hid a3
  have B3 := Lib.hid b3
  have A4 := Lib.hid a4
  have B4 := Lib.hid b4
  clear a1 b1 a2 b2 a3 b3 a4 b4
  have KI := Lib.hid ((Kept.new w0 #[.slice p1 long.length c1, .int .i64 sz, .slice p2 ks.length c2] 25).alloc (.cells #[.int .i64 n0, .int .i64 n1, .int .i64 n2] 26))
  have RN := Lib.hid (Row.new' (n := w0.heap.size + 1) (w := w0.alloc (.cells #[.slice p1 long.length c1, .int .i64 sz, .slice p2 ks.length c2] 25)) (by simp) #[.int .i64 n0, .int .i64 n1, .int .i64 n2] 26)
  clear h
  go_enter Try.func3, Try.ntmps3
  go_wp2_with (first | (refine load_row rfl 25 _ rfl _ rfl 25 _ _ KI.out.r Try.underlying25 rfl (by kernel_rfl) ?_))
  refine (A1.out _ KI.out.hb).mono ?_
  rintro e w1 ⟨rfl, hb1⟩
  have KI := Lib.hid (KI.out.below hb1)
  have RN := Lib.hid (RN.out.below hb1 RN.out.lt)
  clear hb1
  go_wp2_with (first | (refine load_row rfl 25 _ rfl _ rfl 25 _ _ KI.out.r Try.underlying25 rfl (by kernel_rfl) ?_))
  refine (B1.out _ KI.out.hb).mono ?_
  rintro e w2 ⟨rfl, hb1⟩
  have KI := Lib.hid (KI.out.below hb1)
  have RN := Lib.hid (RN.out.below hb1 RN.out.lt)
  clear hb1
  go_wp2_with fail
  go_region_held3 (fun w' => w'.cell? ⟨w0.heap.size, 0, none⟩ = some (.slice p1 long.length c1) ∧ w'.cell? ⟨w0.heap.size, 1, none⟩ = some (.int .i64 sz) ∧ w'.cell? ⟨w0.heap.size, 2, none⟩ = some (.slice p2 ks.length c2)) (first | with_reducible exact KI.out.s3 | with_reducible exact KI.out.drew.s3)
    (first
      | (go_at_call 17; refine (A2.out _ (by first | with_reducible exact KI.out.drew.hb | with_reducible exact KI.out.hb)).mono ?_; rintro e u ⟨rfl, hbu⟩; have KI := Lib.hid (by first | with_reducible exact KI.out.drew.below hbu | with_reducible exact KI.out.below hbu); have RN := Lib.hid (by first | with_reducible exact RN.out.drew.below hbu RN.out.drew.lt | with_reducible exact RN.out.below hbu RN.out.lt); clear hbu)
      | (go_at_call 18; refine (B2.out _ (by first | with_reducible exact KI.out.drew.hb | with_reducible exact KI.out.hb)).mono ?_; rintro e u ⟨rfl, hbu⟩; have KI := Lib.hid (by first | with_reducible exact KI.out.drew.below hbu | with_reducible exact KI.out.below hbu); have RN := Lib.hid (by first | with_reducible exact RN.out.drew.below hbu RN.out.drew.lt | with_reducible exact RN.out.below hbu RN.out.lt); clear hbu))
  all_goals
    have x0 := RN.out.cell 0 (v := .int .i64 n0) rfl
    have x1 := RN.out.cell 1 (v := .int .i64 n1) rfl
    go_wp2_with (first | (refine load_row rfl 25 _ rfl _ rfl 25 _ _ KI.out.r Try.underlying25 rfl (by kernel_rfl) ?_))
    refine (A3.out _ KI.out.hb).mono ?_
    rintro e w5 ⟨rfl, hb1⟩
    have KI := Lib.hid (KI.out.below hb1)
    have RN := Lib.hid (RN.out.below hb1 RN.out.lt)
    clear hb1 x0 x1
    have x0 := RN.out.cell 0 (v := .int .i64 n0) rfl
    have x1 := RN.out.cell 1 (v := .int .i64 n1) rfl
    go_wp2_with (first | (refine load_row rfl 25 _ rfl _ rfl 25 _ _ KI.out.r Try.underlying25 rfl (by kernel_rfl) ?_))
    refine (B3.out _ KI.out.hb).mono ?_
    rintro e w6 ⟨rfl, hb1⟩
    have KI := Lib.hid (KI.out.below hb1)
    have RN := Lib.hid (RN.out.below hb1 RN.out.lt)
    clear hb1 x0 x1
    have x2 := RN.out.cell 2 (v := .int .i64 n2) rfl
    go_wp2_with (first | (refine load_row rfl 25 _ rfl _ rfl 25 _ _ KI.out.r Try.underlying25 rfl (by kernel_rfl) ?_))
    refine (A4.out _ KI.out.hb).mono ?_
    rintro e w7 ⟨rfl, hb1⟩
    have KI := Lib.hid (KI.out.below hb1)
    have RN := Lib.hid (RN.out.below hb1 RN.out.lt)
    clear hb1 x2
    have x2 := RN.out.cell 2 (v := .int .i64 n2) rfl
    go_wp2_with (first | (refine load_row rfl 25 _ rfl _ rfl 25 _ _ KI.out.r Try.underlying25 rfl (by kernel_rfl) ?_))
    refine (B4.out _ KI.out.hb).mono ?_
    rintro e w8 ⟨rfl, hb1⟩
    have KI := Lib.hid (KI.out.below hb1)
    have RN := Lib.hid (RN.out.below hb1 RN.out.lt)
    clear hb1 x2
    go_wp2_with (first | (refine (peeled_any _).mono ?_; rintro e w9 ⟨rfl, hb9⟩; have KI := Lib.hid (KI.out.below hb9); clear hb9))
    go_ret
    exact ⟨rfl, KI.out.hb⟩
end Go.Proofs.Ytnnlbbmimdohoaa
