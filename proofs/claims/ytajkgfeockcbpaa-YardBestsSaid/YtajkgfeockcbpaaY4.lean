/- The walks of layer 6: small calls, distances. -/
import Derived.Test.YtajkgfeockcbpaaY3
import Derived.Test.YtajkgfeockcbpaaKMC
namespace Go.Proofs.Ytajkgfeockcbpaa
open Go.RowKit Go.Maps
attribute [local go_sem] Oper.semAt_some

set_option maxHeartbeats 400000 in
theorem within_any (n lo hi : Int) (w : World) :
    Calls Try.prog 96 #[.int .i64 n, .int .i64 lo, .int .i64 hi] w fun e w' => e = .returned (.bool (fits n lo hi)) ∧ w = w' := by
  unfold fits
  by_cases h1 : lo ≤ n
  · go_enter Try.func96, Try.ntmps96
    go_wp2
    go_ret
    exact ⟨ret_bool (by simp [h1]), rfl⟩
  · have h1' : decide (lo ≤ n) = false := by simpa using h1
    go_enter Try.func96, Try.ntmps96
    go_wp2
    go_ret
    exact ⟨ret_bool (by simp), rfl⟩
theorem fits_yes {n lo hi : Int} (h1 : lo ≤ n) (h2 : n ≤ hi) : fits n lo hi = true := by simp [fits, h1, h2]
theorem fits_not {n lo hi : Int} (h : n < lo ∨ hi < n) : fits n lo hi = false := by
  unfold fits
  simp
  omega
theorem spB_fits (s : Int × Int) : spB s = (fits s.1 0 99 && fits s.2 0 99) := by
  rw [Bool.eq_iff_iff]
  simp [spB, fits]
  omega
set_option maxHeartbeats 800000 in
theorem isSpot_any (x y : Int) (w : World) : Calls Try.prog 97 #[.agg #[.int .i64 x, .int .i64 y]] w fun e w' => e = .returned (.bool (spB (x, y))) ∧ Below w.heap.size w w' := by
  rw [spB_fits]
  cases h : fits x 0 99
  · go_enter Try.func97, Try.ntmps97
    go_wp2_with (first | (go_at_call 96; (with_reducible refine (within_any _ _ _ _).mono ?_); rintro e w1 ⟨rfl, rfl⟩; rw [h]))
    go_ret
    exact ⟨ret_bool rfl, below_alloc _ _⟩
  · go_enter Try.func97, Try.ntmps97
    go_wp2_with (first | (go_at_call 96; (with_reducible refine (within_any x _ _ _).mono ?_); rintro e w1 ⟨rfl, rfl⟩; rw [h]) | (go_at_call 96; (with_reducible refine (within_any _ _ _ _).mono ?_); rintro e w1 ⟨rfl, rfl⟩))
    all_goals
      go_ret
      exact ⟨ret_bool (by simp), below_alloc _ _⟩
set_option maxHeartbeats 400000 in
theorem differ_any (a c : Int) (ha : -1000000 ≤ a ∧ a ≤ 1000000) (hc : -1000000 ≤ c ∧ c ≤ 1000000) (w : World) : Calls Try.prog 129 #[.int .i64 a, .int .i64 c] w fun e w' => e = .returned (.int .i64 (dif a c)) ∧ w = w' := by
  obtain ⟨e1, e2⟩ : IntKind.i64.wrap (a - c) = a - c ∧ IntKind.i64.wrap (c - a) = c - a := ⟨IntWalk.i64_in _ (by omega), IntWalk.i64_in _ (by omega)⟩
  go_enter Try.func129, Try.ntmps129
  go_wp2
  all_goals
    go_ret
    exact ⟨ret_int (by unfold dif; omega), rfl⟩
set_option maxHeartbeats 800000 in
theorem told_any (s t : Int × Int) (hs : spB s = true) (ht : spB t = true) (w : World) : Calls Try.prog 119 #[.agg #[.int .i64 s.1, .int .i64 s.2, .int .i64 t.1, .int .i64 t.2]] w fun e w' => e = .returned (.int .i64 (told s t)) ∧ Below w.heap.size w w' := by
  have hl := told_le hs ht
  have hn := told_nn s t
  rw [spB_iff] at hs ht
  have HX := Lib.hid (fun w' => differ_any s.1 t.1 (by omega) (by omega) w')
  have HY := Lib.hid (fun w' => differ_any s.2 t.2 (by omega) (by omega) w')
  have e1 : IntKind.i64.wrap (dif s.1 t.1 + dif s.2 t.2) = dif s.1 t.1 + dif s.2 t.2 := IntWalk.i64_in _ (by unfold told at hl hn; omega)
  clear hs ht hl hn
  go_enter Try.func119, Try.ntmps119
  go_wp2
  go_quiet ((go_at_call 129; first | with_reducible exact quiet_eq (HX.out _) | with_reducible exact quiet_eq (HY.out _)))
  clear e1
  go_wp2
  go_ret
  exact ⟨rfl, by exact below_drewN (below_alloc _ _) _⟩
set_option maxHeartbeats 400000 in
theorem around_any (t e : Int) (ht : 0 ≤ t ∧ t ≤ 100000) (he : 0 ≤ e ∧ e ≤ 100000) (w : World) : Calls Try.prog 118 #[.int .i64 t, .int .i64 e] w fun x w' => x = .returned (.agg #[.int .i64 (max 0 (t - e)), .int .i64 (t + e)]) ∧ Below w.heap.size w w' := by
  obtain ⟨e1, e2⟩ : IntKind.i64.wrap (t - e) = t - e ∧ IntKind.i64.wrap (t + e) = t + e := ⟨IntWalk.i64_in _ (by omega), IntWalk.i64_in _ (by omega)⟩
  by_cases hte : e < t
  · have HM := Lib.hid (show max 0 (t - e) = t - e by omega)
    go_enter Try.func118, Try.ntmps118
    go_wp2
    all_goals
      rw [HM.out]
      exact bodyPost_ret (v := .agg #[.int .i64 (t - e), .int .i64 (t + e)]) (by simp [results, Try.results118, go_sem]) rfl ⟨rfl, below_alloc _ _⟩
  · have HM := Lib.hid (show max 0 (t - e) = 0 by omega)
    go_enter Try.func118, Try.ntmps118
    go_wp2
    all_goals
      rw [HM.out]
      exact bodyPost_ret (v := .agg #[.int .i64 0, .int .i64 (t + e)]) (by simp [results, Try.results118, go_sem]) rfl ⟨rfl, below_alloc _ _⟩
theorem low_any (a c : Int) (w : World) : Calls Try.prog 102 #[.agg #[.int .i64 a, .int .i64 c]] w fun e w' => e = .returned (.int .i64 a) ∧ Below w.heap.size w w' := by
  go_enter Try.func102, Try.ntmps102
  go_wp2
  go_ret
  exact ⟨rfl, below_alloc _ _⟩
theorem high_any (a c : Int) (w : World) : Calls Try.prog 103 #[.agg #[.int .i64 a, .int .i64 c]] w fun e w' => e = .returned (.int .i64 c) ∧ Below w.heap.size w w' := by
  go_enter Try.func103, Try.ntmps103
  go_wp2
  go_ret
  exact ⟨rfl, below_alloc _ _⟩
end Go.Proofs.Ytajkgfeockcbpaa
