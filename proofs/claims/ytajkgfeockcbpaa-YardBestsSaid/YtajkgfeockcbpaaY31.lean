/- The law's own helpers of layer 6: is there a yard? the told distance. -/
import Derived.Test.YtajkgfeockcbpaaY30
namespace Go.Proofs.Ytajkgfeockcbpaa
open Go.RowKit Go.Maps
attribute [local go_sem] Oper.semAt_some

set_option maxRecDepth 10000 in
set_option maxHeartbeats 1600000 in
theorem told_law (s0 s1 t0 t1 : Int) (hs : spB (s0, s1) = true) (ht : spB (t0, t1) = true) (w : World) :
    Calls Try.prog 45 #[.agg #[.int .i64 s0, .int .i64 s1], .agg #[.int .i64 t0, .int .i64 t1]] w fun e w' => e = .returned (.int .i64 (told (s0, s1) (t0, t1))) ∧ Below w.heap.size w w' := by
  rw [spB_iff] at hs ht
  dsimp only at hs ht
  obtain ⟨W0, hW0⟩ : ∃ W, W = (w.alloc (.cells #[.int .i64 s0, .int .i64 s1] 62)).alloc (.cells #[.int .i64 t0, .int .i64 t1] 62) := ⟨_, rfl⟩
  have HW0 := Lib.hid hW0
  have HE := Lib.hid (show Below w.heap.size w W0 by rw [hW0]; exact below_alloc2 _ _ _)
  have HS := Lib.hid (show Row W0 w.heap.size #[.int .i64 s0, .int .i64 s1] 62 by rw [hW0]; exact (Row.new _ _ _).alloc _)
  have HT := Lib.hid (show Row W0 (w.heap.size + 1) #[.int .i64 t0, .int .i64 t1] 62 by rw [hW0]; exact Row.new1 _ _ _ _)
  clear hW0
  have a0 := HS.out.cell 0 (v := .int .i64 s0) rfl
  have a1 := HS.out.cell 1 (v := .int .i64 s1) rfl
  have b0 := HT.out.cell 0 (v := .int .i64 t0) rfl
  have b1 := HT.out.cell 1 (v := .int .i64 t1) rfl
  obtain ⟨dx, hdx⟩ : ∃ d, s0 - t0 = d := ⟨_, rfl⟩
  obtain ⟨dy, hdy⟩ : ∃ d, s1 - t1 = d := ⟨_, rfl⟩
  have e1 : IntKind.i64.wrap (s0 - t0) = dx := by rw [hdx]; exact IntWalk.i64_in _ (by omega)
  have e2 : IntKind.i64.wrap (s1 - t1) = dy := by rw [hdy]; exact IntWalk.i64_in _ (by omega)
  have HV := Lib.hid (show told (s0, s1) (t0, t1) = (if dx < 0 then -dx else dx) + (if dy < 0 then -dy else dy) by
    unfold told dif
    dsimp only
    split <;> split <;> omega)
  have hbx : -99 ≤ dx ∧ dx ≤ 99 := by omega
  have hby : -99 ≤ dy ∧ dy ≤ 99 := by omega
  clear hs ht hdx hdy
  obtain ⟨z0, hz0⟩ : ∃ z : Later W0, W0 = z.w := ⟨⟨W0, Below.refl _ _⟩, rfl⟩
  have HZ0 := Lib.hid hz0
  clear hz0
  by_cases hx : dx < 0
  · by_cases hy : dy < 0
    · have HF := Lib.hid (show told (s0, s1) (t0, t1) = (-dx) + (-dy) by rw [HV.out]; simp only [hx, hy, if_true])
      rw [HF.out]
      go_enter Try.func45, Try.ntmps45
      go_upto_region 1 with (fail)
      rw [← HW0.out, HZ0.out]
      refine wp_region_later (by kernel_rfl) (by kernel_rfl) ?_
      repeat (go_big_quiet_step (fail))
      refine wpQuiet_nil ?_
      intro _ hw'
      obtain ⟨y, hw''⟩ := hw'
      subst hw''
      go_wp2_with fail
      go_ret
      exact ⟨rfl, (z0.base HE.out).trans (y.b.mono (z0.base HE.out).size)⟩
    · have HF := Lib.hid (show told (s0, s1) (t0, t1) = (-dx) + (dy) by rw [HV.out]; simp only [hx, hy, if_true, if_false])
      rw [HF.out]
      go_enter Try.func45, Try.ntmps45
      go_upto_region 1 with (fail)
      rw [← HW0.out, HZ0.out]
      refine wp_region_later (by kernel_rfl) (by kernel_rfl) ?_
      repeat (go_big_quiet_step (fail))
      refine wpQuiet_nil ?_
      intro _ hw'
      obtain ⟨y, hw''⟩ := hw'
      subst hw''
      go_wp2_with fail
      go_ret
      exact ⟨rfl, (z0.base HE.out).trans (y.b.mono (z0.base HE.out).size)⟩
  · by_cases hy : dy < 0
    · have HF := Lib.hid (show told (s0, s1) (t0, t1) = (dx) + (-dy) by rw [HV.out]; simp only [hx, hy, if_true, if_false])
      rw [HF.out]
      go_enter Try.func45, Try.ntmps45
      go_upto_region 1 with (fail)
      rw [← HW0.out, HZ0.out]
      refine wp_region_later (by kernel_rfl) (by kernel_rfl) ?_
      repeat (go_big_quiet_step (fail))
      refine wpQuiet_nil ?_
      intro _ hw'
      obtain ⟨y, hw''⟩ := hw'
      subst hw''
      go_wp2_with fail
      go_ret
      exact ⟨rfl, (z0.base HE.out).trans (y.b.mono (z0.base HE.out).size)⟩
    · have HF := Lib.hid (show told (s0, s1) (t0, t1) = (dx) + (dy) by rw [HV.out]; simp only [hx, hy, if_false])
      rw [HF.out]
      go_enter Try.func45, Try.ntmps45
      go_upto_region 1 with (fail)
      rw [← HW0.out, HZ0.out]
      refine wp_region_later (by kernel_rfl) (by kernel_rfl) ?_
      repeat (go_big_quiet_step (fail))
      refine wpQuiet_nil ?_
      intro _ hw'
      obtain ⟨y, hw''⟩ := hw'
      subst hw''
      go_wp2_with fail
      go_ret
      exact ⟨rfl, (z0.base HE.out).trans (y.b.mono (z0.base HE.out).size)⟩
set_option maxRecDepth 10000 in
set_option maxHeartbeats 1600000 in
theorem spots_yes (p : Option Addr) (c : Nat) (l : List (Int × Int)) (w : World) (hS : SpotsAt w p l) (h3 : l.length ≤ 3) (hall : ∀ s ∈ l, spB s = true) :
    Calls Try.prog 52 #[.slice p l.length c] w fun e w' => e = .returned (.bool true) ∧ w = w' := by
  have HS := Lib.hid hS
  have HA := Lib.hid hall
  have i3 : (l.length : Int) ≤ 3 := by omega
  clear hS hall
  go_enter Try.func52, Try.ntmps52
  go_wp2_with fail
  go_loop [3, 4] (fun ok i => ok = .bool true ∧ ∃ k : Nat, k ≤ l.length ∧ i = .int .i64 k) (fun _ i => l.length - (intOf i).toNat)
  case atStart => exact ⟨rfl, 0, by omega, rfl⟩
  case round =>
    obtain ⟨rfl, k, hk, rfl⟩ := hrel
    by_cases hlt : k < l.length
    · obtain ⟨bq, oq, hp, q0, q1⟩ := HS.out k hlt
      have hb := spB_iff.1 (HA.out _ (List.getElem_mem hlt))
      subst hp
      generalize l[k].1 = x0 at *
      generalize l[k].2 = x1 at *
      have i1 : (0 : Int) ≤ (k : Int) := by omega
      have i2 : (k : Int) < (l.length : Int) := by omega
      go_wp2_with (first | (go_at_call 43; (with_reducible refine (Fits_yes _ _ _ _ (by omega) (by omega)).mono ?_); rintro e u ⟨rfl, rfl⟩))
      go_round
      case rel => exact ⟨rfl, k + 1, by omega, by go_num⟩
      case measure => simp [intOf]; omega
    · obtain rfl : k = l.length := by omega
      go_wp2_with fail
      go_ret
      exact ⟨rfl, rfl⟩
end Go.Proofs.Ytajkgfeockcbpaa
