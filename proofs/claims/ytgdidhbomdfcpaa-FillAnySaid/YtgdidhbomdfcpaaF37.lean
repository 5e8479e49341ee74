/- The law's own helpers of layer 5: is there a book? a plan that numbers choose. -/
import Derived.Test.YtgdidhbomdfcpaaFEX
namespace Go.Proofs.Ytgdidhbomdfcpaa
open Go.RowKit Go.Maps
attribute [local go_sem] Oper.semAt_some

set_option maxRecDepth 10000 in
set_option maxHeartbeats 1600000 in
theorem sound_no (b : Bf) (p : Option Addr) (c : Nat) (w : World) (hB : BfAt w p c b) (hb : bookB b = false) :
    Calls Try.prog 37 #[.agg (bfA b p c)] w fun e w' => e = .returned (.bool false) ∧ Below w.heap.size w w' := by
  obtain ⟨W0, hW0⟩ : ∃ W, W = w.alloc (.cells (bfA b p c) 24) := ⟨_, rfl⟩
  have HW0 := Lib.hid hW0
  have HE := Lib.hid (show Below w.heap.size w W0 by rw [hW0]; exact below_alloc _ _)
  have HR := Lib.hid (show Row W0 w.heap.size (bfA b p c) 24 by rw [hW0]; exact Row.new w _ _)
  have HC := Lib.hid (by have h := Check_any b p c W0 (hB.below HE.out); rw [bookE_bad hb] at h; exact h)
  have g0 := HR.out.cell 0 (v := .int .i64 b.pr) rfl
  have g1 := HR.out.cell 1 (v := .int .i64 b.le) rfl
  have g2 := HR.out.cell 2 (v := .int .i64 b.mo) rfl
  have g3 := HR.out.cell 3 (v := .int .i64 b.gr) rfl
  have g4 := HR.out.cell 4 (v := .slice p b.hs.length c) rfl
  clear hW0 hB hb
  go_enter Try.func37, Try.ntmps37
  go_wp2_with fail
  rw [← HW0.out]
  refine HC.out.mono ?_
  rintro e u ⟨rfl, hbu⟩
  obtain ⟨z, rfl⟩ := later_of hbu
  clear hbu
  go_wp2_with fail
  go_loopw [3, 4] (fun ok i wr => ok = .bool false ∧ i = .int .i64 0 ∧ wr = z.w) (fun _ _ _ => 0)
  case atStart => exact ⟨rfl, rfl, rfl⟩
  case round =>
    obtain ⟨rfl, rfl, rfl⟩ := hrel
    go_wp2_with fail
    go_ret
    exact ⟨rfl, z.base HE.out⟩
set_option maxRecDepth 10000 in
set_option maxHeartbeats 1600000 in
theorem sound_yes (b : Bf) (p : Option Addr) (c : Nat) (w : World) (hB : BfAt w p c b) (hb : bookB b = true) :
    Calls Try.prog 37 #[.agg (bfA b p c)] w fun e w' => e = .returned (.bool true) ∧ Below w.heap.size w w' := by
  obtain ⟨W0, hW0⟩ : ∃ W, W = w.alloc (.cells (bfA b p c) 24) := ⟨_, rfl⟩
  have HW0 := Lib.hid hW0
  have HE := Lib.hid (show Below w.heap.size w W0 by rw [hW0]; exact below_alloc _ _)
  have HR := Lib.hid (show Row W0 w.heap.size (bfA b p c) 24 by rw [hW0]; exact Row.new w _ _)
  have HC := Lib.hid (by have h := Check_any b p c W0 (hB.below HE.out); rw [bookE_ok hb] at h; exact h)
  have HH := Lib.hid (hB.h.below HE.out)
  have hok := bookB_iff.1 hb
  have HOK := Lib.hid hok
  have g0 := HR.out.cell 0 (v := .int .i64 b.pr) rfl
  have g1 := HR.out.cell 1 (v := .int .i64 b.le) rfl
  have g2 := HR.out.cell 2 (v := .int .i64 b.mo) rfl
  have g3 := HR.out.cell 3 (v := .int .i64 b.gr) rfl
  have g4 := HR.out.cell 4 (v := .slice p b.hs.length c) rfl
  have hn8 := hok.n8
  have h8 : (b.hs.length : Int) ≤ 8 := by omega
  have h1 := hok.p1
  have h2 := hok.p2
  have h3 := hok.l1
  have h4 := hok.l2
  have h5 := hok.m1
  have h6 := hok.m2
  have h7 := hok.g1
  have h9 := hok.g2
  clear hW0 hB hb hok
  go_enter Try.func37, Try.ntmps37
  go_wp2_with fail
  rw [← HW0.out]
  refine HC.out.mono ?_
  rintro e u ⟨rfl, hbu⟩
  obtain ⟨z, rfl⟩ := later_of hbu
  clear hbu
  go_wp2_with (first | (go_at_call 55; (with_reducible refine (Fits_yes _ _ _ _ (by omega) (by omega)).mono ?_); rintro e u ⟨rfl, rfl⟩))
  go_loopw [3, 4] (fun ok i wr => ok = .bool true ∧ ∃ (k : Nat) (x : Later W0), k ≤ b.hs.length ∧ i = .int .i64 k ∧ wr = x.w) (fun _ i _ => b.hs.length - (intOf i).toNat)
  case atStart => exact ⟨rfl, 0, z, by omega, rfl, rfl⟩
  case round =>
    obtain ⟨rfl, k, x, hk, rfl, rfl⟩ := hrel
    by_cases hlt : k < b.hs.length
    · obtain ⟨bb, o, rfl, q0, q1⟩ := HH.out k hlt
      have hH := HOK.out.h _ (List.getElem_mem hlt)
      have l0 := hH.l0
      have l1 := hH.l1
      have l2 := hH.l2
      have l3 := hH.l3
      generalize b.hs[k].lo = lo at *
      generalize b.hs[k].hi = hi at *
      have HRT := Lib.hid (fun w' => (by have h := Right_any lo hi 0 200 w'; rw [show (decide ((0 : Int) ≤ lo) && decide (lo ≤ hi) && decide (hi ≤ 200)) = true by simp; omega] at h; exact h))
      have e9 : IntKind.i64.wrap (hi - lo) = hi - lo := IntWalk.i64_in _ (by omega)
      have i1 : (0 : Int) ≤ (k : Int) := by omega
      have i2 : (k : Int) < (b.hs.length : Int) := by omega
      clear hH g0 g1 g2 g3
      go_upto_region 5 with (fail)
      have n9 : hi - lo ≤ 10 := l3
      refine wp_region_later (by kernel_rfl) (by kernel_rfl) ?_
      repeat (go_big_quiet_step (first
        | (go_at_call 66; with_reducible exact Calls.later_of (HRT.out _))))
      refine wpQuiet_nil ?_
      intro _ hw'
      obtain ⟨y, hw''⟩ := hw'
      subst hw''
      obtain ⟨y2, hy2⟩ := x.up y
      rw [hy2]
      clear e9
      go_wp2_with fail
      go_roundw
      case rel => exact ⟨rfl, k + 1, y2, by omega, by go_num, rfl⟩
      case measure => simp [intOf]; omega
    · obtain rfl : k = b.hs.length := by omega
      go_wp2_with fail
      go_ret
      exact ⟨rfl, x.base HE.out⟩
end Go.Proofs.Ytgdidhbomdfcpaa
