/- The walks of layer 5: which outcome is better; all handfuls are left. -/
import Derived.Test.YtgdidhbomdfcpaaF9
namespace Go.Proofs.Ytgdidhbomdfcpaa
open Go.RowKit Go.Maps
attribute [local go_sem] Oper.semAt_some

/-- An outcome, as it lies in memory: its plan, what is right, what is by hand. -/
abbrev outA (q : Option Addr) (n c : Nat) (pr : Option Addr) (nr cr : Nat) (ph : Option Addr) (nh ch : Nat) : Array Value := #[.slice q n c, .slice pr nr cr, .slice ph nh ch]
set_option maxRecDepth 10000 in
set_option maxHeartbeats 1600000 in
theorem quicker_any (q : Option Addr) (n c : Nat) (pr : Option Addr) (nr cr : Nat) (ph : Option Addr) (nh ch : Nat) (q' : Option Addr) (n' c' : Nat) (pr' : Option Addr) (nr' cr' : Nat) (ph' : Option Addr) (nh' ch' : Nat) (w : World) :
    Calls Try.prog 81 #[.agg (outA q n c pr nr cr ph nh ch), .agg (outA q' n' c' pr' nr' cr' ph' nh' ch')] w fun e w' => e = .returned (.bool (if nh = nh' then decide (n' < n) else decide (nh < nh'))) ∧ Below w.heap.size w w' := by
  by_cases h : nh = nh'
  · subst h
    rw [if_pos rfl]
    go_enter Try.func81, Try.ntmps81
    go_wp2_with fail
    go_ret
    exact ⟨by simp, below_alloc2 _ _ _⟩
  · rw [if_neg h]
    have h2 : ((nh : Int) == (nh' : Int)) = false := beq_eq_false_iff_ne.2 (by omega)
    have h3 : ((nh : Int) != (nh' : Int)) = true := by simp; omega
    go_enter Try.func81, Try.ntmps81
    go_wp2_with fail
    go_ret
    exact ⟨by simp, below_alloc2 _ _ _⟩
set_option maxRecDepth 10000 in
set_option maxHeartbeats 1600000 in
theorem surer_any (q : Option Addr) (n c : Nat) (pr : Option Addr) (nr cr : Nat) (ph : Option Addr) (nh ch : Nat) (q' : Option Addr) (n' c' : Nat) (pr' : Option Addr) (nr' cr' : Nat) (ph' : Option Addr) (nh' ch' : Nat) (w : World) :
    Calls Try.prog 83 #[.agg (outA q n c pr nr cr ph nh ch), .agg (outA q' n' c' pr' nr' cr' ph' nh' ch')] w fun e w' => e = .returned (.bool (decide (nr' < nr))) ∧ Below w.heap.size w w' := by
  go_enter Try.func83, Try.ntmps83
  go_wp2_with fail
  go_ret
  exact ⟨by simp, below_alloc2 _ _ _⟩
/-- Which handfuls are left. -/
def leftF (f : Nat → Bool) : Array Value := #[.bool (f 0), .bool (f 1), .bool (f 2), .bool (f 3), .bool (f 4), .bool (f 5), .bool (f 6), .bool (f 7)]
theorem leftF_set (f : Nat → Bool) {k : Nat} (hk : k < 8) (v : Bool) : (leftF f).setIfInBounds k (.bool v) = leftF (fun i => if i = k then v else f i) := by
  obtain rfl | rfl | rfl | rfl | rfl | rfl | rfl | rfl : k = 0 ∨ k = 1 ∨ k = 2 ∨ k = 3 ∨ k = 4 ∨ k = 5 ∨ k = 6 ∨ k = 7 := by omega
  all_goals simp [leftF]
theorem leftF_at (f : Nat → Bool) {k : Nat} (hk : k < 8) : (leftF f)[k]? = some (.bool (f k)) := by
  obtain rfl | rfl | rfl | rfl | rfl | rfl | rfl | rfl : k = 0 ∨ k = 1 ∨ k = 2 ∨ k = 3 ∨ k = 4 ∨ k = 5 ∨ k = 6 ∨ k = 7 := by omega
  all_goals simp [leftF]
theorem leftF_congr {f g : Nat → Bool} (h : ∀ i, i < 8 → f i = g i) : leftF f = leftF g := by
  simp [leftF, h 0, h 1, h 2, h 3, h 4, h 5, h 6, h 7]
theorem leftF_succ {k : Nat} (hk : k < 8) : (leftF (fun i => decide (i < k))).setIfInBounds k (.bool true) = leftF (fun i => decide (i < k + 1)) := by
  rw [leftF_set _ hk]
  refine leftF_congr fun i _ => ?_
  by_cases h : i = k
  · simp [h]
  · simp only [if_neg h]
    exact decide_eq_decide.2 (by omega)
set_option maxRecDepth 10000 in
set_option maxHeartbeats 1600000 in
theorem all_any (b : Bf) (p : Option Addr) (c mb : Nat) (hn : b.hs.length ≤ 8) (w : World) :
    Calls Try.prog 112 #[.agg (bkA b p c mb)] w fun e w' => e = .returned (.agg (leftF (fun i => decide (i < b.hs.length)))) ∧ Below w.heap.size w w' := by
  have HE := Lib.hid ((below_alloc2 w (.cells (bkA b p c mb) 79) (.cells #[.bool false, .bool false, .bool false, .bool false, .bool false, .bool false, .bool false, .bool false] 130)).alloc (by simp; omega) (.cells #[.bool false, .bool false, .bool false, .bool false, .bool false, .bool false, .bool false, .bool false] 130))
  have HD := Lib.hid ((Row.new1 w (.cells (bkA b p c mb) 79) #[.bool false, .bool false, .bool false, .bool false, .bool false, .bool false, .bool false, .bool false] 130).alloc (.cells #[.bool false, .bool false, .bool false, .bool false, .bool false, .bool false, .bool false, .bool false] 130))
  have HA := Lib.hid (Row.new2 w (.cells (bkA b p c mb) 79) (.cells #[.bool false, .bool false, .bool false, .bool false, .bool false, .bool false, .bool false, .bool false] 130) #[.bool false, .bool false, .bool false, .bool false, .bool false, .bool false, .bool false, .bool false] 130)
  go_enter Try.func112, Try.ntmps112
  go_wp2_with fail
  go_loopw [9] (fun i wr => ∃ k : Nat, k ≤ b.hs.length ∧ i = .int .i64 k ∧ Row wr (w.heap.size + 1 + 1) (leftF (fun i => decide (i < k))) 130 ∧ Row wr (w.heap.size + 1) #[.bool false, .bool false, .bool false, .bool false, .bool false, .bool false, .bool false, .bool false] 130 ∧ Below w.heap.size w wr) (fun i _ => b.hs.length - (intOf i).toNat)
  case atStart => exact ⟨0, by omega, rfl, HA.out, HD.out, HE.out⟩
  case round =>
    obtain ⟨k, hk, rfl, ha, hd, he⟩ := hrel
    by_cases hlt : k < b.hs.length
    · have a0 := ha.cell k (leftF_at _ (by omega))
      have a1 := ha.free k
      have i1 : (0 : Int) ≤ (k : Int) := by omega
      have i2 : (k : Int) < 8 := by omega
      have HA2 := Lib.hid (by have h := ha.set k (.bool true); rw [leftF_succ (by omega)] at h; exact h : Row (wr.setCell ⟨w.heap.size + 1 + 1, k, none⟩ (.bool true)) (w.heap.size + 1 + 1) (leftF (fun i => decide (i < k + 1))) 130)
      have HD2 := Lib.hid (hd.set_other ⟨w.heap.size + 1 + 1, k, none⟩ (.bool true) (by dsimp only; omega))
      have HE2 := Lib.hid (show Below w.heap.size w (wr.setCell ⟨w.heap.size + 1 + 1, k, none⟩ (.bool true)) from he.setCell (by dsimp only; omega) _)
      clear ha hd he
      go_wp2_with fail
      go_roundw
      case rel => exact ⟨k + 1, by omega, by go_num, HA2.out, HD2.out, HE2.out⟩
      case measure => simp [intOf]; omega
    · obtain rfl : k = b.hs.length := by omega
      have HA2 := Lib.hid ha
      have HD2 := Lib.hid hd
      have HE2 := Lib.hid he
      clear ha hd he
      have c0 := HA2.out.cell 0 (v := .bool (decide (0 < b.hs.length))) rfl
      have c1 := HA2.out.cell 1 (v := .bool (decide (1 < b.hs.length))) rfl
      have c2 := HA2.out.cell 2 (v := .bool (decide (2 < b.hs.length))) rfl
      have c3 := HA2.out.cell 3 (v := .bool (decide (3 < b.hs.length))) rfl
      have c4 := HA2.out.cell 4 (v := .bool (decide (4 < b.hs.length))) rfl
      have c5 := HA2.out.cell 5 (v := .bool (decide (5 < b.hs.length))) rfl
      have c6 := HA2.out.cell 6 (v := .bool (decide (6 < b.hs.length))) rfl
      have c7 := HA2.out.cell 7 (v := .bool (decide (7 < b.hs.length))) rfl
      have d0 := HD2.out.cell 0 (v := .bool false) rfl
      have f0 := HD2.out.free 0
      have d1 := HD2.out.cell 1 (v := .bool false) rfl
      have f1 := HD2.out.free 1
      have d2 := HD2.out.cell 2 (v := .bool false) rfl
      have f2 := HD2.out.free 2
      have d3 := HD2.out.cell 3 (v := .bool false) rfl
      have f3 := HD2.out.free 3
      have d4 := HD2.out.cell 4 (v := .bool false) rfl
      have f4 := HD2.out.free 4
      have d5 := HD2.out.cell 5 (v := .bool false) rfl
      have f5 := HD2.out.free 5
      have d6 := HD2.out.cell 6 (v := .bool false) rfl
      have f6 := HD2.out.free 6
      have d7 := HD2.out.cell 7 (v := .bool false) rfl
      have f7 := HD2.out.free 7
      go_wp2_with fail
      have q0 := ((((((((HD2.out.set 0 (.bool (decide (0 < b.hs.length)))).set 1 (.bool (decide (1 < b.hs.length)))).set 2 (.bool (decide (2 < b.hs.length)))).set 3 (.bool (decide (3 < b.hs.length)))).set 4 (.bool (decide (4 < b.hs.length)))).set 5 (.bool (decide (5 < b.hs.length)))).set 6 (.bool (decide (6 < b.hs.length)))).set 7 (.bool (decide (7 < b.hs.length))))
      simp at q0
      exact bodyPost_ret (v := .agg (leftF (fun i => decide (i < b.hs.length)))) (results_cell_row Try.results112 _ _ _ _ (leftF (fun i => decide (i < b.hs.length))) _ _ rfl q0 Try.underlying130 rfl (by kernel_rfl)) rfl ⟨rfl, ((((((((HE2.out.setCell (by dsimp only; omega) _).setCell (by dsimp only; omega) _).setCell (by dsimp only; omega) _).setCell (by dsimp only; omega) _).setCell (by dsimp only; omega) _).setCell (by dsimp only; omega) _).setCell (by dsimp only; omega) _).setCell (by dsimp only; omega) _)⟩
end Go.Proofs.Ytgdidhbomdfcpaa
