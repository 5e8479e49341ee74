/- The walks of layer 3: which books are valid. -/
import Derived.Test.YticfcdbfplfmlaaTBX
import Derived.Laws.EntriesVeiled
namespace Go.Proofs.Yticfcdbfplfmlaa.Tu
open Go.RowKit Go.Maps
attribute [local go_sem] Oper.semAt_some

def befP (p : Pt) (k : Nat) : Int := if k = 0 then 0 else p.h (k - 1 : Int)
theorem befP_succ (p : Pt) (k : Nat) : befP p (k + 1) = p.h k := by
  unfold befP
  rw [if_neg (by omega), show ((k + 1 : Nat) : Int) - 1 = (k : Int) by omega]
theorem heatAt (p : Pt) {k : Nat} (hk : k < 4) (w : World) : (Instr.index 57 (.agg #[.int .i64 p.h0, .int .i64 p.h1, .int .i64 p.h2, .int .i64 p.h3]) (.int .i64 k)).run Try.prog w = .ok (.int .i64 (p.h k)) w := by
  obtain rfl | rfl | rfl | rfl : k = 0 ∨ k = 1 ∨ k = 2 ∨ k = 3 := by omega
  all_goals simp [Instr.index, go_sem, Pt.h]
theorem pt_all {p : Pt} (h : ∀ j, j < 4 → befP p j ≤ p.h j ∧ p.h j ≤ 20) : 0 ≤ p.h0 ∧ p.h0 ≤ p.h1 ∧ p.h1 ≤ p.h2 ∧ p.h2 ≤ p.h3 ∧ p.h3 ≤ 20 := by
  have h0 := h 0 (by omega)
  have h1 := h 1 (by omega)
  have h2 := h 2 (by omega)
  have h3 := h 3 (by omega)
  simp [befP, Pt.h] at h0 h1 h2 h3
  omega
theorem pt_each {p : Pt} (h : 0 ≤ p.h0 ∧ p.h0 ≤ p.h1 ∧ p.h1 ≤ p.h2 ∧ p.h2 ≤ p.h3 ∧ p.h3 ≤ 20) {j : Nat} (hj : j < 4) : befP p j ≤ p.h j ∧ p.h j ≤ 20 := by
  obtain rfl | rfl | rfl | rfl : j = 0 ∨ j = 1 ∨ j = 2 ∨ j = 3 := by omega
  all_goals
    simp [befP, Pt.h]
    omega
theorem numAt0 (a b c : Int) (w : World) : (Instr.index 237 (.agg #[.int .i64 a, .int .i64 0, .int .i64 20, .int .i64 b, .int .i64 0, .int .i64 20, .int .i64 c, .int .i64 0, .int .i64 3]) (.int .i64 0)).run Try.prog w = .ok (.agg #[.int .i64 a, .int .i64 0, .int .i64 20]) w := by
  simp [Instr.index, go_sem]
theorem numAt1 (a b c : Int) (w : World) : (Instr.index 237 (.agg #[.int .i64 a, .int .i64 0, .int .i64 20, .int .i64 b, .int .i64 0, .int .i64 20, .int .i64 c, .int .i64 0, .int .i64 3]) (.int .i64 1)).run Try.prog w = .ok (.agg #[.int .i64 b, .int .i64 0, .int .i64 20]) w := by
  simp [Instr.index, go_sem]
theorem numAt2 (a b c : Int) (w : World) : (Instr.index 237 (.agg #[.int .i64 a, .int .i64 0, .int .i64 20, .int .i64 b, .int .i64 0, .int .i64 20, .int .i64 c, .int .i64 0, .int .i64 3]) (.int .i64 2)).run Try.prog w = .ok (.agg #[.int .i64 c, .int .i64 0, .int .i64 3]) w := by
  simp [Instr.index, go_sem]
theorem ptB_false {p : Pt} (h : ¬ (0 ≤ p.h0 ∧ p.h0 ≤ p.h1 ∧ p.h1 ≤ p.h2 ∧ p.h2 ≤ p.h3 ∧ p.h3 ≤ 20 ∧ 0 ≤ p.lo ∧ p.lo ≤ p.hi ∧ p.hi ≤ 20 ∧ p.hi - p.lo ≤ 3)) : false = ptB p := by
  rw [ptB]; exact (decide_eq_false h).symm
theorem ptB_true {p : Pt} (h : 0 ≤ p.h0 ∧ p.h0 ≤ p.h1 ∧ p.h1 ≤ p.h2 ∧ p.h2 ≤ p.h3 ∧ p.h3 ≤ 20 ∧ 0 ≤ p.lo ∧ p.lo ≤ p.hi ∧ p.hi ≤ 20 ∧ p.hi - p.lo ≤ 3) : true = ptB p := by
  rw [ptB]; exact (decide_eq_true h).symm
abbrev numsT : TypeId := 237
abbrev numT : TypeId := 236
abbrev numsA (p : Pt) (d : Int) : Array Value := #[.int .i64 p.lo, .int .i64 0, .int .i64 20, .int .i64 p.hi, .int .i64 0, .int .i64 20, .int .i64 d, .int .i64 0, .int .i64 3]

set_option maxRecDepth 10000 in
set_option maxHeartbeats 1600000 in
theorem ptValid_any (p : Pt) (w : World) :
    Calls Try.prog 131 #[.agg p.A] w fun e w' => e = .returned (.bool (ptB p)) ∧ Below w.heap.size w w' := by
  unfold Pt.A
  go_enter Try.func131, Try.ntmps131
  go_wp2
  go_loop [3, 12] (fun b i => ∃ k : Nat, k ≤ 4 ∧ i = .int .i64 k ∧ b = .int .i64 (befP p k) ∧ ∀ j, j < k → befP p j ≤ p.h j ∧ p.h j ≤ 20) (fun _ i => 4 - (intOf i).toNat)
  case atStart => exact ⟨0, by omega, rfl, rfl, fun j h => by omega⟩
  case round =>
    obtain ⟨k, hk, rfl, rfl, hok⟩ := hrel
    have HOK := Lib.hid hok
    clear hok
    by_cases hlt : k < 4
    · have HE := Lib.hid (pt_each (p := p) (j := k) · hlt)
      have HBS := Lib.hid (befP_succ p k)
      go_wp2_with (first | (refine index_op rfl 57 _ _ rfl _ k rfl rfl _ (heatAt p hlt _) ?_))
      all_goals first
        | (go_ret; exact ⟨ret_bool (ptB_false (fun hh => by have := HE.out ⟨hh.1, hh.2.1, hh.2.2.1, hh.2.2.2.1, hh.2.2.2.2.1⟩; omega)), below_alloc _ _⟩)
        | (go_round
           case rel => exact ⟨k + 1, by omega, by go_num, by rw [HBS.out], fun j hj => by
             by_cases e : j = k
             · subst e; omega
             · exact HOK.out j (by omega)⟩
           case measure => simp [intOf]; omega)
    · obtain rfl : k = 4 := by omega
      have HALL := Lib.hid (pt_all HOK.out)
      clear HOK hk hlt
      go_wp2_with fail
      generalize hd : wrap64 (p.hi - p.lo) = d at *
      have HD := Lib.hid hd
      clear hd
      go_loopw [46] (fun i wr => (i = .int .i64 0 ∨ (i = .int .i64 1 ∧ 0 ≤ p.lo ∧ p.lo ≤ 20) ∨ (i = .int .i64 2 ∧ 0 ≤ p.lo ∧ p.lo ≤ 20 ∧ 0 ≤ p.hi ∧ p.hi ≤ 20) ∨ (i = .int .i64 3 ∧ 0 ≤ p.lo ∧ p.lo ≤ 20 ∧ 0 ≤ p.hi ∧ p.hi ≤ 20 ∧ 0 ≤ d ∧ d ≤ 3)) ∧ Below w.heap.size w wr) (fun i _ => 3 - (intOf i).toNat)
      case atStart => exact ⟨.inl rfl, below_alloc2 _ _ _⟩
      case round =>
        obtain ⟨hi, hb⟩ := hrel
        have HB := Lib.hid hb
        have hsz := hb.size
        clear hb
        rcases hi with rfl | ⟨rfl, h1⟩ | ⟨rfl, h1⟩ | ⟨rfl, h1⟩
        · go_wp2_with (first | (refine index_op rfl 237 _ _ rfl _ _ rfl rfl _ (numAt0 _ _ _ _) ?_))
          all_goals first
            | (go_ret; exact ⟨ret_bool (ptB_false (fun hh => by omega)), HB.out.alloc (by omega) _⟩)
            | (go_roundw
               case rel => exact ⟨.inr (.inl ⟨rfl, by omega, by omega⟩), HB.out.alloc (by omega) _⟩
               case measure => simp [intOf])
        · go_wp2_with (first | (refine index_op rfl 237 _ _ rfl _ _ rfl rfl _ (numAt1 _ _ _ _) ?_))
          all_goals first
            | (go_ret; exact ⟨ret_bool (ptB_false (fun hh => by omega)), HB.out.alloc (by omega) _⟩)
            | (go_roundw
               case rel => exact ⟨.inr (.inr (.inl ⟨rfl, h1.1, h1.2, by omega, by omega⟩)), HB.out.alloc (by omega) _⟩
               case measure => simp [intOf])
        · have HD2 := Lib.hid (show p.hi - p.lo = d by rw [← HD.out, IntWalk.wrap64_in _ (by omega)])
          go_wp2_with (first | (refine index_op rfl 237 _ _ rfl _ _ rfl rfl _ (numAt2 _ _ _ _) ?_))
          all_goals first
            | (go_ret; exact ⟨ret_bool (ptB_false (fun hh => by have := HD2.out; omega)), HB.out.alloc (by omega) _⟩)
            | (go_roundw
               case rel => exact ⟨.inr (.inr (.inr ⟨rfl, h1.1, h1.2.1, h1.2.2.1, h1.2.2.2, by omega, by omega⟩)), HB.out.alloc (by omega) _⟩
               case measure => simp [intOf])
        · have HD2 := Lib.hid (show p.hi - p.lo = d by rw [← HD.out, IntWalk.wrap64_in _ (by omega)])
          go_wp2
          go_ret
          exact ⟨ret_bool (ptB_true (by have := HD2.out; have := HALL.out; omega)), HB.out⟩
end Go.Proofs.Yticfcdbfplfmlaa.Tu
