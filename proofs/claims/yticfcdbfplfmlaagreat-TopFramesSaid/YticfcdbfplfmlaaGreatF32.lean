/- The walks of layer 5: the worst that is found of a handful. -/
import Derived.Test.YticfcdbfplfmlaaGreatFDX
namespace Go.Proofs.YticfcdbfplfmlaaGreat
open Go.RowKit Go.Maps
attribute [local go_sem] Oper.semAt_some

/-- How many boxes are by hand once a handful is counted; at the worst of the first so many numbers. -/
def countAt (b : Bf) (k : Nat) (n : Int) : Int := ((handL (setB b k n n) (bestQ (setB b k n n))).length : Int)
def handAt (b : Bf) (k : Nat) : Hd := b.hs.getD k ⟨0, 0⟩
def worstTo (b : Bf) (k : Nat) : Nat → Int
  | 0 => 0
  | j + 1 => max (worstTo b k j) (countAt b k ((handAt b k).lo + j))
def worstV (b : Bf) (k : Nat) : Int := worstTo b k ((handAt b k).hi - (handAt b k).lo + 1).toNat
theorem handAt_eq {b : Bf} {k : Nat} (h : k < b.hs.length) : handAt b k = b.hs[k] := by simp [handAt, List.getD, h]
theorem worstTo_nonneg (b : Bf) (k : Nat) : ∀ j, 0 ≤ worstTo b k j
  | 0 => Int.le_refl _
  | j + 1 => by have := worstTo_nonneg b k j; unfold worstTo; omega
theorem countAt_range {b : Bf} {k : Nat} {n : Int} (hok : BfOk (setB b k n n)) : 0 ≤ countAt b k n ∧ countAt b k n ≤ 8 := by
  have h8 := hok.n8
  obtain ⟨j, _, hj, _⟩ := bestO_least (rankQ (setB b k n n)) (plansB (setB b k n n)) (plansB (setB b k n n)).length (Nat.le_refl _) (plansB_pos hok.g1)
  have hm := bestO_mem _ _ _ (Nat.le_refl _) _ hj
  rw [List.take_length] at hj
  have hl := plan_len ((plansB_iff hok.g1 _).1 hm)
  have hc := count_to (setB b k n n) (bestQ (setB b k n n)) (bestQ (setB b k n n)).length
  rw [← show bestQ (setB b k n n) = _ from bestL_of hj] at hl
  unfold countAt handL
  omega
theorem setB_ok {b : Bf} (hok : BfOk b) {k : Nat} (lo hi : Int) (h : HdOk ⟨lo, hi⟩) : BfOk (setB b k lo hi) :=
  ⟨hok.p1, hok.p2, hok.l1, hok.l2, hok.l3, hok.m1, hok.m2, hok.g1, hok.g2, by rw [setB_len]; exact hok.n8, fun x hx => by
    rcases List.mem_or_eq_of_mem_set hx with h' | h'
    · exact hok.h x h'
    · rw [h']; exact h⟩
end Go.Proofs.YticfcdbfplfmlaaGreat
