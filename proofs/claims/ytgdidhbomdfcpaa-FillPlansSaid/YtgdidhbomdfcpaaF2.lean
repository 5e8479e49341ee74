/- Layer 5, in plain lists: what becomes of a plan; the best one of all. -/
import Derived.Test.YtgdidhbomdfcpaaF1
namespace Go.Proofs.Ytgdidhbomdfcpaa
open Go.RowKit

/-- With which handful a box of a plan begins. -/
def bgn (l : List Int) (i : Nat) : Int := if i = 0 then 0 else at0 l (i - 1)
theorem bgn_zero (l : List Int) : bgn l 0 = 0 := rfl
theorem bgn_succ (l : List Int) (i : Nat) : bgn l (i + 1) = at0 l i := by simp [bgn]
def boxI (b : Bf) (l : List Int) (i : Nat) : Bool := boxB b (bgn l i) (at0 l i)
def loI (b : Bf) (l : List Int) (i : Nat) : Int := loB b (bgn l i).toNat (at0 l i).toNat
def hiI (b : Bf) (l : List Int) (i : Nat) : Int := hiB b (bgn l i).toNat (at0 l i).toNat
def rightI (b : Bf) (l : List Int) (i : Nat) : Bool := decide (kindS b (loI b l i) (hiI b l i) = 0)
/-- Is it a plan? -/
def planTo (b : Bf) (l : List Int) (k : Nat) : Bool := (List.range k).all (boxI b l)
def planB (b : Bf) (l : List Int) : Bool := planTo b l l.length && decide (bgn l l.length = b.hs.length)
theorem planTo_succ (b : Bf) (l : List Int) (k : Nat) : planTo b l (k + 1) = (planTo b l k && boxI b l k) := by simp [planTo, List.range_succ]
theorem planTo_all {b : Bf} {l : List Int} {k : Nat} (h : planTo b l k = true) {i : Nat} (hi : i < k) : boxI b l i = true := by
  unfold planTo at h
  rw [List.all_eq_true] at h
  exact h i (List.mem_range.2 hi)
/-- Behind so many boxes of a plan no number is greater than that of the last one, and each box lies within the handfuls. -/
theorem plan_nums {b : Bf} {l : List Int} : ∀ {k : Nat}, planTo b l k = true → k ≤ l.length → 0 ≤ bgn l k ∧ bgn l k ≤ b.hs.length ∧ (k : Int) ≤ bgn l k
  | 0, _, _ => by simp [bgn]
  | k + 1, h, hk => by
    rw [planTo_succ, Bool.and_eq_true] at h
    obtain ⟨h0, h1, h2⟩ := plan_nums h.1 (by omega)
    have hb := h.2
    unfold boxI boxB at hb
    simp only [decide_eq_true_eq] at hb
    rw [bgn_succ]
    omega
/-- The boxes that are to be filled by hand, of the first so many; the right ones, at an end. -/
def handTo (b : Bf) (l : List Int) (k : Nat) : List Int := ((List.range k).filter fun i => !rightI b l i).map fun (i : Nat) => (i : Int)
def rightTo (b : Bf) (l : List Int) (k : Nat) : List Hd := ((List.range k).filter fun i => rightI b l i).map fun i => ⟨loI b l i, hiI b l i⟩
theorem handTo_succ (b : Bf) (l : List Int) (k : Nat) : handTo b l (k + 1) = if rightI b l k then handTo b l k else handTo b l k ++ [(k : Int)] := by
  unfold handTo
  rw [List.range_succ, List.filter_append, List.map_append]
  cases h : rightI b l k <;> simp [h]
theorem rightTo_succ (b : Bf) (l : List Int) (k : Nat) : rightTo b l (k + 1) = if rightI b l k then rightTo b l k ++ [⟨loI b l k, hiI b l k⟩] else rightTo b l k := by
  unfold rightTo
  rw [List.range_succ, List.filter_append, List.map_append]
  cases h : rightI b l k <;> simp [h]
theorem count_to (b : Bf) (l : List Int) : ∀ k, (handTo b l k).length + (rightTo b l k).length = k
  | 0 => rfl
  | k + 1 => by
    have := count_to b l k
    rw [handTo_succ, rightTo_succ]
    cases h : rightI b l k <;> simp <;> omega
def handL (b : Bf) (l : List Int) : List Int := handTo b l l.length
def rightL (b : Bf) (l : List Int) : List Hd := rightTo b l l.length
/-- How good a plan is: fewer boxes by hand, then more boxes. -/
def rankQ (b : Bf) (l : List Int) : Int := 100 * ((handL b l).length : Int) - (l.length : Int)
def rankR (b : Bf) (l : List Int) : Int := -((rightL b l).length : Int)
def grN (b : Bf) : Nat := b.gr.toNat
def plansB (b : Bf) : List (List Int) := plansL (grN b) b.hs.length 0
end Go.Proofs.Ytgdidhbomdfcpaa
