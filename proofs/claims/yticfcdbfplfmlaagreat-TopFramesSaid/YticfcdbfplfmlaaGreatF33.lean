/- The walks of layer 5: which handful should be counted. -/
import Derived.Test.YticfcdbfplfmlaaGreatF32
namespace Go.Proofs.YticfcdbfplfmlaaGreat
open Go.RowKit Go.Maps
attribute [local go_sem] Oper.semAt_some

/-- The least of the first numbers of a list. -/
def minN (l : List Int) : Nat → Int
  | 0 => at0 l 0
  | k + 1 => min (minN l k) (at0 l k)
theorem minN_one (l : List Int) : minN l 1 = at0 l 0 := by simp [minN]
/-- The first place of a number in a list; -1 if there is none. -/
def idxN (l : List Int) (x : Int) : Int := match (List.range l.length).find? (fun i => decide (x = at0 l i)) with
  | some i => (i : Int)
  | none => -1
theorem find_first {n k : Nat} {f : Nat → Bool} (hk : k < n) (hf : f k = true) (h : ∀ i, i < k → f i = false) : (List.range n).find? f = some k := by
  rw [List.find?_range_eq_some]
  exact ⟨hf, by simpa using hk, fun j hj => by simp [h j hj]⟩
theorem find_none {n : Nat} {f : Nat → Bool} (h : ∀ i, i < n → f i = false) : (List.range n).find? f = none := by
  rw [List.find?_range_eq_none]
  exact fun i hi => by simp [h i hi]
theorem idx_some {l : List Int} {x : Int} {k : Nat} (hk : k < l.length) (hx : x = at0 l k) (h : ∀ i, i < k → x ≠ at0 l i) : idxN l x = k := by
  unfold idxN
  rw [find_first hk (by simpa using hx) (fun i hi => by simpa using h i hi)]
theorem idx_none {l : List Int} {x : Int} (h : ∀ i, i < l.length → x ≠ at0 l i) : idxN l x = -1 := by
  unfold idxN
  rw [find_none (fun i hi => by simpa using h i hi)]

/-- What each handful is worth, of the first ones. -/
def asksN (b : Bf) (k : Nat) : List Int := (List.range b.hs.length).map fun i => if i < k then worstV b i else 0
theorem asksN_length (b : Bf) (k : Nat) : (asksN b k).length = b.hs.length := by simp [asksN]
theorem asksN_zero (b : Bf) : List.replicate b.hs.length (0 : Int) = asksN b 0 := by
  apply List.ext_getElem
  · simp [asksN]
  · intro i h1 h2; simp [asksN]
theorem asksN_set (b : Bf) {k : Nat} (_hk : k < b.hs.length) : (asksN b k).set k (worstV b k) = asksN b (k + 1) := by
  apply List.ext_getElem
  · simp [asksN]
  · intro i h1 h2
    rw [List.getElem_set]
    by_cases e : k = i
    · subst e; simp [asksN]
    · simp only [asksN, e, if_false, List.getElem_map, List.getElem_range]
      by_cases h : i < k
      · rw [if_pos h, if_pos (by omega)]
      · rw [if_neg h, if_neg (by omega)]
/-- What Ask returns. -/
def askV (b : Bf) : Int := idxN (asksN b b.hs.length) (minN (asksN b b.hs.length) b.hs.length)
end Go.Proofs.YticfcdbfplfmlaaGreat
