/- Layer 1, in plain lists: fewer knots, more pieces; the greatest of several numbers. -/
import Derived.Test.YtnnlbbmimdohoaaT
namespace Go.Proofs.Ytnnlbbmimdohoaa
open Go.RowKit

theorem b0_wholeL {kn : List Bool} {sz : Nat} {wide : Int} {i : Nat} : b0 (wholeL kn sz wide) i = (decide (i < 72) && decide (i < (wide - sz + 1).toNat) && freeAt kn i sz) := by
  by_cases hi : i < 72
  · rw [b0_lt (by rw [wholeL_length]; exact hi)]
    have := wholeTo_at kn sz (wide - sz + 1).toNat i hi
    rw [List.getElem?_eq_getElem (by rw [wholeTo_length]; exact hi)] at this
    simp only [wholeL, Option.some.inj this, hi, decide_true, Bool.true_and]
  · simp [b0, List.getD_eq_getElem?_getD, wholeL, wholeTo, hi]
theorem freeAt_iff {kn : List Bool} {i sz : Nat} : freeAt kn i sz = true ↔ ∀ j, j < sz → b0 kn (i + j) = false := by
  simp [freeAt, List.all_eq_true]
theorem b0_wholesD {long : List Int} {sz : Int} {kn : List Bool} {i : Nat} : b0 (wholesD long sz kn) i = true ↔ i < 72 ∧ i < (psum long long.length - sz.toNat + 1).toNat ∧ ∀ j, j < sz.toNat → b0 kn (i + j) = false := by
  rw [wholesD, b0_wholeL]
  simp only [Bool.and_eq_true, decide_eq_true_eq, freeAt_iff]
  constructor
  · rintro ⟨⟨a, b⟩, c⟩; exact ⟨a, b, c⟩
  · rintro ⟨a, b, c⟩; exact ⟨⟨a, b⟩, c⟩
/-- Where there are fewer knots, more pieces are whole. -/
theorem wholesD_mono {long : List Int} {sz : Int} {kn kn' : List Bool} (h : ∀ i, b0 kn' i = true → b0 kn i = true) (i : Nat) (hi : b0 (wholesD long sz kn) i = true) : b0 (wholesD long sz kn') i = true := by
  rw [b0_wholesD] at hi ⊢
  refine ⟨hi.1, hi.2.1, fun j hj => ?_⟩
  have := hi.2.2 j hj
  cases hb : b0 kn' (i + j)
  · rfl
  · rw [h _ hb] at this; cases this
theorem b0_false (n i : Nat) : b0 (List.replicate n false) i = false := by
  by_cases h : i < n
  · simp [b0, h]
  · simp [b0, List.getD_eq_getElem?_getD, h]
theorem cutD_mono {long : List Int} {sz : Int} (h1 : 1 ≤ sz) {kn kn' : List Bool} (h : ∀ i, b0 kn' i = true → b0 kn i = true) : (cutD long sz kn).length ≤ (cutD long sz kn').length :=
  greedy_mono (by omega) (Nat.le_refl _) (wholesD_mono h)

theorem maxF (l : List Int) : ∀ m, m ≤ l.foldl max m ∧ (∀ x ∈ l, x ≤ l.foldl max m) ∧ (l.foldl max m = m ∨ l.foldl max m ∈ l) := by
  induction l with
  | nil => intro m; simp
  | cons a l ih =>
    intro m
    obtain ⟨h1, h2, h3⟩ := ih (max m a)
    rw [List.foldl_cons]
    refine ⟨by omega, ?_, ?_⟩
    · intro x hx
      rcases List.mem_cons.1 hx with rfl | hx
      · omega
      · exact h2 x hx
    · rcases h3 with h3 | h3
      · rcases Int.le_total m a with h | h
        · right; rw [h3, show max m a = a by omega]; simp
        · left; omega
      · right; exact List.mem_cons_of_mem _ h3
/-- No number behind a place is greater than the one that stands there. -/
theorem maxF_stop {l : List Int} {j : Nat} {m x : Int} (hx : l[j]? = some x) (h : ∀ y ∈ l, y ≤ x) : (l.take (j + 1)).foldl max m = l.foldl max m := by
  obtain ⟨a1, a2, a3⟩ := maxF (l.take (j + 1)) m
  obtain ⟨b1, b2, b3⟩ := maxF l m
  have hxt : x ∈ l.take (j + 1) := by rw [List.take_add_one, hx]; simp
  have := a2 x hxt
  have h2 : (l.take (j + 1)).foldl max m ≤ l.foldl max m := by
    rcases a3 with e | e
    · omega
    · exact b2 _ (List.mem_of_mem_take e)
  rcases b3 with e | e
  · omega
  · have := h _ e; omega

/-- How many pieces can be cut in each truth. -/
def hopesD (long : List Int) (sz : Int) (ks : List K4) : List Int := (truthsD long ks).map fun kn => ((cutD long sz kn).length : Int)
theorem hope_stop {long : List Int} {sz : Int} {ks : List K4} (h1 : 1 ≤ sz) {j : Nat} (hj : (truthsD long ks)[j]? = some (List.replicate 72 false)) : ((hopesD long sz ks).take (j + 1)).foldl max 0 = hopeD long sz ks := by
  refine maxF_stop (x := ((cutD long sz (List.replicate 72 false)).length : Int)) (by rw [hopesD, List.getElem?_map, hj]; rfl) ?_
  intro y hy
  simp only [hopesD, List.mem_map] at hy
  obtain ⟨kn, _, rfl⟩ := hy
  have := cutD_mono (long := long) h1 (kn := kn) (kn' := List.replicate 72 false) (fun i hi => by rw [b0_false] at hi; cases hi)
  omega
theorem hope_step {long : List Int} {sz : Int} {ks : List K4} {j : Nat} {kn : List Bool} (hj : (truthsD long ks)[j]? = some kn) : ((hopesD long sz ks).take (j + 1)).foldl max 0 = max (((hopesD long sz ks).take j).foldl max 0) ((cutD long sz kn).length : Int) := by
  rw [List.take_add_one, hopesD, List.getElem?_map, hj]
  simp
theorem hope_range {long : List Int} {sz : Int} {ks : List K4} (hv : LogOk long sz ks) (j : Nat) : 0 ≤ ((hopesD long sz ks).take j).foldl max 0 ∧ ((hopesD long sz ks).take j).foldl max 0 ≤ 72 := by
  obtain ⟨a, b, c⟩ := maxF ((hopesD long sz ks).take j) 0
  refine ⟨a, ?_⟩
  rcases c with e | e
  · omega
  · have hm := List.mem_of_mem_take e
    generalize ((hopesD long sz ks).take j).foldl max 0 = v at *
    simp only [hopesD, List.mem_map] at hm
    obtain ⟨kn, _, h⟩ := hm
    have h1 := hv.s1
    have hw := wideN_eq hv.L
    have := cutL_length (c := wholesD long sz kn) (sz := sz.toNat) (wide := wideN long) (by omega) (wideN long + 1) 0 (by omega)
    rw [← h]
    unfold cutD
    omega

end Go.Proofs.Ytnnlbbmimdohoaa
