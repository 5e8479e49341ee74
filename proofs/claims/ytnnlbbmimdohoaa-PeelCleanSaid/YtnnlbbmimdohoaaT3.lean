/- Layer 1, in plain lists: a log without knots. -/
import Derived.Test.YtnnlbbmimdohoaaT2
namespace Go.Proofs.Ytnnlbbmimdohoaa
open Go.RowKit

/-- Where every piece is counted, one stands behind the other. -/
theorem cutL_full {c : List Bool} {sz wide : Nat} (h1 : 1 ≤ sz) (hc : ∀ i, i + sz ≤ wide → b0 c i = true) : ∀ (n i : Nat), wide < n + i → (cutL c sz wide i).length = (wide - i) / sz ∧ ∀ k, k < (cutL c sz wide i).length → at0 (cutL c sz wide i) k = ((i + k * sz : Nat) : Int)
  | 0, i, h => by
    rw [cutL_end (by omega), Nat.div_eq_of_lt (by omega)]
    exact ⟨rfl, fun k hk => by simp at hk⟩
  | n + 1, i, h => by
    by_cases hi : i + sz ≤ wide
    · obtain ⟨a, b⟩ := cutL_full h1 hc n (i + sz) (by omega)
      rw [cutL_yes h1 hi (hc i hi)]
      constructor
      · rw [List.length_cons, a, Nat.div_eq_sub_div (a := wide - i) (by omega) (by omega), show wide - (i + sz) = wide - i - sz by omega]
      · intro k hk
        cases k with
        | zero => simp [at0]
        | succ k =>
          have := b k (by simpa using hk)
          have e : at0 ((i : Int) :: cutL c sz wide (i + sz)) (k + 1) = at0 (cutL c sz wide (i + sz)) k := by simp [at0]
          rw [e, this, Nat.succ_mul]
          congr 1
          omega
    · rw [cutL_end hi, Nat.div_eq_of_lt (by omega)]
      exact ⟨rfl, fun k hk => by simp at hk⟩
theorem clean_reach (long : List Int) : reachD long [] = List.replicate 72 false := rfl
theorem clean_best {long : List Int} {sz : Int} {ks : List K4} (hv : LogOk long sz ks) : (bestD long sz []).length = wideN long / sz.toNat ∧ ∀ k, k < (bestD long sz []).length → at0 (bestD long sz []) k = ((k * sz.toNat : Nat) : Int) := by
  have h1 := hv.s1
  have hw := wideN_eq hv.L
  have := cutL_full (c := wholesD long sz (reachD long [])) (sz := sz.toNat) (wide := wideN long) (by omega) (fun i hi => by
    rw [b0_wholesD, clean_reach]
    exact ⟨by omega, by omega, fun j _ => b0_false _ _⟩) (wideN long + 1) 0 (by omega)
  simpa [bestD, cutD] using this
theorem clean_quo {long : List Int} {sz : Int} {ks : List K4} (hv : LogOk long sz ks) : ((bestD long sz []).length : Int) = psum long long.length / sz := by
  have h1 := hv.s1
  have hw := wideN_eq hv.L
  have e : sz = (sz.toNat : Int) := by omega
  rw [(clean_best hv).1, ← hw.1, Int.natCast_ediv, ← e]
theorem clean_hope (long : List Int) (sz : Int) : hopeD long sz [] = ((bestD long sz []).length : Int) := by
  show max 0 ((cutD long sz (List.replicate 72 false)).length : Int) = _
  rw [bestD, clean_reach]
  omega
theorem clean_knot (long : List Int) (c : Nat) : knotD long [] c = 0 := by
  have h : b0 (List.replicate 72 false) c = false := b0_false _ _
  unfold knotD
  show (if ([List.replicate 72 false].all (b0 · c)) = true then (2 : Int) else if ([List.replicate 72 false].any (b0 · c)) = true then 1 else 0) = 0
  simp only [List.all_cons, List.any_cons, List.all_nil, List.any_nil, h]
  rfl
theorem clean_valid {long : List Int} {sz : Int} {ks : List K4} (h : validB long sz ks = true) : validB long sz [] = true := by
  simp only [validB, Bool.and_eq_true, decide_eq_true_eq] at h ⊢
  obtain ⟨⟨⟨⟨⟨⟨a, b⟩, c⟩, d⟩, _⟩, f⟩, _⟩ := h
  exact ⟨⟨⟨⟨⟨⟨a, b⟩, c⟩, d⟩, by simp⟩, f⟩, by simp⟩

end Go.Proofs.Ytnnlbbmimdohoaa
