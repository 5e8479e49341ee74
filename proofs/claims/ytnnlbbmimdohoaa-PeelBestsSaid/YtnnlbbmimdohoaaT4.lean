/- Layer 1, in plain lists: what is so in each truth, and in some truth. -/
import Derived.Test.YtnnlbbmimdohoaaT2
namespace Go.Proofs.Ytnnlbbmimdohoaa
open Go.RowKit

theorem b0_orL {l m : List Bool} (hl : l.length = 72) (hm : m.length = 72) (i : Nat) : b0 (orL l m) i = (b0 l i || b0 m i) := by
  by_cases h : i < 72
  · rw [b0_lt (by rw [orL_length hl hm]; exact h), b0_lt (by omega), b0_lt (by omega)]
    simp [orL]
  · have e1 : b0 (orL l m) i = false := by simp [b0, List.getD_eq_getElem?_getD, List.getElem?_eq_none (show (orL l m).length ≤ i by rw [orL_length hl hm]; omega)]
    have e2 : b0 l i = false := by simp [b0, List.getD_eq_getElem?_getD, List.getElem?_eq_none (show l.length ≤ i by omega)]
    have e3 : b0 m i = false := by simp [b0, List.getD_eq_getElem?_getD, List.getElem?_eq_none (show m.length ≤ i by omega)]
    rw [e1, e2, e3]; rfl

/-- A column is one that some knots can have: it was before, or some place of some knot has it. -/
theorem reachK_iff {R : Rib} {long : List Int} (k : K4) : ∀ {acc : List Bool}, acc.length = 72 → ∀ i, b0 (reachK R long acc k) i = true ↔ b0 acc i = true ∨ ∃ p ∈ placesL k, b0 (trailL R long p.1 p.2.toNat) i = true := by
  unfold reachK
  induction placesL k with
  | nil => intro acc h i; simp
  | cons q l ih =>
    intro acc h i
    rw [List.foldl_cons, ih (orL_length h (trailL_length _ _ _ _)), b0_orL h (trailL_length _ _ _ _)]
    simp only [Bool.or_eq_true, List.mem_cons]
    constructor
    · rintro ((h1 | h1) | ⟨p, hp, h1⟩)
      · exact .inl h1
      · exact .inr ⟨q, .inl rfl, h1⟩
      · exact .inr ⟨p, .inr hp, h1⟩
    · rintro (h1 | ⟨p, rfl | hp, h1⟩)
      · exact .inl (.inl h1)
      · exact .inl (.inr h1)
      · exact .inr ⟨p, hp, h1⟩
theorem reachF_iff {R : Rib} {long : List Int} : ∀ (ks : List K4) {acc : List Bool}, acc.length = 72 → ∀ i, b0 (ks.foldl (reachK R long) acc) i = true ↔ b0 acc i = true ∨ ∃ k ∈ ks, ∃ p ∈ placesL k, b0 (trailL R long p.1 p.2.toNat) i = true
  | [], _, _, i => by simp
  | k :: ks, acc, h, i => by
    rw [List.foldl_cons, reachF_iff ks (reachK_length R long k h), reachK_iff k h]
    simp only [List.mem_cons]
    constructor
    · rintro ((h1 | h1) | ⟨k', hk, h1⟩)
      · exact .inl h1
      · exact .inr ⟨k, .inl rfl, h1⟩
      · exact .inr ⟨k', .inr hk, h1⟩
    · rintro (h1 | ⟨k', rfl | hk, h1⟩)
      · exact .inl (.inl h1)
      · exact .inl (.inr h1)
      · exact .inr ⟨k', hk, h1⟩
theorem reachD_iff {long : List Int} {ks : List K4} (i : Nat) : b0 (reachD long ks) i = true ↔ ∃ k ∈ ks, ∃ p ∈ placesL k, b0 (trailD long p.1 p.2.toNat) i = true := by
  have h := reachF_iff (R := rb long) (long := long) ks (acc := List.replicate 72 false) (by simp) i
  rw [b0_false] at h
  simpa [reachD, reachL, trailD] using h
/-- Fewer places of fewer knots: fewer columns. -/
theorem reachD_mono {long : List Int} {ks ks' : List K4} (h : ∀ k ∈ ks, ∀ p ∈ placesL k, ∃ k' ∈ ks', p ∈ placesL k') (i : Nat) (hi : b0 (reachD long ks) i = true) : b0 (reachD long ks') i = true := by
  rw [reachD_iff] at hi ⊢
  obtain ⟨k, hk, p, hp, hb⟩ := hi
  obtain ⟨k', hk', hp'⟩ := h k hk p hp
  exact ⟨k', hk', p, hp', hb⟩

/-- What is so in a truth. -/
theorem truthsL_sub {R : Rib} {long : List Int} : ∀ (ks : List K4) {acc kn : List Bool}, acc.length = 72 → kn ∈ truthsL R long ks acc → ∀ i, b0 kn i = true → b0 acc i = true ∨ ∃ k ∈ ks, ∃ p ∈ placesL k, b0 (trailL R long p.1 p.2.toNat) i = true
  | [], acc, kn, _, hm, i, hi => by
    rw [truthsL, List.mem_singleton] at hm
    exact .inl (hm ▸ hi)
  | k :: ks, acc, kn, h, hm, i, hi => by
    rw [truthsL, List.mem_flatMap] at hm
    obtain ⟨q, hq, hm⟩ := hm
    rcases truthsL_sub ks (orL_length h (trailL_length _ _ _ _)) hm i hi with h1 | ⟨k', hk, h1⟩
    · rw [b0_orL h (trailL_length _ _ _ _), Bool.or_eq_true] at h1
      rcases h1 with h1 | h1
      · exact .inl h1
      · exact .inr ⟨k, by simp, q, hq, h1⟩
    · exact .inr ⟨k', by simp [hk], h1⟩
theorem truthsL_acc {R : Rib} {long : List Int} : ∀ (ks : List K4) {acc kn : List Bool}, acc.length = 72 → kn ∈ truthsL R long ks acc → ∀ i, b0 acc i = true → b0 kn i = true
  | [], acc, kn, _, hm, i, hi => by
    rw [truthsL, List.mem_singleton] at hm
    exact hm ▸ hi
  | k :: ks, acc, kn, h, hm, i, hi => by
    rw [truthsL, List.mem_flatMap] at hm
    obtain ⟨q, hq, hm⟩ := hm
    exact truthsL_acc ks (orL_length h (trailL_length _ _ _ _)) hm i (by rw [b0_orL h (trailL_length _ _ _ _), hi]; rfl)
/-- What is so in a truth can be so. -/
theorem truth_reach {long : List Int} {ks : List K4} {kn : List Bool} (hm : kn ∈ truthsD long ks) (i : Nat) (hi : b0 kn i = true) : b0 (reachD long ks) i = true := by
  rw [reachD_iff]
  rcases truthsL_sub ks (by simp) hm i hi with h | h
  · rw [b0_false] at h; cases h
  · exact h
theorem placesL_ne {k : K4} (h : K4Ok k) : ∃ p, p ∈ placesL k := by
  refine ⟨(k.al, k.fl), ?_⟩
  simp only [placesL, List.mem_flatMap, List.mem_map, List.mem_range]
  exact ⟨0, by have := h.a; omega, 0, by have := h.f; omega, by simp⟩
theorem truthsL_ne {R : Rib} {long : List Int} : ∀ (ks : List K4) (acc : List Bool), (∀ k ∈ ks, K4Ok k) → ∃ kn, kn ∈ truthsL R long ks acc
  | [], acc, _ => ⟨acc, by rw [truthsL]; simp⟩
  | k :: ks, acc, h => by
    obtain ⟨p, hp⟩ := placesL_ne (h k (by simp))
    obtain ⟨kn, hk⟩ := truthsL_ne (R := R) (long := long) ks (orL acc (trailL R long p.1 p.2.toNat)) (fun k hk => h k (by simp [hk]))
    exact ⟨kn, by rw [truthsL, List.mem_flatMap]; exact ⟨p, hp, hk⟩⟩
/-- What can be so is so in some truth. -/
theorem reach_truth {R : Rib} {long : List Int} : ∀ (ks : List K4) {acc : List Bool}, acc.length = 72 → (∀ k ∈ ks, K4Ok k) → ∀ i, (∃ k ∈ ks, ∃ p ∈ placesL k, b0 (trailL R long p.1 p.2.toNat) i = true) → ∃ kn ∈ truthsL R long ks acc, b0 kn i = true
  | [], _, _, _, _, h => by simp at h
  | k :: ks, acc, hl, ho, i, h => by
    obtain ⟨k', hk, p, hp, hb⟩ := h
    rcases List.mem_cons.1 hk with rfl | hk
    · obtain ⟨kn, hkn⟩ := truthsL_ne (R := R) (long := long) ks (orL acc (trailL R long p.1 p.2.toNat)) (fun k hk => ho k (by simp [hk]))
      exact ⟨kn, by rw [truthsL, List.mem_flatMap]; exact ⟨p, hp, hkn⟩, truthsL_acc ks (orL_length hl (trailL_length _ _ _ _)) hkn i (by rw [b0_orL hl (trailL_length _ _ _ _), hb]; simp)⟩
    · obtain ⟨q, hq⟩ := placesL_ne (ho k (by simp))
      obtain ⟨kn, hkn, h1⟩ := reach_truth ks (acc := orL acc (trailL R long q.1 q.2.toNat)) (orL_length hl (trailL_length _ _ _ _)) (fun k hk => ho k (by simp [hk])) i ⟨k', hk, p, hp, hb⟩
      exact ⟨kn, by rw [truthsL, List.mem_flatMap]; exact ⟨q, hq, hkn⟩, h1⟩

/-- Logs whose knots have fewer places have fewer truths. -/
theorem truthsL_mono {R : Rib} {long : List Int} : ∀ (ks ks' : List K4) (acc : List Bool), ks.length = ks'.length → (∀ j (h : j < ks.length) (h' : j < ks'.length), ∀ p ∈ placesL ks[j], p ∈ placesL ks'[j]) → ∀ kn ∈ truthsL R long ks acc, kn ∈ truthsL R long ks' acc
  | [], [], _, _, _, _, h => h
  | [], _ :: _, _, h, _, _, _ => by simp at h
  | _ :: _, [], _, h, _, _, _ => by simp at h
  | k :: ks, k' :: ks', acc, hl, hp, kn, h => by
    rw [truthsL, List.mem_flatMap] at h ⊢
    obtain ⟨q, hq, h⟩ := h
    refine ⟨q, hp 0 (by simp) (by simp) q hq, truthsL_mono ks ks' _ (by simpa using hl) (fun j h h' p hpp => ?_) kn h⟩
    have := hp (j + 1) (by simp; omega) (by simp; omega) p (by simpa using hpp)
    simpa using this

end Go.Proofs.Ytnnlbbmimdohoaa
