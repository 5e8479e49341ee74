/- Plain theorems of layer 3: frames that are lost, frames that clash. -/
import Derived.Test.YtjaeheodabojfaaWAX
import Derived.Test.YtjaeheodabojfaaWB
namespace Go.Proofs.Ytjaeheodabojfaa

theorem lost_good {ps : List Pt} {fs : List Fr} {s : List Int} (hs : s ∈ setsL ps.length) {i : Nat} (hi : i < (pickL (lostI ps fs) fs.length).length) : idxN (goodD ps fs s) (at0 (pickL (lostI ps fs) fs.length) i) < 0 := by
  rcases Int.lt_or_le (idxN (goodD ps fs s) (at0 (pickL (lostI ps fs) fs.length) i)) 0 with h | h
  · exact h
  · exfalso
    obtain ⟨j, e, hj, hl⟩ := mem_pickL.1 (at0_mem hi)
    rw [e, idx_mem, goodD, mem_pickL] at h
    obtain ⟨j', e', _, hd⟩ := h
    have : j = j' := by omega
    subst this
    rw [lost_dry hl hs] at hd; cases hd
theorem none_lost {ps : List Pt} {fs : List Fr} (h : (pickL (lostI ps fs) fs.length).length = 0) {i : Nat} (hi : i < fs.length) : ∃ s, s ∈ setsL ps.length ∧ dryI ps fs s i = true := by
  refine lost_not ?_
  cases e : lostI ps fs i
  · rfl
  · exfalso
    have : (i : Int) ∈ pickL (lostI ps fs) fs.length := mem_pickL.2 ⟨i, rfl, hi, e⟩
    rw [List.length_eq_zero_iff.1 h] at this; cases this
theorem clash_lost {ps : List Pt} {fs : List Fr} (hb : bookB ps fs = true) (h : (pickL (lostI ps fs) fs.length).length ≠ 0) : clashV ps fs = (0, 0, 32) := by simp [clashV, hb, h]
theorem clash_none {ps : List Pt} {fs : List Fr} (hb : bookB ps fs = true) (h : (pickL (lostI ps fs) fs.length).length = 0) (hf : clashF ps fs = none) : clashV ps fs = (0, 0, 4) := by simp [clashV, hb, h, hf]
theorem clash_some {ps : List Pt} {fs : List Fr} (hb : bookB ps fs = true) (h : (pickL (lostI ps fs) fs.length).length = 0) {a : Nat} (hf : clashF ps fs = some a) : ∃ o : Nat, clashV ps fs = ((a : Int), (o : Int), 0) ∧ clashO ps fs a = some o ∧ a < o ∧ o < fs.length ∧ ∀ s, s ∈ setsL ps.length → ¬ (dryI ps fs s a = true ∧ dryI ps fs s o = true) := by
  obtain ⟨h1, h2, h3⟩ := List.find?_range_eq_some.1 hf
  rcases ho : clashO ps fs a with _ | o
  · rw [ho] at h1; cases h1
  · obtain ⟨g1, g2, g3⟩ := List.find?_range_eq_some.1 ho
    simp only [Bool.and_eq_true, decide_eq_true_eq] at g1
    exact ⟨o, by simp [clashV, hb, h, hf, ho], rfl, g1.1, List.mem_range.1 g2, pair_none.1 g1.2⟩
/-- The most of two frames alone. -/
theorem two_most {ps : List Pt} {fs : List Fr} (hb : BookOk ps fs) {p q : Nat} (hp : p < fs.length) (hq : q < fs.length) : BookOk ps [fs[p], fs[q]] ∧
    (goodD ps [fs[p], fs[q]] (mostD ps [fs[p], fs[q]])).length ≤ 2 ∧
    ((∃ s, s ∈ setsL ps.length ∧ dryI ps fs s p = true) → 1 ≤ (goodD ps [fs[p], fs[q]] (mostD ps [fs[p], fs[q]])).length) ∧
    ((goodD ps [fs[p], fs[q]] (mostD ps [fs[p], fs[q]])).length = 2 ↔ ∃ s, s ∈ setsL ps.length ∧ dryI ps fs s p = true ∧ dryI ps fs s q = true) := by
  have hok : BookOk ps [fs[p], fs[q]] := ⟨hb.p1, hb.p4, by simp, hb.p, fun f hf => by
    simp only [List.mem_cons, List.not_mem_nil, or_false] at hf
    rcases hf with rfl | rfl
    · exact hb.f _ (List.getElem_mem _)
    · exact hb.f _ (List.getElem_mem _)⟩
  have h2 := two_dry (ps := ps) hp hq (mostD ps [fs[p], fs[q]])
  refine ⟨hok, by rw [h2]; split <;> split <;> omega, ?_, ?_⟩
  · rintro ⟨s, hs, h⟩
    have h3 := most_good hok hs
    rw [two_dry hp hq, if_pos h] at h3
    omega
  · constructor
    · intro h
      rw [h2] at h
      refine ⟨_, most_mem ps [fs[p], fs[q]], ?_⟩
      cases e1 : dryI ps fs (mostD ps [fs[p], fs[q]]) p <;> cases e2 : dryI ps fs (mostD ps [fs[p], fs[q]]) q <;> rw [e1, e2] at h <;> simp at h <;> simp
    · rintro ⟨s, hs, h, h'⟩
      have h3 := most_good hok hs
      rw [two_dry hp hq, if_pos h, if_pos h', h2] at h3
      rw [h2]
      split <;> split <;> simp_all
/-- What is said of two frames, of which one comes before the other. -/
theorem clash_pair {ps : List Pt} {fs : List Fr} (hb : bookB ps fs = true) (hl : (pickL (lostI ps fs) fs.length).length = 0) {p q : Nat} (hpq : p < q) (hq : q < fs.length) :
    (clashF ps fs = none → (goodD ps [fs[p]'(by omega), fs[q]] (mostD ps [fs[p]'(by omega), fs[q]])).length = 2) ∧
    (∀ a o, clashF ps fs = some a → clashO ps fs a = some o → ((goodD ps [fs[p]'(by omega), fs[q]] (mostD ps [fs[p]'(by omega), fs[q]])).length = 2 → p ≠ a ∨ q ≠ o) ∧ ((goodD ps [fs[p]'(by omega), fs[q]] (mostD ps [fs[p]'(by omega), fs[q]])).length ≠ 2 → a < p ∨ a = p ∧ o ≤ q)) := by
  have hok := bookB_iff.1 hb
  obtain ⟨_, _, _, h4⟩ := two_most hok (show p < fs.length by omega) hq
  refine ⟨fun hf => ?_, fun a o ha ho => ⟨fun h => ?_, fun h => ?_⟩⟩
  · rw [h4]
    have h1 := List.find?_range_eq_none.1 hf p (by omega)
    simp only [Bool.not_eq_true', Option.isSome_eq_false_iff, Option.isNone_iff_eq_none] at h1
    have h2 := List.find?_range_eq_none.1 h1 q hq
    simp only [Bool.not_eq_true', Bool.and_eq_false_iff, decide_eq_false_iff_not] at h2
    rcases h2 with h2 | h2
    · omega
    · rcases Classical.em (∃ s, s ∈ setsL ps.length ∧ dryI ps fs s p = true ∧ dryI ps fs s q = true) with h | h
      · exact h
      · exfalso
        have : (coolD ps fs [p, q]).isNone = true := pair_none.2 fun s hs hd => h ⟨s, hs, hd⟩
        rw [this] at h2; cases h2
  · obtain ⟨g1, g2, g3⟩ := List.find?_range_eq_some.1 ho
    simp only [Bool.and_eq_true, decide_eq_true_eq] at g1
    rcases Classical.em (p = a ∧ q = o) with ⟨rfl, rfl⟩ | e
    · exfalso
      obtain ⟨s, hs, hd⟩ := h4.1 h
      exact pair_none.1 g1.2 s hs hd
    · omega
  · have hn : (coolD ps fs [p, q]).isNone = true := pair_none.2 fun s hs hd => h (h4.2 ⟨s, hs, hd⟩)
    obtain ⟨a1, a2, a3⟩ := List.find?_range_eq_some.1 ha
    obtain ⟨g1, g2, g3⟩ := List.find?_range_eq_some.1 ho
    rcases Nat.lt_or_ge a p with h5 | h5
    · exact .inl h5
    · rcases Nat.lt_or_ge p a with h6 | h6
      · exfalso
        have h7 := a3 p h6
        simp only [Bool.not_eq_true', Option.isSome_eq_false_iff, Option.isNone_iff_eq_none] at h7
        have h8 := List.find?_range_eq_none.1 h7 q hq
        simp [hpq, hn] at h8
      · have e : a = p := by omega
        refine .inr ⟨e, ?_⟩
        subst e
        rcases Nat.lt_or_ge q o with h7 | h7
        · exfalso
          have := g3 q h7
          simp [hpq, hn] at this
        · exact h7
end Go.Proofs.Ytjaeheodabojfaa
