/- Layer 5, in plain lists: the best plan is the first one of the fewest boxes by hand. -/
import Derived.Test.YtgdidhbomdfcpaaF23
namespace Go.Proofs.Ytgdidhbomdfcpaa
open Go.RowKit

theorem earlier_self : ∀ l : List Int, earlier l l = false
  | [] => rfl
  | a :: l => by simp [earlier, earlier_self l]
theorem plansL_sorted (gr n : Nat) : ∀ (f x : Nat), n - x ≤ f → x ≤ n → (plansL gr n x).Pairwise fun a b => earlier b a = false
  | 0, x, hf, hx => by
    obtain rfl : x = n := by omega
    rw [plansL_end]
    simp
  | f + 1, x, hf, hx => by
    by_cases e : x = n
    · subst e
      rw [plansL_end]
      simp
    · rw [plansL_step (by omega), List.pairwise_flatMap]
      refine ⟨fun i hi => ?_, ?_⟩
      · split
        · rename_i h2
          rw [List.pairwise_map]
          exact (plansL_sorted gr n f (x + i + 1) (by omega) h2).imp fun h => by simpa [earlier] using h
        · simp
      · refine (List.pairwise_lt_range (n := gr)).imp fun {i j} hij a ha b hb => ?_
        split at ha
        · split at hb
          · obtain ⟨a', _, rfl⟩ := List.mem_map.1 ha
            obtain ⟨b', _, rfl⟩ := List.mem_map.1 hb
            rw [earlier, if_neg (by omega)]
            simp
            omega
          · simp at hb
        · simp at ha
theorem plansB_sorted (b : Bf) : (plansB b).Pairwise fun x y => earlier y x = false := plansL_sorted (grN b) b.hs.length b.hs.length 0 (by omega) (by omega)
/-- What is so of the best plan and any other one. -/
theorem best_few {b : Bf} (hok : BfOk b) : ∃ p, bestO (rankQ b) (plansB b) = some p ∧ planB b p = true ∧ ∀ q, planB b q = true →
    (handL b p).length ≤ (handL b q).length ∧ ((handL b q).length ≤ (handL b p).length → q.length ≤ p.length ∧ (q.length = p.length → earlier q p = false)) := by
  obtain ⟨j, hj, e, h1, h2⟩ := bestO_least (rankQ b) (plansB b) (plansB b).length (Nat.le_refl _) (plansB_pos hok.g1)
  rw [List.take_length] at e
  have hm := plansB_at hj
  have hpp := (plansB_iff hok.g1 _).1 hm
  refine ⟨_, e, hpp, fun q hq => ?_⟩
  obtain ⟨i, hi, hiq⟩ := List.getElem_of_mem ((plansB_iff hok.g1 q).2 hq)
  have hid : (plansB b).getD i [] = q := by simp [List.getD, List.getElem?_eq_getElem hi, hiq]
  have hr := h1 i hi
  rw [hid] at hr
  have l1 := plan_len hpp
  have l2 := plan_len hq
  have h8 := hok.n8
  have hr2 : i < j → rankQ b ((plansB b).getD j []) < rankQ b q := fun h => by have := h2 i h; rwa [hid] at this
  have hsort : j < i → earlier q ((plansB b).getD j []) = false := fun h => by
    have hs := List.pairwise_iff_getElem.1 (plansB_sorted b) j i hj hi h
    rw [hiq] at hs
    have ej : (plansB b).getD j [] = (plansB b)[j] := by simp [List.getD, List.getElem?_eq_getElem hj]
    rw [ej]
    exact hs
  have hself : i = j → earlier q ((plansB b).getD j []) = false := fun h => by subst h; rw [hid]; exact earlier_self q
  generalize (plansB b).getD j [] = p at *
  unfold rankQ at hr hr2
  refine ⟨by omega, fun h => ⟨by omega, fun he => ?_⟩⟩
  rcases Nat.lt_trichotomy i j with h' | h' | h'
  · have := hr2 h'; omega
  · exact hself h'
  · exact hsort h'
/-- What is so of the most boxes that are right, and any plan. -/
theorem best_right {b : Bf} (hok : BfOk b) : ∃ p, bestO (rankR b) (plansB b) = some p ∧ planB b p = true ∧ ∀ q, planB b q = true → (rightL b q).length ≤ (rightL b p).length := by
  obtain ⟨j, hj, e, h1, _⟩ := bestO_least (rankR b) (plansB b) (plansB b).length (Nat.le_refl _) (plansB_pos hok.g1)
  rw [List.take_length] at e
  refine ⟨_, e, (plansB_iff hok.g1 _).1 (plansB_at hj), fun q hq => ?_⟩
  obtain ⟨i, hi, hiq⟩ := List.getElem_of_mem ((plansB_iff hok.g1 q).2 hq)
  have hid : (plansB b).getD i [] = q := by simp [List.getD, List.getElem?_eq_getElem hi, hiq]
  have hr := h1 i hi
  rw [hid] at hr
  unfold rankR at hr
  omega
theorem count_all (b : Bf) (l : List Int) : (handL b l).length + (rightL b l).length = l.length := count_to b l l.length
end Go.Proofs.Ytgdidhbomdfcpaa
