/- The laws' own helper through the layers: a log is copied, and one of its knots is found. -/
import Derived.Test.YticfcdbfplfmlaaTP2
import Derived.Test.YticfcdbfplfmlaaKM
namespace Go.Proofs.Yticfcdbfplfmlaa.Pe
open Go.RowKit Go.Maps

theorem copy_knots3 (w : World) (ks : List K4) (b o c2 : Nat) (hks : KnotsAt w (some ⟨b, o, none⟩) ks) (h1 : 0 < ks.length) (h3 : ks.length ≤ 3) (ty : TypeId) (z : Nat) :
    ∃ g cap cur w', (Builtin.append_ #[23, 23] ty #[.slice (some ⟨z, 0, none⟩) 0 0, .slice (some ⟨b, o, none⟩) ks.length c2]).run Try.prog w = .ok (.slice (some ⟨g, 0, none⟩) ks.length cap) w' ∧ Row w' g cur 32 ∧ w.heap.size ≤ g ∧ cur.toList.take (ks.length * 4) = knotVals ks ∧ ks.length ≤ cap ∧ Below w.heap.size w w' := by
  obtain ⟨i0, hi, hi0, hi1, hi2⟩ := info_parts Try.infoKnot
  obtain ⟨v', w', hr, hown, hg⟩ := run_append_arg_grows (P := Try.prog) w 23 ty 32 i0 _ 4 32 Try.underlying23 hi hi0 hi1 hi2 rfl (by decide) ⟨z, 0, none⟩ 0 0 [] rfl (fun j u h => by simp at h)
      ⟨b, o, none⟩ ks.length c2 (knotVals ks) (knotVals_length ks) (fun j u h => by rw [Addr.add_lit]; exact hks.cells j u h) (by omega) (by unfold maxLen; omega) (by omega)
  rw [List.nil_append, Nat.zero_add] at hown
  rcases hown.2 with ⟨_, hn⟩ | ⟨g, cap, cur, hv, hg0, hh, h1, h2, h3, h4⟩
  · omega
  · exact ⟨g, cap, cur, w', by rw [hr, hv], hh, hg0, h4, h1, ⟨hg.os, hg.tape, hg.output, hg.size, fun k hk => hg.block k hk (by simp)⟩⟩
theorem knotVals_set3 : ∀ (ks : List K4) (k : Nat) (q : K4), knotVals (ks.set k q) = ((((knotVals ks).set (k * 4) (.int .i64 q.al)).set (k * 4 + 1) (.int .i64 q.ah)).set (k * 4 + 2) (.int .i64 q.fl)).set (k * 4 + 3) (.int .i64 q.fh)
  | [], _, _ => by simp [knotVals]
  | x :: ks, 0, q => by simp [knotVals, K4.A]
  | x :: ks, k + 1, q => by
    have ih := knotVals_set3 ks k q
    have e0 : (k + 1) * 4 = k * 4 + 1 + 1 + 1 + 1 := by omega
    rw [List.set_cons_succ]
    simp only [e0]
    simp only [knotVals, List.flatMap_cons, K4.A] at ih ⊢
    simp only [List.cons_append, List.nil_append, List.set_cons_succ]
    rw [ih]
/-- Of a copy the cells of a knot. -/
theorem cur_cells {ks : List K4} {cur : Array Value} (ht : cur.toList.take (ks.length * 4) = knotVals ks) {k : Nat} (hk : k < ks.length) : cur[k * 4]? = some (.int .i64 ks[k].al) ∧ cur[k * 4 + 1]? = some (.int .i64 ks[k].ah) ∧ cur[k * 4 + 2]? = some (.int .i64 ks[k].fl) ∧ cur[k * 4 + 3]? = some (.int .i64 ks[k].fh) := by
  have key : ∀ j u, (knotVals ks)[j]? = some u → cur[j]? = some u := fun j u hj => by
    have hl : j < ks.length * 4 := by
      have := (List.getElem?_eq_some_iff.1 hj).1
      rwa [knotVals_length] at this
    rw [← ht, List.getElem?_take_of_lt hl] at hj
    simpa using hj
  obtain ⟨a0, a1, a2, a3⟩ := knotVals_at hk
  exact ⟨key _ _ a0, key _ _ a1, key _ _ a2, key _ _ a3⟩
theorem knots_set3 {w : World} {g : Nat} {ks : List K4} {cur : Array Value} {k : Nat} {q : K4} (hg : Row w g ((((cur.setIfInBounds (k * 4) (.int .i64 q.al)).setIfInBounds (k * 4 + 1) (.int .i64 q.ah)).setIfInBounds (k * 4 + 2) (.int .i64 q.fl)).setIfInBounds (k * 4 + 3) (.int .i64 q.fh)) 32) (ht : cur.toList.take (ks.length * 4) = knotVals ks) : KnotsAt w (some ⟨g, 0, none⟩) (ks.set k q) := by
  refine knots_of_cells fun i u hi => ?_
  rw [Nat.zero_add]
  refine hg.cell i ?_
  have hlt : i < ks.length * 4 := by
    have := (List.getElem?_eq_some_iff.1 hi).1
    rwa [knotVals_length, List.length_set] at this
  rw [knotVals_set3, ← ht, ← List.take_set, ← List.take_set, ← List.take_set, ← List.take_set, List.getElem?_take_of_lt hlt] at hi
  rw [← Array.getElem?_toList]
  simpa using hi

end Go.Proofs.Yticfcdbfplfmlaa.Pe
