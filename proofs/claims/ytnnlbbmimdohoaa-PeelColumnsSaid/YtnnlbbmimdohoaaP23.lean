/- The walks of layer 1: a list of knots without one of them, by 'append'. -/
import Derived.Test.YtnnlbbmimdohoaaP14
import Derived.ArgAppend
import Derived.Deep.Upon
namespace Go.Proofs.Ytnnlbbmimdohoaa
open Go.RowKit Go.Maps
attribute [local go_sem] Oper.semAt_some

/-- The cells of knots. -/
def knotVals (ks : List K4) : List Value := ks.flatMap fun k => k.A.toList
theorem knotVals_length : ∀ ks : List K4, (knotVals ks).length = ks.length * 4
  | [] => rfl
  | k :: ks => by
    have := knotVals_length ks
    rw [knotVals] at this ⊢
    rw [List.flatMap_cons, List.length_append, this]
    simp [K4.A]; omega
theorem knotVals_at : ∀ {ks : List K4} {i : Nat} (h : i < ks.length), (knotVals ks)[i * 4]? = some (.int .i64 ks[i].al) ∧ (knotVals ks)[i * 4 + 1]? = some (.int .i64 ks[i].ah) ∧ (knotVals ks)[i * 4 + 2]? = some (.int .i64 ks[i].fl) ∧ (knotVals ks)[i * 4 + 3]? = some (.int .i64 ks[i].fh)
  | [], _, h => by simp at h
  | k :: ks, 0, _ => by simp [knotVals, K4.A]
  | k :: ks, i + 1, h => by
    have := knotVals_at (ks := ks) (i := i) (by simpa using h)
    have e0 : (i + 1) * 4 = i * 4 + 1 + 1 + 1 + 1 := by omega
    have e1 : (i + 1) * 4 + 1 = i * 4 + 1 + 1 + 1 + 1 + 1 := by omega
    have e2 : (i + 1) * 4 + 2 = i * 4 + 2 + 1 + 1 + 1 + 1 := by omega
    have e3 : (i + 1) * 4 + 3 = i * 4 + 3 + 1 + 1 + 1 + 1 := by omega
    rw [e1, e2, e3, e0]
    simpa [knotVals, K4.A] using this
theorem KnotsAt.cells {w : World} {b o : Nat} {ks : List K4} (h : KnotsAt w (some ⟨b, o, none⟩) ks) : ∀ j u, (knotVals ks)[j]? = some u → w.cell? ⟨b, o + j, none⟩ = some u := by
  intro j u hj
  have hlt : j < ks.length * 4 := by rw [← knotVals_length]; exact (List.getElem?_eq_some_iff.1 hj).1
  have hi : j / 4 < ks.length := by omega
  have hcs : j = j / 4 * 4 ∨ j = j / 4 * 4 + 1 ∨ j = j / 4 * 4 + 2 ∨ j = j / 4 * 4 + 3 := by omega
  generalize j / 4 = q at *
  obtain ⟨b', o', e, h0, h1, h2, h3⟩ := h q hi
  cases e
  obtain ⟨a0, a1, a2, a3⟩ := knotVals_at hi
  rcases hcs with rfl | rfl | rfl | rfl
  · rw [a0] at hj; cases hj; exact h0
  · rw [a1] at hj; cases hj; exact h1
  · rw [a2] at hj; cases hj; exact h2
  · rw [a3] at hj; cases hj; exact h3
theorem knots_of_cells {w : World} {b o : Nat} {ks : List K4} (h : ∀ j u, (knotVals ks)[j]? = some u → w.cell? ⟨b, o + j, none⟩ = some u) : KnotsAt w (some ⟨b, o, none⟩) ks := by
  intro i hi
  obtain ⟨a0, a1, a2, a3⟩ := knotVals_at hi
  exact ⟨b, o, rfl, h _ _ a0, h _ _ a1, h _ _ a2, h _ _ a3⟩
theorem knotVals_append (a b : List K4) : knotVals (a ++ b) = knotVals a ++ knotVals b := List.flatMap_append
theorem knotVals_one (ks : List K4) : ∀ u ∈ knotVals ks, u.oneCell' = true := by
  intro u hu
  simp only [knotVals, List.mem_flatMap] at hu
  obtain ⟨k, _, hu⟩ := hu
  simp [K4.A] at hu
  rcases hu with rfl | rfl | rfl | rfl <;> rfl
theorem KnotsAt.drop {w : World} {b o : Nat} {ks : List K4} (h : KnotsAt w (some ⟨b, o, none⟩) ks) (n : Nat) : KnotsAt w (some ⟨b, o + n * 4, none⟩) (ks.drop n) := by
  intro i hi
  rw [List.length_drop] at hi
  obtain ⟨b', o', e, h0, h1, h2, h3⟩ := h (n + i) (by omega)
  cases e
  refine ⟨b, o + n * 4, rfl, ?_⟩
  rw [show o + n * 4 + i * 4 = o + (n + i) * 4 by omega]
  simp only [List.getElem_drop]
  exact ⟨h0, h1, h2, h3⟩
theorem KnotsAt.take {w : World} {p : Option Addr} {ks : List K4} (h : KnotsAt w p ks) (n : Nat) : KnotsAt w p (ks.take n) := by
  intro i hi
  rw [List.length_take] at hi
  have := h i (by omega)
  simp only [List.getElem_take]
  exact this

theorem wp_append_run {P : Program} {o : Oper} {a : Act} {w w' : World} {Q : Exit → Act → World → Prop} {K : Act → World → Prop} (s x : Operand) (t t' : TypeId) (ho : o.op = Op.call { callee := Callee.builtin Builtin.append, args := #[s, x], argTypes := #[t, t'] }) (vs vx v : Value) (hs : a.eval s = vs) (hx : a.eval x = vx)
    (hr : (Builtin.append_ #[t, t'] o.type #[vs, vx]).run P w = .ok v w') (h : K (a.put o.dst v) w') : o.wp P a w K Q := by
  unfold Oper.wp
  simp [execOp, ho, resolve, invoke, builtin, hs, hx, hr, Result.andThen]
  exact h
theorem Try.infoKnot : (Try.prog.info? 61).map (fun i => (i.zero, i.size, i.bytes)) = some (some (.agg #[.int .i64 0, .int .i64 0, .int .i64 0, .int .i64 0]), 4, 32) := by kernel_rfl

/-- One knot is left out. -/
theorem append_knots (w : World) (ks : List K4) (p2 : Option Addr) (k : Nat) (hk : k < ks.length) (hks : KnotsAt w p2 ks) (h3 : ks.length ≤ 3) (ty : TypeId) (q : Option Addr) (c' : Nat) (hq : KnotsAt w q (ks.drop (k + 1))) :
    ∃ p c w', (Builtin.append_ #[23, 23] ty #[.slice p2 k k, .slice q (ks.length - (k + 1)) c']).run Try.prog w = .ok (.slice p (ks.eraseIdx k).length c) w' ∧ KnotsAt w' p (ks.eraseIdx k) ∧ Below w.heap.size w w' := by
  obtain ⟨i0, hi, hi0, hi1, hi2⟩ := info_parts Try.infoKnot
  have he : ks.eraseIdx k = ks.take k ++ ks.drop (k + 1) := List.eraseIdx_eq_take_drop_succ ks k
  have hel : (ks.eraseIdx k).length = k + (ks.length - (k + 1)) := by rw [he, List.length_append, List.length_take, List.length_drop]; omega
  rw [hel]
  obtain ⟨b, o, rfl, _⟩ := hks 0 (by omega)
  rcases Nat.eq_zero_or_pos (ks.length - (k + 1)) with h0 | h0
  · rw [h0, Nat.add_zero]
    have hsrc : Src Try.prog i0.size 23 (.slice q 0 c') 0 [] w := by
      cases q with
      | none => exact Src.ofNil w Try.underlying23 c'
      | some a => exact Src.ofSlice w Try.underlying23 a 0 c' [] (by simp) (by simp) (by simp)
    refine ⟨_, _, _, run_append_nothing w 23 23 ty 61 i0 Try.underlying23 hi _ k k (Nat.le_refl _) _ hsrc, ?_, Below.refl _ _⟩
    rw [he, List.drop_eq_nil_of_le (by omega), List.append_nil]
    exact hks.take k
  · obtain ⟨b', o', rfl, _⟩ := hq 0 (by rw [List.length_drop]; omega)
    have hlt : (ks.take k).length = k := by rw [List.length_take]; omega
    obtain ⟨v', w', hr, hown, hg⟩ := run_append_arg_grows (P := Try.prog) w 23 ty 61 i0 _ 4 32 Try.underlying23 hi hi0 hi1 hi2 rfl (by decide) ⟨b, o, none⟩ k k (knotVals (ks.take k)) (by rw [knotVals_length, hlt]) (fun j u h => by rw [Addr.add_lit]; exact (hks.take k).cells j u h)
      ⟨b', o', none⟩ (ks.length - (k + 1)) c' (knotVals (ks.drop (k + 1))) (by rw [knotVals_length, List.length_drop]) (fun j u h => by rw [Addr.add_lit]; exact hq.cells j u h) (by omega) (by unfold maxLen; omega) (by omega)
    rw [← knotVals_append, ← he] at hown
    rcases hown.2 with ⟨_, hn⟩ | ⟨g, cap, cur, hv, hg0, hh, h1, h2, h3, h4⟩
    · omega
    · refine ⟨_, _, w', by rw [hr, hv], ?_, ⟨hg.os, hg.tape, hg.output, hg.size, fun k hk => hg.block k hk (by simp)⟩⟩
      refine knots_of_cells fun j u hj => ?_
      rw [cell_of_row w' g (0 + j) cur _ (0, 0) hh, Nat.zero_add]
      have hjl : j < (k + (ks.length - (k + 1))) * 4 := by
        have := (List.getElem?_eq_some_iff.1 hj).1
        rw [knotVals_length, hel] at this
        exact this
      rw [← h4, List.getElem?_take_of_lt hjl] at hj
      simpa using hj

end Go.Proofs.Ytnnlbbmimdohoaa
