/- The walks of layer 3: lists that are copied; a book with a damp that is known, a frame that stays longer. -/
import Derived.Test.YticfcdbfplfmlaaTuUF5
import Derived.Maps.AppendAt
import Derived.ArgAppend
namespace Go.Proofs.Yticfcdbfplfmlaa.Tu
open Go.RowKit Go.Maps
attribute [local go_sem] Oper.semAt_some

theorem Try.infoPart : (Try.prog.info? 59).map (fun i => (i.zero, i.size, i.bytes)) = some (some (.agg #[.int .i64 0, .int .i64 0, .int .i64 0, .int .i64 0, .int .i64 0, .int .i64 0]), 6, 48) := by kernel_rfl
theorem Try.infoFrame : (Try.prog.info? 61).map (fun i => (i.zero, i.size, i.bytes)) = some (some (.agg #[.slice none 0 0, .int .i64 0, .int .i64 0]), 3, 40) := by kernel_rfl
def ptVals (ps : List Pt) : List Value := ps.flatMap fun p => p.A.toList
def frVals (ms : List FrM) : List Value := ms.flatMap fun m => m.A.toList
theorem ptVals_length : ∀ ps : List Pt, (ptVals ps).length = ps.length * 6
  | [] => rfl
  | p :: ps => by
    have := ptVals_length ps
    rw [ptVals] at this ⊢
    rw [List.flatMap_cons, List.length_append, this]
    simp [Pt.A]; omega
theorem frVals_length : ∀ ms : List FrM, (frVals ms).length = ms.length * 3
  | [] => rfl
  | p :: ps => by
    have := frVals_length ps
    rw [frVals] at this ⊢
    rw [List.flatMap_cons, List.length_append, this]
    simp [FrM.A]; omega
/-- A block's cells hold such parts, frames, numbers. -/
def HoldsP (f : Nat → Option Value) (ps : List Pt) : Prop := ∀ i (h : i < ps.length), f (i * 6) = some (.int .i64 ps[i].h0) ∧ f (i * 6 + 1) = some (.int .i64 ps[i].h1) ∧ f (i * 6 + 2) = some (.int .i64 ps[i].h2) ∧ f (i * 6 + 3) = some (.int .i64 ps[i].h3) ∧ f (i * 6 + 4) = some (.int .i64 ps[i].lo) ∧ f (i * 6 + 5) = some (.int .i64 ps[i].hi)
def HoldsF (f : Nat → Option Value) (ms : List FrM) : Prop := ∀ i (h : i < ms.length), f (i * 3) = some (.slice ms[i].p ms[i].f.stay.length ms[i].c) ∧ f (i * 3 + 1) = some (.int .i64 ms[i].f.lo) ∧ f (i * 3 + 2) = some (.int .i64 ms[i].f.hi)
def HoldsI (f : Nat → Option Value) (xs : List Int) : Prop := ∀ i, i < xs.length → f i = some (.int .i64 (at0 xs i))
theorem ptVals_at : ∀ (ps : List Pt), HoldsP (fun j => (ptVals ps)[j]?) ps
  | [], _, h => by simp at h
  | p :: ps, 0, _ => by simp [ptVals, Pt.A]
  | p :: ps, i + 1, h => by
    have := ptVals_at ps i (by simpa using h)
    have e : (i + 1) * 6 = i * 6 + 6 := by omega
    have key : ∀ d, (ptVals (p :: ps))[(i + 1) * 6 + d]? = (ptVals ps)[i * 6 + d]? := fun d => by
      rw [ptVals, List.flatMap_cons, List.getElem?_append_right (by simp [Pt.A]; omega)]
      simp only [Pt.A, List.length_cons, List.length_nil]
      congr 1
      omega
    have k0 := key 0
    simp only [Nat.add_zero] at k0
    simp only [List.getElem_cons_succ]
    exact ⟨k0.trans this.1, (key 1).trans this.2.1, (key 2).trans this.2.2.1, (key 3).trans this.2.2.2.1, (key 4).trans this.2.2.2.2.1, (key 5).trans this.2.2.2.2.2⟩
theorem frVals_at : ∀ (ms : List FrM), HoldsF (fun j => (frVals ms)[j]?) ms
  | [], _, h => by simp at h
  | p :: ps, 0, _ => by simp [frVals, FrM.A]
  | p :: ps, i + 1, h => by
    have := frVals_at ps i (by simpa using h)
    have key : ∀ d, (frVals (p :: ps))[(i + 1) * 3 + d]? = (frVals ps)[i * 3 + d]? := fun d => by
      rw [frVals, List.flatMap_cons, List.getElem?_append_right (by simp [FrM.A]; omega)]
      simp only [FrM.A, List.length_cons, List.length_nil]
      congr 1
      omega
    have k0 := key 0
    simp only [Nat.add_zero] at k0
    simp only [List.getElem_cons_succ]
    exact ⟨k0.trans this.1, (key 1).trans this.2.1, (key 2).trans this.2.2⟩
theorem PtsAt.cells {w : World} {b o : Nat} {ps : List Pt} (h : PtsAt w (some ⟨b, o, none⟩) ps) : ∀ j u, (ptVals ps)[j]? = some u → w.cell? ⟨b, o + j, none⟩ = some u := by
  intro j u hj
  have hlt : j < ps.length * 6 := by rw [← ptVals_length]; exact (List.getElem?_eq_some_iff.1 hj).1
  have hi : j / 6 < ps.length := by omega
  have hcs : j = j / 6 * 6 ∨ j = j / 6 * 6 + 1 ∨ j = j / 6 * 6 + 2 ∨ j = j / 6 * 6 + 3 ∨ j = j / 6 * 6 + 4 ∨ j = j / 6 * 6 + 5 := by omega
  generalize j / 6 = q at *
  obtain ⟨b', o', e, h0, h1, h2, h3, h4, h5⟩ := h q hi
  cases e
  obtain ⟨a0, a1, a2, a3, a4, a5⟩ := ptVals_at ps q hi
  dsimp only at a0 a1 a2 a3 a4 a5
  rcases hcs with rfl | rfl | rfl | rfl | rfl | rfl
  · rw [a0] at hj; cases hj; exact h0
  · rw [a1] at hj; cases hj; exact h1
  · rw [a2] at hj; cases hj; exact h2
  · rw [a3] at hj; cases hj; exact h3
  · rw [a4] at hj; cases hj; exact h4
  · rw [a5] at hj; cases hj; exact h5
theorem FrsAt.cells {w : World} {b o : Nat} {ms : List FrM} (h : FrsAt w (some ⟨b, o, none⟩) ms) : ∀ j u, (frVals ms)[j]? = some u → w.cell? ⟨b, o + j, none⟩ = some u := by
  intro j u hj
  have hlt : j < ms.length * 3 := by rw [← frVals_length]; exact (List.getElem?_eq_some_iff.1 hj).1
  have hi : j / 3 < ms.length := by omega
  have hcs : j = j / 3 * 3 ∨ j = j / 3 * 3 + 1 ∨ j = j / 3 * 3 + 2 := by omega
  generalize j / 3 = q at *
  obtain ⟨b', o', e, h0, h1, h2, _⟩ := h q hi
  cases e
  obtain ⟨a0, a1, a2⟩ := frVals_at ms q hi
  dsimp only at a0 a1 a2
  rcases hcs with rfl | rfl | rfl
  · rw [a0] at hj; cases hj; exact h0
  · rw [a1] at hj; cases hj; exact h1
  · rw [a2] at hj; cases hj; exact h2
theorem pts_row {w : World} {g : Nat} {cur : Array Value} {t : TypeId} {ps : List Pt} (hr : Row w g cur t) (h : HoldsP (cur[·]?) ps) : PtsAt w (some ⟨g, 0, none⟩) ps := by
  intro i hi
  obtain ⟨h0, h1, h2, h3, h4, h5⟩ := h i hi
  refine ⟨g, 0, rfl, ?_⟩
  simp only [Nat.zero_add]
  exact ⟨hr.cell _ h0, hr.cell _ h1, hr.cell _ h2, hr.cell _ h3, hr.cell _ h4, hr.cell _ h5⟩
theorem frs_row {w : World} {g : Nat} {cur : Array Value} {t : TypeId} {ms : List FrM} (hr : Row w g cur t) (h : HoldsF (cur[·]?) ms) (hi : ∀ i (h : i < ms.length), IntsAt w ms[i].p ms[i].f.stay) : FrsAt w (some ⟨g, 0, none⟩) ms := by
  intro i hl
  obtain ⟨h0, h1, h2⟩ := h i hl
  refine ⟨g, 0, rfl, ?_⟩
  simp only [Nat.zero_add]
  exact ⟨hr.cell _ h0, hr.cell _ h1, hr.cell _ h2, hi i hl⟩
theorem ints_rowI {w : World} {g : Nat} {cur : Array Value} {t : TypeId} {xs : List Int} (hr : Row w g cur t) (h : HoldsI (cur[·]?) xs) : IntsAt w (some ⟨g, 0, none⟩) xs := fun i hi => ⟨g, 0, rfl, by rw [Nat.zero_add]; exact hr.cell i (h i hi)⟩
theorem cur_of_take {cur : Array Value} {n : Nat} {vs : List Value} (h : cur.toList.take n = vs) {j : Nat} {u : Value} (hj : vs[j]? = some u) : cur[j]? = some u := by
  subst h
  have hl : j < n := by
    have := (List.getElem?_eq_some_iff.1 hj).1
    rw [List.length_take] at this; omega
  rw [List.getElem?_take_of_lt hl] at hj
  simpa using hj
/-- What a copy leaves: a block of its own. -/
def Copied (n : Nat) (v : Value) (g : Nat) (cap : Nat) (cur : Array Value) (t : TypeId) (w w' : World) : Prop :=
  v = .slice (some ⟨g, 0, none⟩) n cap ∧ Row w' g cur t ∧ w.heap.size ≤ g ∧ n ≤ cap ∧ Below w.heap.size w w'
theorem copy_parts (w : World) (ps : List Pt) (b o c : Nat) (h : PtsAt w (some ⟨b, o, none⟩) ps) (h1 : 0 < ps.length) (h3 : ps.length ≤ 10) (ty : TypeId) (z : Nat) :
    ∃ v g cap cur w', (Builtin.append_ #[51, 51] ty #[.slice (some ⟨z, 0, none⟩) 0 0, .slice (some ⟨b, o, none⟩) ps.length c]).run Try.prog w = .ok v w' ∧ Copied ps.length v g cap cur 59 w w' ∧ HoldsP (cur[·]?) ps := by
  obtain ⟨i0, hi, hi0, hi1, hi2⟩ := info_parts Try.infoPart
  obtain ⟨v', w', hr, hown, hg⟩ := run_append_arg_grows (P := Try.prog) w 51 ty 59 i0 _ 6 48 Try.underlying51 hi hi0 hi1 hi2 rfl (by decide) ⟨z, 0, none⟩ 0 0 [] rfl (fun j u h => by simp at h)
      ⟨b, o, none⟩ ps.length c (ptVals ps) (ptVals_length ps) (fun j u hj => by rw [Addr.add_lit]; exact h.cells j u hj) (by omega) (by unfold maxLen; omega) (by omega)
  rw [List.nil_append, Nat.zero_add] at hown
  rcases hown.2 with ⟨_, hn⟩ | ⟨g, cap, cur, hv, hg0, hh, h1, h2, h3, h4⟩
  · omega
  · refine ⟨v', g, cap, cur, w', hr, ⟨hv, hh, hg0, h1, ⟨hg.os, hg.tape, hg.output, hg.size, fun k hk => hg.block k hk (by simp)⟩⟩, fun i hi => ?_⟩
    obtain ⟨a0, a1, a2, a3, a4, a5⟩ := ptVals_at ps i hi
    exact ⟨cur_of_take h4 a0, cur_of_take h4 a1, cur_of_take h4 a2, cur_of_take h4 a3, cur_of_take h4 a4, cur_of_take h4 a5⟩
theorem copy_frames (w : World) (ms : List FrM) (b o c : Nat) (h : FrsAt w (some ⟨b, o, none⟩) ms) (h1 : 0 < ms.length) (h3 : ms.length ≤ 10) (ty : TypeId) (z : Nat) :
    ∃ v g cap cur w', (Builtin.append_ #[52, 52] ty #[.slice (some ⟨z, 0, none⟩) 0 0, .slice (some ⟨b, o, none⟩) ms.length c]).run Try.prog w = .ok v w' ∧ Copied ms.length v g cap cur 61 w w' ∧ HoldsF (cur[·]?) ms := by
  obtain ⟨i0, hi, hi0, hi1, hi2⟩ := info_parts Try.infoFrame
  obtain ⟨v', w', hr, hown, hg⟩ := run_append_arg_grows (P := Try.prog) w 52 ty 61 i0 _ 3 40 Try.underlying52 hi hi0 hi1 hi2 rfl (by decide) ⟨z, 0, none⟩ 0 0 [] rfl (fun j u h => by simp at h)
      ⟨b, o, none⟩ ms.length c (frVals ms) (frVals_length ms) (fun j u hj => by rw [Addr.add_lit]; exact h.cells j u hj) (by omega) (by unfold maxLen; omega) (by omega)
  rw [List.nil_append, Nat.zero_add] at hown
  rcases hown.2 with ⟨_, hn⟩ | ⟨g, cap, cur, hv, hg0, hh, h1, h2, h3, h4⟩
  · omega
  · refine ⟨v', g, cap, cur, w', hr, ⟨hv, hh, hg0, h1, ⟨hg.os, hg.tape, hg.output, hg.size, fun k hk => hg.block k hk (by simp)⟩⟩, fun i hi => ?_⟩
    obtain ⟨a0, a1, a2⟩ := frVals_at ms i hi
    exact ⟨cur_of_take h4 a0, cur_of_take h4 a1, cur_of_take h4 a2⟩
theorem copy_ints (w : World) (xs : List Int) (b o c : Nat) (h : IntsAt w (some ⟨b, o, none⟩) xs) (h1 : 0 < xs.length) (h3 : xs.length ≤ 10) (ty : TypeId) (z : Nat) :
    ∃ v g cap cur w', (Builtin.append_ #[22, 22] ty #[.slice (some ⟨z, 0, none⟩) 0 0, .slice (some ⟨b, o, none⟩) xs.length c]).run Try.prog w = .ok v w' ∧ Copied xs.length v g cap cur 3 w w' ∧ HoldsI (cur[·]?) xs := by
  obtain ⟨i0, hi, hi0, hi1, hi2⟩ := info_parts Try.infoInt
  obtain ⟨v', w', hr, hown, hg⟩ := run_append_arg_grows (P := Try.prog) w 22 ty 3 i0 _ 1 8 Try.underlying22 hi hi0 hi1 hi2 rfl (by decide) ⟨z, 0, none⟩ 0 0 [] rfl (fun j u h => by simp at h)
      ⟨b, o, none⟩ xs.length c (xs.map (Value.int .i64)) (by simp) (fun j u hj => by
        rw [Addr.add_lit]
        have hl : j < xs.length := by have := (List.getElem?_eq_some_iff.1 hj).1; simpa using this
        obtain ⟨b', o', e, hc⟩ := h j hl
        cases e
        rw [hc]
        rw [List.getElem?_map, List.getElem?_eq_getElem hl] at hj
        rw [at0_lt hl]; simpa using hj) (by omega) (by unfold maxLen; omega) (by omega)
  rw [List.nil_append, Nat.zero_add] at hown
  rcases hown.2 with ⟨_, hn⟩ | ⟨g, cap, cur, hv, hg0, hh, h1, h2, h3, h4⟩
  · omega
  · refine ⟨v', g, cap, cur, w', hr, ⟨hv, hh, hg0, h1, ⟨hg.os, hg.tape, hg.output, hg.size, fun k hk => hg.block k hk (by simp)⟩⟩, fun i hi => ?_⟩
    rw [Nat.mul_one] at h4
    exact cur_of_take h4 (by rw [List.getElem?_map, List.getElem?_eq_getElem hi, at0_lt hi]; rfl)
end Go.Proofs.Yticfcdbfplfmlaa.Tu
