/- The walks of layer 5: what is left, compared; plans, piece by piece. -/
import Derived.Test.YtgdidhbomdfcpaaF19
namespace Go.Proofs.Ytgdidhbomdfcpaa
open Go.RowKit Go.Maps
attribute [local go_sem] Oper.semAt_some

def boolsA (l : List Bool) : Array Value := (l.map Value.bool).toArray
theorem all_range_bools : ∀ (xs ys : List Bool), xs.length = ys.length → ((List.range xs.length).all fun i => xs.getD i false == ys.getD i false) = (xs == ys)
  | [], [], _ => rfl
  | x :: xs, y :: ys, h => by
    have ih := all_range_bools xs ys (by simpa using h)
    rw [List.length_cons, List.range_succ_eq_map, List.all_cons, List.all_map]
    simp only [List.getD_cons_zero, Function.comp_def, List.getD_cons_succ, ih, List.cons_beq_cons]
  | [], _ :: _, h => by simp at h
  | _ :: _, [], h => by simp at h
/-- Two arrays of bools, compared. -/
theorem eq_bools {P : Program} (d : Nat) (t e : TypeId) (n : Nat) (ht : P.underlying t = some (.array n e)) (he : P.underlying e = some .bool) (hsz : ∀ w, (sizeOf e).run P w = .ok 1 w)
    (xs ys : List Bool) (hx : xs.length = n) (hy : ys.length = n) (w : World) :
    (Op.equalIn (d + 2) t (.agg (boolsA xs)) (.agg (boolsA ys))).run P w = .ok (xs == ys) w := by
  rw [← all_range_bools xs ys (hx.trans hy.symm), hx, List.range_eq_range', Op.equalIn]
  simp only [Sem.run_bind, run_underlying ht, Result.andThen_ok, hsz, Std.Legacy.Range.forIn_eq_forIn_range', Std.Legacy.Range.size, Nat.sub_zero, Nat.add_sub_cancel, Nat.div_one]
  have hl : ∀ i ∈ List.range' 0 n 1, i < n := fun i hi => by simpa using (List.mem_range'_1.1 hi).2
  generalize List.range' 0 n 1 = l at hl ⊢
  induction l with
  | nil => simp
  | cons i l ih =>
    have hi : i < n := hl i (by simp)
    have px : (part e (boolsA xs) (i * 1)).run P w = .ok (.bool (xs.getD i false)) w := by
      simp [part, isAgg, run_underlying he, boolsA, List.getD, List.getElem?_eq_getElem (show i < xs.length by omega)]
    have py : (part e (boolsA ys) (i * 1)).run P w = .ok (.bool (ys.getD i false)) w := by
      simp [part, isAgg, run_underlying he, boolsA, List.getD, List.getElem?_eq_getElem (show i < ys.length by omega)]
    have pe : (Op.equalIn (d + 1) e (.bool (xs.getD i false)) (.bool (ys.getD i false))).run P w = .ok (xs.getD i false == ys.getD i false) w := run_equalIn_bool w d e _ _ he
    simp only [List.forIn_cons, Sem.run_bind, px, py, pe, Result.andThen_ok, List.all_cons]
    cases hb : (xs.getD i false == ys.getD i false)
    · simp
    · simp only [Bool.not_true, Bool.false_eq_true, if_false, Sem.run_pure, Result.andThen_ok, Bool.true_and]
      exact ih fun j hj => hl j (by simp [hj])
/-- The handfuls from one on are left. -/
def leftR (x n : Nat) : Array Value := leftF (fun i => decide (x ≤ i ∧ i < n))
theorem leftR_all (n : Nat) : leftF (fun i => decide (i < n)) = leftR 0 n := leftF_congr fun i _ => by simp
theorem leftR_set {x n : Nat} (hx : x < 8) : (leftR x n).setIfInBounds x (.bool false) = leftR (x + 1) n := by
  unfold leftR
  rw [leftF_set _ hx]
  refine leftF_congr fun i _ => ?_
  by_cases h : i = x
  · subst h; simp; omega
  · simp only [if_neg h]
    exact decide_eq_decide.2 (by omega)
theorem leftR_bools (x n : Nat) : leftR x n = boolsA [decide (x ≤ 0 ∧ 0 < n), decide (x ≤ 1 ∧ 1 < n), decide (x ≤ 2 ∧ 2 < n), decide (x ≤ 3 ∧ 3 < n), decide (x ≤ 4 ∧ 4 < n), decide (x ≤ 5 ∧ 5 < n), decide (x ≤ 6 ∧ 6 < n), decide (x ≤ 7 ∧ 7 < n)] := rfl
theorem eq_left (x n : Nat) (hn : n ≤ 8) (w : World) : (binOp .eql 130 (.agg (leftR x n)) (.agg #[.bool false, .bool false, .bool false, .bool false, .bool false, .bool false, .bool false, .bool false])).run Try.prog w = .ok (.bool (decide (n ≤ x))) w := by
  rw [run_eql_struct, leftR_bools, show (#[.bool false, .bool false, .bool false, .bool false, .bool false, .bool false, .bool false, .bool false] : Array Value) = boolsA [false, false, false, false, false, false, false, false] from rfl,
    eq_bools 9998 130 4 8 (by kernel_rfl) (by kernel_rfl) (fun w => by simp [go_sem]) _ _ rfl rfl]
  have e : ([decide (x ≤ 0 ∧ 0 < n), decide (x ≤ 1 ∧ 1 < n), decide (x ≤ 2 ∧ 2 < n), decide (x ≤ 3 ∧ 3 < n), decide (x ≤ 4 ∧ 4 < n), decide (x ≤ 5 ∧ 5 < n), decide (x ≤ 6 ∧ 6 < n), decide (x ≤ 7 ∧ 7 < n)] == [false, false, false, false, false, false, false, false]) = decide (n ≤ x) := by
    rw [Bool.eq_iff_iff]
    simp
    omega
  rw [e]
  rfl
theorem flat_none {α β : Type} (f : α → List β) : ∀ (l : List α), (∀ a ∈ l, f a = []) → l.flatMap f = []
  | [], _ => rfl
  | a :: l, h => by
    rw [List.flatMap_cons, h a (by simp), flat_none f l fun b hb => h b (by simp [hb]), List.nil_append]
/-- No box ends behind the last handful. -/
theorem plansTo_stop {gr n x j : Nat} (hx : x < n) (hj : j ≤ gr) (h : j = gr ∨ n ≤ x + j) : plansTo gr n x j = plansL gr n x := by
  rw [← plansTo_all hx]
  obtain ⟨d, rfl⟩ : ∃ d, gr = j + d := ⟨gr - j, by omega⟩
  unfold plansTo
  rw [show List.range (j + d) = List.range j ++ (List.range d).map (j + ·) from List.range_add, List.flatMap_append]
  rw [flat_none _ ((List.range d).map (j + ·)) fun a ha => ?_, List.append_nil]
  obtain ⟨i, hi, rfl⟩ := List.mem_map.1 ha
  have := List.mem_range.1 hi
  rw [if_neg (by omega)]
theorem plansTo_split (gr n x : Nat) {k m : Nat} (h : k ≤ m) : ∃ rest, plansTo gr n x m = plansTo gr n x k ++ rest := by
  obtain ⟨d, rfl⟩ : ∃ d, m = k + d := ⟨m - k, by omega⟩
  clear h
  induction d with
  | zero => exact ⟨[], by simp⟩
  | succ d ih =>
    obtain ⟨r, hr⟩ := ih
    exact ⟨_, by rw [← Nat.add_assoc, plansTo_succ, hr, List.append_assoc]⟩
/-- The plans whose next box ends behind one more handful, among all. -/
theorem plans_split {gr n x k : Nat} (hx : x < n) (hk : k + 1 ≤ gr) (hn : x + k + 1 ≤ n) (pl : List Int) (before after all : List (List Int)) (h : all = before ++ (plansL gr n x).map (pl ++ ·) ++ after) :
    ∃ after', all = (before ++ (plansTo gr n x k).map (pl ++ ·)) ++ (plansL gr n (x + k + 1)).map ((pl ++ [((x + k + 1 : Nat) : Int)]) ++ ·) ++ after' := by
  obtain ⟨r, hr⟩ := plansTo_split gr n x hk
  rw [plansTo_all hx, plansTo_succ, if_pos hn] at hr
  refine ⟨r.map (pl ++ ·) ++ after, ?_⟩
  rw [h, hr]
  simp [Function.comp_def]
theorem plansTo_len {gr n x k : Nat} (hn : x + k + 1 ≤ n) : (plansTo gr n x (k + 1)).length = (plansTo gr n x k).length + (plansL gr n (x + k + 1)).length := by
  rw [plansTo_succ, if_pos hn]
  simp
end Go.Proofs.Ytgdidhbomdfcpaa
