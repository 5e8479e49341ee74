/- The map of trails: what it holds at a place. -/
import Derived.Test.YtnnlbbmimdohoaaP5
import Derived.Maps.Keyed
import Derived.Maps.Own
import Derived.Maps.OwnOps
import Derived.Maps.Views
import Derived.DeepKeys4
namespace Go.Proofs.Ytnnlbbmimdohoaa
open Go.RowKit Go.Maps

def RV (v : Value) : Option (DataW Value × List MemPlace) := some (.held v, [])
theorem Try.laidOut' : laidOutB Try.prog = true := by kernel_rfl
theorem placeKeyed : Keyed Try.prog 80 :=
  Keyed.of_law (deep_law_laid Try.laidOut' (m := 5) (by decide) (by decide +kernel) (by kernel_rfl) (by kernel_rfl))
def klit (a t : Int) : Lit := .string (keyBytes [.int .i64 a, .int .i64 t])
theorem lits_place (m : Nat) {a t : Int} (h1 : (Lit.int .i64 a).wf = true) (h2 : (Lit.int .i64 t).wf = true) : Try.prog.keyLits (m + 1 + 1) 80 [.int .i64 a, .int .i64 t] = some [.int .i64 a, .int .i64 t] := by
  have c80 : Try.prog.cellsOf 80 = 2 := by kernel_rfl
  have c3 : Try.prog.cellsOf 3 = 1 := by kernel_rfl
  simp [Program.keyLits, Try.underlying80, Try.underlying3, c80, c3, h1, h2]
theorem form_place (a t : Int) : Value.formed Try.prog 80 (.agg #[.int .i64 a, .int .i64 t]) = true := by
  have c80 : Try.prog.cellsOf 80 = 2 := by kernel_rfl
  simp [Value.formed, c80, Try.underlying80]
theorem type_place : Try.prog.keyType 80 = true := by kernel_rfl
theorem types_some : ∃ m, Try.prog.types.size + 1 = m + 1 + 1 := ⟨Try.prog.types.size - 1, by
  have : 1 ≤ Try.prog.types.size := by decide +kernel
  omega⟩
theorem key_place {a t : Int} (ha : I64 a) (ht : I64 t) : keyOf Try.prog 80 (placeV a t) = some (klit a t) := by
  have h1 : (Lit.int .i64 a).wf = true := WalkArith.wf_i64 (by unfold I64 at ha; omega)
  have h2 : (Lit.int .i64 t).wf = true := WalkArith.wf_i64 (by unfold I64 at ht; omega)
  obtain ⟨m, hm⟩ := types_some
  unfold keyOf placeV klit
  rw [hm]
  simp only [Try.underlying80, type_place, form_place, Bool.and_self, if_true, Value.cells, lits_place m h1 h2, Option.map_some]

/-- A map of so many places at most, of which it holds what is said. -/
def MapIs (w : World) (mb n : Nat) (f : Int → Int → Option (List Bool)) : Prop :=
  ∃ D, w.ownsMap Try.prog 80 RV mb n D ∧ IsMap D ∧ ∀ a t l, I64 a → I64 t → f a t = some l → ∀ z, D.atKey (klit a t) z = .held (cols l)
theorem MapIs.made (w : World) : MapIs (w.alloc (.map #[] 0)) w.heap.size 0 (fun _ _ => none) :=
  ⟨.map [], World.ownsMap_made _ _ _ _, isMap_empty, fun _ _ _ _ _ h => by cases h⟩
theorem MapIs.lt {w : World} {mb n : Nat} {f : Int → Int → Option (List Bool)} (h : MapIs w mb n f) : mb < w.heap.size := let ⟨_, h, _⟩ := h; h.lt
theorem MapIs.of_same {w w' : World} {mb n : Nat} {f : Int → Int → Option (List Bool)} (h : MapIs w mb n f) (hs : w'.heap[mb]? = w.heap[mb]?) : MapIs w' mb n f := by
  obtain ⟨D, ⟨es, clock, hb, F, hn, hD⟩, r⟩ := h
  exact ⟨D, ⟨es, clock, hs.trans hb, F, hn, hD⟩, r⟩
theorem klit_inj {a t a' t' : Int} (ha : I64 a) (ht : I64 t) (ha' : I64 a') (ht' : I64 t') (h : klit a t = klit a' t') : a = a' ∧ t = t' := by
  have := placeKeyed.inj (key_place ha ht) (by rw [h]; exact key_place ha' ht')
  simpa [placeV] using this
theorem MapIs.look {w : World} {mb n : Nat} {f : Int → Int → Option (List Bool)} (h : MapIs w mb n f) {a t : Int} {l : List Bool} (ha : I64 a) (ht : I64 t) (hf : f a t = some l) :
    (Instr.lookup 74 (.map (some mb)) (placeV a t) false).run Try.prog w = .ok (cols l) w := by
  obtain ⟨D, hown, _, hat⟩ := h
  obtain ⟨v, ps, hrun, hv⟩ := hown.lookup placeKeyed Try.underlying74 (Try.zeroValue88 w) rfl (key_place ha ht)
  rw [hat a t l ha ht hf] at hv
  simp [RV] at hv
  rw [hrun, hv.1]
theorem MapIs.put {w : World} {mb n : Nat} {f : Int → Int → Option (List Bool)} (h : MapIs w mb n f) (hn : n < maxLen) {a t : Int} (ha : I64 a) (ht : I64 t) (l : List Bool) :
    ∃ w', (Instr.mapUpdate 74 (.map (some mb)) (placeV a t) (cols l)).run Try.prog w = .ok () w' ∧ MapIs w' mb (n + 1) (fun a' t' => if a' = a ∧ t' = t then some l else f a' t') ∧ w.grownBy w' (some mb) := by
  obtain ⟨D, hown, hm, hat⟩ := h
  obtain ⟨w', hrun, hown', hg⟩ := hown.update placeKeyed Try.underlying74 hn (key_place ha ht) (show RV (cols l) = some (.held (cols l), []) from rfl)
  refine ⟨w', hrun, ⟨_, hown', hm.put _ _, ?_⟩, hg⟩
  intro a' t' l' ha' ht' hf z
  by_cases he : a' = a ∧ t' = t
  · obtain ⟨rfl, rfl⟩ := he
    simp at hf; subst hf
    exact atKey_put_same hm (placeKeyed.key (key_place ha ht)) _ _
  · have hf : f a' t' = some l' := by simpa [he] using hf
    rw [atKey_put_other (fun e => he (klit_inj ha' ht' ha ht e))]
    exact hat a' t' l' ha' ht' hf z

theorem placesL_range {k : K4} (h : K4Ok k) {qa qt : Int} (hm : (qa, qt) ∈ placesL k) : 0 ≤ qa ∧ qa ≤ 23 ∧ 0 ≤ qt ∧ qt ≤ 6 := by
  simp only [placesL, List.mem_flatMap, List.mem_map, List.mem_range, Prod.mk.injEq] at hm
  obtain ⟨i, hi, j, hj, rfl, rfl⟩ := hm
  have := h.a0; have := h.a1; have := h.f0; have := h.f1
  omega
section
variable {P : Program} {F : Fence} {n : Nat} {ops : Array Oper} {rest : List Oper} {op : Oper} {a : Act} {w : World} {Q : Exit → Act → World → Prop}
theorem lookup_op (hgd : op.guard = none) (ty : TypeId) (x y : Operand) (ho : op.op = .lookup ty x y false) (mb : Nat) (ks : Array Value) (hx : a.eval x = .map (some mb)) (hy : a.eval y = .agg ks) (v : Value)
    (hr : (Instr.lookup ty (.map (some mb)) (.agg ks) false).run P w = .ok v w) (h : wpList P ops Q rest (a.put op.dst v) w) : wpList P ops Q (op :: rest) a w :=
  wpList_plain hgd fun _ hK => by
    unfold Oper.wp execOp
    simp only [ho, hx, hy, Sem.run_bind, Sem.run_pure, hr, Result.andThen_ok]
    exact hK _ _ h
theorem wp_lookup' {K : Act → World → Prop} (ty : TypeId) (x y : Operand) (ho : op.op = .lookup ty x y false) (mb : Nat) (ks : Array Value) (hx : a.eval x = .map (some mb)) (hy : a.eval y = .agg ks) (v : Value)
    (hr : (Instr.lookup ty (.map (some mb)) (.agg ks) false).run P w = .ok v w) (h : K (a.put op.dst v) w) : op.wp P a w K Q := by
  unfold Oper.wp execOp
  simp only [ho, hx, hy, Sem.run_bind, Sem.run_pure, hr, Result.andThen_ok]
  exact h
end
end Go.Proofs.Ytnnlbbmimdohoaa
