/- The walks of layer 5: the map of all boxes. -/
import Derived.Test.YtgdidhbomdfcpaaFAB
import Derived.Test.YtgdidhbomdfcpaaG3
import Derived.Maps.Keyed
import Derived.Maps.Own
import Derived.Maps.OwnOps
import Derived.Maps.OwnSet
import Derived.Maps.Views
import Derived.DeepKeys4
namespace Go.Proofs.Ytgdidhbomdfcpaa
open Go.RowKit Go.Maps

theorem Try.laidOut' : laidOutB Try.prog = true := by kernel_rfl
theorem boxKeyed : Keyed Try.prog 72 :=
  Keyed.of_law (deep_law_laid Try.laidOut' (m := 5) (by decide) (by decide +kernel) (by kernel_rfl) (by kernel_rfl))
def klit (x y : Int) : Lit := .string (keyBytes [.int .i64 x, .int .i64 y])
theorem types_some3 : ∃ m, Try.prog.types.size + 1 = m + 1 + 1 + 1 := ⟨Try.prog.types.size - 2, by
  have : 2 ≤ Try.prog.types.size := by decide +kernel
  omega⟩
theorem keyLits_int {P : Program} {t : TypeId} (hu : P.underlying t = some (.int .i64)) (d : Nat) (a : Int) (h : (Lit.int .i64 a).wf = true) : P.keyLits (d + 1) t [.int .i64 a] = some [.int .i64 a] := by
  simp [Program.keyLits, hu, h]
theorem lits_box (m : Nat) {a b : Int} (h1 : (Lit.int .i64 a).wf = true) (h2 : (Lit.int .i64 b).wf = true) : Try.prog.keyLits (m + 1 + 1 + 1) 72 [.int .i64 a, .int .i64 b] = some [.int .i64 a, .int .i64 b] := by
  have c3 : Try.prog.cellsOf 3 = 1 := by kernel_rfl
  have c5 : Try.prog.cellsOf 72 = 2 := by kernel_rfl
  have i1 : ∀ (m : Nat) (n : Int), (Lit.int .i64 n).wf = true → Try.prog.keyLits (m + 1) 3 [.int .i64 n] = some [.int .i64 n] := fun m n h => keyLits_int Try.underlying3 m n h
  generalize hq : m + 1 + 1 = q
  have i2 := i1 (m + 1) a h1
  have i3 := i1 (m + 1) b h2
  rw [hq] at i2 i3
  simp [Program.keyLits, Try.underlying72, c3, c5, i2, i3]
theorem form_box (a b : Int) : Value.formed Try.prog 72 (.agg #[.int .i64 a, .int .i64 b]) = true := by
  have c : Try.prog.cellsOf 72 = 2 := by kernel_rfl
  simp [Value.formed, c, Try.underlying72]
theorem type_box : Try.prog.keyType 72 = true := by kernel_rfl
theorem wf_I64 {n : Int} (h : I64 n) : (Lit.int .i64 n).wf = true := WalkArith.wf_i64 (by unfold I64 at h; omega)
theorem key_box {x y : Int} (hx : I64 x) (hy : I64 y) : keyOf Try.prog 72 (.agg #[.int .i64 x, .int .i64 y]) = some (klit x y) := by
  obtain ⟨m, hm⟩ := types_some3
  unfold keyOf klit
  rw [hm]
  simp only [Try.underlying72, type_box, form_box, Bool.and_self, if_true, Value.cells, lits_box m (wf_I64 hx) (wf_I64 hy), Option.map_some]
theorem klit_inj {x y x' y' : Int} (hx : I64 x) (hy : I64 y) (hx' : I64 x') (hy' : I64 y') (h : klit x y = klit x' y') : x = x' ∧ y = y' := by
  have := boxKeyed.inj (key_box hx hy) (by rw [h]; exact key_box hx' hy')
  simpa using this

/-- What a span in a map reads as. -/
def spanR (v : Value) : Option (DataW (Int × Int) × List MemPlace) := match v with
  | .agg ⟨[.int .i64 a, .int .i64 b]⟩ => some (.held (a, b), [])
  | _ => none
theorem spanR_mk (a b : Int) : spanR (.agg #[.int .i64 a, .int .i64 b]) = some (.held (a, b), []) := rfl
theorem spanR_inv {v : Value} {a b : Int} {ps : List MemPlace} (h : spanR v = some (.held (a, b), ps)) : v = .agg #[.int .i64 a, .int .i64 b] := by
  unfold spanR at h
  split at h
  · simp only [Option.some.injEq, Prod.mk.injEq, DataW.held.injEq] at h
    obtain ⟨⟨rfl, rfl⟩, _⟩ := h
    rfl
  · cases h
/-- The map holds just some boxes, each with what it has. -/
def SumsAt (w : World) (mb n : Nat) (F : Int → Int → Bool) (L H : Int → Int → Int) : Prop :=
  ∃ D : DataW (Int × Int), w.ownsMap Try.prog 72 spanR mb n D ∧ IsMap D ∧ ∀ x y, I64 x → I64 y → has D (klit x y) = F x y ∧ (F x y = true → ∀ z, D.atKey (klit x y) z = .held (L x y, H x y)) ∧ (F x y = false → ∀ z, D.atKey (klit x y) z = z)
section
variable {w w' : World} {mb n : Nat} {F : Int → Int → Bool} {L H : Int → Int → Int}
theorem SumsAt.made (w : World) (L H : Int → Int → Int) : SumsAt (w.alloc (.map #[] 0)) w.heap.size 0 (fun _ _ => false) L H :=
  ⟨.map [], World.ownsMap_made _ _ _ _, isMap_empty, fun _ _ _ _ => ⟨by simp [has], fun h => (by cases h), fun _ z => by simp [DataW.atKey]⟩⟩
theorem SumsAt.lt (h : SumsAt w mb n F L H) : mb < w.heap.size := let ⟨_, h, _⟩ := h; h.lt
theorem SumsAt.of_same (h : SumsAt w mb n F L H) (hs : w'.heap[mb]? = w.heap[mb]?) : SumsAt w' mb n F L H := by
  obtain ⟨D, ⟨es, clock, hb, F, hn, hD⟩, r⟩ := h
  exact ⟨D, ⟨es, clock, hs.trans hb, F, hn, hD⟩, r⟩
theorem SumsAt.below (h : SumsAt w mb n F L H) (hb : Below w.heap.size w w') : SumsAt w' mb n F L H := h.of_same (hb.block _ h.lt)
theorem SumsAt.congr {F' : Int → Int → Bool} {L' H' : Int → Int → Int} (h : SumsAt w mb n F L H) (hF : ∀ x y, F x y = F' x y) (hL : ∀ x y, F x y = true → L x y = L' x y ∧ H x y = H' x y) : SumsAt w mb n F' L' H' := by
  obtain ⟨D, h1, h2, h3⟩ := h
  refine ⟨D, h1, h2, fun x y hx hy => ?_⟩
  obtain ⟨a, b, c⟩ := h3 x y hx hy
  refine ⟨by rw [a, hF], fun hh z => ?_, fun hh z => c (by rw [hF]; exact hh) z⟩
  have hf : F x y = true := by rw [hF]; exact hh
  rw [b hf z, (hL x y hf).1, (hL x y hf).2]
theorem SumsAt.look (h : SumsAt w mb n F L H) {x y : Int} (hx : I64 x) (hy : I64 y) :
    ∃ a b : Int, (Instr.lookup 77 (.map (some mb)) (.agg #[.int .i64 x, .int .i64 y]) true).run Try.prog w = .ok (.tuple #[.agg #[.int .i64 a, .int .i64 b], .bool (F x y)]) w ∧ (F x y = true → a = L x y ∧ b = H x y) ∧ (F x y = false → a = 0 ∧ b = 0) := by
  obtain ⟨D, hown, hm, hat⟩ := h
  obtain ⟨h1, h2, h3⟩ := hat x y hx hy
  have hz : (zeroValue 27).run Try.prog w = .ok (.agg #[.int .i64 0, .int .i64 0]) w := Try.zeroValue27 w
  obtain ⟨v, ps, hrun, hv⟩ := hown.look_ok boxKeyed Try.underlying77 hz (spanR_mk 0 0) (key_box hx hy)
  rw [h1] at hrun
  cases hf : F x y
  · rw [h3 hf] at hv
    rw [spanR_inv hv, hf] at hrun
    exact ⟨0, 0, hrun, fun h => (by cases h), fun _ => ⟨rfl, rfl⟩⟩
  · rw [h2 hf] at hv
    rw [spanR_inv hv, hf] at hrun
    exact ⟨_, _, hrun, fun _ => ⟨rfl, rfl⟩, fun h => (by cases h)⟩
theorem SumsAt.look1 (h : SumsAt w mb n F L H) {x y : Int} (hx : I64 x) (hy : I64 y) :
    ∃ a b : Int, (Instr.lookup 77 (.map (some mb)) (.agg #[.int .i64 x, .int .i64 y]) false).run Try.prog w = .ok (.agg #[.int .i64 a, .int .i64 b]) w ∧ (F x y = true → a = L x y ∧ b = H x y) ∧ (F x y = false → a = 0 ∧ b = 0) := by
  obtain ⟨D, hown, hm, hat⟩ := h
  obtain ⟨h1, h2, h3⟩ := hat x y hx hy
  have hz : (zeroValue 27).run Try.prog w = .ok (.agg #[.int .i64 0, .int .i64 0]) w := Try.zeroValue27 w
  obtain ⟨v, ps, hrun, hv⟩ := hown.lookup boxKeyed Try.underlying77 hz (spanR_mk 0 0) (key_box hx hy)
  cases hf : F x y
  · rw [h3 hf] at hv
    rw [spanR_inv hv] at hrun
    exact ⟨0, 0, hrun, fun h => (by cases h), fun _ => ⟨rfl, rfl⟩⟩
  · rw [h2 hf] at hv
    rw [spanR_inv hv] at hrun
    exact ⟨_, _, hrun, fun _ => ⟨rfl, rfl⟩, fun h => (by cases h)⟩
theorem SumsAt.put (h : SumsAt w mb n F L H) (hn : n < maxLen) {x y : Int} (hx : I64 x) (hy : I64 y) :
    ∃ w', (Instr.mapUpdate 77 (.map (some mb)) (.agg #[.int .i64 x, .int .i64 y]) (.agg #[.int .i64 (L x y), .int .i64 (H x y)])).run Try.prog w = .ok () w' ∧ SumsAt w' mb (n + 1) (fun a b => F a b || (decide (a = x) && decide (b = y))) L H ∧ w.grownBy w' (some mb) := by
  obtain ⟨D, hown, hm, hat⟩ := h
  obtain ⟨w', hrun, hown', hg⟩ := hown.update boxKeyed Try.underlying77 hn (key_box hx hy) (spanR_mk (L x y) (H x y))
  refine ⟨w', hrun, ⟨_, hown', hm.put _ _, ?_⟩, hg⟩
  intro a b ha hb
  obtain ⟨h1, h2, h3⟩ := hat a b ha hb
  by_cases he : klit a b = klit x y
  · obtain ⟨rfl, rfl⟩ := klit_inj ha hb hx hy he
    refine ⟨by rw [has_put_same hm (boxKeyed.key (key_box ha hb))]; simp, fun _ z => atKey_put_same hm (boxKeyed.key (key_box ha hb)) _ _, fun h => by simp at h⟩
  · have hne : (decide (a = x) && decide (b = y)) = false := by
      rw [Bool.eq_false_iff]
      intro h
      simp at h
      obtain ⟨rfl, rfl⟩ := h
      exact he rfl
    simp only [has_put_other he, hne, Bool.or_false]
    exact ⟨h1, fun hf z => by rw [atKey_put_other he]; exact h2 hf z, fun hf z => by rw [atKey_put_other he]; exact h3 hf z⟩
end
end Go.Proofs.Ytgdidhbomdfcpaa
