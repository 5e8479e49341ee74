/- Layer 3: the map of what was found out of frames and settings. -/
import Derived.Test.YtfppcmechfjpoaaTU1
import Derived.Test.YtfppcmechfjpoaaRGX
import Derived.Maps.Keyed
import Derived.Maps.Own
import Derived.Maps.OwnOps
import Derived.Maps.Views
import Derived.DeepKeys4
namespace Go.Proofs.Ytfppcmechfjpoaa
open Go.RowKit Go.Maps

/-- A setting as the program keeps it. -/
abbrev setA (s : List Int) : Array Value := #[.int .i64 (at0 s 0), .int .i64 (at0 s 1), .int .i64 (at0 s 2), .int .i64 (at0 s 3)]
abbrev runA (i : Nat) (s : List Int) : Array Value := #[.int .i64 i, .int .i64 (at0 s 0), .int .i64 (at0 s 1), .int .i64 (at0 s 2), .int .i64 (at0 s 3)]
/-- A setting: at most four numbers from 0 to 3. -/
structure SetOk (s : List Int) : Prop where
  n : s.length ≤ 4
  r : ∀ x ∈ s, 0 ≤ x ∧ x ≤ 3
theorem SetOk.at {s : List Int} (h : SetOk s) (i : Nat) : 0 ≤ at0 s i ∧ at0 s i ≤ 3 := by
  by_cases hi : i < s.length
  · exact h.r _ (at0_mem hi)
  · simp [at0, List.getD, List.getElem?_eq_none (by omega : s.length ≤ i)]
theorem set_ok {n : Nat} {s : List Int} (h : s ∈ setsL n) (hn : n ≤ 4) : SetOk s := by
  have := mem_setsL.1 h
  exact ⟨by omega, this.2⟩
theorem Try.laidOut' : laidOutB Try.prog = true := by kernel_rfl
theorem runKeyed : Keyed Try.prog 123 :=
  Keyed.of_law (deep_law_laid Try.laidOut' (m := 5) (by decide) (by decide +kernel) (by kernel_rfl) (by kernel_rfl))
def klit (i : Nat) (s : List Int) : Lit := .string (keyBytes [.int .i64 i, .int .i64 (at0 s 0), .int .i64 (at0 s 1), .int .i64 (at0 s 2), .int .i64 (at0 s 3)])
theorem types_some3 : ∃ m, Try.prog.types.size + 1 = m + 1 + 1 + 1 + 1 := ⟨Try.prog.types.size - 3, by
  have : 3 ≤ Try.prog.types.size := by decide +kernel
  omega⟩
theorem Try.underlyingSet : Try.prog.underlying 79 = some (.array 4 3) := by kernel_rfl
theorem keyLits_arr {P : Program} {t : TypeId} {n : Nat} {e : TypeId} (hu : P.underlying t = some (.array n e)) (d : Nat) (cs : List Value) (hl : cs.length = P.cellsOf t) : P.keyLits (d + 1) t cs = ((List.range n).mapM fun i => P.keyLits d e ((cs.drop (i * P.cellsOf e)).take (P.cellsOf e))).map List.flatten := by
  simp only [Program.keyLits, hu, if_pos hl]
theorem keyLits_int {P : Program} {t : TypeId} (hu : P.underlying t = some (.int .i64)) (d : Nat) (a : Int) (h : (Lit.int .i64 a).wf = true) : P.keyLits (d + 1) t [.int .i64 a] = some [.int .i64 a] := by
  simp [Program.keyLits, hu, h]
theorem lits_run (m : Nat) {a b c d e : Int} (h1 : (Lit.int .i64 a).wf = true) (h2 : (Lit.int .i64 b).wf = true) (h3 : (Lit.int .i64 c).wf = true) (h4 : (Lit.int .i64 d).wf = true) (h5 : (Lit.int .i64 e).wf = true) : Try.prog.keyLits (m + 1 + 1 + 1 + 1) 123 [.int .i64 a, .int .i64 b, .int .i64 c, .int .i64 d, .int .i64 e] = some [.int .i64 a, .int .i64 b, .int .i64 c, .int .i64 d, .int .i64 e] := by
  have c80 : Try.prog.cellsOf 79 = 4 := by kernel_rfl
  have c3 : Try.prog.cellsOf 3 = 1 := by kernel_rfl
  have c5 : Try.prog.cellsOf 123 = 5 := by kernel_rfl
  have i1 : ∀ (m : Nat) (n : Int), (Lit.int .i64 n).wf = true → Try.prog.keyLits (m + 1) 3 [.int .i64 n] = some [.int .i64 n] := fun m n h => keyLits_int Try.underlying3 m n h
  have arr : ∀ m : Nat, Try.prog.keyLits (m + 1 + 1) 79 [.int .i64 b, .int .i64 c, .int .i64 d, .int .i64 e] = some [.int .i64 b, .int .i64 c, .int .i64 d, .int .i64 e] := fun m => by
    rw [keyLits_arr Try.underlyingSet (m + 1) _ (by rw [c80]; rfl)]
    simp [List.range_succ, c3, i1 m b h2, i1 m c h3, i1 m d h4, i1 m e h5]
  generalize hq : m + 1 + 1 + 1 = q
  have i2 := i1 (m + 1 + 1) a h1
  have arr2 := arr (m + 1)
  rw [hq] at i2 arr2
  simp [Program.keyLits, Try.underlying123, c80, c3, c5, i2, arr2]
theorem form_run (a b c d e : Int) : Value.formed Try.prog 123 (.agg #[.int .i64 a, .int .i64 b, .int .i64 c, .int .i64 d, .int .i64 e]) = true := by
  have c80 : Try.prog.cellsOf 123 = 5 := by kernel_rfl
  simp [Value.formed, c80, Try.underlying123]
theorem type_run : Try.prog.keyType 123 = true := by kernel_rfl
theorem key_run {i : Nat} {s : List Int} (hi : i ≤ 5) (hs : SetOk s) : keyOf Try.prog 123 (.agg (runA i s)) = some (klit i s) := by
  have w : ∀ n : Int, 0 ≤ n → n ≤ 5 → (Lit.int .i64 n).wf = true := fun n h1 h2 => WalkArith.wf_i64 (by omega)
  have h0 := hs.at 0
  have h1 := hs.at 1
  have h2 := hs.at 2
  have h3 := hs.at 3
  obtain ⟨m, hm⟩ := types_some3
  unfold keyOf runA klit
  rw [hm]
  simp only [Try.underlying123, type_run, form_run, Bool.and_self, if_true, Value.cells, lits_run m (w i (by omega) (by omega)) (w _ h0.1 (by omega)) (w _ h1.1 (by omega)) (w _ h2.1 (by omega)) (w _ h3.1 (by omega)), Option.map_some]
theorem klit_inj {i j : Nat} {s t : List Int} (hi : i ≤ 5) (hs : SetOk s) (hj : j ≤ 5) (ht : SetOk t) (h : klit i s = klit j t) : i = j ∧ at0 s 0 = at0 t 0 ∧ at0 s 1 = at0 t 1 ∧ at0 s 2 = at0 t 2 ∧ at0 s 3 = at0 t 3 := by
  have := runKeyed.inj (key_run hi hs) (by rw [h]; exact key_run hj ht)
  simp [runA] at this
  exact ⟨by omega, this.2⟩

/-- The map holds, of frames and settings of so many parts, what is so, or nothing. -/
def DriedAt (w : World) (mb n np : Nat) (F : List Int → Nat → Bool) : Prop :=
  ∃ D : DataW Value, w.ownsMap Try.prog 123 (plainElem Try.prog 4) mb n D ∧ IsMap D ∧ ∀ i s, i ≤ 5 → s.length = np → SetOk s → (∀ z, D.atKey (klit i s) z = z) ∨ ∀ z, D.atKey (klit i s) z = .lit (.bool (F s i))
section
variable {w w' : World} {mb n np : Nat} {F : List Int → Nat → Bool}
theorem DriedAt.made (w : World) (np : Nat) (F : List Int → Nat → Bool) : DriedAt (w.alloc (.map #[] 0)) w.heap.size 0 np F :=
  ⟨.map [], World.ownsMap_made _ _ _ _, isMap_empty, fun _ _ _ _ _ => .inl fun z => by simp [DataW.atKey]⟩
theorem DriedAt.lt (h : DriedAt w mb n np F) : mb < w.heap.size := let ⟨_, h, _⟩ := h; h.lt
theorem DriedAt.mono (h : DriedAt w mb n np F) {n' : Nat} (hn : n ≤ n') : DriedAt w mb n' np F := let ⟨D, h1, h2, h3⟩ := h; ⟨D, h1.mono hn, h2, h3⟩
theorem DriedAt.of_same (h : DriedAt w mb n np F) (hs : w'.heap[mb]? = w.heap[mb]?) : DriedAt w' mb n np F := by
  obtain ⟨D, ⟨es, clock, hb, F, hn, hD⟩, r⟩ := h
  exact ⟨D, ⟨es, clock, hs.trans hb, F, hn, hD⟩, r⟩
theorem DriedAt.below (h : DriedAt w mb n np F) (hb : Below w.heap.size w w') : DriedAt w' mb n np F := h.of_same (hb.block _ h.lt)
theorem DriedAt.look (h : DriedAt w mb n np F) {i : Nat} {s : List Int} (hi : i ≤ 5) (hl : s.length = np) (hs : SetOk s) :
    ∃ found : Bool, (Instr.lookup 76 (.map (some mb)) (.agg (runA i s)) true).run Try.prog w = .ok (.tuple #[.bool (found && F s i), .bool found]) w := by
  obtain ⟨D, ⟨es, clock, hb, FF, hn, rfl⟩, hm, hat⟩ := h
  have hz : (zeroValue 4).run Try.prog w = .ok (.bool false) w := Try.zeroValue4 w
  rcases fit_look true runKeyed Try.underlying76 hz hb FF (key_run hi hs) with ⟨hrun, _, _⟩ | ⟨e0, y, _, _, hrun, hy, hat2, _⟩
  · exact ⟨false, by rw [hrun]; rfl⟩
  · refine ⟨true, ?_⟩
    rcases hat i s hi hl hs with h | h
    · have h1 := h (.lit (.bool true))
      have h2 := h (.lit (.bool false))
      rw [hat2] at h1 h2
      rw [h1] at h2
      simp at h2
    · have h1 := h (.lit (.bool true))
      rw [hat2] at h1
      rw [hrun, if_pos rfl]
      have hu : Try.prog.underlying 4 = some .bool := Try.underlying4
      unfold plainElem at hy
      rw [hu] at hy
      cases hv : e0.val <;> rw [hv] at hy <;> simp at hy
      subst hy
      simp at h1
      simp [h1]
theorem DriedAt.put (h : DriedAt w mb n np F) (hn : n < maxLen) {i : Nat} {s : List Int} (hF : ∀ t, t.length = np → SetOk t → at0 t 0 = at0 s 0 → at0 t 1 = at0 s 1 → at0 t 2 = at0 s 2 → at0 t 3 = at0 s 3 → F t i = F s i) (hi : i ≤ 5) (hs : SetOk s) :
    ∃ w', (Instr.mapUpdate 76 (.map (some mb)) (.agg (runA i s)) (.bool (F s i))).run Try.prog w = .ok () w' ∧ DriedAt w' mb (n + 1) np F ∧ w.grownBy w' (some mb) := by
  obtain ⟨D, hown, hm, hat⟩ := h
  obtain ⟨w', hrun, hown', hg⟩ := hown.update runKeyed Try.underlying76 hn (key_run hi hs) (plainElem_bool Try.underlying4 (F s i))
  refine ⟨w', hrun, ⟨_, hown', hm.put _ _, ?_⟩, hg⟩
  intro j t hj hl ht
  by_cases he : klit j t = klit i s
  · obtain ⟨rfl, e0, e1, e2, e3⟩ := klit_inj hj ht hi hs he
    right
    intro z
    rw [he, hF t hl ht e0 e1 e2 e3]
    exact atKey_put_same hm (runKeyed.key (key_run hi hs)) _ _
  · rcases hat j t hj hl ht with h | h
    · exact .inl fun z => by rw [atKey_put_other he]; exact h z
    · exact .inr fun z => by rw [atKey_put_other he]; exact h z
end
theorem set_ext {s t : List Int} (hs : s.length ≤ 4) (hl : s.length = t.length) (h0 : at0 s 0 = at0 t 0) (h1 : at0 s 1 = at0 t 1) (h2 : at0 s 2 = at0 t 2) (h3 : at0 s 3 = at0 t 3) : s = t := by
  apply List.ext_getElem hl
  intro i hi hj
  rw [← at0_lt hi, ← at0_lt hj]
  obtain rfl | rfl | rfl | rfl : i = 0 ∨ i = 1 ∨ i = 2 ∨ i = 3 := by omega
  all_goals assumption
end Go.Proofs.Ytfppcmechfjpoaa
