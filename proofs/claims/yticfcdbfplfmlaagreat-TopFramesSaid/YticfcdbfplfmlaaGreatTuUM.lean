/- The walks of layer 3: a book with a damp that is known, a frame that stays longer. -/
import Derived.Test.YticfcdbfplfmlaaGreatTCX
import Derived.Test.YticfcdbfplfmlaaGreatTDX
namespace Go.Proofs.YticfcdbfplfmlaaGreat.Tu
open Go.RowKit Go.Maps
attribute [local go_sem] Oper.semAt_some

theorem eq_nil {P : Program} (w : World) (t e : TypeId) (a : Option Addr) (n c : Nat) (h : P.underlying t = some (.slice e)) : (binOp .eql t (.slice a n c) (.slice none 0 0)).run P w = .ok (.bool a.isNone) w := Lib.run_eql_slice_nil w t e a n c 0 0 h
def GaveParts (ps : List Pt) (w : World) (e : Ending) (w' : World) : Prop := ∃ g cap cur, e = .returned (.slice (some ⟨g, 0, none⟩) ps.length cap) ∧ Row w' g cur 81 ∧ w.heap.size ≤ g ∧ HoldsP (cur[·]?) ps ∧ Below w.heap.size w w'
def GaveFrames (ms : List FrM) (w : World) (e : Ending) (w' : World) : Prop := ∃ g cap cur, e = .returned (.slice (some ⟨g, 0, none⟩) ms.length cap) ∧ Row w' g cur 50 ∧ w.heap.size ≤ g ∧ HoldsF (cur[·]?) ms ∧ Below w.heap.size w w'
def GaveNums (xs : List Int) (w : World) (e : Ending) (w' : World) : Prop := ∃ g cap cur, e = .returned (.slice (some ⟨g, 0, none⟩) xs.length cap) ∧ Row w' g cur 3 ∧ w.heap.size ≤ g ∧ HoldsI (cur[·]?) xs ∧ Below w.heap.size w w'

/-- Parts of which one has another damp. -/
def dampP (ps : List Pt) (k : Nat) (lo hi : Int) : List Pt := match ps[k]? with
  | some p => ps.set k { p with lo := lo, hi := hi }
  | none => ps
theorem dampP_at {ps : List Pt} {k : Nat} (hk : k < ps.length) (lo hi : Int) : dampP ps k lo hi = ps.set k { ps[k] with lo := lo, hi := hi } := by simp [dampP, hk]
theorem dampP_length (ps : List Pt) (k : Nat) (lo hi : Int) : (dampP ps k lo hi).length = ps.length := by unfold dampP; split <;> simp
theorem holdsP_set {cur : Array Value} {ps : List Pt} (h : HoldsP (cur[·]?) ps) {k : Nat} (hk : k < ps.length) (lo hi : Int) : HoldsP (((cur.setIfInBounds (k * 6 + 4) (.int .i64 lo)).setIfInBounds (k * 6 + 5) (.int .i64 hi))[·]?) (dampP ps k lo hi) := by
  intro i hl
  rw [dampP_length] at hl
  obtain ⟨h0, h1, h2, h3, h4, h5⟩ := h i hl
  obtain ⟨_, _, _, _, g4, g5⟩ := h k hk
  have hs4 := (Array.getElem?_eq_some_iff.1 g4).1
  have hs5 := (Array.getElem?_eq_some_iff.1 g5).1
  have key : ∀ (j : Nat) u, cur[j]? = some u → j ≠ k * 6 + 4 → j ≠ k * 6 + 5 → ((cur.setIfInBounds (k * 6 + 4) (.int .i64 lo)).setIfInBounds (k * 6 + 5) (.int .i64 hi))[j]? = some u := by
    intro j u hj n4 n5
    rw [Array.getElem?_setIfInBounds, if_neg (fun e => n5 e.symm), Array.getElem?_setIfInBounds, if_neg (fun e => n4 e.symm)]
    exact hj
  simp only [dampP_at hk]
  by_cases e : i = k
  · subst e
    simp only [List.getElem_set_self]
    refine ⟨key _ _ h0 (by omega) (by omega), key _ _ h1 (by omega) (by omega), key _ _ h2 (by omega) (by omega), key _ _ h3 (by omega) (by omega), ?_, ?_⟩
    · rw [Array.getElem?_setIfInBounds, if_neg (by omega), Array.getElem?_setIfInBounds, if_pos rfl, if_pos hs4]
    · rw [Array.getElem?_setIfInBounds, if_pos rfl, if_pos (by simpa using hs5)]
  · rw [List.getElem_set_ne (fun e2 => e e2.symm)]
    exact ⟨key _ _ h0 (by omega) (by omega), key _ _ h1 (by omega) (by omega), key _ _ h2 (by omega) (by omega), key _ _ h3 (by omega) (by omega), key _ _ h4 (by omega) (by omega), key _ _ h5 (by omega) (by omega)⟩
theorem PtsAt.fromB {w w' : World} {p : Option Addr} {ps : List Pt} {b : Nat} (h : PtsAt w p ps) (hf : FromB b w w') (hne : ∀ c o, p = some ⟨c, o, none⟩ → c ≠ b) : PtsAt w' p ps := by
  intro i hi
  obtain ⟨c, o, hp, h0, h1, h2, h3, h4, h5⟩ := h i hi
  have n := hne c o hp
  exact ⟨c, o, hp, hf.cell h0 n, hf.cell h1 n, hf.cell h2 n, hf.cell h3 n, hf.cell h4 n, hf.cell h5 n⟩
/-- The call returned a book with other parts. -/
def GaveDamp (ps' : List Pt) (pf : Option Addr) (nf cf : Nat) (w : World) (e : Ending) (w' : World) : Prop := ∃ g cap, e = .returned (.agg #[.slice (some ⟨g, 0, none⟩) ps'.length cap, .slice pf nf cf]) ∧ PtsAt w' (some ⟨g, 0, none⟩) ps' ∧ w.heap.size ≤ g ∧ Below w.heap.size w w'

/-- A frame that stays longer in a part. -/
def longF (m : FrM) (g c : Nat) (k : Nat) (more : Int) : FrM := { p := some ⟨g, 0, none⟩, c := c, f := { m.f with stay := m.f.stay.set k (at0 m.f.stay k + more) } }
def GaveLong (pp : Option Addr) (np cp : Nat) (ms : List FrM) (f k : Nat) (more : Int) (w : World) (e : Ending) (w' : World) : Prop :=
  ∃ g cap g2 c2, ∃ h : f < ms.length, e = .returned (.agg #[.slice pp np cp, .slice (some ⟨g, 0, none⟩) ms.length cap]) ∧ FrsAt w' (some ⟨g, 0, none⟩) (ms.set f (longF ms[f] g2 c2 k more)) ∧ w.heap.size ≤ g ∧ w.heap.size ≤ g2 ∧ Below w.heap.size w w'
theorem holdsF_set {cur : Array Value} {ms : List FrM} (h : HoldsF (cur[·]?) ms) {k : Nat} (hk : k < ms.length) (m : FrM) (hl : m.f.stay.length = ms[k].f.stay.length) (h1 : m.f.lo = ms[k].f.lo) (h2 : m.f.hi = ms[k].f.hi) : HoldsF ((cur.setIfInBounds (k * 3) (.slice m.p m.f.stay.length m.c))[·]?) (ms.set k m) := by
  intro i hi
  rw [List.length_set] at hi
  obtain ⟨a0, a1, a2⟩ := h i hi
  have hs := (Array.getElem?_eq_some_iff.1 (h k hk).1).1
  have key : ∀ (j : Nat) u, cur[j]? = some u → j ≠ k * 3 → (cur.setIfInBounds (k * 3) (.slice m.p m.f.stay.length m.c))[j]? = some u := by
    intro j u hj n4
    rw [Array.getElem?_setIfInBounds, if_neg (fun e => n4 e.symm)]
    exact hj
  by_cases e : i = k
  · subst e
    simp only [List.getElem_set_self]
    refine ⟨?_, by rw [h1]; exact key _ _ a1 (by omega), by rw [h2]; exact key _ _ a2 (by omega)⟩
    rw [Array.getElem?_setIfInBounds, if_pos rfl, if_pos hs]
  · simp only [List.getElem_set_ne (fun e2 => e e2.symm)]
    exact ⟨key _ _ a0 (by omega), key _ _ a1 (by omega), key _ _ a2 (by omega)⟩
theorem holdsI_set {cur : Array Value} {xs : List Int} (h : HoldsI (cur[·]?) xs) {k : Nat} (hk : k < xs.length) (v : Int) : HoldsI ((cur.setIfInBounds k (.int .i64 v))[·]?) (xs.set k v) := by
  intro i hi
  rw [List.length_set] at hi
  have hs := (Array.getElem?_eq_some_iff.1 (h k hk)).1
  show (cur.setIfInBounds k (.int .i64 v))[i]? = _
  rw [Array.getElem?_setIfInBounds]
  by_cases e : k = i
  · subst e
    rw [if_pos rfl, if_pos hs]
    simp [at0, List.getD, hk]
  · rw [if_neg e, show at0 (xs.set k v) i = at0 xs i by simp [at0, List.getD, e]]
    exact h i hi

end Go.Proofs.YticfcdbfplfmlaaGreat.Tu
