/- Layer 3: a book in memory. -/
import Derived.Test.YtfppcmechfjpoaaTU1
namespace Go.Proofs.Ytfppcmechfjpoaa
open Go.RowKit

/-- Such parts lie in memory. -/
def PtsAt (w : World) (p : Option Addr) (ps : List Pt) : Prop :=
  ∀ i (h : i < ps.length), ∃ b o, p = some ⟨b, o, none⟩ ∧ w.cell? ⟨b, o + i * 6, none⟩ = some (.int .i64 ps[i].h0) ∧ w.cell? ⟨b, o + i * 6 + 1, none⟩ = some (.int .i64 ps[i].h1) ∧ w.cell? ⟨b, o + i * 6 + 2, none⟩ = some (.int .i64 ps[i].h2) ∧ w.cell? ⟨b, o + i * 6 + 3, none⟩ = some (.int .i64 ps[i].h3) ∧ w.cell? ⟨b, o + i * 6 + 4, none⟩ = some (.int .i64 ps[i].lo) ∧ w.cell? ⟨b, o + i * 6 + 5, none⟩ = some (.int .i64 ps[i].hi)
theorem PtsAt.below {w w' : World} {p : Option Addr} {ps : List Pt} (h : PtsAt w p ps) (hb : Below w.heap.size w w') : PtsAt w' p ps := by
  intro i hi
  obtain ⟨b, o, hp, h0, h1, h2, h3, h4, h5⟩ := h i hi
  have hlt : b < w.heap.size := cell_block h0
  have key : ∀ k, w'.cell? ⟨b, k, none⟩ = w.cell? ⟨b, k, none⟩ := fun k => (bcell hb).1 b _ hlt
  exact ⟨b, o, hp, by rw [key]; exact h0, by rw [key]; exact h1, by rw [key]; exact h2, by rw [key]; exact h3, by rw [key]; exact h4, by rw [key]; exact h5⟩
/-- A frame, and where its minutes lie. -/
structure FrM where
  p : Option Addr
  c : Nat
  f : Fr
def FrM.A (m : FrM) : Array Value := #[.slice m.p m.f.stay.length m.c, .int .i64 m.f.lo, .int .i64 m.f.hi]
/-- Such frames lie in memory. -/
def FrsAt (w : World) (p : Option Addr) (ms : List FrM) : Prop :=
  ∀ i (h : i < ms.length), ∃ b o, p = some ⟨b, o, none⟩ ∧ w.cell? ⟨b, o + i * 3, none⟩ = some (.slice ms[i].p ms[i].f.stay.length ms[i].c) ∧ w.cell? ⟨b, o + i * 3 + 1, none⟩ = some (.int .i64 ms[i].f.lo) ∧ w.cell? ⟨b, o + i * 3 + 2, none⟩ = some (.int .i64 ms[i].f.hi) ∧ IntsAt w ms[i].p ms[i].f.stay
theorem FrsAt.below {w w' : World} {p : Option Addr} {ms : List FrM} (h : FrsAt w p ms) (hb : Below w.heap.size w w') : FrsAt w' p ms := by
  intro i hi
  obtain ⟨b, o, hp, h0, h1, h2, h3⟩ := h i hi
  have hlt : b < w.heap.size := cell_block h0
  have key : ∀ k, w'.cell? ⟨b, k, none⟩ = w.cell? ⟨b, k, none⟩ := fun k => (bcell hb).1 b _ hlt
  exact ⟨b, o, hp, by rw [key]; exact h0, by rw [key]; exact h1, by rw [key]; exact h2, h3.below hb⟩
/-- A book. -/
structure BkAt (w : World) (pp pf : Option Addr) (ps : List Pt) (ms : List FrM) : Prop where
  p : PtsAt w pp ps
  f : FrsAt w pf ms
  b1 : ps.length < 2 ^ 62
  b2 : ms.length < 2 ^ 62
  b3 : ∀ m ∈ ms, m.f.stay.length < 2 ^ 62
theorem BkAt.below {w w' : World} {pp pf : Option Addr} {ps : List Pt} {ms : List FrM} (h : BkAt w pp pf ps ms) (hb : Below w.heap.size w w') : BkAt w' pp pf ps ms := ⟨h.p.below hb, h.f.below hb, h.b1, h.b2, h.b3⟩
/-- The frames of a book. -/
def frsM (ms : List FrM) : List Fr := ms.map (·.f)
theorem frsM_length (ms : List FrM) : (frsM ms).length = ms.length := by simp [frsM]
end Go.Proofs.Ytfppcmechfjpoaa
