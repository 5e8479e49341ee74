/- The walks of layer 3: the setting of the most frames. -/
import Derived.Test.YticfcdbfplfmlaaGreatTuUH
namespace Go.Proofs.YticfcdbfplfmlaaGreat.Tu
open Go.RowKit Go.Maps
attribute [local go_sem] Oper.semAt_some

theorem inRound_of {P : Program} {f : FuncId} {args : Array Value} {w : World} {R Q : Ending → World → Prop} {l n : Nat} (h : Calls P f args w R) (hq : ∀ e w', R e w' → Q e w') : Fence.wide.fn f ∧ Fence.wide.depth = none ∧ CallsIn (Fence.wide.inRound l) n P f args w Q :=
  ⟨trivial, rfl, CallsIn.inRound l (callsIn_wide.2 (h.mono hq))⟩
theorem ints_same {A B : World} {n : Nat} {p : Option Addr} {xs : List Int} (h : IntsAt A p xs) (k : SameBut n A B) : IntsAt B p xs := by
  intro i hl
  obtain ⟨b, o, hb, hc⟩ := h i hl
  refine ⟨b, o, hb, ?_⟩
  rw [World.cell?_of_block (k.rest b (fun o' e => by unfold World.cell? at hc; rw [e] at hc; simp at hc))]
  exact hc
/-- The rank of an outcome. -/
theorem rank_eq (ps : List Pt) (fs : List Fr) (s t : List Int) : decide (rankD ps fs s < rankD ps fs t) = decide (heatD ps s - 1000 * ((goodD ps fs s).length : Int) < heatD ps t - 1000 * ((goodD ps fs t).length : Int)) := rfl
theorem good_le (ps : List Pt) (ms : List FrM) (s : List Int) : (goodD ps (frsM ms) s).length ≤ ms.length := by rw [← good_eq]; exact pickL_length _ _
/-- The choice so far, of the first settings. -/
def ChoAt (rk : List Int → Int) (ps : List Pt) (ms : List FrM) (xs : List (List Int)) (f cb lo : Nat) (A : World) : Prop :=
  (bestOf rk xs = none ∧ Row A cb (choA [] 0 none 0 0 false f) 133) ∨
  ∃ s p c, bestOf rk xs = some s ∧ Row A cb (choA s (heatD ps s) p (goodD ps (frsM ms) s).length c true f) 133 ∧ IntsAt A p (goodD ps (frsM ms) s) ∧ ∀ b o, p = some ⟨b, o, none⟩ → lo ≤ b
theorem ints_keeps {A B : World} {M : Nat → Prop} {p : Option Addr} {xs : List Int} (h : IntsAt A p xs) (k : KeepsBut M A B) (h2 : ∀ b o v, p = some ⟨b, o, none⟩ → A.cell? ⟨b, o + 0, none⟩ = some v → ¬ M b) : IntsAt B p xs := by
  intro i hl
  obtain ⟨b, o, hb, hc⟩ := h i hl
  obtain ⟨b', o', hb', hc'⟩ := h 0 (by omega)
  rw [hb] at hb'
  cases hb'
  exact ⟨b, o, hb, by rw [World.cell?_of_block (k.block b (cell_block hc) (h2 b o _ hb hc'))]; exact hc⟩
theorem ChoAt.keeps {rk : List Int → Int} {ps : List Pt} {ms : List FrM} {xs : List (List Int)} {f cb lo : Nat} {A B : World} {M : Nat → Prop} (h : ChoAt rk ps ms xs f cb lo A) (k : KeepsBut M A B) (h1 : ¬ M cb) (h2 : ∀ b o v, A.cell? ⟨b, o, none⟩ = some v → lo ≤ b → ¬ M b) : ChoAt rk ps ms xs f cb lo B := by
  rcases h with ⟨e, h⟩ | ⟨s, p, c, e, h, hi, hp⟩
  · exact .inl ⟨e, h.keeps k h1⟩
  · exact .inr ⟨s, p, c, e, h.keeps k h1, ints_keeps hi k (fun b o v e hc => h2 b _ v hc (hp b o e)), hp⟩
theorem FromB.of2 {w W A : World} {mb : Nat} {M : Nat → Prop} (hb : Below w.heap.size w W) (k : KeepsBut M W A) (hM : ∀ m, M m → m = mb ∨ w.heap.size ≤ m) : FromB mb w A := by
  refine ⟨⟨k.os.trans hb.os, k.tape.trans hb.tape, k.output.trans hb.output, Nat.le_trans hb.size k.size, fun i hi hm => ?_⟩⟩
  have := hb.size
  rw [k.block i (by omega) (fun h => by rcases hM _ h with h | h <;> omega)]; exact hb.block i hi
/-- The call returned an outcome, that of a setting. -/
def GaveMost (ps : List Pt) (ms : List FrM) (mb m : Nat) (w : World) (e : Ending) (w' : World) : Prop := GaveOut ps ms (mostD ps (frsM ms)) mb m w e w'

end Go.Proofs.YticfcdbfplfmlaaGreat.Tu
