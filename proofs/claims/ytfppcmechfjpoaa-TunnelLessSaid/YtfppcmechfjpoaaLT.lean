/- Worlds that came later: all that was there is as it was; a region that draws its order, walked once. -/
import Derived.Test.YtfppcmechfjpoaaUC
import Derived.BigQuiet
namespace Go.Proofs.Ytfppcmechfjpoaa
open Go.RowKit Go.Maps

/-- A world in which all that was there in W is as it was. -/
structure Later (W : World) where
  w : World
  b : Below W.heap.size W w
instance (W : World) : Nonempty (Later W) := ⟨⟨W, Below.refl _ _⟩⟩
section
variable {W : World}
theorem lt_of_isSome {w : World} {a : Addr} (h : (w.cell? a).isSome = true) : a.block < w.heap.size := by
  obtain ⟨u, hu⟩ := Option.isSome_iff_exists.1 h
  exact World.block_lt_of_cell? w a hu
@[go_sem] theorem Later.cell?_eq (x : Later W) (a : Addr) (h : (W.cell? a).isSome = true) : x.w.cell? a = W.cell? a := x.b.cell (lt_of_isSome h)
@[go_sem] theorem Later.frozen?_eq (x : Later W) (a : Addr) (h : (W.cell? a).isSome = true) : x.w.frozen? a = W.frozen? a := x.b.frozen (lt_of_isSome h)
theorem frozen?_alloc_some (w : World) (a : Addr) (o : Obj) (h : (w.cell? a).isSome = true) : (w.alloc o).frozen? a = w.frozen? a := (below_alloc w o).frozen (lt_of_isSome h)
attribute [go_sem] World.cell?_alloc_some frozen?_alloc_some
theorem Later.fr (x : Later W) : From W x.w := ⟨x.b⟩
theorem From.trans {w w' : World} (h : From W w) (k : From w w') : From W w' := h.below k.b
theorem later_of {w : World} (h : Below W.heap.size W w) : ∃ x : Later W, w = x.w := ⟨⟨w, h⟩, rfl⟩
theorem Later.on (x : Later W) {w : World} (h : Below x.w.heap.size x.w w) : ∃ y : Later W, w = y.w := later_of (x.b.trans (h.mono x.b.size))
theorem Later.base (x : Later W) {w : World} (h : Below w.heap.size w W) : Below w.heap.size w x.w := h.trans (x.b.mono h.size)
theorem Later.up (x : Later W) (y : Later x.w) : ∃ z : Later W, y.w = z.w := x.on y.b
end
theorem Calls.later_of {P : Program} {f : FuncId} {args : Array Value} {W : World} {x : Later W} {v : Value} (h : Calls P f args x.w fun e w' => e = .returned v ∧ Below x.w.heap.size x.w w') :
    Calls P f args x.w fun e w'' => e = .returned v ∧ ∃ y : Later W, w'' = y.w := h.mono fun _ _ ⟨he, hb⟩ => ⟨he, x.on hb⟩
theorem Calls.later_same {P : Program} {f : FuncId} {args : Array Value} {W : World} {x : Later W} {v : Value} (h : Calls P f args x.w fun e w' => e = .returned v ∧ x.w = w') :
    Calls P f args x.w fun e w'' => e = .returned v ∧ ∃ y : Later W, w'' = y.w := h.mono fun _ _ ⟨he, hb⟩ => ⟨he, x, hb.symm⟩
theorem wp_region_later {P : Program} {id : Nat} {Q : Exit → Act → World → Prop} {a : Act} {w : World} {l : List Oper} (hm : P.follows .mixedOrders = true) (hB : Region.lexB .any l.toArray = true)
    (h : wpQuiet P l.toArray (fun w' => ∃ x : Later w, w' = x.w) (fun a' => ∀ w', (∃ x : Later w, w' = x.w) → Q .normal a' w') l a) : (Code.region id l.toArray true).wp P Q a w :=
  wp_region_quiet (C := fun w' => ∃ x : Later w, w' = x.w) hm hB ⟨⟨w.drew, (Below.refl _ _).drew⟩, rfl⟩ (by simpa using h)
end Go.Proofs.Ytfppcmechfjpoaa
