/- Worlds that came later: all that was there is as it was; a region that draws its order, walked once. -/
import Derived.Test.YtgdlmlpjeapjaaaC
import Derived.Test.YtgdlmlpjeapjaaaG
import Derived.BigQuiet
import Derived.BigRegion
namespace Go.Proofs.Ytgdlmlpjeapjaaa
open Go.RowKit Go.Maps

/-- All that was there in a world is as it was. -/
structure From (W w : World) : Prop where
  b : Below W.heap.size W w
section
variable {W w w' : World}
theorem From.refl (W : World) : From W W := ⟨Below.refl _ _⟩
theorem From.drew (h : From W w) : From W w.drew := ⟨h.b.drew⟩
theorem From.below (h : From W w) (hb : Below w.heap.size w w') : From W w' := ⟨h.b.trans (hb.mono h.b.size)⟩
theorem From.cell (h : From W w) {b o : Nat} {v : Value} (hc : W.cell? ⟨b, o, none⟩ = some v) : w.cell? ⟨b, o, none⟩ = some v := by
  rw [(bcell h.b).1 b o (by have := cell_block hc; exact this)]; exact hc
theorem From.row (h : From W w) {b : Nat} {cs : Array Value} {t : TypeId} (hr : Row W b cs t) : Row w b cs t := hr.below h.b hr.lt
theorem From.free (h : From W w) {b : Nat} {cs : Array Value} {t : TypeId} (hr : Row W b cs t) (o : Nat) : w.frozen? ⟨b, o, none⟩ = false := (h.row hr).free o
theorem From.ints (h : From W w) {p : Option Addr} {xs : List Int} (hi : IntsAt W p xs) : IntsAt w p xs := hi.below h.b
end
/-- All that was there in a world is as it was, but for one block. -/
structure FromB (b : Nat) (W w : World) : Prop where
  k : KeepsBut (fun m => m = b) W w
section
variable {b : Nat} {W w w' : World}
theorem FromB.refl (b : Nat) (W : World) : FromB b W W := ⟨KeepsBut.refl _ _⟩
theorem FromB.drew (h : FromB b W w) : FromB b W w.drew := ⟨h.k.drew⟩
theorem FromB.below (h : FromB b W w) (hb : Below w.heap.size w w') : FromB b W w' := ⟨h.k.after hb⟩
theorem FromB.set (h : FromB b W w) (i : Nat) (v : Value) : FromB b W (w.setCell ⟨b, i, none⟩ v) := ⟨h.k.setCell (.inl rfl) v⟩
theorem FromB.alloc (h : FromB b W w) (o : Obj) : FromB b W (w.alloc o) := ⟨h.k.alloc o⟩
theorem FromB.row (h : FromB b W w) {c : Nat} {cs : Array Value} {t : TypeId} (hr : Row W c cs t) (hne : c ≠ b) : Row w c cs t := hr.keeps h.k hne
theorem FromB.cell (h : FromB b W w) {c o : Nat} {v : Value} (hc : W.cell? ⟨c, o, none⟩ = some v) (hne : c ≠ b) : w.cell? ⟨c, o, none⟩ = some v := by
  have hl : c < W.heap.size := cell_block hc
  rw [World.cell?_of_block (h.k.block c hl hne)]; exact hc
theorem FromB.base (h : FromB b W w) {n : Nat} {w0 : World} (h0 : Below n w0 W) (hn : n ≤ b) (hz : n ≤ W.heap.size) : Below n w0 w :=
  h0.trans (h.k.below hz (fun k hk e => by omega))
end

/-- A world in which all that was there in W is as it was. -/
structure Later (W : World) where
  w : World
  b : Below W.heap.size W w
instance (W : World) : Nonempty (Later W) := ⟨⟨W, Below.refl _ _⟩⟩
section
variable {W : World}
theorem lt_of_isSome {w : World} {a : Addr} (h : (w.cell? a).isSome = true) : a.block < w.heap.size := by
  obtain ⟨u, hu⟩ := Option.isSome_iff_exists.1 h
  exact World.block_lt_of_cell? w a hu
@[go_sem] theorem Later.cell?_eq (x : Later W) (a : Addr) (h : (W.cell? a).isSome = true) : x.w.cell? a = W.cell? a := x.b.cell (lt_of_isSome h)
@[go_sem] theorem Later.frozen?_eq (x : Later W) (a : Addr) (h : (W.cell? a).isSome = true) : x.w.frozen? a = W.frozen? a := x.b.frozen (lt_of_isSome h)
theorem frozen?_alloc_some (w : World) (a : Addr) (o : Obj) (h : (w.cell? a).isSome = true) : (w.alloc o).frozen? a = w.frozen? a := (below_alloc w o).frozen (lt_of_isSome h)
attribute [go_sem] World.cell?_alloc_some frozen?_alloc_some
theorem Later.fr (x : Later W) : From W x.w := ⟨x.b⟩
theorem From.trans {w w' : World} (h : From W w) (k : From w w') : From W w' := h.below k.b
theorem later_of {w : World} (h : Below W.heap.size W w) : ∃ x : Later W, w = x.w := ⟨⟨w, h⟩, rfl⟩
theorem Later.on (x : Later W) {w : World} (h : Below x.w.heap.size x.w w) : ∃ y : Later W, w = y.w := later_of (x.b.trans (h.mono x.b.size))
theorem Later.base (x : Later W) {w : World} (h : Below w.heap.size w W) : Below w.heap.size w x.w := h.trans (x.b.mono h.size)
theorem Later.up (x : Later W) (y : Later x.w) : ∃ z : Later W, y.w = z.w := x.on y.b
end
theorem Calls.later_of {P : Program} {f : FuncId} {args : Array Value} {W : World} {x : Later W} {v : Value} (h : Calls P f args x.w fun e w' => e = .returned v ∧ Below x.w.heap.size x.w w') :
    Calls P f args x.w fun e w'' => e = .returned v ∧ ∃ y : Later W, w'' = y.w := h.mono fun _ _ ⟨he, hb⟩ => ⟨he, x.on hb⟩
theorem Calls.later_same {P : Program} {f : FuncId} {args : Array Value} {W : World} {x : Later W} {v : Value} (h : Calls P f args x.w fun e w' => e = .returned v ∧ x.w = w') :
    Calls P f args x.w fun e w'' => e = .returned v ∧ ∃ y : Later W, w'' = y.w := h.mono fun _ _ ⟨he, hb⟩ => ⟨he, x, hb.symm⟩
theorem wp_region_later {P : Program} {id : Nat} {Q : Exit → Act → World → Prop} {a : Act} {w : World} {l : List Oper} (hm : P.follows .mixedOrders = true) (hB : Region.lexB .any l.toArray = true)
    (h : wpQuiet P l.toArray (fun w' => ∃ x : Later w, w' = x.w) (fun a' => ∀ w', (∃ x : Later w, w' = x.w) → Q .normal a' w') l a) : (Code.region id l.toArray true).wp P Q a w :=
  wp_region_quiet (C := fun w' => ∃ x : Later w, w' = x.w) hm hB ⟨⟨w.drew, (Below.refl _ _).drew⟩, rfl⟩ (by simpa using h)
theorem alloc_setRow (w : World) (old cs : Array Value) (t : TypeId) : (w.alloc (.cells old t)).setRow w.heap.size cs = w.alloc (.cells cs t) := by
  have e : (w.heap.push (Obj.cells old t)).modify w.heap.size (fun x => match x with | Obj.cells c elem frozen => Obj.cells cs elem frozen | o => o) = w.heap.push (Obj.cells cs t) := by
    apply Array.ext
    · simp
    · intro i h1 h2
      rw [Array.getElem_modify]
      simp only [Array.size_push] at h2
      by_cases hi : i = w.heap.size
      · subst hi; simp
      · rw [if_neg (Ne.symm hi), Array.getElem_push_lt (by omega), Array.getElem_push_lt (by omega)]
  show ({ heap := _, tape := w.tape, drawn := w.drawn, os := w.os, output := w.output } : World) = { heap := _, tape := w.tape, drawn := w.drawn, os := w.os, output := w.output }
  congr 1
/-- A new variable gets its value. -/
theorem store_new {P : Program} {ops : Array Oper} {rest : List Oper} {op : Oper} {a : Act} {w : World} {Q : Exit → Act → World → Prop} (hgd : op.guard = none) (ty : TypeId) (x y : Operand) (ho : op.op = .store ty x y)
    (cs old : Array Value) (t : TypeId) (hx : a.eval x = .pointer (some ⟨w.heap.size, 0, none⟩)) (hy : a.eval y = .agg cs)
    (hi : (P.info? ty).map (·.size) = some cs.size) (hold : old.size = cs.size) (h1 : cs.all (·.oneCell') = true)
    (h : wpList P ops Q rest (a.put op.dst undef) (w.alloc (.cells cs t))) : wpList P ops Q (op :: rest) a (w.alloc (.cells old t)) :=
  store_row hgd ty x y ho w.heap.size cs old t hx hy (Row.new _ _ _) hi hold h1 (by rw [alloc_setRow]; exact h)
/-- The same in a round. -/
theorem store_newIn {F : Fence} {n : Nat} {P : Program} {ops : Array Oper} {rest : List Oper} {op : Oper} {a : Act} {w : World} {Q : Exit → Act → World → Prop} (hgd : op.guard = none) (ty : TypeId) (x y : Operand) (ho : op.op = .store ty x y)
    (cs old : Array Value) (t : TypeId) (hx : a.eval x = .pointer (some ⟨w.heap.size, 0, none⟩)) (hy : a.eval y = .agg cs)
    (hi : (P.info? ty).map (·.size) = some cs.size) (hold : old.size = cs.size) (h1 : cs.all (·.oneCell') = true)
    (h : wpListIn F n P ops Q rest (a.put op.dst undef) (w.alloc (.cells cs t))) : wpListIn F n P ops Q (op :: rest) a (w.alloc (.cells old t)) :=
  wpListIn_plain hgd fun K hK => by
    refine ⟨fun f hf => by simp [Oper.about, ho] at hf, ?_⟩
    rw [Oper.semAt_eq _ _ _ (by intro c hc; rw [ho] at hc; cases hc)]
    unfold execOp
    simp only [ho, hx, hy, Instr.storeAt, Instr.sureAddr, Sem.run_bind, Sem.run_pure, Result.andThen_ok, run_storeVar_row (w.alloc (.cells old t)) w.heap.size t ty old cs (Row.new _ _ _) hi hold h1]
    rw [alloc_setRow]
    exact hK _ _ h

theorem Row.new1 (w : World) (o : Obj) (cs : Array Value) (t : TypeId) : Row ((w.alloc o).alloc (.cells cs t)) (w.heap.size + 1) cs t := Row.new' (by simp) _ _
theorem Row.new2 (w : World) (o o' : Obj) (cs : Array Value) (t : TypeId) : Row (((w.alloc o).alloc o').alloc (.cells cs t)) (w.heap.size + 1 + 1) cs t := Row.new' (by simp) _ _
theorem below_alloc2 (w : World) (o o' : Obj) : Below w.heap.size w ((w.alloc o).alloc o') := (below_alloc _ _).alloc (by simp) _
theorem below_alloc3 (w : World) (o o' o'' : Obj) : Below w.heap.size w (((w.alloc o).alloc o').alloc o'') := (below_alloc2 _ _ _).alloc (by simp; omega) _
end Go.Proofs.Ytgdlmlpjeapjaaa
