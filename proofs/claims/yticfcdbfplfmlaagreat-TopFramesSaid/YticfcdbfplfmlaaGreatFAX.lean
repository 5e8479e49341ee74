/- The walks of layer 5: the map of all boxes. -/
import Derived.Test.YticfcdbfplfmlaaGreatKM
import Derived.Test.YticfcdbfplfmlaaGreatRGX
import Derived.Maps.Keyed
import Derived.Maps.Own
import Derived.Maps.OwnOps
import Derived.Maps.OwnSet
import Derived.Maps.Views
import Derived.DeepKeys4
import Derived.BigQuiet
import Derived.BigRegion
import Derived.Deep.RegionHeld3
import Derived.Laws.EntriesVeiled
namespace Go.Proofs.YticfcdbfplfmlaaGreat
open Go.RowKit Go.Maps

theorem Tryz.laidOut' : laidOutB Tryz.prog = true := by kernel_rfl
theorem boxKeyed : Keyed Tryz.prog 127 :=
  Keyed.of_law (deep_law_laid Tryz.laidOut' (m := 5) (by decide) (by decide +kernel) (by kernel_rfl) (by kernel_rfl))
def klit (x y : Int) : Lit := .string (keyBytes [.int .i64 x, .int .i64 y])
theorem types_some3 : ∃ m, Tryz.prog.types.size + 1 = m + 1 + 1 + 1 := ⟨Tryz.prog.types.size - 2, by
  have : 2 ≤ Tryz.prog.types.size := by decide +kernel
  omega⟩
theorem keyLits_int {P : Program} {t : TypeId} (hu : P.underlying t = some (.int .i64)) (d : Nat) (a : Int) (h : (Lit.int .i64 a).wf = true) : P.keyLits (d + 1) t [.int .i64 a] = some [.int .i64 a] := by
  simp [Program.keyLits, hu, h]
theorem lits_box (m : Nat) {a b : Int} (h1 : (Lit.int .i64 a).wf = true) (h2 : (Lit.int .i64 b).wf = true) : Tryz.prog.keyLits (m + 1 + 1 + 1) 127 [.int .i64 a, .int .i64 b] = some [.int .i64 a, .int .i64 b] := by
  have c3 : Tryz.prog.cellsOf 3 = 1 := by kernel_rfl
  have c5 : Tryz.prog.cellsOf 127 = 2 := by kernel_rfl
  have i1 : ∀ (m : Nat) (n : Int), (Lit.int .i64 n).wf = true → Tryz.prog.keyLits (m + 1) 3 [.int .i64 n] = some [.int .i64 n] := fun m n h => keyLits_int Tryz.underlying3 m n h
  generalize hq : m + 1 + 1 = q
  have i2 := i1 (m + 1) a h1
  have i3 := i1 (m + 1) b h2
  rw [hq] at i2 i3
  simp [Program.keyLits, Tryz.underlying127, c3, c5, i2, i3]
theorem form_box (a b : Int) : Value.formed Tryz.prog 127 (.agg #[.int .i64 a, .int .i64 b]) = true := by
  have c : Tryz.prog.cellsOf 127 = 2 := by kernel_rfl
  simp [Value.formed, c, Tryz.underlying127]
theorem type_box : Tryz.prog.keyType 127 = true := by kernel_rfl
theorem wf_I64 {n : Int} (h : I64 n) : (Lit.int .i64 n).wf = true := WalkArith.wf_i64 (by unfold I64 at h; omega)
theorem key_box {x y : Int} (hx : I64 x) (hy : I64 y) : keyOf Tryz.prog 127 (.agg #[.int .i64 x, .int .i64 y]) = some (klit x y) := by
  obtain ⟨m, hm⟩ := types_some3
  unfold keyOf klit
  rw [hm]
  simp only [Tryz.underlying127, type_box, form_box, Bool.and_self, if_true, Value.cells, lits_box m (wf_I64 hx) (wf_I64 hy), Option.map_some]
theorem klit_inj {x y x' y' : Int} (hx : I64 x) (hy : I64 y) (hx' : I64 x') (hy' : I64 y') (h : klit x y = klit x' y') : x = x' ∧ y = y' := by
  have := boxKeyed.inj (key_box hx hy) (by rw [h]; exact key_box hx' hy')
  simpa using this

/-- What a span in a map reads as. -/
def spanR (v : Value) : Option (DataW (Int × Int) × List MemPlace) := match v with
  | .agg ⟨[.int .i64 a, .int .i64 b]⟩ => some (.held (a, b), [])
  | _ => none
theorem spanR_mk (a b : Int) : spanR (.agg #[.int .i64 a, .int .i64 b]) = some (.held (a, b), []) := rfl
theorem spanR_inv {v : Value} {a b : Int} {ps : List MemPlace} (h : spanR v = some (.held (a, b), ps)) : v = .agg #[.int .i64 a, .int .i64 b] := by
  unfold spanR at h
  split at h
  · simp only [Option.some.injEq, Prod.mk.injEq, DataW.held.injEq] at h
    obtain ⟨⟨rfl, rfl⟩, _⟩ := h
    rfl
  · cases h
/-- The map holds just some boxes, each with what it has. -/
def SumsAt (w : World) (mb n : Nat) (F : Int → Int → Bool) (L H : Int → Int → Int) : Prop :=
  ∃ D : DataW (Int × Int), w.ownsMap Tryz.prog 127 spanR mb n D ∧ IsMap D ∧ ∀ x y, I64 x → I64 y → has D (klit x y) = F x y ∧ (F x y = true → ∀ z, D.atKey (klit x y) z = .held (L x y, H x y)) ∧ (F x y = false → ∀ z, D.atKey (klit x y) z = z)
section
variable {w w' : World} {mb n : Nat} {F : Int → Int → Bool} {L H : Int → Int → Int}
theorem SumsAt.made (w : World) (L H : Int → Int → Int) : SumsAt (w.alloc (.map #[] 0)) w.heap.size 0 (fun _ _ => false) L H :=
  ⟨.map [], World.ownsMap_made _ _ _ _, isMap_empty, fun _ _ _ _ => ⟨by simp [has], fun h => (by cases h), fun _ z => by simp [DataW.atKey]⟩⟩
theorem SumsAt.lt (h : SumsAt w mb n F L H) : mb < w.heap.size := let ⟨_, h, _⟩ := h; h.lt
theorem SumsAt.of_same (h : SumsAt w mb n F L H) (hs : w'.heap[mb]? = w.heap[mb]?) : SumsAt w' mb n F L H := by
  obtain ⟨D, ⟨es, clock, hb, F, hn, hD⟩, r⟩ := h
  exact ⟨D, ⟨es, clock, hs.trans hb, F, hn, hD⟩, r⟩
theorem SumsAt.below (h : SumsAt w mb n F L H) (hb : Below w.heap.size w w') : SumsAt w' mb n F L H := h.of_same (hb.block _ h.lt)
theorem SumsAt.congr {F' : Int → Int → Bool} {L' H' : Int → Int → Int} (h : SumsAt w mb n F L H) (hF : ∀ x y, F x y = F' x y) (hL : ∀ x y, F x y = true → L x y = L' x y ∧ H x y = H' x y) : SumsAt w mb n F' L' H' := by
  obtain ⟨D, h1, h2, h3⟩ := h
  refine ⟨D, h1, h2, fun x y hx hy => ?_⟩
  obtain ⟨a, b, c⟩ := h3 x y hx hy
  refine ⟨by rw [a, hF], fun hh z => ?_, fun hh z => c (by rw [hF]; exact hh) z⟩
  have hf : F x y = true := by rw [hF]; exact hh
  rw [b hf z, (hL x y hf).1, (hL x y hf).2]
theorem SumsAt.look (h : SumsAt w mb n F L H) {x y : Int} (hx : I64 x) (hy : I64 y) :
    ∃ a b : Int, (Instr.lookup 90 (.map (some mb)) (.agg #[.int .i64 x, .int .i64 y]) true).run Tryz.prog w = .ok (.tuple #[.agg #[.int .i64 a, .int .i64 b], .bool (F x y)]) w ∧ (F x y = true → a = L x y ∧ b = H x y) ∧ (F x y = false → a = 0 ∧ b = 0) := by
  obtain ⟨D, hown, hm, hat⟩ := h
  obtain ⟨h1, h2, h3⟩ := hat x y hx hy
  have hz : (zeroValue 43).run Tryz.prog w = .ok (.agg #[.int .i64 0, .int .i64 0]) w := Tryz.zeroValue43 w
  obtain ⟨v, ps, hrun, hv⟩ := hown.look_ok boxKeyed Tryz.underlying90 hz (spanR_mk 0 0) (key_box hx hy)
  rw [h1] at hrun
  cases hf : F x y
  · rw [h3 hf] at hv
    rw [spanR_inv hv, hf] at hrun
    exact ⟨0, 0, hrun, fun h => (by cases h), fun _ => ⟨rfl, rfl⟩⟩
  · rw [h2 hf] at hv
    rw [spanR_inv hv, hf] at hrun
    exact ⟨_, _, hrun, fun _ => ⟨rfl, rfl⟩, fun h => (by cases h)⟩
theorem SumsAt.look1 (h : SumsAt w mb n F L H) {x y : Int} (hx : I64 x) (hy : I64 y) :
    ∃ a b : Int, (Instr.lookup 90 (.map (some mb)) (.agg #[.int .i64 x, .int .i64 y]) false).run Tryz.prog w = .ok (.agg #[.int .i64 a, .int .i64 b]) w ∧ (F x y = true → a = L x y ∧ b = H x y) ∧ (F x y = false → a = 0 ∧ b = 0) := by
  obtain ⟨D, hown, hm, hat⟩ := h
  obtain ⟨h1, h2, h3⟩ := hat x y hx hy
  have hz : (zeroValue 43).run Tryz.prog w = .ok (.agg #[.int .i64 0, .int .i64 0]) w := Tryz.zeroValue43 w
  obtain ⟨v, ps, hrun, hv⟩ := hown.lookup boxKeyed Tryz.underlying90 hz (spanR_mk 0 0) (key_box hx hy)
  cases hf : F x y
  · rw [h3 hf] at hv
    rw [spanR_inv hv] at hrun
    exact ⟨0, 0, hrun, fun h => (by cases h), fun _ => ⟨rfl, rfl⟩⟩
  · rw [h2 hf] at hv
    rw [spanR_inv hv] at hrun
    exact ⟨_, _, hrun, fun _ => ⟨rfl, rfl⟩, fun h => (by cases h)⟩
theorem SumsAt.put (h : SumsAt w mb n F L H) (hn : n < maxLen) {x y : Int} (hx : I64 x) (hy : I64 y) :
    ∃ w', (Instr.mapUpdate 90 (.map (some mb)) (.agg #[.int .i64 x, .int .i64 y]) (.agg #[.int .i64 (L x y), .int .i64 (H x y)])).run Tryz.prog w = .ok () w' ∧ SumsAt w' mb (n + 1) (fun a b => F a b || (decide (a = x) && decide (b = y))) L H ∧ w.grownBy w' (some mb) := by
  obtain ⟨D, hown, hm, hat⟩ := h
  obtain ⟨w', hrun, hown', hg⟩ := hown.update boxKeyed Tryz.underlying90 hn (key_box hx hy) (spanR_mk (L x y) (H x y))
  refine ⟨w', hrun, ⟨_, hown', hm.put _ _, ?_⟩, hg⟩
  intro a b ha hb
  obtain ⟨h1, h2, h3⟩ := hat a b ha hb
  by_cases he : klit a b = klit x y
  · obtain ⟨rfl, rfl⟩ := klit_inj ha hb hx hy he
    refine ⟨by rw [has_put_same hm (boxKeyed.key (key_box ha hb))]; simp, fun _ z => atKey_put_same hm (boxKeyed.key (key_box ha hb)) _ _, fun h => by simp at h⟩
  · have hne : (decide (a = x) && decide (b = y)) = false := by
      rw [Bool.eq_false_iff]
      intro h
      simp at h
      obtain ⟨rfl, rfl⟩ := h
      exact he rfl
    simp only [has_put_other he, hne, Bool.or_false]
    exact ⟨h1, fun hf z => by rw [atKey_put_other he]; exact h2 hf z, fun hf z => by rw [atKey_put_other he]; exact h3 hf z⟩
end
end Go.Proofs.YticfcdbfplfmlaaGreat
/- Worlds that came later: all that was there is as it was; a region that draws its order, walked once. -/
namespace Go.Proofs.YticfcdbfplfmlaaGreat
open Go.RowKit Go.Maps

/-- All that was there in a world is as it was. -/
structure From (W w : World) : Prop where
  b : Below W.heap.size W w
section
variable {W w w' : World}
theorem From.refl (W : World) : From W W := ⟨Below.refl _ _⟩
theorem From.drew (h : From W w) : From W w.drew := ⟨h.b.drew⟩
theorem From.below (h : From W w) (hb : Below w.heap.size w w') : From W w' := ⟨h.b.trans (hb.mono h.b.size)⟩
theorem From.cell (h : From W w) {b o : Nat} {v : Value} (hc : W.cell? ⟨b, o, none⟩ = some v) : w.cell? ⟨b, o, none⟩ = some v := by
  rw [(bcell h.b).1 b o (by have := cell_block hc; exact this)]; exact hc
theorem From.row (h : From W w) {b : Nat} {cs : Array Value} {t : TypeId} (hr : Row W b cs t) : Row w b cs t := hr.below h.b hr.lt
theorem From.free (h : From W w) {b : Nat} {cs : Array Value} {t : TypeId} (hr : Row W b cs t) (o : Nat) : w.frozen? ⟨b, o, none⟩ = false := (h.row hr).free o
theorem From.ints (h : From W w) {p : Option Addr} {xs : List Int} (hi : IntsAt W p xs) : IntsAt w p xs := hi.below h.b
end
/-- All that was there in a world is as it was, but for one block. -/
structure FromB (b : Nat) (W w : World) : Prop where
  k : KeepsBut (fun m => m = b) W w
section
variable {b : Nat} {W w w' : World}
theorem FromB.refl (b : Nat) (W : World) : FromB b W W := ⟨KeepsBut.refl _ _⟩
theorem FromB.drew (h : FromB b W w) : FromB b W w.drew := ⟨h.k.drew⟩
theorem FromB.below (h : FromB b W w) (hb : Below w.heap.size w w') : FromB b W w' := ⟨h.k.after hb⟩
theorem FromB.set (h : FromB b W w) (i : Nat) (v : Value) : FromB b W (w.setCell ⟨b, i, none⟩ v) := ⟨h.k.setCell (.inl rfl) v⟩
theorem FromB.alloc (h : FromB b W w) (o : Obj) : FromB b W (w.alloc o) := ⟨h.k.alloc o⟩
theorem FromB.row (h : FromB b W w) {c : Nat} {cs : Array Value} {t : TypeId} (hr : Row W c cs t) (hne : c ≠ b) : Row w c cs t := hr.keeps h.k hne
theorem FromB.cell (h : FromB b W w) {c o : Nat} {v : Value} (hc : W.cell? ⟨c, o, none⟩ = some v) (hne : c ≠ b) : w.cell? ⟨c, o, none⟩ = some v := by
  have hl : c < W.heap.size := cell_block hc
  rw [World.cell?_of_block (h.k.block c hl hne)]; exact hc
theorem FromB.base (h : FromB b W w) {n : Nat} {w0 : World} (h0 : Below n w0 W) (hn : n ≤ b) (hz : n ≤ W.heap.size) : Below n w0 w :=
  h0.trans (h.k.below hz (fun k hk e => by omega))
end

/-- A world in which all that was there in W is as it was. -/
structure Later (W : World) where
  w : World
  b : Below W.heap.size W w
instance (W : World) : Nonempty (Later W) := ⟨⟨W, Below.refl _ _⟩⟩
section
variable {W : World}
theorem lt_of_isSome {w : World} {a : Addr} (h : (w.cell? a).isSome = true) : a.block < w.heap.size := by
  obtain ⟨u, hu⟩ := Option.isSome_iff_exists.1 h
  exact World.block_lt_of_cell? w a hu
@[go_sem] theorem Later.cell?_eq (x : Later W) (a : Addr) (h : (W.cell? a).isSome = true) : x.w.cell? a = W.cell? a := x.b.cell (lt_of_isSome h)
@[go_sem] theorem Later.frozen?_eq (x : Later W) (a : Addr) (h : (W.cell? a).isSome = true) : x.w.frozen? a = W.frozen? a := x.b.frozen (lt_of_isSome h)
theorem frozen?_alloc_some (w : World) (a : Addr) (o : Obj) (h : (w.cell? a).isSome = true) : (w.alloc o).frozen? a = w.frozen? a := (below_alloc w o).frozen (lt_of_isSome h)
attribute [go_sem] World.cell?_alloc_some frozen?_alloc_some
theorem Later.fr (x : Later W) : From W x.w := ⟨x.b⟩
theorem From.trans {w w' : World} (h : From W w) (k : From w w') : From W w' := h.below k.b
theorem later_of {w : World} (h : Below W.heap.size W w) : ∃ x : Later W, w = x.w := ⟨⟨w, h⟩, rfl⟩
theorem Later.on (x : Later W) {w : World} (h : Below x.w.heap.size x.w w) : ∃ y : Later W, w = y.w := later_of (x.b.trans (h.mono x.b.size))
theorem Later.base (x : Later W) {w : World} (h : Below w.heap.size w W) : Below w.heap.size w x.w := h.trans (x.b.mono h.size)
theorem Later.up (x : Later W) (y : Later x.w) : ∃ z : Later W, y.w = z.w := x.on y.b
end
theorem Calls.later_of {P : Program} {f : FuncId} {args : Array Value} {W : World} {x : Later W} {v : Value} (h : Calls P f args x.w fun e w' => e = .returned v ∧ Below x.w.heap.size x.w w') :
    Calls P f args x.w fun e w'' => e = .returned v ∧ ∃ y : Later W, w'' = y.w := h.mono fun _ _ ⟨he, hb⟩ => ⟨he, x.on hb⟩
theorem Calls.later_same {P : Program} {f : FuncId} {args : Array Value} {W : World} {x : Later W} {v : Value} (h : Calls P f args x.w fun e w' => e = .returned v ∧ x.w = w') :
    Calls P f args x.w fun e w'' => e = .returned v ∧ ∃ y : Later W, w'' = y.w := h.mono fun _ _ ⟨he, hb⟩ => ⟨he, x, hb.symm⟩
theorem wp_region_later {P : Program} {id : Nat} {Q : Exit → Act → World → Prop} {a : Act} {w : World} {l : List Oper} (hm : P.follows .mixedOrders = true) (hB : Region.lexB .any l.toArray = true)
    (h : wpQuiet P l.toArray (fun w' => ∃ x : Later w, w' = x.w) (fun a' => ∀ w', (∃ x : Later w, w' = x.w) → Q .normal a' w') l a) : (Code.region id l.toArray true).wp P Q a w :=
  wp_region_quiet (C := fun w' => ∃ x : Later w, w' = x.w) hm hB ⟨⟨w.drew, (Below.refl _ _).drew⟩, rfl⟩ (by simpa using h)
theorem alloc_setRow (w : World) (old cs : Array Value) (t : TypeId) : (w.alloc (.cells old t)).setRow w.heap.size cs = w.alloc (.cells cs t) := by
  have e : (w.heap.push (Obj.cells old t)).modify w.heap.size (fun x => match x with | Obj.cells c elem frozen => Obj.cells cs elem frozen | o => o) = w.heap.push (Obj.cells cs t) := by
    apply Array.ext
    · simp
    · intro i h1 h2
      rw [Array.getElem_modify]
      simp only [Array.size_push] at h2
      by_cases hi : i = w.heap.size
      · subst hi; simp
      · rw [if_neg (Ne.symm hi), Array.getElem_push_lt (by omega), Array.getElem_push_lt (by omega)]
  show ({ heap := _, tape := w.tape, drawn := w.drawn, os := w.os, output := w.output } : World) = { heap := _, tape := w.tape, drawn := w.drawn, os := w.os, output := w.output }
  congr 1
/-- A new variable gets its value. -/
theorem store_new {P : Program} {ops : Array Oper} {rest : List Oper} {op : Oper} {a : Act} {w : World} {Q : Exit → Act → World → Prop} (hgd : op.guard = none) (ty : TypeId) (x y : Operand) (ho : op.op = .store ty x y)
    (cs old : Array Value) (t : TypeId) (hx : a.eval x = .pointer (some ⟨w.heap.size, 0, none⟩)) (hy : a.eval y = .agg cs)
    (hi : (P.info? ty).map (·.size) = some cs.size) (hold : old.size = cs.size) (h1 : cs.all (·.oneCell') = true)
    (h : wpList P ops Q rest (a.put op.dst undef) (w.alloc (.cells cs t))) : wpList P ops Q (op :: rest) a (w.alloc (.cells old t)) :=
  store_row hgd ty x y ho w.heap.size cs old t hx hy (Row.new _ _ _) hi hold h1 (by rw [alloc_setRow]; exact h)
/-- The same in a round. -/
theorem store_newIn {F : Fence} {n : Nat} {P : Program} {ops : Array Oper} {rest : List Oper} {op : Oper} {a : Act} {w : World} {Q : Exit → Act → World → Prop} (hgd : op.guard = none) (ty : TypeId) (x y : Operand) (ho : op.op = .store ty x y)
    (cs old : Array Value) (t : TypeId) (hx : a.eval x = .pointer (some ⟨w.heap.size, 0, none⟩)) (hy : a.eval y = .agg cs)
    (hi : (P.info? ty).map (·.size) = some cs.size) (hold : old.size = cs.size) (h1 : cs.all (·.oneCell') = true)
    (h : wpListIn F n P ops Q rest (a.put op.dst undef) (w.alloc (.cells cs t))) : wpListIn F n P ops Q (op :: rest) a (w.alloc (.cells old t)) :=
  wpListIn_plain hgd fun K hK => by
    refine ⟨fun f hf => by simp [Oper.about, ho] at hf, ?_⟩
    rw [Oper.semAt_eq _ _ _ (by intro c hc; rw [ho] at hc; cases hc)]
    unfold execOp
    simp only [ho, hx, hy, Instr.storeAt, Instr.sureAddr, Sem.run_bind, Sem.run_pure, Result.andThen_ok, run_storeVar_row (w.alloc (.cells old t)) w.heap.size t ty old cs (Row.new _ _ _) hi hold h1]
    rw [alloc_setRow]
    exact hK _ _ h

theorem Row.new1 (w : World) (o : Obj) (cs : Array Value) (t : TypeId) : Row ((w.alloc o).alloc (.cells cs t)) (w.heap.size + 1) cs t := Row.new' (by simp) _ _
theorem Row.new2 (w : World) (o o' : Obj) (cs : Array Value) (t : TypeId) : Row (((w.alloc o).alloc o').alloc (.cells cs t)) (w.heap.size + 1 + 1) cs t := Row.new' (by simp) _ _
theorem below_alloc2 (w : World) (o o' : Obj) : Below w.heap.size w ((w.alloc o).alloc o') := (below_alloc _ _).alloc (by simp) _
theorem below_alloc3 (w : World) (o o' o'' : Obj) : Below w.heap.size w (((w.alloc o).alloc o').alloc o'') := (below_alloc2 _ _ _).alloc (by simp; omega) _
end Go.Proofs.YticfcdbfplfmlaaGreat
/- The walks of layer 5: a book in memory; small calls. -/
namespace Go.Proofs.YticfcdbfplfmlaaGreat
open Go.RowKit Go.Maps
attribute [local go_sem] Oper.semAt_some

/-- Such handfuls lie in memory. -/
def HdsAt (w : World) (p : Option Addr) (hs : List Hd) : Prop :=
  ∀ i (h : i < hs.length), ∃ b o, p = some ⟨b, o, none⟩ ∧ w.cell? ⟨b, o + i * 2, none⟩ = some (.int .i64 hs[i].lo) ∧ w.cell? ⟨b, o + i * 2 + 1, none⟩ = some (.int .i64 hs[i].hi)
theorem HdsAt.below {w w' : World} {p : Option Addr} {hs : List Hd} (h : HdsAt w p hs) (hb : Below w.heap.size w w') : HdsAt w' p hs := by
  intro i hi
  obtain ⟨b, o, hp, h0, h1⟩ := h i hi
  have hlt : b < w.heap.size := cell_block h0
  have key : ∀ k, w'.cell? ⟨b, k, none⟩ = w.cell? ⟨b, k, none⟩ := fun k => (bcell hb).1 b _ hlt
  exact ⟨b, o, hp, by rw [key]; exact h0, by rw [key]; exact h1⟩
theorem HdsAt.part {w : World} {b o : Nat} {hs : List Hd} (h : HdsAt w (some ⟨b, o, none⟩) hs) (x y : Nat) : HdsAt w (some ⟨b, o + x * 2, none⟩) (partL hs x y) := by
  intro i hi
  have hl : i < y - x ∧ x + i < hs.length := by
    unfold partL at hi
    simp only [List.length_take, List.length_drop] at hi
    omega
  obtain ⟨b', o', e, h0, h1⟩ := h (x + i) hl.2
  cases e
  have e2 : (partL hs x y)[i] = hs[x + i] := by simp [partL]
  rw [e2]
  refine ⟨b, o + x * 2, rfl, ?_, ?_⟩
  · rw [show o + x * 2 + i * 2 = o + (x + i) * 2 by omega]; exact h0
  · rw [show o + x * 2 + i * 2 + 1 = o + (x + i) * 2 + 1 by omega]; exact h1
theorem HdsAt.nil (w : World) (p : Option Addr) : HdsAt w p [] := fun i hi => by simp at hi
/-- A book as a value. -/
abbrev bfA (b : Bf) (p : Option Addr) (c : Nat) : Array Value := #[.int .i64 b.pr, .int .i64 b.le, .int .i64 b.mo, .int .i64 b.gr, .slice p b.hs.length c]
structure BfAt (w : World) (p : Option Addr) (c : Nat) (b : Bf) : Prop where
  h : HdsAt w p b.hs
  n : b.hs.length < 2 ^ 62
  c : b.hs.length ≤ c
  i1 : I64 b.pr
theorem BfAt.below {w w' : World} {p : Option Addr} {c : Nat} {b : Bf} (h : BfAt w p c b) (hb : Below w.heap.size w w') : BfAt w' p c b := ⟨h.h.below hb, h.n, h.c, h.i1⟩

set_option maxHeartbeats 400000 in
theorem within_any (n lo hi : Int) (w : World) :
    Calls Tryz.prog 50 #[.int .i64 n, .int .i64 lo, .int .i64 hi] w fun e w' => e = .returned (.bool (fits n lo hi)) ∧ w = w' := by
  unfold fits
  by_cases h1 : lo ≤ n
  · go_enter Tryz.func50, Tryz.ntmps50
    go_wp2
    go_ret
    exact ⟨ret_bool (by simp [h1]), rfl⟩
  · have h1' : decide (lo ≤ n) = false := by simpa using h1
    go_enter Tryz.func50, Tryz.ntmps50
    go_wp2
    go_ret
    exact ⟨ret_bool (by simp), rfl⟩
theorem least_any (lo hi : Int) (w : World) : Calls Tryz.prog 101 #[.agg #[.int .i64 lo, .int .i64 hi]] w fun e w' => e = .returned (.int .i64 lo) ∧ Below w.heap.size w w' := by
  go_enter Tryz.func101, Tryz.ntmps101
  go_wp2
  go_ret
  exact ⟨rfl, below_alloc _ _⟩
theorem most_any (lo hi : Int) (w : World) : Calls Tryz.prog 102 #[.agg #[.int .i64 lo, .int .i64 hi]] w fun e w' => e = .returned (.int .i64 hi) ∧ Below w.heap.size w w' := by
  go_enter Tryz.func102, Tryz.ntmps102
  go_wp2
  go_ret
  exact ⟨rfl, below_alloc _ _⟩
abbrev endsA : Array Value := #[.func (.func 101) #[] #[], .func (.func 102) #[] #[]]
set_option maxRecDepth 10000 in
theorem ends_any (w : World) : Calls Tryz.prog 73 #[] w fun e w' => e = .returned (.agg endsA) ∧ Below w.heap.size w w' := by
  go_enter Tryz.func73, Tryz.ntmps73
  go_wp2_with (first | (refine store_new rfl 157 _ _ rfl endsA #[.nilFunc, .nilFunc] 157 rfl rfl (by kernel_rfl) rfl (by simp [Value.oneCell']) ?_))
  exact bodyPost_ret (v := .agg endsA) (by simp [results, Tryz.results73, go_sem]) rfl ⟨rfl, below_alloc _ _⟩
set_option maxHeartbeats 800000 in
theorem hvalid_any (lo hi : Int) (w : World) : Calls Tryz.prog 51 #[.agg #[.int .i64 lo, .int .i64 hi]] w fun e w' => e = .returned (.bool (hdB ⟨lo, hi⟩)) ∧ Below w.heap.size w w' := by
  cases h : fits lo 0 200
  · have h2 := h
    simp only [fits, Bool.and_eq_false_iff, decide_eq_false_iff_not] at h2
    go_enter Tryz.func51, Tryz.ntmps51
    go_wp2_with (first | (go_at_call 50; (with_reducible refine (within_any _ _ _ _).mono ?_); rintro e w1 ⟨rfl, rfl⟩; rw [h]))
    go_ret
    exact ⟨ret_bool (by symm; simp only [hdB, decide_eq_false_iff_not]; omega), below_alloc _ _⟩
  · have h2 := h
    simp only [fits, Bool.and_eq_true, decide_eq_true_eq] at h2
    have H := Lib.hid h2
    have h3 : 0 ≤ lo := h2.1
    have h4 : lo ≤ 200 := h2.2
    clear h2
    go_enter Tryz.func51, Tryz.ntmps51
    go_wp2_with (first | (go_at_call 50; (with_reducible refine (within_any _ 0 200 _).mono ?_); rintro e w1 ⟨rfl, rfl⟩; rw [h]) | (go_at_call 50; (with_reducible refine (within_any _ _ _ _).mono ?_); rintro e w1 ⟨rfl, rfl⟩))
    all_goals
      go_ret
      refine ⟨ret_bool ?_, below_alloc _ _⟩
      rw [Bool.eq_iff_iff]
      simp only [fits, Bool.and_eq_true, decide_eq_true_eq, hdB]
      omega
/-- The call returned a slice that reads as handfuls; what was there is as it was. -/
def GaveHds (hs : List Hd) (w : World) (e : Ending) (w' : World) : Prop := ∃ q c, e = .returned (.slice q hs.length c) ∧ HdsAt w' q hs ∧ hs.length ≤ c ∧ Below w.heap.size w w'
set_option maxHeartbeats 800000 in
theorem of_any (p : Option Addr) (hs : List Hd) (c x y : Nat) (hx : x ≤ y) (hy : y ≤ hs.length) (hc : hs.length ≤ c) (w : World) (h : HdsAt w p hs) :
    Calls Tryz.prog 60 #[.agg #[.int .i64 x, .int .i64 y], .slice p hs.length c] w (GaveHds (partL hs x y) w) := by
  have hl := partL_length hx hy
  have H := Lib.hid h
  have hb := below_alloc w (.cells #[.int .i64 x, .int .i64 y] 127)
  by_cases e : x = y
  · subst e
    have HL := Lib.hid (part_self hs x)
    have i1 : (0 : Int) ≤ (x : Int) := by omega
    have i2 : (x : Int) ≤ (hs.length : Int) := by omega
    have i3 : (x : Int) ≤ (c : Int) := by omega
    have HB := Lib.hid hb
    have HH := Lib.hid hl
    rw [HL.out]
    clear h hb hl
    go_enter Tryz.func60, Tryz.ntmps60
    go_wp2
    go_ret
    exact ⟨_, _, rfl, HdsAt.nil _ _, Nat.zero_le _, HB.out⟩
  · have hn : 0 < hs.length := by omega
    obtain ⟨b, o, rfl, _⟩ := h 0 hn
    have i1 : (0 : Int) ≤ (x : Int) := by omega
    have i2 : (x : Int) ≤ (y : Int) := by omega
    have i3 : (y : Int) ≤ (hs.length : Int) := by omega
    have i4 : (y : Int) ≤ (c : Int) := by omega
    have i5 : 0 < y - x := by omega
    have HB := Lib.hid hb
    have HP := Lib.hid (H.out.part x y)
    have HL := Lib.hid hl
    clear h hb hl
    go_enter Tryz.func60, Tryz.ntmps60
    go_wp2
    go_ret
    exact ⟨some ⟨b, o + x * 2, none⟩, y - x, by rw [HL.out]; rfl, HP.out.below HB.out, by rw [HL.out]; exact Nat.le_refl _, HB.out⟩
end Go.Proofs.YticfcdbfplfmlaaGreat
/- The walks of layer 5: sums. -/
namespace Go.Proofs.YticfcdbfplfmlaaGreat
open Go.RowKit Go.Maps
attribute [local go_sem] Oper.semAt_some

theorem at0_mem {l : List Int} {i : Nat} (h : i < l.length) : at0 l i ∈ l := by rw [at0_lt h]; exact List.getElem_mem _
theorem sum_take_range {l : List Int} {B : Int} (hB : 0 ≤ B) (h : ∀ x ∈ l, 0 ≤ x ∧ x ≤ B) : ∀ k, k ≤ l.length → 0 ≤ (l.take k).sum ∧ (l.take k).sum ≤ k * B
  | 0, _ => by simp
  | k + 1, hk => by
    have h1 := sum_take_range hB h k (by omega)
    have h2 := h _ (at0_mem (l := l) (i := k) (by omega))
    rw [take_snoc (by omega), List.sum_append]
    simp only [List.sum_cons, List.sum_nil]
    have : ((k + 1 : Nat) : Int) * B = k * B + B := by push_cast; rw [Int.add_mul]; omega
    rw [this]
    omega
theorem sum_take_succ {l : List Int} {k : Nat} (h : k < l.length) : (l.take (k + 1)).sum = (l.take k).sum + at0 l k := by
  rw [take_snoc h, List.sum_append]; simp
theorem I64_of {n : Int} (h0 : -1000000000 ≤ n) (h1 : n ≤ 1000000000) : I64 n := by unfold I64; omega
set_option maxRecDepth 10000 in
set_option maxHeartbeats 1600000 in
theorem sum_any (p : Option Addr) (c : Nat) (xs : List Int) (w : World) (h : IntsAt w p xs) (hn : xs.length ≤ 100) (hr : ∀ x ∈ xs, 0 ≤ x ∧ x ≤ 100000) :
    Calls Tryz.prog 74 #[.slice p xs.length c] w fun e w' => e = .returned (.int .i64 xs.sum) ∧ w = w' := by
  have H := Lib.hid h
  have HR := Lib.hid (sum_take_range (by decide : (0 : Int) ≤ 100000) hr)
  have HX := Lib.hid hr
  clear h hr
  go_enter Tryz.func74, Tryz.ntmps74
  go_wp2
  go_loop [3, 8] (fun a i => ∃ k : Nat, k ≤ xs.length ∧ i = .int .i64 k ∧ a = .int .i64 (xs.take k).sum) (fun _ i => xs.length - (intOf i).toNat)
  case atStart => exact ⟨0, by omega, rfl, rfl⟩
  case round =>
    obtain ⟨k, hk, rfl, rfl⟩ := hrel
    by_cases hlt : k < xs.length
    · obtain ⟨b, o, hp, hc⟩ := H.out k hlt
      subst hp
      have h1 := HR.out k hk
      have h2 := HX.out _ (at0_mem hlt)
      have HS := Lib.hid (sum_take_succ hlt)
      have h3 : (k : Int) * 100000 ≤ 10000000 := by omega
      have i1 : (0 : Int) ≤ (k : Int) := by omega
      have i2 : (k : Int) < (xs.length : Int) := by omega
      generalize (xs.take k).sum = s at *
      generalize at0 xs k = v at *
      go_wp2
      go_round
      case rel => exact ⟨k + 1, by omega, by go_num, by rw [HS.out]⟩
      case measure => simp [intOf]; omega
    · obtain rfl : k = xs.length := by omega
      go_wp2
      go_ret
      exact ⟨ret_int (by simp), rfl⟩
theorem ints_of_owns2 {w : World} {base e : Nat} {v : Value} {xs : List Int} (h : w.ownsRow base e 1 v xs.length (xs.map (Value.int .i64))) :
    ∃ p c, v = .slice p xs.length c ∧ IntsAt w p xs ∧ xs.length ≤ c ∧ c ≤ maxLen ∧ (p = none ∨ ∃ g, p = some ⟨g, 0, none⟩ ∧ base ≤ g) := by
  rcases h.2 with ⟨hv, h0⟩ | ⟨g, cap, cur, hv, hg, hh, h1, h2, h3, h4⟩
  · exact ⟨none, 0, by rw [hv, h0], fun i hi => by omega, by omega, by unfold maxLen; omega, .inl rfl⟩
  · obtain ⟨p, c, e1, e2, e3, e4, e5⟩ := ints_of_owns h
    refine ⟨p, c, e1, e2, e3, e4, ?_⟩
    rw [hv] at e1
    cases e1
    exact .inr ⟨g, rfl, hg⟩
/-- The call returned a slice of its own that reads as a list; what was there is as it was. -/
def GaveNums (xs : List Int) (w : World) (e : Ending) (w' : World) : Prop := ∃ v, e = .returned v ∧ w'.ownsRow w.heap.size 3 1 v xs.length (xs.map (Value.int .i64)) ∧ Below w.heap.size w w'
theorem GaveNums.ints {xs : List Int} {w w' : World} {e : Ending} (h : GaveNums xs w e w') : GaveInts xs w e w' := by
  obtain ⟨v, he, ho, hb⟩ := h
  obtain ⟨p, c, rfl, hi, _⟩ := ints_of_owns2 ho
  exact ⟨p, c, he, hi, hb⟩
/-- The numbers at an end of several handfuls. -/
def endL (f : Hd → Int) (hs : List Hd) : List Int := hs.map f
theorem endL_length (f : Hd → Int) (hs : List Hd) : (endL f hs).length = hs.length := by simp [endL]
theorem endL_succ (f : Hd → Int) {hs : List Hd} {k : Nat} (h : k < hs.length) : endL f (hs.take (k + 1)) = endL f (hs.take k) ++ [f hs[k]] := by
  unfold endL
  rw [List.take_succ_eq_append_getElem h, List.map_append]
  rfl
set_option maxRecDepth 10000 in
set_option maxHeartbeats 1600000 in
theorem numbers_lo_own (p : Option Addr) (c : Nat) (hs : List Hd) (w : World) (h : HdsAt w p hs) (hn : hs.length ≤ 100) :
    Calls Tryz.prog 75 #[.slice p hs.length c, .func (.func 101) #[] #[]] w (GaveNums (endL Hd.lo hs) w) := by
  obtain ⟨i0, hi, hi0, hi1, hi2⟩ := info_parts Tryz.infoInt
  have H := Lib.hid h
  clear h
  go_enter Tryz.func75, Tryz.ntmps75
  go_wp2_with fail
  go_loopw [5, 10] (fun ls i wr => ∃ k : Nat, k ≤ hs.length ∧ i = .int .i64 k ∧ wr.ownsRow w.heap.size 3 1 ls (endL Hd.lo (hs.take k)).length ((endL Hd.lo (hs.take k)).map (Value.int .i64)) ∧ ∃ x : Later w, wr = x.w) (fun _ i _ => hs.length - (intOf i).toNat)
  case atStart => exact ⟨0, by omega, rfl, World.ownsRow_nil _ _ _ _, ⟨w, Below.refl _ _⟩, rfl⟩
  case round =>
    obtain ⟨k, hk, rfl, hown, x, rfl⟩ := hrel
    have HO := Lib.hid hown
    clear hown
    by_cases hlt : k < hs.length
    · have HS := Lib.hid (endL_succ Hd.lo hlt)
      have hpl : (endL Hd.lo (hs.take k)).length ≤ 100 := by rw [endL_length, List.length_take]; omega
      obtain ⟨b, o, hp, h0, h1⟩ := H.out k hlt
      subst hp
      have HF := Lib.hid (fun (w' : World) => least_any hs[k].lo hs[k].hi w')
      have i1 : (0 : Int) ≤ (k : Int) := by omega
      have i2 : (k : Int) < (hs.length : Int) := by omega
      generalize endL Hd.lo (hs.take k) = pk at *
      generalize hs[k].lo = lo at *
      generalize hs[k].hi = hi' at *
      clear hk
      go_wp2_with fail
      have hb1 := below_alloc x.w (.cells #[.int .i64 lo, .int .i64 hi'] 43)
      have HOA := Lib.hid (owns_below HO.out hb1)
      refine (HF.out _).mono ?_
      rintro e u ⟨rfl, hbu⟩
      have HO2 := Lib.hid (owns_below HOA.out hbu)
      obtain ⟨y, hy⟩ := x.on (hb1.trans (hbu.mono hb1.size))
      subst hy
      have hz2 := y.b.size
      clear hbu HO HOA hb1
      go_wp2_with (first
        | (at_builtin; (refine wpList_append_own _ rfl _ _ 29 rfl w.heap.size 3 i0 (.int .i64 0) 1 8 Tryz.underlying29 hi hi0 hi1 hi2 rfl (by decide) _ _ _ rfl (HO2.out.alloc _) ⟨y.w.heap.size, 0, none⟩ 1 1 [.int .i64 lo] rfl rfl (cell_one_new _ _ _) (by simp [Value.oneCell']) (by unfold maxLen; omega) (by omega) (by simp; omega) ?_); intro v' w2 hown' hgrow _; have HO := Lib.hid hown'; have hg2 : Below w.heap.size y.w w2 := ((Below.refl _ _).alloc (by omega) _).grown hgrow (by simp; omega) (fun k hk => (HO2.out.lt k hk).1); obtain ⟨z, hz⟩ := later_of (y.b.trans hg2); clear hg2 hown' hgrow))
      subst hz
      go_roundw
      case rel => exact ⟨k + 1, by omega, by go_num, by rw [HS.out]; simpa using HO.out, z, rfl⟩
      case measure => simp [intOf]; omega
    · obtain rfl : k = hs.length := by omega
      obtain ⟨p', c', rfl, hints, hle, hcm, hp⟩ := ints_of_owns2 HO.out
      have HT := Lib.hid (congrArg (endL Hd.lo) (List.take_length (l := hs)))
      rw [HT.out] at HO ⊢
      clear hints
      go_wp2
      go_ret
      exact ⟨_, rfl, HO.out, x.b⟩
theorem numbers_lo (p : Option Addr) (c : Nat) (hs : List Hd) (w : World) (h : HdsAt w p hs) (hn : hs.length ≤ 100) :
    Calls Tryz.prog 75 #[.slice p hs.length c, .func (.func 101) #[] #[]] w (GaveInts (endL Hd.lo hs) w) :=
  (numbers_lo_own p c hs w h hn).mono fun _ _ h => h.ints
set_option maxRecDepth 10000 in
set_option maxHeartbeats 1600000 in
theorem numbers_hi_own (p : Option Addr) (c : Nat) (hs : List Hd) (w : World) (h : HdsAt w p hs) (hn : hs.length ≤ 100) :
    Calls Tryz.prog 75 #[.slice p hs.length c, .func (.func 102) #[] #[]] w (GaveNums (endL Hd.hi hs) w) := by
  obtain ⟨i0, hi, hi0, hi1, hi2⟩ := info_parts Tryz.infoInt
  have H := Lib.hid h
  clear h
  go_enter Tryz.func75, Tryz.ntmps75
  go_wp2_with fail
  go_loopw [5, 10] (fun ls i wr => ∃ k : Nat, k ≤ hs.length ∧ i = .int .i64 k ∧ wr.ownsRow w.heap.size 3 1 ls (endL Hd.hi (hs.take k)).length ((endL Hd.hi (hs.take k)).map (Value.int .i64)) ∧ ∃ x : Later w, wr = x.w) (fun _ i _ => hs.length - (intOf i).toNat)
  case atStart => exact ⟨0, by omega, rfl, World.ownsRow_nil _ _ _ _, ⟨w, Below.refl _ _⟩, rfl⟩
  case round =>
    obtain ⟨k, hk, rfl, hown, x, rfl⟩ := hrel
    have HO := Lib.hid hown
    clear hown
    by_cases hlt : k < hs.length
    · have HS := Lib.hid (endL_succ Hd.hi hlt)
      have hpl : (endL Hd.hi (hs.take k)).length ≤ 100 := by rw [endL_length, List.length_take]; omega
      obtain ⟨b, o, hp, h0, h1⟩ := H.out k hlt
      subst hp
      have HF := Lib.hid (fun (w' : World) => most_any hs[k].lo hs[k].hi w')
      have i1 : (0 : Int) ≤ (k : Int) := by omega
      have i2 : (k : Int) < (hs.length : Int) := by omega
      generalize endL Hd.hi (hs.take k) = pk at *
      generalize hs[k].lo = lo at *
      generalize hs[k].hi = hi' at *
      clear hk
      go_wp2_with fail
      have hb1 := below_alloc x.w (.cells #[.int .i64 lo, .int .i64 hi'] 43)
      have HOA := Lib.hid (owns_below HO.out hb1)
      refine (HF.out _).mono ?_
      rintro e u ⟨rfl, hbu⟩
      have HO2 := Lib.hid (owns_below HOA.out hbu)
      obtain ⟨y, hy⟩ := x.on (hb1.trans (hbu.mono hb1.size))
      subst hy
      have hz2 := y.b.size
      clear hbu HO HOA hb1
      go_wp2_with (first
        | (at_builtin; (refine wpList_append_own _ rfl _ _ 29 rfl w.heap.size 3 i0 (.int .i64 0) 1 8 Tryz.underlying29 hi hi0 hi1 hi2 rfl (by decide) _ _ _ rfl (HO2.out.alloc _) ⟨y.w.heap.size, 0, none⟩ 1 1 [.int .i64 hi'] rfl rfl (cell_one_new _ _ _) (by simp [Value.oneCell']) (by unfold maxLen; omega) (by omega) (by simp; omega) ?_); intro v' w2 hown' hgrow _; have HO := Lib.hid hown'; have hg2 : Below w.heap.size y.w w2 := ((Below.refl _ _).alloc (by omega) _).grown hgrow (by simp; omega) (fun k hk => (HO2.out.lt k hk).1); obtain ⟨z, hz⟩ := later_of (y.b.trans hg2); clear hg2 hown' hgrow))
      subst hz
      go_roundw
      case rel => exact ⟨k + 1, by omega, by go_num, by rw [HS.out]; simpa using HO.out, z, rfl⟩
      case measure => simp [intOf]; omega
    · obtain rfl : k = hs.length := by omega
      obtain ⟨p', c', rfl, hints, hle, hcm, hp⟩ := ints_of_owns2 HO.out
      have HT := Lib.hid (congrArg (endL Hd.hi) (List.take_length (l := hs)))
      rw [HT.out] at HO ⊢
      clear hints
      go_wp2
      go_ret
      exact ⟨_, rfl, HO.out, x.b⟩
theorem numbers_hi (p : Option Addr) (c : Nat) (hs : List Hd) (w : World) (h : HdsAt w p hs) (hn : hs.length ≤ 100) :
    Calls Tryz.prog 75 #[.slice p hs.length c, .func (.func 102) #[] #[]] w (GaveInts (endL Hd.hi hs) w) :=
  (numbers_hi_own p c hs w h hn).mono fun _ _ h => h.ints
end Go.Proofs.YticfcdbfplfmlaaGreat
/- The walks of layer 5: what several handfuls have together; a book with its boxes. -/
namespace Go.Proofs.YticfcdbfplfmlaaGreat
open Go.RowKit Go.Maps
attribute [local go_sem] Oper.semAt_some

theorem endL_sum (f : Hd → Int) (hs : List Hd) : (endL f hs).sum = sumF f hs := rfl
theorem endL_range {f : Hd → Int} {hs : List Hd} {B : Int} (h : ∀ x ∈ hs, 0 ≤ f x ∧ f x ≤ B) : ∀ x ∈ endL f hs, 0 ≤ x ∧ x ≤ B := by
  intro x hx
  obtain ⟨y, hy, rfl⟩ := List.mem_map.1 hx
  exact h y hy
set_option maxRecDepth 10000 in
set_option maxHeartbeats 1600000 in
theorem together_any (p : Option Addr) (c : Nat) (hs : List Hd) (w : World) (h : HdsAt w p hs) (hn : hs.length ≤ 100) (hr : ∀ x ∈ hs, (0 ≤ x.lo ∧ x.lo ≤ 100000) ∧ (0 ≤ x.hi ∧ x.hi ≤ 100000)) :
    Calls Tryz.prog 47 #[.slice p hs.length c] w fun e w' => e = .returned (.agg #[.int .i64 (sumF Hd.lo hs), .int .i64 (sumF Hd.hi hs)]) ∧ Below w.heap.size w w' := by
  have H := Lib.hid h
  have HSL := Lib.hid (fun (q : Option Addr) (c : Nat) (w' : World) (hi : IntsAt w' q (endL Hd.lo hs)) => sum_any q c (endL Hd.lo hs) w' hi (by rw [endL_length]; exact hn) (endL_range fun x hx => (hr x hx).1))
  have HSH := Lib.hid (fun (q : Option Addr) (c : Nat) (w' : World) (hi : IntsAt w' q (endL Hd.hi hs)) => sum_any q c (endL Hd.hi hs) w' hi (by rw [endL_length]; exact hn) (endL_range fun x hx => (hr x hx).2))
  clear h hr
  go_enter Tryz.func47, Tryz.ntmps47
  go_wp2_with fail
  refine (ends_any _).mono ?_
  rintro e u ⟨rfl, hbu⟩
  have hb0 := below_alloc w (.cells #[.int .i64 0, .int .i64 0] 43)
  have rQ := (Row.new w #[.int .i64 0, .int .i64 0] 43).below hbu (by simp)
  have HB := Lib.hid (hb0.trans (hbu.mono hb0.size))
  have hzu := rQ.lt
  clear hbu hb0
  go_wp2_with (first | (refine store_new rfl 157 _ _ rfl endsA #[.nilFunc, .nilFunc] 157 rfl rfl (by kernel_rfl) rfl (by simp [Value.oneCell']) ?_))
  have hb1 := below_alloc u (.cells endsA 157)
  have rE := Row.new u endsA 157
  have RQ := Lib.hid (rQ.below hb1 hzu)
  have RQ0 := RQ
  have HB := Lib.hid (HB.out.trans (hb1.mono HB.out.size))
  change Code.wp _ _ _ _ (u.alloc (.cells endsA 157))
  generalize u.alloc (.cells endsA 157) = W1 at *
  generalize u.heap.size = b1 at *
  have c0 := rE.cell 0 (v := .func (.func 101) #[] #[]) rfl
  have c1 := rE.cell 1 (v := .func (.func 102) #[] #[]) rfl
  have hne : w.heap.size ≠ b1 := by omega
  have HSS := Lib.hid (fun w' (k : FromB w.heap.size W1 w') => (⟨k.cell c0 (by omega), k.cell c1 (by omega)⟩ : w'.cell? ⟨b1, 0, none⟩ = some (.func (.func 101) #[] #[]) ∧ w'.cell? ⟨b1, 1, none⟩ = some (.func (.func 102) #[] #[])))
  have KI := Lib.hid (From.refl W1)
  have KB := Lib.hid (FromB.refl w.heap.size W1)
  have HNL := Lib.hid (fun w' (k : From W1 w') => numbers_lo p c hs w' (H.out.below (HB.out.trans (k.b.mono HB.out.size))) hn)
  have HNH := Lib.hid (fun w' (k : From W1 w') => numbers_hi p c hs w' (H.out.below (HB.out.trans (k.b.mono HB.out.size))) hn)
  have z0 := RQ.out.cell 0 (v := .int .i64 0) rfl
  have z1 := RQ.out.cell 1 (v := .int .i64 0) rfl
  have f0 := RQ.out.free 0
  have f1 := RQ.out.free 1
  clear rQ rE hb1 c0 c1
  go_region_held3 (fun w' => w'.cell? ⟨b1, 0, none⟩ = some (.func (.func 101) #[] #[]) ∧ w'.cell? ⟨b1, 1, none⟩ = some (.func (.func 102) #[] #[])) (first | with_reducible exact HSS.out _ KB.out | with_reducible exact HSS.out _ KB.out.drew | with_reducible exact HSS.out _ ((KB.out.set _ _).set _ _))
    (first
      | (go_at_call 75; (first | with_reducible refine (HNL.out _ KI.out).mono ?_ | with_reducible refine (HNL.out _ KI.out.drew).mono ?_); rintro e wy ⟨ql, cl, rfl, hil, hbu⟩; have KI := Lib.hid (by first | with_reducible exact KI.out.drew.below hbu | with_reducible exact KI.out.below hbu); have KB := Lib.hid (by first | with_reducible exact KB.out.drew.below hbu | with_reducible exact KB.out.below hbu); have HIL := Lib.hid hil; (try have HIH := Lib.hid (HIH.out.below hbu)); have RQ := Lib.hid (KI.out.row RQ0.out); have z0 := RQ.out.cell 0 (v := .int .i64 0) rfl; have z1 := RQ.out.cell 1 (v := .int .i64 0) rfl; have f0 := RQ.out.free 0; have f1 := RQ.out.free 1; clear hil hbu)
      | (go_at_call 75; (first | with_reducible refine (HNH.out _ KI.out).mono ?_ | with_reducible refine (HNH.out _ KI.out.drew).mono ?_); rintro e wy ⟨qh, ch, rfl, hih, hbu⟩; have KI := Lib.hid (by first | with_reducible exact KI.out.drew.below hbu | with_reducible exact KI.out.below hbu); have KB := Lib.hid (by first | with_reducible exact KB.out.drew.below hbu | with_reducible exact KB.out.below hbu); have HIH := Lib.hid hih; (try have HIL := Lib.hid (HIL.out.below hbu)); have RQ := Lib.hid (KI.out.row RQ0.out); have z0 := RQ.out.cell 0 (v := .int .i64 0) rfl; have z1 := RQ.out.cell 1 (v := .int .i64 0) rfl; have f0 := RQ.out.free 0; have f1 := RQ.out.free 1; clear hih hbu)
      | (go_at_call 74; (with_reducible refine (HSL.out _ _ _ HIL.out).mono ?_); rintro e wy ⟨rfl, rfl⟩; rw [endL_sum])
      | (go_at_call 74; (with_reducible refine (HSH.out _ _ _ HIH.out).mono ?_); rintro e wy ⟨rfl, rfl⟩; rw [endL_sum]))
  all_goals
    go_wp2_with fail
    have q := (RQ.out.set 0 (.int .i64 (sumF Hd.lo hs))).set 1 (.int .i64 (sumF Hd.hi hs))
    have e0 := q.cell 0 (v := .int .i64 (sumF Hd.lo hs)) rfl
    have e1 := q.cell 1 (v := .int .i64 (sumF Hd.hi hs)) rfl
    exact bodyPost_ret (v := .agg #[.int .i64 (sumF Hd.lo hs), .int .i64 (sumF Hd.hi hs)]) (by simp [results, Tryz.results47, go_sem, e0, e1]) rfl
      ⟨rfl, ((HB.out.trans (KI.out.b.mono HB.out.size)).setCell (by dsimp only; omega) _).setCell (by dsimp only; omega) _⟩
end Go.Proofs.YticfcdbfplfmlaaGreat
/- The walks of layer 5: a book with its boxes. -/
namespace Go.Proofs.YticfcdbfplfmlaaGreat
open Go.RowKit Go.Maps
attribute [local go_sem] Oper.semAt_some

/-- A book with the map of its boxes. -/
abbrev bkA (b : Bf) (p : Option Addr) (c mb : Nat) : Array Value := #[.int .i64 b.pr, .int .i64 b.le, .int .i64 b.mo, .int .i64 b.gr, .slice p b.hs.length c, .map (some mb)]
def loF (b : Bf) (x y : Int) : Int := loB b x.toNat y.toNat
def hiF (b : Bf) (x y : Int) : Int := hiB b x.toNat y.toNat
/-- The boxes that begin before a handful, and those that begin with it and have at most so many handfuls. -/
def boxTo (b : Bf) (k j : Nat) (x y : Int) : Bool := boxB b x y && (decide (x < k) || (decide (x = k) && decide (y ≤ k + j)))
def GaveBk (b : Bf) (p : Option Addr) (c : Nat) (w : World) (e : Ending) (w' : World) : Prop :=
  ∃ mb, e = .returned (.agg (bkA b p c mb)) ∧ SumsAt w' mb 100 (boxB b) (loF b) (hiF b) ∧ w.heap.size ≤ mb ∧ Below w.heap.size w w'
theorem keeps_grown {w w' : World} {m : Nat} (hg : w.grownBy w' (some m)) (M : Nat → Prop) (hM : M m) : KeepsBut M w w' :=
  ⟨hg.os, hg.tape, hg.output, hg.size, fun k hk hn => hg.block k hk (fun e => hn (by cases e; exact hM))⟩
theorem SumsAt.mono {w : World} {mb n n' : Nat} {F : Int → Int → Bool} {L H : Int → Int → Int} (h : SumsAt w mb n F L H) (hn : n ≤ n') : SumsAt w mb n' F L H := let ⟨D, h1, h2⟩ := h; ⟨D, h1.mono hn, h2⟩
theorem HdsAt.fromB {w w' : World} {p : Option Addr} {hs : List Hd} {b n : Nat} (h : HdsAt w p hs) (hb : Below n w w') (hn : w.heap.size ≤ n) : HdsAt w' p hs := h.below (hb.mono hn)
theorem boxTo_zero (b : Bf) (x y : Int) : boxTo b 0 0 x y = false := by
  unfold boxTo boxB
  rw [Bool.eq_false_iff]
  intro h
  simp at h
  omega
theorem boxTo_next {b : Bf} {k m : Nat} (hm : (m : Int) = min b.gr ((b.hs.length : Int) - k)) (x y : Int) : boxTo b k m x y = boxTo b (k + 1) 0 x y := by
  unfold boxTo boxB
  rw [Bool.eq_iff_iff]
  simp
  omega
theorem boxTo_put {b : Bf} {k j : Nat} (hk : k + j + 1 ≤ b.hs.length) (hg : (j : Int) + 1 ≤ b.gr) (x y : Int) : (boxTo b k j x y || (decide (x = (k : Int)) && decide (y = (k : Int) + (j : Int) + 1))) = boxTo b k (j + 1) x y := by
  unfold boxTo boxB
  rw [Bool.eq_iff_iff]
  simp
  omega
theorem boxTo_all (b : Bf) (x y : Int) : boxTo b b.hs.length 0 x y = boxB b x y := by
  unfold boxTo boxB
  rw [Bool.eq_iff_iff]
  simp
  omega
theorem hd_bounds {hs : List Hd} (h : ∀ h ∈ hs, HdOk h) : ∀ x ∈ hs, (0 ≤ x.lo ∧ x.lo ≤ 100000) ∧ (0 ≤ x.hi ∧ x.hi ≤ 100000) := by
  intro x hx
  have := h x hx
  have h0 := this.l0
  have h1 := this.l1
  have h2 := this.l2
  omega
set_option maxRecDepth 10000 in
set_option maxHeartbeats 3200000 in
theorem open_any (b : Bf) (p : Option Addr) (c : Nat) (w : World) (hB : BfAt w p c b) (hok : BfOk b) :
    Calls Tryz.prog 68 #[.agg (bfA b p c)] w (GaveBk b p c w) := by
  obtain ⟨W0, hW0⟩ : ∃ W, W = (((w.alloc (.cells (bfA b p c) 28)).alloc (.cells #[.int .i64 0, .int .i64 0, .int .i64 0, .int .i64 0, .slice none 0 0, .map none] 92)).alloc (.map #[] 0)).alloc (.cells (bkA b p c (w.heap.size + 1 + 1)) 92) := ⟨_, rfl⟩
  have HW0 := Lib.hid hW0
  have HE := Lib.hid (show Below w.heap.size w W0 by rw [hW0]; exact (below_alloc3 _ _ _ _).alloc (by simp; omega) _)
  have hz0 : W0.heap.size = w.heap.size + 4 := by rw [hW0]; simp
  have rB : Row W0 w.heap.size (bfA b p c) 28 := by rw [hW0]; exact (((Row.new _ _ _).alloc _).alloc _).alloc _
  have rR : Row W0 (w.heap.size + 1) #[.int .i64 0, .int .i64 0, .int .i64 0, .int .i64 0, .slice none 0 0, .map none] 92 := by rw [hW0]; exact ((Row.new1 _ _ _ _).alloc _).alloc _
  have rK : Row W0 (w.heap.size + 1 + 1 + 1) (bkA b p c (w.heap.size + 1 + 1)) 92 := by rw [hW0]; exact Row.new' (by simp) _ _
  have hS0 : SumsAt W0 (w.heap.size + 1 + 1) 0 (fun _ _ => false) (loF b) (hiF b) := by
    rw [hW0]
    have h := (SumsAt.made ((w.alloc (.cells (bfA b p c) 28)).alloc (.cells #[.int .i64 0, .int .i64 0, .int .i64 0, .int .i64 0, .slice none 0 0, .map none] 92)) (loF b) (hiF b)).below (below_alloc _ (.cells (bkA b p c (w.heap.size + 1 + 1)) 92))
    simp only [World.size_alloc] at h
    exact h
  have RB := Lib.hid rB
  have RR := Lib.hid rR
  have RK := Lib.hid rK
  have HB := Lib.hid hB
  have HOK := Lib.hid hok
  have HH := Lib.hid (hB.h.below HE.out)
  have hn8 := hok.n8
  have hg1 := hok.g1
  have hg2 := hok.g2
  have hcc := hB.c
  have HS0 := Lib.hid hS0
  have hmm := @run_makeMap Tryz.prog
  clear hB hok hW0 rB rR rK hS0
  go_enter Tryz.func68, Tryz.ntmps68
  go_wp2_with fail
  clear hmm
  rw [← HW0.out]
  go_loopw [13] (fun i wr => ∃ k : Nat, k ≤ b.hs.length ∧ i = .int .i64 k ∧ SumsAt wr (w.heap.size + 1 + 1) (8 * k) (boxTo b k 0) (loF b) (hiF b) ∧ FromB (w.heap.size + 1 + 1) W0 wr) (fun i _ => b.hs.length - (intOf i).toNat)
  case atStart => exact ⟨0, by omega, rfl, HS0.out.congr (fun x y => (boxTo_zero b x y).symm) (fun x y h => by cases h), FromB.refl _ _⟩
  case round =>
    obtain ⟨k, hk, rfl, hsu, hkb⟩ := hrel
    have HSU := Lib.hid hsu
    have HKB := Lib.hid hkb
    have c3 := (hkb.row RB.out (by omega)).cell 3 (v := .int .i64 b.gr) rfl
    have c4 := (hkb.row RB.out (by omega)).cell 4 (v := .slice p b.hs.length c) rfl
    clear hsu hkb
    by_cases hlt : k < b.hs.length
    · obtain ⟨m, hm⟩ : ∃ m : Nat, (m : Int) = min b.gr ((b.hs.length : Int) - k) := ⟨(min b.gr ((b.hs.length : Int) - k)).toNat, by omega⟩
      have HM := Lib.hid hm
      have hm4 : m ≤ 4 := by omega
      have hmk : k + m ≤ b.hs.length := by omega
      have hmg : (m : Int) ≤ b.gr := by omega
      have i1 : (k : Int) < (b.hs.length : Int) := by omega
      clear hm
      go_wp2_with fail
      all_goals
        go_loopw [24] (fun i wr => ∃ j : Nat, j ≤ m ∧ i = .int .i64 j ∧ SumsAt wr (w.heap.size + 1 + 1) (8 * k + j) (boxTo b k j) (loF b) (hiF b) ∧ FromB (w.heap.size + 1 + 1) W0 wr) (fun i _ => m - (intOf i).toNat)
        case atStart => exact ⟨0, by omega, rfl, HSU.out, HKB.out⟩
        case round =>
          clear HSU HKB c3 c4
          obtain ⟨j, hj, rfl, hsu, hkb⟩ := hrel
          have HSU := Lib.hid hsu
          have HKB := Lib.hid hkb
          have c4 := (hkb.row RB.out (by omega)).cell 4 (v := .slice p b.hs.length c) rfl
          have k5 := (hkb.row RK.out (by omega)).cell 5 (v := .map (some (w.heap.size + 1 + 1))) rfl
          have hzr := (hkb.row RK.out (by omega)).lt
          clear hsu hkb
          by_cases hlj : j < m
          · have hk8 : (k : Int) ≤ 8 := by omega
            have hj8 : (j : Int) ≤ 8 := by omega
            have hc1 : (j : Int) < b.gr := by omega
            have hc2 : (j : Int) < (b.hs.length : Int) - (k : Int) := by omega
            have hkj : k + j + 1 ≤ b.hs.length := by omega
            go_wp2_with fail
            have hb1 := below_alloc wr (.cells #[.int .i64 k, .int .i64 ((k : Int) + (j : Int) + 1)] 127)
            have rX := Row.new wr #[.int .i64 k, .int .i64 ((k : Int) + (j : Int) + 1)] 127
            have HSU := Lib.hid (HSU.out.below hb1)
            have HKB := Lib.hid (HKB.out.below hb1)
            change Code.wp _ _ _ _ (wr.alloc (.cells #[.int .i64 k, .int .i64 ((k : Int) + (j : Int) + 1)] 127))
            generalize wr.alloc (.cells #[.int .i64 k, .int .i64 ((k : Int) + (j : Int) + 1)] 127) = W1 at *
            generalize hbx : wr.heap.size = bx at *
            have hbx2 : bx ≠ w.heap.size + 1 + 1 := by omega
            have x0 := rX.cell 0 (v := .int .i64 k) rfl
            have x1 := rX.cell 1 (v := .int .i64 ((k : Int) + (j : Int) + 1)) rfl
            have d4 := (HKB.out.row RB.out (by omega)).cell 4 (v := .slice p b.hs.length c) rfl
            have d5 := (HKB.out.row RK.out (by omega)).cell 5 (v := .map (some (w.heap.size + 1 + 1))) rfl
            have HSS := Lib.hid (fun w' (kk : FromB (w.heap.size + 1 + 1) W1 w') => (⟨kk.cell d5 (by omega), kk.cell x0 hbx2, kk.cell x1 hbx2, kk.cell d4 (by omega)⟩ : w'.cell? ⟨w.heap.size + 1 + 1 + 1, 5, none⟩ = some (.map (some (w.heap.size + 1 + 1))) ∧ w'.cell? ⟨bx, 0, none⟩ = some (.int .i64 k) ∧ w'.cell? ⟨bx, 1, none⟩ = some (.int .i64 ((k : Int) + (j : Int) + 1)) ∧ w'.cell? ⟨w.heap.size, 4, none⟩ = some (.slice p b.hs.length c)))
            have KI := Lib.hid (From.refl W1)
            have KB := Lib.hid (FromB.refl (w.heap.size + 1 + 1) W1)
            have HLK := Lib.hid (show loF b (k : Int) ((k : Int) + (j : Int) + 1) = sumF Hd.lo (partL b.hs k (k + j + 1)) by
              unfold loF loB; rw [show ((k : Int)).toNat = k by omega, show ((k : Int) + (j : Int) + 1).toNat = k + j + 1 by omega])
            have HHK := Lib.hid (show hiF b (k : Int) ((k : Int) + (j : Int) + 1) = sumF Hd.hi (partL b.hs k (k + j + 1)) by
              unfold hiF hiB; rw [show ((k : Int)).toNat = k by omega, show ((k : Int) + (j : Int) + 1).toNat = k + j + 1 by omega])
            have HHW := Lib.hid (show HdsAt W1 p b.hs from by
              have h := HB.out.h
              have hb := HE.out.trans ((HKB.out.k.below (n := w.heap.size) (by omega) (fun q hq e => by omega)))
              exact h.below hb)
            have HOF := Lib.hid (fun w' (kk : From W1 w') => (by
              have h := of_any p b.hs c k (k + j + 1) (by omega) hkj hcc w' (HHW.out.below kk.b)
              rw [show ((k + j + 1 : Nat) : Int) = (k : Int) + (j : Int) + 1 by omega] at h
              exact h))
            have hpl := partL_length (hs := b.hs) (a := k) (b := k + j + 1) (by omega) hkj
            have HTO := Lib.hid (fun q c w' (hq : HdsAt w' q (partL b.hs k (k + j + 1))) => together_any q c (partL b.hs k (k + j + 1)) w' hq (by omega) (fun x hx => hd_bounds HOK.out.h x (partL_mem hx)))
            clear hpl x0 x1 d4 d5 rX hb1 c4 k5
            go_region_held3 (fun w' => w'.cell? ⟨w.heap.size + 1 + 1 + 1, 5, none⟩ = some (.map (some (w.heap.size + 1 + 1))) ∧ w'.cell? ⟨bx, 0, none⟩ = some (.int .i64 k) ∧ w'.cell? ⟨bx, 1, none⟩ = some (.int .i64 ((k : Int) + (j : Int) + 1)) ∧ w'.cell? ⟨w.heap.size, 4, none⟩ = some (.slice p b.hs.length c)) (first | with_reducible exact HSS.out _ KB.out | with_reducible exact HSS.out _ KB.out.drew | with_reducible exact HSS.out _ KB9.out)
              (first
                | (go_at_call 60; (first | with_reducible refine (HOF.out _ KI.out).mono ?_ | with_reducible refine (HOF.out _ KI.out.drew).mono ?_); rintro e wy ⟨q, cq, rfl, hq, _, hbu⟩; have KB := Lib.hid (by first | with_reducible exact KB.out.drew.below hbu | with_reducible exact KB.out.below hbu); have KI := Lib.hid (by first | with_reducible exact KI.out.drew.below hbu | with_reducible exact KI.out.below hbu); have HQ := Lib.hid hq; clear hq hbu)
                | (go_at_call 47; (with_reducible refine (HTO.out _ _ _ HQ.out).mono ?_); rintro e wy ⟨rfl, hbu⟩; have KB := Lib.hid (by first | with_reducible exact KB.out.drew.below hbu | with_reducible exact KB.out.below hbu); have KI := Lib.hid (by first | with_reducible exact KI.out.drew.below hbu | with_reducible exact KI.out.below hbu); obtain ⟨w9, hrun, hs9, hg9⟩ := (HSU.out.below KI.out.b).put (by unfold maxLen; omega) (x := (k : Int)) (y := (k : Int) + (j : Int) + 1) (I64_of (by omega) (by omega)) (I64_of (by omega) (by omega)); rw [HLK.out, HHK.out] at hrun; have HS9 := Lib.hid hs9; have KB9 := Lib.hid (⟨KB.out.k.trans (keeps_grown hg9 _ rfl)⟩ : FromB (w.heap.size + 1 + 1) W1 w9); clear hs9 hg9 hbu))
            all_goals
              have HKB9 := Lib.hid (show FromB (w.heap.size + 1 + 1) W0 w9 from ⟨HKB.out.k.trans KB9.out.k⟩)
              go_wp2_with fail
              go_roundw
              case rel => exact ⟨j + 1, by omega, by go_num, HS9.out.congr (fun x y => boxTo_put hkj (by omega) x y) (fun _ _ _ => ⟨rfl, rfl⟩), HKB9.out⟩
              case measure => simp [intOf]; omega
          · obtain rfl : j = m := by omega
            first
              | have hc : ¬ (j : Int) < b.gr := by have := HM.out; omega
              | have hc : ¬ (j : Int) < (b.hs.length : Int) - (k : Int) := by have := HM.out; omega
            go_wp2_with fail
            go_roundw
            case rel => exact ⟨k + 1, by omega, by go_num, (HSU.out.congr (fun x y => boxTo_next HM.out x y) (fun _ _ _ => ⟨rfl, rfl⟩)).mono (by omega), HKB.out⟩
            case measure => simp [intOf]; omega
    · obtain rfl : k = b.hs.length := by omega
      have rr := HKB.out.row RR.out (by omega)
      have rk := HKB.out.row RK.out (by omega)
      have hs9 := (HSU.out.congr (fun x y => boxTo_all b x y) (fun _ _ _ => ⟨rfl, rfl⟩)).mono (n' := 100) (by omega)
      have HS9 := Lib.hid hs9
      have HBW := Lib.hid (HE.out.trans (HKB.out.k.below (n := w.heap.size) (by omega) (fun q hq e => by omega)))
      clear hs9 c3 c4
      have k0 := rk.cell 0 (v := .int .i64 b.pr) rfl
      have k1 := rk.cell 1 (v := .int .i64 b.le) rfl
      have k2 := rk.cell 2 (v := .int .i64 b.mo) rfl
      have k3 := rk.cell 3 (v := .int .i64 b.gr) rfl
      have k4 := rk.cell 4 (v := .slice p b.hs.length c) rfl
      have k5 := rk.cell 5 (v := .map (some (w.heap.size + 1 + 1))) rfl
      have RR2 := Lib.hid rr
      have r0 := rr.cell 0 (v := .int .i64 0) rfl
      have r1 := rr.cell 1 (v := .int .i64 0) rfl
      have r2 := rr.cell 2 (v := .int .i64 0) rfl
      have r3 := rr.cell 3 (v := .int .i64 0) rfl
      have r4 := rr.cell 4 (v := .slice none 0 0) rfl
      have r5 := rr.cell 5 (v := .map none) rfl
      have f0 := rr.free 0
      have f1 := rr.free 1
      have f2 := rr.free 2
      have f3 := rr.free 3
      have f4 := rr.free 4
      have f5 := rr.free 5
      clear rr rk
      go_wp2_with fail
      have q := (((((RR2.out.set 0 (.int .i64 b.pr)).set 1 (.int .i64 b.le)).set 2 (.int .i64 b.mo)).set 3 (.int .i64 b.gr)).set 4 (.slice p b.hs.length c)).set 5 (.map (some (w.heap.size + 1 + 1)))
      exact bodyPost_ret (v := .agg (bkA b p c (w.heap.size + 1 + 1))) (results_cell_row Tryz.results68 _ _ _ _ _ _ _ rfl q Tryz.underlying92 rfl (by kernel_rfl)) rfl
        ⟨_, rfl, HS9.out.of_same (by iterate 6 rw [Below.heap_setCell _ _ _ _ (by dsimp only; omega)]), by omega, (((((HBW.out.setCell (by dsimp only; omega) _).setCell (by dsimp only; omega) _).setCell (by dsimp only; omega) _).setCell (by dsimp only; omega) _).setCell (by dsimp only; omega) _).setCell (by dsimp only; omega) _⟩
end Go.Proofs.YticfcdbfplfmlaaGreat
/- The walks of layer 5: what a box is; lists that grow. -/
namespace Go.Proofs.YticfcdbfplfmlaaGreat
open Go.RowKit Go.Maps
attribute [local go_sem] Oper.semAt_some

/-- A valid book with the map of its boxes, in memory. -/
structure BkF (w : World) (p : Option Addr) (c mb : Nat) (b : Bf) : Prop where
  a : BfAt w p c b
  s : SumsAt w mb 100 (boxB b) (loF b) (hiF b)
  ok : BfOk b
theorem BkF.below {w w' : World} {p : Option Addr} {c mb : Nat} {b : Bf} (h : BkF w p c mb b) (hb : Below w.heap.size w w') : BkF w' p c mb b := ⟨h.a.below hb, h.s.below hb, h.ok⟩
theorem few_any (b : Bf) (hok : BfOk b) (p : Option Addr) (c mb : Nat) (lo hi : Int) (w : World) : Calls Tryz.prog 99 #[.agg (bkA b p c mb), .agg #[.int .i64 lo, .int .i64 hi]] w fun e w' => e = .returned (.bool (fewB b lo)) ∧ Below w.heap.size w w' := by
  have h1 := hok.p1
  have h2 := hok.p2
  have h3 := hok.l1
  have h4 := hok.l2
  clear hok
  go_enter Tryz.func99, Tryz.ntmps99
  go_wp2
  go_ret
  exact ⟨rfl, below_alloc2 _ _ _⟩
theorem many_any (b : Bf) (hok : BfOk b) (p : Option Addr) (c mb : Nat) (lo hi : Int) (w : World) : Calls Tryz.prog 100 #[.agg (bkA b p c mb), .agg #[.int .i64 lo, .int .i64 hi]] w fun e w' => e = .returned (.bool (manyB b hi)) ∧ Below w.heap.size w w' := by
  have h1 := hok.p1
  have h2 := hok.p2
  have h3 := hok.m1
  have h4 := hok.m2
  clear hok
  go_enter Tryz.func100, Tryz.ntmps100
  go_wp2
  go_ret
  exact ⟨ret_bool (by simp [manyB]), below_alloc2 _ _ _⟩
theorem lookup_ok_op {P : Program} {ops : Array Oper} {rest : List Oper} {op : Oper} {a : Act} {w : World} {Q : Exit → Act → World → Prop} (hgd : op.guard = none) (ty : TypeId) (x y : Operand) (cm : Bool) (ho : op.op = .lookup ty x y cm) (mb : Nat) (ks : Array Value) (hx : a.eval x = .map (some mb)) (hy : a.eval y = .agg ks) (v : Value)
    (hr : (Instr.lookup ty (.map (some mb)) (.agg ks) cm).run P w = .ok v w) (h : wpList P ops Q rest (a.put op.dst v) w) : wpList P ops Q (op :: rest) a w :=
  wpList_plain hgd fun _ hK => by
    unfold Oper.wp execOp
    simp only [ho, hx, hy, Sem.run_bind, Sem.run_pure, hr, Result.andThen_ok]
    exact hK _ _ h
set_option maxRecDepth 10000 in
set_option maxHeartbeats 1600000 in
theorem isBox_any (b : Bf) (p : Option Addr) (c mb : Nat) (x y : Int) (hx : I64 x) (hy : I64 y) (w : World) (hB : BkF w p c mb b) : Calls Tryz.prog 95 #[.agg (bkA b p c mb), .agg #[.int .i64 x, .int .i64 y]] w fun e w' => e = .returned (.bool (boxB b x y)) ∧ Below w.heap.size w w' := by
  obtain ⟨W0, hW0⟩ : ∃ W, W = (w.alloc (.cells (bkA b p c mb) 92)).alloc (.cells #[.int .i64 x, .int .i64 y] 127) := ⟨_, rfl⟩
  have HW0 := Lib.hid hW0
  have HE := Lib.hid (show Below w.heap.size w W0 by rw [hW0]; exact below_alloc2 _ _ _)
  obtain ⟨u, v, hl, _, _⟩ := (hB.s.below HE.out).look hx hy
  rw [hW0] at hl
  have HL := Lib.hid hl
  generalize boxB b x y = d at *
  clear hW0 hB hl
  go_enter Tryz.func95, Tryz.ntmps95
  go_wp2_with (first | (refine lookup_ok_op rfl 90 _ _ _ rfl mb _ rfl rfl _ HL.out ?_))
  go_ret
  exact ⟨rfl, (below_alloc2 _ _ _).alloc (by simp; omega) _⟩
/-- The call returned a list of its own. -/
def GaveOwn (l : List Int) (w : World) (e : Ending) (w' : World) : Prop := ∃ g cap, e = .returned (.slice (some ⟨g, 0, none⟩) l.length cap) ∧ IntsAt w' (some ⟨g, 0, none⟩) l ∧ w.heap.size ≤ g ∧ g < w'.heap.size ∧ Below w.heap.size w w'
theorem longer_run (w : World) (l : List Int) (p : Option Addr) (h : IntsAt w p l) (hn : l.length ≤ 100) (hp : p = none → l = []) (g : Nat) (n : Int) (hg : w.cell? ⟨g, 0, none⟩ = some (.int .i64 n)) (ty : TypeId) :
    ∃ v' w', (Builtin.append_ #[29, 29] ty #[.slice p l.length l.length, .slice (some ⟨g, 0, none⟩) 1 1]).run Tryz.prog w = .ok v' w' ∧ ∃ q cap, v' = .slice (some ⟨q, 0, none⟩) (l ++ [n]).length cap ∧ IntsAt w' (some ⟨q, 0, none⟩) (l ++ [n]) ∧ w.heap.size ≤ q ∧ q < w'.heap.size ∧ Below w.heap.size w w' ∧ (l ++ [n]).length ≤ cap := by
  obtain ⟨i0, hi, hi0, hi1, hi2⟩ := info_parts Tryz.infoInt
  have key : ∃ v' w', (Builtin.append_ #[29, 29] ty #[.slice p l.length l.length, .slice (some ⟨g, 0, none⟩) 1 1]).run Tryz.prog w = .ok v' w' ∧ w'.ownsRow w.heap.size 3 1 v' (l ++ [n]).length ((l ++ [n]).map (Value.int .i64)) ∧ Below w.heap.size w w' := by
    rcases p with _ | a
    · obtain rfl := hp rfl
      obtain ⟨v', w', h1, h2, h3, _⟩ := run_append_own (P := Tryz.prog) w w.heap.size 29 ty 3 i0 _ 1 8 Tryz.underlying29 hi hi0 hi1 hi2 rfl (by decide) (.slice none 0 0) 0 [] (World.ownsRow_nil _ _ _ _) ⟨g, 0, none⟩ 1 1 [.int .i64 n] rfl (fun j u hj => by
        obtain rfl : j = 0 := by have := (List.getElem?_eq_some_iff.1 hj).1; simp at this; exact this
        simp at hj
        subst hj
        rw [Addr.add_lit, Nat.zero_add]
        exact hg) (by simp [Value.oneCell']) (by unfold maxLen; omega) (by omega) (Nat.le_refl _)
      exact ⟨v', w', h1, by simpa using h2, (Below.refl _ _).grown h3 (Nat.le_refl _) (fun k hk => by simp [Value.ownBlock] at hk)⟩
    · obtain ⟨v', w', h1, h2, h3⟩ := run_append_arg_grows (P := Tryz.prog) w 29 ty 3 i0 _ 1 8 Tryz.underlying29 hi hi0 hi1 hi2 rfl (by decide) a l.length l.length (l.map (Value.int .i64)) (by simp) (fun j u hj => by
        have hl : j < l.length := by have := (List.getElem?_eq_some_iff.1 hj).1; simpa using this
        obtain ⟨b', o', e, hcc⟩ := h j hl
        cases e
        rw [Addr.add_lit, hcc]
        rw [List.getElem?_map, List.getElem?_eq_getElem hl] at hj
        rw [at0_lt hl]; simpa using hj) ⟨g, 0, none⟩ 1 1 [.int .i64 n] rfl (fun j u hj => by
        obtain rfl : j = 0 := by have := (List.getElem?_eq_some_iff.1 hj).1; simp at this; exact this
        simp at hj
        subst hj
        rw [Addr.add_lit, Nat.zero_add]
        exact hg) (by omega) (by unfold maxLen; omega) (by omega)
      exact ⟨v', w', h1, by simpa using h2, ⟨h3.os, h3.tape, h3.output, h3.size, fun k hk => h3.block k hk (by simp)⟩⟩
  obtain ⟨v', w', h1, h2, h3⟩ := key
  obtain ⟨q, cap, e, hi2, hle, _, hq⟩ := ints_of_owns2 h2
  rcases hq with rfl | ⟨gq, rfl, hgq⟩
  · exfalso
    obtain ⟨_, _, e2, _⟩ := hi2 0 (by simp)
    cases e2
  · refine ⟨v', w', h1, gq, cap, e, hi2, hgq, ?_, h3, hle⟩
    obtain ⟨_, _, e2, hc⟩ := hi2 0 (by simp)
    cases e2
    exact cell_block hc
set_option maxRecDepth 10000 in
set_option maxHeartbeats 1600000 in
theorem longer_any (p : Option Addr) (c : Nat) (l : List Int) (n : Int) (w : World) (h : IntsAt w p l) (hn : l.length ≤ 100) (hc : l.length ≤ c) (hp : p = none → l = []) :
    Calls Tryz.prog 96 #[.slice p l.length c, .int .i64 n] w fun e w' => ∃ g cap, e = .returned (.slice (some ⟨g, 0, none⟩) (l ++ [n]).length cap) ∧ IntsAt w' (some ⟨g, 0, none⟩) (l ++ [n]) ∧ w.heap.size ≤ g ∧ g < w'.heap.size ∧ (l ++ [n]).length ≤ cap ∧ Below w.heap.size w w' := by
  have hb0 := below_alloc w (.cells #[.int .i64 n] 3)
  obtain ⟨v', w', hr, q, cap, rfl, hi, hq, hq2, hb, hle⟩ := longer_run (w.alloc (.cells #[.int .i64 n] 3)) l p (h.below hb0) hn hp w.heap.size n ((Row.new w _ _).cell 0 rfl) 29
  have HR := Lib.hid hr
  have HI := Lib.hid hi
  have HB := Lib.hid (hb0.trans (hb.mono hb0.size))
  have hz := hb0.size
  have hlc : (l.length : Int) ≤ (c : Int) := by omega
  clear h hr hi hb hb0
  generalize hll : l ++ [n] = ln at *
  go_enter Tryz.func96, Tryz.ntmps96
  go_wp2_with (first | (at_builtin; refine wpList_append_run rfl _ _ _ _ rfl _ _ _ rfl rfl HR.out ?_))
  go_ret
  exact ⟨q, cap, rfl, HI.out, by omega, hq2, hle, HB.out⟩
end Go.Proofs.YticfcdbfplfmlaaGreat
/- The walks of layer 5: the iterator of a plan's boxes. -/
namespace Go.Proofs.YticfcdbfplfmlaaGreat
open Go.RowKit Go.Maps
attribute [local go_sem] Oper.semAt_some

theorem boxes_any (p : Option Addr) (c : Nat) (l : List Int) (w : World) :
    Calls Tryz.prog 98 #[.slice p l.length c] w fun e w' => e = .returned (.func (.func 111) #[] #[.pointer (some ⟨w.heap.size, 0, none⟩)]) ∧ w' = w.alloc (.cells #[.slice p l.length c] 29) := by
  go_enter Tryz.func98, Tryz.ntmps98
  go_wp2
  go_ret
  exact ⟨rfl, rfl⟩
set_option maxRecDepth 10000 in
set_option maxHeartbeats 1600000 in
theorem boxes_iter (p : Option Addr) (c : Nat) (l : List Int) (nb : Nat) (hl : l.length < 2 ^ 62) (W : World) (hW : Row W nb #[.slice p l.length c] 29) (hI : IntsAt W p l) :
    IterO Tryz.prog 111 #[.pointer (some ⟨nb, 0, none⟩)] (fun m => m = nb ∨ (0 < l.length ∧ ∃ o, p = some ⟨m, o, none⟩)) l.length (fun k x O A => x = #[.int .i64 k, .agg #[.int .i64 (bgn l k), .int .i64 (at0 l k)]]) W := by
  intro li M J Jx hM hJ hJx hY h0
  show Calls _ _ #[.func (.yield li) #[] #[], .pointer (some ⟨nb, 0, none⟩)] _ _
  have HW := Lib.hid hW
  have HI := Lib.hid hI
  have HM := Lib.hid hM
  have HJ := Lib.hid hJ
  have HY := Lib.hid hY
  have H0 := Lib.hid h0
  have c0 := hW.cell 0 (v := .slice p l.length c) rfl
  clear hW hI hM hJ hJx hY h0
  go_enter Tryz.func111, Tryz.ntmps111
  go_wp2_with fail
  clear c0
  go_loopw [3, 8] (fun f i wr => ∃ k : Nat, k ≤ l.length ∧ f = .int .i64 (bgn l k) ∧ i = .int .i64 k ∧ J k (fun _ => False) wr ∧ KeepsBut M W wr) (fun _ i _ => l.length - (intOf i).toNat)
  case atStart => exact ⟨0, by omega, rfl, rfl, H0.out, KeepsBut.refl _ _⟩
  case round =>
    obtain ⟨k, hk, rfl, rfl, hj, hkp⟩ := hrel
    by_cases hlt : k < l.length
    · obtain ⟨b, o, rfl, hc⟩ := HI.out k hlt
      have hnm : ¬ M b := fun h => (HM.out b h).2 (.inr ⟨by omega, o, rfl⟩)
      have cc : wr.cell? ⟨b, o + k, none⟩ = some (.int .i64 (at0 l k)) := by rw [World.cell?_of_block (hkp.block b (cell_block hc) hnm)]; exact hc
      obtain ⟨fn, tmps, assign, body, hy, hR⟩ := HY.out k #[.int .i64 k, .agg #[.int .i64 (bgn l k), .int .i64 (at0 l k)]] (fun _ => False) wr hlt rfl (fun _ h => h.elim) hj hkp
      have hy : (Instr.yield li #[.int .i64 k, .agg #[.int .i64 (bgn l k), .int .i64 (at0 l k)]]).run Tryz.prog _ = _ := hy
      have HR := Lib.hid hR
      have HKP := Lib.hid hkp
      have HBS := Lib.hid (bgn_succ l k)
      have i1 : (0 : Int) ≤ (k : Int) := by omega
      have i2 : (k : Int) < (l.length : Int) := by omega
      clear hR hkp hj hc hnm
      go_upto_region 4 with (fail)
      refine (wpIn_wide (n := 1)).1 ?_
      gi_wp2_with fail
      refine HR.out.mono ?_
      rintro e B ⟨hkB, (⟨rfl, hJ1⟩ | ⟨rfl, hJx1⟩)⟩
      · have HJ1 := Lib.hid hJ1
        have HK1 := Lib.hid (HKP.out.trans hkB)
        clear hkB hJ1 hy cc
        gi_wp2
        go_wp2
        go_roundw
        case rel => exact ⟨k + 1, by omega, by rw [HBS.out], by go_num, HJ1.out, HK1.out⟩
        case measure => simp [intOf]; omega
      · have HJ1 := Lib.hid hJx1
        have HK1 := Lib.hid (HKP.out.trans hkB)
        clear hkB hJx1 hy cc
        gi_wp2
        go_wp2
        refine bodyPost_ret (results_none rfl _ _ _) rfl ?_
        exact ⟨⟨_, rfl⟩, HK1.out, _, fun _ h => h.elim, .inr HJ1.out⟩
    · obtain rfl : k = l.length := by omega
      have HJ1 := Lib.hid hj
      have HK1 := Lib.hid hkp
      clear hj hkp
      go_wp2
      go_end0
      exact ⟨⟨_, rfl⟩, HK1.out, _, fun _ h => h.elim, .inl HJ1.out⟩
end Go.Proofs.YticfcdbfplfmlaaGreat
