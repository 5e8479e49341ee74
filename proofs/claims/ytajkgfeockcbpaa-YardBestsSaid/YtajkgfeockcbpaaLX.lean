/- Worlds that came later: all that was there is as it was; a region that draws its order, walked once. -/
import Derived.Test.YtajkgfeockcbpaaKMC
import Derived.Test.YtajkgfeockcbpaaRGX
import Derived.BigQuiet
import Derived.BigRegion
import Derived.Deep.Quiet
import Derived.OrdersHeld
import Derived.Deep.RegionHeld
namespace Go.Proofs.Ytajkgfeockcbpaa
open Go.RowKit Go.Maps

/-- All that was there in a world is as it was. -/
structure From (W w : World) : Prop where
  b : Below W.heap.size W w
section
variable {W w w' : World}
theorem From.refl (W : World) : From W W := ⟨Below.refl _ _⟩
theorem From.drew (h : From W w) : From W w.drew := ⟨h.b.drew⟩
theorem From.below (h : From W w) (hb : Below w.heap.size w w') : From W w' := ⟨h.b.trans (hb.mono h.b.size)⟩
theorem From.cell (h : From W w) {b o : Nat} {v : Value} (hc : W.cell? ⟨b, o, none⟩ = some v) : w.cell? ⟨b, o, none⟩ = some v := by
  rw [(bcell h.b).1 b o (by have := cell_block hc; exact this)]; exact hc
theorem From.row (h : From W w) {b : Nat} {cs : Array Value} {t : TypeId} (hr : Row W b cs t) : Row w b cs t := hr.below h.b hr.lt
theorem From.free (h : From W w) {b : Nat} {cs : Array Value} {t : TypeId} (hr : Row W b cs t) (o : Nat) : w.frozen? ⟨b, o, none⟩ = false := (h.row hr).free o
theorem From.ints (h : From W w) {p : Option Addr} {xs : List Int} (hi : IntsAt W p xs) : IntsAt w p xs := hi.below h.b
end
/-- All that was there in a world is as it was, but for one block. -/
structure FromB (b : Nat) (W w : World) : Prop where
  k : KeepsBut (fun m => m = b) W w
section
variable {b : Nat} {W w w' : World}
theorem FromB.refl (b : Nat) (W : World) : FromB b W W := ⟨KeepsBut.refl _ _⟩
theorem FromB.drew (h : FromB b W w) : FromB b W w.drew := ⟨h.k.drew⟩
theorem FromB.below (h : FromB b W w) (hb : Below w.heap.size w w') : FromB b W w' := ⟨h.k.after hb⟩
theorem FromB.set (h : FromB b W w) (i : Nat) (v : Value) : FromB b W (w.setCell ⟨b, i, none⟩ v) := ⟨h.k.setCell (.inl rfl) v⟩
theorem FromB.alloc (h : FromB b W w) (o : Obj) : FromB b W (w.alloc o) := ⟨h.k.alloc o⟩
theorem FromB.row (h : FromB b W w) {c : Nat} {cs : Array Value} {t : TypeId} (hr : Row W c cs t) (hne : c ≠ b) : Row w c cs t := hr.keeps h.k hne
theorem FromB.cell (h : FromB b W w) {c o : Nat} {v : Value} (hc : W.cell? ⟨c, o, none⟩ = some v) (hne : c ≠ b) : w.cell? ⟨c, o, none⟩ = some v := by
  have hl : c < W.heap.size := cell_block hc
  rw [World.cell?_of_block (h.k.block c hl hne)]; exact hc
theorem FromB.base (h : FromB b W w) {n : Nat} {w0 : World} (h0 : Below n w0 W) (hn : n ≤ b) (hz : n ≤ W.heap.size) : Below n w0 w :=
  h0.trans (h.k.below hz (fun k hk e => by omega))
end

/-- A world in which all that was there in W is as it was. -/
structure Later (W : World) where
  w : World
  b : Below W.heap.size W w
instance (W : World) : Nonempty (Later W) := ⟨⟨W, Below.refl _ _⟩⟩
section
variable {W : World}
theorem lt_of_isSome {w : World} {a : Addr} (h : (w.cell? a).isSome = true) : a.block < w.heap.size := by
  obtain ⟨u, hu⟩ := Option.isSome_iff_exists.1 h
  exact World.block_lt_of_cell? w a hu
@[go_sem] theorem Later.cell?_eq (x : Later W) (a : Addr) (h : (W.cell? a).isSome = true) : x.w.cell? a = W.cell? a := x.b.cell (lt_of_isSome h)
@[go_sem] theorem Later.frozen?_eq (x : Later W) (a : Addr) (h : (W.cell? a).isSome = true) : x.w.frozen? a = W.frozen? a := x.b.frozen (lt_of_isSome h)
theorem frozen?_alloc_some (w : World) (a : Addr) (o : Obj) (h : (w.cell? a).isSome = true) : (w.alloc o).frozen? a = w.frozen? a := (below_alloc w o).frozen (lt_of_isSome h)
attribute [go_sem] World.cell?_alloc_some frozen?_alloc_some
theorem Later.fr (x : Later W) : From W x.w := ⟨x.b⟩
theorem From.trans {w w' : World} (h : From W w) (k : From w w') : From W w' := h.below k.b
theorem later_of {w : World} (h : Below W.heap.size W w) : ∃ x : Later W, w = x.w := ⟨⟨w, h⟩, rfl⟩
theorem Later.on (x : Later W) {w : World} (h : Below x.w.heap.size x.w w) : ∃ y : Later W, w = y.w := later_of (x.b.trans (h.mono x.b.size))
theorem Later.base (x : Later W) {w : World} (h : Below w.heap.size w W) : Below w.heap.size w x.w := h.trans (x.b.mono h.size)
theorem Later.up (x : Later W) (y : Later x.w) : ∃ z : Later W, y.w = z.w := x.on y.b
end
theorem Calls.later_of {P : Program} {f : FuncId} {args : Array Value} {W : World} {x : Later W} {v : Value} (h : Calls P f args x.w fun e w' => e = .returned v ∧ Below x.w.heap.size x.w w') :
    Calls P f args x.w fun e w'' => e = .returned v ∧ ∃ y : Later W, w'' = y.w := h.mono fun _ _ ⟨he, hb⟩ => ⟨he, x.on hb⟩
theorem Calls.later_same {P : Program} {f : FuncId} {args : Array Value} {W : World} {x : Later W} {v : Value} (h : Calls P f args x.w fun e w' => e = .returned v ∧ x.w = w') :
    Calls P f args x.w fun e w'' => e = .returned v ∧ ∃ y : Later W, w'' = y.w := h.mono fun _ _ ⟨he, hb⟩ => ⟨he, x, hb.symm⟩
theorem wp_region_later {P : Program} {id : Nat} {Q : Exit → Act → World → Prop} {a : Act} {w : World} {l : List Oper} (hm : P.follows .mixedOrders = true) (hB : Region.lexB .any l.toArray = true)
    (h : wpQuiet P l.toArray (fun w' => ∃ x : Later w, w' = x.w) (fun a' => ∀ w', (∃ x : Later w, w' = x.w) → Q .normal a' w') l a) : (Code.region id l.toArray true).wp P Q a w :=
  wp_region_quiet (C := fun w' => ∃ x : Later w, w' = x.w) hm hB ⟨⟨w.drew, (Below.refl _ _).drew⟩, rfl⟩ (by simpa using h)
theorem alloc_setRow (w : World) (old cs : Array Value) (t : TypeId) : (w.alloc (.cells old t)).setRow w.heap.size cs = w.alloc (.cells cs t) := by
  have e : (w.heap.push (Obj.cells old t)).modify w.heap.size (fun x => match x with | Obj.cells c elem frozen => Obj.cells cs elem frozen | o => o) = w.heap.push (Obj.cells cs t) := by
    apply Array.ext
    · simp
    · intro i h1 h2
      rw [Array.getElem_modify]
      simp only [Array.size_push] at h2
      by_cases hi : i = w.heap.size
      · subst hi; simp
      · rw [if_neg (Ne.symm hi), Array.getElem_push_lt (by omega), Array.getElem_push_lt (by omega)]
  show ({ heap := _, tape := w.tape, drawn := w.drawn, os := w.os, output := w.output } : World) = { heap := _, tape := w.tape, drawn := w.drawn, os := w.os, output := w.output }
  congr 1
/-- A new variable gets its value. -/
theorem store_new {P : Program} {ops : Array Oper} {rest : List Oper} {op : Oper} {a : Act} {w : World} {Q : Exit → Act → World → Prop} (hgd : op.guard = none) (ty : TypeId) (x y : Operand) (ho : op.op = .store ty x y)
    (cs old : Array Value) (t : TypeId) (hx : a.eval x = .pointer (some ⟨w.heap.size, 0, none⟩)) (hy : a.eval y = .agg cs)
    (hi : (P.info? ty).map (·.size) = some cs.size) (hold : old.size = cs.size) (h1 : cs.all (·.oneCell') = true)
    (h : wpList P ops Q rest (a.put op.dst undef) (w.alloc (.cells cs t))) : wpList P ops Q (op :: rest) a (w.alloc (.cells old t)) :=
  store_row hgd ty x y ho w.heap.size cs old t hx hy (Row.new _ _ _) hi hold h1 (by rw [alloc_setRow]; exact h)
/-- The same in a round. -/
theorem store_newIn {F : Fence} {n : Nat} {P : Program} {ops : Array Oper} {rest : List Oper} {op : Oper} {a : Act} {w : World} {Q : Exit → Act → World → Prop} (hgd : op.guard = none) (ty : TypeId) (x y : Operand) (ho : op.op = .store ty x y)
    (cs old : Array Value) (t : TypeId) (hx : a.eval x = .pointer (some ⟨w.heap.size, 0, none⟩)) (hy : a.eval y = .agg cs)
    (hi : (P.info? ty).map (·.size) = some cs.size) (hold : old.size = cs.size) (h1 : cs.all (·.oneCell') = true)
    (h : wpListIn F n P ops Q rest (a.put op.dst undef) (w.alloc (.cells cs t))) : wpListIn F n P ops Q (op :: rest) a (w.alloc (.cells old t)) :=
  wpListIn_plain hgd fun K hK => by
    refine ⟨fun f hf => by simp [Oper.about, ho] at hf, ?_⟩
    rw [Oper.semAt_eq _ _ _ (by intro c hc; rw [ho] at hc; cases hc)]
    unfold execOp
    simp only [ho, hx, hy, Instr.storeAt, Instr.sureAddr, Sem.run_bind, Sem.run_pure, Result.andThen_ok, run_storeVar_row (w.alloc (.cells old t)) w.heap.size t ty old cs (Row.new _ _ _) hi hold h1]
    rw [alloc_setRow]
    exact hK _ _ h

theorem Row.new1 (w : World) (o : Obj) (cs : Array Value) (t : TypeId) : Row ((w.alloc o).alloc (.cells cs t)) (w.heap.size + 1) cs t := Row.new' (by simp) _ _
theorem Row.new2 (w : World) (o o' : Obj) (cs : Array Value) (t : TypeId) : Row (((w.alloc o).alloc o').alloc (.cells cs t)) (w.heap.size + 1 + 1) cs t := Row.new' (by simp) _ _
theorem below_alloc2 (w : World) (o o' : Obj) : Below w.heap.size w ((w.alloc o).alloc o') := (below_alloc _ _).alloc (by simp) _
theorem below_alloc3 (w : World) (o o' o'' : Obj) : Below w.heap.size w (((w.alloc o).alloc o').alloc o'') := (below_alloc2 _ _ _).alloc (by simp; omega) _
end Go.Proofs.Ytajkgfeockcbpaa
/- A region whose last operations wait for all others: the others are walked once, in the order of the text; then the last ones. -/
namespace Go.Proofs.Ytajkgfeockcbpaa
open Go.RowKit Go.Maps

/-- The operation, but that it does nothing. -/
def idleOp (s : Oper) : Oper := { s with dst := none, op := .move (.const undef), guard := none }
def idled (l t : List Oper) : Array Oper := (l ++ t.map idleOp).toArray
/-- No guard of these operations lies behind them. -/
def guardB (l : List Oper) : Bool := l.all fun o => match o.guard with
  | none => true
  | some (j, _) => decide (j < l.length)
/-- Each operation waits for earlier ones only. -/
def lowB (ops : Array Oper) : Bool := (List.range ops.size).all fun i => match ops[i]? with
  | none => true
  | some o => o.after.all fun e => !Region.binds .any e || decide (e.on < i)
/-- From one on, each operation waits for all earlier ones. -/
def lateB (m : Nat) (ops : Array Oper) : Bool := (List.range ops.size).all fun k => decide (k < m) || (List.range k).all fun i => match ops[k]? with
  | none => true
  | some o => o.after.any fun e => Region.binds .any e && e.on == i

section
variable {P : Program} {C : World → Prop} {l t : List Oper} {listed : Array Bool}

theorem idled_size : (idled l t).size = (l ++ t).toArray.size := by simp [idled]
theorem idled_lt {i : Nat} (h : i < l.length) : (idled l t)[i]? = (l ++ t).toArray[i]? := by
  simp [idled, List.getElem?_append_left h]
theorem idled_ge {i : Nat} {o : Oper} (h : l.length ≤ i) (ho : (l ++ t).toArray[i]? = some o) : (idled l t)[i]? = some (idleOp o) := by
  simp only [List.getElem?_toArray, List.getElem?_append_right h] at ho
  simp [idled, List.getElem?_append_right h, ho]
theorem idled_after (i : Nat) : ((idled l t)[i]?).map (·.after) = ((l ++ t).toArray[i]?).map (·.after) := by
  by_cases h : i < l.length
  · rw [idled_lt h]
  · cases ho : (l ++ t).toArray[i]? with
    | none =>
      have h1 : (l ++ t).toArray.size ≤ i := Array.getElem?_eq_none_iff.1 ho
      rw [← idled_size] at h1
      rw [Array.getElem?_eq_none_iff.2 h1]
    | some o => rw [idled_ge (by omega) ho]; rfl
theorem ready_idled : Region.ready .any (idled l t) listed = Region.ready .any (l ++ t).toArray listed := by
  unfold Region.ready
  rw [idled_size]
  refine List.filter_congr fun i _ => ?_
  congr 1
  have h := idled_after (l := l) (t := t) i
  have key : ∀ x : Option Oper, (x.map fun o => o.after.all fun e => !Region.binds .any e || listed.getD e.on false) = (x.map (·.after)).map fun a => a.all fun e => !Region.binds .any e || listed.getD e.on false := fun x => by cases x <;> rfl
  rw [key, key, h]
theorem wanted_idled (hg : guardB l = true) {o : Oper} (ho : o ∈ l) (tmps : Array Value) : Region.wanted o (yielded (idled l t) tmps) = Region.wanted o (yielded (l ++ t).toArray tmps) := by
  have h := List.all_eq_true.1 hg o ho
  unfold Region.wanted
  cases hgd : o.guard with
  | none => rfl
  | some g =>
    obtain ⟨j, b⟩ := g
    rw [hgd] at h
    simp only [decide_eq_true_eq] at h
    simp only
    unfold yielded
    rw [idled_lt h]
theorem getD_size {i : Nat} (h : i < listed.size) : listed.getD i true = listed.getD i false := by simp [Array.getD, h]
theorem getD_lt {i : Nat} (h : listed.getD i true = false) : i < listed.size := by
  by_cases e : i < listed.size
  · exact e
  · simp [Array.getD, e] at h
theorem ready_some {ops : Array Oper} (hl : lowB ops = true) (hs : listed.size = ops.size) : ∀ k, listed.getD k true = false → ∃ i, i ∈ Region.ready .any ops listed := by
  intro k
  induction k using Nat.strongRecOn with
  | _ k ih =>
    intro hk
    have hlt := getD_lt hk
    have ho : ops[k]? = some ops[k] := Array.getElem?_eq_getElem (by omega)
    by_cases hall : ∀ e ∈ (ops[k]).after, Region.binds .any e = true → listed.getD e.on false = true
    · exact ⟨k, mem_ready.2 ⟨hk, _, ho, hall⟩⟩
    · obtain ⟨e, he⟩ := Classical.not_forall.1 hall
      obtain ⟨h1, he⟩ := Classical.not_imp.1 he
      obtain ⟨h2, h3⟩ := Classical.not_imp.1 he
      have h4 := List.all_eq_true.1 hl k (List.mem_range.2 (by omega))
      rw [ho] at h4
      simp only at h4
      have h5 := Array.all_eq_true_iff_forall_mem.1 h4 e h1
      rw [h2] at h5
      simp only [Bool.not_true, Bool.false_or, decide_eq_true_eq] at h5
      refine ih e.on h5 ?_
      rw [getD_size (by omega)]
      simpa using h3
theorem ready_late {ops : Array Oper} {m k i : Nat} (h : lateB m ops = true) (hk : k ∈ Region.ready .any ops listed) (hm : m ≤ k) (hi : i < k) : listed.getD i false = true := by
  obtain ⟨_, o, ho, hall⟩ := mem_ready.1 hk
  have hlt : k < ops.size := (Array.getElem?_eq_some_iff.1 ho).1
  have h1 := List.all_eq_true.1 h k (List.mem_range.2 hlt)
  rw [Bool.or_eq_true] at h1
  rcases h1 with h1 | h1
  · simp only [decide_eq_true_eq] at h1
    omega
  · have h2 := List.all_eq_true.1 h1 i (List.mem_range.2 hi)
    rw [ho] at h2
    obtain ⟨e, he, hb⟩ := Array.any_eq_true'.1 h2
    simp only [Bool.and_eq_true, beq_iff_eq] at hb
    rw [← hb.2]
    exact hall e he hb.1
/-- The first ones are listed, the others not. -/
structure Upto (k : Nat) (listed : Array Bool) : Prop where
  y : ∀ i, i < k → listed.getD i false = true
  n : ∀ i, k ≤ i → i < listed.size → listed.getD i true = false
theorem Upto.set {k : Nat} (h : Upto k listed) (hk : k < listed.size) : Upto (k + 1) (listed.setIfInBounds k true) := by
  constructor
  · intro i hi
    by_cases e : k = i
    · subst e
      simp [hk]
    · rw [getD_set_ne false e]; exact h.y i (by omega)
  · intro i hi hs
    rw [getD_set_ne true (by omega)]
    exact h.n i (by omega) (by simpa using hs)
/-- At the last operations: they alone may come up, each behind the one before. -/
theorem ready_last {ops : Array Oper} {m k i : Nat} (hl : lateB m ops = true) (hs : listed.size = ops.size) (hm : m ≤ k) (h : Upto k listed) (hi : i ∈ Region.ready .any ops listed) : i = k := by
  have h1 := (mem_ready.1 hi).1
  have hlt := getD_lt h1
  by_cases e : i < k
  · have h2 := h.y i e
    rw [getD_size hlt] at h1
    rw [h1] at h2
    cases h2
  · by_cases e2 : i = k
    · exact e2
    · have h2 := ready_late hl hi (by omega) (i := k) (by omega)
      have h3 := h.n k (Nat.le_refl _) (by omega)
      rw [getD_size (by omega)] at h3
      rw [h3] at h2
      cases h2
theorem last_walk {R : Act → Prop} {Q' : Exit → Act → World → Prop} (h1 : lowB (l ++ t).toArray = true) (h2 : lateB l.length (l ++ t).toArray = true) :
    ∀ (fuel : Nat) (r : List Oper) (k : Nat) (listed : Array Bool) (a a' : Act) (w : World), (∀ j, r[j]? = (l ++ t).toArray[k + j]?) → l.length ≤ k → k ≤ (l ++ t).toArray.size → listed.size = (l ++ t).toArray.size → Upto k listed →
      wpAnyQ P .any (idled l t) C R fuel listed a → (R a ∧ (wpList P (l ++ t).toArray Q' r a' w → wpAny P .any (l ++ t).toArray Q' fuel listed a' w))
  | 0, r, k, listed, a, a', w, hr, hk, hks, hs, hu, h => by
    refine ⟨h.2, fun hw => ⟨by rw [← ready_idled]; exact h.1, ?_⟩⟩
    cases r with
    | nil => exact hw
    | cons o r =>
      have ho : (l ++ t).toArray[k]? = some o := by simpa using (hr 0).symm
      have hlt := (Array.getElem?_eq_some_iff.1 ho).1
      obtain ⟨i, hi⟩ := ready_some h1 hs k (hu.n k (Nat.le_refl _) (by omega))
      rw [← ready_idled, h.1] at hi
      cases hi
  | fuel + 1, r, k, listed, a, a', w, hr, hk, hks, hs, hu, h => by
    cases r with
    | nil =>
      have hsz : (l ++ t).toArray.size ≤ k := by
        have := hr 0
        simp only [List.getElem?_nil, Nat.add_zero] at this
        exact Array.getElem?_eq_none_iff.1 this.symm
      have hre : Region.ready .any (l ++ t).toArray listed = [] := by
        rw [List.eq_nil_iff_forall_not_mem]
        intro i hi
        have := ready_last h2 hs hk hu hi
        have hlt := getD_lt (mem_ready.1 hi).1
        omega
      exact ⟨h.1 (by rw [ready_idled]; exact hre), fun hw => wpAny_done hre hw _⟩
    | cons o r =>
      have ho : (l ++ t).toArray[k]? = some o := by simpa using (hr 0).symm
      have hlt := (Array.getElem?_eq_some_iff.1 ho).1
      obtain ⟨i, hi⟩ := ready_some h1 hs k (hu.n k (Nat.le_refl _) (by omega))
      have hik := ready_last h2 hs hk hu hi
      subst hik
      have hq := h.2 i (by rw [ready_idled]; exact hi)
      unfold qOp at hq
      rw [idled_ge hk ho] at hq
      simp only at hq
      rw [if_pos (by rfl)] at hq
      obtain ⟨v, _, hq⟩ := hq
      have hr' : ∀ j, r[j]? = (l ++ t).toArray[i + 1 + j]? := fun j => by
        have := hr (j + 1)
        simpa [Nat.add_assoc, Nat.add_comm 1 j] using this
      have ih := fun a'' w'' => last_walk (Q' := Q') h1 h2 fuel r (i + 1) (listed.setIfInBounds i true) a a'' w'' hr' (by omega) (by omega) (by simpa using hs) (hu.set (by omega)) hq
      refine ⟨(ih a' w).1, fun hw => ⟨fun h0 => absurd hi (by rw [h0]; exact List.not_mem_nil), fun j hj => ?_⟩⟩
      have hjk := ready_last h2 hs hk hu hj
      subst hjk
      unfold wpOp
      rw [ho]
      simp only
      unfold wpList at hw
      split at hw
      · rename_i hwt
        rw [if_pos hwt]
        rcases hw with hw | hw
        · exact .inl (Oper.wp_mono (fun a'' w'' h'' => (ih a'' w'').2 h'') hw)
        · exact .inr hw
      · rename_i hwt
        rw [if_neg hwt]
        exact (ih _ _).2 hw
theorem first_walk {R : Act → Prop} {Q' : Exit → Act → World → Prop} (hg : guardB l = true) (h1 : lowB (l ++ t).toArray = true) (h2 : lateB l.length (l ++ t).toArray = true)
    (hR : ∀ a w, C w → R a → wpList P (l ++ t).toArray Q' t a w) :
    ∀ (fuel : Nat) (listed : Array Bool) (a : Act) (w : World), listed.size = (l ++ t).toArray.size → (∀ i, l.length ≤ i → i < listed.size → listed.getD i true = false) → C w →
      wpAnyQ P .any (idled l t) C R fuel listed a → wpAny P .any (l ++ t).toArray Q' fuel listed a w := by
  intro fuel
  have hlast : ∀ fuel (listed : Array Bool) (a : Act) (w : World), listed.size = (l ++ t).toArray.size → (∀ i, l.length ≤ i → i < listed.size → listed.getD i true = false) → (∀ i, i < l.length → listed.getD i false = true) → C w →
      wpAnyQ P .any (idled l t) C R fuel listed a → wpAny P .any (l ++ t).toArray Q' fuel listed a w := fun fuel listed a w hs hun hall hC h => by
    have := last_walk (Q' := Q') h1 h2 fuel t l.length listed a a w (fun j => by rw [List.getElem?_toArray, List.getElem?_append_right (by omega)]; simp) (Nat.le_refl _) (by simp) hs ⟨hall, hun⟩ h
    exact this.2 (hR a w hC this.1)
  induction fuel with
  | zero =>
    intro listed a w hs hun hC h
    by_cases hall : ∀ i, i < l.length → listed.getD i false = true
    · exact hlast 0 listed a w hs hun hall hC h
    · obtain ⟨i, hi⟩ := Classical.not_forall.1 hall
      obtain ⟨hi1, hi2⟩ := Classical.not_imp.1 hi
      have hsz : listed.size = l.length + t.length := by rw [hs]; simp
      obtain ⟨j, hj⟩ := ready_some h1 hs i (by rw [getD_size (by omega)]; simpa using hi2)
      rw [← ready_idled, h.1] at hj
      cases hj
  | succ fuel ih =>
    intro listed a w hs hun hC h
    by_cases hall : ∀ i, i < l.length → listed.getD i false = true
    · exact hlast _ listed a w hs hun hall hC h
    · obtain ⟨i, hi⟩ := Classical.not_forall.1 hall
      obtain ⟨hi1, hi2⟩ := Classical.not_imp.1 hi
      have hsz : listed.size = l.length + t.length := by rw [hs]; simp
      obtain ⟨j, hj⟩ := ready_some h1 hs i (by rw [getD_size (by omega)]; simpa using hi2)
      refine ⟨fun h0 => absurd hj (by rw [h0]; exact List.not_mem_nil), fun k hk => ?_⟩
      have hkl : k < l.length := by
        by_cases e : k < l.length
        · exact e
        · exact absurd (fun i hi => ready_late h2 hk (by omega) (by omega)) hall
      obtain ⟨_, o, ho, _⟩ := mem_ready.1 hk
      have hq := h.2 k (by rw [ready_idled]; exact hk)
      have hol : o ∈ l := by
        have : l[k]? = some o := by
          have := ho
          simp only [List.getElem?_toArray, List.getElem?_append_left hkl] at this
          exact this
        exact List.mem_of_getElem? this
      have hq2 : qOp P (l ++ t).toArray C k (wpAnyQ P .any (idled l t) C R fuel (listed.setIfInBounds k true)) a := by
        unfold qOp at hq ⊢
        rw [idled_lt hkl] at hq
        rw [ho] at hq ⊢
        simp only at hq ⊢
        rw [wanted_idled hg hol] at hq
        exact hq
      exact wpOp_of_qOp hC (fun a' w' hw' hh => ih (listed.setIfInBounds k true) a' w' (by simpa using hs) (fun i' hi1' hi2' => by
        rw [getD_set_ne true (by omega)]
        exact hun i' hi1' (by simpa using hi2')) hw' hh) hq2
theorem wpQuiet_app {ops ops' : Array Oper} {R : Act → Prop} (hw : ∀ o ∈ l, ∀ tmps, Region.wanted o (yielded ops' tmps) = Region.wanted o (yielded ops tmps)) : ∀ (r : List Oper) (_ : ∀ o ∈ r, o ∈ l) (a : Act), wpQuiet P ops C R r a → wpQuiet P ops' C R (r ++ t.map idleOp) a
  | [], _, a, h => by
    have key : ∀ (t : List Oper) (a : Act), R a → wpQuiet P ops' C R (t.map idleOp) a := by
      intro t
      induction t with
      | nil => exact fun a h => h
      | cons s t ih =>
        intro a h
        show if Region.wanted (idleOp s) (yielded ops' a.tmps) = true then (idleOp s).quiet P a C (wpQuiet P ops' C R (t.map idleOp)) else _
        rw [if_pos (by rfl)]
        exact ⟨undef, fun w _ => by unfold Oper.quietAt; rw [show (execOp a.eval (idleOp s)) = _ from rfl]; exact ⟨rfl, rfl⟩, ih a h⟩
    exact key t a h
  | o :: r, hr, a, h => by
    have h' : if Region.wanted o (yielded ops a.tmps) = true then o.quiet P a C (wpQuiet P ops C R r) else wpQuiet P ops C R r (a.put o.dst undef) := h
    show if Region.wanted o (yielded ops' a.tmps) = true then o.quiet P a C (wpQuiet P ops' C R (r ++ t.map idleOp)) else wpQuiet P ops' C R (r ++ t.map idleOp) (a.put o.dst undef)
    rw [hw o (hr o (by simp))]
    split at h'
    · rename_i e
      rw [if_pos e]
      exact Oper.quiet_mono (fun a' h'' => wpQuiet_app hw r (fun o' ho' => hr o' (by simp [ho'])) a' h'') h'
    · rename_i e
      rw [if_neg e]
      exact wpQuiet_app hw r (fun o' ho' => hr o' (by simp [ho'])) _ h'
/-- **A region whose last operations wait for all others**: the first ones are walked once, each of them quiet; behind them, in each world of the class, the last ones in their order. -/
theorem wp_region_last {id : Nat} {Q : Exit → Act → World → Prop} {a : Act} {w : World} (l t : List Oper) (hm : P.follows .mixedOrders = true) (hB : Region.lexB .any (idled l t) = true) (hg : guardB l = true) (h1 : lowB (l ++ t).toArray = true) (h2 : lateB l.length (l ++ t).toArray = true)
    (h : wpQuiet P (l ++ t).toArray (fun w' => ∃ x : Later w, w' = x.w) (fun a' => ∀ w', (∃ x : Later w, w' = x.w) → wpList P (l ++ t).toArray Q t a' w') l a) : (Code.region id (l ++ t).toArray true).wp P Q a w := by
  simp only [Region.lexB, Bool.and_eq_true] at hB
  refine wp_region_any hm ?_
  refine first_walk (C := fun w' => ∃ x : Later w, w' = x.w) (R := fun a' => ∀ w', (∃ x : Later w, w' = x.w) → wpList P (l ++ t).toArray Q t a' w') hg h1 h2 (fun a' w' hC hR => hR w' hC) _ _ _ _ (by simp) (fun i _ hi => by simp at hi; simp [hi]) ⟨⟨w.drew, (Below.refl _ _).drew⟩, rfl⟩ ?_
  have hq := wpQuiet_app (ops' := idled l t) (l := l) (t := t) (fun o ho tmps => wanted_idled hg ho tmps) l (fun o ho => ho) a h
  have := wpAnyQ_lex (C := fun w' => ∃ x : Later w, w' = x.w) (md := .any) hB.1 (l ++ t.map idleOp) 0 (Array.replicate (idled l t).size false) a (by simp [idled]) (by simpa [idled] using hB.2) hq
  simpa [idled] using this
/-- The same, the last operations counted. -/
theorem wp_region_tail {id : Nat} {Q : Exit → Act → World → Prop} {a : Act} {w : World} {L : List Oper} (m : Nat) (hm : P.follows .mixedOrders = true) (hB : Region.lexB .any (idled (L.take m) (L.drop m)) = true) (hg : guardB (L.take m) = true) (h1 : lowB L.toArray = true) (h2 : lateB m L.toArray = true) (hl : (L.take m).length = m)
    (h : wpQuiet P L.toArray (fun w' => ∃ x : Later w, w' = x.w) (fun a' => ∀ w', (∃ x : Later w, w' = x.w) → wpList P L.toArray Q (L.drop m) a' w') (L.take m) a) : (Code.region id L.toArray true).wp P Q a w := by
  have e := List.take_append_drop m L
  have key := wp_region_last (P := P) (id := id) (Q := Q) (a := a) (w := w) (L.take m) (L.drop m) hm hB hg (by rw [e]; exact h1) (by rw [e, hl]; exact h2) (by rw [e]; exact h)
  rw [e] at key
  exact key
end
end Go.Proofs.Ytajkgfeockcbpaa
/- A region some of whose operations have come up already, under a predicate that holds throughout: the others are walked once, then the last ones, which wait for all. -/
namespace Go.Proofs.Ytajkgfeockcbpaa
open Go.RowKit Go.Maps

/-- From one on, each operation waits for all earlier ones, but for those that have come up at the beginning. -/
def lateB0 (m : Nat) (ops : Array Oper) (listed0 : Array Bool) : Bool := (List.range ops.size).all fun k => decide (k < m) || (List.range k).all fun i => listed0.getD i false || match ops[k]? with
  | none => true
  | some o => o.after.any fun e => Region.binds .any e && e.on == i
/-- These may come up one after the other, each free of all others; then none is left. -/
def schedB (ops : Array Oper) : List Nat → Array Bool → Bool
  | [], listed => (Region.ready .any ops listed).isEmpty
  | i :: σ, listed => (Region.ready .any ops listed).contains i && Region.free .any ops listed i && schedB ops σ (listed.setIfInBounds i true)
/-- The walk of the last operations; what holds throughout holds behind each. -/
def wpListH (P : Program) (ops : Array Oper) (Q : Exit → Act → World → Prop) (S : World → Prop) : List Oper → Act → World → Prop
  | [], a, w => Q .normal a w
  | o :: rest, a, w => if Region.wanted o (yielded ops a.tmps) then o.wp P a w (fun a' w' => S w' ∧ wpListH P ops Q S rest a' w') Q else S w ∧ wpListH P ops Q S rest (a.put o.dst undef) w

section
variable {P : Program} {C S : World → Prop} {l t : List Oper} {listed listed0 : Array Bool}

theorem ready_late0 {ops : Array Oper} {m k i : Nat} (h : lateB0 m ops listed0 = true) (h0 : ∀ i, listed0.getD i false = true → listed.getD i false = true) (hk : k ∈ Region.ready .any ops listed) (hm : m ≤ k) (hi : i < k) : listed.getD i false = true := by
  obtain ⟨_, o, ho, hall⟩ := mem_ready.1 hk
  have hlt : k < ops.size := (Array.getElem?_eq_some_iff.1 ho).1
  have h1 := List.all_eq_true.1 h k (List.mem_range.2 hlt)
  rw [Bool.or_eq_true] at h1
  rcases h1 with h1 | h1
  · simp only [decide_eq_true_eq] at h1
    omega
  · have h2 := List.all_eq_true.1 h1 i (List.mem_range.2 hi)
    rw [Bool.or_eq_true] at h2
    rcases h2 with h2 | h2
    · exact h0 i h2
    · rw [ho] at h2
      obtain ⟨e, he, hb⟩ := Array.any_eq_true'.1 h2
      simp only [Bool.and_eq_true, beq_iff_eq] at hb
      rw [← hb.2]
      exact hall e he hb.1
theorem ready_last0 {ops : Array Oper} {m k i : Nat} (hl : lateB0 m ops listed0 = true) (h0 : ∀ i, listed0.getD i false = true → listed.getD i false = true) (hs : listed.size = ops.size) (hm : m ≤ k) (h : Upto k listed) (hi : i ∈ Region.ready .any ops listed) : i = k := by
  have h1 := (mem_ready.1 hi).1
  have hlt := getD_lt h1
  by_cases e : i < k
  · have h2 := h.y i e
    rw [getD_size hlt] at h1
    rw [h1] at h2
    cases h2
  · by_cases e2 : i = k
    · exact e2
    · have h2 := ready_late0 hl h0 hi (by omega) (i := k) (by omega)
      have h3 := h.n k (Nat.le_refl _) (by omega)
      rw [getD_size (by omega)] at h3
      rw [h3] at h2
      cases h2
theorem last_walkH {R : Act → Prop} {Q' : Exit → Act → World → Prop} (h1 : lowB (l ++ t).toArray = true) (h2 : lateB0 l.length (l ++ t).toArray listed0 = true) :
    ∀ (fuel : Nat) (r : List Oper) (k : Nat) (listed : Array Bool) (a a' : Act) (w : World), (∀ i, listed0.getD i false = true → listed.getD i false = true) → (∀ j, r[j]? = (l ++ t).toArray[k + j]?) → l.length ≤ k → k ≤ (l ++ t).toArray.size → listed.size = (l ++ t).toArray.size → Upto k listed →
      wpAnyQ P .any (idled l t) C R fuel listed a → (R a ∧ (wpListH P (l ++ t).toArray Q' S r a' w → wpAnyH P .any (l ++ t).toArray Q' S fuel listed a' w))
  | 0, r, k, listed, a, a', w, h0, hr, hk, hks, hs, hu, h => by
    refine ⟨h.2, fun hw => ⟨by rw [← ready_idled]; exact h.1, ?_⟩⟩
    cases r with
    | nil => exact hw
    | cons o r =>
      have ho : (l ++ t).toArray[k]? = some o := by simpa using (hr 0).symm
      have hlt := (Array.getElem?_eq_some_iff.1 ho).1
      obtain ⟨i, hi⟩ := ready_some h1 hs k (hu.n k (Nat.le_refl _) (by omega))
      rw [← ready_idled, h.1] at hi
      cases hi
  | fuel + 1, r, k, listed, a, a', w, h0, hr, hk, hks, hs, hu, h => by
    cases r with
    | nil =>
      have hsz : (l ++ t).toArray.size ≤ k := by
        have := hr 0
        simp only [List.getElem?_nil, Nat.add_zero] at this
        exact Array.getElem?_eq_none_iff.1 this.symm
      have hre : Region.ready .any (l ++ t).toArray listed = [] := by
        rw [List.eq_nil_iff_forall_not_mem]
        intro i hi
        have := ready_last0 h2 h0 hs hk hu hi
        have hlt := getD_lt (mem_ready.1 hi).1
        omega
      exact ⟨h.1 (by rw [ready_idled]; exact hre), fun hw => wpAnyH_done hre hw _⟩
    | cons o r =>
      have ho : (l ++ t).toArray[k]? = some o := by simpa using (hr 0).symm
      have hlt := (Array.getElem?_eq_some_iff.1 ho).1
      obtain ⟨i, hi⟩ := ready_some h1 hs k (hu.n k (Nat.le_refl _) (by omega))
      have hik := ready_last0 h2 h0 hs hk hu hi
      subst hik
      have hq := h.2 i (by rw [ready_idled]; exact hi)
      unfold qOp at hq
      rw [idled_ge hk ho] at hq
      simp only at hq
      rw [if_pos (by rfl)] at hq
      obtain ⟨v, _, hq⟩ := hq
      have hr' : ∀ j, r[j]? = (l ++ t).toArray[i + 1 + j]? := fun j => by
        have := hr (j + 1)
        simpa [Nat.add_assoc, Nat.add_comm 1 j] using this
      have ih := fun a'' w'' => last_walkH (Q' := Q') h1 h2 fuel r (i + 1) (listed.setIfInBounds i true) a a'' w'' (fun i' hi' => getD_set_true (h0 i' hi')) hr' (by omega) (by omega) (by simpa using hs) (hu.set (by omega)) hq
      refine ⟨(ih a' w).1, fun hw => ⟨fun h0 => absurd hi (by rw [h0]; exact List.not_mem_nil), fun j hj => ?_⟩⟩
      have hjk := ready_last0 h2 h0 hs hk hu hj
      subst hjk
      unfold wpOp
      rw [ho]
      simp only
      unfold wpListH at hw
      split at hw
      · rename_i hwt
        rw [if_pos hwt]
        exact .inl (Oper.wp_mono (fun a'' w'' h'' => ⟨h''.1, (ih a'' w'').2 h''.2⟩) hw)
      · rename_i hwt
        rw [if_neg hwt]
        exact ⟨hw.1, (ih _ _).2 hw.2⟩
theorem first_walkH {R : Act → Prop} {Q' : Exit → Act → World → Prop} (hg : guardB l = true) (h1 : lowB (l ++ t).toArray = true) (h2 : lateB0 l.length (l ++ t).toArray listed0 = true) (hCS : ∀ w, C w → S w)
    (hR : ∀ a w, C w → R a → wpListH P (l ++ t).toArray Q' S t a w) :
    ∀ (fuel : Nat) (listed : Array Bool) (a : Act) (w : World), (∀ i, listed0.getD i false = true → listed.getD i false = true) → listed.size = (l ++ t).toArray.size → (∀ i, l.length ≤ i → i < listed.size → listed.getD i true = false) → C w →
      wpAnyQ P .any (idled l t) C R fuel listed a → wpAnyH P .any (l ++ t).toArray Q' S fuel listed a w := by
  intro fuel
  have hlast : ∀ fuel (listed : Array Bool) (a : Act) (w : World), (∀ i, listed0.getD i false = true → listed.getD i false = true) → listed.size = (l ++ t).toArray.size → (∀ i, l.length ≤ i → i < listed.size → listed.getD i true = false) → (∀ i, i < l.length → listed.getD i false = true) → C w →
      wpAnyQ P .any (idled l t) C R fuel listed a → wpAnyH P .any (l ++ t).toArray Q' S fuel listed a w := fun fuel listed a w h0 hs hun hall hC h => by
    have := last_walkH (Q' := Q') (S := S) h1 h2 fuel t l.length listed a a w h0 (fun j => by rw [List.getElem?_toArray, List.getElem?_append_right (by omega)]; simp) (Nat.le_refl _) (by simp) hs ⟨hall, hun⟩ h
    exact this.2 (hR a w hC this.1)
  induction fuel with
  | zero =>
    intro listed a w h0 hs hun hC h
    by_cases hall : ∀ i, i < l.length → listed.getD i false = true
    · exact hlast 0 listed a w h0 hs hun hall hC h
    · obtain ⟨i, hi⟩ := Classical.not_forall.1 hall
      obtain ⟨hi1, hi2⟩ := Classical.not_imp.1 hi
      have hsz : listed.size = l.length + t.length := by rw [hs]; simp
      obtain ⟨j, hj⟩ := ready_some h1 hs i (by rw [getD_size (by omega)]; simpa using hi2)
      rw [← ready_idled, h.1] at hj
      cases hj
  | succ fuel ih =>
    intro listed a w h0 hs hun hC h
    by_cases hall : ∀ i, i < l.length → listed.getD i false = true
    · exact hlast _ listed a w h0 hs hun hall hC h
    · obtain ⟨i, hi⟩ := Classical.not_forall.1 hall
      obtain ⟨hi1, hi2⟩ := Classical.not_imp.1 hi
      have hsz : listed.size = l.length + t.length := by rw [hs]; simp
      obtain ⟨j, hj⟩ := ready_some h1 hs i (by rw [getD_size (by omega)]; simpa using hi2)
      refine ⟨fun h0 => absurd hj (by rw [h0]; exact List.not_mem_nil), fun k hk => ?_⟩
      have hkl : k < l.length := by
        by_cases e : k < l.length
        · exact e
        · exact absurd (fun i hi => ready_late0 h2 h0 hk (by omega) (by omega)) hall
      obtain ⟨_, o, ho, _⟩ := mem_ready.1 hk
      have hq := h.2 k (by rw [ready_idled]; exact hk)
      have hol : o ∈ l := by
        have : l[k]? = some o := by
          have := ho
          simp only [List.getElem?_toArray, List.getElem?_append_left hkl] at this
          exact this
        exact List.mem_of_getElem? this
      have hq2 : qOp P (l ++ t).toArray C k (wpAnyQ P .any (idled l t) C R fuel (listed.setIfInBounds k true)) a := by
        unfold qOp at hq ⊢
        rw [idled_lt hkl] at hq
        rw [ho] at hq ⊢
        simp only at hq ⊢
        rw [wanted_idled hg hol] at hq
        exact hq
      exact wpOp_of_qOp hC (fun a' w' hw' hh => ⟨hCS w' hw', ih (listed.setIfInBounds k true) a' w' (fun i' hi' => getD_set_true (h0 i' hi')) (by simpa using hs) (fun i' hi1' hi2' => by
        rw [getD_set_ne true (by omega)]
        exact hun i' hi1' (by simpa using hi2')) hw' hh⟩) hq2
theorem wpAnyQ_sched {ops : Array Oper} {Q : Act → Prop} (hs : Region.noSelect ops = true) : ∀ (σ : List Nat) (r : List Oper) (listed : Array Bool) (a : Act), r.map some = σ.map (ops[·]?) → schedB ops σ listed = true → wpQuiet P ops C Q r a → wpAnyQ P .any ops C Q σ.length listed a
  | [], r, listed, a, hr, hB, h => by
    have : r = [] := by simpa using hr
    subst this
    exact ⟨by simpa [schedB] using hB, h⟩
  | i :: σ, r, listed, a, hr, hB, h => by
    cases r with
    | nil => simp at hr
    | cons o r =>
      simp only [List.map_cons, List.cons.injEq] at hr
      have h0 : ops[i]? = some o := hr.1.symm
      simp only [schedB, Bool.and_eq_true] at hB
      obtain ⟨⟨hrd, hf⟩, hB'⟩ := hB
      have hst : qOp P ops C i (wpQuiet P ops C Q r) a := by unfold qOp; simp only [h0]; exact h
      obtain ⟨v, hy, hK⟩ := yieldsIn_of_qOp h0 hst
      exact wpAnyQ_first h0 (Region.noSelect_spec hs) σ.length listed a (Region.free_spec h0 hf) (by simpa using hrd) hy (wpAnyQ_sched hs σ r _ _ hr.2 hB' hK)
/-- **The rest of a region**: the first ones, but for those that have come up, are walked once; behind them the last ones. -/
theorem wpAnyH_rest {Q : Exit → Act → World → Prop} {a : Act} {w : World} {L : List Oper} (e m : Nat) (σ : List Nat) (hl : (L.take m).length = m) (hσ : ((L.take e) ++ (L.drop m).map idleOp).map some = σ.map ((idled (L.take m) (L.drop m))[·]?)) (hns : Region.noSelect (idled (L.take m) (L.drop m)) = true)
    (hB : schedB (idled (L.take m) (L.drop m)) σ listed0 = true) (hg : guardB (L.take m) = true) (h1 : lowB L.toArray = true) (h2 : lateB0 m L.toArray listed0 = true) (hsz : listed0.size = L.length) (hun : ((List.range L.length).all fun i => decide (i < m) || !listed0.getD i true) = true) (hem : e ≤ m)
    (hC : C w) (hCS : ∀ w, C w → S w)
    (h : wpQuiet P L.toArray C (fun a' => ∀ w', C w' → wpListH P L.toArray Q S (L.drop m) a' w') (L.take e) a) : wpAnyH P .any L.toArray Q S σ.length listed0 a w := by
  have eq := List.take_append_drop m L
  have hsub : ∀ o ∈ L.take e, o ∈ L.take m := fun o ho => by
    have : L.take e = (L.take m).take e := by rw [List.take_take, Nat.min_eq_left hem]
    rw [this] at ho
    exact List.mem_of_mem_take ho
  have hq := wpQuiet_app (P := P) (C := C) (ops := L.toArray) (ops' := idled (L.take m) (L.drop m)) (l := L.take m) (t := L.drop m) (fun o ho tmps => by
    have := wanted_idled (t := L.drop m) hg ho tmps
    rw [eq] at this
    exact this) (L.take e) hsub a h
  have hany := wpAnyQ_sched hns σ _ listed0 a hσ hB hq
  have key := first_walkH (P := P) (C := C) (S := S) (listed0 := listed0) (l := L.take m) (t := L.drop m) (R := fun a' => ∀ w', C w' → wpListH P L.toArray Q S (L.drop m) a' w') (Q' := Q) hg (by rw [eq]; exact h1) (by rw [eq, hl]; exact h2) hCS (fun a' w' hw' hR => by rw [eq]; exact hR w' hw') σ.length listed0 a w (fun i hi => hi) (by rw [eq]; simpa using hsz) (fun i hi hi2 => by
    have := List.all_eq_true.1 hun i (List.mem_range.2 (by omega))
    rw [hl] at hi
    rw [Bool.or_eq_true] at this
    rcases this with h | h
    · simp only [decide_eq_true_eq] at h; omega
    · simpa using h) hC hany
  rw [eq] at key
  exact key
end
section
variable {P : Program} {ops : Array Oper} {Q : Exit → Act → World → Prop} {S : World → Prop} {o : Oper} {rest : List Oper} {a : Act} {w : World}
theorem wpListH_want (hg : o.guard = none) (h : o.wp P a w (fun a' w' => S w' ∧ wpListH P ops Q S rest a' w') Q) : wpListH P ops Q S (o :: rest) a w := by
  unfold wpListH
  rw [if_pos (by unfold Region.wanted; rw [hg])]
  exact h
theorem wpListH_nil (h : Q .normal a w) : wpListH P ops Q S [] a w := h
theorem wp_assign_op {K : Act → World → Prop} (x : Operand) (ho : o.op = .assign x) (h : K (a.put o.dst (a.eval x)) w) : o.wp P a w K Q := by
  unfold Oper.wp
  rw [BigFrame.run_assign x ho]
  exact h
end
/-- An operation that may come up is taken first; its slot is named. -/
theorem wpAnyH_take_to {P : Program} {ops : Array Oper} {Q : Exit → Act → World → Prop} {S : World → Prop} {oi : Oper} (i : Nat) (d : Nat) (v : Value) {fuel : Nat} {listed : Array Bool} {a : Act} {w : World} (hi : ops[i]? = some oi) (hd : oi.dst = some d)
    (hs : Region.noSelect ops = true) (hf : Region.free .any ops listed i = true) (hr : (Region.ready .any ops listed).contains i = true)
    (hQ : ∀ c a w, Q (.panic c) (a.put oi.dst v) w → Q (.panic c) a w) (hy : YieldsIf P ops S oi v a) (hS : S w)
    (h : wpAnyH P .any ops Q S fuel (listed.setIfInBounds i true) { a with tmps := a.tmps.setIfInBounds d v } w) : wpAnyH P .any ops Q S (fuel + 1) listed a w :=
  wpAnyH_take hi hs hf hr hQ hy hS (by rw [hd]; exact h)
end Go.Proofs.Ytajkgfeockcbpaa
/- A region whose last operations wait for all others, by way of others too: the first ones are walked under a predicate that holds throughout, with the last ones idle; behind them, once, the last ones in their order. -/
namespace Go.Proofs.Ytajkgfeockcbpaa
open Go.RowKit Go.Maps

/-- Does an operation wait for another one, by way of others too? -/
def waitsB (ops : Array Oper) : Nat → Nat → Nat → Bool
  | 0, _, _ => false
  | f + 1, k, i => match ops[k]? with
    | none => false
    | some o => o.after.any fun e => Region.binds .any e && (e.on == i || waitsB ops f e.on i)
/-- From one on, each operation waits for all earlier ones, by way of others too. -/
def lateT (m : Nat) (ops : Array Oper) : Bool := (List.range ops.size).all fun k => decide (k < m) || (List.range k).all fun i => waitsB ops ops.size k i
/-- Whatever has come up came up behind all that it waits for. -/
def ClosedL (ops : Array Oper) (listed : Array Bool) : Prop := ∀ k o, ops[k]? = some o → listed.getD k false = true → ∀ e ∈ o.after, Region.binds .any e = true → listed.getD e.on false = true
theorem waits_closed {ops : Array Oper} {listed : Array Bool} (hc : ClosedL ops listed) : ∀ (f k i : Nat), waitsB ops f k i = true → (∀ o, ops[k]? = some o → ∀ e ∈ o.after, Region.binds .any e = true → listed.getD e.on false = true) → listed.getD i false = true
  | 0, _, _, h, _ => by simp [waitsB] at h
  | f + 1, k, i, h, hk => by
    unfold waitsB at h
    cases ho : ops[k]? with
    | none => rw [ho] at h; cases h
    | some o =>
      rw [ho] at h
      obtain ⟨e, he, hb⟩ := Array.any_eq_true'.1 h
      simp only [Bool.and_eq_true, Bool.or_eq_true, beq_iff_eq] at hb
      have hl := hk o ho e he hb.1
      rcases hb.2 with h1 | h1
      · rw [← h1]; exact hl
      · exact waits_closed hc f e.on i h1 (fun o' ho' => hc e.on o' ho' hl)
theorem closed_start (ops : Array Oper) (n : Nat) : ClosedL ops (Array.replicate n false) := fun k _ _ h => by
  exfalso
  revert h
  simp [Array.getD]
theorem ClosedL.set {ops : Array Oper} {listed : Array Bool} (h : ClosedL ops listed) {k : Nat} (hk : k ∈ Region.ready .any ops listed) : ClosedL ops (listed.setIfInBounds k true) := fun j o ho hj e he hb => by
  have up : ∀ i, listed.getD i false = true → (listed.setIfInBounds k true).getD i false = true := fun i hi => by
    by_cases e2 : k = i
    · subst e2
      have hlt : k < listed.size := by
        rcases Nat.lt_or_ge k listed.size with h' | h'
        · exact h'
        · simp [Array.getD, Nat.not_lt.2 h'] at hi
      simp [hlt]
    · rw [getD_set_ne false e2]; exact hi
  by_cases e2 : k = j
  · subst e2
    obtain ⟨_, o', ho', hall⟩ := mem_ready.1 hk
    rw [ho] at ho'
    cases ho'
    exact up _ (hall e he hb)
  · rw [getD_set_ne false e2] at hj
    exact up _ (h j o ho hj e he hb)
theorem ready_lateT {ops : Array Oper} {listed : Array Bool} {m k i : Nat} (h : lateT m ops = true) (hc : ClosedL ops listed) (hk : k ∈ Region.ready .any ops listed) (hm : m ≤ k) (hi : i < k) : listed.getD i false = true := by
  obtain ⟨_, o, ho, hall⟩ := mem_ready.1 hk
  have hlt : k < ops.size := (Array.getElem?_eq_some_iff.1 ho).1
  have h1 := List.all_eq_true.1 h k (List.mem_range.2 hlt)
  rw [Bool.or_eq_true] at h1
  rcases h1 with h1 | h1
  · simp only [decide_eq_true_eq] at h1
    omega
  · have h2 := List.all_eq_true.1 h1 i (List.mem_range.2 hi)
    exact waits_closed hc _ k i h2 (fun o' ho' => by rw [ho] at ho'; cases ho'; exact hall)
section
variable {P : Program} {S : World → Prop} {l t : List Oper} {Q : Exit → Act → World → Prop}
/-- What is asked behind the first ones: the walk of the last ones. -/
def lastQ (P : Program) (ops : Array Oper) (t : List Oper) (Q : Exit → Act → World → Prop) : Exit → Act → World → Prop
  | .normal, a, w => wpList P ops Q t a w
  | e, a, w => Q e a w
theorem lastQ_op {o : Oper} {a : Act} {w : World} {ops : Array Oper} {K : Act → World → Prop} (h : o.wp P a w K (lastQ P ops t Q)) : o.wp P a w K Q := by
  unfold Oper.wp at *
  generalize (execOp a.eval o).run P w = r at *
  cases r with
  | ok n w' =>
    cases n with
    | value v => exact h
    | skip => exact h
    | defer d => exact h
    | enter f args =>
      refine Calls.mono h fun e w'' he => ?_
      cases e with
      | returned v => exact he
      | panicked c => exact he
      | outgrown => exact he
    | row r args => exact h
    | _ => exact h
  | halt x w' =>
    cases x with
    | panic v => exact h
    | _ => exact h
theorem idle_op {s : Oper} {a : Act} {w : World} {K : Act → World → Prop} {Q' : Exit → Act → World → Prop} (h : (idleOp s).wp P a w K Q' ∨ ((idleOp s).asks P a w ∧ LetsOut Q')) : K a w := by
  rcases h with h | ⟨h, _⟩
  · exact h
  · exfalso
    have h1 := h.1
    have e : ((execOp a.eval (idleOp s)).runT P w #[]).2 = #[] := rfl
    rw [e] at h1
    simp at h1
theorem ready_only {ops : Array Oper} {listed : Array Bool} {m k : Nat} (_h1 : lowB ops = true) (h2 : lateT m ops = true) (hc : ClosedL ops listed) (hs : listed.size = ops.size) (hm : m ≤ k) (hu : Upto k listed) {i : Nat} (hi : i ∈ Region.ready .any ops listed) : i = k := by
  have hj := (mem_ready.1 hi).1
  have hlt := getD_lt hj
  by_cases e : i < k
  · have h3 := hu.y i e
    rw [getD_size hlt] at hj
    rw [hj] at h3
    cases h3
  · by_cases e2 : i = k
    · exact e2
    · have h3 := ready_lateT h2 hc hi (by omega) (i := k) (by omega)
      have h4 := hu.n k (Nat.le_refl _) (by omega)
      rw [getD_size (by omega)] at h4
      rw [h4] at h3
      cases h3
theorem ready_none {ops : Array Oper} {listed : Array Bool} {m k : Nat} (h1 : lowB ops = true) (h2 : lateT m ops = true) (hc : ClosedL ops listed) (hs : listed.size = ops.size) (hm : m ≤ k) (hu : Upto k listed) (hk : ops.size ≤ k) : Region.ready .any ops listed = [] := by
  rw [List.eq_nil_iff_forall_not_mem]
  intro i hi
  have := ready_only h1 h2 hc hs hm hu hi
  have hlt := getD_lt (mem_ready.1 hi).1
  omega
theorem ready_this {ops : Array Oper} {listed : Array Bool} {m k : Nat} (h1 : lowB ops = true) (h2 : lateT m ops = true) (hc : ClosedL ops listed) (hs : listed.size = ops.size) (hm : m ≤ k) (hu : Upto k listed) (hk : k < ops.size) : k ∈ Region.ready .any ops listed := by
  obtain ⟨i, hi⟩ := ready_some h1 hs k (hu.n k (Nat.le_refl _) (by omega))
  have := ready_only h1 h2 hc hs hm hu hi
  rw [this] at hi
  exact hi
theorem idle_rest {Q' : Exit → Act → World → Prop} (h1 : lowB (l ++ t).toArray = true) (h2 : lateT l.length (l ++ t).toArray = true) :
    ∀ (fuel k : Nat) (listed : Array Bool) (a : Act) (w : World), l.length ≤ k → k ≤ (l ++ t).toArray.size → listed.size = (l ++ t).toArray.size → ClosedL (l ++ t).toArray listed → Upto k listed →
      wpAnyH P .any (idled l t) Q' S fuel listed a w → Q' .normal a w ∧ (l ++ t).toArray.size - k ≤ fuel := by
  intro fuel
  induction fuel with
  | zero =>
    intro k listed a w hk hks hs hc hu h
    refine ⟨h.2, ?_⟩
    by_cases e : k < (l ++ t).toArray.size
    · have := ready_this h1 h2 hc hs hk hu e
      rw [← ready_idled, h.1] at this
      cases this
    · omega
  | succ fuel ih =>
    intro k listed a w hk hks hs hc hu h
    by_cases e : k < (l ++ t).toArray.size
    · have hr := ready_this h1 h2 hc hs hk hu e
      have hq := h.2 k (by rw [ready_idled]; exact hr)
      unfold wpOp at hq
      rw [idled_ge hk (Array.getElem?_eq_getElem e)] at hq
      simp only at hq
      rw [if_pos (by rfl)] at hq
      have h3 := idle_op hq
      have h4 := ih (k + 1) (listed.setIfInBounds k true) a w (by omega) (by omega) (by simpa using hs) (hc.set hr) (hu.set (by omega)) h3.2
      exact ⟨h4.1, by omega⟩
    · exact ⟨h.1 (by rw [ready_idled]; exact ready_none h1 h2 hc hs hk hu (by omega)), by omega⟩
theorem late_walk (h1 : lowB (l ++ t).toArray = true) (h2 : lateT l.length (l ++ t).toArray = true) :
    ∀ (r : List Oper) (fuel k : Nat) (listed : Array Bool) (a : Act) (w : World), (∀ j, r[j]? = (l ++ t).toArray[k + j]?) → l.length ≤ k → k ≤ (l ++ t).toArray.size → listed.size = (l ++ t).toArray.size → ClosedL (l ++ t).toArray listed → Upto k listed →
      (l ++ t).toArray.size - k ≤ fuel → wpList P (l ++ t).toArray Q r a w → wpAny P .any (l ++ t).toArray Q fuel listed a w := by
  intro r
  induction r with
  | nil =>
    intro fuel k listed a w hr hk hks hs hc hu hf h
    have hsz : (l ++ t).toArray.size ≤ k := by
      have := hr 0
      simp only [List.getElem?_nil, Nat.add_zero] at this
      exact Array.getElem?_eq_none_iff.1 this.symm
    exact wpAny_done (ready_none h1 h2 hc hs hk hu hsz) h _
  | cons o r ih =>
    intro fuel k listed a w hr hk hks hs hc hu hf h
    have ho : (l ++ t).toArray[k]? = some o := by simpa using (hr 0).symm
    have hlt := (Array.getElem?_eq_some_iff.1 ho).1
    obtain ⟨fuel, rfl⟩ : ∃ f, fuel = f + 1 := ⟨fuel - 1, by omega⟩
    have hrk := ready_this h1 h2 hc hs hk hu hlt
    have hr' : ∀ j, r[j]? = (l ++ t).toArray[k + 1 + j]? := fun j => by
      have := hr (j + 1)
      simpa [Nat.add_assoc, Nat.add_comm 1 j] using this
    refine ⟨fun h0 => absurd hrk (by rw [h0]; exact List.not_mem_nil), fun j hj => ?_⟩
    have hjk := ready_only h1 h2 hc hs hk hu hj
    subst hjk
    have key := fun a' w' h' => ih fuel (j + 1) (listed.setIfInBounds j true) a' w' hr' (by omega) (by omega) (by simpa using hs) (hc.set hrk) (hu.set (by omega)) (by omega) h'
    unfold wpOp
    rw [ho]
    simp only
    unfold wpList at h
    split at h
    · rename_i hwt
      rw [if_pos hwt]
      rcases h with h | h
      · exact .inl (Oper.wp_mono (fun a'' w'' h'' => key a'' w'' h'') h)
      · exact .inr h
    · rename_i hwt
      rw [if_neg hwt]
      exact key _ _ h
theorem held_late (hg : guardB l = true) (h1 : lowB (l ++ t).toArray = true) (h2 : lateT l.length (l ++ t).toArray = true) :
    ∀ (fuel : Nat) (listed : Array Bool) (a : Act) (w : World), listed.size = (l ++ t).toArray.size → ClosedL (l ++ t).toArray listed → (∀ i, l.length ≤ i → i < listed.size → listed.getD i true = false) →
      wpAnyH P .any (idled l t) (lastQ P (l ++ t).toArray t Q) S fuel listed a w → wpAny P .any (l ++ t).toArray Q fuel listed a w := by
  intro fuel
  have hlast : ∀ fuel (listed : Array Bool) (a : Act) (w : World), listed.size = (l ++ t).toArray.size → ClosedL (l ++ t).toArray listed → (∀ i, l.length ≤ i → i < listed.size → listed.getD i true = false) → (∀ i, i < l.length → listed.getD i false = true) →
      wpAnyH P .any (idled l t) (lastQ P (l ++ t).toArray t Q) S fuel listed a w → wpAny P .any (l ++ t).toArray Q fuel listed a w := fun fuel listed a w hs hc hun hall h => by
    have h3 := idle_rest h1 h2 fuel l.length listed a w (Nat.le_refl _) (by simp) hs hc ⟨hall, hun⟩ h
    exact late_walk h1 h2 t fuel l.length listed a w (fun j => by rw [List.getElem?_toArray, List.getElem?_append_right (by omega)]; simp) (Nat.le_refl _) (by simp) hs hc ⟨hall, hun⟩ h3.2 h3.1
  induction fuel with
  | zero =>
    intro listed a w hs hc hun h
    by_cases hall : ∀ i, i < l.length → listed.getD i false = true
    · exact hlast 0 listed a w hs hc hun hall h
    · obtain ⟨i, hi⟩ := Classical.not_forall.1 hall
      obtain ⟨hi1, hi2⟩ := Classical.not_imp.1 hi
      have hsz : listed.size = l.length + t.length := by rw [hs]; simp
      obtain ⟨j, hj⟩ := ready_some h1 hs i (by rw [getD_size (by omega)]; simpa using hi2)
      rw [← ready_idled, h.1] at hj
      cases hj
  | succ fuel ih =>
    intro listed a w hs hc hun h
    by_cases hall : ∀ i, i < l.length → listed.getD i false = true
    · exact hlast _ listed a w hs hc hun hall h
    · obtain ⟨i, hi⟩ := Classical.not_forall.1 hall
      obtain ⟨hi1, hi2⟩ := Classical.not_imp.1 hi
      have hsz : listed.size = l.length + t.length := by rw [hs]; simp
      obtain ⟨j, hj⟩ := ready_some h1 hs i (by rw [getD_size (by omega)]; simpa using hi2)
      refine ⟨fun h0 => absurd hj (by rw [h0]; exact List.not_mem_nil), fun k hk => ?_⟩
      have hkl : k < l.length := by
        by_cases e : k < l.length
        · exact e
        · exact absurd (fun i hi => ready_lateT h2 hc hk (by omega) (by omega)) hall
      obtain ⟨_, o, ho, _⟩ := mem_ready.1 hk
      have hq := h.2 k (by rw [ready_idled]; exact hk)
      have hol : o ∈ l := by
        have : l[k]? = some o := by
          have := ho
          simp only [List.getElem?_toArray, List.getElem?_append_left hkl] at this
          exact this
        exact List.mem_of_getElem? this
      have hun' : ∀ i', l.length ≤ i' → i' < (listed.setIfInBounds k true).size → (listed.setIfInBounds k true).getD i' true = false := fun i' hi1' hi2' => by
        rw [getD_set_ne true (by omega)]
        exact hun i' hi1' (by simpa using hi2')
      unfold wpOp at hq ⊢
      rw [idled_lt hkl] at hq
      rw [ho] at hq ⊢
      simp only at hq ⊢
      rw [wanted_idled hg hol] at hq
      split at hq
      · rename_i hw
        rw [if_pos hw]
        rcases hq with hq | hq
        · exact .inl (Oper.wp_mono (fun a' w' hh => ih (listed.setIfInBounds k true) a' w' (by simpa using hs) (hc.set hk) hun' hh.2) (lastQ_op hq))
        · exact .inr hq
      · rename_i hw
        rw [if_neg hw]
        exact ih _ _ _ (by simpa using hs) (hc.set hk) hun' hq.2
/-- **A region whose last operations wait for all others.** -/
theorem wp_region_late {id : Nat} {a : Act} {w : World} {L : List Oper} (m : Nat) (hm : P.follows .mixedOrders = true) (hg : guardB (L.take m) = true) (h1 : lowB L.toArray = true) (h2 : lateT m L.toArray = true) (hl : (L.take m).length = m) (hS : S w.drew)
    (h : S w.drew → wpAnyH P .any (idled (L.take m) (L.drop m)) (lastQ P L.toArray (L.drop m) Q) S L.toArray.size (Array.replicate L.toArray.size false) a w.drew) : (Code.region id L.toArray true).wp P Q a w := by
  have e := List.take_append_drop m L
  have key := held_late (P := P) (S := S) (Q := Q) (l := L.take m) (t := L.drop m) hg (by rw [e]; exact h1) (by rw [e, hl]; exact h2) L.toArray.size (Array.replicate L.toArray.size false) a w.drew (by rw [e]; simp) (by rw [e]; exact closed_start _ _) (fun i _ hi => by simp at hi; simp [hi]) (by rw [e]; exact h hS)
  rw [e] at key
  exact wp_region_any hm key
end
end Go.Proofs.Ytajkgfeockcbpaa
