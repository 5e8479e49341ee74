/- The walks of layer 5: what becomes of a plan: pieces. -/
import Derived.Test.YtgdidhbomdfcpaaF12
import Derived.Test.YtgdidhbomdfcpaaF14
import Derived.Maps.OwnIn
import Derived.WalkMore
import Derived.Laws.EntriesVeiled
namespace Go.Proofs.Ytgdidhbomdfcpaa
open Go.RowKit Go.Maps
attribute [local go_sem] Oper.semAt_some

theorem owns_keeps {A B : World} {N : Nat → Prop} {base size n : Nat} {e : TypeId} {v : Value} {xs : List Value} (h : A.ownsRow base e size v n xs) (k : KeepsBut N A B) (hn : ∀ g, v.ownBlock = some g → ¬ N g) : B.ownsRow base e size v n xs := by
  refine ⟨h.1, ?_⟩
  rcases h.2 with h' | ⟨g, cap, cur, hv, hb, hg, r⟩
  · exact .inl h'
  · exact .inr ⟨g, cap, cur, hv, hb, by rw [k.block g (Array.getElem?_eq_some_iff.1 hg).1 (hn g (by rw [hv]; rfl))]; exact hg, r⟩
theorem own_lt {A : World} {base size n : Nat} {e : TypeId} {v : Value} {xs : List Value} (h : A.ownsRow base e size v n xs) {g : Nat} (hg : v.ownBlock = some g) : base ≤ g ∧ g < A.heap.size := by
  rcases h.2 with ⟨h', _⟩ | ⟨g', cap, cur, hv, hb, hh, r⟩
  · rw [h'] at hg; cases hg
  · rw [hv] at hg
    cases hg
    exact ⟨hb, (Array.getElem?_eq_some_iff.1 hh).1⟩
theorem idx0 (x y : Value) (w : World) : (Instr.index 127 (.agg #[x, y]) (.int .i64 0)).run Try.prog w = .ok x w := by
  simp [Instr.index, go_sem, Try.underlying127]
theorem idx1 (x y : Value) (w : World) : (Instr.index 127 (.agg #[x, y]) (.int .i64 1)).run Try.prog w = .ok y w := by
  simp [Instr.index, go_sem, Try.underlying127]
theorem index_opIn {F : Fence} {n : Nat} {P : Program} {ops : Array Oper} {rest : List Oper} {op : Oper} {a : Act} {w : World} {Q : Exit → Act → World → Prop} (hgd : op.guard = none) (ty : TypeId) (x y : Operand) (ho : op.op = .index ty x y) (vx vy : Value) (hx : a.eval x = vx) (hy : a.eval y = vy) (v : Value)
    (hr : (Instr.index ty vx vy).run P w = .ok v w) (h : wpListIn F n P ops Q rest (a.put op.dst v) w) : wpListIn F n P ops Q (op :: rest) a w :=
  wpListIn_plain hgd fun K hK => by
    refine ⟨fun f hf => by simp [Oper.about, ho] at hf, ?_⟩
    rw [Oper.semAt_eq _ _ _ (by intro c hc; rw [ho] at hc; cases hc)]
    simp only [execOp, ho, hx, hy, Sem.run_bind, Sem.run_pure, hr, Result.andThen_ok]
    exact hK _ _ h
theorem lookup_opIn {F : Fence} {n : Nat} {P : Program} {ops : Array Oper} {rest : List Oper} {op : Oper} {a : Act} {w : World} {Q : Exit → Act → World → Prop} (hgd : op.guard = none) (ty : TypeId) (x y : Operand) (cm : Bool) (ho : op.op = .lookup ty x y cm) (mb : Nat) (ks : Array Value) (hx : a.eval x = .map (some mb)) (hy : a.eval y = .agg ks) (v : Value)
    (hr : (Instr.lookup ty (.map (some mb)) (.agg ks) cm).run P w = .ok v w) (h : wpListIn F n P ops Q rest (a.put op.dst v) w) : wpListIn F n P ops Q (op :: rest) a w :=
  wpListIn_plain hgd fun K hK => by
    refine ⟨fun f hf => by simp [Oper.about, ho] at hf, ?_⟩
    rw [Oper.semAt_eq _ _ _ (by intro c hc; rw [ho] at hc; cases hc)]
    simp only [execOp, ho, hx, hy, Sem.run_bind, Sem.run_pure, hr, Result.andThen_ok]
    exact hK _ _ h
def hdV (hs : List Hd) : List Value := hs.flatMap fun h => [.int .i64 h.lo, .int .i64 h.hi]
/-- Two lists that the rounds make: what is right, what is by hand. -/
structure Both (base : Nat) (b : Bf) (l : List Int) (vr vh : Value) (k : Nat) (O : Nat → Prop) (A : World) : Prop where
  r : A.ownsRow base 27 2 vr (rightTo b l k).length (hdV (rightTo b l k))
  h : A.ownsRow base 3 1 vh (handTo b l k).length ((handTo b l k).map (Value.int .i64))
  nr : ∀ g, vr.ownBlock = some g → ¬ O g
  nh : ∀ g, vh.ownBlock = some g → ¬ O g
  ne : ∀ g, vr.ownBlock = some g → vh.ownBlock ≠ some g
theorem Both.keeps {base : Nat} {b : Bf} {l : List Int} {vr vh : Value} {k : Nat} {O O' : Nat → Prop} {A B : World} (h : Both base b l vr vh k O A) (hb : KeepsBut O A B) (hO : ∀ m, O' m → O m ∨ A.heap.size ≤ m) : Both base b l vr vh k O' B :=
  ⟨owns_keeps h.r hb h.nr, owns_keeps h.h hb h.nh, fun g hg x => (hO g x).elim (h.nr g hg) (fun y => by have := (own_lt h.r hg).2; omega), fun g hg x => (hO g x).elim (h.nh g hg) (fun y => by have := (own_lt h.h hg).2; omega), h.ne⟩

theorem Row.grown {w w' : World} {b : Nat} {cs : Array Value} {t : TypeId} {row : Option Nat} (h : Row w b cs t) (hg : w.grownBy w' row) (hne : some b ≠ row) : Row w' b cs t := by
  unfold Row; rw [hg.block b h.lt hne]; exact h
theorem grown_keeps {M : Nat → Prop} {A B : World} {row : Option Nat} (h : A.grownBy B row) (hM : ∀ g, row = some g → M g) : KeepsBut M A B :=
  ⟨h.os, h.tape, h.output, h.size, fun k hk hm => h.block k hk (fun e => hm (hM k e.symm))⟩
theorem set_keeps (A : World) (Z i : Nat) (v : Value) : KeepsBut (fun m => m = Z) A (A.setCell ⟨Z, i, none⟩ v) := KeepsBut.setCell (M := fun m => m = Z) (a := ⟨Z, i, none⟩) (KeepsBut.refl (fun m => m = Z) A) (.inl rfl) v
theorem handTo_no {b : Bf} {l : List Int} {k : Nat} (h : rightI b l k = false) : handTo b l (k + 1) = handTo b l k ++ [(k : Int)] ∧ rightTo b l (k + 1) = rightTo b l k := by
  rw [handTo_succ, rightTo_succ, h]
  exact ⟨rfl, rfl⟩
theorem handTo_yes {b : Bf} {l : List Int} {k : Nat} (h : rightI b l k = true) : handTo b l (k + 1) = handTo b l k ∧ rightTo b l (k + 1) = rightTo b l k ++ [⟨loI b l k, hiI b l k⟩] := by
  rw [handTo_succ, rightTo_succ, h]
  exact ⟨rfl, rfl⟩
theorem hdV_append (a b : List Hd) : hdV (a ++ b) = hdV a ++ hdV b := by simp [hdV]
theorem hdV_length (a : List Hd) : (hdV a).length = a.length * 2 := by
  induction a with
  | nil => rfl
  | cons x a ih => simp [hdV] at *; omega
section
variable {base Z : Nat} {b : Bf} {l : List Int} {vr vh v' : Value} {k : Nat} {O : Nat → Prop} {A B C : World}
/-- A box more that must be filled by hand. -/
theorem Both.hand (h : Both base b l vr vh k O A) (hr : rightI b l k = false) (hb : Below A.heap.size A B) (hO : ∀ m, O m → m < A.heap.size) (hZ : Z < base)
    (hown : C.ownsRow base 3 1 v' ((handTo b l k).length + 1) ((handTo b l k).map (Value.int .i64) ++ [Value.int .i64 (k : Int)])) (hg : B.grownBy C vh.ownBlock) (hat : v'.ownBlock = vh.ownBlock ∨ v'.ownBlock = some B.heap.size) (i : Nat) (v : Value) :
    Both base b l vr v' (k + 1) O (C.setCell ⟨Z, i, none⟩ v) := by
  obtain ⟨e1, e2⟩ := handTo_no hr
  have hsz := hb.size
  have kr : C.ownsRow base 27 2 vr (rightTo b l k).length (hdV (rightTo b l k)) :=
    owns_keeps (owns_below h.r hb) (grown_keeps (M := fun g => vh.ownBlock = some g) hg fun g hg => hg) (fun g hg hh => h.ne g hg hh)
  refine ⟨?_, ?_, h.nr, ?_, ?_⟩
  · rw [e2]
    exact owns_keeps kr (set_keeps C Z i v) (fun g hg e => by have := (own_lt kr hg).1; omega)
  · rw [e1, List.length_append, List.map_append]
    exact owns_keeps hown (set_keeps C Z i v) (fun g hg e => by have := (own_lt hown hg).1; omega)
  · intro g hg hOg
    rcases hat with h' | h'
    · exact h.nh g (h' ▸ hg) hOg
    · rw [h'] at hg
      cases hg
      have := hO _ hOg
      omega
  · intro g hg hg'
    rcases hat with h' | h'
    · exact h.ne g hg (h' ▸ hg')
    · rw [h'] at hg'
      cases hg'
      have := (own_lt h.r hg).2
      omega
/-- A box more that is right. -/
theorem Both.right (h : Both base b l vr vh k O A) (hr : rightI b l k = true) (hb : Below A.heap.size A B) (hO : ∀ m, O m → m < A.heap.size) (hZ : Z < base)
    (hown : C.ownsRow base 27 2 v' ((rightTo b l k).length + 1) (hdV (rightTo b l k) ++ [Value.int .i64 (loI b l k), Value.int .i64 (hiI b l k)])) (hg : B.grownBy C vr.ownBlock) (hat : v'.ownBlock = vr.ownBlock ∨ v'.ownBlock = some B.heap.size) (i : Nat) (v : Value) :
    Both base b l v' vh (k + 1) O (C.setCell ⟨Z, i, none⟩ v) := by
  obtain ⟨e1, e2⟩ := handTo_yes hr
  have hsz := hb.size
  have kr : C.ownsRow base 3 1 vh (handTo b l k).length ((handTo b l k).map (Value.int .i64)) :=
    owns_keeps (owns_below h.h hb) (grown_keeps (M := fun g => vr.ownBlock = some g) hg fun g hg => hg) (fun g hg hh => h.ne g hh hg)
  refine ⟨?_, ?_, ?_, h.nh, ?_⟩
  · rw [e2, List.length_append, hdV_append]
    exact owns_keeps hown (set_keeps C Z i v) (fun g hg e => by have := (own_lt hown hg).1; omega)
  · rw [e1]
    exact owns_keeps kr (set_keeps C Z i v) (fun g hg e => by have := (own_lt kr hg).1; omega)
  · intro g hg hOg
    rcases hat with h' | h'
    · exact h.nr g (h' ▸ hg) hOg
    · rw [h'] at hg
      cases hg
      have := hO _ hOg
      omega
  · intro g hg hg'
    rcases hat with h' | h'
    · exact h.ne g (h' ▸ hg) hg'
    · rw [h'] at hg
      cases hg
      have := (own_lt h.h hg').2
      omega
end
theorem hds_of_owns {w : World} {base : Nat} {v : Value} {hs : List Hd} (h : w.ownsRow base 27 2 v hs.length (hdV hs)) :
    ∃ p c, v = .slice p hs.length c ∧ HdsAt w p hs := by
  rcases h.2 with ⟨hv, h0⟩ | ⟨g, cap, cur, hv, hg, hh, h1, h2, h3, h4⟩
  · exact ⟨none, 0, by rw [hv, h0], fun i hi => by omega⟩
  · refine ⟨_, cap, hv, fun i hi => ⟨g, 0, rfl, ?_⟩⟩
    have key : ∀ j u, (hdV hs)[j]? = some u → w.cell? ⟨g, 0 + j, none⟩ = some u := by
      intro j u hj
      rw [cell_of_row w g (0 + j) cur 27 (0, 0) hh, Nat.zero_add]
      have hl : j < (hdV hs).length := (List.getElem?_eq_some_iff.1 hj).1
      rw [hdV_length] at hl
      rw [← h4, List.getElem?_take_of_lt (by omega)] at hj
      simpa using hj
    have at2 : ∀ (hs : List Hd) (i : Nat) (hi : i < hs.length), (hdV hs)[i * 2]? = some (.int .i64 hs[i].lo) ∧ (hdV hs)[i * 2 + 1]? = some (.int .i64 hs[i].hi) := by
      intro hs
      induction hs with
      | nil => intro i hi; simp at hi
      | cons x hs ih =>
        intro i hi
        cases i with
        | zero => simp [hdV]
        | succ i =>
          have e : hdV (x :: hs) = .int .i64 x.lo :: .int .i64 x.hi :: hdV hs := by simp [hdV]
          rw [e, show (i + 1) * 2 = i * 2 + 1 + 1 by omega]
          simpa using ih i (by simpa using hi)
    obtain ⟨a1, a2⟩ := at2 hs i hi
    exact ⟨key _ _ a1, by rw [Nat.add_assoc]; exact key _ _ a2⟩
theorem owns_slice {w : World} {base e size n : Nat} {v : Value} {xs : List Value} (h : w.ownsRow base e size v n xs) : ∃ p c, v = .slice p n c := by
  rcases h.2 with ⟨hv, h0⟩ | ⟨g, cap, cur, hv, r⟩
  · exact ⟨none, 0, by rw [hv, h0]⟩
  · exact ⟨_, cap, hv⟩
theorem owns_same {A B : World} {base size n : Nat} {e : TypeId} {v : Value} {xs : List Value} (h : A.ownsRow base e size v n xs) (hs : ∀ (g : Nat) (cur : Array Value), A.heap[g]? = some (Obj.cells cur e (0, 0)) → B.heap[g]? = A.heap[g]?) : B.ownsRow base e size v n xs := by
  refine ⟨h.1, ?_⟩
  rcases h.2 with h' | ⟨g, cap, cur, hv, hb, hg, r⟩
  · exact .inl h'
  · exact .inr ⟨g, cap, cur, hv, hb, by rw [hs g cur hg]; exact hg, r⟩
/-- What becomes of the boxes of a plan is returned. -/
def GaveOut (b : Bf) (q : Option Addr) (cq : Nat) (l : List Int) (w : World) (e : Ending) (w' : World) : Prop :=
  ∃ pr cr ph ch, e = .returned (.agg (outA q l.length cq pr (rightL b l).length cr ph (handL b l).length ch)) ∧ HdsAt w' pr (rightL b l) ∧ IntsAt w' ph (handL b l) ∧ (∀ g o, pr = some ⟨g, o, none⟩ → w.heap.size ≤ g) ∧ (∀ g o, ph = some ⟨g, o, none⟩ → w.heap.size ≤ g) ∧ Below w.heap.size w w'
theorem Try.infoSpan : (Try.prog.info? 27).map (fun i => (i.zero, i.size, i.bytes)) = some (some (.agg #[.int .i64 0, .int .i64 0]), 2, 16) := by kernel_rfl
end Go.Proofs.Ytgdidhbomdfcpaa
