/- The walks of layer 5: what becomes of a plan: pieces. -/
import Derived.Test.YticfcdbfplfmlaaGreatFBX
import Derived.Maps.OwnIn
import Derived.WalkMore
import Derived.Laws.EntriesVeiled
namespace Go.Proofs.YticfcdbfplfmlaaGreat
open Go.RowKit Go.Maps
attribute [local go_sem] Oper.semAt_some

theorem owns_keeps {A B : World} {N : Nat → Prop} {base size n : Nat} {e : TypeId} {v : Value} {xs : List Value} (h : A.ownsRow base e size v n xs) (k : KeepsBut N A B) (hn : ∀ g, v.ownBlock = some g → ¬ N g) : B.ownsRow base e size v n xs := by
  refine ⟨h.1, ?_⟩
  rcases h.2 with h' | ⟨g, cap, cur, hv, hb, hg, r⟩
  · exact .inl h'
  · exact .inr ⟨g, cap, cur, hv, hb, by rw [k.block g (Array.getElem?_eq_some_iff.1 hg).1 (hn g (by rw [hv]; rfl))]; exact hg, r⟩
theorem own_lt {A : World} {base size n : Nat} {e : TypeId} {v : Value} {xs : List Value} (h : A.ownsRow base e size v n xs) {g : Nat} (hg : v.ownBlock = some g) : base ≤ g ∧ g < A.heap.size := by
  rcases h.2 with ⟨h', _⟩ | ⟨g', cap, cur, hv, hb, hh, r⟩
  · rw [h'] at hg; cases hg
  · rw [hv] at hg
    cases hg
    exact ⟨hb, (Array.getElem?_eq_some_iff.1 hh).1⟩
theorem idx0 (x y : Value) (w : World) : (Instr.index 197 (.agg #[x, y]) (.int .i64 0)).run Tryz.prog w = .ok x w := by
  simp [Instr.index, go_sem, Tryz.underlying197]
theorem idx1 (x y : Value) (w : World) : (Instr.index 197 (.agg #[x, y]) (.int .i64 1)).run Tryz.prog w = .ok y w := by
  simp [Instr.index, go_sem, Tryz.underlying197]
theorem index_opIn {F : Fence} {n : Nat} {P : Program} {ops : Array Oper} {rest : List Oper} {op : Oper} {a : Act} {w : World} {Q : Exit → Act → World → Prop} (hgd : op.guard = none) (ty : TypeId) (x y : Operand) (ho : op.op = .index ty x y) (vx vy : Value) (hx : a.eval x = vx) (hy : a.eval y = vy) (v : Value)
    (hr : (Instr.index ty vx vy).run P w = .ok v w) (h : wpListIn F n P ops Q rest (a.put op.dst v) w) : wpListIn F n P ops Q (op :: rest) a w :=
  wpListIn_plain hgd fun K hK => by
    refine ⟨fun f hf => by simp [Oper.about, ho] at hf, ?_⟩
    rw [Oper.semAt_eq _ _ _ (by intro c hc; rw [ho] at hc; cases hc)]
    simp only [execOp, ho, hx, hy, Sem.run_bind, Sem.run_pure, hr, Result.andThen_ok]
    exact hK _ _ h
theorem lookup_opIn {F : Fence} {n : Nat} {P : Program} {ops : Array Oper} {rest : List Oper} {op : Oper} {a : Act} {w : World} {Q : Exit → Act → World → Prop} (hgd : op.guard = none) (ty : TypeId) (x y : Operand) (cm : Bool) (ho : op.op = .lookup ty x y cm) (mb : Nat) (ks : Array Value) (hx : a.eval x = .map (some mb)) (hy : a.eval y = .agg ks) (v : Value)
    (hr : (Instr.lookup ty (.map (some mb)) (.agg ks) cm).run P w = .ok v w) (h : wpListIn F n P ops Q rest (a.put op.dst v) w) : wpListIn F n P ops Q (op :: rest) a w :=
  wpListIn_plain hgd fun K hK => by
    refine ⟨fun f hf => by simp [Oper.about, ho] at hf, ?_⟩
    rw [Oper.semAt_eq _ _ _ (by intro c hc; rw [ho] at hc; cases hc)]
    simp only [execOp, ho, hx, hy, Sem.run_bind, Sem.run_pure, hr, Result.andThen_ok]
    exact hK _ _ h
def hdV (hs : List Hd) : List Value := hs.flatMap fun h => [.int .i64 h.lo, .int .i64 h.hi]
/-- Two lists that the rounds make: what is right, what is by hand. -/
structure Both (base : Nat) (b : Bf) (l : List Int) (vr vh : Value) (k : Nat) (O : Nat → Prop) (A : World) : Prop where
  r : A.ownsRow base 43 2 vr (rightTo b l k).length (hdV (rightTo b l k))
  h : A.ownsRow base 3 1 vh (handTo b l k).length ((handTo b l k).map (Value.int .i64))
  nr : ∀ g, vr.ownBlock = some g → ¬ O g
  nh : ∀ g, vh.ownBlock = some g → ¬ O g
  ne : ∀ g, vr.ownBlock = some g → vh.ownBlock ≠ some g
theorem Both.keeps {base : Nat} {b : Bf} {l : List Int} {vr vh : Value} {k : Nat} {O O' : Nat → Prop} {A B : World} (h : Both base b l vr vh k O A) (hb : KeepsBut O A B) (hO : ∀ m, O' m → O m ∨ A.heap.size ≤ m) : Both base b l vr vh k O' B :=
  ⟨owns_keeps h.r hb h.nr, owns_keeps h.h hb h.nh, fun g hg x => (hO g x).elim (h.nr g hg) (fun y => by have := (own_lt h.r hg).2; omega), fun g hg x => (hO g x).elim (h.nh g hg) (fun y => by have := (own_lt h.h hg).2; omega), h.ne⟩

theorem Row.grown {w w' : World} {b : Nat} {cs : Array Value} {t : TypeId} {row : Option Nat} (h : Row w b cs t) (hg : w.grownBy w' row) (hne : some b ≠ row) : Row w' b cs t := by
  unfold Row; rw [hg.block b h.lt hne]; exact h
theorem grown_keeps {M : Nat → Prop} {A B : World} {row : Option Nat} (h : A.grownBy B row) (hM : ∀ g, row = some g → M g) : KeepsBut M A B :=
  ⟨h.os, h.tape, h.output, h.size, fun k hk hm => h.block k hk (fun e => hm (hM k e.symm))⟩
theorem set_keeps (A : World) (Z i : Nat) (v : Value) : KeepsBut (fun m => m = Z) A (A.setCell ⟨Z, i, none⟩ v) := KeepsBut.setCell (M := fun m => m = Z) (a := ⟨Z, i, none⟩) (KeepsBut.refl (fun m => m = Z) A) (.inl rfl) v
theorem handTo_no {b : Bf} {l : List Int} {k : Nat} (h : rightI b l k = false) : handTo b l (k + 1) = handTo b l k ++ [(k : Int)] ∧ rightTo b l (k + 1) = rightTo b l k := by
  rw [handTo_succ, rightTo_succ, h]
  exact ⟨rfl, rfl⟩
theorem handTo_yes {b : Bf} {l : List Int} {k : Nat} (h : rightI b l k = true) : handTo b l (k + 1) = handTo b l k ∧ rightTo b l (k + 1) = rightTo b l k ++ [⟨loI b l k, hiI b l k⟩] := by
  rw [handTo_succ, rightTo_succ, h]
  exact ⟨rfl, rfl⟩
theorem hdV_append (a b : List Hd) : hdV (a ++ b) = hdV a ++ hdV b := by simp [hdV]
theorem hdV_length (a : List Hd) : (hdV a).length = a.length * 2 := by
  induction a with
  | nil => rfl
  | cons x a ih => simp [hdV] at *; omega
section
variable {base Z : Nat} {b : Bf} {l : List Int} {vr vh v' : Value} {k : Nat} {O : Nat → Prop} {A B C : World}
/-- A box more that must be filled by hand. -/
theorem Both.hand (h : Both base b l vr vh k O A) (hr : rightI b l k = false) (hb : Below A.heap.size A B) (hO : ∀ m, O m → m < A.heap.size) (hZ : Z < base)
    (hown : C.ownsRow base 3 1 v' ((handTo b l k).length + 1) ((handTo b l k).map (Value.int .i64) ++ [Value.int .i64 (k : Int)])) (hg : B.grownBy C vh.ownBlock) (hat : v'.ownBlock = vh.ownBlock ∨ v'.ownBlock = some B.heap.size) (i : Nat) (v : Value) :
    Both base b l vr v' (k + 1) O (C.setCell ⟨Z, i, none⟩ v) := by
  obtain ⟨e1, e2⟩ := handTo_no hr
  have hsz := hb.size
  have kr : C.ownsRow base 43 2 vr (rightTo b l k).length (hdV (rightTo b l k)) :=
    owns_keeps (owns_below h.r hb) (grown_keeps (M := fun g => vh.ownBlock = some g) hg fun g hg => hg) (fun g hg hh => h.ne g hg hh)
  refine ⟨?_, ?_, h.nr, ?_, ?_⟩
  · rw [e2]
    exact owns_keeps kr (set_keeps C Z i v) (fun g hg e => by have := (own_lt kr hg).1; omega)
  · rw [e1, List.length_append, List.map_append]
    exact owns_keeps hown (set_keeps C Z i v) (fun g hg e => by have := (own_lt hown hg).1; omega)
  · intro g hg hOg
    rcases hat with h' | h'
    · exact h.nh g (h' ▸ hg) hOg
    · rw [h'] at hg
      cases hg
      have := hO _ hOg
      omega
  · intro g hg hg'
    rcases hat with h' | h'
    · exact h.ne g hg (h' ▸ hg')
    · rw [h'] at hg'
      cases hg'
      have := (own_lt h.r hg).2
      omega
/-- A box more that is right. -/
theorem Both.right (h : Both base b l vr vh k O A) (hr : rightI b l k = true) (hb : Below A.heap.size A B) (hO : ∀ m, O m → m < A.heap.size) (hZ : Z < base)
    (hown : C.ownsRow base 43 2 v' ((rightTo b l k).length + 1) (hdV (rightTo b l k) ++ [Value.int .i64 (loI b l k), Value.int .i64 (hiI b l k)])) (hg : B.grownBy C vr.ownBlock) (hat : v'.ownBlock = vr.ownBlock ∨ v'.ownBlock = some B.heap.size) (i : Nat) (v : Value) :
    Both base b l v' vh (k + 1) O (C.setCell ⟨Z, i, none⟩ v) := by
  obtain ⟨e1, e2⟩ := handTo_yes hr
  have hsz := hb.size
  have kr : C.ownsRow base 3 1 vh (handTo b l k).length ((handTo b l k).map (Value.int .i64)) :=
    owns_keeps (owns_below h.h hb) (grown_keeps (M := fun g => vr.ownBlock = some g) hg fun g hg => hg) (fun g hg hh => h.ne g hh hg)
  refine ⟨?_, ?_, ?_, h.nh, ?_⟩
  · rw [e2, List.length_append, hdV_append]
    exact owns_keeps hown (set_keeps C Z i v) (fun g hg e => by have := (own_lt hown hg).1; omega)
  · rw [e1]
    exact owns_keeps kr (set_keeps C Z i v) (fun g hg e => by have := (own_lt kr hg).1; omega)
  · intro g hg hOg
    rcases hat with h' | h'
    · exact h.nr g (h' ▸ hg) hOg
    · rw [h'] at hg
      cases hg
      have := hO _ hOg
      omega
  · intro g hg hg'
    rcases hat with h' | h'
    · exact h.ne g (h' ▸ hg) hg'
    · rw [h'] at hg
      cases hg
      have := (own_lt h.h hg').2
      omega
end
theorem hds_of_owns {w : World} {base : Nat} {v : Value} {hs : List Hd} (h : w.ownsRow base 43 2 v hs.length (hdV hs)) :
    ∃ p c, v = .slice p hs.length c ∧ HdsAt w p hs := by
  rcases h.2 with ⟨hv, h0⟩ | ⟨g, cap, cur, hv, hg, hh, h1, h2, h3, h4⟩
  · exact ⟨none, 0, by rw [hv, h0], fun i hi => by omega⟩
  · refine ⟨_, cap, hv, fun i hi => ⟨g, 0, rfl, ?_⟩⟩
    have key : ∀ j u, (hdV hs)[j]? = some u → w.cell? ⟨g, 0 + j, none⟩ = some u := by
      intro j u hj
      rw [cell_of_row w g (0 + j) cur 43 (0, 0) hh, Nat.zero_add]
      have hl : j < (hdV hs).length := (List.getElem?_eq_some_iff.1 hj).1
      rw [hdV_length] at hl
      rw [← h4, List.getElem?_take_of_lt (by omega)] at hj
      simpa using hj
    have at2 : ∀ (hs : List Hd) (i : Nat) (hi : i < hs.length), (hdV hs)[i * 2]? = some (.int .i64 hs[i].lo) ∧ (hdV hs)[i * 2 + 1]? = some (.int .i64 hs[i].hi) := by
      intro hs
      induction hs with
      | nil => intro i hi; simp at hi
      | cons x hs ih =>
        intro i hi
        cases i with
        | zero => simp [hdV]
        | succ i =>
          have e : hdV (x :: hs) = .int .i64 x.lo :: .int .i64 x.hi :: hdV hs := by simp [hdV]
          rw [e, show (i + 1) * 2 = i * 2 + 1 + 1 by omega]
          simpa using ih i (by simpa using hi)
    obtain ⟨a1, a2⟩ := at2 hs i hi
    exact ⟨key _ _ a1, by rw [Nat.add_assoc]; exact key _ _ a2⟩
theorem owns_slice {w : World} {base e size n : Nat} {v : Value} {xs : List Value} (h : w.ownsRow base e size v n xs) : ∃ p c, v = .slice p n c := by
  rcases h.2 with ⟨hv, h0⟩ | ⟨g, cap, cur, hv, r⟩
  · exact ⟨none, 0, by rw [hv, h0]⟩
  · exact ⟨_, cap, hv⟩
theorem owns_same {A B : World} {base size n : Nat} {e : TypeId} {v : Value} {xs : List Value} (h : A.ownsRow base e size v n xs) (hs : ∀ (g : Nat) (cur : Array Value), A.heap[g]? = some (Obj.cells cur e (0, 0)) → B.heap[g]? = A.heap[g]?) : B.ownsRow base e size v n xs := by
  refine ⟨h.1, ?_⟩
  rcases h.2 with h' | ⟨g, cap, cur, hv, hb, hg, r⟩
  · exact .inl h'
  · exact .inr ⟨g, cap, cur, hv, hb, by rw [hs g cur hg]; exact hg, r⟩
/-- What becomes of the boxes of a plan is returned. -/
def GaveOut (b : Bf) (q : Option Addr) (cq : Nat) (l : List Int) (w : World) (e : Ending) (w' : World) : Prop :=
  ∃ pr cr ph ch, e = .returned (.agg (outA q l.length cq pr (rightL b l).length cr ph (handL b l).length ch)) ∧ HdsAt w' pr (rightL b l) ∧ IntsAt w' ph (handL b l) ∧ (∀ g o, pr = some ⟨g, o, none⟩ → w.heap.size ≤ g) ∧ (∀ g o, ph = some ⟨g, o, none⟩ → w.heap.size ≤ g) ∧ Below w.heap.size w w'
theorem Tryz.infoSpan : (Tryz.prog.info? 43).map (fun i => (i.zero, i.size, i.bytes)) = some (some (.agg #[.int .i64 0, .int .i64 0]), 2, 16) := by kernel_rfl
end Go.Proofs.YticfcdbfplfmlaaGreat
/- The walks of layer 5: what becomes of a plan. -/
namespace Go.Proofs.YticfcdbfplfmlaaGreat
open Go.RowKit Go.Maps
attribute [local go_sem] Oper.semAt_some

set_option maxRecDepth 10000 in
set_option maxHeartbeats 1600000 in
theorem by_any (b : Bf) (p : Option Addr) (c mb : Nat) (q : Option Addr) (cq : Nat) (l : List Int) (w : World) (hB : BkF w p c mb b) (hl : IntsAt w q l) (hn : l.length < 2 ^ 62) (hp : planB b l = true) :
    Calls Tryz.prog 71 #[.agg (bkA b p c mb), .slice q l.length cq] w (GaveOut b q cq l w) := by
  obtain ⟨i0, hi, hi0, hi1, hi2⟩ := info_parts Tryz.infoInt
  obtain ⟨i9, hj, hj0, hj1, hj2⟩ := info_parts Tryz.infoSpan
  have HB := Lib.hid hB
  have hn8 := HB.out.ok.n8
  have HL := Lib.hid hl
  clear hB hl
  refine calls_marks Tryz.func71 rfl ?_
  simp only [Tryz.ntmps71, List.size_toArray, List.length_cons, List.length_nil, Nat.reduceAdd, Nat.reduceSub, Array.replicate_succ, Array.replicate_zero, List.push_toArray, List.append_toArray, List.nil_append, List.cons_append]
  go_wp2_with fail
  go_step3
  go_wp2_with fail
  go_step3
  go_wp2_with (first | (go_at_call 98; (refine (boxes_any _ _ _ _).mono ?_); rintro e w' ⟨rfl, rfl⟩))
  have hb4 : Below w.heap.size w ((((w.alloc (.cells (bkA b p c mb) 92)).alloc (.cells #[.slice none 0 0, .slice none 0 0, .slice none 0 0] 96)).alloc (.cells #[.slice q l.length cq, .slice none 0 0, .slice none 0 0] 96)).alloc (.cells #[.slice q l.length cq] 29)) := ((below_alloc2 w _ _).alloc (by simp; omega) _).alloc (by simp; omega) _
  have rB := (((Row.new w (bkA b p c mb) 92).alloc (.cells #[.slice none 0 0, .slice none 0 0, .slice none 0 0] 96)).alloc (.cells #[.slice q l.length cq, .slice none 0 0, .slice none 0 0] 96)).alloc (.cells #[.slice q l.length cq] 29)
  have rD := ((Row.new1 w (.cells (bkA b p c mb) 92) #[.slice none 0 0, .slice none 0 0, .slice none 0 0] 96).alloc (.cells #[.slice q l.length cq, .slice none 0 0, .slice none 0 0] 96)).alloc (.cells #[.slice q l.length cq] 29)
  have rE := (Row.new2 w (.cells (bkA b p c mb) 92) (.cells #[.slice none 0 0, .slice none 0 0, .slice none 0 0] 96) #[.slice q l.length cq, .slice none 0 0, .slice none 0 0] 96).alloc (.cells #[.slice q l.length cq] 29)
  have rN := Row.new' (w := (((w.alloc (.cells (bkA b p c mb) 92)).alloc (.cells #[.slice none 0 0, .slice none 0 0, .slice none 0 0] 96)).alloc (.cells #[.slice q l.length cq, .slice none 0 0, .slice none 0 0] 96))) (n := w.heap.size + 1 + 1 + 1) (by simp) #[.slice q l.length cq] 29
  have hs4 : ((((w.alloc (.cells (bkA b p c mb) 92)).alloc (.cells #[.slice none 0 0, .slice none 0 0, .slice none 0 0] 96)).alloc (.cells #[.slice q l.length cq, .slice none 0 0, .slice none 0 0] 96)).alloc (.cells #[.slice q l.length cq] 29)).heap.size = w.heap.size + 4 := by simp
  change Code.wp _ _ _ _ ((((w.alloc (.cells (bkA b p c mb) 92)).alloc (.cells #[.slice none 0 0, .slice none 0 0, .slice none 0 0] 96)).alloc (.cells #[.slice q l.length cq, .slice none 0 0, .slice none 0 0] 96)).alloc (.cells #[.slice q l.length cq] 29))
  generalize ((((w.alloc (.cells (bkA b p c mb) 92)).alloc (.cells #[.slice none 0 0, .slice none 0 0, .slice none 0 0] 96)).alloc (.cells #[.slice q l.length cq, .slice none 0 0, .slice none 0 0] 96)).alloc (.cells #[.slice q l.length cq] 29)) = w4 at *
  have HB4 := Lib.hid hb4
  have RB := Lib.hid rB
  have RD := Lib.hid rD
  have HPL := Lib.hid hp
  have HL4 := Lib.hid (HL.out.below hb4)
  have hqlt : ∀ m o, 0 < l.length → q = some ⟨m, o, none⟩ → m < w.heap.size := fun m o h0 e => by
    obtain ⟨b', o', e', hc⟩ := HL.out 0 h0
    rw [e] at e'
    cases e'
    exact cell_block hc
  have hpt : planTo b l l.length = true := (Bool.and_eq_true _ _ ▸ (show (planTo b l l.length && decide (bgn l l.length = b.hs.length)) = true from hp)).1
  have HPT := Lib.hid hpt
  clear hb4 rB rD hp hpt
  refine range_lawP 111 #[.pointer (some ⟨w.heap.size + 1 + 1 + 1, 0, none⟩)] (fun m => m = w.heap.size + 1 + 1 + 1 ∨ (0 < l.length ∧ ∃ o, q = some ⟨m, o, none⟩)) l.length (fun k x O A => x = #[.int .i64 k, .agg #[.int .i64 (bgn l k), .int .i64 (at0 l k)]]) rfl (fun args w => Tryz.call111 args w)
    (fun W1 hb _ => boxes_iterP q cq l _ hn W1 (rN.below hb rN.lt) (HL4.out.below hb)) (fun k x O A h => by rw [h]; rfl) (fun m => m = w.heap.size + 1 + 1)
    (by
      rintro m rfl
      refine ⟨by omega, ?_⟩
      rintro (h | ⟨h0, o, e⟩)
      · omega
      · have := hqlt _ o h0 e
        omega)
    (by
      rintro (h | ⟨h0, o, e⟩)
      · omega
      · have := hqlt _ o h0 e
        omega)
    (fun k O A => ¬ O (w.heap.size + 1 + 1) ∧ ∃ vr vh, Row A (w.heap.size + 1 + 1) #[.slice q l.length cq, vr, vh] 96 ∧ Both w4.heap.size b l vr vh k O A)
    (fun _ _ _ => False)
    (fun k O O' A B h hb _ hO => by
      obtain ⟨h1, vr, vh, h2, h3⟩ := h
      exact ⟨fun x => (hO _ x).elim h1 (fun y => by have := h2.lt; omega), vr, vh, h2.keeps hb h1, h3.keeps hb hO⟩)
    (fun _ _ _ _ _ h _ _ _ => h)
    ⟨fun h => h.elim, _, _, rE, ⟨⟨rfl, .inl ⟨rfl, rfl⟩⟩, ⟨rfl, .inl ⟨rfl, rfl⟩⟩, fun g hg => (by cases hg), fun g hg => (by cases hg), fun g hg => (by cases hg)⟩⟩ ?body ?done ?stop
  case body =>
    rintro li k x O O' A rfl hk hx hOO hO hOw hOl ⟨hn1, vr, vh, hE, hbo⟩ hkeep hlA
    obtain ⟨pr, cr, rfl⟩ := owns_slice hbo.r
    obtain ⟨ph, ch, rfl⟩ := owns_slice hbo.h
    obtain ⟨vr, hvr⟩ : ∃ v, v = Value.slice pr (rightTo b l k).length cr := ⟨_, rfl⟩
    obtain ⟨vh, hvh⟩ : ∃ v, v = Value.slice ph (handTo b l k).length ch := ⟨_, rfl⟩
    rw [← hvr, ← hvh] at hE hbo
    have HVR := Lib.hid hvr
    have HVH := Lib.hid hvh
    clear hvr hvh
    obtain rfl := hx
    have RBA := Lib.hid (RB.out.keeps hkeep (by omega))
    have HK := Lib.hid hkeep
    have HEE := Lib.hid hE
    have HBO := Lib.hid hbo
    have hszA := hE.lt
    have hbx : boxB b (bgn l k) (at0 l k) = true := planTo_all HPT.out hk
    have HBX := Lib.hid hbx
    have hnum := plan_nums (b := b) (l := l) (k := k) (by unfold planTo; rw [List.all_eq_true]; intro i hi; exact planTo_all HPT.out (by have := List.mem_range.1 hi; omega)) (by omega)
    have hnum2 := plan_nums (b := b) (l := l) (k := k + 1) (by unfold planTo; rw [List.all_eq_true]; intro i hi; exact planTo_all HPT.out (by have := List.mem_range.1 hi; omega)) (by omega)
    rw [bgn_succ] at hnum2
    clear hkeep hE hbo hbx
    gi_wp2_with fail
    refine ⟨(KeepsBut.refl _ _).alloc _, fun oo => ?_⟩
    have hk2 : KeepsBut (fun m => m = w4.heap.size + 1) A ((A.alloc (.cells #[.int .i64 (bgn l k), .int .i64 (at0 l k)] 127)).putObj (w4.heap.size + 1) oo) := ((KeepsBut.refl (fun m => m = w4.heap.size + 1) A).alloc (.cells #[.int .i64 (bgn l k), .int .i64 (at0 l k)] 127)).putObj (l := w4.heap.size + 1) (.inl rfl) oo
    have hk5 := (HK.out.alloc (.cells #[.int .i64 (bgn l k), .int .i64 (at0 l k)] 127)).putObj (l := w4.heap.size + 1) (.inr (by omega)) oo
    have RS := Lib.hid ((Row.new A #[.int .i64 (bgn l k), .int .i64 (at0 l k)] 127).keeps ((KeepsBut.refl (fun m => m = w4.heap.size + 1) _).putObj (l := w4.heap.size + 1) (.inl rfl) oo) (by omega))
    have RB2 := Lib.hid (RBA.out.keeps hk2 (by omega))
    have RE2 := Lib.hid (HEE.out.keeps hk2 (by omega))
    have HB2 := Lib.hid (HB.out.below (below_keep HB4.out hk5 (by omega) (fun m hm => by omega)))
    have HBO2 := Lib.hid (show Both w4.heap.size b l vr vh k O ((A.alloc (.cells #[.int .i64 (bgn l k), .int .i64 (at0 l k)] 127)).putObj (w4.heap.size + 1) oo) from
      ⟨owns_keeps HBO.out.r hk2 (fun g hg e => HBO.out.nr g hg (e ▸ hOl)), owns_keeps HBO.out.h hk2 (fun g hg e => HBO.out.nh g hg (e ▸ hOl)), HBO.out.nr, HBO.out.nh, HBO.out.ne⟩)
    have hszB : A.heap.size < ((A.alloc (.cells #[.int .i64 (bgn l k), .int .i64 (at0 l k)] 127)).putObj (w4.heap.size + 1) oo).heap.size := RS.out.lt
    change Code.wpIn _ _ _ _ _ _ ((A.alloc (.cells #[.int .i64 (bgn l k), .int .i64 (at0 l k)] 127)).putObj (w4.heap.size + 1) oo)
    generalize (A.alloc (.cells #[.int .i64 (bgn l k), .int .i64 (at0 l k)] 127)).putObj (w4.heap.size + 1) oo = A2 at *
    obtain ⟨lo, hi, hlk, hlv, _⟩ := HB2.out.s.look1 (x := bgn l k) (y := at0 l k) (I64_of (by omega) (by omega)) (I64_of (by omega) (by omega))
    obtain ⟨e1, e2⟩ := hlv HBX.out
    subst e1
    subst e2
    have HLK := Lib.hid hlk
    have b0 := RB2.out.cell 0 (v := .int .i64 b.pr) rfl
    have b1 := RB2.out.cell 1 (v := .int .i64 b.le) rfl
    have b2 := RB2.out.cell 2 (v := .int .i64 b.mo) rfl
    have b3 := RB2.out.cell 3 (v := .int .i64 b.gr) rfl
    have b4 := RB2.out.cell 4 (v := .slice p b.hs.length c) rfl
    have b5 := RB2.out.cell 5 (v := .map (some mb)) rfl
    have s0 := RS.out.cell 0 (v := .int .i64 (bgn l k)) rfl
    have s1 := RS.out.cell 1 (v := .int .i64 (at0 l k)) rfl
    clear hk2 hk5 RBA HK HEE hlk hlv HBO
    gi_wp2_with (first | (refine lookup_opIn rfl 90 _ _ _ rfl mb _ rfl rfl _ HLK.out ?_))
    have RSP := Lib.hid (Row.new A2 #[.int .i64 (loF b (bgn l k) (at0 l k)), .int .i64 (hiF b (bgn l k) (at0 l k))] 43)
    have RE3 := Lib.hid (RE2.out.alloc (.cells #[.int .i64 (loF b (bgn l k) (at0 l k)), .int .i64 (hiF b (bgn l k) (at0 l k))] 43))
    have HB3 := Lib.hid (HB2.out.below (below_alloc A2 (.cells #[.int .i64 (loF b (bgn l k) (at0 l k)), .int .i64 (hiF b (bgn l k) (at0 l k))] 43)))
    have hkA : KeepsBut (fun _ => False) A2 (A2.alloc (.cells #[.int .i64 (loF b (bgn l k) (at0 l k)), .int .i64 (hiF b (bgn l k) (at0 l k))] 43)) := KeepsBut.of_below (below_alloc A2 (.cells #[.int .i64 (loF b (bgn l k) (at0 l k)), .int .i64 (hiF b (bgn l k) (at0 l k))] 43))
    have HBO3 := Lib.hid (show Both w4.heap.size b l vr vh k O (A2.alloc (.cells #[.int .i64 (loF b (bgn l k) (at0 l k)), .int .i64 (hiF b (bgn l k) (at0 l k))] 43)) from
      ⟨owns_keeps HBO2.out.r hkA (fun _ _ h => h), owns_keeps HBO2.out.h hkA (fun _ _ h => h), HBO2.out.nr, HBO2.out.nh, HBO2.out.ne⟩)
    have HKA := Lib.hid (KeepsBut.of_below (M := fun m => m = w.heap.size + 1 + 1 ∨ (w4.heap.size ≤ m ∧ ¬ O m)) (below_alloc A2 (.cells #[.int .i64 (loF b (bgn l k) (at0 l k)), .int .i64 (hiF b (bgn l k) (at0 l k))] 43)))
    obtain ⟨fw, hfw⟩ : ∃ x, fewB b (loF b (bgn l k) (at0 l k)) = x := ⟨_, rfl⟩
    obtain ⟨mn, hmn⟩ : ∃ x, manyB b (hiF b (bgn l k) (at0 l k)) = x := ⟨_, rfl⟩
    have HFW := Lib.hid (fun w' => (by have h := few_any b HB2.out.ok p c mb (loF b (bgn l k) (at0 l k)) (hiF b (bgn l k) (at0 l k)) w'; rw [hfw] at h; exact h : Calls Tryz.prog 99 #[.agg (bkA b p c mb), .agg #[.int .i64 (loF b (bgn l k) (at0 l k)), .int .i64 (hiF b (bgn l k) (at0 l k))]] w' fun e w'' => e = .returned (.bool fw) ∧ Below w'.heap.size w' w''))
    have HMN := Lib.hid (fun w' => (by have h := many_any b HB2.out.ok p c mb (loF b (bgn l k) (at0 l k)) (hiF b (bgn l k) (at0 l k)) w'; rw [hmn] at h; exact h : Calls Tryz.prog 100 #[.agg (bkA b p c mb), .agg #[.int .i64 (loF b (bgn l k) (at0 l k)), .int .i64 (hiF b (bgn l k) (at0 l k))]] w' fun e w'' => e = .returned (.bool mn) ∧ Below w'.heap.size w' w''))
    have HRT := Lib.hid (show rightI b l k = (!fw && !mn) by
      unfold rightI kindS
      rw [show loI b l k = loF b (bgn l k) (at0 l k) from rfl, show hiI b l k = hiF b (bgn l k) (at0 l k) from rfl, hfw, hmn]
      cases fw <;> cases mn <;> rfl)
    clear b0 b1 b2 b3 b4 b5 s0 s1 hkA hfw hmn HBO2 RE2 RS RB2
    change Code.wpIn _ _ _ _ _ _ (A2.alloc (.cells #[.int .i64 (loF b (bgn l k) (at0 l k)), .int .i64 (hiF b (bgn l k) (at0 l k))] 43))
    have hzA3 : A2.heap.size < (A2.alloc (.cells #[.int .i64 (loF b (bgn l k) (at0 l k)), .int .i64 (hiF b (bgn l k) (at0 l k))] 43)).heap.size := RSP.out.lt
    generalize A2.alloc (.cells #[.int .i64 (loF b (bgn l k) (at0 l k)), .int .i64 (hiF b (bgn l k) (at0 l k))] 43) = A3 at *
    gi_loopw [26] (fun i wr => (i = .int .i64 0 ∨ (i = .int .i64 1 ∧ fw = false) ∨ (i = .int .i64 2 ∧ fw = false ∧ mn = false)) ∧ From A3 wr) (fun i _ => 2 - (intOf i).toNat)
    case atStart => exact ⟨.inl rfl, From.refl A3⟩
    case round =>
      obtain ⟨hi3, hq⟩ := hrel
      have KQ := Lib.hid hq
      have t0 := (hq.row RSP.out).cell 0 (v := .int .i64 (loF b (bgn l k) (at0 l k))) rfl
      have t1 := (hq.row RSP.out).cell 1 (v := .int .i64 (hiF b (bgn l k) (at0 l k))) rfl
      clear hq
      rcases hi3 with rfl | ⟨rfl, hf⟩ | ⟨rfl, hf, hm⟩
      · gi_wp2_with (first | (refine index_opIn rfl 197 _ _ rfl _ _ rfl rfl _ (idx0 _ _ _) ?_))
        refine inRound_of (HFW.out _) ?_
        rintro e B ⟨rfl, hbu⟩
        have KQ := Lib.hid (KQ.out.below hbu)
        clear hbu t0 t1
        cases fw
        · gi_wp2_with fail
          go_roundw
          case rel => exact ⟨.inr (.inl ⟨rfl, by trivial⟩), KQ.out⟩
          case measure => simp [intOf]
        · have RO := Lib.hid (KQ.out.row RE3.out)
          have HHO := Lib.hid ((owns_below HBO3.out.h KQ.out.b).alloc (.cells #[.int .i64 (k : Int)] 3))
          have hcn := count_to b l k
          have c2 := RO.out.cell 2 (v := vh) rfl
          rw [HVH.out] at c2
          have hzB := KQ.out.b.size
          gi_wp2_with (first
            | ((refine wpListIn_append_own_at _ rfl _ _ 29 rfl w4.heap.size 3 i0 (.int .i64 0) 1 8 Tryz.underlying29 hi hi0 hi1 hi2 rfl (by decide) vh _ _ HVH.out.symm HHO.out ⟨B.heap.size, 0, none⟩ 1 1 [.int .i64 (k : Int)] rfl rfl (cell_one_new _ _ _) (by simp [Value.oneCell']) (by unfold maxLen; omega) (by omega) (by simp; omega) ?_); intro v' w2 hown' hgrow _ hat; obtain ⟨p', c', hv'⟩ := owns_slice hown'; subst hv'; have HO2 := Lib.hid hown'; have HG := Lib.hid hgrow; have HAT := Lib.hid hat; have RO2 := Lib.hid ((RO.out.alloc (.cells #[.int .i64 (k : Int)] 3)).grown hgrow (fun e => by have := (own_lt HBO3.out.h e.symm).1; omega)); have d2 := RO2.out.cell 2 (v := vh) rfl; rw [HVH.out] at d2; have f2 := RO2.out.free 2; clear hown' hgrow hat c2))
          have hr : rightI b l k = false := by rw [HRT.out]; simp
          refine ⟨(((HKA.out.after KQ.out.b).alloc _).trans (grown_keeps HG.out (fun g hg => .inr ⟨(own_lt HBO3.out.h hg).1, HBO3.out.nh g hg⟩))).setCell (.inl (.inl rfl)) _, hn1, vr, _, RO2.out.set 2 _, HBO3.out.hand hr (KQ.out.b.alloc KQ.out.b.size _) (fun m hm => by have := (hOw m hm).2; omega) (by omega) HO2.out HG.out HAT.out 2 _⟩
      · subst hf
        gi_wp2_with (first | (refine index_opIn rfl 197 _ _ rfl _ _ rfl rfl _ (idx1 _ _ _) ?_))
        refine inRound_of (HMN.out _) ?_
        rintro e B ⟨rfl, hbu⟩
        have KQ := Lib.hid (KQ.out.below hbu)
        clear hbu t0 t1
        cases mn
        · gi_wp2_with fail
          go_roundw
          case rel => exact ⟨.inr (.inr ⟨rfl, by trivial, by trivial⟩), KQ.out⟩
          case measure => simp [intOf]
        · have RO := Lib.hid (KQ.out.row RE3.out)
          have HHO := Lib.hid ((owns_below HBO3.out.h KQ.out.b).alloc (.cells #[.int .i64 (k : Int)] 3))
          have hcn := count_to b l k
          have c2 := RO.out.cell 2 (v := vh) rfl
          rw [HVH.out] at c2
          have hzB := KQ.out.b.size
          gi_wp2_with (first
            | ((refine wpListIn_append_own_at _ rfl _ _ 29 rfl w4.heap.size 3 i0 (.int .i64 0) 1 8 Tryz.underlying29 hi hi0 hi1 hi2 rfl (by decide) vh _ _ HVH.out.symm HHO.out ⟨B.heap.size, 0, none⟩ 1 1 [.int .i64 (k : Int)] rfl rfl (cell_one_new _ _ _) (by simp [Value.oneCell']) (by unfold maxLen; omega) (by omega) (by simp; omega) ?_); intro v' w2 hown' hgrow _ hat; obtain ⟨p', c', hv'⟩ := owns_slice hown'; subst hv'; have HO2 := Lib.hid hown'; have HG := Lib.hid hgrow; have HAT := Lib.hid hat; have RO2 := Lib.hid ((RO.out.alloc (.cells #[.int .i64 (k : Int)] 3)).grown hgrow (fun e => by have := (own_lt HBO3.out.h e.symm).1; omega)); have d2 := RO2.out.cell 2 (v := vh) rfl; rw [HVH.out] at d2; have f2 := RO2.out.free 2; clear hown' hgrow hat c2))
          have hr : rightI b l k = false := by rw [HRT.out]; simp
          refine ⟨(((HKA.out.after KQ.out.b).alloc _).trans (grown_keeps HG.out (fun g hg => .inr ⟨(own_lt HBO3.out.h hg).1, HBO3.out.nh g hg⟩))).setCell (.inl (.inl rfl)) _, hn1, vr, _, RO2.out.set 2 _, HBO3.out.hand hr (KQ.out.b.alloc KQ.out.b.size _) (fun m hm => by have := (hOw m hm).2; omega) (by omega) HO2.out HG.out HAT.out 2 _⟩
      · subst hf
        subst hm
        have RO := Lib.hid (KQ.out.row RE3.out)
        have HHO := Lib.hid ((owns_below HBO3.out.r KQ.out.b).alloc (.cells #[.int .i64 (loF b (bgn l k) (at0 l k)), .int .i64 (hiF b (bgn l k) (at0 l k))] 43))
        have hcn := count_to b l k
        have c1 := RO.out.cell 1 (v := vr) rfl
        rw [HVR.out] at c1
        have hzB := KQ.out.b.size
        gi_wp2_with (first
          | ((refine wpListIn_append_own_at _ rfl _ _ 26 rfl w4.heap.size 43 i9 _ 2 16 Tryz.underlying26 hj hj0 hj1 hj2 rfl (by decide) vr _ _ HVR.out.symm HHO.out ⟨wr.heap.size, 0, none⟩ 1 1 [.int .i64 (loF b (bgn l k) (at0 l k)), .int .i64 (hiF b (bgn l k) (at0 l k))] rfl rfl (fun q u hq => by rw [Addr.add_lit, Nat.zero_add]; exact (Row.new wr #[.int .i64 (loF b (bgn l k) (at0 l k)), .int .i64 (hiF b (bgn l k) (at0 l k))] 43).cell q (by simpa using hq)) (by simp [Value.oneCell']) (by unfold maxLen; omega) (by omega) (by simp; omega) ?_); intro v' w2 hown' hgrow _ hat; obtain ⟨p', c', hv'⟩ := owns_slice hown'; subst hv'; have HO2 := Lib.hid hown'; have HG := Lib.hid hgrow; have HAT := Lib.hid hat; have RO2 := Lib.hid ((RO.out.alloc (.cells #[.int .i64 (loF b (bgn l k) (at0 l k)), .int .i64 (hiF b (bgn l k) (at0 l k))] 43)).grown hgrow (fun e => by have := (own_lt HBO3.out.r e.symm).1; omega)); have d1 := RO2.out.cell 1 (v := vr) rfl; rw [HVR.out] at d1; have f1 := RO2.out.free 1; clear hown' hgrow hat c1))
        have hr : rightI b l k = true := by rw [HRT.out]; simp
        exact ⟨(((HKA.out.after KQ.out.b).alloc _).trans (grown_keeps HG.out (fun g hg => .inr ⟨(own_lt HBO3.out.r hg).1, HBO3.out.nr g hg⟩))).setCell (.inl (.inl rfl)) _, hn1, _, vh, RO2.out.set 1 _, HBO3.out.right hr (KQ.out.b.alloc KQ.out.b.size _) (fun m hm => by have := (hOw m hm).2; omega) (by omega) HO2.out HG.out HAT.out 1 _⟩
  case done =>
    rintro O B ⟨hn1, vr, vh, hE, hbo⟩ hO hkeep hsz hDef
    obtain ⟨pr, cr, hvr⟩ := owns_slice hbo.r
    obtain ⟨ph, ch, hvh⟩ := owns_slice hbo.h
    subst hvr
    subst hvh
    have RBB := Lib.hid (RD.out.keeps hkeep (by omega))
    have HKE := Lib.hid hkeep
    have HDF := Lib.hid hDef
    have HEE := Lib.hid hE
    have HBO := Lib.hid hbo
    have e0 := hE.cell 0 (v := .slice q l.length cq) rfl
    have e1 := hE.cell 1 (v := .slice pr (rightTo b l l.length).length cr) rfl
    have e2 := hE.cell 2 (v := .slice ph (handTo b l l.length).length ch) rfl
    have d0 := RBB.out.cell 0 (v := .slice none 0 0) rfl
    have d1 := RBB.out.cell 1 (v := .slice none 0 0) rfl
    have d2 := RBB.out.cell 2 (v := .slice none 0 0) rfl
    have f0 := RBB.out.free 0
    have f1 := RBB.out.free 1
    have f2 := RBB.out.free 2
    have hzB := hE.lt
    clear hkeep hDef hE hbo
    go_wp2
    have q0 := ((RBB.out.set 0 (.slice q l.length cq)).set 1 (.slice pr (rightTo b l l.length).length cr)).set 2 (.slice ph (handTo b l l.length).length ch)
    have q0 : Row (((B.setCell ⟨w.heap.size + 1, 0, none⟩ (.slice q l.length cq)).setCell ⟨w.heap.size + 1, 1, none⟩ (.slice pr (rightTo b l l.length).length cr)).setCell ⟨w.heap.size + 1, 2, none⟩ (.slice ph (handTo b l l.length).length ch)) (w.heap.size + 1) (outA q l.length cq pr (rightL b l).length cr ph (handL b l).length ch) 96 := q0
    have k0 : KeepsBut (fun m => m = w.heap.size + 1) B (((B.setCell ⟨w.heap.size + 1, 0, none⟩ (.slice q l.length cq)).setCell ⟨w.heap.size + 1, 1, none⟩ (.slice pr (rightTo b l l.length).length cr)).setCell ⟨w.heap.size + 1, 2, none⟩ (.slice ph (handTo b l l.length).length ch)) :=
      (set_keeps _ _ _ _).trans ((set_keeps _ _ _ _).trans (set_keeps _ _ _ _))
    generalize (((B.setCell ⟨w.heap.size + 1, 0, none⟩ (.slice q l.length cq)).setCell ⟨w.heap.size + 1, 1, none⟩ (.slice pr (rightTo b l l.length).length cr)).setCell ⟨w.heap.size + 1, 2, none⟩ (.slice ph (handTo b l l.length).length ch)) = B1 at *
    have hDC := (k0.block w4.heap.size (by omega) (by omega)).trans HDF.out
    have hzk := k0.size
    have hmk : Marks w.heap.size [{ target := .collected w4.heap.size, args := #[] }] B1 := ⟨⟨_, rfl, by omega, hDC, by simp⟩, trivial⟩
    refine marks_leave hmk (fun B2 hB2 => ?_)
    have hrest : ∀ g cur e, B1.heap[g]? = some (Obj.cells cur e (0, 0)) → B2.heap[g]? = B1.heap[g]? := fun g cur e h => hB2.rest _ (fun o h' => by rw [h] at h'; cases h')
    have q1 : Row B2 (w.heap.size + 1) (outA q l.length cq pr (rightL b l).length cr ph (handL b l).length ch) 96 := by
      have := q0
      unfold Row at this ⊢
      rw [hrest _ _ _ this]
      exact this
    have hr2 := owns_same (owns_keeps HBO.out.r k0 (fun g hg e => by have := (own_lt HBO.out.r hg).1; omega)) (fun g cur h => hrest g cur _ h)
    have hh2 := owns_same (owns_keeps HBO.out.h k0 (fun g hg e => by have := (own_lt HBO.out.h hg).1; omega)) (fun g cur h => hrest g cur _ h)
    obtain ⟨p1, c1, h1, hds⟩ := hds_of_owns (hs := rightTo b l l.length) hr2
    obtain ⟨p2, c2, h2, hin, _⟩ := ints_of_owns (xs := handTo b l l.length) hh2
    cases h1
    cases h2
    refine ⟨_, results_cell_row Tryz.results71 _ _ _ _ (outA q l.length cq pr (rightL b l).length cr ph (handL b l).length ch) _ _ rfl q1 Tryz.underlying96 rfl (by kernel_rfl), ?_⟩
    exact ⟨_, _, _, _, rfl, hds, hin, fun g o e => by have := (own_lt hr2 (g := g) (by rw [e]; rfl)).1; omega, fun g o e => by have := (own_lt hh2 (g := g) (by rw [e]; rfl)).1; omega, (below_keep (below_keep HB4.out HKE.out (by omega) (fun m hm => by omega)) k0 (by omega) (fun m hm => by omega)).trans hB2.below⟩
  case stop =>
    intro cc O B h
    exact h.elim
end Go.Proofs.YticfcdbfplfmlaaGreat
/- The walks of layer 5: what is left, compared; plans, piece by piece. -/
namespace Go.Proofs.YticfcdbfplfmlaaGreat
open Go.RowKit Go.Maps
attribute [local go_sem] Oper.semAt_some

def boolsA (l : List Bool) : Array Value := (l.map Value.bool).toArray
theorem all_range_bools : ∀ (xs ys : List Bool), xs.length = ys.length → ((List.range xs.length).all fun i => xs.getD i false == ys.getD i false) = (xs == ys)
  | [], [], _ => rfl
  | x :: xs, y :: ys, h => by
    have ih := all_range_bools xs ys (by simpa using h)
    rw [List.length_cons, List.range_succ_eq_map, List.all_cons, List.all_map]
    simp only [List.getD_cons_zero, Function.comp_def, List.getD_cons_succ, ih, List.cons_beq_cons]
  | [], _ :: _, h => by simp at h
  | _ :: _, [], h => by simp at h
/-- Two arrays of bools, compared. -/
theorem eq_bools {P : Program} (d : Nat) (t e : TypeId) (n : Nat) (ht : P.underlying t = some (.array n e)) (he : P.underlying e = some .bool) (hsz : ∀ w, (sizeOf e).run P w = .ok 1 w)
    (xs ys : List Bool) (hx : xs.length = n) (hy : ys.length = n) (w : World) :
    (Op.equalIn (d + 2) t (.agg (boolsA xs)) (.agg (boolsA ys))).run P w = .ok (xs == ys) w := by
  rw [← all_range_bools xs ys (hx.trans hy.symm), hx, List.range_eq_range', Op.equalIn]
  simp only [Sem.run_bind, run_underlying ht, Result.andThen_ok, hsz, Std.Legacy.Range.forIn_eq_forIn_range', Std.Legacy.Range.size, Nat.sub_zero, Nat.add_sub_cancel, Nat.div_one]
  have hl : ∀ i ∈ List.range' 0 n 1, i < n := fun i hi => by simpa using (List.mem_range'_1.1 hi).2
  generalize List.range' 0 n 1 = l at hl ⊢
  induction l with
  | nil => simp
  | cons i l ih =>
    have hi : i < n := hl i (by simp)
    have px : (part e (boolsA xs) (i * 1)).run P w = .ok (.bool (xs.getD i false)) w := by
      simp [part, isAgg, run_underlying he, boolsA, List.getD, List.getElem?_eq_getElem (show i < xs.length by omega)]
    have py : (part e (boolsA ys) (i * 1)).run P w = .ok (.bool (ys.getD i false)) w := by
      simp [part, isAgg, run_underlying he, boolsA, List.getD, List.getElem?_eq_getElem (show i < ys.length by omega)]
    have pe : (Op.equalIn (d + 1) e (.bool (xs.getD i false)) (.bool (ys.getD i false))).run P w = .ok (xs.getD i false == ys.getD i false) w := run_equalIn_bool w d e _ _ he
    simp only [List.forIn_cons, Sem.run_bind, px, py, pe, Result.andThen_ok, List.all_cons]
    cases hb : (xs.getD i false == ys.getD i false)
    · simp
    · simp only [Bool.not_true, Bool.false_eq_true, if_false, Sem.run_pure, Result.andThen_ok, Bool.true_and]
      exact ih fun j hj => hl j (by simp [hj])
/-- The handfuls from one on are left. -/
def leftR (x n : Nat) : Array Value := leftF (fun i => decide (x ≤ i ∧ i < n))
theorem leftR_all (n : Nat) : leftF (fun i => decide (i < n)) = leftR 0 n := leftF_congr fun i _ => by simp
theorem leftR_set {x n : Nat} (hx : x < 8) : (leftR x n).setIfInBounds x (.bool false) = leftR (x + 1) n := by
  unfold leftR
  rw [leftF_set _ hx]
  refine leftF_congr fun i _ => ?_
  by_cases h : i = x
  · subst h; simp; omega
  · simp only [if_neg h]
    exact decide_eq_decide.2 (by omega)
theorem leftR_bools (x n : Nat) : leftR x n = boolsA [decide (x ≤ 0 ∧ 0 < n), decide (x ≤ 1 ∧ 1 < n), decide (x ≤ 2 ∧ 2 < n), decide (x ≤ 3 ∧ 3 < n), decide (x ≤ 4 ∧ 4 < n), decide (x ≤ 5 ∧ 5 < n), decide (x ≤ 6 ∧ 6 < n), decide (x ≤ 7 ∧ 7 < n)] := rfl
theorem eq_left (x n : Nat) (hn : n ≤ 8) (w : World) : (binOp .eql 188 (.agg (leftR x n)) (.agg #[.bool false, .bool false, .bool false, .bool false, .bool false, .bool false, .bool false, .bool false])).run Tryz.prog w = .ok (.bool (decide (n ≤ x))) w := by
  rw [run_eql_struct, leftR_bools, show (#[.bool false, .bool false, .bool false, .bool false, .bool false, .bool false, .bool false, .bool false] : Array Value) = boolsA [false, false, false, false, false, false, false, false] from rfl,
    eq_bools 9998 188 4 8 (by kernel_rfl) (by kernel_rfl) (fun w => by simp [go_sem]) _ _ rfl rfl]
  have e : ([decide (x ≤ 0 ∧ 0 < n), decide (x ≤ 1 ∧ 1 < n), decide (x ≤ 2 ∧ 2 < n), decide (x ≤ 3 ∧ 3 < n), decide (x ≤ 4 ∧ 4 < n), decide (x ≤ 5 ∧ 5 < n), decide (x ≤ 6 ∧ 6 < n), decide (x ≤ 7 ∧ 7 < n)] == [false, false, false, false, false, false, false, false]) = decide (n ≤ x) := by
    rw [Bool.eq_iff_iff]
    simp
    omega
  rw [e]
  rfl
theorem flat_none {α β : Type} (f : α → List β) : ∀ (l : List α), (∀ a ∈ l, f a = []) → l.flatMap f = []
  | [], _ => rfl
  | a :: l, h => by
    rw [List.flatMap_cons, h a (by simp), flat_none f l fun b hb => h b (by simp [hb]), List.nil_append]
/-- No box ends behind the last handful. -/
theorem plansTo_stop {gr n x j : Nat} (hx : x < n) (hj : j ≤ gr) (h : j = gr ∨ n ≤ x + j) : plansTo gr n x j = plansL gr n x := by
  rw [← plansTo_all hx]
  obtain ⟨d, rfl⟩ : ∃ d, gr = j + d := ⟨gr - j, by omega⟩
  unfold plansTo
  rw [show List.range (j + d) = List.range j ++ (List.range d).map (j + ·) from List.range_add, List.flatMap_append]
  rw [flat_none _ ((List.range d).map (j + ·)) fun a ha => ?_, List.append_nil]
  obtain ⟨i, hi, rfl⟩ := List.mem_map.1 ha
  have := List.mem_range.1 hi
  rw [if_neg (by omega)]
theorem plansTo_split (gr n x : Nat) {k m : Nat} (h : k ≤ m) : ∃ rest, plansTo gr n x m = plansTo gr n x k ++ rest := by
  obtain ⟨d, rfl⟩ : ∃ d, m = k + d := ⟨m - k, by omega⟩
  clear h
  induction d with
  | zero => exact ⟨[], by simp⟩
  | succ d ih =>
    obtain ⟨r, hr⟩ := ih
    exact ⟨_, by rw [← Nat.add_assoc, plansTo_succ, hr, List.append_assoc]⟩
/-- The plans whose next box ends behind one more handful, among all. -/
theorem plans_split {gr n x k : Nat} (hx : x < n) (hk : k + 1 ≤ gr) (hn : x + k + 1 ≤ n) (pl : List Int) (before after all : List (List Int)) (h : all = before ++ (plansL gr n x).map (pl ++ ·) ++ after) :
    ∃ after', all = (before ++ (plansTo gr n x k).map (pl ++ ·)) ++ (plansL gr n (x + k + 1)).map ((pl ++ [((x + k + 1 : Nat) : Int)]) ++ ·) ++ after' := by
  obtain ⟨r, hr⟩ := plansTo_split gr n x hk
  rw [plansTo_all hx, plansTo_succ, if_pos hn] at hr
  refine ⟨r.map (pl ++ ·) ++ after, ?_⟩
  rw [h, hr]
  simp [Function.comp_def]
theorem plansTo_len {gr n x k : Nat} (hn : x + k + 1 ≤ n) : (plansTo gr n x (k + 1)).length = (plansTo gr n x k).length + (plansL gr n (x + k + 1)).length := by
  rw [plansTo_succ, if_pos hn]
  simp
end Go.Proofs.YticfcdbfplfmlaaGreat
/- The walks of layer 5: the plans, produced one by one. -/
namespace Go.Proofs.YticfcdbfplfmlaaGreat
open Go.RowKit Go.Maps
attribute [local go_sem] Oper.semAt_some

/-- What the closure that cuts has caught. -/
structure Caps (cy cb cc li : Nat) (b : Bf) (p : Option Addr) (c mb : Nat) (A : World) : Prop where
  y : Row A cy #[.func (.yield li) #[] #[]] 155
  k : Row A cb (bkA b p c mb) 92
  f : Row A cc #[.func (.func 94) #[] #[.pointer (some ⟨cy, 0, none⟩), .pointer (some ⟨cb, 0, none⟩), .pointer (some ⟨cc, 0, none⟩)]] 186
theorem Caps.keeps {cy cb cc li : Nat} {b : Bf} {p : Option Addr} {c mb : Nat} {A B : World} {N : Nat → Prop} (h : Caps cy cb cc li b p c mb A) (k : KeepsBut N A B) (h1 : ¬ N cy) (h2 : ¬ N cb) (h3 : ¬ N cc) : Caps cy cb cc li b p c mb B := ⟨h.y.keeps k h1, h.k.keeps k h2, h.f.keeps k h3⟩
/-- The values of a round: a plan in memory that the iterator does not write. -/
def PlanX (b : Bf) (nn : Nat) (k : Nat) (x : Array Value) (O : Nat → Prop) (A : World) : Prop :=
  ∃ q cq, x = #[.slice q ((plansB b).getD k []).length cq] ∧ IntsAt A q ((plansB b).getD k []) ∧ ∀ m o, 0 < ((plansB b).getD k []).length → q = some ⟨m, o, none⟩ → nn ≤ m ∧ ¬ O m
theorem PlanX.mono {b : Bf} {n n' k : Nat} {x : Array Value} {O : Nat → Prop} {A : World} (h : PlanX b n k x O A) (hn : n' ≤ n) : PlanX b n' k x O A := by
  obtain ⟨q, cq, h1, h2, h3⟩ := h
  exact ⟨q, cq, h1, h2, fun m o h4 h5 => ⟨Nat.le_trans hn (h3 m o h4 h5).1, (h3 m o h4 h5).2⟩⟩
theorem eq_left' (g : Nat → Bool) (x n : Nat) (hn : n ≤ 8) (hg : ∀ i, i < 8 → g i = decide (x ≤ i ∧ i < n)) (d : Bool) (hd : decide (n ≤ x) = d) (w : World) : (Op.equalIn 10000 188 (.agg #[.bool (g 0), .bool (g 1), .bool (g 2), .bool (g 3), .bool (g 4), .bool (g 5), .bool (g 6), .bool (g 7)]) (.agg #[.bool false, .bool false, .bool false, .bool false, .bool false, .bool false, .bool false, .bool false])).run Tryz.prog w = .ok d w := by
  rw [show (#[.bool (g 0), .bool (g 1), .bool (g 2), .bool (g 3), .bool (g 4), .bool (g 5), .bool (g 6), .bool (g 7)] : Array Value) = leftR x n from leftF_congr hg, leftR_bools, show (#[.bool false, .bool false, .bool false, .bool false, .bool false, .bool false, .bool false, .bool false] : Array Value) = boolsA [false, false, false, false, false, false, false, false] from rfl,
    eq_bools 9998 188 4 8 (by kernel_rfl) (by kernel_rfl) (fun w => by simp [go_sem]) _ _ rfl rfl, ← hd]
  congr 1
  rw [Bool.eq_iff_iff]
  simp
  omega
theorem mid_get {α : Type} (a : List α) (x : α) (c : List α) (d : α) : (a ++ [x] ++ c).getD a.length d = x := by simp
/-- What the closure that cuts returns, and what is so then. -/
def CutPost (M : Nat → Prop) (J : Nat → (Nat → Prop) → World → Prop) (Jx : (Nat → Prop) → World → Prop) (O : Nat → Prop) (k : Nat) (A : World) (e : Ending) (B : World) : Prop :=
  KeepsBut M A B ∧ ∃ (v : Bool) (O' : Nat → Prop), e = .returned (.bool v) ∧ (∀ m, O m → O' m) ∧ (∀ m, O' m → O m ∨ A.heap.size ≤ m) ∧ (∀ m, O' m → m < B.heap.size) ∧ (v = true → J k O' B) ∧ (v = false → Jx O' B)
theorem leftR_lit (x n : Nat) : ∃ g : Nat → Bool, leftR x n = #[.bool (g 0), .bool (g 1), .bool (g 2), .bool (g 3), .bool (g 4), .bool (g 5), .bool (g 6), .bool (g 7)] ∧ ∀ i, i < 8 → g i = decide (x ≤ i ∧ i < n) := ⟨_, rfl, fun _ _ => rfl⟩
set_option maxRecDepth 100000 in
set_option maxHeartbeats 3200000 in
theorem cut_any (b : Bf) (p : Option Addr) (c mb : Nat) (w0 W : World) (hB : BkF w0 p c mb b) (cy cb cc li : Nat) (M : Nat → Prop) (J : Nat → (Nat → Prop) → World → Prop) (Jx : (Nat → Prop) → World → Prop)
    (hW0 : Below w0.heap.size w0 W) (hM : ∀ m, M m → m < W.heap.size ∧ ¬ (m < w0.heap.size ∨ m = cb)) (hcy : W.heap.size ≤ cy) (hcc : W.heap.size ≤ cc) (hcb : cb < W.heap.size) (hJ : ∀ k, StableO (J k)) (hJx : StableO Jx)
    (hY : ∀ k x O A, k < (plansB b).length → PlanX b W.heap.size k x O A → (∀ m, O m → W.heap.size ≤ m ∧ m < A.heap.size) → J k O A → KeepsBut M W A → YieldAt Fence.wide 0 Tryz.prog li x A fun e B =>
      KeepsBut M A B ∧ ((e = .returned (.bool true) ∧ J (k + 1) O B) ∨ (e = .returned (.bool false) ∧ Jx O B))) :
    ∀ (f x : Nat) (pl : List Int) (q : Option Addr) (cq k0 : Nat) (before after : List (List Int)) (O : Nat → Prop) (A : World) (g : Nat → Bool), x ≤ b.hs.length → b.hs.length - x < f → pl.length ≤ x → pl.length ≤ cq → (q = none → pl = []) → IntsAt A q pl →
      (∀ m o, 0 < pl.length → q = some ⟨m, o, none⟩ → W.heap.size ≤ m ∧ ¬ O m) → plansB b = before ++ (plansL (grN b) b.hs.length x).map (pl ++ ·) ++ after → before.length = k0 → (∀ m, O m → W.heap.size ≤ m ∧ m < A.heap.size) → J k0 O A → KeepsBut M W A → Caps cy cb cc li b p c mb A → ¬ O cy → ¬ O cc →
      (∀ i, i < 8 → g i = decide (x ≤ i ∧ i < b.hs.length)) →
      Calls Tryz.prog 94 #[.slice q pl.length cq, .int .i64 x, .agg #[.bool (g 0), .bool (g 1), .bool (g 2), .bool (g 3), .bool (g 4), .bool (g 5), .bool (g 6), .bool (g 7)], .pointer (some ⟨cy, 0, none⟩), .pointer (some ⟨cb, 0, none⟩), .pointer (some ⟨cc, 0, none⟩)] A (CutPost M J Jx O (k0 + (plansL (grN b) b.hs.length x).length) A) := by
  have HB := Lib.hid hB
  have HM := Lib.hid hM
  have HJ := Lib.hid hJ
  have HJX := Lib.hid hJx
  have HY := Lib.hid hY
  have HW0 := Lib.hid hW0
  have hn8 := hB.ok.n8
  clear hB hM hJ hJx hY hW0
  intro f
  induction f with
  | zero =>
    intro x pl q cq k0 before after O A g hx hf
    omega
  | succ f ih =>
    intro x pl q cq k0 before after O A g hx hf hpl hcq hq hin hqO hsp hk0 hO hj hkp hC hy hc hg
    have IH := Lib.hid ih
    have HQ := Lib.hid hq
    have HIN := Lib.hid hin
    have HQO := Lib.hid hqO
    have HSP := Lib.hid hsp
    have HK0 := Lib.hid hk0
    have HO := Lib.hid hO
    have HJ0 := Lib.hid hj
    have HKP := Lib.hid hkp
    have HC := Lib.hid hC
    have HG := Lib.hid hg
    have hzW := hkp.size
    clear ih hq hin hqO hsp hk0 hO hj hkp hC hg
    have HO1 := Lib.hid (show ∀ m, (O m ∨ m = A.heap.size) → W.heap.size ≤ m ∧ m < (A.alloc (.cells #[.bool (g 0), .bool (g 1), .bool (g 2), .bool (g 3), .bool (g 4), .bool (g 5), .bool (g 6), .bool (g 7)] 188)).heap.size from fun m hm => by
      rcases hm with h | rfl
      · have := HO.out m h; simp; omega
      · simp; omega)
    have HJ1 := Lib.hid (HJ.out k0 O (fun m => O m ∨ m = A.heap.size) A (A.alloc (.cells #[.bool (g 0), .bool (g 1), .bool (g 2), .bool (g 3), .bool (g 4), .bool (g 5), .bool (g 6), .bool (g 7)] 188)) HJ0.out (.of_below (below_alloc _ _)) (fun m h => .inl h) (fun m h => h.imp id (fun e => by omega)))
    have HA := Lib.hid (HC.out.keeps (KeepsBut.of_below (M := fun _ => False) (below_alloc A (.cells #[.bool (g 0), .bool (g 1), .bool (g 2), .bool (g 3), .bool (g 4), .bool (g 5), .bool (g 6), .bool (g 7)] 188))) id id id)
    have HK1 := Lib.hid (HKP.out.alloc (.cells #[.bool (g 0), .bool (g 1), .bool (g 2), .bool (g 3), .bool (g 4), .bool (g 5), .bool (g 6), .bool (g 7)] 188))
    have HKA := Lib.hid (KeepsBut.of_below (M := M) (below_alloc A (.cells #[.bool (g 0), .bool (g 1), .bool (g 2), .bool (g 3), .bool (g 4), .bool (g 5), .bool (g 6), .bool (g 7)] 188)))
    have HIN1 := Lib.hid (HIN.out.below (below_alloc A (.cells #[.bool (g 0), .bool (g 1), .bool (g 2), .bool (g 3), .bool (g 4), .bool (g 5), .bool (g 6), .bool (g 7)] 188)))
    have cy0 := HA.out.y.cell 0 (v := .func (.yield li) #[] #[]) rfl
    by_cases hxn : x = b.hs.length
    · have heq := eq_left' g x b.hs.length hn8 HG.out true (by simp; omega) (A.alloc (.cells #[.bool (g 0), .bool (g 1), .bool (g 2), .bool (g 3), .bool (g 4), .bool (g 5), .bool (g 6), .bool (g 7)] 188))
      have HPG := Lib.hid (show k0 < (plansB b).length ∧ (plansB b).getD k0 [] = pl ∧ (plansL (grN b) b.hs.length x).length = 1 by
        have h := HSP.out
        rw [hxn, plansL_end, List.map_cons, List.map_nil, List.append_nil] at h
        refine ⟨?_, ?_, by rw [hxn, plansL_end]; rfl⟩
        · rw [h, ← HK0.out]; simp
        · rw [h, ← HK0.out]; exact mid_get _ _ _ _)
      obtain ⟨fn, tmps, assign, body, hy, hR⟩ := HY.out k0 #[.slice q pl.length cq] (fun m => O m ∨ m = A.heap.size) (A.alloc (.cells #[.bool (g 0), .bool (g 1), .bool (g 2), .bool (g 3), .bool (g 4), .bool (g 5), .bool (g 6), .bool (g 7)] 188)) HPG.out.1
        (by
          refine ⟨q, cq, by rw [HPG.out.2.1], by rw [HPG.out.2.1]; exact HIN1.out, fun m o h1 h2 => ?_⟩
          rw [HPG.out.2.1] at h1
          have h3 := HQO.out m o h1 h2
          refine ⟨h3.1, fun h => h.elim h3.2 fun e => ?_⟩
          obtain ⟨b', o', e', hc'⟩ := HIN.out 0 h1
          rw [h2] at e'
          cases e'
          have := cell_block hc'
          have hs : m < A.heap.size := this
          omega) HO1.out HJ1.out HK1.out
      have hy : (Instr.yield li #[.slice q pl.length cq]).run Tryz.prog _ = _ := hy
      have HR := Lib.hid hR
      clear hR
      go_enter Tryz.func94, Tryz.ntmps94
      go_upto_region 2 with (fail)
      refine (wpIn_wide (n := 1)).1 ?_
      gi_wp2_with fail
      refine HR.out.mono ?_
      rintro e B ⟨hkB, (⟨rfl, hJ1⟩ | ⟨rfl, hJx1⟩)⟩
      · have HJ2 := Lib.hid hJ1
        have HK2 := Lib.hid (HKA.out.trans hkB)
        have hzB := hkB.size
        clear hkB hJ1 hy heq cy0
        gi_wp2
        go_wp2
        go_ret
        exact ⟨HK2.out, true, fun m => O m ∨ m = A.heap.size, rfl, fun m h => .inl h, fun m h => h.imp id (fun e => by omega), fun m h => by have := (HO1.out m h).2; omega, fun _ => by rw [HPG.out.2.2]; exact HJ2.out, (fun h => by cases h)⟩
      · have HJ2 := Lib.hid hJx1
        have HK2 := Lib.hid (HKA.out.trans hkB)
        have hzB := hkB.size
        clear hkB hJx1 hy heq cy0
        gi_wp2
        go_wp2
        go_ret
        exact ⟨HK2.out, false, fun m => O m ∨ m = A.heap.size, rfl, fun m h => .inl h, fun m h => h.imp id (fun e => by omega), fun m h => by have := (HO1.out m h).2; omega, (fun h => by cases h), fun _ => HJ2.out⟩
    · have heq := eq_left' g x b.hs.length hn8 HG.out false (by simp; omega) (A.alloc (.cells #[.bool (g 0), .bool (g 1), .bool (g 2), .bool (g 3), .bool (g 4), .bool (g 5), .bool (g 6), .bool (g 7)] 188))
      have HRL := Lib.hid (show Row (A.alloc (.cells #[.bool (g 0), .bool (g 1), .bool (g 2), .bool (g 3), .bool (g 4), .bool (g 5), .bool (g 6), .bool (g 7)] 188)) A.heap.size (leftR x b.hs.length) 188 by
        rw [← show (#[.bool (g 0), .bool (g 1), .bool (g 2), .bool (g 3), .bool (g 4), .bool (g 5), .bool (g 6), .bool (g 7)] : Array Value) = leftR x b.hs.length from leftF_congr HG.out]; exact Row.new _ _ _)
      have hzA : A.heap.size < (A.alloc (.cells #[.bool (g 0), .bool (g 1), .bool (g 2), .bool (g 3), .bool (g 4), .bool (g 5), .bool (g 6), .bool (g 7)] 188)).heap.size := HRL.out.lt
      have hMA : ¬ M A.heap.size := fun h => by have := (HM.out _ h).1; omega
      have hMy : ¬ M cy := fun h => by have := (HM.out _ h).1; omega
      have hMc : ¬ M cc := fun h => by have := (HM.out _ h).1; omega
      have hMb : ¬ M cb := fun h => (HM.out _ h).2 (.inr rfl)
      have hzy := HC.out.y.lt
      have hzc := HC.out.f.lt
      have hzb := HC.out.k.lt
      have hx8 : x < 8 := by omega
      have hgr : ((grN b : Nat) : Int) = b.gr := by have := HB.out.ok.g1; unfold grN; omega
      have hg4 := HB.out.ok.g2
      have HBelow := Lib.hid (show ∀ w', KeepsBut (fun m => M m ∨ m = A.heap.size) (A.alloc (.cells #[.bool (g 0), .bool (g 1), .bool (g 2), .bool (g 3), .bool (g 4), .bool (g 5), .bool (g 6), .bool (g 7)] 188)) w' → Below w0.heap.size w0 w' from fun w' h =>
        below_keep (below_keep HW0.out HK1.out (by have := HW0.out.size; omega) (fun m hm => by have := (HM.out m hm).2; omega)) h (by have := HW0.out.size; omega) (fun m hm => by
          rcases hm with hm | rfl
          · have := (HM.out m hm).2; omega
          · have := HW0.out.size; omega))
      go_enter Tryz.func94, Tryz.ntmps94
      go_wp2_with fail
      clear heq cy0
      generalize A.alloc (.cells #[.bool (g 0), .bool (g 1), .bool (g 2), .bool (g 3), .bool (g 4), .bool (g 5), .bool (g 6), .bool (g 7)] 188) = A1 at *
      go_loopw [10] (fun i wr => ∃ (d : Nat) (O2 : Nat → Prop), x ≤ d ∧ d ≤ b.hs.length ∧ d ≤ x + grN b ∧ i = .int .i64 ((d : Int) + 1) ∧ (∀ m, (O m ∨ m = A.heap.size) → O2 m) ∧ (∀ m, O2 m → (O m ∨ m = A.heap.size) ∨ A1.heap.size ≤ m) ∧ (∀ m, O2 m → m < wr.heap.size) ∧ J (k0 + (plansTo (grN b) b.hs.length x (d - x)).length) O2 wr ∧ KeepsBut (fun m => M m ∨ m = A.heap.size) A1 wr ∧ Row wr A.heap.size (leftR d b.hs.length) 188) (fun i _ => 10 - (intOf i).toNat)
      case atStart => exact ⟨x, _, by omega, by omega, by omega, rfl, fun m h => h, fun m h => .inl h, fun m h => (HO1.out m h).2, by rw [Nat.sub_self]; exact HJ1.out, KeepsBut.refl _ _, HRL.out⟩
      case round =>
        obtain ⟨d, O2, hxd, hdn, hdg, rfl, hO2a, hO2b, hO2c, hj2, hk2, hrl⟩ := hrel
        have HBw := Lib.hid (HB.out.below (HBelow.out _ hk2))
        have HCw := Lib.hid (HA.out.keeps hk2 (fun h => h.elim hMy (by omega)) (fun h => h.elim hMb (by omega)) (fun h => h.elim hMc (by omega)))
        have k0' := HCw.out.k.cell 0 (v := .int .i64 b.pr) rfl
        have k1' := HCw.out.k.cell 1 (v := .int .i64 b.le) rfl
        have k2' := HCw.out.k.cell 2 (v := .int .i64 b.mo) rfl
        have k3' := HCw.out.k.cell 3 (v := .int .i64 b.gr) rfl
        have k4' := HCw.out.k.cell 4 (v := .slice p b.hs.length c) rfl
        have k5' := HCw.out.k.cell 5 (v := .map (some mb)) rfl
        have HO2a := Lib.hid hO2a
        have HO2b := Lib.hid hO2b
        have HO2c := Lib.hid hO2c
        have HJ2 := Lib.hid hj2
        have HK2 := Lib.hid hk2
        have HL2 := Lib.hid hrl
        have hzr := hk2.size
        clear hO2a hO2b hO2c hj2 hk2 hrl
        by_cases hbx : d + 1 ≤ b.hs.length ∧ d + 1 ≤ x + grN b
        · obtain ⟨hb1, hb2⟩ := hbx
          have HI := Lib.hid (by have h := isBox_any b p c mb (x : Int) ((d : Int) + 1) (I64_of (by omega) (by omega)) (I64_of (by omega) (by omega)) wr HBw.out; rw [show boxB b (x : Int) ((d : Int) + 1) = true by unfold boxB; simp; omega] at h; exact h : Calls Tryz.prog 95 #[.agg (bkA b p c mb), .agg #[.int .i64 x, .int .i64 ((d : Int) + 1)]] wr fun e w' => e = .returned (.bool true) ∧ Below wr.heap.size wr w')
          go_wp2_with fail
          refine HI.out.mono ?_
          rintro e w4 ⟨rfl, hb4⟩
          have HK4 := Lib.hid (HK2.out.after hb4)
          have HL4 := Lib.hid (HL2.out.below hb4 HL2.out.lt)
          have HJ4 := Lib.hid (HJ.out _ O2 O2 wr w4 HJ2.out (.of_below hb4) (fun m h => h) (fun m h => .inl h))
          have hz4 := hb4.size
          have a0 := HL4.out.cell d (leftF_at _ (by omega))
          have a1 := HL4.out.free d
          have i1 : (0 : Int) ≤ (d : Int) := by omega
          have i2 : (d : Int) < 8 := by omega
          have HL5 := Lib.hid (by have h := HL4.out.set d (.bool false); rw [leftR_set (by omega)] at h; exact h : Row (w4.setCell ⟨A.heap.size, d, none⟩ (.bool false)) A.heap.size (leftR (d + 1) b.hs.length) 188)
          have HS5 := Lib.hid (set_keeps w4 A.heap.size d (.bool false))
          clear hb4 k0' k1' k2' k3' k4' k5'
          go_upto_region 7 with (fail)
          clear a0 a1
          have HK5 := Lib.hid (HK4.out.trans (HS5.out.mono (fun m _ h => .inr h)))
          have HJ5 := Lib.hid (HJ.out _ O2 O2 w4 _ HJ4.out (HS5.out.mono (fun m _ h => by rw [h]; exact HO2a.out _ (.inr rfl))) (fun m h => h) (fun m h => .inl h))
          have hz5 := HS5.out.size
          change Code.wp _ _ _ _ (w4.setCell ⟨A.heap.size, d, none⟩ (.bool false))
          generalize w4.setCell ⟨A.heap.size, d, none⟩ (.bool false) = w5 at *
          obtain ⟨g2, hg2, hgg⟩ := leftR_lit (d + 1) b.hs.length
          rw [hg2] at HL5
          have HG2 := Lib.hid hgg
          have HGE := Lib.hid hg2
          clear hg2 hgg
          obtain ⟨pl2, hpl2⟩ : ∃ l, l = pl ++ [(d : Int) + 1] := ⟨_, rfl⟩
          have hp2l : pl2.length = pl.length + 1 := by rw [hpl2]; simp
          have HP2L := Lib.hid hp2l
          clear hp2l
          have HC5 := Lib.hid (HA.out.keeps HK5.out (fun h => h.elim hMy (by omega)) (fun h => h.elim hMb (by omega)) (fun h => h.elim hMc (by omega)))
          have hlo := (longer_any q cq pl ((d : Int) + 1) w5.drew (fun i hi => by
            obtain ⟨b', o', e', hc'⟩ := HIN1.out i hi
            have h1 := HQO.out b' o' (by omega) e'
            have h2 : b' < A1.heap.size := cell_block hc'
            obtain ⟨b3, o3, e3, hc3⟩ := HIN.out i hi
            rw [e'] at e3
            cases e3
            have h3 : b' < A.heap.size := cell_block hc3
            refine ⟨b', o', e', ?_⟩
            exact (World.cell?_of_block (HK5.out.block b' h2 (fun h => h.elim (fun h => by have := (HM.out _ h).1; omega) (by omega)))).trans hc') (by omega) hcq HQ.out)
          rw [← hpl2] at hlo
          have HLO := Lib.hid hlo
          clear hlo
          have hzWA := HK1.out.size
          have hdd : x + (d - x) + 1 = d + 1 := by omega
          obtain ⟨after2, hsp2⟩ := plans_split (k := d - x) (by omega) (by omega) (by omega) pl before after _ HSP.out
          rw [hdd] at hsp2
          rw [show ((d + 1 : Nat) : Int) = (d : Int) + 1 by omega, ← hpl2] at hsp2
          have HSP2 := Lib.hid hsp2
          clear hpl2
          have HLEN := Lib.hid (by have h := plansTo_len (gr := grN b) (n := b.hs.length) (x := x) (k := d - x) (by omega); rw [hdd, show d - x + 1 = d + 1 - x by omega] at h; exact h : (plansTo (grN b) b.hs.length x (d + 1 - x)).length = (plansTo (grN b) b.hs.length x (d - x)).length + (plansL (grN b) b.hs.length (d + 1)).length)
          clear hsp2 hdd
          have HCUT := Lib.hid (fun (gq cap : Nat) (u : World) (hi : IntsAt u (some ⟨gq, 0, none⟩) pl2) (hq1 : w5.drew.heap.size ≤ gq) (_hq2 : gq < u.heap.size) (hq3 : pl2.length ≤ cap) (hbu : Below w5.drew.heap.size w5.drew u) (hcp : Caps cy cb cc li b p c mb u) =>
            (by
              have hzu := hbu.size
              have hbv : Below w5.heap.size w5 u := ⟨hbu.os, hbu.tape, hbu.output, hbu.size, hbu.block⟩
              have hz6 : w5.drew.heap.size = w5.heap.size := rfl
              have h := IH.out (d + 1) pl2 (some ⟨gq, 0, none⟩) cap (k0 + (plansTo (grN b) b.hs.length x (d - x)).length) _ after2 O2 u g2 hb1 (by omega) (by have := HP2L.out; omega) hq3 (fun h => by cases h) hi
                (fun m o _ e => by
                  cases e
                  refine ⟨by omega, fun h => ?_⟩
                  have := HO2c.out _ h
                  omega)
                HSP2.out (by rw [List.length_append, HK0.out, List.length_map])
                (fun m hm => by
                  have h1 := HO2c.out m hm
                  refine ⟨?_, by omega⟩
                  rcases HO2b.out m hm with h | h
                  · exact (HO1.out m h).1
                  · omega)
                (HJ.out _ O2 O2 w5 u HJ5.out (KeepsBut.of_below (M := O2) hbv) (fun m h => h) (fun m h => .inl h))
                (((HK1.out.far HK5.out (fun m hm h => h.elim id (fun e => by omega)))).trans (KeepsBut.of_below (M := M) hbv)) hcp
                (fun h => by rcases HO2b.out _ h with (h | h) | h; exact hy h; omega; omega)
                (fun h => by rcases HO2b.out _ h with (h | h) | h; exact hc h; omega; omega) HG2.out
              rw [show ((d + 1 : Nat) : Int) = (d : Int) + 1 by omega] at h
              exact h : Calls Tryz.prog 94 #[.slice (some ⟨gq, 0, none⟩) pl2.length cap, .int .i64 ((d : Int) + 1), .agg #[.bool (g2 0), .bool (g2 1), .bool (g2 2), .bool (g2 3), .bool (g2 4), .bool (g2 5), .bool (g2 6), .bool (g2 7)], .pointer (some ⟨cy, 0, none⟩), .pointer (some ⟨cb, 0, none⟩), .pointer (some ⟨cc, 0, none⟩)] u (CutPost M J Jx O2 (k0 + (plansTo (grN b) b.hs.length x (d - x)).length + (plansL (grN b) b.hs.length (d + 1)).length) u)))
          have RL := Lib.hid (show Row w5.drew A.heap.size _ _ from HL5.out)
          have RC := Lib.hid (show Caps cy cb cc li b p c mb w5.drew from ⟨HC5.out.y, HC5.out.k, HC5.out.f⟩)
          go_region_held3 (fun w' => w'.cell? ⟨A.heap.size, 0, none⟩ = some (.bool (g2 0)) ∧ w'.cell? ⟨A.heap.size, 1, none⟩ = some (.bool (g2 1)) ∧ w'.cell? ⟨A.heap.size, 2, none⟩ = some (.bool (g2 2)) ∧ w'.cell? ⟨A.heap.size, 3, none⟩ = some (.bool (g2 3)) ∧ w'.cell? ⟨A.heap.size, 4, none⟩ = some (.bool (g2 4)) ∧ w'.cell? ⟨A.heap.size, 5, none⟩ = some (.bool (g2 5)) ∧ w'.cell? ⟨A.heap.size, 6, none⟩ = some (.bool (g2 6)) ∧ w'.cell? ⟨A.heap.size, 7, none⟩ = some (.bool (g2 7)) ∧ w'.cell? ⟨cc, 0, none⟩ = some (.func (.func 94) #[] #[.pointer (some ⟨cy, 0, none⟩), .pointer (some ⟨cb, 0, none⟩), .pointer (some ⟨cc, 0, none⟩)]))
            (exact ⟨RL.out.cell 0 rfl, RL.out.cell 1 rfl, RL.out.cell 2 rfl, RL.out.cell 3 rfl, RL.out.cell 4 rfl, RL.out.cell 5 rfl, RL.out.cell 6 rfl, RL.out.cell 7 rfl, RC.out.f.cell 0 rfl⟩)
            (first
              | (go_at_call 96; (with_reducible refine HLO.out.mono ?_); rintro e u ⟨gq, cap, rfl, hi, hq1, hq2, hq3, hbu⟩; have HLI := Lib.hid hi; have HBU := Lib.hid hbu; have RL := Lib.hid (RL.out.below hbu RL.out.lt); have RC := Lib.hid (RC.out.keeps (KeepsBut.of_below (M := fun _ => False) hbu) id id id); clear hi hbu)
              | (go_at_call 94; (with_reducible refine (HCUT.out _ _ _ HLI.out hq1 hq2 hq3 HBU.out RC.out).mono ?_); rintro e B ⟨hkb, v, O3, rfl, h1, h2, h3, h4, h5⟩; have HKB := Lib.hid hkb; have H1 := Lib.hid h1; have H2 := Lib.hid h2; have H3 := Lib.hid h3; have H4 := Lib.hid h4; have H5 := Lib.hid h5; have RL := Lib.hid (RL.out.keeps hkb hMA); have RC := Lib.hid (RC.out.keeps hkb hMy hMb hMc); clear hkb h1 h2 h3 h4 h5))
          all_goals
            have hzu := HBU.out.size
            have hz6 : w5.drew.heap.size = w5.heap.size := rfl
            have hzB := HKB.out.size
            have HK6 := Lib.hid (((HK5.out.drew).after HBU.out).trans (HKB.out.mono (fun m _ h => .inl h)))
            cases v
            · go_wp2_with fail
              go_ret
              exact ⟨HKA.out.far HK6.out (fun m hm h => h.elim id (fun e => by omega)), false, O3, rfl, fun m h => H1.out m (HO2a.out m (.inl h)),
                fun m h => by
                  rcases H2.out m h with h | h
                  · rcases HO2b.out m h with (h | h) | h
                    · exact .inl h
                    · exact .inr (by omega)
                    · exact .inr (by omega)
                  · exact .inr (by omega),
                H3.out, (fun h => by cases h), fun _ => H5.out (by trivial)⟩
            · go_wp2_with fail
              go_roundw
              case rel =>
                exact ⟨d + 1, O3, by omega, by omega, by omega, by simp, fun m h => H1.out m (HO2a.out m h),
                  fun m h => by
                    rcases H2.out m h with h | h
                    · exact HO2b.out m h
                    · exact .inr (by omega),
                  H3.out, by rw [HLEN.out, ← Nat.add_assoc]; exact H4.out (by trivial), HK6.out, by rw [HGE.out]; exact RL.out⟩
              case measure => simp [intOf]; omega
        · have HI := Lib.hid (by have h := isBox_any b p c mb (x : Int) ((d : Int) + 1) (I64_of (by omega) (by omega)) (I64_of (by omega) (by omega)) wr HBw.out; rw [show boxB b (x : Int) ((d : Int) + 1) = false by unfold boxB; simp; omega] at h; exact h : Calls Tryz.prog 95 #[.agg (bkA b p c mb), .agg #[.int .i64 x, .int .i64 ((d : Int) + 1)]] wr fun e w' => e = .returned (.bool false) ∧ Below wr.heap.size wr w')
          have HST := Lib.hid (plansTo_stop (gr := grN b) (n := b.hs.length) (x := x) (j := d - x) (by omega) (by omega) (by omega))
          go_wp2_with fail
          refine HI.out.mono ?_
          rintro e w4 ⟨rfl, hb4⟩
          have HK4 := Lib.hid (HK2.out.after hb4)
          have HJ4 := Lib.hid (HJ.out _ O2 O2 wr w4 HJ2.out (.of_below hb4) (fun m h => h) (fun m h => .inl h))
          have hz4 := hb4.size
          clear hb4 k0' k1' k2' k3' k4' k5'
          go_wp2_with fail
          go_ret
          exact ⟨HKA.out.far HK4.out (fun m hm h => h.elim id (fun e => by omega)), true, O2, rfl, fun m h => HO2a.out m (.inl h),
            fun m h => by
              rcases HO2b.out m h with (h | h) | h
              · exact .inl h
              · exact .inr (by omega)
              · exact .inr (by omega),
            fun m h => by have := HO2c.out m h; omega, (fun _ => by rw [← HST.out]; exact HJ4.out), (fun h => by cases h)⟩
end Go.Proofs.YticfcdbfplfmlaaGreat
