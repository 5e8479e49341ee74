/- The walks of layer 5: what a box is; lists that grow. -/
import Derived.Test.YtgdidhbomdfcpaaF7
namespace Go.Proofs.Ytgdidhbomdfcpaa
open Go.RowKit Go.Maps
attribute [local go_sem] Oper.semAt_some

/-- A valid book with the map of its boxes, in memory. -/
structure BkF (w : World) (p : Option Addr) (c mb : Nat) (b : Bf) : Prop where
  a : BfAt w p c b
  s : SumsAt w mb 100 (boxB b) (loF b) (hiF b)
  ok : BfOk b
theorem BkF.below {w w' : World} {p : Option Addr} {c mb : Nat} {b : Bf} (h : BkF w p c mb b) (hb : Below w.heap.size w w') : BkF w' p c mb b := ⟨h.a.below hb, h.s.below hb, h.ok⟩
theorem few_any (b : Bf) (hok : BfOk b) (p : Option Addr) (c mb : Nat) (lo hi : Int) (w : World) : Calls Try.prog 94 #[.agg (bkA b p c mb), .agg #[.int .i64 lo, .int .i64 hi]] w fun e w' => e = .returned (.bool (fewB b lo)) ∧ Below w.heap.size w w' := by
  have h1 := hok.p1
  have h2 := hok.p2
  have h3 := hok.l1
  have h4 := hok.l2
  clear hok
  go_enter Try.func94, Try.ntmps94
  go_wp2
  go_ret
  exact ⟨rfl, below_alloc2 _ _ _⟩
theorem many_any (b : Bf) (hok : BfOk b) (p : Option Addr) (c mb : Nat) (lo hi : Int) (w : World) : Calls Try.prog 95 #[.agg (bkA b p c mb), .agg #[.int .i64 lo, .int .i64 hi]] w fun e w' => e = .returned (.bool (manyB b hi)) ∧ Below w.heap.size w w' := by
  have h1 := hok.p1
  have h2 := hok.p2
  have h3 := hok.m1
  have h4 := hok.m2
  clear hok
  go_enter Try.func95, Try.ntmps95
  go_wp2
  go_ret
  exact ⟨ret_bool (by simp [manyB]), below_alloc2 _ _ _⟩
set_option maxRecDepth 10000 in
set_option maxHeartbeats 1600000 in
theorem kind_any (b : Bf) (hok : BfOk b) (p : Option Addr) (c mb : Nat) (lo hi : Int) (w : World) : Calls Try.prog 68 #[.agg (bkA b p c mb), .agg #[.int .i64 lo, .int .i64 hi]] w fun e w' => e = .returned (.int .i64 (kindS b lo hi)) ∧ Below w.heap.size w w' := by
  have HF := Lib.hid (fun w' => few_any b hok p c mb lo hi w')
  have HM := Lib.hid (fun w' => many_any b hok p c mb lo hi w')
  obtain ⟨W0, hW0⟩ : ∃ W, W = (w.alloc (.cells (bkA b p c mb) 79)).alloc (.cells #[.int .i64 lo, .int .i64 hi] 27) := ⟨_, rfl⟩
  have HW0 := Lib.hid hW0
  have HE := Lib.hid (show Below w.heap.size w W0 by rw [hW0]; exact below_alloc2 _ _ _)
  have rB : Row W0 w.heap.size (bkA b p c mb) 79 := by rw [hW0]; exact (Row.new _ _ _).alloc _
  have rS : Row W0 (w.heap.size + 1) #[.int .i64 lo, .int .i64 hi] 27 := by rw [hW0]; exact Row.new1 _ _ _ _
  have c0 := rB.cell 0 (v := .int .i64 b.pr) rfl
  have c1 := rB.cell 1 (v := .int .i64 b.le) rfl
  have c2 := rB.cell 2 (v := .int .i64 b.mo) rfl
  have c3 := rB.cell 3 (v := .int .i64 b.gr) rfl
  have c4 := rB.cell 4 (v := .slice p b.hs.length c) rfl
  have c5 := rB.cell 5 (v := .map (some mb)) rfl
  have s0 := rS.cell 0 (v := .int .i64 lo) rfl
  have s1 := rS.cell 1 (v := .int .i64 hi) rfl
  have HK := Lib.hid (show kindS b lo hi = (if fewB b lo then 1 else 0) + (if manyB b hi then 2 else 0) from rfl)
  rw [HK.out]
  clear hW0 rB rS hok
  generalize fewB b lo = d1 at *
  generalize manyB b hi = d2 at *
  cases d1
  all_goals
    cases d2
    all_goals
      simp only [Bool.false_eq_true, if_false, if_true]
      go_enter Try.func68, Try.ntmps68
      go_wp2_with fail
      rw [← HW0.out]
      refine (HF.out _).mono ?_
      rintro e u ⟨rfl, hbu⟩
      obtain ⟨x, rfl⟩ := later_of hbu
      clear hbu
      go_wp2_with fail
      refine (HM.out _).mono ?_
      rintro e u ⟨rfl, hbu⟩
      obtain ⟨y, hy⟩ := x.on hbu
      subst hy
      clear hbu
      go_wp2_with fail
      go_ret
      exact ⟨rfl, y.base HE.out⟩
theorem lookup_ok_op {P : Program} {ops : Array Oper} {rest : List Oper} {op : Oper} {a : Act} {w : World} {Q : Exit → Act → World → Prop} (hgd : op.guard = none) (ty : TypeId) (x y : Operand) (cm : Bool) (ho : op.op = .lookup ty x y cm) (mb : Nat) (ks : Array Value) (hx : a.eval x = .map (some mb)) (hy : a.eval y = .agg ks) (v : Value)
    (hr : (Instr.lookup ty (.map (some mb)) (.agg ks) cm).run P w = .ok v w) (h : wpList P ops Q rest (a.put op.dst v) w) : wpList P ops Q (op :: rest) a w :=
  wpList_plain hgd fun _ hK => by
    unfold Oper.wp execOp
    simp only [ho, hx, hy, Sem.run_bind, Sem.run_pure, hr, Result.andThen_ok]
    exact hK _ _ h
set_option maxRecDepth 10000 in
set_option maxHeartbeats 1600000 in
theorem isBox_any (b : Bf) (p : Option Addr) (c mb : Nat) (x y : Int) (hx : I64 x) (hy : I64 y) (w : World) (hB : BkF w p c mb b) : Calls Try.prog 98 #[.agg (bkA b p c mb), .agg #[.int .i64 x, .int .i64 y]] w fun e w' => e = .returned (.bool (boxB b x y)) ∧ Below w.heap.size w w' := by
  obtain ⟨W0, hW0⟩ : ∃ W, W = (w.alloc (.cells (bkA b p c mb) 79)).alloc (.cells #[.int .i64 x, .int .i64 y] 72) := ⟨_, rfl⟩
  have HW0 := Lib.hid hW0
  have HE := Lib.hid (show Below w.heap.size w W0 by rw [hW0]; exact below_alloc2 _ _ _)
  obtain ⟨u, v, hl, _, _⟩ := (hB.s.below HE.out).look hx hy
  rw [hW0] at hl
  have HL := Lib.hid hl
  generalize boxB b x y = d at *
  clear hW0 hB hl
  go_enter Try.func98, Try.ntmps98
  go_wp2_with (first | (refine lookup_ok_op rfl 77 _ _ _ rfl mb _ rfl rfl _ HL.out ?_))
  go_ret
  exact ⟨rfl, (below_alloc2 _ _ _).alloc (by simp; omega) _⟩
/-- The call returned a list of its own. -/
def GaveOwn (l : List Int) (w : World) (e : Ending) (w' : World) : Prop := ∃ g cap, e = .returned (.slice (some ⟨g, 0, none⟩) l.length cap) ∧ IntsAt w' (some ⟨g, 0, none⟩) l ∧ w.heap.size ≤ g ∧ g < w'.heap.size ∧ Below w.heap.size w w'
theorem longer_run (w : World) (l : List Int) (p : Option Addr) (h : IntsAt w p l) (hn : l.length ≤ 100) (hp : p = none → l = []) (g : Nat) (n : Int) (hg : w.cell? ⟨g, 0, none⟩ = some (.int .i64 n)) (ty : TypeId) :
    ∃ v' w', (Builtin.append_ #[38, 38] ty #[.slice p l.length l.length, .slice (some ⟨g, 0, none⟩) 1 1]).run Try.prog w = .ok v' w' ∧ ∃ q cap, v' = .slice (some ⟨q, 0, none⟩) (l ++ [n]).length cap ∧ IntsAt w' (some ⟨q, 0, none⟩) (l ++ [n]) ∧ w.heap.size ≤ q ∧ q < w'.heap.size ∧ Below w.heap.size w w' ∧ (l ++ [n]).length ≤ cap := by
  obtain ⟨i0, hi, hi0, hi1, hi2⟩ := info_parts Try.infoInt
  have key : ∃ v' w', (Builtin.append_ #[38, 38] ty #[.slice p l.length l.length, .slice (some ⟨g, 0, none⟩) 1 1]).run Try.prog w = .ok v' w' ∧ w'.ownsRow w.heap.size 3 1 v' (l ++ [n]).length ((l ++ [n]).map (Value.int .i64)) ∧ Below w.heap.size w w' := by
    rcases p with _ | a
    · obtain rfl := hp rfl
      obtain ⟨v', w', h1, h2, h3, _⟩ := run_append_own (P := Try.prog) w w.heap.size 38 ty 3 i0 _ 1 8 Try.underlying38 hi hi0 hi1 hi2 rfl (by decide) (.slice none 0 0) 0 [] (World.ownsRow_nil _ _ _ _) ⟨g, 0, none⟩ 1 1 [.int .i64 n] rfl (fun j u hj => by
        obtain rfl : j = 0 := by have := (List.getElem?_eq_some_iff.1 hj).1; simp at this; exact this
        simp at hj
        subst hj
        rw [Addr.add_lit, Nat.zero_add]
        exact hg) (by simp [Value.oneCell']) (by unfold maxLen; omega) (by omega) (Nat.le_refl _)
      exact ⟨v', w', h1, by simpa using h2, (Below.refl _ _).grown h3 (Nat.le_refl _) (fun k hk => by simp [Value.ownBlock] at hk)⟩
    · obtain ⟨v', w', h1, h2, h3⟩ := run_append_arg_grows (P := Try.prog) w 38 ty 3 i0 _ 1 8 Try.underlying38 hi hi0 hi1 hi2 rfl (by decide) a l.length l.length (l.map (Value.int .i64)) (by simp) (fun j u hj => by
        have hl : j < l.length := by have := (List.getElem?_eq_some_iff.1 hj).1; simpa using this
        obtain ⟨b', o', e, hcc⟩ := h j hl
        cases e
        rw [Addr.add_lit, hcc]
        rw [List.getElem?_map, List.getElem?_eq_getElem hl] at hj
        rw [at0_lt hl]; simpa using hj) ⟨g, 0, none⟩ 1 1 [.int .i64 n] rfl (fun j u hj => by
        obtain rfl : j = 0 := by have := (List.getElem?_eq_some_iff.1 hj).1; simp at this; exact this
        simp at hj
        subst hj
        rw [Addr.add_lit, Nat.zero_add]
        exact hg) (by omega) (by unfold maxLen; omega) (by omega)
      exact ⟨v', w', h1, by simpa using h2, ⟨h3.os, h3.tape, h3.output, h3.size, fun k hk => h3.block k hk (by simp)⟩⟩
  obtain ⟨v', w', h1, h2, h3⟩ := key
  obtain ⟨q, cap, e, hi2, hle, _, hq⟩ := ints_of_owns2 h2
  rcases hq with rfl | ⟨gq, rfl, hgq⟩
  · exfalso
    obtain ⟨_, _, e2, _⟩ := hi2 0 (by simp)
    cases e2
  · refine ⟨v', w', h1, gq, cap, e, hi2, hgq, ?_, h3, hle⟩
    obtain ⟨_, _, e2, hc⟩ := hi2 0 (by simp)
    cases e2
    exact cell_block hc
set_option maxRecDepth 10000 in
set_option maxHeartbeats 1600000 in
theorem longer_any (p : Option Addr) (c : Nat) (l : List Int) (n : Int) (w : World) (h : IntsAt w p l) (hn : l.length ≤ 100) (hc : l.length ≤ c) (hp : p = none → l = []) :
    Calls Try.prog 111 #[.slice p l.length c, .int .i64 n] w fun e w' => ∃ g cap, e = .returned (.slice (some ⟨g, 0, none⟩) (l ++ [n]).length cap) ∧ IntsAt w' (some ⟨g, 0, none⟩) (l ++ [n]) ∧ w.heap.size ≤ g ∧ g < w'.heap.size ∧ (l ++ [n]).length ≤ cap ∧ Below w.heap.size w w' := by
  have hb0 := below_alloc w (.cells #[.int .i64 n] 3)
  obtain ⟨v', w', hr, q, cap, rfl, hi, hq, hq2, hb, hle⟩ := longer_run (w.alloc (.cells #[.int .i64 n] 3)) l p (h.below hb0) hn hp w.heap.size n ((Row.new w _ _).cell 0 rfl) 38
  have HR := Lib.hid hr
  have HI := Lib.hid hi
  have HB := Lib.hid (hb0.trans (hb.mono hb0.size))
  have hz := hb0.size
  have hlc : (l.length : Int) ≤ (c : Int) := by omega
  clear h hr hi hb hb0
  generalize hll : l ++ [n] = ln at *
  go_enter Try.func111, Try.ntmps111
  go_wp2_with (first | (at_builtin; refine wpList_append_run rfl _ _ _ _ rfl _ _ _ rfl rfl HR.out ?_))
  go_ret
  exact ⟨q, cap, rfl, HI.out, by omega, hq2, hle, HB.out⟩
end Go.Proofs.Ytgdidhbomdfcpaa
