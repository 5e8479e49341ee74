/- The walks of layer 5: a handful is counted. -/
import Derived.Test.YtgdidhbomdfcpaaF27
namespace Go.Proofs.Ytgdidhbomdfcpaa
open Go.RowKit Go.Maps
attribute [local go_sem] Oper.semAt_some

theorem eq_nil {P : Program} (w : World) (t e : TypeId) (a : Option Addr) (n c : Nat) (h : P.underlying t = some (.slice e)) : (binOp .eql t (.slice a n c) (.slice none 0 0)).run P w = .ok (.bool a.isNone) w := Lib.run_eql_slice_nil w t e a n c 0 0 h
/-- Such handfuls lie in these cells. -/
def HoldsH (f : Nat → Option Value) (hs : List Hd) : Prop := ∀ i (h : i < hs.length), f (i * 2) = some (.int .i64 hs[i].lo) ∧ f (i * 2 + 1) = some (.int .i64 hs[i].hi)
theorem hds_row {w : World} {g : Nat} {cur : Array Value} {t : TypeId} {hs : List Hd} (hr : Row w g cur t) (h : HoldsH (cur[·]?) hs) : HdsAt w (some ⟨g, 0, none⟩) hs := fun i hi =>
  ⟨g, 0, rfl, by rw [Nat.zero_add]; exact hr.cell _ (h i hi).1, by rw [Nat.zero_add]; exact hr.cell _ (h i hi).2⟩
theorem hdV_at : ∀ (hs : List Hd) (i : Nat) (hi : i < hs.length), (hdV hs)[i * 2]? = some (.int .i64 hs[i].lo) ∧ (hdV hs)[i * 2 + 1]? = some (.int .i64 hs[i].hi)
  | [], i, hi => by simp at hi
  | x :: hs, 0, _ => by simp [hdV]
  | x :: hs, i + 1, hi => by
    have e : hdV (x :: hs) = .int .i64 x.lo :: .int .i64 x.hi :: hdV hs := by simp [hdV]
    rw [e, show (i + 1) * 2 = i * 2 + 1 + 1 by omega]
    simpa using hdV_at hs i (by simpa using hi)
theorem hds_cells {w : World} {b o : Nat} {hs : List Hd} (h : HdsAt w (some ⟨b, o, none⟩) hs) {j : Nat} {u : Value} (hj : (hdV hs)[j]? = some u) : w.cell? ⟨b, o + j, none⟩ = some u := by
  have hl := (List.getElem?_eq_some_iff.1 hj).1
  rw [hdV_length] at hl
  obtain ⟨a1, a2⟩ := hdV_at hs (j / 2) (by omega)
  obtain ⟨b', o', e, h1, h2⟩ := h (j / 2) (by omega)
  cases e
  rcases Nat.mod_two_eq_zero_or_one j with hm | hm
  · rw [show j / 2 * 2 = j by omega] at a1 h1
    rw [a1] at hj
    rw [h1, ← hj]
  · rw [show j / 2 * 2 + 1 = j by omega] at a2
    rw [show o + j / 2 * 2 + 1 = o + j by omega] at h2
    rw [a2] at hj
    rw [h2, ← hj]
theorem cur_of_take {cur : Array Value} {n : Nat} {vs : List Value} (h : cur.toList.take n = vs) {j : Nat} {u : Value} (hj : vs[j]? = some u) : cur[j]? = some u := by
  subst h
  have hl : j < n := by
    have := (List.getElem?_eq_some_iff.1 hj).1
    rw [List.length_take] at this; omega
  rw [List.getElem?_take_of_lt hl] at hj
  simpa using hj
theorem hdV_one (hs : List Hd) : ∀ u ∈ hdV hs, u.oneCell' = true := by
  intro u hu
  unfold hdV at hu
  obtain ⟨x, _, hx⟩ := List.mem_flatMap.1 hu
  simp at hx
  rcases hx with rfl | rfl <;> rfl
theorem copy_hds (w : World) (hs : List Hd) (b o c : Nat) (h : HdsAt w (some ⟨b, o, none⟩) hs) (h1 : 0 < hs.length) (h3 : hs.length ≤ 10) (ty : TypeId) (z : Nat) :
    ∃ g cap cur w', (Builtin.append_ #[22, 22] ty #[.slice (some ⟨z, 0, none⟩) 0 0, .slice (some ⟨b, o, none⟩) hs.length c]).run Try.prog w = .ok (.slice (some ⟨g, 0, none⟩) hs.length cap) w' ∧ Row w' g cur 27 ∧ w.heap.size ≤ g ∧ hs.length ≤ cap ∧ Below w.heap.size w w' ∧ HoldsH (cur[·]?) hs := by
  obtain ⟨i0, hi, hi0, hi1, hi2⟩ := info_parts Try.infoSpan
  obtain ⟨v', w', hr, hown, hg⟩ := run_append_arg_grows (P := Try.prog) w 22 ty 27 i0 _ 2 16 Try.underlying22 hi hi0 hi1 hi2 rfl (by decide) ⟨z, 0, none⟩ 0 0 [] rfl (fun j u h => by simp at h)
      ⟨b, o, none⟩ hs.length c (hdV hs) (hdV_length hs) (fun j u hj => by rw [Addr.add_lit]; exact hds_cells h hj) (by omega) (by unfold maxLen; omega) (by omega)
  rw [List.nil_append, Nat.zero_add] at hown
  rcases hown.2 with ⟨_, hn⟩ | ⟨g, cap, cur, hv, hg0, hh, h1, h2, h3, h4⟩
  · omega
  · subst hv
    refine ⟨g, cap, cur, w', hr, hh, hg0, h1, ⟨hg.os, hg.tape, hg.output, hg.size, fun k hk => hg.block k hk (by simp)⟩, fun i hi => ?_⟩
    obtain ⟨a0, a1⟩ := hdV_at hs i hi
    exact ⟨cur_of_take h4 a0, cur_of_take h4 a1⟩
/-- The call returned a copy in a block of its own. -/
def GaveCopy (hs : List Hd) (w : World) (e : Ending) (w' : World) : Prop := ∃ g cap cur, e = .returned (.slice (some ⟨g, 0, none⟩) hs.length cap) ∧ Row w' g cur 27 ∧ w.heap.size ≤ g ∧ hs.length ≤ cap ∧ HoldsH (cur[·]?) hs ∧ Below w.heap.size w w'
set_option maxRecDepth 10000 in
theorem clone_any (hs : List Hd) (b o c : Nat) (w : World) (h : HdsAt w (some ⟨b, o, none⟩) hs) (h1 : 0 < hs.length) (h3 : hs.length ≤ 10) :
    Calls Try.prog 113 #[.slice (some ⟨b, o, none⟩) hs.length c] w (GaveCopy hs w) := by
  obtain ⟨g, cap, cur, w', hr, hrow, hg, hcap, hb, hh⟩ := copy_hds (w.alloc (.cells #[] 27)) hs b o c (h.below (below_alloc _ _)) h1 h3 22 w.heap.size
  have HR := Lib.hid hr
  have HROW := Lib.hid hrow
  have HH := Lib.hid hh
  have HB := Lib.hid ((below_alloc w (.cells #[] 27)).trans (hb.mono (by simp)))
  simp at hg
  clear hr hrow hh hb h
  have hnil := eq_nil w 22 27 (some ⟨b, o, none⟩) hs.length c Try.underlying22
  simp only [Option.isNone_some] at hnil
  go_enter Try.func113, Try.ntmps113
  go_wp2_with (first | (at_builtin; refine wpList_append_run rfl _ _ _ _ rfl (.slice (some ⟨w.heap.size, 0, none⟩) 0 0) _ _ rfl rfl HR.out ?_))
  go_ret
  exact ⟨g, cap, cur, rfl, HROW.out, by omega, hcap, HH.out, HB.out⟩
/-- A book of which a handful is known. -/
def setB (b : Bf) (k : Nat) (lo hi : Int) : Bf := { b with hs := b.hs.set k ⟨lo, hi⟩ }
theorem setB_len (b : Bf) (k : Nat) (lo hi : Int) : (setB b k lo hi).hs.length = b.hs.length := by simp [setB]
theorem holds_set {cur : Array Value} {b : Bf} (h : HoldsH (cur[·]?) b.hs) {k : Nat} (hk : k < b.hs.length) (lo hi : Int) : HoldsH (((cur.setIfInBounds (k * 2) (.int .i64 lo)).setIfInBounds (k * 2 + 1) (.int .i64 hi))[·]?) (setB b k lo hi).hs := by
  intro i hl
  rw [setB_len] at hl
  obtain ⟨h0, h1⟩ := h i hl
  obtain ⟨g0, g1⟩ := h k hk
  have hs4 := (Array.getElem?_eq_some_iff.1 g0).1
  have hs5 := (Array.getElem?_eq_some_iff.1 g1).1
  have key : ∀ (j : Nat) u, cur[j]? = some u → j ≠ k * 2 → j ≠ k * 2 + 1 → ((cur.setIfInBounds (k * 2) (.int .i64 lo)).setIfInBounds (k * 2 + 1) (.int .i64 hi))[j]? = some u := by
    intro j u hj n4 n5
    rw [Array.getElem?_setIfInBounds, if_neg (fun e => n5 e.symm), Array.getElem?_setIfInBounds, if_neg (fun e => n4 e.symm)]
    exact hj
  simp only [setB]
  by_cases e : i = k
  · subst e
    simp only [List.getElem_set_self]
    refine ⟨?_, ?_⟩
    · rw [Array.getElem?_setIfInBounds, if_neg (by omega), Array.getElem?_setIfInBounds, if_pos rfl, if_pos hs4]
    · rw [Array.getElem?_setIfInBounds, if_pos rfl, if_pos (by simpa using hs5)]
  · rw [List.getElem_set_ne (fun e2 => e e2.symm)]
    exact ⟨key _ _ h0 (by omega) (by omega), key _ _ h1 (by omega) (by omega)⟩
/-- The call returned a book with another handful. -/
def GaveSet (b : Bf) (k : Nat) (lo hi : Int) (w : World) (e : Ending) (w' : World) : Prop := ∃ g cap, e = .returned (.agg (bfA (setB b k lo hi) (some ⟨g, 0, none⟩) cap)) ∧ BfAt w' (some ⟨g, 0, none⟩) cap (setB b k lo hi) ∧ w.heap.size ≤ g ∧ Below w.heap.size w w'
abbrev noBf : Array Value := #[.int .i64 0, .int .i64 0, .int .i64 0, .int .i64 0, .slice none 0 0]
set_option maxRecDepth 10000 in
set_option maxHeartbeats 1600000 in
theorem counted_any (b : Bf) (p : Option Addr) (c k : Nat) (n : Int) (w : World) (hB : BfAt w p c b) (hk : k < b.hs.length) (h10 : b.hs.length ≤ 10) :
    Calls Try.prog 103 #[.agg (bfA b p c), .int .i64 k, .int .i64 n] w (GaveSet b k n n w) := by
  obtain ⟨bb, o, rfl, _⟩ := hB.h k hk
  obtain ⟨W0, hW0⟩ : ∃ W, W = ((w.alloc (.cells (bfA b (some ⟨bb, o, none⟩) c) 24)).alloc (.cells noBf 24)) := ⟨_, rfl⟩
  have HW0 := Lib.hid hW0
  have HE := Lib.hid (show Below w.heap.size w W0 by rw [hW0]; exact below_alloc2 _ _ _)
  have HR := Lib.hid (show Row W0 w.heap.size (bfA b (some ⟨bb, o, none⟩) c) 24 by rw [hW0]; exact (Row.new w _ _).alloc _)
  have HQ := Lib.hid (show Row W0 (w.heap.size + 1) noBf 24 by rw [hW0]; exact Row.new1 w _ _ _)
  have HH := Lib.hid (hB.h.below HE.out)
  have HN := Lib.hid hB.n
  have HI1 := Lib.hid hB.i1
  have hzq := HQ.out.lt
  have g4 := HR.out.cell 4 (v := .slice (some ⟨bb, o, none⟩) b.hs.length c) rfl
  have HSL := Lib.hid (setB_len b k n n)
  have i1 : (0 : Int) ≤ (k : Int) := by omega
  have i2 : (k : Int) < (b.hs.length : Int) := by omega
  clear hW0 hB
  go_enter Try.func103, Try.ntmps103
  go_wp2_with fail
  rw [← HW0.out]
  refine (clone_any b.hs bb o c W0 HH.out (by omega) h10).mono ?_
  rintro e w1 ⟨g, cap, cur, rfl, hrow, hg, hcap, hh, hb1⟩
  have HROW := Lib.hid hrow
  have HHO := Lib.hid hh
  have HR := Lib.hid (HR.out.below hb1 HR.out.lt)
  have HQ := Lib.hid (HQ.out.below hb1 HQ.out.lt)
  have HE := Lib.hid (HE.out.trans (hb1.mono HE.out.size))
  have r4 := HR.out.cell 4 (v := .slice (some ⟨bb, o, none⟩) b.hs.length c) rfl
  have r4f := HR.out.free 4
  clear hrow hh hb1 g4
  have HR2 := Lib.hid (HR.out.set 4 (.slice (some ⟨g, 0, none⟩) b.hs.length cap))
  have HROW2 := Lib.hid (HROW.out.set_other ⟨w.heap.size, 4, none⟩ (.slice (some ⟨g, 0, none⟩) b.hs.length cap) (by dsimp only; omega))
  have HQ2 := Lib.hid (HQ.out.set_other ⟨w.heap.size, 4, none⟩ (.slice (some ⟨g, 0, none⟩) b.hs.length cap) (by dsimp only; omega))
  obtain ⟨g0, g1⟩ := HHO.out k hk
  have q0 := HROW2.out.cell _ g0
  have q1 := HROW2.out.cell _ g1
  have q0f := HROW2.out.free (k * 2)
  have q1f := HROW2.out.free (k * 2 + 1)
  have s4 := HR2.out.cell 4 (v := .slice (some ⟨g, 0, none⟩) b.hs.length cap) rfl
  go_upto_region 3 with (fail)
  have RB := Lib.hid (show Row (((w1.setCell ⟨w.heap.size, 4, none⟩ (.slice (some ⟨g, 0, none⟩) b.hs.length cap)).setCell ⟨g, k * 2, none⟩ (.int .i64 n)).setCell ⟨g, k * 2 + 1, none⟩ (.int .i64 n)) w.heap.size #[.int .i64 b.pr, .int .i64 b.le, .int .i64 b.mo, .int .i64 b.gr, .slice (some ⟨g, 0, none⟩) b.hs.length cap] 24 from (HR2.out.set_other ⟨g, k * 2, none⟩ (.int .i64 n) (by dsimp only; omega)).set_other ⟨g, k * 2 + 1, none⟩ (.int .i64 n) (by dsimp only; omega))
  have RQ := Lib.hid ((HQ2.out.set_other ⟨g, k * 2, none⟩ (.int .i64 n) (by dsimp only; omega)).set_other ⟨g, k * 2 + 1, none⟩ (.int .i64 n) (by dsimp only; omega))
  have RG := Lib.hid ((HROW2.out.set (k * 2) (.int .i64 n)).set (k * 2 + 1) (.int .i64 n))
  have HE3 := Lib.hid (show Below w.heap.size w (((w1.setCell ⟨w.heap.size, 4, none⟩ (.slice (some ⟨g, 0, none⟩) b.hs.length cap)).setCell ⟨g, k * 2, none⟩ (.int .i64 n)).setCell ⟨g, k * 2 + 1, none⟩ (.int .i64 n)) from ((HE.out.setCell (by dsimp only; omega) _).setCell (by dsimp only; omega) _).setCell (by dsimp only; omega) _)
  clear r4 r4f q0 q1 q0f q1f s4
  change Code.wp _ _ _ _ (((w1.setCell ⟨w.heap.size, 4, none⟩ (.slice (some ⟨g, 0, none⟩) b.hs.length cap)).setCell ⟨g, k * 2, none⟩ (.int .i64 n)).setCell ⟨g, k * 2 + 1, none⟩ (.int .i64 n))
  generalize (((w1.setCell ⟨w.heap.size, 4, none⟩ (.slice (some ⟨g, 0, none⟩) b.hs.length cap)).setCell ⟨g, k * 2, none⟩ (.int .i64 n)).setCell ⟨g, k * 2 + 1, none⟩ (.int .i64 n)) = w2 at *
  have b0 := RB.out.cell 0 (v := .int .i64 b.pr) rfl
  have b1 := RB.out.cell 1 (v := .int .i64 b.le) rfl
  have b2 := RB.out.cell 2 (v := .int .i64 b.mo) rfl
  have b3 := RB.out.cell 3 (v := .int .i64 b.gr) rfl
  have b4 := RB.out.cell 4 (v := .slice (some ⟨g, 0, none⟩) b.hs.length cap) rfl
  have c0 := RQ.out.cell 0 (v := .int .i64 0) rfl
  have f0 := RQ.out.free 0
  have c1 := RQ.out.cell 1 (v := .int .i64 0) rfl
  have f1 := RQ.out.free 1
  have c2 := RQ.out.cell 2 (v := .int .i64 0) rfl
  have f2 := RQ.out.free 2
  have c3 := RQ.out.cell 3 (v := .int .i64 0) rfl
  have f3 := RQ.out.free 3
  have c4 := RQ.out.cell 4 (v := .slice none 0 0) rfl
  have f4 := RQ.out.free 4
  go_wp2_with fail
  have qq := (((((RQ.out.set 0 (.int .i64 b.pr)).set 1 (.int .i64 b.le)).set 2 (.int .i64 b.mo)).set 3 (.int .i64 b.gr)).set 4 (.slice (some ⟨g, 0, none⟩) b.hs.length cap))
  have qq : Row (((((w2.setCell ⟨w.heap.size + 1, 0, none⟩ (.int .i64 b.pr)).setCell ⟨w.heap.size + 1, 1, none⟩ (.int .i64 b.le)).setCell ⟨w.heap.size + 1, 2, none⟩ (.int .i64 b.mo)).setCell ⟨w.heap.size + 1, 3, none⟩ (.int .i64 b.gr)).setCell ⟨w.heap.size + 1, 4, none⟩ (.slice (some ⟨g, 0, none⟩) b.hs.length cap)) (w.heap.size + 1) #[.int .i64 b.pr, .int .i64 b.le, .int .i64 b.mo, .int .i64 b.gr, .slice (some ⟨g, 0, none⟩) b.hs.length cap] 24 := qq
  have HE4 := Lib.hid (show Below w.heap.size w (((((w2.setCell ⟨w.heap.size + 1, 0, none⟩ (.int .i64 b.pr)).setCell ⟨w.heap.size + 1, 1, none⟩ (.int .i64 b.le)).setCell ⟨w.heap.size + 1, 2, none⟩ (.int .i64 b.mo)).setCell ⟨w.heap.size + 1, 3, none⟩ (.int .i64 b.gr)).setCell ⟨w.heap.size + 1, 4, none⟩ (.slice (some ⟨g, 0, none⟩) b.hs.length cap)) from (((((HE3.out.setCell (by dsimp only; omega) _).setCell (by dsimp only; omega) _).setCell (by dsimp only; omega) _).setCell (by dsimp only; omega) _).setCell (by dsimp only; omega) _))
  have RG4 := Lib.hid (((((RG.out.set_other ⟨w.heap.size + 1, 0, none⟩ (.int .i64 b.pr) (by dsimp only; omega)).set_other ⟨w.heap.size + 1, 1, none⟩ (.int .i64 b.le) (by dsimp only; omega)).set_other ⟨w.heap.size + 1, 2, none⟩ (.int .i64 b.mo) (by dsimp only; omega)).set_other ⟨w.heap.size + 1, 3, none⟩ (.int .i64 b.gr) (by dsimp only; omega)).set_other ⟨w.heap.size + 1, 4, none⟩ (.slice (some ⟨g, 0, none⟩) b.hs.length cap) (by dsimp only; omega))
  have hlen : (setB b k n n).hs.length = b.hs.length := HSL.out
  refine bodyPost_ret (v := .agg #[.int .i64 b.pr, .int .i64 b.le, .int .i64 b.mo, .int .i64 b.gr, .slice (some ⟨g, 0, none⟩) b.hs.length cap]) (results_cell_row Try.results103 _ _ _ _ _ _ _ rfl qq Try.underlying24 rfl (by kernel_rfl)) rfl ?_
  exact ⟨g, cap, by rw [show bfA (setB b k n n) (some ⟨g, 0, none⟩) cap = #[.int .i64 b.pr, .int .i64 b.le, .int .i64 b.mo, .int .i64 b.gr, .slice (some ⟨g, 0, none⟩) b.hs.length cap] by rw [show bfA (setB b k n n) (some ⟨g, 0, none⟩) cap = #[.int .i64 b.pr, .int .i64 b.le, .int .i64 b.mo, .int .i64 b.gr, .slice (some ⟨g, 0, none⟩) (setB b k n n).hs.length cap] from rfl, hlen]],
    ⟨hds_row RG4.out (holds_set HHO.out hk n n), by rw [hlen]; exact HN.out, by rw [hlen]; exact hcap, HI1.out⟩, by have := HE.out.size; omega, HE4.out⟩
end Go.Proofs.Ytgdidhbomdfcpaa
