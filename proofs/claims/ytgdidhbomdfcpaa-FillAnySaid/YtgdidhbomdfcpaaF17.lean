/- The walks of layer 5: the splints of a box. -/
import Derived.Test.YtgdidhbomdfcpaaF16
import Derived.Test.YtgdidhbomdfcpaaF6
namespace Go.Proofs.Ytgdidhbomdfcpaa
open Go.RowKit Go.Maps
attribute [local go_sem] Oper.semAt_some

set_option maxRecDepth 10000 in
set_option maxHeartbeats 1600000 in
theorem Sum_bad (b : Bf) (p : Option Addr) (c : Nat) (x y : Int) (w : World) (hB : BfAt w p c b) (hb : bookB b = false) :
    Calls Try.prog 15 #[.agg (bfA b p c), .int .i64 x, .int .i64 y] w fun e w' => e = .returned (.tuple #[.agg #[.int .i64 0, .int .i64 0], .int .i64 50]) ∧ Below w.heap.size w w' := by
  obtain ⟨W0, hW0⟩ : ∃ W, W = ((w.alloc (.cells (bfA b p c) 24)).alloc (.cells #[.int .i64 0, .int .i64 0] 27)) := ⟨_, rfl⟩
  have HW0 := Lib.hid hW0
  have HE := Lib.hid (show Below w.heap.size w W0 by rw [hW0]; exact below_alloc2 _ _ _)
  have HR := Lib.hid (show Row W0 w.heap.size (bfA b p c) 24 by rw [hW0]; exact (Row.new w _ _).alloc _)
  have HQ := Lib.hid (show Row W0 (w.heap.size + 1) #[.int .i64 0, .int .i64 0] 27 by rw [hW0]; exact Row.new1 w _ _ _)
  have HB := Lib.hid hB
  have HC := Lib.hid (fun w' (q : From W0 w') => (by have h := Check_any b p c w' (hB.below (HE.out.trans (q.b.mono HE.out.size))); rw [bookE_bad hb] at h; exact h : Calls Try.prog 17 #[.agg (bfA b p c)] w' fun e w'' => e = .returned (.int .i64 50) ∧ Below w'.heap.size w' w''))
  have hzq := HQ.out.lt
  have g0 := HR.out.cell 0 (v := .int .i64 b.pr) rfl
  have g1 := HR.out.cell 1 (v := .int .i64 b.le) rfl
  have g2 := HR.out.cell 2 (v := .int .i64 b.mo) rfl
  have g3 := HR.out.cell 3 (v := .int .i64 b.gr) rfl
  have g4 := HR.out.cell 4 (v := .slice p b.hs.length c) rfl
  clear hW0 hB hb
  go_enter Try.func15, Try.ntmps15
  go_wp2_with fail
  rw [← HW0.out]
  refine (HC.out _ (From.refl W0)).mono ?_
  rintro e u ⟨rfl, hbu⟩
  obtain ⟨z, rfl⟩ := later_of hbu
  clear hbu
  have HQ := Lib.hid (z.fr.row HQ.out)
  have HE := Lib.hid (z.base HE.out)
  have c0 := HQ.out.cell 0 (v := .int .i64 0) rfl
  have c1 := HQ.out.cell 1 (v := .int .i64 0) rfl
  have f0 := HQ.out.free 0
  have f1 := HQ.out.free 1
  go_wp2_with fail
  clear c0 c1 f0 f1
  have q := (HQ.out.set 0 (.int .i64 0)).set 1 (.int .i64 0)
  have e0 := q.cell 0 (v := .int .i64 0) rfl
  have e1 := q.cell 1 (v := .int .i64 0) rfl
  exact bodyPost_ret (v := .tuple #[.agg #[.int .i64 0, .int .i64 0], .int .i64 50]) (by simp [results, Try.results15, go_sem, e0, e1]) rfl
    ⟨rfl, (HE.out.setCell (by dsimp only; omega) _).setCell (by dsimp only; omega) _⟩

set_option maxRecDepth 10000 in
set_option maxHeartbeats 1600000 in
theorem Sum_no1 (b : Bf) (p : Option Addr) (c : Nat) (x y : Int) (w : World) (hB : BfAt w p c b) (hb : bookB b = true) (hf : fits x 0 y = false) :
    Calls Try.prog 15 #[.agg (bfA b p c), .int .i64 x, .int .i64 y] w fun e w' => e = .returned (.tuple #[.agg #[.int .i64 0, .int .i64 0], .int .i64 51]) ∧ Below w.heap.size w w' := by
  obtain ⟨W0, hW0⟩ : ∃ W, W = ((w.alloc (.cells (bfA b p c) 24)).alloc (.cells #[.int .i64 0, .int .i64 0] 27)) := ⟨_, rfl⟩
  have HW0 := Lib.hid hW0
  have HE := Lib.hid (show Below w.heap.size w W0 by rw [hW0]; exact below_alloc2 _ _ _)
  have HR := Lib.hid (show Row W0 w.heap.size (bfA b p c) 24 by rw [hW0]; exact (Row.new w _ _).alloc _)
  have HQ := Lib.hid (show Row W0 (w.heap.size + 1) #[.int .i64 0, .int .i64 0] 27 by rw [hW0]; exact Row.new1 w _ _ _)
  have HB := Lib.hid hB
  have HC := Lib.hid (fun w' (q : From W0 w') => (by have h := Check_any b p c w' (hB.below (HE.out.trans (q.b.mono HE.out.size))); rw [bookE_ok hb] at h; exact h : Calls Try.prog 17 #[.agg (bfA b p c)] w' fun e w'' => e = .returned (.int .i64 0) ∧ Below w'.heap.size w' w''))
  have hzq := HQ.out.lt
  have g0 := HR.out.cell 0 (v := .int .i64 b.pr) rfl
  have g1 := HR.out.cell 1 (v := .int .i64 b.le) rfl
  have g2 := HR.out.cell 2 (v := .int .i64 b.mo) rfl
  have g3 := HR.out.cell 3 (v := .int .i64 b.gr) rfl
  have g4 := HR.out.cell 4 (v := .slice p b.hs.length c) rfl
  have HF := Lib.hid (fun w' => (by have h := within_any x 0 y w'; rw [hf] at h; exact h : Calls Try.prog 60 #[.int .i64 x, .int .i64 0, .int .i64 y] w' fun e w'' => e = .returned (.bool false) ∧ w' = w''))
  clear hW0 hB hb hf
  go_enter Try.func15, Try.ntmps15
  go_wp2_with fail
  rw [← HW0.out]
  refine (HC.out _ (From.refl W0)).mono ?_
  rintro e u ⟨rfl, hbu⟩
  obtain ⟨z, rfl⟩ := later_of hbu
  clear hbu
  go_wp2_with fail
  refine (HF.out _).mono ?_
  rintro e u ⟨rfl, rfl⟩
  have HQ := Lib.hid (z.fr.row HQ.out)
  have HE := Lib.hid (z.base HE.out)
  have c0 := HQ.out.cell 0 (v := .int .i64 0) rfl
  have c1 := HQ.out.cell 1 (v := .int .i64 0) rfl
  have f0 := HQ.out.free 0
  have f1 := HQ.out.free 1
  go_wp2_with fail
  clear c0 c1 f0 f1
  have q := (HQ.out.set 0 (.int .i64 0)).set 1 (.int .i64 0)
  have e0 := q.cell 0 (v := .int .i64 0) rfl
  have e1 := q.cell 1 (v := .int .i64 0) rfl
  exact bodyPost_ret (v := .tuple #[.agg #[.int .i64 0, .int .i64 0], .int .i64 51]) (by simp [results, Try.results15, go_sem, e0, e1]) rfl
    ⟨rfl, (HE.out.setCell (by dsimp only; omega) _).setCell (by dsimp only; omega) _⟩

set_option maxRecDepth 10000 in
set_option maxHeartbeats 1600000 in
theorem Sum_no2 (b : Bf) (p : Option Addr) (c : Nat) (x y : Int) (w : World) (hB : BfAt w p c b) (hb : bookB b = true) (hf : fits x 0 y = true) (hy : (b.hs.length : Int) < y) :
    Calls Try.prog 15 #[.agg (bfA b p c), .int .i64 x, .int .i64 y] w fun e w' => e = .returned (.tuple #[.agg #[.int .i64 0, .int .i64 0], .int .i64 51]) ∧ Below w.heap.size w w' := by
  obtain ⟨W0, hW0⟩ : ∃ W, W = ((w.alloc (.cells (bfA b p c) 24)).alloc (.cells #[.int .i64 0, .int .i64 0] 27)) := ⟨_, rfl⟩
  have HW0 := Lib.hid hW0
  have HE := Lib.hid (show Below w.heap.size w W0 by rw [hW0]; exact below_alloc2 _ _ _)
  have HR := Lib.hid (show Row W0 w.heap.size (bfA b p c) 24 by rw [hW0]; exact (Row.new w _ _).alloc _)
  have HQ := Lib.hid (show Row W0 (w.heap.size + 1) #[.int .i64 0, .int .i64 0] 27 by rw [hW0]; exact Row.new1 w _ _ _)
  have HB := Lib.hid hB
  have HC := Lib.hid (fun w' (q : From W0 w') => (by have h := Check_any b p c w' (hB.below (HE.out.trans (q.b.mono HE.out.size))); rw [bookE_ok hb] at h; exact h : Calls Try.prog 17 #[.agg (bfA b p c)] w' fun e w'' => e = .returned (.int .i64 0) ∧ Below w'.heap.size w' w''))
  have hzq := HQ.out.lt
  have g0 := HR.out.cell 0 (v := .int .i64 b.pr) rfl
  have g1 := HR.out.cell 1 (v := .int .i64 b.le) rfl
  have g2 := HR.out.cell 2 (v := .int .i64 b.mo) rfl
  have g3 := HR.out.cell 3 (v := .int .i64 b.gr) rfl
  have g4 := HR.out.cell 4 (v := .slice p b.hs.length c) rfl
  have HF := Lib.hid (fun w' => (by have h := within_any x 0 y w'; rw [hf] at h; exact h : Calls Try.prog 60 #[.int .i64 x, .int .i64 0, .int .i64 y] w' fun e w'' => e = .returned (.bool true) ∧ w' = w''))
  clear hW0 hB hb hf
  go_enter Try.func15, Try.ntmps15
  go_wp2_with fail
  rw [← HW0.out]
  refine (HC.out _ (From.refl W0)).mono ?_
  rintro e u ⟨rfl, hbu⟩
  obtain ⟨z, rfl⟩ := later_of hbu
  clear hbu
  go_wp2_with fail
  refine (HF.out _).mono ?_
  rintro e u ⟨rfl, rfl⟩
  have HQ := Lib.hid (z.fr.row HQ.out)
  have HE := Lib.hid (z.base HE.out)
  have c0 := HQ.out.cell 0 (v := .int .i64 0) rfl
  have c1 := HQ.out.cell 1 (v := .int .i64 0) rfl
  have f0 := HQ.out.free 0
  have f1 := HQ.out.free 1
  go_wp2_with fail
  clear c0 c1 f0 f1
  have q := (HQ.out.set 0 (.int .i64 0)).set 1 (.int .i64 0)
  have e0 := q.cell 0 (v := .int .i64 0) rfl
  have e1 := q.cell 1 (v := .int .i64 0) rfl
  exact bodyPost_ret (v := .tuple #[.agg #[.int .i64 0, .int .i64 0], .int .i64 51]) (by simp [results, Try.results15, go_sem, e0, e1]) rfl
    ⟨rfl, (HE.out.setCell (by dsimp only; omega) _).setCell (by dsimp only; omega) _⟩

set_option maxRecDepth 10000 in
set_option maxHeartbeats 1600000 in
theorem Sum_yes (b : Bf) (p : Option Addr) (c : Nat) (x y : Nat) (w : World) (hB : BfAt w p c b) (hb : bookB b = true) (hx : x ≤ y) (hy : y ≤ b.hs.length) :
    Calls Try.prog 15 #[.agg (bfA b p c), .int .i64 x, .int .i64 y] w fun e w' => e = .returned (.tuple #[.agg #[.int .i64 (loB b x y), .int .i64 (hiB b x y)], .int .i64 0]) ∧ Below w.heap.size w w' := by
  obtain ⟨W0, hW0⟩ : ∃ W, W = ((w.alloc (.cells (bfA b p c) 24)).alloc (.cells #[.int .i64 0, .int .i64 0] 27)) := ⟨_, rfl⟩
  have HW0 := Lib.hid hW0
  have HE := Lib.hid (show Below w.heap.size w W0 by rw [hW0]; exact below_alloc2 _ _ _)
  have HR := Lib.hid (show Row W0 w.heap.size (bfA b p c) 24 by rw [hW0]; exact (Row.new w _ _).alloc _)
  have HQ := Lib.hid (show Row W0 (w.heap.size + 1) #[.int .i64 0, .int .i64 0] 27 by rw [hW0]; exact Row.new1 w _ _ _)
  have HB := Lib.hid hB
  have HC := Lib.hid (fun w' (q : From W0 w') => (by have h := Check_any b p c w' (hB.below (HE.out.trans (q.b.mono HE.out.size))); rw [bookE_ok hb] at h; exact h : Calls Try.prog 17 #[.agg (bfA b p c)] w' fun e w'' => e = .returned (.int .i64 0) ∧ Below w'.heap.size w' w''))
  have hzq := HQ.out.lt
  have g0 := HR.out.cell 0 (v := .int .i64 b.pr) rfl
  have g1 := HR.out.cell 1 (v := .int .i64 b.le) rfl
  have g2 := HR.out.cell 2 (v := .int .i64 b.mo) rfl
  have g3 := HR.out.cell 3 (v := .int .i64 b.gr) rfl
  have g4 := HR.out.cell 4 (v := .slice p b.hs.length c) rfl
  have HF := Lib.hid (fun w' => (by have h := within_any (x : Int) 0 (y : Int) w'; rw [show fits (x : Int) 0 (y : Int) = true by unfold fits; simp; omega] at h; exact h : Calls Try.prog 60 #[.int .i64 x, .int .i64 0, .int .i64 y] w' fun e w'' => e = .returned (.bool true) ∧ w' = w''))
  have hok := bookB_iff.1 hb
  have hn8 := hok.n8
  have HOF := Lib.hid (fun w' (q : From W0 w') => of_any p b.hs c x y hx hy hB.c w' (hB.h.below (HE.out.trans (q.b.mono HE.out.size))))
  have HPL := Lib.hid (fun q c w' (h : HdsAt w' q (partL b.hs x y)) => together_any q c (partL b.hs x y) w' h (by rw [partL_length hx hy]; omega) (fun u hu => hd_bounds hok.h u (partL_mem hu)))
  have h9 : ¬ (b.hs.length : Int) < (y : Int) := by omega
  clear hW0 hB hb hok
  go_enter Try.func15, Try.ntmps15
  go_wp2_with fail
  rw [← HW0.out]
  refine (HC.out _ (From.refl W0)).mono ?_
  rintro e u ⟨rfl, hbu⟩
  obtain ⟨z, rfl⟩ := later_of hbu
  clear hbu
  go_wp2_with fail
  refine (HF.out _).mono ?_
  rintro e u ⟨rfl, rfl⟩
  go_wp2_with fail
  refine (HOF.out _ z.fr).mono ?_
  rintro e u ⟨q1, c1, rfl, hq, _, hbu⟩
  have HHQ := Lib.hid hq
  obtain ⟨z2, hz⟩ := z.on hbu
  subst hz
  clear hbu hq
  go_wp2_with fail
  refine (HPL.out _ _ _ HHQ.out).mono ?_
  rintro e u ⟨rfl, hbu⟩
  obtain ⟨z3, hz⟩ := z2.on hbu
  subst hz
  clear hbu
  have HQ := Lib.hid (z3.fr.row HQ.out)
  have HE := Lib.hid (z3.base HE.out)
  have c0 := HQ.out.cell 0 (v := .int .i64 0) rfl
  have c1 := HQ.out.cell 1 (v := .int .i64 0) rfl
  have f0 := HQ.out.free 0
  have f1 := HQ.out.free 1
  go_wp2_with fail
  clear c0 c1 f0 f1
  have q := (HQ.out.set 0 (.int .i64 (sumF Hd.lo (partL b.hs x y)))).set 1 (.int .i64 (sumF Hd.hi (partL b.hs x y)))
  have e0 := q.cell 0 (v := .int .i64 (sumF Hd.lo (partL b.hs x y))) rfl
  have e1 := q.cell 1 (v := .int .i64 (sumF Hd.hi (partL b.hs x y))) rfl
  exact bodyPost_ret (v := .tuple #[.agg #[.int .i64 (sumF Hd.lo (partL b.hs x y)), .int .i64 (sumF Hd.hi (partL b.hs x y))], .int .i64 0]) (by simp [results, Try.results15, go_sem, e0, e1]) rfl
    ⟨rfl, (HE.out.setCell (by dsimp only; omega) _).setCell (by dsimp only; omega) _⟩

end Go.Proofs.Ytgdidhbomdfcpaa
