/- The walks of layer 5: a label is entered. -/
import Derived.Test.YtgdidhbomdfcpaaF11
import Derived.Test.YtgdidhbomdfcpaaLF
namespace Go.Proofs.Ytgdidhbomdfcpaa
open Go.RowKit Go.Maps
attribute [local go_sem] Oper.semAt_some

abbrev noBk : Array Value := #[.int .i64 0, .int .i64 0, .int .i64 0, .int .i64 0, .slice none 0 0, .map none]
set_option maxRecDepth 10000 in
set_option maxHeartbeats 1600000 in
theorem enter_bad (b : Bf) (p : Option Addr) (c : Nat) (w : World) (hB : BfAt w p c b) (hb : bookB b = false) :
    Calls Try.prog 67 #[.agg (bfA b p c)] w fun e w' => e = .returned (.tuple #[.agg noBk, .int .i64 50]) ∧ Below w.heap.size w w' := by
  obtain ⟨W0, hW0⟩ : ∃ W, W = ((w.alloc (.cells (bfA b p c) 24)).alloc (.cells noBk 79)) := ⟨_, rfl⟩
  have HW0 := Lib.hid hW0
  have HE := Lib.hid (show Below w.heap.size w W0 by rw [hW0]; exact below_alloc2 _ _ _)
  have HR := Lib.hid (show Row W0 w.heap.size (bfA b p c) 24 by rw [hW0]; exact (Row.new w _ _).alloc _)
  have HQ := Lib.hid (show Row W0 (w.heap.size + 1) noBk 79 by rw [hW0]; exact Row.new1 w _ _ _)
  have HB := Lib.hid hB
  have HC := Lib.hid (fun w' (q : From W0 w') => (by have h := Check_any b p c w' (hB.below (HE.out.trans (q.b.mono HE.out.size))); rw [bookE_bad hb] at h; exact h : Calls Try.prog 17 #[.agg (bfA b p c)] w' fun e w'' => e = .returned (.int .i64 50) ∧ Below w'.heap.size w' w''))
  have hzq := HQ.out.lt
  have g0 := HR.out.cell 0 (v := .int .i64 b.pr) rfl
  have g1 := HR.out.cell 1 (v := .int .i64 b.le) rfl
  have g2 := HR.out.cell 2 (v := .int .i64 b.mo) rfl
  have g3 := HR.out.cell 3 (v := .int .i64 b.gr) rfl
  have g4 := HR.out.cell 4 (v := .slice p b.hs.length c) rfl
  clear hW0 hB hb
  go_enter Try.func67, Try.ntmps67
  go_wp2_with fail
  rw [← HW0.out]
  refine (HC.out _ (From.refl W0)).mono ?_
  rintro e u ⟨rfl, hbu⟩
  obtain ⟨x, rfl⟩ := later_of hbu
  clear hbu
  have HQ := Lib.hid (x.fr.row HQ.out)
  have HE := Lib.hid (x.base HE.out)
  have c0 := HQ.out.cell 0 (v := .int .i64 0) rfl
  have c1 := HQ.out.cell 1 (v := .int .i64 0) rfl
  have c2 := HQ.out.cell 2 (v := .int .i64 0) rfl
  have c3 := HQ.out.cell 3 (v := .int .i64 0) rfl
  have c4 := HQ.out.cell 4 (v := .slice none 0 0) rfl
  have c5 := HQ.out.cell 5 (v := .map none) rfl
  have f0 := HQ.out.free 0
  have f1 := HQ.out.free 1
  have f2 := HQ.out.free 2
  have f3 := HQ.out.free 3
  have f4 := HQ.out.free 4
  have f5 := HQ.out.free 5
  go_wp2_with fail
  clear c0 f0 c1 f1 c2 f2 c3 f3 c4 f4 c5 f5
  have q := ((((((HQ.out.set 0 (.int .i64 0)).set 1 (.int .i64 0)).set 2 (.int .i64 0)).set 3 (.int .i64 0)).set 4 (.slice none 0 0)).set 5 (.map none))
  have e0 := q.cell 0 (v := .int .i64 0) rfl
  have e1 := q.cell 1 (v := .int .i64 0) rfl
  have e2 := q.cell 2 (v := .int .i64 0) rfl
  have e3 := q.cell 3 (v := .int .i64 0) rfl
  have e4 := q.cell 4 (v := .slice none 0 0) rfl
  have e5 := q.cell 5 (v := .map none) rfl
  exact bodyPost_ret (v := .tuple #[.agg noBk, .int .i64 50]) (by simp [results, Try.results67, go_sem, e0, e1, e2, e3, e4, e5]) rfl
    ⟨rfl, ((((((HE.out.setCell (by dsimp only; omega) _).setCell (by dsimp only; omega) _).setCell (by dsimp only; omega) _).setCell (by dsimp only; omega) _).setCell (by dsimp only; omega) _).setCell (by dsimp only; omega) _)⟩
/-- What a good label is entered as. -/
def GaveEnter (b : Bf) (p : Option Addr) (c : Nat) (w : World) (e : Ending) (w' : World) : Prop := ∃ mb, e = .returned (.tuple #[.agg (bkA b p c mb), .int .i64 0]) ∧ BkF w' p c mb b ∧ Below w.heap.size w w'
set_option maxRecDepth 10000 in
set_option maxHeartbeats 1600000 in
theorem enter_yes (b : Bf) (p : Option Addr) (c : Nat) (w : World) (hB : BfAt w p c b) (hb : bookB b = true) :
    Calls Try.prog 67 #[.agg (bfA b p c)] w (GaveEnter b p c w) := by
  obtain ⟨W0, hW0⟩ : ∃ W, W = ((w.alloc (.cells (bfA b p c) 24)).alloc (.cells noBk 79)) := ⟨_, rfl⟩
  have HW0 := Lib.hid hW0
  have HE := Lib.hid (show Below w.heap.size w W0 by rw [hW0]; exact below_alloc2 _ _ _)
  have HR := Lib.hid (show Row W0 w.heap.size (bfA b p c) 24 by rw [hW0]; exact (Row.new w _ _).alloc _)
  have HQ := Lib.hid (show Row W0 (w.heap.size + 1) noBk 79 by rw [hW0]; exact Row.new1 w _ _ _)
  have HB := Lib.hid hB
  have HC := Lib.hid (fun w' (q : From W0 w') => (by have h := Check_any b p c w' (hB.below (HE.out.trans (q.b.mono HE.out.size))); rw [bookE_ok hb] at h; exact h : Calls Try.prog 17 #[.agg (bfA b p c)] w' fun e w'' => e = .returned (.int .i64 0) ∧ Below w'.heap.size w' w''))
  have hzq := HQ.out.lt
  have g0 := HR.out.cell 0 (v := .int .i64 b.pr) rfl
  have g1 := HR.out.cell 1 (v := .int .i64 b.le) rfl
  have g2 := HR.out.cell 2 (v := .int .i64 b.mo) rfl
  have g3 := HR.out.cell 3 (v := .int .i64 b.gr) rfl
  have g4 := HR.out.cell 4 (v := .slice p b.hs.length c) rfl
  have HOK := Lib.hid (bookB_iff.1 hb)
  clear hW0 hB hb
  go_enter Try.func67, Try.ntmps67
  go_wp2_with fail
  rw [← HW0.out]
  refine (HC.out _ (From.refl W0)).mono ?_
  rintro e u ⟨rfl, hbu⟩
  obtain ⟨x, rfl⟩ := later_of hbu
  clear hbu
  go_wp2_with fail
  refine (open_any b p c x.w (HB.out.below (x.base HE.out)) HOK.out).mono ?_
  rintro e u ⟨mb, rfl, hs, hmb, hbu⟩
  have hx1 := x.b.size
  have HS := Lib.hid hs
  obtain ⟨y, hy⟩ := x.on hbu
  subst hy
  clear hbu hs
  have HQ := Lib.hid (y.fr.row HQ.out)
  have HE := Lib.hid (y.base HE.out)
  have c0 := HQ.out.cell 0 (v := .int .i64 0) rfl
  have c1 := HQ.out.cell 1 (v := .int .i64 0) rfl
  have c2 := HQ.out.cell 2 (v := .int .i64 0) rfl
  have c3 := HQ.out.cell 3 (v := .int .i64 0) rfl
  have c4 := HQ.out.cell 4 (v := .slice none 0 0) rfl
  have c5 := HQ.out.cell 5 (v := .map none) rfl
  have f0 := HQ.out.free 0
  have f1 := HQ.out.free 1
  have f2 := HQ.out.free 2
  have f3 := HQ.out.free 3
  have f4 := HQ.out.free 4
  have f5 := HQ.out.free 5
  go_wp2_with fail
  clear c0 f0 c1 f1 c2 f2 c3 f3 c4 f4 c5 f5
  have q := ((((((HQ.out.set 0 (.int .i64 b.pr)).set 1 (.int .i64 b.le)).set 2 (.int .i64 b.mo)).set 3 (.int .i64 b.gr)).set 4 (.slice p b.hs.length c)).set 5 (.map (some mb)))
  have e0 := q.cell 0 (v := .int .i64 b.pr) rfl
  have e1 := q.cell 1 (v := .int .i64 b.le) rfl
  have e2 := q.cell 2 (v := .int .i64 b.mo) rfl
  have e3 := q.cell 3 (v := .int .i64 b.gr) rfl
  have e4 := q.cell 4 (v := .slice p b.hs.length c) rfl
  have e5 := q.cell 5 (v := .map (some mb)) rfl
  have hEE : Below w.heap.size w ((((((y.w.setCell ⟨w.heap.size + 1, 0, none⟩ (.int .i64 b.pr)).setCell ⟨w.heap.size + 1, 1, none⟩ (.int .i64 b.le)).setCell ⟨w.heap.size + 1, 2, none⟩ (.int .i64 b.mo)).setCell ⟨w.heap.size + 1, 3, none⟩ (.int .i64 b.gr)).setCell ⟨w.heap.size + 1, 4, none⟩ (.slice p b.hs.length c)).setCell ⟨w.heap.size + 1, 5, none⟩ (.map (some mb))) := ((((((HE.out.setCell (by dsimp only; omega) _).setCell (by dsimp only; omega) _).setCell (by dsimp only; omega) _).setCell (by dsimp only; omega) _).setCell (by dsimp only; omega) _).setCell (by dsimp only; omega) _)
  exact bodyPost_ret (v := .tuple #[.agg (bkA b p c mb), .int .i64 0]) (by simp [results, Try.results67, go_sem, e0, e1, e2, e3, e4, e5]) rfl
    ⟨mb, rfl, ⟨HB.out.below hEE, HS.out.of_same (by iterate 6 rw [Below.heap_setCell _ _ _ _ (by dsimp only; omega)]), HOK.out⟩, hEE⟩
set_option maxRecDepth 10000 in
set_option maxHeartbeats 1600000 in
theorem IsPlan_bad (b : Bf) (p : Option Addr) (c : Nat) (q : Option Addr) (cq : Nat) (l : List Int) (w : World) (hB : BfAt w p c b) (hb : bookB b = false) :
    Calls Try.prog 24 #[.agg (bfA b p c), .slice q l.length cq] w fun e w' => e = .returned (.tuple #[.bool false, .int .i64 50]) ∧ Below w.heap.size w w' := by
  have hE := below_alloc w (.cells (bfA b p c) 24)
  have HB := Lib.hid (enter_bad b p c _ (hB.below hE) hb)
  have HE := Lib.hid hE
  have hz := hE.size
  clear hE hB hb
  go_enter Try.func24, Try.ntmps24
  go_wp2_with fail
  refine HB.out.mono ?_
  rintro e u ⟨rfl, hbu⟩
  have HE := Lib.hid (HE.out.trans (hbu.mono hz))
  clear hbu
  go_wp2_with fail
  go_ret2
  exact ⟨rfl, HE.out.alloc (HE.out.size) _⟩
set_option maxRecDepth 10000 in
set_option maxHeartbeats 1600000 in
theorem IsPlan_yes (b : Bf) (p : Option Addr) (c : Nat) (q : Option Addr) (cq : Nat) (l : List Int) (w : World) (hB : BfAt w p c b) (hb : bookB b = true) (hl : IntsAt w q l) (hn : l.length < 2 ^ 62) (h64 : ∀ i, i < l.length → I64 (at0 l i)) :
    Calls Try.prog 24 #[.agg (bfA b p c), .slice q l.length cq] w fun e w' => e = .returned (.tuple #[.bool (planB b l), .int .i64 0]) ∧ Below w.heap.size w w' := by
  have hE := below_alloc w (.cells (bfA b p c) 24)
  have HB := Lib.hid (enter_yes b p c _ (hB.below hE) hb)
  have HE := Lib.hid hE
  have HL := Lib.hid (hl.below hE)
  have H64 := Lib.hid h64
  have hz := hE.size
  clear hE hB hb hl h64
  go_enter Try.func24, Try.ntmps24
  go_wp2_with fail
  refine HB.out.mono ?_
  rintro e u ⟨mb, rfl, hk, hbu⟩
  have hb2 := below_alloc u (.cells (bkA b p c mb) 79)
  have HE := Lib.hid ((HE.out.trans (hbu.mono hz)).alloc ((HE.out.trans (hbu.mono hz)).size) (.cells (bkA b p c mb) 79))
  have HP := Lib.hid (isPlan_any b p c mb q cq l _ (hk.below hb2) ((HL.out.below hbu).below hb2) hn H64.out)
  have hz2 := HE.out.size
  clear hbu hb2 hk
  go_wp2_with fail
  refine HP.out.mono ?_
  rintro e v ⟨rfl, hbv⟩
  go_wp2_with fail
  go_ret2
  exact ⟨rfl, HE.out.trans (hbv.mono hz2)⟩
end Go.Proofs.Ytgdidhbomdfcpaa
