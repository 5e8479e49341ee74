/- The law's own helpers of layer 5: the chapter's books. -/
import Derived.Test.YtgdidhbomdfcpaaF33
import Derived.Test.YtgdidhbomdfcpaaF30
import Derived.Test.YtgdidhbomdfcpaaF17
namespace Go.Proofs.Ytgdidhbomdfcpaa
open Go.RowKit Go.Maps
attribute [local go_sem] Oper.semAt_some

theorem holds_hdV (hs : List Hd) : HoldsH ((hdV hs).toArray[·]?) hs := fun i hi => by
  obtain ⟨a, b⟩ := hdV_at hs i hi
  exact ⟨by simpa using a, by simpa using b⟩
/-- A book is returned. -/
def GaveBf (b : Bf) (w : World) (e : Ending) (w' : World) : Prop := ∃ p c, e = .returned (.agg (bfA b p c)) ∧ BfAt w' p c b ∧ Below w.heap.size w w'

def exB : Bf := ⟨50, 2, 3, 3, [⟨24, 26⟩, ⟨24, 26⟩, ⟨16, 18⟩, ⟨16, 17⟩, ⟨15, 18⟩, ⟨49, 52⟩, ⟨20, 30⟩]⟩
set_option maxRecDepth 10000 in
set_option maxHeartbeats 1600000 in
theorem book_any (w : World) : Calls Try.prog 57 #[] w (GaveBf exB w) := by
  obtain ⟨W0, hW0⟩ : ∃ W, W = w.alloc (.cells noBf 24) := ⟨_, rfl⟩
  have HW0 := Lib.hid hW0
  have HE := Lib.hid (show Below w.heap.size w W0 by rw [hW0]; exact below_alloc _ _)
  have HQ := Lib.hid (show Row W0 w.heap.size noBf 24 by rw [hW0]; exact Row.new w _ _)
  have hzq := HQ.out.lt
  clear hW0
  obtain ⟨z0, hz0⟩ : ∃ z : Later W0, W0 = z.w := ⟨⟨W0, Below.refl _ _⟩, rfl⟩
  have HZ0 := Lib.hid hz0
  clear hz0
  go_enter Try.func57, Try.ntmps57
  go_wp2_with fail
  rw [← HW0.out, HZ0.out]
  refine (Sp_any _ _ _).mono ?_
  rintro e u ⟨rfl, hbu⟩
  obtain ⟨z1, hz⟩ := z0.on hbu
  subst hz
  clear hbu
  go_wp2_with fail
  refine (Sp_any _ _ _).mono ?_
  rintro e u ⟨rfl, hbu⟩
  obtain ⟨z2, hz⟩ := z1.on hbu
  subst hz
  clear hbu
  go_wp2_with fail
  refine (Sp_any _ _ _).mono ?_
  rintro e u ⟨rfl, hbu⟩
  obtain ⟨z3, hz⟩ := z2.on hbu
  subst hz
  clear hbu
  go_wp2_with fail
  refine (Sp_any _ _ _).mono ?_
  rintro e u ⟨rfl, hbu⟩
  obtain ⟨z4, hz⟩ := z3.on hbu
  subst hz
  clear hbu
  go_wp2_with fail
  refine (Sp_any _ _ _).mono ?_
  rintro e u ⟨rfl, hbu⟩
  obtain ⟨z5, hz⟩ := z4.on hbu
  subst hz
  clear hbu
  go_wp2_with fail
  refine (Sp_any _ _ _).mono ?_
  rintro e u ⟨rfl, hbu⟩
  obtain ⟨z6, hz⟩ := z5.on hbu
  subst hz
  clear hbu
  go_wp2_with fail
  refine (Sp_any _ _ _).mono ?_
  rintro e u ⟨rfl, hbu⟩
  obtain ⟨z7, hz⟩ := z6.on hbu
  subst hz
  clear hbu
  have HQ1 := Lib.hid ((z7.fr.row HQ.out).alloc (.cells #[.int .i64 24, .int .i64 26, .int .i64 24, .int .i64 26, .int .i64 16, .int .i64 18, .int .i64 16, .int .i64 17, .int .i64 15, .int .i64 18, .int .i64 49, .int .i64 52, .int .i64 20, .int .i64 30] 27))
  have RC := Lib.hid (Row.new z7.w #[.int .i64 24, .int .i64 26, .int .i64 24, .int .i64 26, .int .i64 16, .int .i64 18, .int .i64 16, .int .i64 17, .int .i64 15, .int .i64 18, .int .i64 49, .int .i64 52, .int .i64 20, .int .i64 30] 27)
  have HE1 := Lib.hid ((z7.base HE.out).alloc (z7.base HE.out).size (.cells #[.int .i64 24, .int .i64 26, .int .i64 24, .int .i64 26, .int .i64 16, .int .i64 18, .int .i64 16, .int .i64 17, .int .i64 15, .int .i64 18, .int .i64 49, .int .i64 52, .int .i64 20, .int .i64 30] 27))
  have hzz := z7.b.size
  have c0 := HQ1.out.cell 0 (v := .int .i64 0) rfl
  have f0 := HQ1.out.free 0
  have c1 := HQ1.out.cell 1 (v := .int .i64 0) rfl
  have f1 := HQ1.out.free 1
  have c2 := HQ1.out.cell 2 (v := .int .i64 0) rfl
  have f2 := HQ1.out.free 2
  have c3 := HQ1.out.cell 3 (v := .int .i64 0) rfl
  have f3 := HQ1.out.free 3
  have c4 := HQ1.out.cell 4 (v := .slice none 0 0) rfl
  have f4 := HQ1.out.free 4
  have hs1 : (z7.w.alloc (.cells #[.int .i64 24, .int .i64 26, .int .i64 24, .int .i64 26, .int .i64 16, .int .i64 18, .int .i64 16, .int .i64 17, .int .i64 15, .int .i64 18, .int .i64 49, .int .i64 52, .int .i64 20, .int .i64 30] 27)).heap.size = z7.w.heap.size + 1 := by simp
  have HS1 := Lib.hid hs1
  clear hs1
  go_wp2_with fail
  clear c0 f0 c1 f1 c2 f2 c3 f3 c4 f4
  have qq : Row ((((((z7.w.alloc (.cells #[.int .i64 24, .int .i64 26, .int .i64 24, .int .i64 26, .int .i64 16, .int .i64 18, .int .i64 16, .int .i64 17, .int .i64 15, .int .i64 18, .int .i64 49, .int .i64 52, .int .i64 20, .int .i64 30] 27)).setCell ⟨w.heap.size, 0, none⟩ (.int .i64 50)).setCell ⟨w.heap.size, 1, none⟩ (.int .i64 2)).setCell ⟨w.heap.size, 2, none⟩ (.int .i64 3)).setCell ⟨w.heap.size, 3, none⟩ (.int .i64 3)).setCell ⟨w.heap.size, 4, none⟩ (.slice (some ⟨z7.w.heap.size, 0, none⟩) 7 7)) w.heap.size #[.int .i64 50, .int .i64 2, .int .i64 3, .int .i64 3, .slice (some ⟨z7.w.heap.size, 0, none⟩) 7 7] 24 := (((((HQ1.out.set 0 (.int .i64 50)).set 1 (.int .i64 2)).set 2 (.int .i64 3)).set 3 (.int .i64 3)).set 4 (.slice (some ⟨z7.w.heap.size, 0, none⟩) 7 7))
  have HE2 := Lib.hid (show Below w.heap.size w ((((((z7.w.alloc (.cells #[.int .i64 24, .int .i64 26, .int .i64 24, .int .i64 26, .int .i64 16, .int .i64 18, .int .i64 16, .int .i64 17, .int .i64 15, .int .i64 18, .int .i64 49, .int .i64 52, .int .i64 20, .int .i64 30] 27)).setCell ⟨w.heap.size, 0, none⟩ (.int .i64 50)).setCell ⟨w.heap.size, 1, none⟩ (.int .i64 2)).setCell ⟨w.heap.size, 2, none⟩ (.int .i64 3)).setCell ⟨w.heap.size, 3, none⟩ (.int .i64 3)).setCell ⟨w.heap.size, 4, none⟩ (.slice (some ⟨z7.w.heap.size, 0, none⟩) 7 7)) from (((((HE1.out.setCell (Nat.le_refl _) (.int .i64 50)).setCell (Nat.le_refl _) (.int .i64 2)).setCell (Nat.le_refl _) (.int .i64 3)).setCell (Nat.le_refl _) (.int .i64 3)).setCell (Nat.le_refl _) (.slice (some ⟨z7.w.heap.size, 0, none⟩) 7 7)))
  have RG := Lib.hid (((((RC.out.set_other ⟨w.heap.size, 0, none⟩ (.int .i64 50) (by dsimp only; omega)).set_other ⟨w.heap.size, 1, none⟩ (.int .i64 2) (by dsimp only; omega)).set_other ⟨w.heap.size, 2, none⟩ (.int .i64 3) (by dsimp only; omega)).set_other ⟨w.heap.size, 3, none⟩ (.int .i64 3) (by dsimp only; omega)).set_other ⟨w.heap.size, 4, none⟩ (.slice (some ⟨z7.w.heap.size, 0, none⟩) 7 7) (by dsimp only; omega))
  refine bodyPost_ret (v := .agg #[.int .i64 50, .int .i64 2, .int .i64 3, .int .i64 3, .slice (some ⟨z7.w.heap.size, 0, none⟩) 7 7]) (results_cell_row Try.results57 _ _ _ _ _ _ _ rfl qq Try.underlying24 rfl (by kernel_rfl)) rfl ?_
  exact ⟨some ⟨z7.w.heap.size, 0, none⟩, 7, rfl, ⟨hds_row (cur := (hdV exB.hs).toArray) RG.out (holds_hdV exB.hs), by decide, by decide, by unfold I64 exB; decide⟩, HE2.out⟩

def exE : Bf := ⟨50, 4, 4, 2, [⟨24, 26⟩, ⟨23, 26⟩, ⟨24, 27⟩, ⟨25, 25⟩]⟩
set_option maxRecDepth 10000 in
set_option maxHeartbeats 1600000 in
theorem even_any (w : World) : Calls Try.prog 58 #[] w (GaveBf exE w) := by
  obtain ⟨W0, hW0⟩ : ∃ W, W = w.alloc (.cells noBf 24) := ⟨_, rfl⟩
  have HW0 := Lib.hid hW0
  have HE := Lib.hid (show Below w.heap.size w W0 by rw [hW0]; exact below_alloc _ _)
  have HQ := Lib.hid (show Row W0 w.heap.size noBf 24 by rw [hW0]; exact Row.new w _ _)
  have hzq := HQ.out.lt
  clear hW0
  obtain ⟨z0, hz0⟩ : ∃ z : Later W0, W0 = z.w := ⟨⟨W0, Below.refl _ _⟩, rfl⟩
  have HZ0 := Lib.hid hz0
  clear hz0
  go_enter Try.func58, Try.ntmps58
  go_wp2_with fail
  rw [← HW0.out, HZ0.out]
  refine (Sp_any _ _ _).mono ?_
  rintro e u ⟨rfl, hbu⟩
  obtain ⟨z1, hz⟩ := z0.on hbu
  subst hz
  clear hbu
  go_wp2_with fail
  refine (Sp_any _ _ _).mono ?_
  rintro e u ⟨rfl, hbu⟩
  obtain ⟨z2, hz⟩ := z1.on hbu
  subst hz
  clear hbu
  go_wp2_with fail
  refine (Sp_any _ _ _).mono ?_
  rintro e u ⟨rfl, hbu⟩
  obtain ⟨z3, hz⟩ := z2.on hbu
  subst hz
  clear hbu
  go_wp2_with fail
  refine (Only_any _ _).mono ?_
  rintro e u ⟨rfl, hbu⟩
  obtain ⟨z4, hz⟩ := z3.on hbu
  subst hz
  clear hbu
  have HQ1 := Lib.hid ((z4.fr.row HQ.out).alloc (.cells #[.int .i64 24, .int .i64 26, .int .i64 23, .int .i64 26, .int .i64 24, .int .i64 27, .int .i64 25, .int .i64 25] 27))
  have RC := Lib.hid (Row.new z4.w #[.int .i64 24, .int .i64 26, .int .i64 23, .int .i64 26, .int .i64 24, .int .i64 27, .int .i64 25, .int .i64 25] 27)
  have HE1 := Lib.hid ((z4.base HE.out).alloc (z4.base HE.out).size (.cells #[.int .i64 24, .int .i64 26, .int .i64 23, .int .i64 26, .int .i64 24, .int .i64 27, .int .i64 25, .int .i64 25] 27))
  have hzz := z4.b.size
  have c0 := HQ1.out.cell 0 (v := .int .i64 0) rfl
  have f0 := HQ1.out.free 0
  have c1 := HQ1.out.cell 1 (v := .int .i64 0) rfl
  have f1 := HQ1.out.free 1
  have c2 := HQ1.out.cell 2 (v := .int .i64 0) rfl
  have f2 := HQ1.out.free 2
  have c3 := HQ1.out.cell 3 (v := .int .i64 0) rfl
  have f3 := HQ1.out.free 3
  have c4 := HQ1.out.cell 4 (v := .slice none 0 0) rfl
  have f4 := HQ1.out.free 4
  have hs1 : (z4.w.alloc (.cells #[.int .i64 24, .int .i64 26, .int .i64 23, .int .i64 26, .int .i64 24, .int .i64 27, .int .i64 25, .int .i64 25] 27)).heap.size = z4.w.heap.size + 1 := by simp
  have HS1 := Lib.hid hs1
  clear hs1
  go_wp2_with fail
  clear c0 f0 c1 f1 c2 f2 c3 f3 c4 f4
  have qq : Row ((((((z4.w.alloc (.cells #[.int .i64 24, .int .i64 26, .int .i64 23, .int .i64 26, .int .i64 24, .int .i64 27, .int .i64 25, .int .i64 25] 27)).setCell ⟨w.heap.size, 0, none⟩ (.int .i64 50)).setCell ⟨w.heap.size, 1, none⟩ (.int .i64 4)).setCell ⟨w.heap.size, 2, none⟩ (.int .i64 4)).setCell ⟨w.heap.size, 3, none⟩ (.int .i64 2)).setCell ⟨w.heap.size, 4, none⟩ (.slice (some ⟨z4.w.heap.size, 0, none⟩) 4 4)) w.heap.size #[.int .i64 50, .int .i64 4, .int .i64 4, .int .i64 2, .slice (some ⟨z4.w.heap.size, 0, none⟩) 4 4] 24 := (((((HQ1.out.set 0 (.int .i64 50)).set 1 (.int .i64 4)).set 2 (.int .i64 4)).set 3 (.int .i64 2)).set 4 (.slice (some ⟨z4.w.heap.size, 0, none⟩) 4 4))
  have HE2 := Lib.hid (show Below w.heap.size w ((((((z4.w.alloc (.cells #[.int .i64 24, .int .i64 26, .int .i64 23, .int .i64 26, .int .i64 24, .int .i64 27, .int .i64 25, .int .i64 25] 27)).setCell ⟨w.heap.size, 0, none⟩ (.int .i64 50)).setCell ⟨w.heap.size, 1, none⟩ (.int .i64 4)).setCell ⟨w.heap.size, 2, none⟩ (.int .i64 4)).setCell ⟨w.heap.size, 3, none⟩ (.int .i64 2)).setCell ⟨w.heap.size, 4, none⟩ (.slice (some ⟨z4.w.heap.size, 0, none⟩) 4 4)) from (((((HE1.out.setCell (Nat.le_refl _) (.int .i64 50)).setCell (Nat.le_refl _) (.int .i64 4)).setCell (Nat.le_refl _) (.int .i64 4)).setCell (Nat.le_refl _) (.int .i64 2)).setCell (Nat.le_refl _) (.slice (some ⟨z4.w.heap.size, 0, none⟩) 4 4)))
  have RG := Lib.hid (((((RC.out.set_other ⟨w.heap.size, 0, none⟩ (.int .i64 50) (by dsimp only; omega)).set_other ⟨w.heap.size, 1, none⟩ (.int .i64 4) (by dsimp only; omega)).set_other ⟨w.heap.size, 2, none⟩ (.int .i64 4) (by dsimp only; omega)).set_other ⟨w.heap.size, 3, none⟩ (.int .i64 2) (by dsimp only; omega)).set_other ⟨w.heap.size, 4, none⟩ (.slice (some ⟨z4.w.heap.size, 0, none⟩) 4 4) (by dsimp only; omega))
  refine bodyPost_ret (v := .agg #[.int .i64 50, .int .i64 4, .int .i64 4, .int .i64 2, .slice (some ⟨z4.w.heap.size, 0, none⟩) 4 4]) (results_cell_row Try.results58 _ _ _ _ _ _ _ rfl qq Try.underlying24 rfl (by kernel_rfl)) rfl ?_
  exact ⟨some ⟨z4.w.heap.size, 0, none⟩, 4, rfl, ⟨hds_row (cur := (hdV exE.hs).toArray) RG.out (holds_hdV exE.hs), by decide, by decide, by unfold I64 exE; decide⟩, HE2.out⟩

def exM : Bf := ⟨50, 3, 3, 2, [⟨30, 30⟩, ⟨17, 27⟩, ⟨25, 25⟩]⟩
set_option maxRecDepth 10000 in
set_option maxHeartbeats 1600000 in
theorem between_any (w : World) : Calls Try.prog 59 #[] w (GaveBf exM w) := by
  obtain ⟨W0, hW0⟩ : ∃ W, W = w.alloc (.cells noBf 24) := ⟨_, rfl⟩
  have HW0 := Lib.hid hW0
  have HE := Lib.hid (show Below w.heap.size w W0 by rw [hW0]; exact below_alloc _ _)
  have HQ := Lib.hid (show Row W0 w.heap.size noBf 24 by rw [hW0]; exact Row.new w _ _)
  have hzq := HQ.out.lt
  clear hW0
  obtain ⟨z0, hz0⟩ : ∃ z : Later W0, W0 = z.w := ⟨⟨W0, Below.refl _ _⟩, rfl⟩
  have HZ0 := Lib.hid hz0
  clear hz0
  go_enter Try.func59, Try.ntmps59
  go_wp2_with fail
  rw [← HW0.out, HZ0.out]
  refine (Only_any _ _).mono ?_
  rintro e u ⟨rfl, hbu⟩
  obtain ⟨z1, hz⟩ := z0.on hbu
  subst hz
  clear hbu
  go_wp2_with fail
  refine (Sp_any _ _ _).mono ?_
  rintro e u ⟨rfl, hbu⟩
  obtain ⟨z2, hz⟩ := z1.on hbu
  subst hz
  clear hbu
  go_wp2_with fail
  refine (Only_any _ _).mono ?_
  rintro e u ⟨rfl, hbu⟩
  obtain ⟨z3, hz⟩ := z2.on hbu
  subst hz
  clear hbu
  have HQ1 := Lib.hid ((z3.fr.row HQ.out).alloc (.cells #[.int .i64 30, .int .i64 30, .int .i64 17, .int .i64 27, .int .i64 25, .int .i64 25] 27))
  have RC := Lib.hid (Row.new z3.w #[.int .i64 30, .int .i64 30, .int .i64 17, .int .i64 27, .int .i64 25, .int .i64 25] 27)
  have HE1 := Lib.hid ((z3.base HE.out).alloc (z3.base HE.out).size (.cells #[.int .i64 30, .int .i64 30, .int .i64 17, .int .i64 27, .int .i64 25, .int .i64 25] 27))
  have hzz := z3.b.size
  have c0 := HQ1.out.cell 0 (v := .int .i64 0) rfl
  have f0 := HQ1.out.free 0
  have c1 := HQ1.out.cell 1 (v := .int .i64 0) rfl
  have f1 := HQ1.out.free 1
  have c2 := HQ1.out.cell 2 (v := .int .i64 0) rfl
  have f2 := HQ1.out.free 2
  have c3 := HQ1.out.cell 3 (v := .int .i64 0) rfl
  have f3 := HQ1.out.free 3
  have c4 := HQ1.out.cell 4 (v := .slice none 0 0) rfl
  have f4 := HQ1.out.free 4
  have hs1 : (z3.w.alloc (.cells #[.int .i64 30, .int .i64 30, .int .i64 17, .int .i64 27, .int .i64 25, .int .i64 25] 27)).heap.size = z3.w.heap.size + 1 := by simp
  have HS1 := Lib.hid hs1
  clear hs1
  go_wp2_with fail
  clear c0 f0 c1 f1 c2 f2 c3 f3 c4 f4
  have qq : Row ((((((z3.w.alloc (.cells #[.int .i64 30, .int .i64 30, .int .i64 17, .int .i64 27, .int .i64 25, .int .i64 25] 27)).setCell ⟨w.heap.size, 0, none⟩ (.int .i64 50)).setCell ⟨w.heap.size, 1, none⟩ (.int .i64 3)).setCell ⟨w.heap.size, 2, none⟩ (.int .i64 3)).setCell ⟨w.heap.size, 3, none⟩ (.int .i64 2)).setCell ⟨w.heap.size, 4, none⟩ (.slice (some ⟨z3.w.heap.size, 0, none⟩) 3 3)) w.heap.size #[.int .i64 50, .int .i64 3, .int .i64 3, .int .i64 2, .slice (some ⟨z3.w.heap.size, 0, none⟩) 3 3] 24 := (((((HQ1.out.set 0 (.int .i64 50)).set 1 (.int .i64 3)).set 2 (.int .i64 3)).set 3 (.int .i64 2)).set 4 (.slice (some ⟨z3.w.heap.size, 0, none⟩) 3 3))
  have HE2 := Lib.hid (show Below w.heap.size w ((((((z3.w.alloc (.cells #[.int .i64 30, .int .i64 30, .int .i64 17, .int .i64 27, .int .i64 25, .int .i64 25] 27)).setCell ⟨w.heap.size, 0, none⟩ (.int .i64 50)).setCell ⟨w.heap.size, 1, none⟩ (.int .i64 3)).setCell ⟨w.heap.size, 2, none⟩ (.int .i64 3)).setCell ⟨w.heap.size, 3, none⟩ (.int .i64 2)).setCell ⟨w.heap.size, 4, none⟩ (.slice (some ⟨z3.w.heap.size, 0, none⟩) 3 3)) from (((((HE1.out.setCell (Nat.le_refl _) (.int .i64 50)).setCell (Nat.le_refl _) (.int .i64 3)).setCell (Nat.le_refl _) (.int .i64 3)).setCell (Nat.le_refl _) (.int .i64 2)).setCell (Nat.le_refl _) (.slice (some ⟨z3.w.heap.size, 0, none⟩) 3 3)))
  have RG := Lib.hid (((((RC.out.set_other ⟨w.heap.size, 0, none⟩ (.int .i64 50) (by dsimp only; omega)).set_other ⟨w.heap.size, 1, none⟩ (.int .i64 3) (by dsimp only; omega)).set_other ⟨w.heap.size, 2, none⟩ (.int .i64 3) (by dsimp only; omega)).set_other ⟨w.heap.size, 3, none⟩ (.int .i64 2) (by dsimp only; omega)).set_other ⟨w.heap.size, 4, none⟩ (.slice (some ⟨z3.w.heap.size, 0, none⟩) 3 3) (by dsimp only; omega))
  refine bodyPost_ret (v := .agg #[.int .i64 50, .int .i64 3, .int .i64 3, .int .i64 2, .slice (some ⟨z3.w.heap.size, 0, none⟩) 3 3]) (results_cell_row Try.results59 _ _ _ _ _ _ _ rfl qq Try.underlying24 rfl (by kernel_rfl)) rfl ?_
  exact ⟨some ⟨z3.w.heap.size, 0, none⟩, 3, rfl, ⟨hds_row (cur := (hdV exM.hs).toArray) RG.out (holds_hdV exM.hs), by decide, by decide, by unfold I64 exM; decide⟩, HE2.out⟩

end Go.Proofs.Ytgdidhbomdfcpaa
/- The law's own helpers of layer 5: what the calls return of the chapter's books. -/
namespace Go.Proofs.Ytgdidhbomdfcpaa
open Go.RowKit Go.Maps

theorem exB_ok : bookB exB = true := by kernel_rfl
theorem exE_ok : bookB exE = true := by kernel_rfl
theorem exM_ok : bookB exM = true := by kernel_rfl
theorem exSum (p : Option Addr) (c : Nat) (w : World) (hB : BfAt w p c exB) : Calls Try.prog 15 #[.agg (bfA exB p c), .int .i64 2, .int .i64 5] w fun e w' => e = .returned (.tuple #[.agg #[.int .i64 47, .int .i64 53], .int .i64 0]) ∧ Below w.heap.size w w' := by
  have h := Sum_yes exB p c 2 5 w hB exB_ok (by decide) (by decide)
  rw [show loB exB 2 5 = 47 by kernel_rfl, show hiB exB 2 5 = 53 by kernel_rfl] at h
  exact h
theorem exKind (p : Option Addr) (c : Nat) (w : World) (hB : BfAt w p c exB) : Calls Try.prog 19 #[.agg (bfA exB p c), .int .i64 5, .int .i64 7] w fun e w' => e = .returned (.tuple #[.int .i64 2, .int .i64 0]) ∧ Below w.heap.size w w' := by
  have h := Kind_yes exB p c 5 7 w hB exB_ok (by unfold I64; omega) (by unfold I64; omega) (by kernel_rfl)
  rw [show kindS exB (loF exB 5 7) (hiF exB 5 7) = 2 by kernel_rfl] at h
  exact h
theorem sortL_sorted (l : List Int) : (sortL l).Pairwise fun a b => a ≤ b :=
  (List.pairwise_mergeSort (le := fun x y => decide (x ≤ y)) (fun a b c h1 h2 => by simp only [decide_eq_true_eq] at *; omega) (fun a b => by simp only [Bool.or_eq_true, decide_eq_true_eq]; omega) l).imp fun h => by simpa using h
theorem sortL_eq {l m : List Int} (hs : m.Pairwise fun a b => a ≤ b) (hp : m.Perm l) : sortL l = m :=
  List.Perm.eq_of_pairwise (le := fun a b => a ≤ b) (fun a b _ _ h1 h2 => Int.le_antisymm h1 h2) (sortL_sorted l) hs ((sortL_perm l).trans hp.symm)
theorem sort_one : sortL [24, 23, 24, 25] = [23, 24, 24, 25] := sortL_eq (by decide) (by decide)
theorem sort_two : sortL [26, 26, 27, 25] = [25, 26, 26, 27] := sortL_eq (by decide) (by decide)
theorem exAny (p : Option Addr) (c : Nat) (w : World) (hB : BfAt w p c exE) : Calls Try.prog 21 #[.agg (bfA exE p c), .int .i64 2] w fun e w' => e = .returned (.tuple #[.bool true, .int .i64 0]) ∧ Below w.heap.size w w' := by
  have h := Any_yes exE p c 2 w hB exE_ok (by decide) (by decide)
  rw [show (kindS exE (lowAny exE 2) (highAny exE 2) == 0) = true by
    rw [show lowAny exE 2 = 47 by unfold lowAny; rw [show endL Hd.lo exE.hs = [24, 23, 24, 25] from rfl, sort_one]; rfl,
      show highAny exE 2 = 53 by unfold highAny; rw [show endL Hd.hi exE.hs = [26, 26, 27, 25] from rfl, sort_two]; rfl]
    kernel_rfl] at h
  exact h
theorem exPlanI : ∀ i, i < [2, 5, 6, 7].length → I64 (at0 [2, 5, 6, 7] i) := by
  have h : ∀ i : Fin 4, I64 (at0 [2, 5, 6, 7] i.val) := by unfold I64; decide
  exact fun i hi => h ⟨i, hi⟩
theorem exByHand (p : Option Addr) (c : Nat) (q : Option Addr) (w : World) (hB : BfAt w p c exB) (hl : IntsAt w q [2, 5, 6, 7]) : Calls Try.prog 26 #[.agg (bfA exB p c), .slice q 4 4] w fun e w' => ∃ ph ch, e = .returned (.tuple #[.slice ph 2 ch, .int .i64 0]) ∧ IntsAt w' ph [1, 3] ∧ Below w.heap.size w w' := by
  have h := ByHand_yes exB p c q 4 [2, 5, 6, 7] w hB exB_ok hl (by decide) exPlanI (by kernel_rfl)
  refine h.mono fun e w' h => ?_
  obtain ⟨ph, ch, h1, h2, h3⟩ := h
  rw [show handL exB [2, 5, 6, 7] = [1, 3] by kernel_rfl] at h1 h2
  exact ⟨ph, ch, h1, h2, h3⟩
theorem exOver (p : Option Addr) (c : Nat) (q : Option Addr) (w : World) (hB : BfAt w p c exB) (hl : IntsAt w q [2, 5, 6, 7]) : Calls Try.prog 29 #[.agg (bfA exB p c), .slice q 4 4] w fun e w' => e = .returned (.tuple #[.agg #[.int .i64 (-3), .int .i64 4], .int .i64 0]) ∧ Below w.heap.size w w' := by
  have h := Over_yes exB p c q 4 [2, 5, 6, 7] w hB exB_ok hl (by decide) exPlanI (by kernel_rfl)
  rw [show overV Hd.lo exB [2, 5, 6, 7] = -3 by kernel_rfl, show overV Hd.hi exB [2, 5, 6, 7] = 4 by kernel_rfl] at h
  exact h
theorem exIsPlan (p : Option Addr) (c : Nat) (q : Option Addr) (w : World) (hB : BfAt w p c exB) (hl : IntsAt w q [2, 5, 6, 7]) : Calls Try.prog 24 #[.agg (bfA exB p c), .slice q 4 4] w fun e w' => e = .returned (.tuple #[.bool true, .int .i64 0]) ∧ Below w.heap.size w w' := by
  have h := IsPlan_yes exB p c q 4 [2, 5, 6, 7] w hB exB_ok hl (by decide) exPlanI
  rw [show planB exB [2, 5, 6, 7] = true by kernel_rfl] at h
  exact h
/-- A list is returned, without an error. -/
def GaveList0 (l : List Int) (w : World) (e : Ending) (w' : World) : Prop := ∃ q c, e = .returned (.tuple #[.slice q l.length c, .int .i64 0]) ∧ IntsAt w' q l ∧ Below w.heap.size w w'
theorem exBest (p : Option Addr) (c : Nat) (w : World) (hB : BfAt w p c exB) : Calls Try.prog 31 #[.agg (bfA exB p c)] w (GaveList0 [2, 5, 6, 7] w) := by
  have h := Best_yes exB p c w hB exB_ok
  refine h.mono fun e w' h => ?_
  obtain ⟨q, cq, h1, h2, h3⟩ := h
  rw [show bestQ exB = [2, 5, 6, 7] by kernel_rfl] at h1 h2
  exact ⟨q, cq, h1, h2, h3⟩
theorem exBestM (p : Option Addr) (c : Nat) (w : World) (hB : BfAt w p c exM) : Calls Try.prog 31 #[.agg (bfA exM p c)] w (GaveList0 [1, 3] w) := by
  have h := Best_yes exM p c w hB exM_ok
  refine h.mono fun e w' h => ?_
  obtain ⟨q, cq, h1, h2, h3⟩ := h
  rw [show bestQ exM = [1, 3] by kernel_rfl] at h1 h2
  exact ⟨q, cq, h1, h2, h3⟩
theorem exBoxes (p : Option Addr) (c : Nat) (w : World) (hB : BfAt w p c exB) : Calls Try.prog 33 #[.agg (bfA exB p c)] w fun e w' => e = .returned (.tuple #[.int .i64 2, .int .i64 0]) ∧ Below w.heap.size w w' := by
  have h := Boxes_yes exB p c w hB exB_ok
  rw [show ((rightL exB (bestR exB)).length : Int) = 2 by kernel_rfl] at h
  exact h
theorem exAsk (p : Option Addr) (c : Nat) (w : World) (hB : BfAt w p c exM) : Calls Try.prog 35 #[.agg (bfA exM p c)] w fun e w' => e = .returned (.tuple #[.int .i64 1, .int .i64 0]) ∧ Below w.heap.size w w' := by
  have h := Ask_yes exM p c w hB exM_ok (by decide)
  rw [show askV exM = 1 by kernel_rfl] at h
  exact h
end Go.Proofs.Ytgdidhbomdfcpaa
/- The law's own helper of layer 5: the chapter's examples. -/
namespace Go.Proofs.Ytgdidhbomdfcpaa
open Go.RowKit Go.Maps
attribute [local go_sem] Oper.semAt_some

theorem ints_new (w : World) (l : List Int) (t : TypeId) : IntsAt (w.alloc (.cells (intsA l) t)) (some ⟨w.heap.size, 0, none⟩) l := ints_row (Row.new w (intsA l) t)
theorem new13 (w : World) (t : TypeId) : IntsAt (w.alloc (.cells #[.int .i64 1, .int .i64 3] t)) (some ⟨w.heap.size, 0, none⟩) [1, 3] := ints_new w [1, 3] t
theorem new4 (w : World) (t : TypeId) : IntsAt (w.alloc (.cells #[.int .i64 2, .int .i64 5, .int .i64 6, .int .i64 7] t)) (some ⟨w.heap.size, 0, none⟩) [2, 5, 6, 7] := ints_new w [2, 5, 6, 7] t
theorem al13 (p q : Option Addr) (c d : Nat) (w : World) (hc : IntsAt w p [1, 3]) (hd : IntsAt w q [1, 3]) : Calls Try.prog 28 #[.slice p 2 c, .slice q 2 d] w fun e w' => e = .returned (.bool true) ∧ Below w.heap.size w w' := by
  have h := Alike_any p q c d [1, 3] [1, 3] w (by decide) hc hd
  rw [show decide (([1, 3] : List Int) = [1, 3]) = true by decide] at h
  exact h
theorem al4 (p q : Option Addr) (c d : Nat) (w : World) (hc : IntsAt w p [2, 5, 6, 7]) (hd : IntsAt w q [2, 5, 6, 7]) : Calls Try.prog 28 #[.slice p 4 c, .slice q 4 d] w fun e w' => e = .returned (.bool true) ∧ Below w.heap.size w w' := by
  have h := Alike_any p q c d [2, 5, 6, 7] [2, 5, 6, 7] w (by decide) hc hd
  rw [show decide (([2, 5, 6, 7] : List Int) = [2, 5, 6, 7]) = true by decide] at h
  exact h
set_option maxRecDepth 100000 in
set_option maxHeartbeats 3200000 in
theorem filled_any (w : World) : Calls Try.prog 23 #[] w fun e w' => e = .returned (.bool true) ∧ Below w.heap.size w w' := by
  go_enter Try.func23, Try.ntmps23
  have HB := Lib.hid (Below.refl w.heap.size w)
  go_wp2_with fail
  refine (book_any _).mono ?_
  rintro e w1 ⟨p1, c1, rfl, hk, hb⟩
  have HB := Lib.hid (HB.out.trans (hb.mono HB.out.size))
  have HK := Lib.hid hk
  clear hb hk
  go_wp2_with fail
  refine (exSum _ _ _ HK.out).mono ?_
  rintro e w2 ⟨rfl, hb⟩
  have HB := Lib.hid (HB.out.trans (hb.mono HB.out.size))
  have HK := Lib.hid (HK.out.below hb)
  clear hb
  have hb := below_alloc w2 (.cells #[.int .i64 47, .int .i64 53] 27)
  have HB := Lib.hid (HB.out.trans (hb.mono HB.out.size))
  have RS := Lib.hid (Row.new w2 #[.int .i64 47, .int .i64 53] 27)
  clear hb
  go_wp2_with fail
  refine (book_any _).mono ?_
  rintro e w3 ⟨p3, c3, rfl, hk, hb⟩
  have HB := Lib.hid (HB.out.trans (hb.mono HB.out.size))
  have RS := Lib.hid (RS.out.below hb RS.out.lt)
  have HK := Lib.hid hk
  clear hb hk
  go_wp2_with fail
  refine (exKind _ _ _ HK.out).mono ?_
  rintro e w4 ⟨rfl, hb⟩
  have HB := Lib.hid (HB.out.trans (hb.mono HB.out.size))
  have RS := Lib.hid (RS.out.below hb RS.out.lt)
  have HK := Lib.hid (HK.out.below hb)
  clear hb
  go_wp2_with fail
  refine (even_any _).mono ?_
  rintro e w5 ⟨p5, c5, rfl, hk, hb⟩
  have HB := Lib.hid (HB.out.trans (hb.mono HB.out.size))
  have RS := Lib.hid (RS.out.below hb RS.out.lt)
  have HK := Lib.hid hk
  clear hb hk
  go_wp2_with fail
  refine (exAny _ _ _ HK.out).mono ?_
  rintro e w6 ⟨rfl, hb⟩
  have HB := Lib.hid (HB.out.trans (hb.mono HB.out.size))
  have RS := Lib.hid (RS.out.below hb RS.out.lt)
  have HK := Lib.hid (HK.out.below hb)
  clear hb
  go_wp2_with fail
  refine (book_any _).mono ?_
  rintro e w7 ⟨p7, c7, rfl, hk, hb⟩
  have HB := Lib.hid (HB.out.trans (hb.mono HB.out.size))
  have RS := Lib.hid (RS.out.below hb RS.out.lt)
  have HK := Lib.hid hk
  clear hb hk
  have hb := below_alloc w7 (.cells #[.int .i64 2, .int .i64 5, .int .i64 6, .int .i64 7] 3)
  have HB := Lib.hid (HB.out.trans (hb.mono HB.out.size))
  have RS := Lib.hid (RS.out.below hb RS.out.lt)
  have HK := Lib.hid (HK.out.below hb)
  have HL := Lib.hid (new4 w7 3)
  clear hb
  go_wp2_with fail
  refine (exByHand _ _ _ _ HK.out HL.out).mono ?_
  rintro e w8 ⟨ph, ch, rfl, hi, hb⟩
  have HB := Lib.hid (HB.out.trans (hb.mono HB.out.size))
  have RS := Lib.hid (RS.out.below hb RS.out.lt)
  have HK := Lib.hid (HK.out.below hb)
  have HL := Lib.hid (HL.out.below hb)
  have HH := Lib.hid hi
  clear hb hi
  go_wp2_with fail
  refine (book_any _).mono ?_
  rintro e w9 ⟨p9, c9, rfl, hk, hb⟩
  have HB := Lib.hid (HB.out.trans (hb.mono HB.out.size))
  have RS := Lib.hid (RS.out.below hb RS.out.lt)
  have HH := Lib.hid (HH.out.below hb)
  have HK := Lib.hid hk
  clear hb hk
  have hb := below_alloc w9 (.cells #[.int .i64 2, .int .i64 5, .int .i64 6, .int .i64 7] 3)
  have HB := Lib.hid (HB.out.trans (hb.mono HB.out.size))
  have RS := Lib.hid (RS.out.below hb RS.out.lt)
  have HH := Lib.hid (HH.out.below hb)
  have HK := Lib.hid (HK.out.below hb)
  have HL := Lib.hid (new4 w9 3)
  clear hb
  go_wp2_with fail
  refine (exOver _ _ _ _ HK.out HL.out).mono ?_
  rintro e w10 ⟨rfl, hb⟩
  have HB := Lib.hid (HB.out.trans (hb.mono HB.out.size))
  have RS := Lib.hid (RS.out.below hb RS.out.lt)
  have HH := Lib.hid (HH.out.below hb)
  have HK := Lib.hid (HK.out.below hb)
  have HL := Lib.hid (HL.out.below hb)
  clear hb
  have hb := below_alloc w10 (.cells #[.int .i64 (-3), .int .i64 4] 27)
  have HB := Lib.hid (HB.out.trans (hb.mono HB.out.size))
  have RS := Lib.hid (RS.out.below hb RS.out.lt)
  have HH := Lib.hid (HH.out.below hb)
  have RO := Lib.hid (Row.new w10 #[.int .i64 (-3), .int .i64 4] 27)
  clear hb
  obtain ⟨wx, hwx⟩ : ∃ x, x = w10.alloc (.cells #[.int .i64 (-3), .int .i64 4] 27) := ⟨_, rfl⟩
  have HWX := Lib.hid hwx
  clear hwx
  go_upto_region 6 with (fail)
  rw [← HWX.out] at HB RS HH RO
  rw [← HWX.out]
  have HS := Lib.hid (fun w' (k : From wx w') => (⟨(k.row RS.out).cell 0 rfl, (k.row RS.out).cell 1 rfl, (k.row RO.out).cell 0 rfl, (k.row RO.out).cell 1 rfl⟩ : w'.cell? ⟨w2.heap.size, 0, none⟩ = some (.int .i64 47) ∧ w'.cell? ⟨w2.heap.size, 1, none⟩ = some (.int .i64 53) ∧ w'.cell? ⟨w10.heap.size, 0, none⟩ = some (.int .i64 (-3)) ∧ w'.cell? ⟨w10.heap.size, 1, none⟩ = some (.int .i64 4)))
  have KI := Lib.hid (From.refl wx)
  go_region_held3 (fun w' => w'.cell? ⟨w2.heap.size, 0, none⟩ = some (.int .i64 47) ∧ w'.cell? ⟨w2.heap.size, 1, none⟩ = some (.int .i64 53) ∧ w'.cell? ⟨w10.heap.size, 0, none⟩ = some (.int .i64 (-3)) ∧ w'.cell? ⟨w10.heap.size, 1, none⟩ = some (.int .i64 4)) (first | with_reducible exact HS.out _ KI.out | with_reducible exact HS.out _ KI.out.drew | with_reducible exact HS.out _ (KI.out.below (below_alloc _ _)) | with_reducible exact HS.out _ (KI.out.drew.below (below_alloc _ _)))
    (first | (go_at_call 53; (with_reducible refine (Sp_any _ _ _).mono ?_); rintro e u ⟨rfl, hbu⟩; have KI := Lib.hid (by first | with_reducible exact KI.out.drew.below hbu | with_reducible exact KI.out.below hbu | with_reducible exact (KI.out.below (below_alloc _ _)).below hbu | with_reducible exact (KI.out.drew.below (below_alloc _ _)).below hbu); clear hbu) | (go_at_call 28; (with_reducible refine (al13 ph _ ch 2 _ (by first | with_reducible exact (KI.out.below (below_alloc _ _)).ints HH.out | with_reducible exact (KI.out.drew.below (below_alloc _ _)).ints HH.out) (new13 _ _)).mono ?_); rintro e u ⟨rfl, hbu⟩; have KI := Lib.hid (by first | with_reducible exact KI.out.drew.below hbu | with_reducible exact KI.out.below hbu | with_reducible exact (KI.out.below (below_alloc _ _)).below hbu | with_reducible exact (KI.out.drew.below (below_alloc _ _)).below hbu); clear hbu))
  all_goals
    have HB := Lib.hid (HB.out.trans (KI.out.b.mono HB.out.size))
    clear KI HS RS RO HH
    go_wp2_with fail
    refine (book_any _).mono ?_
    rintro e w11 ⟨p11, c11, rfl, hk, hb⟩
    have HB := Lib.hid (HB.out.trans (hb.mono HB.out.size))
    have HK := Lib.hid hk
    clear hb hk
    go_wp2_with fail
    refine (exBest _ _ _ HK.out).mono ?_
    rintro e w12 ⟨qa, ca, rfl, hi, hb⟩
    have HB := Lib.hid (HB.out.trans (hb.mono HB.out.size))
    have HK := Lib.hid (HK.out.below hb)
    have HP := Lib.hid hi
    clear hb hi
    go_wp2_with fail
    refine (between_any _).mono ?_
    rintro e w13 ⟨p13, c13, rfl, hk, hb⟩
    have HB := Lib.hid (HB.out.trans (hb.mono HB.out.size))
    have HP := Lib.hid (HP.out.below hb)
    have HK := Lib.hid hk
    clear hb hk
    go_wp2_with fail
    refine (exBestM _ _ _ HK.out).mono ?_
    rintro e w14 ⟨qb, cb, rfl, hi, hb⟩
    have HB := Lib.hid (HB.out.trans (hb.mono HB.out.size))
    have HP := Lib.hid (HP.out.below hb)
    have HK := Lib.hid (HK.out.below hb)
    have HQ := Lib.hid hi
    clear hb hi
    go_wp2_with fail
    refine (book_any _).mono ?_
    rintro e w15 ⟨p15, c15, rfl, hk, hb⟩
    have HB := Lib.hid (HB.out.trans (hb.mono HB.out.size))
    have HP := Lib.hid (HP.out.below hb)
    have HQ := Lib.hid (HQ.out.below hb)
    have HK := Lib.hid hk
    clear hb hk
    go_wp2_with fail
    refine (exBoxes _ _ _ HK.out).mono ?_
    rintro e w16 ⟨rfl, hb⟩
    have HB := Lib.hid (HB.out.trans (hb.mono HB.out.size))
    have HP := Lib.hid (HP.out.below hb)
    have HQ := Lib.hid (HQ.out.below hb)
    have HK := Lib.hid (HK.out.below hb)
    clear hb
    go_wp2_with fail
    refine (between_any _).mono ?_
    rintro e w17 ⟨p17, c17, rfl, hk, hb⟩
    have HB := Lib.hid (HB.out.trans (hb.mono HB.out.size))
    have HP := Lib.hid (HP.out.below hb)
    have HQ := Lib.hid (HQ.out.below hb)
    have HK := Lib.hid hk
    clear hb hk
    go_wp2_with fail
    refine (exAsk _ _ _ HK.out).mono ?_
    rintro e w18 ⟨rfl, hb⟩
    have HB := Lib.hid (HB.out.trans (hb.mono HB.out.size))
    have HP := Lib.hid (HP.out.below hb)
    have HQ := Lib.hid (HQ.out.below hb)
    have HK := Lib.hid (HK.out.below hb)
    clear hb
    go_wp2_with fail
    refine (book_any _).mono ?_
    rintro e w19 ⟨p19, c19, rfl, hk, hb⟩
    have HB := Lib.hid (HB.out.trans (hb.mono HB.out.size))
    have HP := Lib.hid (HP.out.below hb)
    have HQ := Lib.hid (HQ.out.below hb)
    have HK := Lib.hid hk
    clear hb hk
    have hb := below_alloc w19 (.cells #[.int .i64 2, .int .i64 5, .int .i64 6, .int .i64 7] 3)
    have HB := Lib.hid (HB.out.trans (hb.mono HB.out.size))
    have HP := Lib.hid (HP.out.below hb)
    have HQ := Lib.hid (HQ.out.below hb)
    have HK := Lib.hid (HK.out.below hb)
    have HL := Lib.hid (new4 w19 3)
    clear hb
    go_wp2_with fail
    refine (exIsPlan _ _ _ _ HK.out HL.out).mono ?_
    rintro e w20 ⟨rfl, hb⟩
    have HB := Lib.hid (HB.out.trans (hb.mono HB.out.size))
    have HP := Lib.hid (HP.out.below hb)
    have HQ := Lib.hid (HQ.out.below hb)
    have HK := Lib.hid (HK.out.below hb)
    have HL := Lib.hid (HL.out.below hb)
    clear hb
    go_wp2_with fail
    have hb := below_alloc w20 (.cells #[.int .i64 2, .int .i64 5, .int .i64 6, .int .i64 7] 3)
    have HB := Lib.hid (HB.out.trans (hb.mono HB.out.size))
    have HP := Lib.hid (HP.out.below hb)
    have HQ := Lib.hid (HQ.out.below hb)
    have HL := Lib.hid (new4 w20 3)
    clear hb
    refine (al4 _ _ _ _ _ HP.out HL.out).mono ?_
    rintro e w21 ⟨rfl, hb⟩
    have HB := Lib.hid (HB.out.trans (hb.mono HB.out.size))
    have HP := Lib.hid (HP.out.below hb)
    have HQ := Lib.hid (HQ.out.below hb)
    have HL := Lib.hid (HL.out.below hb)
    clear hb
    go_wp2_with fail
    have hb := below_alloc w21 (.cells #[.int .i64 1, .int .i64 3] 3)
    have HB := Lib.hid (HB.out.trans (hb.mono HB.out.size))
    have HP := Lib.hid (HP.out.below hb)
    have HQ := Lib.hid (HQ.out.below hb)
    have HL := Lib.hid (new13 w21 3)
    clear hb
    refine (al13 _ _ _ _ _ HQ.out HL.out).mono ?_
    rintro e w22 ⟨rfl, hb⟩
    have HB := Lib.hid (HB.out.trans (hb.mono HB.out.size))
    have HP := Lib.hid (HP.out.below hb)
    have HQ := Lib.hid (HQ.out.below hb)
    have HL := Lib.hid (HL.out.below hb)
    clear hb
    go_wp2
    go_ret
    exact ⟨rfl, HB.out⟩
end Go.Proofs.Ytgdidhbomdfcpaa
