/- The law's own helpers of layer 5: the chapter's books. -/
import Derived.Test.YtgdidhbomdfcpaaF33
import Derived.Test.YtgdidhbomdfcpaaF30
import Derived.Test.YtgdidhbomdfcpaaF17
namespace Go.Proofs.Ytgdidhbomdfcpaa
open Go.RowKit Go.Maps
attribute [local go_sem] Oper.semAt_some

theorem holds_hdV (hs : List Hd) : HoldsH ((hdV hs).toArray[·]?) hs := fun i hi => by
  obtain ⟨a, b⟩ := hdV_at hs i hi
  exact ⟨by simpa using a, by simpa using b⟩
/-- A book is returned. -/
def GaveBf (b : Bf) (w : World) (e : Ending) (w' : World) : Prop := ∃ p c, e = .returned (.agg (bfA b p c)) ∧ BfAt w' p c b ∧ Below w.heap.size w w'

def exB : Bf := ⟨50, 2, 3, 3, [⟨24, 26⟩, ⟨24, 26⟩, ⟨16, 18⟩, ⟨16, 17⟩, ⟨15, 18⟩, ⟨49, 52⟩, ⟨20, 30⟩]⟩
set_option maxRecDepth 10000 in
set_option maxHeartbeats 1600000 in
theorem book_any (w : World) : Calls Try.prog 57 #[] w (GaveBf exB w) := by
  obtain ⟨W0, hW0⟩ : ∃ W, W = w.alloc (.cells noBf 24) := ⟨_, rfl⟩
  have HW0 := Lib.hid hW0
  have HE := Lib.hid (show Below w.heap.size w W0 by rw [hW0]; exact below_alloc _ _)
  have HQ := Lib.hid (show Row W0 w.heap.size noBf 24 by rw [hW0]; exact Row.new w _ _)
  have hzq := HQ.out.lt
  clear hW0
  obtain ⟨z0, hz0⟩ : ∃ z : Later W0, W0 = z.w := ⟨⟨W0, Below.refl _ _⟩, rfl⟩
  have HZ0 := Lib.hid hz0
  clear hz0
  go_enter Try.func57, Try.ntmps57
  go_wp2_with fail
  rw [← HW0.out, HZ0.out]
  refine (Sp_any _ _ _).mono ?_
  rintro e u ⟨rfl, hbu⟩
  obtain ⟨z1, hz⟩ := z0.on hbu
  subst hz
  clear hbu
  go_wp2_with fail
  refine (Sp_any _ _ _).mono ?_
  rintro e u ⟨rfl, hbu⟩
  obtain ⟨z2, hz⟩ := z1.on hbu
  subst hz
  clear hbu
  go_wp2_with fail
  refine (Sp_any _ _ _).mono ?_
  rintro e u ⟨rfl, hbu⟩
  obtain ⟨z3, hz⟩ := z2.on hbu
  subst hz
  clear hbu
  go_wp2_with fail
  refine (Sp_any _ _ _).mono ?_
  rintro e u ⟨rfl, hbu⟩
  obtain ⟨z4, hz⟩ := z3.on hbu
  subst hz
  clear hbu
  go_wp2_with fail
  refine (Sp_any _ _ _).mono ?_
  rintro e u ⟨rfl, hbu⟩
  obtain ⟨z5, hz⟩ := z4.on hbu
  subst hz
  clear hbu
  go_wp2_with fail
  refine (Sp_any _ _ _).mono ?_
  rintro e u ⟨rfl, hbu⟩
  obtain ⟨z6, hz⟩ := z5.on hbu
  subst hz
  clear hbu
  go_wp2_with fail
  refine (Sp_any _ _ _).mono ?_
  rintro e u ⟨rfl, hbu⟩
  obtain ⟨z7, hz⟩ := z6.on hbu
  subst hz
  clear hbu
  have HQ1 := Lib.hid ((z7.fr.row HQ.out).alloc (.cells #[.int .i64 24, .int .i64 26, .int .i64 24, .int .i64 26, .int .i64 16, .int .i64 18, .int .i64 16, .int .i64 17, .int .i64 15, .int .i64 18, .int .i64 49, .int .i64 52, .int .i64 20, .int .i64 30] 27))
  have RC := Lib.hid (Row.new z7.w #[.int .i64 24, .int .i64 26, .int .i64 24, .int .i64 26, .int .i64 16, .int .i64 18, .int .i64 16, .int .i64 17, .int .i64 15, .int .i64 18, .int .i64 49, .int .i64 52, .int .i64 20, .int .i64 30] 27)
  have HE1 := Lib.hid ((z7.base HE.out).alloc (z7.base HE.out).size (.cells #[.int .i64 24, .int .i64 26, .int .i64 24, .int .i64 26, .int .i64 16, .int .i64 18, .int .i64 16, .int .i64 17, .int .i64 15, .int .i64 18, .int .i64 49, .int .i64 52, .int .i64 20, .int .i64 30] 27))
  have hzz := z7.b.size
  have c0 := HQ1.out.cell 0 (v := .int .i64 0) rfl
  have f0 := HQ1.out.free 0
  have c1 := HQ1.out.cell 1 (v := .int .i64 0) rfl
  have f1 := HQ1.out.free 1
  have c2 := HQ1.out.cell 2 (v := .int .i64 0) rfl
  have f2 := HQ1.out.free 2
  have c3 := HQ1.out.cell 3 (v := .int .i64 0) rfl
  have f3 := HQ1.out.free 3
  have c4 := HQ1.out.cell 4 (v := .slice none 0 0) rfl
  have f4 := HQ1.out.free 4
  have hs1 : (z7.w.alloc (.cells #[.int .i64 24, .int .i64 26, .int .i64 24, .int .i64 26, .int .i64 16, .int .i64 18, .int .i64 16, .int .i64 17, .int .i64 15, .int .i64 18, .int .i64 49, .int .i64 52, .int .i64 20, .int .i64 30] 27)).heap.size = z7.w.heap.size + 1 := by simp
  have HS1 := Lib.hid hs1
  clear hs1
  go_wp2_with fail
  clear c0 f0 c1 f1 c2 f2 c3 f3 c4 f4
  have qq : Row ((((((z7.w.alloc (.cells #[.int .i64 24, .int .i64 26, .int .i64 24, .int .i64 26, .int .i64 16, .int .i64 18, .int .i64 16, .int .i64 17, .int .i64 15, .int .i64 18, .int .i64 49, .int .i64 52, .int .i64 20, .int .i64 30] 27)).setCell ⟨w.heap.size, 0, none⟩ (.int .i64 50)).setCell ⟨w.heap.size, 1, none⟩ (.int .i64 2)).setCell ⟨w.heap.size, 2, none⟩ (.int .i64 3)).setCell ⟨w.heap.size, 3, none⟩ (.int .i64 3)).setCell ⟨w.heap.size, 4, none⟩ (.slice (some ⟨z7.w.heap.size, 0, none⟩) 7 7)) w.heap.size #[.int .i64 50, .int .i64 2, .int .i64 3, .int .i64 3, .slice (some ⟨z7.w.heap.size, 0, none⟩) 7 7] 24 := (((((HQ1.out.set 0 (.int .i64 50)).set 1 (.int .i64 2)).set 2 (.int .i64 3)).set 3 (.int .i64 3)).set 4 (.slice (some ⟨z7.w.heap.size, 0, none⟩) 7 7))
  have HE2 := Lib.hid (show Below w.heap.size w ((((((z7.w.alloc (.cells #[.int .i64 24, .int .i64 26, .int .i64 24, .int .i64 26, .int .i64 16, .int .i64 18, .int .i64 16, .int .i64 17, .int .i64 15, .int .i64 18, .int .i64 49, .int .i64 52, .int .i64 20, .int .i64 30] 27)).setCell ⟨w.heap.size, 0, none⟩ (.int .i64 50)).setCell ⟨w.heap.size, 1, none⟩ (.int .i64 2)).setCell ⟨w.heap.size, 2, none⟩ (.int .i64 3)).setCell ⟨w.heap.size, 3, none⟩ (.int .i64 3)).setCell ⟨w.heap.size, 4, none⟩ (.slice (some ⟨z7.w.heap.size, 0, none⟩) 7 7)) from (((((HE1.out.setCell (Nat.le_refl _) (.int .i64 50)).setCell (Nat.le_refl _) (.int .i64 2)).setCell (Nat.le_refl _) (.int .i64 3)).setCell (Nat.le_refl _) (.int .i64 3)).setCell (Nat.le_refl _) (.slice (some ⟨z7.w.heap.size, 0, none⟩) 7 7)))
  have RG := Lib.hid (((((RC.out.set_other ⟨w.heap.size, 0, none⟩ (.int .i64 50) (by dsimp only; omega)).set_other ⟨w.heap.size, 1, none⟩ (.int .i64 2) (by dsimp only; omega)).set_other ⟨w.heap.size, 2, none⟩ (.int .i64 3) (by dsimp only; omega)).set_other ⟨w.heap.size, 3, none⟩ (.int .i64 3) (by dsimp only; omega)).set_other ⟨w.heap.size, 4, none⟩ (.slice (some ⟨z7.w.heap.size, 0, none⟩) 7 7) (by dsimp only; omega))
  refine bodyPost_ret (v := .agg #[.int .i64 50, .int .i64 2, .int .i64 3, .int .i64 3, .slice (some ⟨z7.w.heap.size, 0, none⟩) 7 7]) (results_cell_row Try.results57 _ _ _ _ _ _ _ rfl qq Try.underlying24 rfl (by kernel_rfl)) rfl ?_
  exact ⟨some ⟨z7.w.heap.size, 0, none⟩, 7, rfl, ⟨hds_row (cur := (hdV exB.hs).toArray) RG.out (holds_hdV exB.hs), by decide, by decide, by unfold I64 exB; decide⟩, HE2.out⟩

def exE : Bf := ⟨50, 4, 4, 2, [⟨24, 26⟩, ⟨23, 26⟩, ⟨24, 27⟩, ⟨25, 25⟩]⟩
set_option maxRecDepth 10000 in
set_option maxHeartbeats 1600000 in
theorem even_any (w : World) : Calls Try.prog 58 #[] w (GaveBf exE w) := by
  obtain ⟨W0, hW0⟩ : ∃ W, W = w.alloc (.cells noBf 24) := ⟨_, rfl⟩
  have HW0 := Lib.hid hW0
  have HE := Lib.hid (show Below w.heap.size w W0 by rw [hW0]; exact below_alloc _ _)
  have HQ := Lib.hid (show Row W0 w.heap.size noBf 24 by rw [hW0]; exact Row.new w _ _)
  have hzq := HQ.out.lt
  clear hW0
  obtain ⟨z0, hz0⟩ : ∃ z : Later W0, W0 = z.w := ⟨⟨W0, Below.refl _ _⟩, rfl⟩
  have HZ0 := Lib.hid hz0
  clear hz0
  go_enter Try.func58, Try.ntmps58
  go_wp2_with fail
  rw [← HW0.out, HZ0.out]
  refine (Sp_any _ _ _).mono ?_
  rintro e u ⟨rfl, hbu⟩
  obtain ⟨z1, hz⟩ := z0.on hbu
  subst hz
  clear hbu
  go_wp2_with fail
  refine (Sp_any _ _ _).mono ?_
  rintro e u ⟨rfl, hbu⟩
  obtain ⟨z2, hz⟩ := z1.on hbu
  subst hz
  clear hbu
  go_wp2_with fail
  refine (Sp_any _ _ _).mono ?_
  rintro e u ⟨rfl, hbu⟩
  obtain ⟨z3, hz⟩ := z2.on hbu
  subst hz
  clear hbu
  go_wp2_with fail
  refine (Only_any _ _).mono ?_
  rintro e u ⟨rfl, hbu⟩
  obtain ⟨z4, hz⟩ := z3.on hbu
  subst hz
  clear hbu
  have HQ1 := Lib.hid ((z4.fr.row HQ.out).alloc (.cells #[.int .i64 24, .int .i64 26, .int .i64 23, .int .i64 26, .int .i64 24, .int .i64 27, .int .i64 25, .int .i64 25] 27))
  have RC := Lib.hid (Row.new z4.w #[.int .i64 24, .int .i64 26, .int .i64 23, .int .i64 26, .int .i64 24, .int .i64 27, .int .i64 25, .int .i64 25] 27)
  have HE1 := Lib.hid ((z4.base HE.out).alloc (z4.base HE.out).size (.cells #[.int .i64 24, .int .i64 26, .int .i64 23, .int .i64 26, .int .i64 24, .int .i64 27, .int .i64 25, .int .i64 25] 27))
  have hzz := z4.b.size
  have c0 := HQ1.out.cell 0 (v := .int .i64 0) rfl
  have f0 := HQ1.out.free 0
  have c1 := HQ1.out.cell 1 (v := .int .i64 0) rfl
  have f1 := HQ1.out.free 1
  have c2 := HQ1.out.cell 2 (v := .int .i64 0) rfl
  have f2 := HQ1.out.free 2
  have c3 := HQ1.out.cell 3 (v := .int .i64 0) rfl
  have f3 := HQ1.out.free 3
  have c4 := HQ1.out.cell 4 (v := .slice none 0 0) rfl
  have f4 := HQ1.out.free 4
  have hs1 : (z4.w.alloc (.cells #[.int .i64 24, .int .i64 26, .int .i64 23, .int .i64 26, .int .i64 24, .int .i64 27, .int .i64 25, .int .i64 25] 27)).heap.size = z4.w.heap.size + 1 := by simp
  have HS1 := Lib.hid hs1
  clear hs1
  go_wp2_with fail
  clear c0 f0 c1 f1 c2 f2 c3 f3 c4 f4
  have qq : Row ((((((z4.w.alloc (.cells #[.int .i64 24, .int .i64 26, .int .i64 23, .int .i64 26, .int .i64 24, .int .i64 27, .int .i64 25, .int .i64 25] 27)).setCell ⟨w.heap.size, 0, none⟩ (.int .i64 50)).setCell ⟨w.heap.size, 1, none⟩ (.int .i64 4)).setCell ⟨w.heap.size, 2, none⟩ (.int .i64 4)).setCell ⟨w.heap.size, 3, none⟩ (.int .i64 2)).setCell ⟨w.heap.size, 4, none⟩ (.slice (some ⟨z4.w.heap.size, 0, none⟩) 4 4)) w.heap.size #[.int .i64 50, .int .i64 4, .int .i64 4, .int .i64 2, .slice (some ⟨z4.w.heap.size, 0, none⟩) 4 4] 24 := (((((HQ1.out.set 0 (.int .i64 50)).set 1 (.int .i64 4)).set 2 (.int .i64 4)).set 3 (.int .i64 2)).set 4 (.slice (some ⟨z4.w.heap.size, 0, none⟩) 4 4))
  have HE2 := Lib.hid (show Below w.heap.size w ((((((z4.w.alloc (.cells #[.int .i64 24, .int .i64 26, .int .i64 23, .int .i64 26, .int .i64 24, .int .i64 27, .int .i64 25, .int .i64 25] 27)).setCell ⟨w.heap.size, 0, none⟩ (.int .i64 50)).setCell ⟨w.heap.size, 1, none⟩ (.int .i64 4)).setCell ⟨w.heap.size, 2, none⟩ (.int .i64 4)).setCell ⟨w.heap.size, 3, none⟩ (.int .i64 2)).setCell ⟨w.heap.size, 4, none⟩ (.slice (some ⟨z4.w.heap.size, 0, none⟩) 4 4)) from (((((HE1.out.setCell (Nat.le_refl _) (.int .i64 50)).setCell (Nat.le_refl _) (.int .i64 4)).setCell (Nat.le_refl _) (.int .i64 4)).setCell (Nat.le_refl _) (.int .i64 2)).setCell (Nat.le_refl _) (.slice (some ⟨z4.w.heap.size, 0, none⟩) 4 4)))
  have RG := Lib.hid (((((RC.out.set_other ⟨w.heap.size, 0, none⟩ (.int .i64 50) (by dsimp only; omega)).set_other ⟨w.heap.size, 1, none⟩ (.int .i64 4) (by dsimp only; omega)).set_other ⟨w.heap.size, 2, none⟩ (.int .i64 4) (by dsimp only; omega)).set_other ⟨w.heap.size, 3, none⟩ (.int .i64 2) (by dsimp only; omega)).set_other ⟨w.heap.size, 4, none⟩ (.slice (some ⟨z4.w.heap.size, 0, none⟩) 4 4) (by dsimp only; omega))
  refine bodyPost_ret (v := .agg #[.int .i64 50, .int .i64 4, .int .i64 4, .int .i64 2, .slice (some ⟨z4.w.heap.size, 0, none⟩) 4 4]) (results_cell_row Try.results58 _ _ _ _ _ _ _ rfl qq Try.underlying24 rfl (by kernel_rfl)) rfl ?_
  exact ⟨some ⟨z4.w.heap.size, 0, none⟩, 4, rfl, ⟨hds_row (cur := (hdV exE.hs).toArray) RG.out (holds_hdV exE.hs), by decide, by decide, by unfold I64 exE; decide⟩, HE2.out⟩

def exM : Bf := ⟨50, 3, 3, 2, [⟨30, 30⟩, ⟨17, 27⟩, ⟨25, 25⟩]⟩
set_option maxRecDepth 10000 in
set_option maxHeartbeats 1600000 in
theorem between_any (w : World) : Calls Try.prog 59 #[] w (GaveBf exM w) := by
  obtain ⟨W0, hW0⟩ : ∃ W, W = w.alloc (.cells noBf 24) := ⟨_, rfl⟩
  have HW0 := Lib.hid hW0
  have HE := Lib.hid (show Below w.heap.size w W0 by rw [hW0]; exact below_alloc _ _)
  have HQ := Lib.hid (show Row W0 w.heap.size noBf 24 by rw [hW0]; exact Row.new w _ _)
  have hzq := HQ.out.lt
  clear hW0
  obtain ⟨z0, hz0⟩ : ∃ z : Later W0, W0 = z.w := ⟨⟨W0, Below.refl _ _⟩, rfl⟩
  have HZ0 := Lib.hid hz0
  clear hz0
  go_enter Try.func59, Try.ntmps59
  go_wp2_with fail
  rw [← HW0.out, HZ0.out]
  refine (Only_any _ _).mono ?_
  rintro e u ⟨rfl, hbu⟩
  obtain ⟨z1, hz⟩ := z0.on hbu
  subst hz
  clear hbu
  go_wp2_with fail
  refine (Sp_any _ _ _).mono ?_
  rintro e u ⟨rfl, hbu⟩
  obtain ⟨z2, hz⟩ := z1.on hbu
  subst hz
  clear hbu
  go_wp2_with fail
  refine (Only_any _ _).mono ?_
  rintro e u ⟨rfl, hbu⟩
  obtain ⟨z3, hz⟩ := z2.on hbu
  subst hz
  clear hbu
  have HQ1 := Lib.hid ((z3.fr.row HQ.out).alloc (.cells #[.int .i64 30, .int .i64 30, .int .i64 17, .int .i64 27, .int .i64 25, .int .i64 25] 27))
  have RC := Lib.hid (Row.new z3.w #[.int .i64 30, .int .i64 30, .int .i64 17, .int .i64 27, .int .i64 25, .int .i64 25] 27)
  have HE1 := Lib.hid ((z3.base HE.out).alloc (z3.base HE.out).size (.cells #[.int .i64 30, .int .i64 30, .int .i64 17, .int .i64 27, .int .i64 25, .int .i64 25] 27))
  have hzz := z3.b.size
  have c0 := HQ1.out.cell 0 (v := .int .i64 0) rfl
  have f0 := HQ1.out.free 0
  have c1 := HQ1.out.cell 1 (v := .int .i64 0) rfl
  have f1 := HQ1.out.free 1
  have c2 := HQ1.out.cell 2 (v := .int .i64 0) rfl
  have f2 := HQ1.out.free 2
  have c3 := HQ1.out.cell 3 (v := .int .i64 0) rfl
  have f3 := HQ1.out.free 3
  have c4 := HQ1.out.cell 4 (v := .slice none 0 0) rfl
  have f4 := HQ1.out.free 4
  have hs1 : (z3.w.alloc (.cells #[.int .i64 30, .int .i64 30, .int .i64 17, .int .i64 27, .int .i64 25, .int .i64 25] 27)).heap.size = z3.w.heap.size + 1 := by simp
  have HS1 := Lib.hid hs1
  clear hs1
  go_wp2_with fail
  clear c0 f0 c1 f1 c2 f2 c3 f3 c4 f4
  have qq : Row ((((((z3.w.alloc (.cells #[.int .i64 30, .int .i64 30, .int .i64 17, .int .i64 27, .int .i64 25, .int .i64 25] 27)).setCell ⟨w.heap.size, 0, none⟩ (.int .i64 50)).setCell ⟨w.heap.size, 1, none⟩ (.int .i64 3)).setCell ⟨w.heap.size, 2, none⟩ (.int .i64 3)).setCell ⟨w.heap.size, 3, none⟩ (.int .i64 2)).setCell ⟨w.heap.size, 4, none⟩ (.slice (some ⟨z3.w.heap.size, 0, none⟩) 3 3)) w.heap.size #[.int .i64 50, .int .i64 3, .int .i64 3, .int .i64 2, .slice (some ⟨z3.w.heap.size, 0, none⟩) 3 3] 24 := (((((HQ1.out.set 0 (.int .i64 50)).set 1 (.int .i64 3)).set 2 (.int .i64 3)).set 3 (.int .i64 2)).set 4 (.slice (some ⟨z3.w.heap.size, 0, none⟩) 3 3))
  have HE2 := Lib.hid (show Below w.heap.size w ((((((z3.w.alloc (.cells #[.int .i64 30, .int .i64 30, .int .i64 17, .int .i64 27, .int .i64 25, .int .i64 25] 27)).setCell ⟨w.heap.size, 0, none⟩ (.int .i64 50)).setCell ⟨w.heap.size, 1, none⟩ (.int .i64 3)).setCell ⟨w.heap.size, 2, none⟩ (.int .i64 3)).setCell ⟨w.heap.size, 3, none⟩ (.int .i64 2)).setCell ⟨w.heap.size, 4, none⟩ (.slice (some ⟨z3.w.heap.size, 0, none⟩) 3 3)) from (((((HE1.out.setCell (Nat.le_refl _) (.int .i64 50)).setCell (Nat.le_refl _) (.int .i64 3)).setCell (Nat.le_refl _) (.int .i64 3)).setCell (Nat.le_refl _) (.int .i64 2)).setCell (Nat.le_refl _) (.slice (some ⟨z3.w.heap.size, 0, none⟩) 3 3)))
  have RG := Lib.hid (((((RC.out.set_other ⟨w.heap.size, 0, none⟩ (.int .i64 50) (by dsimp only; omega)).set_other ⟨w.heap.size, 1, none⟩ (.int .i64 3) (by dsimp only; omega)).set_other ⟨w.heap.size, 2, none⟩ (.int .i64 3) (by dsimp only; omega)).set_other ⟨w.heap.size, 3, none⟩ (.int .i64 2) (by dsimp only; omega)).set_other ⟨w.heap.size, 4, none⟩ (.slice (some ⟨z3.w.heap.size, 0, none⟩) 3 3) (by dsimp only; omega))
  refine bodyPost_ret (v := .agg #[.int .i64 50, .int .i64 3, .int .i64 3, .int .i64 2, .slice (some ⟨z3.w.heap.size, 0, none⟩) 3 3]) (results_cell_row Try.results59 _ _ _ _ _ _ _ rfl qq Try.underlying24 rfl (by kernel_rfl)) rfl ?_
  exact ⟨some ⟨z3.w.heap.size, 0, none⟩, 3, rfl, ⟨hds_row (cur := (hdV exM.hs).toArray) RG.out (holds_hdV exM.hs), by decide, by decide, by unfold I64 exM; decide⟩, HE2.out⟩

end Go.Proofs.Ytgdidhbomdfcpaa
