/- The law's own helpers of layer 6: the chapter's yards. -/
import Derived.Test.YtajkgfeockcbpaaY27
import Derived.Test.YtajkgfeockcbpaaKMC
namespace Go.Proofs.Ytajkgfeockcbpaa
open Go.RowKit Go.Maps
attribute [local go_sem] Oper.semAt_some

/-- The chapter's yard, with a door that can be so far. -/
def exB (d : Int) : Yb := ⟨[⟨(10, 10), 20, 25⟩, ⟨(16, 10), 30, 30⟩, ⟨(10, 18), 12, 20⟩, ⟨(30, 30), 40, 50⟩], [(12, 12)], [(14, 14)], [(28, 26)], 7, d, 12, 2⟩
/-- A yard is returned. -/
def GaveYb (b : Yb) (w : World) (e : Ending) (w' : World) : Prop := ∃ P, e = .returned (.agg (ybA b P)) ∧ YbAt w' P b ∧ Below w.heap.size w w'
theorem lots_ex {w : World} {g : Nat} {t : TypeId} (d : Int) (h : Row w g #[.int .i64 10, .int .i64 10, .int .i64 20, .int .i64 25, .int .i64 16, .int .i64 10, .int .i64 30, .int .i64 30, .int .i64 10, .int .i64 18, .int .i64 12, .int .i64 20, .int .i64 30, .int .i64 30, .int .i64 40, .int .i64 50] t) : LotsAt w (some ⟨g, 0, none⟩) (exB d).lots := by
  intro i hi
  have hi : i < 4 := hi
  obtain rfl | rfl | rfl | rfl : i = 0 ∨ i = 1 ∨ i = 2 ∨ i = 3 := by omega
  · exact ⟨_, 0, rfl, h.cell 0 rfl, h.cell 1 rfl, h.cell 2 rfl, h.cell 3 rfl⟩
  · exact ⟨_, 0, rfl, h.cell 4 rfl, h.cell 5 rfl, h.cell 6 rfl, h.cell 7 rfl⟩
  · exact ⟨_, 0, rfl, h.cell 8 rfl, h.cell 9 rfl, h.cell 10 rfl, h.cell 11 rfl⟩
  · exact ⟨_, 0, rfl, h.cell 12 rfl, h.cell 13 rfl, h.cell 14 rfl, h.cell 15 rfl⟩
theorem spot_one {w : World} {g : Nat} {t : TypeId} {x y : Int} (h : Row w g #[.int .i64 x, .int .i64 y] t) : SpotsAt w (some ⟨g, 0, none⟩) [(x, y)] := by
  intro i hi
  obtain rfl : i = 0 := by simpa using hi
  exact ⟨_, 0, rfl, h.cell 0 rfl, h.cell 1 rfl⟩
theorem at_any (x y : Int) (w : World) : Calls Try.prog 91 #[.int .i64 x, .int .i64 y] w fun e w' => e = .returned (.agg #[.int .i64 x, .int .i64 y]) ∧ Below w.heap.size w w' := by
  have HQ := Lib.hid (Row.new w #[.int .i64 x, .int .i64 y] 62)
  have HB := Lib.hid (below_alloc w (.cells #[.int .i64 x, .int .i64 y] 62))
  go_enter Try.func91, Try.ntmps91
  go_wp2_with fail
  exact bodyPost_ret (v := .agg #[.int .i64 x, .int .i64 y]) (results_cell_row Try.results91 _ _ _ _ _ _ _ rfl HQ.out Try.underlying62 rfl (by kernel_rfl)) rfl ⟨rfl, HB.out⟩
set_option maxRecDepth 100000 in
set_option maxHeartbeats 3200000 in
theorem book_any (d : Int) (w : World) : Calls Try.prog 53 #[.int .i64 d] w (GaveYb (exB d) w) := by
  obtain ⟨W0, hW0⟩ : ∃ W, W = w.alloc (.cells ybZ 25) := ⟨_, rfl⟩
  have HW0 := Lib.hid hW0
  have HE := Lib.hid (show Below w.heap.size w W0 by rw [hW0]; exact below_alloc _ _)
  have HT := Lib.hid (show Row W0 w.heap.size ybZ 25 by rw [hW0]; exact Row.new _ _ _)
  have KA := Lib.hid (Below.refl W0.heap.size W0)
  clear hW0
  go_enter Try.func53, Try.ntmps53
  go_upto_region 1 with (fail)
  rw [← HW0.out]
  go_wp2_with (first
    | (go_at_call 91; (with_reducible refine (at_any 12 12 _).mono ?_); rintro e u5 ⟨rfl, hbu⟩; have hz1 := KA.out.size; have HL := Lib.hid (Row.below (Row.new _ #[.int .i64 10, .int .i64 10, .int .i64 20, .int .i64 25, .int .i64 16, .int .i64 10, .int .i64 30, .int .i64 30, .int .i64 10, .int .i64 18, .int .i64 12, .int .i64 20, .int .i64 30, .int .i64 30, .int .i64 40, .int .i64 50] 64) hbu (by simp)); have KA := Lib.hid ((KA.out.alloc KA.out.size _).trans (hbu.mono (KA.out.alloc KA.out.size _).size)); clear hbu)
    | (go_at_call 91; (with_reducible refine (at_any 14 14 _).mono ?_); rintro e u6 ⟨rfl, hbu⟩; have hz2 := KA.out.size; have HD := Lib.hid (Row.below (Row.new _ #[.int .i64 12, .int .i64 12] 62) hbu (by simp)); have HL := Lib.hid ((HL.out.alloc _).below hbu (HL.out.alloc _).lt); have KA := Lib.hid ((KA.out.alloc KA.out.size _).trans (hbu.mono (KA.out.alloc KA.out.size _).size)); clear hbu)
    | (go_at_call 91; (with_reducible refine (at_any 28 26 _).mono ?_); rintro e u7 ⟨rfl, hbu⟩; have hz3 := KA.out.size; have HU := Lib.hid (Row.below (Row.new _ #[.int .i64 14, .int .i64 14] 62) hbu (by simp)); have HD := Lib.hid ((HD.out.alloc _).below hbu (HD.out.alloc _).lt); have HL := Lib.hid ((HL.out.alloc _).below hbu (HL.out.alloc _).lt); have KA := Lib.hid ((KA.out.alloc KA.out.size _).trans (hbu.mono (KA.out.alloc KA.out.size _).size)); clear hbu; have HTX := Lib.hid ((HT.out.below KA.out HT.out.lt).alloc (.cells #[.int .i64 28, .int .i64 26] 62)))
    | (go_at_call 91; (with_reducible refine (at_any _ _ _).mono ?_); rintro e u ⟨rfl, hbu⟩; have KA := Lib.hid (KA.out.trans (hbu.mono KA.out.size)); clear hbu)
    | (go_at_call 54; (with_reducible refine (Sp_any _ _ _).mono ?_); rintro e u ⟨rfl, hbu⟩; have KA := Lib.hid (KA.out.trans (hbu.mono KA.out.size)); clear hbu)
    | (go_at_call 92; (with_reducible refine (Only_any _ _).mono ?_); rintro e u ⟨rfl, hbu⟩; have KA := Lib.hid (KA.out.trans (hbu.mono KA.out.size)); clear hbu)
    | (refine store_row rfl 25 _ _ rfl w.heap.size _ ybZ 25 rfl rfl HTX.out (by kernel_rfl) rfl (by simp [Value.oneCell']) ?_))
  have hzw := HT.out.lt
  have hz4 := KA.out.size
  have hb7 := below_alloc u7 (.cells #[.int .i64 28, .int .i64 26] 62)
  have rs := Row.new u7 #[.int .i64 28, .int .i64 26] 62
  exact bodyPost_ret (v := .agg (ybA (exB d) ⟨some ⟨u.heap.size, 0, none⟩, 4, some ⟨u5.heap.size, 0, none⟩, 1, some ⟨u6.heap.size, 0, none⟩, 1, some ⟨u7.heap.size, 0, none⟩, 1⟩)) (results_cell_row Try.results53 _ _ _ _ _ _ _ rfl (HTX.out.setRow _) Try.underlying25 rfl (by kernel_rfl)) rfl
    ⟨_, rfl, ⟨lots_ex d ((HL.out.below hb7 HL.out.lt).setRow_other _ (by omega)), spot_one ((HD.out.below hb7 HD.out.lt).setRow_other _ (by omega)), spot_one ((HU.out.below hb7 HU.out.lt).setRow_other _ (by omega)), spot_one (rs.setRow_other _ (by omega)), by simp [exB], by simp [exB], by simp [exB], by simp [exB], by simp [exB], by simp [exB], by simp [exB], by simp [exB]⟩,
      below_setRow' ((HE.out.trans (KA.out.mono HE.out.size)).alloc (HE.out.trans (KA.out.mono HE.out.size)).size _) (Nat.le_refl _) _⟩
end Go.Proofs.Ytajkgfeockcbpaa
