/- The laws' own helpers through the layers: two handfuls, a tunnel of one part, a log of one turn; what the calls return of them. -/
import Derived.Test.YticfcdbfplfmlaaGreatFDX
import Derived.Test.YticfcdbfplfmlaaGreatPCX
import Derived.Test.YticfcdbfplfmlaaGreatTEX
namespace Go.Proofs.YticfcdbfplfmlaaGreat
open Go.RowKit Go.Maps
attribute [local go_sem] Oper.semAt_some

def prB : Bf := ⟨5, 1, 1, 1, [⟨4, 6⟩, ⟨5, 7⟩]⟩
theorem prB_ok : bookB prB = true := by kernel_rfl
def woK : List Pe.K4 := [⟨9, 11, 0, 0⟩]
theorem wo_ok : Pe.validB [8] 2 woK = true := by kernel_rfl
def ovP : List Tu.Pt := [⟨0, 2, 4, 6, 0, 1⟩]
def ovF : List Tu.Fr := [⟨[5], 12, 20⟩]
theorem holds_hdV2 (hs : List Hd) : HoldsH ((hdV hs).toArray[·]?) hs := fun i hi => by
  obtain ⟨a, b⟩ := hdV_at hs i hi
  exact ⟨by simpa using a, by simpa using b⟩
def GavePr (w : World) (e : Ending) (w' : World) : Prop := ∃ p c, e = .returned (.agg (bfA prB p c)) ∧ BfAt w' p c prB ∧ Below w.heap.size w w'
set_option maxRecDepth 10000 in
set_option maxHeartbeats 800000 in
theorem pair06_any (w0 : World) : Calls Tryz.prog 23 #[] w0 (GavePr w0) := by
  have hb0 := below_alloc w0 (.cells noBf 28)
  have HB := Lib.hid hb0
  have HR := Lib.hid (Row.new w0 noBf 28)
  clear hb0
  go_enter Tryz.func23, Tryz.ntmps23
  go_wp2_with fail
  refine (Sp_any _ _ _).mono ?_
  rintro e w1 ⟨rfl, hb1⟩
  have HB := Lib.hid (HB.out.trans (hb1.mono HB.out.size))
  have HR := Lib.hid (HR.out.below hb1 HR.out.lt)
  clear hb1
  go_wp2_with fail
  refine (Sp_any _ _ _).mono ?_
  rintro e w2 ⟨rfl, hb2⟩
  have HB := Lib.hid (HB.out.trans (hb2.mono HB.out.size))
  have HR := Lib.hid (HR.out.below hb2 HR.out.lt)
  clear hb2
  have hz := HB.out.size
  have hl := HR.out.lt
  go_wp2_with (first | (refine store_row rfl 28 _ _ rfl _ #[.int .i64 5, .int .i64 1, .int .i64 1, .int .i64 1, .slice (some ⟨w2.heap.size, 0, none⟩) 2 2] noBf _ rfl rfl (HR.out.alloc (.cells #[.int .i64 4, .int .i64 6, .int .i64 5, .int .i64 7] 43)) (by kernel_rfl) rfl (by simp [Value.oneCell']) ?_))
  have q0 := (HR.out.alloc (.cells #[.int .i64 4, .int .i64 6, .int .i64 5, .int .i64 7] 43)).setRow #[.int .i64 5, .int .i64 1, .int .i64 1, .int .i64 1, .slice (some ⟨w2.heap.size, 0, none⟩) 2 2]
  have q1 : Row ((w2.alloc (.cells #[.int .i64 4, .int .i64 6, .int .i64 5, .int .i64 7] 43)).setRow w0.heap.size #[.int .i64 5, .int .i64 1, .int .i64 1, .int .i64 1, .slice (some ⟨w2.heap.size, 0, none⟩) 2 2]) w2.heap.size (hdV prB.hs).toArray 43 := (Row.new w2 #[.int .i64 4, .int .i64 6, .int .i64 5, .int .i64 7] 43).setRow_other _ (by omega)
  refine bodyPost_ret (v := .agg #[.int .i64 5, .int .i64 1, .int .i64 1, .int .i64 1, .slice (some ⟨w2.heap.size, 0, none⟩) 2 2]) (results_cell_row Tryz.results23 _ _ _ _ _ _ _ rfl q0 Tryz.underlying28 rfl (by kernel_rfl)) rfl ?_
  exact ⟨some ⟨w2.heap.size, 0, none⟩, 2, rfl, ⟨hds_row (cur := (hdV prB.hs).toArray) q1 (holds_hdV2 prB.hs), by decide, by decide, by unfold I64 prB; decide⟩, below_setRow (HB.out.alloc (by omega) _) (Nat.le_refl _) _⟩
def GaveWo (w : World) (e : Ending) (w' : World) : Prop := ∃ p1 c1 p2 c2, e = .returned (.agg #[.slice p1 1 c1, .int .i64 2, .slice p2 1 c2]) ∧ Pe.LogAt w' p1 p2 [8] woK ∧ Below w.heap.size w w'
set_option maxRecDepth 10000 in
set_option maxHeartbeats 800000 in
theorem wood04_any (w0 : World) : Calls Tryz.prog 28 #[] w0 (GaveWo w0) := by
  have hb0 := (below_alloc w0 (.cells #[.slice none 0 0, .int .i64 0, .slice none 0 0] 65)).alloc (by simp) (.cells #[.int .i64 8] 3)
  have HB := Lib.hid hb0
  have HR := Lib.hid ((Row.new w0 #[.slice none 0 0, .int .i64 0, .slice none 0 0] 65).alloc (.cells #[.int .i64 8] 3))
  have HL := Lib.hid (show Row ((w0.alloc (.cells #[.slice none 0 0, .int .i64 0, .slice none 0 0] 65)).alloc (.cells #[.int .i64 8] 3)) (w0.heap.size + 1) (intsA [8]) 3 from Row.new' (by simp) _ _)
  clear hb0
  go_enter Tryz.func28, Tryz.ntmps28
  go_wp2_with fail
  refine (Sp_any _ _ _).mono ?_
  rintro e w1 ⟨rfl, hb1⟩
  have HB := Lib.hid (HB.out.trans (hb1.mono HB.out.size))
  have HR := Lib.hid (HR.out.below hb1 HR.out.lt)
  have HL := Lib.hid (HL.out.below hb1 HL.out.lt)
  clear hb1
  go_wp2_with fail
  refine (Only_any _ _).mono ?_
  rintro e w2 ⟨rfl, hb2⟩
  have HB := Lib.hid (HB.out.trans (hb2.mono HB.out.size))
  have HR := Lib.hid (HR.out.below hb2 HR.out.lt)
  have HL := Lib.hid (HL.out.below hb2 HL.out.lt)
  clear hb2
  have hz := HB.out.size
  have hl := HL.out.lt
  go_wp2_with (first | (refine store_row rfl 65 _ _ rfl _ #[.slice (some ⟨w0.heap.size + 1, 0, none⟩) 1 1, .int .i64 2, .slice (some ⟨w2.heap.size, 0, none⟩) 1 1] #[.slice none 0 0, .int .i64 0, .slice none 0 0] _ rfl rfl (HR.out.alloc (.cells #[.int .i64 9, .int .i64 11, .int .i64 0, .int .i64 0] 125)) (by kernel_rfl) rfl (by simp [Value.oneCell']) ?_))
  have q0 := (HR.out.alloc (.cells #[.int .i64 9, .int .i64 11, .int .i64 0, .int .i64 0] 125)).setRow #[.slice (some ⟨w0.heap.size + 1, 0, none⟩) 1 1, .int .i64 2, .slice (some ⟨w2.heap.size, 0, none⟩) 1 1]
  have q1 := (HL.out.alloc (.cells #[.int .i64 9, .int .i64 11, .int .i64 0, .int .i64 0] 125)).setRow_other (g := w0.heap.size) #[.slice (some ⟨w0.heap.size + 1, 0, none⟩) 1 1, .int .i64 2, .slice (some ⟨w2.heap.size, 0, none⟩) 1 1] (by omega)
  have q2 : Row ((w2.alloc (.cells #[.int .i64 9, .int .i64 11, .int .i64 0, .int .i64 0] 125)).setRow w0.heap.size #[.slice (some ⟨w0.heap.size + 1, 0, none⟩) 1 1, .int .i64 2, .slice (some ⟨w2.heap.size, 0, none⟩) 1 1]) w2.heap.size (Pe.knotVals woK).toArray 125 := (Row.new w2 #[.int .i64 9, .int .i64 11, .int .i64 0, .int .i64 0] 125).setRow_other _ (by omega)
  refine bodyPost_ret (v := .agg #[.slice (some ⟨w0.heap.size + 1, 0, none⟩) 1 1, .int .i64 2, .slice (some ⟨w2.heap.size, 0, none⟩) 1 1]) (results_cell_row Tryz.results28 _ _ _ _ _ _ _ rfl q0 Tryz.underlying65 rfl (by kernel_rfl)) rfl ?_
  exact ⟨_, 1, _, 1, rfl, ⟨ints_row q1, Pe.knots_of_cells fun j u hj => by rw [Nat.zero_add]; exact q2.cell j (by simpa using hj), by decide, by decide⟩, below_setRow (HB.out.alloc (by omega) _) (Nat.le_refl _) _⟩
def GaveOv (w : World) (e : Ending) (w' : World) : Prop := ∃ pp cp pf cf ms, e = .returned (.agg #[.slice pp ovP.length cp, .slice pf ms.length cf]) ∧ Tu.frsM ms = ovF ∧ Tu.BkAt w' pp pf ovP ms ∧ Below w.heap.size w w'
def ovM (a : Nat) : List Tu.FrM := [⟨some ⟨a, 0, none⟩, 1, ⟨[5], 12, 20⟩⟩]
theorem ov_bk {w : World} {gp gf a : Nat} {t u : TypeId} (hp : Row w gp #[.int .i64 0, .int .i64 2, .int .i64 4, .int .i64 6, .int .i64 0, .int .i64 1] t) (h : Row w gf #[.slice (some ⟨a, 0, none⟩) 1 1, .int .i64 12, .int .i64 20] u) (ha : IntsAt w (some ⟨a, 0, none⟩) [5]) : Tu.BkAt w (some ⟨gp, 0, none⟩) (some ⟨gf, 0, none⟩) ovP (ovM a) := by
  refine ⟨fun i hi => ?_, fun i hi => ?_, by decide, by simp [ovM], fun m hm => by simp [ovM] at hm; subst hm; simp⟩
  · have hi2 : i < 1 := hi
    obtain rfl : i = 0 := by omega
    exact ⟨gp, 0, rfl, hp.cell 0 rfl, hp.cell 1 rfl, hp.cell 2 rfl, hp.cell 3 rfl, hp.cell 4 rfl, hp.cell 5 rfl⟩
  · have hi2 : i < 1 := hi
    obtain rfl : i = 0 := by omega
    exact ⟨gf, 0, rfl, h.cell 0 rfl, h.cell 1 rfl, h.cell 2 rfl, ha⟩
set_option maxRecDepth 10000 in
set_option maxHeartbeats 800000 in
theorem oven04_any (w0 : World) : Calls Tryz.prog 26 #[] w0 (GaveOv w0) := by
  have HB := Lib.hid (below_alloc w0 (.cells #[.slice none 0 0, .slice none 0 0] 25))
  have HR := Lib.hid (Row.new w0 #[.slice none 0 0, .slice none 0 0] 25)
  go_enter Tryz.func26, Tryz.ntmps26
  go_wp2_with fail
  refine (Sp_any _ _ _).mono ?_
  rintro e w1 ⟨rfl, hb1⟩
  have HB := Lib.hid (HB.out.trans (hb1.mono HB.out.size))
  have HR := Lib.hid (HR.out.below hb1 HR.out.lt)
  clear hb1
  have hz1 := HB.out.size
  have hl1 := HR.out.lt
  have hb2 := (below_alloc w1 (.cells #[.int .i64 0, .int .i64 2, .int .i64 4, .int .i64 6, .int .i64 0, .int .i64 1] 81)).alloc (by simp) (.cells #[.int .i64 5] 3)
  have HB := Lib.hid (HB.out.trans (hb2.mono HB.out.size))
  have HR := Lib.hid (HR.out.below hb2 HR.out.lt)
  have HP := Lib.hid ((Row.new w1 #[.int .i64 0, .int .i64 2, .int .i64 4, .int .i64 6, .int .i64 0, .int .i64 1] 81).alloc (.cells #[.int .i64 5] 3))
  have HS := Lib.hid (show Row ((w1.alloc (.cells #[.int .i64 0, .int .i64 2, .int .i64 4, .int .i64 6, .int .i64 0, .int .i64 1] 81)).alloc (.cells #[.int .i64 5] 3)) (w1.heap.size + 1) (intsA [5]) 3 from Row.new' (by simp) _ _)
  clear hb2
  go_wp2_with fail
  refine (Sp_any _ _ _).mono ?_
  rintro e w2 ⟨rfl, hb3⟩
  have HB := Lib.hid (HB.out.trans (hb3.mono HB.out.size))
  have HR := Lib.hid (HR.out.below hb3 HR.out.lt)
  have HP := Lib.hid (HP.out.below hb3 HP.out.lt)
  have HS := Lib.hid (HS.out.below hb3 HS.out.lt)
  clear hb3
  have hz := HB.out.size
  have hl := HS.out.lt
  go_wp2_with (first | (refine store_row rfl 25 _ _ rfl _ #[.slice (some ⟨w1.heap.size, 0, none⟩) 1 1, .slice (some ⟨w2.heap.size, 0, none⟩) 1 1] #[.slice none 0 0, .slice none 0 0] _ rfl rfl (HR.out.alloc (.cells #[.slice (some ⟨w1.heap.size + 1, 0, none⟩) 1 1, .int .i64 12, .int .i64 20] 50)) (by kernel_rfl) rfl (by simp [Value.oneCell']) ?_))
  have q0 := (HR.out.alloc (.cells #[.slice (some ⟨w1.heap.size + 1, 0, none⟩) 1 1, .int .i64 12, .int .i64 20] 50)).setRow #[.slice (some ⟨w1.heap.size, 0, none⟩) 1 1, .slice (some ⟨w2.heap.size, 0, none⟩) 1 1]
  have q1 := (HP.out.alloc (.cells #[.slice (some ⟨w1.heap.size + 1, 0, none⟩) 1 1, .int .i64 12, .int .i64 20] 50)).setRow_other (g := w0.heap.size) #[.slice (some ⟨w1.heap.size, 0, none⟩) 1 1, .slice (some ⟨w2.heap.size, 0, none⟩) 1 1] (by omega)
  have q2 := (Row.new w2 #[.slice (some ⟨w1.heap.size + 1, 0, none⟩) 1 1, .int .i64 12, .int .i64 20] 50).setRow_other (g := w0.heap.size) #[.slice (some ⟨w1.heap.size, 0, none⟩) 1 1, .slice (some ⟨w2.heap.size, 0, none⟩) 1 1] (by omega)
  have q3 := (HS.out.alloc (.cells #[.slice (some ⟨w1.heap.size + 1, 0, none⟩) 1 1, .int .i64 12, .int .i64 20] 50)).setRow_other (g := w0.heap.size) #[.slice (some ⟨w1.heap.size, 0, none⟩) 1 1, .slice (some ⟨w2.heap.size, 0, none⟩) 1 1] (by omega)
  refine bodyPost_ret (v := .agg #[.slice (some ⟨w1.heap.size, 0, none⟩) 1 1, .slice (some ⟨w2.heap.size, 0, none⟩) 1 1]) (results_cell_row Tryz.results26 _ _ _ _ _ _ _ rfl q0 Tryz.underlying25 rfl (by kernel_rfl)) rfl ?_
  exact ⟨_, 1, _, 1, ovM (w1.heap.size + 1), rfl, rfl, ov_bk q1 q2 (ints_row q3), below_setRow (HB.out.alloc (by omega) _) (Nat.le_refl _) _⟩
/-- A list is returned, without an error. -/
def GaveL0 (l : List Int) (w : World) (e : Ending) (w' : World) : Prop := ∃ q c, e = .returned (.tuple #[.slice q l.length c, .int .i64 0]) ∧ IntsAt w' q l ∧ Below w.heap.size w w'
theorem prSum (p : Option Addr) (c : Nat) (w : World) (hB : BfAt w p c prB) : Calls Tryz.prog 29 #[.agg (bfA prB p c), .int .i64 0, .int .i64 2] w fun e w' => e = .returned (.tuple #[.agg #[.int .i64 9, .int .i64 13], .int .i64 0]) ∧ Below w.heap.size w w' := by
  have h := Sum_yes prB p c 0 2 w hB prB_ok (by decide) (by decide)
  rw [show loB prB 0 2 = 9 by kernel_rfl, show hiB prB 0 2 = 13 by kernel_rfl] at h
  exact h
theorem prBest (p : Option Addr) (c : Nat) (w : World) (hB : BfAt w p c prB) : Calls Tryz.prog 19 #[.agg (bfA prB p c)] w (GaveL0 [1, 2] w) := by
  have h := Best_yes prB p c w hB prB_ok
  refine h.mono fun e w' h => ?_
  obtain ⟨q, cq, h1, h2, h3⟩ := h
  rw [show bestQ prB = [1, 2] by kernel_rfl] at h1 h2
  exact ⟨q, cq, h1, h2, h3⟩
theorem prBoxes (p : Option Addr) (c : Nat) (w : World) (hB : BfAt w p c prB) : Calls Tryz.prog 24 #[.agg (bfA prB p c)] w fun e w' => e = .returned (.tuple #[.int .i64 1, .int .i64 0]) ∧ Below w.heap.size w w' := by
  have h := Boxes_yes prB p c w hB prB_ok
  rw [show ((rightL prB (bestR prB)).length : Int) = 1 by kernel_rfl] at h
  exact h
theorem ovGood (pp : Option Addr) (cp : Nat) (pf : Option Addr) (cf : Nat) (ms : List Tu.FrM) (w : World) (hB : Tu.BkAt w pp pf ovP ms) (hf : Tu.frsM ms = ovF) (q : Option Addr) (hl : IntsAt w q [2]) : Calls Tryz.prog 25 #[.agg #[.slice pp ovP.length cp, .slice pf ms.length cf], .slice q 1 1] w (GaveL0 [0] w) := by
  have h := Tu.Good_any pp cp pf cf ovP ms w hB q 1 [2] hl (by decide)
  rw [hf, show Tu.goodV ovP ovF [2] = [0] by kernel_rfl, show Tu.setE ovP ovF [2] = 0 by kernel_rfl] at h
  exact h
theorem woHope (p1 : Option Addr) (c1 : Nat) (p2 : Option Addr) (c2 : Nat) (w : World) (h : Pe.LogAt w p1 p2 [8] woK) : Calls Tryz.prog 27 #[.agg #[.slice p1 1 c1, .int .i64 2, .slice p2 1 c2]] w fun e w' => e = .returned (.tuple #[.int .i64 3, .int .i64 0]) ∧ Below w.heap.size w w' := by
  have h := Pe.Hope_good p1 c1 p2 c2 [8] 2 woK w h wo_ok
  rw [show Pe.hopeD [8] 2 woK = 3 by kernel_rfl] at h
  exact h
theorem ints_new5 (w : World) (l : List Int) (t : TypeId) : IntsAt (w.alloc (.cells (intsA l) t)) (some ⟨w.heap.size, 0, none⟩) l := ints_row (Row.new w (intsA l) t)
theorem new12 (w : World) (t : TypeId) : IntsAt (w.alloc (.cells #[.int .i64 1, .int .i64 2] t)) (some ⟨w.heap.size, 0, none⟩) [1, 2] := ints_new5 w [1, 2] t
theorem new00 (w : World) (t : TypeId) : IntsAt (w.alloc (.cells #[.int .i64 0] t)) (some ⟨w.heap.size, 0, none⟩) [0] := ints_new5 w [0] t
theorem new02 (w : World) (t : TypeId) : IntsAt (w.alloc (.cells #[.int .i64 2] t)) (some ⟨w.heap.size, 0, none⟩) [2] := ints_new5 w [2] t
theorem new12d (w : World) (t : TypeId) : IntsAt (w.alloc (.cells #[.int .i64 1, .int .i64 2] t)).drew (some ⟨w.heap.size, 0, none⟩) [1, 2] := new12 w t
theorem new00d (w : World) (t : TypeId) : IntsAt (w.alloc (.cells #[.int .i64 0] t)).drew (some ⟨w.heap.size, 0, none⟩) [0] := new00 w t
theorem al12 (p q : Option Addr) (c d : Nat) (w : World) (hc : IntsAt w p [1, 2]) (hd : IntsAt w q [1, 2]) : Calls Tryz.prog 18 #[.slice p 2 c, .slice q 2 d] w fun e w' => e = .returned (.bool true) ∧ Below w.heap.size w w' := by
  have h := Alike_any p q c d [1, 2] [1, 2] w (by decide) hc hd
  rw [show decide (([1, 2] : List Int) = [1, 2]) = true by decide] at h
  exact h
theorem al00 (p q : Option Addr) (c d : Nat) (w : World) (hc : IntsAt w p [0]) (hd : IntsAt w q [0]) : Calls Tryz.prog 18 #[.slice p 1 c, .slice q 1 d] w fun e w' => e = .returned (.bool true) ∧ Below w.heap.size w w' := by
  have h := Alike_any p q c d [0] [0] w (by decide) hc hd
  rw [show decide (([0] : List Int) = [0]) = true by decide] at h
  exact h
end Go.Proofs.YticfcdbfplfmlaaGreat
