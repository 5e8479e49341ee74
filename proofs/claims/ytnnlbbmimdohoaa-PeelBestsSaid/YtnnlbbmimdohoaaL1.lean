/- The law's own helpers of layer 1: the chapter's log, and what the calls return of it. -/
import Derived.Test.YtnnlbbmimdohoaaP13
import Derived.Test.YtnnlbbmimdohoaaP15
import Derived.Test.YtnnlbbmimdohoaaP16
import Derived.Test.YtnnlbbmimdohoaaP17
import Derived.Test.YtnnlbbmimdohoaaP18
import Derived.Test.YtnnlbbmimdohoaaP19
import Derived.Test.YtnnlbbmimdohoaaP20
import Derived.Test.YtnnlbbmimdohoaaP22
import Derived.Test.YtnnlbbmimdohoaaP25
import Derived.Test.YtnnlbbmimdohoaaB
import Derived.Test.YtnnlbbmimdohoaaRG
namespace Go.Proofs.Ytnnlbbmimdohoaa
open Go.RowKit Go.Maps
attribute [local go_sem] Oper.semAt_some

theorem knots_row {w : World} {b : Nat} {ks : List K4} {t : TypeId} (h : Row w b (knotVals ks).toArray t) : KnotsAt w (some ⟨b, 0, none⟩) ks :=
  knots_of_cells fun j u hj => by rw [Nat.zero_add]; exact h.cell j (by simpa using hj)

set_option maxRecDepth 10000 in
set_option maxHeartbeats 800000 in
theorem log_any (w0 : World) :
    Calls Try.prog 52 #[] w0 fun e w' => ∃ p1 c1 p2 c2, e = .returned (.agg #[.slice p1 3 c1, .int .i64 3, .slice p2 2 c2]) ∧ LogAt w' p1 p2 exL exK ∧ 2 ≤ c2 ∧ Below w0.heap.size w0 w' := by
  go_enter Try.func52, Try.ntmps52
  go_wp2_with fail
  have r0 : Row _ w0.heap.size #[.slice none 0 0, .int .i64 0, .slice none 0 0] 25 := (Row.new w0 _ _).alloc (.cells #[.int .i64 10, .int .i64 9, .int .i64 8] 3)
  have r1 : Row _ (w0.heap.size + 1) #[.int .i64 10, .int .i64 9, .int .i64 8] 3 := Row.new' (w := w0.alloc (.cells #[.slice none 0 0, .int .i64 0, .slice none 0 0] 25)) (by simp) _ _
  have hb0 := (below_alloc w0 (.cells #[.slice none 0 0, .int .i64 0, .slice none 0 0] 25)).alloc (by simp) (.cells #[.int .i64 10, .int .i64 9, .int .i64 8] 3)
  refine (Sp_any _ _ _).mono ?_
  rintro e w1 ⟨rfl, hb1⟩
  have h1 := hb1.size
  simp at h1
  have r0 := r0.below hb1 (by simp; omega)
  have r1 := r1.below hb1 (by simp)
  have hb := hb0.trans (hb1.mono (by simp; omega))
  clear hb0 hb1
  go_wp2_with fail
  refine (Only_any _ _).mono ?_
  rintro e w2 ⟨rfl, hb2⟩
  have h2 := hb2.size
  have r0 := r0.below hb2 (by omega)
  have r1 := r1.below hb2 (by omega)
  have hb := hb.trans (hb2.mono (by omega))
  clear hb2
  go_wp2_with fail
  refine (Only_any _ _).mono ?_
  rintro e w3 ⟨rfl, hb3⟩
  have h3 := hb3.size
  have r0 := r0.below hb3 (by omega)
  have r1 := r1.below hb3 (by omega)
  have hb := hb.trans (hb3.mono (by omega))
  clear hb3
  go_wp2_with fail
  refine (Sp_any _ _ _).mono ?_
  rintro e w4 ⟨rfl, hb4⟩
  have h4 := hb4.size
  have R0 := Lib.hid (r0.below hb4 (by omega))
  have R1 := Lib.hid (r1.below hb4 (by omega))
  have HB := Lib.hid (hb.trans (hb4.mono (by omega)))
  clear hb4 hb r0 r1
  go_wp2_with (first | (refine store_row rfl 25 _ _ rfl _ #[.slice (some ⟨w0.heap.size + 1, 0, none⟩) 3 3, .int .i64 3, .slice (some ⟨w4.heap.size, 0, none⟩) 2 2] #[.slice none 0 0, .int .i64 0, .slice none 0 0] _ rfl rfl (R0.out.alloc (.cells #[.int .i64 5, .int .i64 7, .int .i64 1, .int .i64 1, .int .i64 20, .int .i64 20, .int .i64 0, .int .i64 1] 61)) (by kernel_rfl) rfl (by simp [Value.oneCell']) ?_))
  have q0 := (R0.out.alloc (.cells #[.int .i64 5, .int .i64 7, .int .i64 1, .int .i64 1, .int .i64 20, .int .i64 20, .int .i64 0, .int .i64 1] 61)).setRow #[.slice (some ⟨w0.heap.size + 1, 0, none⟩) 3 3, .int .i64 3, .slice (some ⟨w4.heap.size, 0, none⟩) 2 2]
  have q1 : Row ((w4.alloc (.cells #[.int .i64 5, .int .i64 7, .int .i64 1, .int .i64 1, .int .i64 20, .int .i64 20, .int .i64 0, .int .i64 1] 61)).setRow w0.heap.size #[.slice (some ⟨w0.heap.size + 1, 0, none⟩) 3 3, .int .i64 3, .slice (some ⟨w4.heap.size, 0, none⟩) 2 2]) (w0.heap.size + 1) (intsA exL) 3 := (R1.out.alloc (.cells #[.int .i64 5, .int .i64 7, .int .i64 1, .int .i64 1, .int .i64 20, .int .i64 20, .int .i64 0, .int .i64 1] 61)).setRow_other _ (by omega)
  have q2 : Row ((w4.alloc (.cells #[.int .i64 5, .int .i64 7, .int .i64 1, .int .i64 1, .int .i64 20, .int .i64 20, .int .i64 0, .int .i64 1] 61)).setRow w0.heap.size #[.slice (some ⟨w0.heap.size + 1, 0, none⟩) 3 3, .int .i64 3, .slice (some ⟨w4.heap.size, 0, none⟩) 2 2]) w4.heap.size (knotVals exK).toArray 61 := (Row.new w4 #[.int .i64 5, .int .i64 7, .int .i64 1, .int .i64 1, .int .i64 20, .int .i64 20, .int .i64 0, .int .i64 1] 61).setRow_other _ (by omega)
  exact bodyPost_ret (v := .agg #[.slice (some ⟨w0.heap.size + 1, 0, none⟩) 3 3, .int .i64 3, .slice (some ⟨w4.heap.size, 0, none⟩) 2 2]) (results_cell_row Try.results52 _ _ _ _ _ _ _ rfl q0 Try.underlying25 rfl (by kernel_rfl)) rfl
    ⟨_, 3, _, 2, rfl, ⟨ints_row q1, knots_row q2, by decide, by decide⟩, by decide, below_setRow (HB.out.alloc (by omega) _) (Nat.le_refl _) _⟩


section
variable (w : World) (p1 : Option Addr) (c1 : Nat) (p2 : Option Addr) (c2 : Nat) (h : LogAt w p1 p2 exL exK)
include h
theorem exColumn : Calls Try.prog 19 #[.agg #[.slice p1 3 c1, .int .i64 3, .slice p2 2 c2], .int .i64 1, .int .i64 7] w fun e w' => e = .returned (.tuple #[.int .i64 12, .int .i64 0]) ∧ Below w.heap.size w w' := by
  have h := Column_any p1 c1 p2 c2 exL 3 exK w h 1 7
  rw [ex_valid, if_pos rfl, if_pos (by decide)] at h
  exact h
theorem exKnotty : Calls Try.prog 21 #[.agg #[.slice p1 3 c1, .int .i64 3, .slice p2 2 c2], .int .i64 17] w fun e w' => e = .returned (.tuple #[.int .i64 2, .int .i64 0]) ∧ Below w.heap.size w w' := by
  have h := Knotty_good p1 c1 p2 c2 exL 3 exK w h 17 (by decide) ex_valid
  rw [ex_knot] at h
  exact h
theorem exBest : Calls Try.prog 30 #[.agg #[.slice p1 3 c1, .int .i64 3, .slice p2 2 c2]] w fun e w' => ∃ p c, e = .returned (.tuple #[.slice p 4 c, .int .i64 0]) ∧ IntsAt w' p [0, 3, 13, 22] ∧ Below w.heap.size w w' := by
  have h := Best_good p1 c1 p2 c2 exL 3 exK w h ex_valid
  rw [ex_best] at h
  exact h
theorem exWaste : Calls Try.prog 33 #[.agg #[.slice p1 3 c1, .int .i64 3, .slice p2 2 c2]] w fun e w' => e = .returned (.tuple #[.int .i64 15, .int .i64 0]) ∧ Below w.heap.size w w' := by
  have h := Waste_good p1 c1 p2 c2 exL 3 exK w h ex_valid
  rw [show cutD exL 3 (reachD exL exK) = [0, 3, 13, 22] from ex_best, ex_wide] at h
  exact h
theorem exHope : Calls Try.prog 35 #[.agg #[.slice p1 3 c1, .int .i64 3, .slice p2 2 c2]] w fun e w' => e = .returned (.tuple #[.int .i64 7, .int .i64 0]) ∧ Below w.heap.size w w' := by
  have h := Hope_good p1 c1 p2 c2 exL 3 exK w h ex_valid
  rw [ex_hope] at h
  exact h
theorem exAsk (hc : 2 ≤ c2) : Calls Try.prog 37 #[.agg #[.slice p1 3 c1, .int .i64 3, .slice p2 2 c2]] w fun e w' => e = .returned (.tuple #[.int .i64 0, .int .i64 0]) ∧ Below w.heap.size w w' := by
  have h := Ask_good p1 c1 p2 c2 exL 3 exK w h ex_valid (by decide) hc
  rw [ex_ask] at h
  exact h
theorem exRibbon : Calls Try.prog 15 #[.agg #[.slice p1 3 c1, .int .i64 3, .slice p2 2 c2]] w fun e w' => e = .returned (.tuple #[.int .i64 27, .int .i64 0]) ∧ Below w.heap.size w w' := by
  have h := ribbon_any p1 c1 p2 c2 exL 3 exK w h.l h.k h.b1 h.b2 valid_hok
  rw [ex_valid, if_pos rfl] at h
  exact h
theorem exWhole (pc : Option Addr) (cc : Nat) (hi : IntsAt w pc [0, 3, 6, 9]) : Calls Try.prog 28 #[.agg #[.slice p1 3 c1, .int .i64 3, .slice p2 2 c2], .slice pc 4 cc] w fun e w' => e = .returned (.tuple #[.agg #[.int .i64 2, .int .i64 4], .int .i64 0]) ∧ Below w.heap.size w w' := by
  have h := Whole_good p1 c1 p2 c2 exL 3 exK w h pc [0, 3, 6, 9] cc hi (by decide) ex_valid (by kernel_rfl)
  rw [ex_lo, ex_hi] at h
  exact h
theorem exSure (pc : Option Addr) (cc : Nat) (hi : IntsAt w pc [0, 3, 6, 9]) : Calls Try.prog 26 #[.agg #[.slice p1 3 c1, .int .i64 3, .slice p2 2 c2], .slice pc 4 cc] w fun e w' => e = .returned (.tuple #[.int .i64 2, .int .i64 0]) ∧ Below w.heap.size w w' := by
  have h := Sure_yes p1 c1 p2 c2 exL 3 exK w h pc [0, 3, 6, 9] cc hi (by decide) ex_valid (by kernel_rfl)
  rw [ex_sure] at h
  exact h
theorem exIsCut (pc : Option Addr) (cc : Nat) (hi : IntsAt w pc [24]) : Calls Try.prog 24 #[.agg #[.slice p1 3 c1, .int .i64 3, .slice p2 2 c2], .slice pc 1 cc] w fun e w' => e = .returned (.tuple #[.bool true, .int .i64 0]) ∧ Below w.heap.size w w' := by
  have h := IsCut_any p1 c1 p2 c2 exL 3 exK w h pc [24] cc hi (by decide)
  rw [ex_valid, if_pos rfl, show cutOk 3 (psum exL exL.length) 0 [24] = true by kernel_rfl] at h
  exact h
end

end Go.Proofs.Ytnnlbbmimdohoaa
