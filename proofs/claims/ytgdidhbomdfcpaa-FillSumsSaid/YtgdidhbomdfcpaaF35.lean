/- The law's own helpers of layer 5: what the calls return of the chapter's books. -/
import Derived.Test.YtgdidhbomdfcpaaF34
namespace Go.Proofs.Ytgdidhbomdfcpaa
open Go.RowKit Go.Maps

theorem exB_ok : bookB exB = true := by kernel_rfl
theorem exE_ok : bookB exE = true := by kernel_rfl
theorem exM_ok : bookB exM = true := by kernel_rfl
theorem exSum (p : Option Addr) (c : Nat) (w : World) (hB : BfAt w p c exB) : Calls Try.prog 15 #[.agg (bfA exB p c), .int .i64 2, .int .i64 5] w fun e w' => e = .returned (.tuple #[.agg #[.int .i64 47, .int .i64 53], .int .i64 0]) ∧ Below w.heap.size w w' := by
  have h := Sum_yes exB p c 2 5 w hB exB_ok (by decide) (by decide)
  rw [show loB exB 2 5 = 47 by kernel_rfl, show hiB exB 2 5 = 53 by kernel_rfl] at h
  exact h
theorem exKind (p : Option Addr) (c : Nat) (w : World) (hB : BfAt w p c exB) : Calls Try.prog 19 #[.agg (bfA exB p c), .int .i64 5, .int .i64 7] w fun e w' => e = .returned (.tuple #[.int .i64 2, .int .i64 0]) ∧ Below w.heap.size w w' := by
  have h := Kind_yes exB p c 5 7 w hB exB_ok (by unfold I64; omega) (by unfold I64; omega) (by kernel_rfl)
  rw [show kindS exB (loF exB 5 7) (hiF exB 5 7) = 2 by kernel_rfl] at h
  exact h
theorem sortL_sorted (l : List Int) : (sortL l).Pairwise fun a b => a ≤ b :=
  (List.pairwise_mergeSort (le := fun x y => decide (x ≤ y)) (fun a b c h1 h2 => by simp only [decide_eq_true_eq] at *; omega) (fun a b => by simp only [Bool.or_eq_true, decide_eq_true_eq]; omega) l).imp fun h => by simpa using h
theorem sortL_eq {l m : List Int} (hs : m.Pairwise fun a b => a ≤ b) (hp : m.Perm l) : sortL l = m :=
  List.Perm.eq_of_pairwise (le := fun a b => a ≤ b) (fun a b _ _ h1 h2 => Int.le_antisymm h1 h2) (sortL_sorted l) hs ((sortL_perm l).trans hp.symm)
theorem sort_one : sortL [24, 23, 24, 25] = [23, 24, 24, 25] := sortL_eq (by decide) (by decide)
theorem sort_two : sortL [26, 26, 27, 25] = [25, 26, 26, 27] := sortL_eq (by decide) (by decide)
theorem exAny (p : Option Addr) (c : Nat) (w : World) (hB : BfAt w p c exE) : Calls Try.prog 21 #[.agg (bfA exE p c), .int .i64 2] w fun e w' => e = .returned (.tuple #[.bool true, .int .i64 0]) ∧ Below w.heap.size w w' := by
  have h := Any_yes exE p c 2 w hB exE_ok (by decide) (by decide)
  rw [show (kindS exE (lowAny exE 2) (highAny exE 2) == 0) = true by
    rw [show lowAny exE 2 = 47 by unfold lowAny; rw [show endL Hd.lo exE.hs = [24, 23, 24, 25] from rfl, sort_one]; rfl,
      show highAny exE 2 = 53 by unfold highAny; rw [show endL Hd.hi exE.hs = [26, 26, 27, 25] from rfl, sort_two]; rfl]
    kernel_rfl] at h
  exact h
theorem exPlanI : ∀ i, i < [2, 5, 6, 7].length → I64 (at0 [2, 5, 6, 7] i) := by
  have h : ∀ i : Fin 4, I64 (at0 [2, 5, 6, 7] i.val) := by unfold I64; decide
  exact fun i hi => h ⟨i, hi⟩
theorem exByHand (p : Option Addr) (c : Nat) (q : Option Addr) (w : World) (hB : BfAt w p c exB) (hl : IntsAt w q [2, 5, 6, 7]) : Calls Try.prog 26 #[.agg (bfA exB p c), .slice q 4 4] w fun e w' => ∃ ph ch, e = .returned (.tuple #[.slice ph 2 ch, .int .i64 0]) ∧ IntsAt w' ph [1, 3] ∧ Below w.heap.size w w' := by
  have h := ByHand_yes exB p c q 4 [2, 5, 6, 7] w hB exB_ok hl (by decide) exPlanI (by kernel_rfl)
  refine h.mono fun e w' h => ?_
  obtain ⟨ph, ch, h1, h2, h3⟩ := h
  rw [show handL exB [2, 5, 6, 7] = [1, 3] by kernel_rfl] at h1 h2
  exact ⟨ph, ch, h1, h2, h3⟩
theorem exOver (p : Option Addr) (c : Nat) (q : Option Addr) (w : World) (hB : BfAt w p c exB) (hl : IntsAt w q [2, 5, 6, 7]) : Calls Try.prog 29 #[.agg (bfA exB p c), .slice q 4 4] w fun e w' => e = .returned (.tuple #[.agg #[.int .i64 (-3), .int .i64 4], .int .i64 0]) ∧ Below w.heap.size w w' := by
  have h := Over_yes exB p c q 4 [2, 5, 6, 7] w hB exB_ok hl (by decide) exPlanI (by kernel_rfl)
  rw [show overV Hd.lo exB [2, 5, 6, 7] = -3 by kernel_rfl, show overV Hd.hi exB [2, 5, 6, 7] = 4 by kernel_rfl] at h
  exact h
theorem exIsPlan (p : Option Addr) (c : Nat) (q : Option Addr) (w : World) (hB : BfAt w p c exB) (hl : IntsAt w q [2, 5, 6, 7]) : Calls Try.prog 24 #[.agg (bfA exB p c), .slice q 4 4] w fun e w' => e = .returned (.tuple #[.bool true, .int .i64 0]) ∧ Below w.heap.size w w' := by
  have h := IsPlan_yes exB p c q 4 [2, 5, 6, 7] w hB exB_ok hl (by decide) exPlanI
  rw [show planB exB [2, 5, 6, 7] = true by kernel_rfl] at h
  exact h
/-- A list is returned, without an error. -/
def GaveList0 (l : List Int) (w : World) (e : Ending) (w' : World) : Prop := ∃ q c, e = .returned (.tuple #[.slice q l.length c, .int .i64 0]) ∧ IntsAt w' q l ∧ Below w.heap.size w w'
theorem exBest (p : Option Addr) (c : Nat) (w : World) (hB : BfAt w p c exB) : Calls Try.prog 31 #[.agg (bfA exB p c)] w (GaveList0 [2, 5, 6, 7] w) := by
  have h := Best_yes exB p c w hB exB_ok
  refine h.mono fun e w' h => ?_
  obtain ⟨q, cq, h1, h2, h3⟩ := h
  rw [show bestQ exB = [2, 5, 6, 7] by kernel_rfl] at h1 h2
  exact ⟨q, cq, h1, h2, h3⟩
theorem exBestM (p : Option Addr) (c : Nat) (w : World) (hB : BfAt w p c exM) : Calls Try.prog 31 #[.agg (bfA exM p c)] w (GaveList0 [1, 3] w) := by
  have h := Best_yes exM p c w hB exM_ok
  refine h.mono fun e w' h => ?_
  obtain ⟨q, cq, h1, h2, h3⟩ := h
  rw [show bestQ exM = [1, 3] by kernel_rfl] at h1 h2
  exact ⟨q, cq, h1, h2, h3⟩
theorem exBoxes (p : Option Addr) (c : Nat) (w : World) (hB : BfAt w p c exB) : Calls Try.prog 33 #[.agg (bfA exB p c)] w fun e w' => e = .returned (.tuple #[.int .i64 2, .int .i64 0]) ∧ Below w.heap.size w w' := by
  have h := Boxes_yes exB p c w hB exB_ok
  rw [show ((rightL exB (bestR exB)).length : Int) = 2 by kernel_rfl] at h
  exact h
theorem exAsk (p : Option Addr) (c : Nat) (w : World) (hB : BfAt w p c exM) : Calls Try.prog 35 #[.agg (bfA exM p c)] w fun e w' => e = .returned (.tuple #[.int .i64 1, .int .i64 0]) ∧ Below w.heap.size w w' := by
  have h := Ask_yes exM p c w hB exM_ok (by decide)
  rw [show askV exM = 1 by kernel_rfl] at h
  exact h
end Go.Proofs.Ytgdidhbomdfcpaa
