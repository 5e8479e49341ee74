/- The walks of layer 3: which frames are lost. -/
import Derived.Test.YticfcdbfplfmlaaTuUJ
namespace Go.Proofs.Yticfcdbfplfmlaa.Tu
open Go.RowKit Go.Maps
attribute [local go_sem] Oper.semAt_some

def lostI (ps : List Pt) (fs : List Fr) (i : Nat) : Bool := (coolD ps fs [i]).isNone

set_option maxRecDepth 10000 in
set_option maxHeartbeats 800000 in
theorem lost_run (pp : Option Addr) (cp : Nat) (pf : Option Addr) (cf mb n : Nat) (ps : List Pt) (ms : List FrM) (w : World) (hB : BkD w pp pf ps ms mb n) (hn : n < 10000000) (f : Nat) (hf : f < ms.length) :
    Calls Try.prog 88 #[.agg (bookA pp ps.length cp pf ms.length cf mb), .int .i64 f] w fun e w' => e = .returned (.bool (lostI ps (frsM ms) f)) ∧ Run w w' mb (n + 2560) ps.length (dryI ps (frsM ms)) := by
  have h4 := hB.b.n4
  have hp4 : 4 ^ ps.length ≤ 4 ^ 4 := Nat.pow_le_pow_right (by decide) h4
  have hE := below_alloc2 w (.cells (bookA pp ps.length cp pf ms.length cf mb) 127) (.cells #[.int .i64 f] 3)
  have HB := Lib.hid (hB.below hE)
  have HR := Lib.hid ((Run.refl hB.d).below hE)
  have hone : FrsL ((w.alloc (.cells (bookA pp ps.length cp pf ms.length cf mb) 127)).alloc (.cells #[.int .i64 f] 3)) (some ⟨w.heap.size + 1, 0, none⟩) [f] ms.length :=
    ⟨fun i hi => by
      obtain rfl : i = 0 := by simpa using hi
      exact ⟨w.heap.size + 1, 0, rfl, (Row.new1 w _ _ _).cell 0 rfl⟩, by simp, fun i hi => by simp at hi; omega⟩
  have HO := Lib.hid hone
  clear hB hE hone
  unfold lostI
  cases hc : coolD ps (frsM ms) [f]
  all_goals
    have HC := Lib.hid hc
    clear hc
    go_enter Try.func88, Try.ntmps88
    go_wp2_with fail
    refine (coolest_any pp cp pf cf mb n ps ms _ 1 [f] _ HB.out HO.out hn).mono ?_
    rintro e w1 ⟨rfl, hr1⟩
    rw [HC.out]
    have HR1 := Lib.hid ((HR.out.trans hr1).mono (show n + 10 * 4 ^ ps.length ≤ n + 2560 by omega))
    clear hr1
    go_wp2_with fail
    go_ret
    exact ⟨rfl, HR1.out.below (below_alloc _ _)⟩

set_option maxRecDepth 10000 in
set_option maxHeartbeats 800000 in
theorem frames_lost (pp : Option Addr) (cp : Nat) (pf : Option Addr) (cf mb n : Nat)  (ps : List Pt) (ms : List FrM) (w : World) (hB : BkD w pp pf ps ms mb n) (hn : n < 1000000) :
    Calls Try.prog 81 #[.agg (bookA pp ps.length cp pf ms.length cf mb), .func (.func 88) #[.agg (bookA pp ps.length cp pf ms.length cf mb)] #[]] w (GaveRun (pickL (lostI ps (frsM ms)) ms.length) mb (n + 2560 * ms.length) ps.length (dryI ps (frsM ms)) w) := by
  obtain ⟨i0, hi, hi0, hi1, hi2⟩ := info_parts Try.infoInt
  have hms := hB.b.n5
  have hmb := hB.d.lt
  have HBK := Lib.hid hB
  have hba := below_alloc w (.cells (bookA pp ps.length cp pf ms.length cf mb) 127)
  have HR0 := Lib.hid ((Run.refl hB.d).below hba)
  have HW0 := Lib.hid (Row.new w (bookA pp ps.length cp pf ms.length cf mb) 127)
  clear hB hba
  go_enter Try.func81, Try.ntmps81
  go_wp2
  go_loopw [5, 11] (fun ls i wr => ∃ k : Nat, k ≤ ms.length ∧ i = .int .i64 k ∧ wr.ownsRow (w.heap.size + 1) 3 1 ls (pickL (lostI ps (frsM ms)) k).length ((pickL (lostI ps (frsM ms)) k).map (Value.int .i64)) ∧ Row wr w.heap.size (bookA pp ps.length cp pf ms.length cf mb) 127 ∧ Run w wr mb (n + 2560 * k) ps.length (dryI ps (frsM ms))) (fun _ i _ => ms.length - (intOf i).toNat)
  case atStart => exact ⟨0, by omega, rfl, World.ownsRow_nil _ _ _ _, HW0.out, by rw [Nat.mul_zero, Nat.add_zero]; exact HR0.out⟩
  case round =>
    clear HR0 HW0
    obtain ⟨k, hk, rfl, hown, hrow, hrun⟩ := hrel
    have HO := Lib.hid hown
    have HW := Lib.hid hrow
    have HR := Lib.hid hrun
    have hsz := hrun.size
    have hz := hrow.lt
    have hpl := pickL_length (lostI ps (frsM ms)) k
    clear hown hrow hrun
    by_cases hlt : k < ms.length
    · have HS := Lib.hid (pickL_succ (lostI ps (frsM ms)) k)
      have hmul : 2560 * (k + 1) = 2560 * k + 2560 := Nat.mul_succ _ _
      have hmul2 : 2560 * k ≤ 2560 * 5 := Nat.mul_le_mul_left _ (by omega)
      have HM := Lib.hid hmul
      clear hmul
      cases hF : (lostI ps (frsM ms)) k
      · have HF := Lib.hid hF
        clear hF
        go_wp2_with fail
        refine (lost_run pp cp pf cf mb _ ps ms _ (HR.out.bkd HBK.out) (by omega) k hlt).mono ?_
        rintro e w1 ⟨rfl, hr1⟩
        rw [HF.out]
        have HO := Lib.hid (owns_run HO.out hr1 HR.out.d)
        have HW := Lib.hid (hr1.row HR.out.d HW.out)
        have HR := Lib.hid (HR.out.trans hr1)
        clear hr1
        go_wp2
        go_roundw
        case rel => exact ⟨k + 1, by omega, by go_num, by rw [HS.out, HF.out]; exact HO.out, HW.out, by rw [HM.out, ← Nat.add_assoc]; exact HR.out⟩
        case measure => simp [intOf]; omega
      · have HF := Lib.hid hF
        clear hF
        go_wp2_with fail
        refine (lost_run pp cp pf cf mb _ ps ms _ (HR.out.bkd HBK.out) (by omega) k hlt).mono ?_
        rintro e w1 ⟨rfl, hr1⟩
        rw [HF.out]
        have HO1 := Lib.hid (owns_run HO.out hr1 HR.out.d)
        have HW := Lib.hid (hr1.row HR.out.d HW.out)
        have hz1 := hr1.size
        have HR := Lib.hid (HR.out.trans hr1)
        clear hr1
        go_wp2_with (first | (at_builtin; (refine wpList_append_own _ rfl _ _ 22 rfl (w.heap.size + 1) 3 i0 (.int .i64 0) 1 8 Try.underlying22 hi hi0 hi1 hi2 rfl (by decide) _ _ _ rfl (HO1.out.alloc _) ⟨w1.heap.size, 0, none⟩ 1 1 [.int .i64 k] rfl rfl (cell_one_new _ _ _) (by simp [Value.oneCell']) (by unfold maxLen; omega) (by omega) (by simp; omega) ?_); intro v' w2 hown' hgrow _; have HO := Lib.hid hown'; have hg2 : Below (w.heap.size + 1) w1 w2 := ((Below.refl _ _).alloc (by omega) _).grown hgrow (by simp; omega) (fun k hk => (HO1.out.lt k hk).1); have HW := Lib.hid (HW.out.below hg2 (by omega)); have HR := Lib.hid (HR.out.low hg2 (by omega) (by omega)); clear hg2 hown' hgrow))
        go_roundw
        case rel => exact ⟨k + 1, by omega, by go_num, by rw [HS.out, HF.out]; simpa using HO.out, HW.out, by rw [HM.out, ← Nat.add_assoc]; exact HR.out⟩
        case measure => simp [intOf]; omega
    · obtain rfl : k = ms.length := by omega
      obtain ⟨p, c, rfl, hints, hle, hcm, hp⟩ := ints_of_owns2 HO.out
      have HI := Lib.hid hints
      clear hints
      unfold maxLen at hcm
      rcases hp with rfl | ⟨g, rfl, hg⟩
      · go_wp2
        go_ret
        exact ⟨_, _, rfl, HI.out, nofun, HR.out⟩
      · go_wp2
        go_ret
        exact ⟨_, _, rfl, HI.out, fun _ _ e => by cases e; omega, HR.out⟩

end Go.Proofs.Yticfcdbfplfmlaa.Tu
