/- Best cuttings: the law returns true, whatever the log. -/
import Derived.Test.YtnnlbbmimdohoaaFB
import Derived.Test.YtnnlbbmimdohoaaL2
namespace Go.Proofs.Ytnnlbbmimdohoaa
open Go.RowKit Go.Maps
attribute [local go_sem] Oper.semAt_some

section
variable (p1 : Option Addr) (c1 : Nat) (p2 : Option Addr) (c2 : Nat) (long : List Int) (sz : Int) (ks : List K4) (w0 : World) (h : LogAt w0 p1 p2 long ks) (hc1 : long.length ≤ c1)
include h hc1
theorem both_Best : ∃ (xs : List Int) (e : Int), xs.length ≤ 72 ∧ (∀ w, Below w0.heap.size w0 w → Calls Try.prog 30 #[.agg #[.slice p1 long.length c1, .int .i64 sz, .slice p2 ks.length c2]] w fun r w' => ∃ p c, r = .returned (.tuple #[.slice p xs.length c, .int .i64 e]) ∧ IntsAt w' p xs ∧ Below w.heap.size w w') ∧ (∀ w, Below w0.heap.size w0 w → Calls Try.prog 31 #[.agg #[.slice p1 long.length c1, .int .i64 sz, .slice p2 ks.length c2]] w fun r w' => ∃ p c, r = .returned (.tuple #[.slice p xs.length c, .int .i64 e]) ∧ IntsAt w' p xs ∧ Below w.heap.size w w') := by
  cases hv : validB long sz ks
  · refine ⟨[], 10, by simp, fun w hb => ?_, fun w hb => ?_⟩
    · refine (Best_bad p1 c1 p2 c2 long sz ks w (h.below hb) hv).mono ?_
      rintro r w' ⟨rfl, hb'⟩
      exact ⟨none, 0, rfl, fun i hi => by simp at hi, hb'⟩
    · refine (refBest_bad p1 c1 p2 c2 long sz ks w (h.below hb) hv).mono ?_
      rintro r w' ⟨rfl, hb'⟩
      exact ⟨none, 0, rfl, fun i hi => by simp at hi, hb'⟩
  · have hs := cutD_short (valid_ok hv) (reachD long ks)
    exact ⟨bestD long sz ks, 0, by unfold bestD; omega, fun w hb => Best_good p1 c1 p2 c2 long sz ks w (h.below hb) hv, fun w hb => refBest_good p1 c1 p2 c2 long sz ks w (h.below hb) hc1 hv⟩
theorem both_Waste : ∃ v e : Int, (∀ w, Below w0.heap.size w0 w → Calls Try.prog 33 #[.agg #[.slice p1 long.length c1, .int .i64 sz, .slice p2 ks.length c2]] w fun r w' => r = .returned (.tuple #[.int .i64 v, .int .i64 e]) ∧ Below w.heap.size w w') ∧ (∀ w, Below w0.heap.size w0 w → Calls Try.prog 34 #[.agg #[.slice p1 long.length c1, .int .i64 sz, .slice p2 ks.length c2]] w fun r w' => r = .returned (.tuple #[.int .i64 v, .int .i64 e]) ∧ Below w.heap.size w w') := by
  cases hv : validB long sz ks
  · exact ⟨0, 10, fun w hb => Waste_bad p1 c1 p2 c2 long sz ks w (h.below hb) hv, fun w hb => refWaste_bad p1 c1 p2 c2 long sz ks w (h.below hb) hv⟩
  · exact ⟨_, 0, fun w hb => Waste_good p1 c1 p2 c2 long sz ks w (h.below hb) hv, fun w hb => refWaste_good p1 c1 p2 c2 long sz ks w (h.below hb) hc1 hv⟩
theorem both_Hope : ∃ v e : Int, (∀ w, Below w0.heap.size w0 w → Calls Try.prog 35 #[.agg #[.slice p1 long.length c1, .int .i64 sz, .slice p2 ks.length c2]] w fun r w' => r = .returned (.tuple #[.int .i64 v, .int .i64 e]) ∧ Below w.heap.size w w') ∧ (∀ w, Below w0.heap.size w0 w → Calls Try.prog 36 #[.agg #[.slice p1 long.length c1, .int .i64 sz, .slice p2 ks.length c2]] w fun r w' => r = .returned (.tuple #[.int .i64 v, .int .i64 e]) ∧ Below w.heap.size w w') := by
  cases hv : validB long sz ks
  · exact ⟨0, 10, fun w hb => Hope_bad p1 c1 p2 c2 long sz ks w (h.below hb) hv, fun w hb => refHope_bad p1 c1 p2 c2 long sz ks w (h.below hb) hv⟩
  · exact ⟨_, 0, fun w hb => Hope_good p1 c1 p2 c2 long sz ks w (h.below hb) hv, fun w hb => refHope_good p1 c1 p2 c2 long sz ks w (h.below hb) hc1 hv⟩
theorem both_Ask (hc2 : ks.length ≤ c2) : ∃ v e : Int, (∀ w, Below w0.heap.size w0 w → Calls Try.prog 37 #[.agg #[.slice p1 long.length c1, .int .i64 sz, .slice p2 ks.length c2]] w fun r w' => r = .returned (.tuple #[.int .i64 v, .int .i64 e]) ∧ Below w.heap.size w w') ∧ (∀ w, Below w0.heap.size w0 w → Calls Try.prog 38 #[.agg #[.slice p1 long.length c1, .int .i64 sz, .slice p2 ks.length c2]] w fun r w' => r = .returned (.tuple #[.int .i64 v, .int .i64 e]) ∧ Below w.heap.size w w') := by
  cases hv : validB long sz ks
  · exact ⟨0, 10, fun w hb => Ask_bad p1 c1 p2 c2 long sz ks w (h.below hb) hv, fun w hb => refAsk_bad p1 c1 p2 c2 long sz ks w (h.below hb) hv⟩
  · by_cases hk0 : ks.length = 0
    · exact ⟨0, 4, fun w hb => Ask_none p1 c1 p2 c2 long sz ks w (h.below hb) hv hk0, fun w hb => refAsk_none p1 c1 p2 c2 long sz ks w (h.below hb) hv hk0⟩
    · exact ⟨_, 0, fun w hb => Ask_good p1 c1 p2 c2 long sz ks w (h.below hb) hv (by omega) hc2, fun w hb => refAsk_good p1 c1 p2 c2 long sz ks w (h.below hb) hc1 hv (by omega)⟩
end

set_option maxRecDepth 10000 in
set_option maxHeartbeats 1600000 in
theorem PeelBests_any (p1 : Option Addr) (c1 : Nat) (p2 : Option Addr) (c2 : Nat) (long : List Int) (sz : Int) (ks : List K4) (w0 : World) (h : LogAt w0 p1 p2 long ks) (hc1 : long.length ≤ c1) (hc2 : ks.length ≤ c2) :
    Calls Try.prog 5 #[.agg #[.slice p1 long.length c1, .int .i64 sz, .slice p2 ks.length c2]] w0 fun e w' => e = .returned (.bool true) ∧ Below w0.heap.size w0 w' := by
  obtain ⟨xs, e1, hxl, a1, b1⟩ := both_Best p1 c1 p2 c2 long sz ks w0 h hc1
  obtain ⟨v2, e2, a2, b2⟩ := both_Waste p1 c1 p2 c2 long sz ks w0 h hc1
  obtain ⟨v3, e3, a3, b3⟩ := both_Hope p1 c1 p2 c2 long sz ks w0 h hc1
  obtain ⟨v4, e4, a4, b4⟩ := both_Ask p1 c1 p2 c2 long sz ks w0 h hc1 hc2
  have A1 := Lib.hid a1
  have B1 := Lib.hid b1
  have A2 := Lib.hid a2
  have B2 := Lib.hid b2
  have A3 := Lib.hid a3
  have B3 := Lib.hid b3
  have A4 := Lib.hid a4
  have B4 := Lib.hid b4
  clear a1 b1 a2 b2 a3 b3 a4 b4 h
  have KI := Lib.hid (Kept.new w0 #[.slice p1 long.length c1, .int .i64 sz, .slice p2 ks.length c2] 25)
  go_enter Try.func5, Try.ntmps5
  go_wp2_with (first | (refine load_row rfl 25 _ rfl _ rfl 25 _ _ KI.out.r Try.underlying25 rfl (by kernel_rfl) ?_))
  refine (A1.out _ KI.out.hb).mono ?_
  rintro e w1 ⟨pa, ca, rfl, hia, hb1⟩
  have KI := Lib.hid (KI.out.below hb1)
  have IA := Lib.hid hia
  clear hb1 hia
  go_wp2_with (first | (refine load_row rfl 25 _ rfl _ rfl 25 _ _ KI.out.r Try.underlying25 rfl (by kernel_rfl) ?_))
  refine (B1.out _ KI.out.hb).mono ?_
  rintro e w2 ⟨pb, cb, rfl, hib, hb1⟩
  have KI := Lib.hid (KI.out.below hb1)
  have HAL := Lib.hid (Alike_any pa pb ca cb xs xs w2 (by unfold maxLen; omega) (IA.out.below hb1) hib)
  clear hb1 hib
  go_wp2_with fail
  refine HAL.out.mono ?_
  try simp only [decide_true]
  rintro e u ⟨rfl, hbu⟩
  have KI := Lib.hid (KI.out.below hbu)
  clear hbu HAL
  go_wp2_with (first | (refine load_row rfl 25 _ rfl _ rfl 25 _ _ KI.out.r Try.underlying25 rfl (by kernel_rfl) ?_))
  refine (A2.out _ KI.out.hb).mono ?_
  rintro e x1 ⟨rfl, hb1⟩
  have KI := Lib.hid (KI.out.below hb1)
  clear hb1
  go_wp2_with (first | (refine load_row rfl 25 _ rfl _ rfl 25 _ _ KI.out.r Try.underlying25 rfl (by kernel_rfl) ?_))
  refine (B2.out _ KI.out.hb).mono ?_
  rintro e x2 ⟨rfl, hb1⟩
  have KI := Lib.hid (KI.out.below hb1)
  clear hb1
  go_wp2_with (first | (refine load_row rfl 25 _ rfl _ rfl 25 _ _ KI.out.r Try.underlying25 rfl (by kernel_rfl) ?_))
  refine (A3.out _ KI.out.hb).mono ?_
  rintro e x3 ⟨rfl, hb1⟩
  have KI := Lib.hid (KI.out.below hb1)
  clear hb1
  go_wp2_with (first | (refine load_row rfl 25 _ rfl _ rfl 25 _ _ KI.out.r Try.underlying25 rfl (by kernel_rfl) ?_))
  refine (B3.out _ KI.out.hb).mono ?_
  rintro e x4 ⟨rfl, hb1⟩
  have KI := Lib.hid (KI.out.below hb1)
  clear hb1
  go_wp2_with (first | (refine load_row rfl 25 _ rfl _ rfl 25 _ _ KI.out.r Try.underlying25 rfl (by kernel_rfl) ?_))
  refine (A4.out _ KI.out.hb).mono ?_
  rintro e x5 ⟨rfl, hb1⟩
  have KI := Lib.hid (KI.out.below hb1)
  clear hb1
  go_wp2_with (first | (refine load_row rfl 25 _ rfl _ rfl 25 _ _ KI.out.r Try.underlying25 rfl (by kernel_rfl) ?_))
  refine (B4.out _ KI.out.hb).mono ?_
  rintro e x6 ⟨rfl, hb1⟩
  have KI := Lib.hid (KI.out.below hb1)
  clear hb1
  go_wp2_with (first | (refine (peeled_any _).mono ?_; rintro e w9 ⟨rfl, hb9⟩; have KI := Lib.hid (KI.out.below hb9); clear hb9))
  go_ret
  exact ⟨rfl, KI.out.hb⟩
end Go.Proofs.Ytnnlbbmimdohoaa
