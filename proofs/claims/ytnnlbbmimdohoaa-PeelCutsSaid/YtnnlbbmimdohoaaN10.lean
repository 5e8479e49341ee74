/- Cuttings: the law returns true, whatever the log and the list. -/
import Derived.Test.YtnnlbbmimdohoaaFB
import Derived.Test.YtnnlbbmimdohoaaL2
namespace Go.Proofs.Ytnnlbbmimdohoaa
open Go.RowKit Go.Maps
attribute [local go_sem] Oper.semAt_some

set_option maxRecDepth 10000 in
set_option maxHeartbeats 800000 in
theorem refIsCut_any (p1 : Option Addr) (c1 : Nat) (p2 : Option Addr) (c2 : Nat) (long : List Int) (sz : Int) (ks : List K4) (w0 : World) (h : LogAt w0 p1 p2 long ks) (pc : Option Addr) (cc : Nat) (cut : List Int) (hc : IntsAt w0 pc cut) (hn : cut.length ≤ maxLen) :
    Calls Try.prog 25 #[.agg #[.slice p1 long.length c1, .int .i64 sz, .slice p2 ks.length c2], .slice pc cut.length cc] w0 fun e w' => e = .returned (if validB long sz ks then .tuple #[.bool (cutOk sz (psum long long.length) 0 cut), .int .i64 0] else .tuple #[.bool false, .int .i64 10]) ∧ Below w0.heap.size w0 w' := by
  have KI := Lib.hid (Kept.new w0 #[.slice p1 long.length c1, .int .i64 sz, .slice p2 ks.length c2] 25)
  have HC := Lib.hid (refCheck_any p1 c1 p2 c2 long sz ks _ (h.below KI.out.hb))
  cases hb : validB long sz ks
  · rw [if_neg (by simp)]
    clear h hc
    go_enter Try.func25, Try.ntmps25
    go_wp2_with (first | (refine HC.out.mono ?_; rw [checkE, hb]; rintro e w1 ⟨rfl, hb1⟩; have KI := Lib.hid (KI.out.below hb1); clear hb1))
    go_ret2
    exact ⟨rfl, KI.out.hb⟩
  · rw [if_pos rfl]
    have HIC := Lib.hid (fun w (hbw : Below w0.heap.size w0 w) => refisCut_any p1 c1 p2 c2 long sz ks w (h.below hbw) hb pc cc cut (hc.below hbw) hn)
    clear h hc
    generalize cutOk sz (psum long long.length) 0 cut = bb at *
    go_enter Try.func25, Try.ntmps25
    go_wp2_with fail
    refine HC.out.mono ?_
    rw [checkE, hb]
    rintro e w1 ⟨rfl, hb1⟩
    have KI := Lib.hid (KI.out.below hb1)
    clear hb1 HC hb
    go_wp2_with (first | (refine load_row rfl 25 _ rfl _ rfl 25 _ _ KI.out.r Try.underlying25 rfl (by kernel_rfl) ?_))
    refine (HIC.out _ KI.out.hb).mono ?_
    rintro e w2 ⟨rfl, hb2⟩
    have KI := Lib.hid (KI.out.below hb2)
    clear hb2
    go_wp2
    go_ret2
    exact ⟨rfl, KI.out.hb⟩

section
variable (p1 : Option Addr) (c1 : Nat) (p2 : Option Addr) (c2 : Nat) (long : List Int) (sz : Int) (ks : List K4) (w0 : World) (h : LogAt w0 p1 p2 long ks) (pc : Option Addr) (cc : Nat) (cut : List Int) (hc : IntsAt w0 pc cut) (hn : cut.length ≤ maxLen)
include h hc hn
theorem both_IsCut : ∃ (v : Bool) (e : Int), (∀ w, Below w0.heap.size w0 w → Calls Try.prog 24 #[.agg #[.slice p1 long.length c1, .int .i64 sz, .slice p2 ks.length c2], .slice pc cut.length cc] w fun r w' => r = .returned (.tuple #[.bool v, .int .i64 e]) ∧ Below w.heap.size w w') ∧ (∀ w, Below w0.heap.size w0 w → Calls Try.prog 25 #[.agg #[.slice p1 long.length c1, .int .i64 sz, .slice p2 ks.length c2], .slice pc cut.length cc] w fun r w' => r = .returned (.tuple #[.bool v, .int .i64 e]) ∧ Below w.heap.size w w') := by
  cases hv : validB long sz ks
  · refine ⟨false, 10, fun w hb => ?_, fun w hb => ?_⟩
    · have hz := IsCut_any p1 c1 p2 c2 long sz ks w (h.below hb) pc cut cc (hc.below hb) hn
      rw [hv] at hz; exact hz
    · have hz := refIsCut_any p1 c1 p2 c2 long sz ks w (h.below hb) pc cc cut (hc.below hb) hn
      rw [hv] at hz; exact hz
  · refine ⟨cutOk sz (psum long long.length) 0 cut, 0, fun w hb => ?_, fun w hb => ?_⟩
    · have hz := IsCut_any p1 c1 p2 c2 long sz ks w (h.below hb) pc cut cc (hc.below hb) hn
      rw [hv] at hz; exact hz
    · have hz := refIsCut_any p1 c1 p2 c2 long sz ks w (h.below hb) pc cc cut (hc.below hb) hn
      rw [hv] at hz; exact hz
theorem both_Sure (hc1 : long.length ≤ c1) : ∃ v e : Int, (∀ w, Below w0.heap.size w0 w → Calls Try.prog 26 #[.agg #[.slice p1 long.length c1, .int .i64 sz, .slice p2 ks.length c2], .slice pc cut.length cc] w fun r w' => r = .returned (.tuple #[.int .i64 v, .int .i64 e]) ∧ Below w.heap.size w w') ∧ (∀ w, Below w0.heap.size w0 w → Calls Try.prog 27 #[.agg #[.slice p1 long.length c1, .int .i64 sz, .slice p2 ks.length c2], .slice pc cut.length cc] w fun r w' => r = .returned (.tuple #[.int .i64 v, .int .i64 e]) ∧ Below w.heap.size w w') := by
  refine ⟨_, _, fun w hb => ?_, fun w hb => refSure_any p1 c1 p2 c2 long sz ks w (h.below hb) hc1 pc cc cut (hc.below hb) hn⟩
  cases hv : validB long sz ks
  · exact Sure_bad p1 c1 p2 c2 long sz ks w (h.below hb) pc cut cc (hc.below hb) hn hv
  · cases hcut : cutOk sz (psum long long.length) 0 cut
    · exact Sure_no p1 c1 p2 c2 long sz ks w (h.below hb) pc cut cc (hc.below hb) hn hv hcut
    · exact Sure_yes p1 c1 p2 c2 long sz ks w (h.below hb) pc cut cc (hc.below hb) hn hv hcut
theorem both_Whole (hc1 : long.length ≤ c1) : ∃ v u e : Int, (∀ w, Below w0.heap.size w0 w → Calls Try.prog 28 #[.agg #[.slice p1 long.length c1, .int .i64 sz, .slice p2 ks.length c2], .slice pc cut.length cc] w fun r w' => r = .returned (.tuple #[.agg #[.int .i64 v, .int .i64 u], .int .i64 e]) ∧ Below w.heap.size w w') ∧ (∀ w, Below w0.heap.size w0 w → Calls Try.prog 29 #[.agg #[.slice p1 long.length c1, .int .i64 sz, .slice p2 ks.length c2], .slice pc cut.length cc] w fun r w' => r = .returned (.tuple #[.agg #[.int .i64 v, .int .i64 u], .int .i64 e]) ∧ Below w.heap.size w w') := by
  cases hv : validB long sz ks
  · exact ⟨0, 0, 10, fun w hb => Whole_bad p1 c1 p2 c2 long sz ks w (h.below hb) pc cut cc hv, fun w hb => refWhole_bad p1 c1 p2 c2 long sz ks w (h.below hb) pc cc cut (hc.below hb) hn 10 (.inl ⟨hv, rfl⟩)⟩
  · cases hcut : cutOk sz (psum long long.length) 0 cut
    · exact ⟨0, 0, 11, fun w hb => Whole_no p1 c1 p2 c2 long sz ks w (h.below hb) pc cut cc (hc.below hb) hn hv hcut, fun w hb => refWhole_bad p1 c1 p2 c2 long sz ks w (h.below hb) pc cc cut (hc.below hb) hn 11 (.inr ⟨hv, hcut, rfl⟩)⟩
    · exact ⟨_, _, 0, fun w hb => Whole_good p1 c1 p2 c2 long sz ks w (h.below hb) pc cut cc (hc.below hb) hn hv hcut, fun w hb => refWhole_good p1 c1 p2 c2 long sz ks w (h.below hb) hc1 pc cc cut (hc.below hb) hn hv hcut⟩
end

set_option maxRecDepth 10000 in
set_option maxHeartbeats 1600000 in
theorem PeelCuts_any (p1 : Option Addr) (c1 : Nat) (p2 : Option Addr) (c2 : Nat) (long : List Int) (sz : Int) (ks : List K4) (w0 : World) (h : LogAt w0 p1 p2 long ks) (hc1 : long.length ≤ c1) (pc : Option Addr) (cc : Nat) (cut : List Int) (hc : IntsAt w0 pc cut) (hn : cut.length ≤ maxLen) :
    Calls Try.prog 4 #[.agg #[.slice p1 long.length c1, .int .i64 sz, .slice p2 ks.length c2], .slice pc cut.length cc] w0 fun e w' => e = .returned (.bool true) ∧ Below w0.heap.size w0 w' := by
  obtain ⟨v1, e1, a1, b1⟩ := both_IsCut p1 c1 p2 c2 long sz ks w0 h pc cc cut hc hn
  obtain ⟨v2, e2, a2, b2⟩ := both_Sure p1 c1 p2 c2 long sz ks w0 h pc cc cut hc hn hc1
  obtain ⟨v3, u3, e3, a3, b3⟩ := both_Whole p1 c1 p2 c2 long sz ks w0 h pc cc cut hc hn hc1
  have A1 := Lib.hid a1
  have B1 := Lib.hid b1
  have A2 := Lib.hid a2
  have B2 := Lib.hid b2
  have A3 := Lib.hid a3
  have B3 := Lib.hid b3
  clear a1 b1 a2 b2 a3 b3 h hc
  have KI := Lib.hid (Kept.new w0 #[.slice p1 long.length c1, .int .i64 sz, .slice p2 ks.length c2] 25)
  go_enter Try.func4, Try.ntmps4
  go_wp2_with (first | (refine load_row rfl 25 _ rfl _ rfl 25 _ _ KI.out.r Try.underlying25 rfl (by kernel_rfl) ?_))
  refine (A1.out _ KI.out.hb).mono ?_
  rintro e w1 ⟨rfl, hb1⟩
  have KI := Lib.hid (KI.out.below hb1)
  clear hb1
  go_wp2_with (first | (refine load_row rfl 25 _ rfl _ rfl 25 _ _ KI.out.r Try.underlying25 rfl (by kernel_rfl) ?_))
  refine (B1.out _ KI.out.hb).mono ?_
  rintro e w2 ⟨rfl, hb1⟩
  have KI := Lib.hid (KI.out.below hb1)
  clear hb1
  go_wp2_with (first | (refine load_row rfl 25 _ rfl _ rfl 25 _ _ KI.out.r Try.underlying25 rfl (by kernel_rfl) ?_))
  refine (A2.out _ KI.out.hb).mono ?_
  rintro e w3 ⟨rfl, hb1⟩
  have KI := Lib.hid (KI.out.below hb1)
  clear hb1
  go_wp2_with (first | (refine load_row rfl 25 _ rfl _ rfl 25 _ _ KI.out.r Try.underlying25 rfl (by kernel_rfl) ?_))
  refine (B2.out _ KI.out.hb).mono ?_
  rintro e w4 ⟨rfl, hb1⟩
  have KI := Lib.hid (KI.out.below hb1)
  clear hb1
  go_wp2_with (first | (refine load_row rfl 25 _ rfl _ rfl 25 _ _ KI.out.r Try.underlying25 rfl (by kernel_rfl) ?_))
  refine (A3.out _ KI.out.hb).mono ?_
  rintro e w5 ⟨rfl, hb1⟩
  have KI := Lib.hid (KI.out.below hb1)
  clear hb1
  have RA := Lib.hid (Row.new w5 #[.int .i64 v3, .int .i64 u3] 39)
  have KI := Lib.hid (KI.out.alloc (.cells #[.int .i64 v3, .int .i64 u3] 39))
  go_wp2_with (first | (refine load_row rfl 25 _ rfl _ rfl 25 _ _ KI.out.r Try.underlying25 rfl (by kernel_rfl) ?_))
  refine (B3.out _ KI.out.hb).mono ?_
  rintro e w6 ⟨rfl, hb1⟩
  have RA := Lib.hid (RA.out.below hb1 RA.out.lt)
  have KI := Lib.hid (KI.out.below hb1)
  clear hb1
  have RB := Lib.hid (Row.new w6 #[.int .i64 v3, .int .i64 u3] 39)
  have RA := Lib.hid (RA.out.alloc (.cells #[.int .i64 v3, .int .i64 u3] 39))
  have KI := Lib.hid (KI.out.alloc (.cells #[.int .i64 v3, .int .i64 u3] 39))
  have x0 := RA.out.cell 0 (v := .int .i64 v3) rfl
  have x1 := RA.out.cell 1 (v := .int .i64 u3) rfl
  go_wp2_with (first | (refine (peeled_any _).mono ?_; rintro e w9 ⟨rfl, hb9⟩; have KI := Lib.hid (KI.out.below hb9); clear hb9))
  go_ret
  exact ⟨rfl, KI.out.hb⟩
end Go.Proofs.Ytnnlbbmimdohoaa
