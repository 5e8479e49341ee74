/- The law YardNears. -/
import Derived.Test.YtajkgfeockcbpaaRSB
import Derived.Test.YtajkgfeockcbpaaY33
namespace Go.Proofs.Ytajkgfeockcbpaa
open Go.RowKit Go.Maps
attribute [local go_sem] Oper.semAt_some

set_option maxRecDepth 100000 in
set_option maxHeartbeats 6400000 in
theorem YardNears_any (b : Yb) (P : Yp) (n0 n1 : Int) (p : Option Addr) (c : Nat) (l : List Int) (w : World) (hB : YbAt w P b) (hl : l.length < 2 ^ 61) (hI : IntsAt w p l) :
    Calls Try.prog 3 #[.agg (ybA b P), .agg #[.int .i64 n0, .int .i64 n1], .slice p l.length c] w fun e w' => e = .returned (.bool true) ∧ Below w.heap.size w w' := by
  obtain ⟨pl, cl, pd, cd, pb, cb, ps, cs⟩ := P
  obtain ⟨W0, hW0⟩ : ∃ W, W = (w.alloc (.cells (ybA b ⟨pl, cl, pd, cd, pb, cb, ps, cs⟩) 25)).alloc (.cells #[.int .i64 n0, .int .i64 n1] 26) := ⟨_, rfl⟩
  have HW0 := Lib.hid hW0
  have HE := Lib.hid (show Below w.heap.size w W0 by rw [hW0]; exact below_alloc2 _ _ _)
  have HRx := Lib.hid (show Row W0 w.heap.size (ybA b ⟨pl, cl, pd, cd, pb, cb, ps, cs⟩) 25 by rw [hW0]; exact (Row.new _ _ _).alloc _)
  have HRN := Lib.hid (show Row W0 (w.heap.size + 1) #[.int .i64 n0, .int .i64 n1] 26 by rw [hW0]; exact Row.new1 _ _ _ _)
  have HB := Lib.hid (hB.below HE.out)
  have g0 := HRx.out.cell 0 (v := .slice pl b.lots.length cl) rfl
  have g1 := HRx.out.cell 1 (v := .slice pd b.doors.length cd) rfl
  have g2 := HRx.out.cell 2 (v := .slice pb b.buckets.length cb) rfl
  have g3 := HRx.out.cell 3 (v := .slice ps b.spare.length cs) rfl
  have g4 := HRx.out.cell 4 (v := .int .i64 b.apart) rfl
  have g5 := HRx.out.cell 5 (v := .int .i64 b.door) rfl
  have g6 := HRx.out.cell 6 (v := .int .i64 b.bucket) rfl
  have g7 := HRx.out.cell 7 (v := .int .i64 b.err) rfl
  have r0 := HRN.out.cell 0 (v := .int .i64 n0) rfl
  have r1 := HRN.out.cell 1 (v := .int .i64 n1) rfl
  have N1 := Lib.hid (fun w' (h : Below W0.heap.size W0 w') => near_api b ⟨pl, cl, pd, cd, pb, cb, ps, cs⟩ n0 n1 w' (HB.out.below h))
  have N2 := Lib.hid (fun w' (h : Below W0.heap.size W0 w') => refNear_api b ⟨pl, cl, pd, cd, pb, cb, ps, cs⟩ n0 n1 w' (HB.out.below h))
  have C1 := Lib.hid (fun w' (h : Below W0.heap.size W0 w') => Check_any b ⟨pl, cl, pd, cd, pb, cb, ps, cs⟩ w' (HB.out.below h))
  have C2 := Lib.hid (fun w' (h : Below W0.heap.size W0 w') => refCheck_any b ⟨pl, cl, pd, cd, pb, cb, ps, cs⟩ w' (HB.out.below h))
  have S1 := Lib.hid (fun w' (h : Below W0.heap.size W0 w') => served_api b ⟨pl, cl, pd, cd, pb, cb, ps, cs⟩ n0 w' (HB.out.below h))
  have S2 := Lib.hid (fun w' (h : Below W0.heap.size W0 w') => refServed_api b ⟨pl, cl, pd, cd, pb, cb, ps, cs⟩ n0 w' (HB.out.below h))
  have A1 := Lib.hid (fun w' (h : Below W0.heap.size W0 w') => allowed_api b ⟨pl, cl, pd, cd, pb, cb, ps, cs⟩ p c l hl w' (HB.out.below h) (hI.below (HE.out.trans (h.mono HE.out.size))))
  have A2 := Lib.hid (fun w' (h : Below W0.heap.size W0 w') => refAllowed_api b ⟨pl, cl, pd, cd, pb, cb, ps, cs⟩ p c l hl w' (HB.out.below h) (hI.below (HE.out.trans (h.mono HE.out.size))))
  obtain ⟨a1, ha1⟩ : ∃ v, (nearA b n0 n1).1 = v := ⟨_, rfl⟩
  obtain ⟨a2, ha2⟩ : ∃ v, (nearA b n0 n1).2 = v := ⟨_, rfl⟩
  obtain ⟨b1, hb1⟩ : ∃ v, (servA b n0).1 = v := ⟨_, rfl⟩
  obtain ⟨b2, hb2⟩ : ∃ v, (servA b n0).2 = v := ⟨_, rfl⟩
  obtain ⟨d1, hd1⟩ : ∃ v, (allowA b l).1 = v := ⟨_, rfl⟩
  obtain ⟨d2, hd2⟩ : ∃ v, (allowA b l).2 = v := ⟨_, rfl⟩
  obtain ⟨ye, hye⟩ : ∃ v, yardE b = v := ⟨_, rfl⟩
  rw [ha1, ha2] at N1 N2
  rw [hb1, hb2] at S1 S2
  rw [hd1, hd2] at A1 A2
  rw [hye] at C1 C2
  clear ha1 ha2 hb1 hb2 hd1 hd2 hye hW0 hB hI
  go_enter Try.func3, Try.ntmps3
  go_upto_region 1 with (fail)
  rw [← HW0.out]
  go_wp2_with (first
    | (go_at_call 14; (with_reducible refine (N1.out _ (Below.refl _ _)).mono ?_); rintro e u ⟨rfl, hbu⟩; obtain ⟨x0, hx0⟩ := later_of hbu; subst hx0; clear hbu)
    | (go_at_call 15; (with_reducible refine (N2.out _ (Later.b _)).mono ?_); rintro e u ⟨rfl, hbu⟩; obtain ⟨x1, hx1⟩ := x0.on hbu; subst hx1; clear hbu))
  refine wp_region_later (by kernel_rfl) (by kernel_rfl) ?_
  repeat (go_big_quiet_step (first
    | (go_at_call 16; with_reducible exact Calls.later_of (C1.out _ (Below.trans (Later.b _) (Below.mono (Later.b _) (Below.size (Later.b _))))))
    | (go_at_call 17; with_reducible exact Calls.later_of (C2.out _ (Below.trans (Later.b _) (Below.mono (Later.b _) (Below.size (Later.b _))))))))
  refine wpQuiet_nil ?_
  intro _ hw'
  obtain ⟨y, hw''⟩ := hw'
  subst hw''
  obtain ⟨x2, hx2⟩ := x1.up y
  rw [hx2]
  clear hx2
  go_wp2_with (first
    | (go_at_call 18; (with_reducible refine (S1.out _ (Later.b _)).mono ?_); rintro e u ⟨rfl, hbu⟩; obtain ⟨x3, hx3⟩ := x2.on hbu; subst hx3; clear hbu)
    | (go_at_call 19; (with_reducible refine (S2.out _ (Later.b _)).mono ?_); rintro e u ⟨rfl, hbu⟩; obtain ⟨x4, hx4⟩ := x3.on hbu; subst hx4; clear hbu)
    | (go_at_call 20; (with_reducible refine (A1.out _ (Later.b _)).mono ?_); rintro e u ⟨rfl, hbu⟩; obtain ⟨x5, hx5⟩ := x4.on hbu; subst hx5; clear hbu)
    | (go_at_call 21; (with_reducible refine (A2.out _ (Later.b _)).mono ?_); rintro e u ⟨rfl, hbu⟩; obtain ⟨x6, hx6⟩ := x5.on hbu; subst hx6; clear hbu)
    | (go_at_call 22; (with_reducible refine (stacked_any _).mono ?_); rintro e u ⟨rfl, hbu⟩; obtain ⟨x7, hx7⟩ := x6.on hbu; subst hx7; clear hbu))
  go_ret
  exact ⟨rfl, x7.base HE.out⟩
end Go.Proofs.Ytajkgfeockcbpaa
