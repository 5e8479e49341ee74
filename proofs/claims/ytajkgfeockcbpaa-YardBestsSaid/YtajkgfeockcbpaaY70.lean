/- The law YardBests. -/
import Derived.Test.YtajkgfeockcbpaaY69
namespace Go.Proofs.Ytajkgfeockcbpaa
open Go.RowKit Go.Maps
attribute [local go_sem] Oper.semAt_some

def bestL (b : Yb) : List Int := if yardB b then intsN (lotsL (bestK b false)) else []
theorem best_two {b : Yb} {P : Yp} {w : World} (h : YbAt w P b) : Calls Try.prog 23 #[.agg (ybA b P)] w fun e w' => ∃ q cq, e = .returned (.tuple #[.slice q (bestL b).length cq, .int .i64 (yardE b)]) ∧ IntsAt w' q (bestL b) ∧ Below w.heap.size w w' := by
  refine (best_api b P w h).mono ?_
  rintro e w' ⟨hbw, hr⟩
  unfold bestL yardE
  rcases hr with ⟨h1, rfl⟩ | ⟨h1, q, cq, rfl, hi⟩
  · rw [h1]
    exact ⟨none, 0, rfl, fun i hi => absurd hi (Nat.not_lt_zero _), hbw⟩
  · rw [h1]
    exact ⟨q, cq, rfl, hi, hbw⟩
theorem refBest_two {b : Yb} {P : Yp} {w : World} (h : YbAt w P b) : Calls Try.prog 24 #[.agg (ybA b P)] w fun e w' => ∃ q cq, e = .returned (.tuple #[.slice q (bestL b).length cq, .int .i64 (yardE b)]) ∧ IntsAt w' q (bestL b) ∧ Below w.heap.size w w' := by
  refine (refBest_api b P w h).mono ?_
  rintro e w' ⟨hbw, hr⟩
  unfold bestL yardE
  rcases hr with ⟨h1, rfl⟩ | ⟨h1, q, cq, rfl, hi⟩
  · rw [h1]
    exact ⟨none, 0, rfl, fun i hi => absurd hi (Nat.not_lt_zero _), hbw⟩
  · rw [h1]
    exact ⟨q, cq, rfl, hi, hbw⟩
theorem bestL_le (b : Yb) : (bestL b).length ≤ 7 := by
  unfold bestL
  split
  · rw [intsN_len]; exact lotsL_le _
  · simp
set_option maxRecDepth 100000 in
set_option maxHeartbeats 6400000 in
theorem YardBests_any (b : Yb) (P : Yp) (w : World) (hB : YbAt w P b) :
    Calls Try.prog 4 #[.agg (ybA b P)] w fun e w' => e = .returned (.bool true) ∧ Below w.heap.size w w' := by
  obtain ⟨pl, cl, pd, cd, pb, cb, ps, cs⟩ := P
  obtain ⟨W0, hW0⟩ : ∃ W, W = w.alloc (.cells (ybA b ⟨pl, cl, pd, cd, pb, cb, ps, cs⟩) 25) := ⟨_, rfl⟩
  have HW0 := Lib.hid hW0
  have HE := Lib.hid (show Below w.heap.size w W0 by rw [hW0]; exact below_alloc _ _)
  have HRx := Lib.hid (show Row W0 w.heap.size (ybA b ⟨pl, cl, pd, cd, pb, cb, ps, cs⟩) 25 by rw [hW0]; exact Row.new _ _ _)
  have HB := Lib.hid (hB.below HE.out)
  have g0 := HRx.out.cell 0 (v := .slice pl b.lots.length cl) rfl
  have g1 := HRx.out.cell 1 (v := .slice pd b.doors.length cd) rfl
  have g2 := HRx.out.cell 2 (v := .slice pb b.buckets.length cb) rfl
  have g3 := HRx.out.cell 3 (v := .slice ps b.spare.length cs) rfl
  have g4 := HRx.out.cell 4 (v := .int .i64 b.apart) rfl
  have g5 := HRx.out.cell 5 (v := .int .i64 b.door) rfl
  have g6 := HRx.out.cell 6 (v := .int .i64 b.bucket) rfl
  have g7 := HRx.out.cell 7 (v := .int .i64 b.err) rfl
  have B1 := Lib.hid (fun w' (h : Below W0.heap.size W0 w') => best_two (P := ⟨pl, cl, pd, cd, pb, cb, ps, cs⟩) (HB.out.below h))
  have B2 := Lib.hid (fun w' (h : Below W0.heap.size W0 w') => refBest_two (P := ⟨pl, cl, pd, cd, pb, cb, ps, cs⟩) (HB.out.below h))
  have G1 := Lib.hid (fun w' (h : Below W0.heap.size W0 w') => goods_api b ⟨pl, cl, pd, cd, pb, cb, ps, cs⟩ w' (HB.out.below h))
  have G2 := Lib.hid (fun w' (h : Below W0.heap.size W0 w') => refGoods_api b ⟨pl, cl, pd, cd, pb, cb, ps, cs⟩ w' (HB.out.below h))
  have P1 := Lib.hid (fun w' (h : Below W0.heap.size W0 w') => place_api b ⟨pl, cl, pd, cd, pb, cb, ps, cs⟩ w' (HB.out.below h))
  have P2 := Lib.hid (fun w' (h : Below W0.heap.size W0 w') => refPlace_api b ⟨pl, cl, pd, cd, pb, cb, ps, cs⟩ w' (HB.out.below h))
  have hl7 := bestL_le b
  obtain ⟨L, hL⟩ : ∃ v, bestL b = v := ⟨_, rfl⟩
  obtain ⟨ye, hye⟩ : ∃ v, yardE b = v := ⟨_, rfl⟩
  obtain ⟨s1, hs1⟩ : ∃ v, (goodsV b).1 = v := ⟨_, rfl⟩
  obtain ⟨s2, hs2⟩ : ∃ v, (goodsV b).2.1 = v := ⟨_, rfl⟩
  obtain ⟨s3, hs3⟩ : ∃ v, (goodsV b).2.2 = v := ⟨_, rfl⟩
  obtain ⟨p1, hp1⟩ : ∃ v, (placeA b).1 = v := ⟨_, rfl⟩
  obtain ⟨p2, hp2⟩ : ∃ v, (placeA b).2 = v := ⟨_, rfl⟩
  rw [hL, hye] at B1 B2
  rw [hL] at hl7
  rw [hs1, hs2, hs3] at G1 G2
  rw [hp1, hp2] at P1 P2
  have HAL := Lib.hid (fun q c q2 c2 w' h1 h2 => (by have r := Alike_any q q2 c c2 L L w' (by unfold maxLen; omega) h1 h2; rw [show decide (L = L) = true by simp] at r; exact r))
  clear hL hye hs1 hs2 hs3 hp1 hp2 hW0 hB
  go_enter Try.func4, Try.ntmps4
  go_upto_region 1 with (fail)
  rw [← HW0.out]
  go_upto_region 6 with (first
    | (go_at_call 23; (with_reducible refine (B1.out _ (Below.refl _ _)).mono ?_); rintro e u ⟨q, cq, rfl, hi1, hbu⟩; have HI1 := Lib.hid hi1; obtain ⟨x0, hx0⟩ := later_of hbu; subst hx0; clear hbu hi1)
    | (go_at_call 24; (with_reducible refine (B2.out _ (Later.b _)).mono ?_); rintro e u ⟨q2, cq2, rfl, hi1, hbu⟩; have HI2 := Lib.hid hi1; have HI1 := Lib.hid (HI1.out.below hbu); obtain ⟨x1, hx1⟩ := x0.on hbu; subst hx1; clear hbu; clear hi1)
    | (go_at_call 25; (with_reducible refine (HAL.out _ _ _ _ _ HI1.out HI2.out).mono ?_); rintro e u ⟨rfl, hbu⟩; obtain ⟨x2, hx2⟩ := x1.on hbu; subst hx2; clear hbu)
    | (go_at_call 26; (with_reducible refine (G1.out _ (Later.b _)).mono ?_); rintro e u ⟨rfl, hbu⟩; obtain ⟨x3, hx3⟩ := x2.on hbu; subst hx3; clear hbu; have rS := Row.new x3.w #[.int .i64 s1, .int .i64 s2] 40; obtain ⟨x4, hx4⟩ := x3.on (below_alloc x3.w (.cells #[.int .i64 s1, .int .i64 s2] 40)); rw [hx4] at rS; have HRS := Lib.hid rS; clear rS)
    | (refine store_new rfl 40 _ _ rfl #[.int .i64 s1, .int .i64 s2] #[.int .i64 0, .int .i64 0] 40 rfl rfl (by kernel_rfl) rfl (by simp [Value.oneCell']) ?_))
  obtain ⟨gS, hgS⟩ : ∃ n, x3.w.heap.size = n := ⟨_, rfl⟩
  rw [hgS] at HRS ⊢
  clear hgS hx4
  go_upto_region 7 with (first
    | (go_at_call 27; (with_reducible refine (G2.out _ (Later.b _)).mono ?_); rintro e u ⟨rfl, hbu⟩; have HRS := Lib.hid (HRS.out.below hbu HRS.out.lt); obtain ⟨x5, hx5⟩ := x4.on hbu; subst hx5; clear hbu; have rS := Row.new x5.w #[.int .i64 s1, .int .i64 s2] 40; have hbu := below_alloc x5.w (.cells #[.int .i64 s1, .int .i64 s2] 40); have HRS := Lib.hid (HRS.out.below hbu HRS.out.lt); obtain ⟨x6, hx6⟩ := x5.on hbu; rw [hx6] at rS HRS; have HRT := Lib.hid rS; clear rS hbu)
    | (refine store_new rfl 40 _ _ rfl #[.int .i64 s1, .int .i64 s2] #[.int .i64 0, .int .i64 0] 40 rfl rfl (by kernel_rfl) rfl (by simp [Value.oneCell']) ?_))
  obtain ⟨gT, hgT⟩ : ∃ n, x5.w.heap.size = n := ⟨_, rfl⟩
  rw [hgT] at HRT ⊢
  clear hgT hx6
  have c0 := HRS.out.cell 0 (v := .int .i64 s1) rfl
  have c1 := HRS.out.cell 1 (v := .int .i64 s2) rfl
  have d0 := HRT.out.cell 0 (v := .int .i64 s1) rfl
  have d1 := HRT.out.cell 1 (v := .int .i64 s2) rfl
  go_wp2_with (first
    | (go_at_call 28; (with_reducible refine (P1.out _ (Later.b _)).mono ?_); rintro e u ⟨rfl, hbu⟩; obtain ⟨x7, hx7⟩ := x6.on hbu; subst hx7; clear hbu)
    | (go_at_call 29; (with_reducible refine (P2.out _ (Later.b _)).mono ?_); rintro e u ⟨rfl, hbu⟩; obtain ⟨x8, hx8⟩ := x7.on hbu; subst hx8; clear hbu)
    | (go_at_call 22; (with_reducible refine (stacked_any _).mono ?_); rintro e u ⟨rfl, hbu⟩; obtain ⟨x9, hx9⟩ := x8.on hbu; subst hx9; clear hbu))
  go_ret
  exact ⟨rfl, x9.base HE.out⟩
end Go.Proofs.Ytajkgfeockcbpaa
