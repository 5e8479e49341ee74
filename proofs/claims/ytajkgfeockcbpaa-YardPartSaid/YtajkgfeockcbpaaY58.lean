/- The law YardPart, where the choice is allowed in each truth. -/
import Derived.Test.YtajkgfeockcbpaaY57
namespace Go.Proofs.Ytajkgfeockcbpaa
open Go.RowKit Go.Maps
attribute [local go_sem] Oper.semAt_some

set_option maxRecDepth 100000 in
set_option maxHeartbeats 6400000 in
theorem YardPart_yes (b : Yb) (P : Yp) (n0 n1 n2 : Int) (w : World) (hB : YbAt w P b)  (hb : yardB b = true) (ha : allowK b false (drawnF b n0) = true) :
    Calls Try.prog 9 #[.agg (ybA b P), .agg #[.int .i64 n0, .int .i64 n1, .int .i64 n2]] w fun e w' => e = .returned (.bool true) ∧ Below w.heap.size w w' := by
  obtain ⟨pl, cl, pd, cd, pb, cb, ps, cs⟩ := P
  obtain ⟨W0, hW0⟩ : ∃ W, W = (w.alloc (.cells (ybA b ⟨pl, cl, pd, cd, pb, cb, ps, cs⟩) 25)).alloc (.cells #[.int .i64 n0, .int .i64 n1, .int .i64 n2] 58) := ⟨_, rfl⟩
  have HW0 := Lib.hid hW0
  have HE := Lib.hid (show Below w.heap.size w W0 by rw [hW0]; exact below_alloc2 _ _ _)
  have HRx := Lib.hid (show Row W0 w.heap.size (ybA b ⟨pl, cl, pd, cd, pb, cb, ps, cs⟩) 25 by rw [hW0]; exact (Row.new _ _ _).alloc _)
  have HRN := Lib.hid (show Row W0 (w.heap.size + 1) #[.int .i64 n0, .int .i64 n1, .int .i64 n2] 58 by rw [hW0]; exact Row.new1 _ _ _ _)
  have HB := Lib.hid (hB.below HE.out)
  have hn61 := hB.n1
  clear hW0 hB
  have HSO := Lib.hid (sound_yes b ⟨pl, cl, pd, cd, pb, cb, ps, cs⟩ W0 HB.out hb)
  have HOK := Lib.hid (yardB_ok hb)
  have HBB := Lib.hid hb
  have hok := HOK.out
  have hL1 := hok.n1
  have hL7 := hok.n7
  have he0 := hok.e0
  have g0 := HRx.out.cell 0 (v := .slice pl b.lots.length cl) rfl
  have g1 := HRx.out.cell 1 (v := .slice pd b.doors.length cd) rfl
  have g2 := HRx.out.cell 2 (v := .slice pb b.buckets.length cb) rfl
  have g3 := HRx.out.cell 3 (v := .slice ps b.spare.length cs) rfl
  have g4 := HRx.out.cell 4 (v := .int .i64 b.apart) rfl
  have g5 := HRx.out.cell 5 (v := .int .i64 b.door) rfl
  have g6 := HRx.out.cell 6 (v := .int .i64 b.bucket) rfl
  have g7 := HRx.out.cell 7 (v := .int .i64 b.err) rfl
  have r0 := HRN.out.cell 0 (v := .int .i64 n0) rfl
  have r1 := HRN.out.cell 1 (v := .int .i64 n1) rfl
  have r2 := HRN.out.cell 2 (v := .int .i64 n2) rfl
  have hmlt : ∀ i, drawnF b n0 i = true → i < b.lots.length := fun i h => drawnF_lt h
  have HDR := Lib.hid (fun w' => drawn_any b ⟨pl, cl, pd, cd, pb, cb, ps, cs⟩ hL7 n0 w')
  have HAL := Lib.hid (fun q cq w' (h : Below W0.heap.size W0 w') hi => allowed_good (q := q) (cq := cq) HBB.out hmlt (HB.out.below h) hi)
  have HPA := Lib.hid (fun q cq w' h1 => part_set (drawnF b n0) n1 q cq w' h1)
  have HAP := Lib.hid (fun q cq w' (h : Below W0.heap.size W0 w') hi => allowed_good (q := q) (cq := cq) HBB.out (f := partS (drawnF b n0) n1) (fun i hi => hmlt i (partS_sub hi)) (HB.out.below h) hi)
  have HMO := Lib.hid (fun q cq w' (h : Below W0.heap.size W0 w') hi => more_any2 (q := q) (cq := cq) HBB.out hmlt (HB.out.below h) hi)
  have HBR := Lib.hid (fun q cq w' (h : Below W0.heap.size W0 w') hi => breaks_good (q := q) (cq := cq) HBB.out hmlt (HB.out.below h) hi)
  have hsub := kind_sub (b := b) (f := drawnF b n0) (g := partS (drawnF b n0) n1) (fun i h => partS_sub h)
  have hbn := breaks_none (b := b) (m := drawnF b n0)
  have hkd := allow_kind he0 (drawnF b n0)
  have HPO := Lib.hid (fun x (hx : x ∈ pairsL (nearK b false) (lotsL (drawnF b n0))) => pair_ok hmlt hx)
  have HLO := Lib.hid (fun i (hi : i ∈ lotsL (unservF b false (drawnF b n0))) => lot_ok hL7 hmlt hi)
  have HIX := Lib.hid (fun q cq v w' (hi : IntsAt w' q (intsN (lotsL (drawnF b n0)))) => Calls.mono (Index_any q cq (intsN (lotsL (drawnF b n0))) v (by rw [intsN_len]; have := lotsL_le (drawnF b n0); omega) w' hi) (R' := fun e w'' => e = .returned (.int .i64 (idxN (intsN (lotsL (drawnF b n0))) v)) ∧ w' = w'') (by rintro e u ⟨rfl, rfl⟩; exact ⟨rfl, rfl⟩))
  have HIQ := Lib.hid (fun q cq v w' (hi : IntsAt w' q (intsN (lotsL (moreF b (drawnF b n0))))) => Calls.mono (Index_any q cq (intsN (lotsL (moreF b (drawnF b n0)))) v (by rw [intsN_len]; have := lotsL_le (moreF b (drawnF b n0)); omega) w' hi) (R' := fun e w'' => e = .returned (.int .i64 (idxN (intsN (lotsL (moreF b (drawnF b n0)))) v)) ∧ w' = w'') (by rintro e u ⟨rfl, rfl⟩; exact ⟨rfl, rfl⟩))
  have HGR := Lib.hid (fun q cq w' hi => Group_any (lotsL (drawnF b n0)) (lotsL_le _) (fun x hx => (lotsL_mem.1 hx).1) q cq w' hi)
  have hpl := pairsL_length (nearK b false) (lotsL (drawnF b n0))
  have hml := lotsL_le (drawnF b n0)
  have hul := lotsL_le (unservF b false (drawnF b n0))
  have hpl49 : (pairsL (nearK b false) (lotsL (drawnF b n0))).length ≤ 49 := Nat.le_trans hpl (Nat.mul_le_mul hml hml)
  obtain ⟨r, hr, hrL⟩ := spin_nat (n := n2) (m := (b.lots.length : Int)) (by omega)
  have HSP := Lib.hid (fun w' => (by have q := Spin_any n2 (b.lots.length : Int) w' (by unfold I64; omega); rw [hr] at q; exact q))
  have hrN : r < b.lots.length := by omega
  have hr0 : (0 : Int) ≤ (r : Int) := by omega
  have hgw := group_with hL7 hmlt hrN
  have hwl : ∀ i, withF (drawnF b n0) r i = true → i < b.lots.length := fun i hi => by
    unfold withF at hi
    split at hi
    · omega
    · exact hmlt i hi
  have HWK := Lib.hid (fun q cq w' (h : Below W0.heap.size W0 w') hi => allowed_good (q := q) (cq := cq) HBB.out (f := withF (drawnF b n0) r) hwl (HB.out.below h) hi)
  have HMK := Lib.hid (fun w' => (by have h := Marks_any (orN (groupN (lotsL (drawnF b n0))) (2 ^ r)) b.lots.length w' hgw.2.2.1 (by omega); rw [marksL_set hL7, hgw.2.2.2] at h; exact h))
  have hix := idx_lots (drawnF b n0) r
  have hiq := idx_lots (moreF b (drawnF b n0)) r
  have hkw := allow_kind he0 (withF (drawnF b n0) r)
  unfold GaveSet at HDR HPA
  obtain ⟨m, hm⟩ : ∃ v, drawnF b n0 = v := ⟨_, rfl⟩
  rw [hm] at HDR HAL HPA HAP HMO HBR hsub hbn hkd HPO HLO HIX HIQ HGR hpl49 hul hgw HWK HMK hix hiq hkw hmlt ha
  clear hm hr hpl hml
  obtain ⟨kd, hkde⟩ : ∃ v, kindN (fun k => allowK b k m) = v := ⟨_, rfl⟩
  obtain ⟨kp, hkpe⟩ : ∃ v, kindN (fun k => allowK b k (partS m n1)) = v := ⟨_, rfl⟩
  obtain ⟨kw, hkwe⟩ : ∃ v, kindN (fun k => allowK b k (withF m r)) = v := ⟨_, rfl⟩
  rw [hkde] at HAL hsub hkd
  rw [hkpe] at HAP hsub
  rw [hkwe] at HWK hkw
  obtain ⟨gN, hgN⟩ : ∃ v, groupN (lotsL m) = v := ⟨_, rfl⟩
  rw [hgN] at HGR HMK hgw
  obtain ⟨oN, hoN⟩ : ∃ v, orN gN (2 ^ r) = v := ⟨_, rfl⟩
  rw [hoN] at HMK hgw
  have hor := hgw.2.1
  obtain ⟨N, hN⟩ : ∃ n, 2 ^ r = n := ⟨_, rfl⟩
  have hp := pow_few (n := r) (by omega)
  obtain ⟨ex, ey⟩ := pow_wrap hN hp.2
  rw [hN] at hor
  obtain ⟨LW, hLW⟩ : ∃ v, intsN (lotsL (withF m r)) = v := ⟨_, rfl⟩
  rw [hLW] at HMK HWK
  obtain ⟨LE, hLE⟩ : ∃ v, intsN (lotsL (partS m n1)) = v := ⟨_, rfl⟩
  rw [hLE] at HPA HAP
  obtain ⟨ix, hixe⟩ : ∃ v, idxN (intsN (lotsL m)) (r : Int) = v := ⟨_, rfl⟩
  obtain ⟨iq, hiqe⟩ : ∃ v, idxN (intsN (lotsL (moreF b m))) (r : Int) = v := ⟨_, rfl⟩
  have HIXE := Lib.hid hixe
  have HIQE := Lib.hid hiqe
  rw [hixe] at hix
  rw [hiqe] at hiq
  have hmr : moreF b m r = (!m r && allowK b false (withF m r)) := by
    unfold moreF allF
    rw [decide_eq_true hrN, Bool.true_and]
  clear hkde hkpe hkwe hgN hoN hLW hLE hixe hiqe hgw hN hp hb hok
  have hr7 : r < 7 := by omega
  have hm4 : moreL b m = intsN (lotsL (moreF b m)) ∧ moreE b m = 0 := by unfold moreL moreE; rw [ha]; exact ⟨rfl, rfl⟩
  rw [hm4.1, hm4.2] at HMO
  have hkd2 : kd = 2 := by rw [hkd, ha, if_pos rfl]
  have h0 := hbn.1 ha
  have hPL : pairsL (nearK b false) (lotsL m) = [] := List.eq_nil_of_length_eq_zero (by omega)
  have hUL : lotsL (unservF b false m) = [] := List.eq_nil_of_length_eq_zero (by omega)
  rw [hPL, hUL] at HBR
  simp only [intsN_nil, List.length_nil] at HBR
  have hlt : ¬ kp < kd := by omega
  have hlt' := eq_false hlt
  have hk3 : 0 ≤ ix → ix < 0 → False := fun h1 h2 => by omega
  have hY : 0 ≤ ix ∨ (ix < 0 ∧ ((kw == 2) = true ∧ 0 ≤ iq ∨ (kw == 2) = false ∧ iq < 0)) := by
    by_cases h : 0 ≤ ix
    · exact .inl h
    · refine .inr ⟨by omega, ?_⟩
      have hmf : m r = false := by
        cases hq : m r
        · rfl
        · exact absurd (hix.2 ⟨hr7, hq⟩) h
      rw [hmf, Bool.not_false, Bool.true_and] at hmr
      rw [hmr] at hiq
      rw [hkw]
      cases haw : allowK b false (withF m r)
      · rw [haw] at hiq
        refine .inr ⟨?_, ?_⟩
        · rw [if_neg (by simp)]
          split <;> rfl
        · have : ¬ 0 ≤ iq := fun h => by
            have := (hiq.1 h).2
            cases this
          omega
      · rw [haw] at hiq
        exact .inl ⟨rfl, hiq.2 ⟨hr7, rfl⟩⟩
  have HYW := Lib.hid hY
  clear hm4 hbn hkd hsub hix hiq hkw hmr ha hul h0 hPL hUL hpl49 HPO HLO hk3 hY
  subst hkd2
  go_enter Try.func9, Try.ntmps9
  go_upto_region 1 with (fail)
  rw [← HW0.out]
  go_upto_region 5 with (first
    | (go_at_call 37; (with_reducible refine HSO.out.mono ?_); rintro e u ⟨rfl, hbu⟩; obtain ⟨x0, hx0⟩ := later_of hbu; subst hx0; clear hbu)
    | (go_at_call 42; (with_reducible refine (HDR.out _).mono ?_); rintro e u ⟨qm, cqm, rfl, hi1, hbu⟩; have HIM := Lib.hid hi1; obtain ⟨x1, hx1⟩ := x0.on hbu; subst hx1; clear hbu; clear hi1)
    | (go_at_call 20; (with_reducible refine (HAL.out _ _ _ (Later.b _) HIM.out).mono ?_); rintro e u ⟨rfl, hbu⟩; have HIM := Lib.hid (HIM.out.below hbu); obtain ⟨x2, hx2⟩ := x1.on hbu; subst hx2; clear hbu))
  refine wp_region_held_drew (S := fun w' => Row w' w.heap.size (ybA b ⟨pl, cl, pd, cd, pb, cb, ps, cs⟩) 25 ∧ w'.cell? ⟨w.heap.size + 1, 1, none⟩ = some (.int .i64 n1)) (by kernel_rfl) ⟨HRx.out.below x2.b.drew HRx.out.lt, (HRN.out.below x2.b.drew HRN.out.lt).cell 1 rfl⟩ (fun hH => ?_)
  have hbu : Below x2.w.heap.size x2.w x2.w.drew := (Below.refl _ _).drew
  have HIM := Lib.hid (HIM.out.below hbu)
  obtain ⟨x3, hx2⟩ := x2.on hbu
  clear hbu
  rw [hx2] at HIM hH ⊢
  clear hx2
  refine wpAnyH_take_to 0 40 (.agg (ybA b ⟨pl, cl, pd, cd, pb, cb, ps, cs⟩)) rfl rfl (by kernel_rfl) (by kernel_rfl) (by kernel_rfl) (fun _ _ _ h => h) (yields_row (by rfl) 25 _ rfl (w.heap.size) rfl 25 (ybA b ⟨pl, cl, pd, cd, pb, cb, ps, cs⟩) _ (fun _ h => h.1) Try.underlying25 rfl (by kernel_rfl)) hH ?_
  refine wpAnyH_take_to 1 41 (.slice qm (intsN (lotsL m)).length cqm) rfl rfl (by kernel_rfl) (by kernel_rfl) (by kernel_rfl) (fun _ _ _ h => h) (Or.inl ⟨by rfl, fun w' hSw => by (obtain ⟨q0, q1⟩ := hSw; go_simp)⟩) hH ?_
  refine wpAnyH_take_to 2 42 (.pointer (some ⟨w.heap.size + 1, 1, none⟩)) rfl rfl (by kernel_rfl) (by kernel_rfl) (by kernel_rfl) (fun _ _ _ h => h) (Or.inl ⟨by rfl, fun w' hSw => by (obtain ⟨q0, q1⟩ := hSw; go_simp)⟩) hH ?_
  refine wpAnyH_take_to 3 43 (.int .i64 n1) rfl rfl (by kernel_rfl) (by kernel_rfl) (by kernel_rfl) (fun _ _ _ h => h) (Or.inl ⟨by rfl, fun w' hSw => by (obtain ⟨q0, q1⟩ := hSw; go_simp)⟩) hH ?_
  try simp only [Act.put, List.setIfInBounds_toArray, List.set_cons_succ, List.set_cons_zero]
  refine wpAnyH_ready (rs := [4]) (by kernel_rfl) (by simp) (AllReadyH.cons rfl (fun K hK => ?_) AllReadyH.nil)
  go_simp
  refine (HPA.out _ _ _ HIM.out).mono ?_
  rintro e u ⟨qe, cqe, rfl, hi1, hbu⟩
  have HIe := Lib.hid hi1
  have HIM := Lib.hid (HIM.out.below hbu)
  obtain ⟨x4, hx3⟩ := x3.on hbu
  subst hx3
  clear hbu hi1
  refine hK.out _ _ ⟨HRx.out.below x4.b HRx.out.lt, (HRN.out.below x4.b HRN.out.lt).cell 1 rfl⟩ (fun hH => ?_)
  clear hK K
  try simp only [Act.put, List.setIfInBounds_toArray, List.set_cons_succ, List.set_cons_zero]
  refine wpAnyH_ready (rs := [5]) (by kernel_rfl) (by simp) (AllReadyH.cons rfl (fun K hK => ?_) AllReadyH.nil)
  go_simp
  refine (HAP.out _ _ _ (Later.b _) HIe.out).mono ?_
  rintro e u ⟨rfl, hbu⟩
  have HIM := Lib.hid (HIM.out.below hbu)
  obtain ⟨x5, hx4⟩ := x4.on hbu
  subst hx4
  clear hbu
  refine hK.out _ _ ⟨HRx.out.below x5.b HRx.out.lt, (HRN.out.below x5.b HRN.out.lt).cell 1 rfl⟩ (fun hH => ?_)
  clear hK K
  try simp only [Act.put, List.setIfInBounds_toArray, List.set_cons_succ, List.set_cons_zero]
  refine wpAnyH_take_to 6 39 (.tuple #[.int .i64 kp, .int .i64 0]) rfl rfl (by kernel_rfl) (by kernel_rfl) (by kernel_rfl) (fun _ _ _ h => h) (Or.inl ⟨by rfl, fun w' hSw => by (obtain ⟨q0, q1⟩ := hSw; go_simp)⟩) hH ?_
  refine wpAnyH_take_to 7 46 (.int .i64 kp) rfl rfl (by kernel_rfl) (by kernel_rfl) (by kernel_rfl) (fun _ _ _ h => h) (Or.inl ⟨by rfl, fun w' hSw => by (obtain ⟨q0, q1⟩ := hSw; go_simp)⟩) hH ?_
  refine wpAnyH_take_to 8 47 (.int .i64 0) rfl rfl (by kernel_rfl) (by kernel_rfl) (by kernel_rfl) (fun _ _ _ h => h) (Or.inl ⟨by rfl, fun w' hSw => by (obtain ⟨q0, q1⟩ := hSw; go_simp)⟩) hH ?_
  refine wpAnyH_take_to 9 8 (.int .i64 kp) rfl rfl (by kernel_rfl) (by kernel_rfl) (by kernel_rfl) (fun _ _ _ h => h) (Or.inl ⟨by rfl, fun w' hSw => by (obtain ⟨q0, q1⟩ := hSw; go_simp)⟩) hH ?_
  refine wpAnyH_take_to 10 9 (.int .i64 0) rfl rfl (by kernel_rfl) (by kernel_rfl) (by kernel_rfl) (fun _ _ _ h => h) (Or.inl ⟨by rfl, fun w' hSw => by (obtain ⟨q0, q1⟩ := hSw; go_simp)⟩) hH ?_
  try simp only [Act.put, List.setIfInBounds_toArray, List.set_cons_succ, List.set_cons_zero]
  refine wpAnyH_done (by kernel_rfl) ?_ _
  simp only [Exit.then, Act.put]
  go_upto_region 8 with (first
    | (go_at_call 30; (with_reducible refine (HMO.out _ _ _ (Later.b _) HIM.out).mono ?_); rintro e u ⟨qr, cqr, rfl, hi1, hbu⟩; have HIR := Lib.hid hi1; have HIM := Lib.hid (HIM.out.below hbu); obtain ⟨x6, hx6⟩ := x5.on hbu; subst hx6; clear hbu; clear hi1)
    | (go_at_call 32; (with_reducible refine (HBR.out _ _ _ (Later.b _) HIM.out).mono ?_); rintro e u ⟨pp, qu, cu, rfl, hi1, hi2, hbu⟩; have HIP := Lib.hid hi1; have HIU := Lib.hid hi2; have HIM := Lib.hid (HIM.out.below hbu); have HIR := Lib.hid (HIR.out.below hbu); obtain ⟨x7, hx7⟩ := x6.on hbu; subst hx7; clear hbu; clear hi1 hi2))
  go_wp2_with fail
  go_loopw [15] (fun i wr => i = .int .i64 0 ∧ ∃ x : Later W0, wr = x.w ∧ IntsAt wr qm (intsN (lotsL m)) ∧ IntsAt wr qr (intsN (lotsL (moreF b m)))) (fun i _ => 0)
  case atStart => exact ⟨rfl, x7, rfl, HIM.out, HIR.out⟩
  case round =>
    obtain ⟨rfl, x8, rfl, hi1, hi2⟩ := hrel
    have HIM := Lib.hid hi1
    have HIR := Lib.hid hi2
    clear hi1 hi2
    go_wp2_with fail
    go_loopw [18] (fun i wr => i = .int .i64 0 ∧ ∃ x : Later W0, wr = x.w ∧ IntsAt wr qm (intsN (lotsL m)) ∧ IntsAt wr qr (intsN (lotsL (moreF b m)))) (fun i _ => 0)
    case atStart => exact ⟨rfl, x8, rfl, HIM.out, HIR.out⟩
    case round =>
      obtain ⟨rfl, x9, rfl, hi1, hi2⟩ := hrel
      have HIM := Lib.hid hi1
      have HIR := Lib.hid hi2
      clear hi1 hi2
      have HI1 := Lib.hid (fun w' h => (by have q := HIX.out qm cqm (r : Int) w' h; rw [HIXE.out] at q; exact q))
      have HI2 := Lib.hid (fun w' h => (by have q := HIQ.out qr cqr (r : Int) w' h; rw [HIQE.out] at q; exact q))
      rcases HYW.out with hY | ⟨hY, hY2⟩
      · go_wp2_with (first
          | (go_at_call 44; (with_reducible refine (HSP.out _).mono ?_); rintro e u ⟨rfl, rfl⟩)
          | (go_at_call 48; (with_reducible refine (HI1.out _ HIM.out).mono ?_); rintro e u ⟨rfl, rfl⟩)
          | (go_at_call 22; (with_reducible refine (stacked_any _).mono ?_); rintro e u ⟨rfl, hbu⟩; obtain ⟨ye, hye⟩ := x9.on hbu; subst hye; clear hbu))
        go_ret
        exact ⟨rfl, ye.base HE.out⟩
      · have hY' : ¬ 0 ≤ ix := by omega
        have hY'' := eq_false hY'
        go_upto_region 25 with (first
          | (go_at_call 44; (with_reducible refine (HSP.out _).mono ?_); rintro e u ⟨rfl, rfl⟩)
          | (go_at_call 48; (with_reducible refine (HI1.out _ HIM.out).mono ?_); rintro e u ⟨rfl, rfl⟩))
        refine wp_region_held_drew (S := fun w' => w'.cell? ⟨w.heap.size, 0, none⟩ = some (.slice pl b.lots.length cl)) (by kernel_rfl) ((HRx.out.below x9.b.drew HRx.out.lt).cell 0 rfl) (fun hH => ?_)
        have hbu : Below x9.w.heap.size x9.w x9.w.drew := (Below.refl _ _).drew
        have HIM := Lib.hid (HIM.out.below hbu)
        have HIR := Lib.hid (HIR.out.below hbu)
        obtain ⟨x10, hx10⟩ := x9.on hbu
        clear hbu
        rw [hx10] at HIM HIR hH ⊢
        clear hx10
        refine wpAnyH_take_to 0 206 (.slice qm (intsN (lotsL m)).length cqm) rfl rfl (by kernel_rfl) (by kernel_rfl) (by kernel_rfl) (fun _ _ _ h => h) (Or.inl ⟨by rfl, fun w' hSw => by go_simp⟩) hH ?_
        refine wpAnyH_take_to 2 208 (.int .i64 (r : Int)) rfl rfl (by kernel_rfl) (by kernel_rfl) (by kernel_rfl) (fun _ _ _ h => h) (Or.inl ⟨by rfl, fun w' hSw => by go_simp⟩) hH ?_
        refine wpAnyH_take_to 3 209 (.int .i64 (N : Int)) rfl rfl (by kernel_rfl) (by kernel_rfl) (by kernel_rfl) (fun _ _ _ h => h) (Or.inl ⟨by rfl, fun w' hSw => by go_simp⟩) hH ?_
        refine wpAnyH_take_to 5 211 (.pointer (some ⟨w.heap.size, 0, none⟩)) rfl rfl (by kernel_rfl) (by kernel_rfl) (by kernel_rfl) (fun _ _ _ h => h) (Or.inl ⟨by rfl, fun w' hSw => by go_simp⟩) hH ?_
        refine wpAnyH_take_to 6 212 (.slice pl b.lots.length cl) rfl rfl (by kernel_rfl) (by kernel_rfl) (by kernel_rfl) (fun _ _ _ h => h) (Or.inl ⟨by rfl, fun w' hSw => by go_simp⟩) hH ?_
        refine wpAnyH_take_to 7 213 (.int .i64 (b.lots.length : Int)) rfl rfl (by kernel_rfl) (by kernel_rfl) (by kernel_rfl) (fun _ _ _ h => h) (Or.inl ⟨by rfl, fun w' hSw => by go_simp⟩) hH ?_
        try simp only [Act.put, List.setIfInBounds_toArray, List.set_cons_succ, List.set_cons_zero]
        refine wpAnyH_ready (rs := [1]) (by kernel_rfl) (by simp) (AllReadyH.cons rfl (fun K hK => ?_) AllReadyH.nil)
        go_simp
        refine (HGR.out _ _ _ HIM.out).mono ?_
        rintro e u ⟨rfl, hbu⟩
        have HIM := Lib.hid (HIM.out.below hbu)
        have HIR := Lib.hid (HIR.out.below hbu)
        obtain ⟨x11, hx11⟩ := x10.on hbu
        subst hx11
        clear hbu
        refine hK.out _ _ ((HRx.out.below x11.b HRx.out.lt).cell 0 rfl) (fun hH => ?_)
        clear hK K
        try simp only [Act.put, List.setIfInBounds_toArray, List.set_cons_succ, List.set_cons_zero]
        refine wpAnyH_take_to 4 210 (.int .i64 (oN : Int)) rfl rfl (by kernel_rfl) (by kernel_rfl) (by kernel_rfl) (fun _ _ _ h => h) (Or.inl ⟨by rfl, fun w' hSw => by (go_simp; try (rw [hor]))⟩) hH ?_
        try simp only [Act.put, List.setIfInBounds_toArray, List.set_cons_succ, List.set_cons_zero]
        refine wpAnyH_ready (rs := [8]) (by kernel_rfl) (by simp) (AllReadyH.cons rfl (fun K hK => ?_) AllReadyH.nil)
        go_simp
        refine (HMK.out _).mono ?_
        rintro e u ⟨qw, cqw, rfl, hi1, hbu⟩
        have HIW := Lib.hid hi1
        have HIR := Lib.hid (HIR.out.below hbu)
        obtain ⟨x12, hx12⟩ := x11.on hbu
        subst hx12
        clear hbu hi1
        refine hK.out _ _ ((HRx.out.below x12.b HRx.out.lt).cell 0 rfl) (fun hH => ?_)
        clear hK K
        try simp only [Act.put, List.setIfInBounds_toArray, List.set_cons_succ, List.set_cons_zero]
        refine wpAnyH_take_to 9 22 (.slice qw LW.length cqw) rfl rfl (by kernel_rfl) (by kernel_rfl) (by kernel_rfl) (fun _ _ _ h => h) (Or.inl ⟨by rfl, fun w' hSw => by go_simp⟩) hH ?_
        try simp only [Act.put, List.setIfInBounds_toArray, List.set_cons_succ, List.set_cons_zero]
        refine wpAnyH_done (by kernel_rfl) ?_ _
        simp only [Exit.then, Act.put]
        go_upto_region 27 with (first
          | (go_at_call 20; (with_reducible refine (HWK.out _ _ _ (Later.b _) HIW.out).mono ?_); rintro e u ⟨rfl, hbu⟩; have HIR := Lib.hid (HIR.out.below hbu); obtain ⟨x13, hx13⟩ := x12.on hbu; subst hx13; clear hbu))
        rcases hY2 with ⟨h1, h2⟩ | ⟨h1, h2⟩
        · go_wp2_with (first
            | (go_at_call 48; (with_reducible refine (HI2.out _ HIR.out).mono ?_); rintro e u ⟨rfl, rfl⟩)
            | (go_at_call 22; (with_reducible refine (stacked_any _).mono ?_); rintro e u ⟨rfl, hbu⟩; obtain ⟨ye, hye⟩ := x13.on hbu; subst hye; clear hbu))
          go_ret
          exact ⟨rfl, ye.base HE.out⟩
        · have h3 : ¬ 0 ≤ iq := by omega
          have h3' := eq_false h3
          go_wp2_with (first
            | (go_at_call 48; (with_reducible refine (HI2.out _ HIR.out).mono ?_); rintro e u ⟨rfl, rfl⟩)
            | (go_at_call 22; (with_reducible refine (stacked_any _).mono ?_); rintro e u ⟨rfl, hbu⟩; obtain ⟨ye, hye⟩ := x13.on hbu; subst hye; clear hbu))
          go_ret
          exact ⟨rfl, ye.base HE.out⟩
end Go.Proofs.Ytajkgfeockcbpaa
