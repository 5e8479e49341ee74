/- The law YardPart. -/
import Derived.Test.YtajkgfeockcbpaaY56
import Derived.Test.YtajkgfeockcbpaaY33
namespace Go.Proofs.Ytajkgfeockcbpaa
open Go.RowKit Go.Maps
attribute [local go_sem] Oper.semAt_some

theorem intsN_nil : intsN [] = [] := rfl
theorem pow_wrap {r N : Nat} (h : 2 ^ r = N) (h8 : 2 ^ r ≤ 256) : wrap64 (2 ^ r) = (N : Int) ∧ IntKind.i64.wrap (2 ^ r) = (N : Int) := by
  rw [h] at h8
  rw [show ((2 : Int) ^ r) = (N : Int) by rw [← h]; simp]
  exact ⟨IntWalk.wrap64_in _ (by omega), IntWalk.i64_in _ (by omega)⟩
theorem pairsL_length (f : Nat → Nat → Bool) : ∀ l : List Nat, (pairsL f l).length ≤ l.length * l.length
  | [] => by simp [pairsL]
  | x :: l => by
    have ih := pairsL_length f l
    have h := List.length_filter_le (f x) l
    rw [pairsL, List.length_append, List.length_map, List.length_cons, Nat.succ_mul, Nat.mul_succ]
    omega
/-- The cells of the numbers of a list. -/
theorem ints_cell {w : World} {q : Option Addr} {l : List Nat} (h : IntsAt w q (intsN l)) {k : Nat} (hk : k < l.length) : ∃ g o, q = some ⟨g, o, none⟩ ∧ w.cell? ⟨g, o + k, none⟩ = some (.int .i64 ((l[k] : Nat) : Int)) := by
  have r := h k (by rw [intsN_len]; exact hk)
  rw [intsN_get hk] at r
  exact r
/-- What More answers of a choice. -/
def moreL (b : Yb) (m : Nat → Bool) : List Int := if allowK b false m then intsN (lotsL (moreF b m)) else []
def moreE (b : Yb) (m : Nat → Bool) : Int := if allowK b false m then 0 else 4
theorem more_any2 {b : Yb} {P : Yp} {w : World} (hb : yardB b = true) {f : Nat → Bool} (hf : ∀ i, f i = true → i < b.lots.length) {q : Option Addr} {cq : Nat} (h : YbAt w P b) (hi : IntsAt w q (intsN (lotsL f))) :
    Calls Try.prog 30 #[.agg (ybA b P), .slice q (intsN (lotsL f)).length cq] w fun e w' => ∃ q cq, e = .returned (.tuple #[.slice q (moreL b f).length cq, .int .i64 (moreE b f)]) ∧ IntsAt w' q (moreL b f) ∧ Below w.heap.size w w' := by
  have hl := lotsL_le f
  have hr := readL_told (yardB_ok hb).n7 f hf
  unfold moreL moreE
  refine (more_api b P q cq (intsN (lotsL f)) (by rw [intsN_len]; omega) w h hi).mono ?_
  rintro e w' ⟨hbw, hr2⟩
  rcases hr2 with ⟨h1, _⟩ | ⟨_, h1, _⟩ | ⟨_, g, h1, h2⟩
  · rw [hb] at h1; cases h1
  · rw [hr] at h1; cases h1
  · rw [hr] at h1
    cases h1
    rcases h2 with ⟨h3, rfl⟩ | ⟨h3, p, c, rfl, hi⟩
    · rw [if_neg (by rw [h3]; simp), if_neg (by rw [h3]; simp)]
      exact ⟨none, 0, rfl, fun i hi => absurd hi (Nat.not_lt_zero _), hbw⟩
    · rw [if_pos h3, if_pos h3]
      exact ⟨p, c, rfl, hi, hbw⟩
theorem breaks_good {b : Yb} {P : Yp} {w : World} (hb : yardB b = true) {f : Nat → Bool} (hf : ∀ i, f i = true → i < b.lots.length) {q : Option Addr} {cq : Nat} (h : YbAt w P b) (hi : IntsAt w q (intsN (lotsL f))) :
    Calls Try.prog 32 #[.agg (ybA b P), .slice q (intsN (lotsL f)).length cq] w fun e w' => ∃ p q c, e = .returned (.tuple #[.slice p (pairsL (nearK b false) (lotsL f)).length (pairsL (nearK b false) (lotsL f)).length, .slice q (intsN (lotsL (unservF b false f))).length c, .int .i64 0]) ∧ PairsAt w' p (pairsL (nearK b false) (lotsL f)) ∧ IntsAt w' q (intsN (lotsL (unservF b false f))) ∧ Below w.heap.size w w' := by
  have hl := lotsL_le f
  have hr := readL_told (yardB_ok hb).n7 f hf
  refine (breaks_api b P q cq (intsN (lotsL f)) (by rw [intsN_len]; omega) w h hi).mono ?_
  rintro e w' ⟨hbw, hr2⟩
  rcases hr2 with ⟨h1, _⟩ | ⟨_, h1, _⟩ | ⟨_, g, h1, p, q, c, rfl, h2, h3⟩
  · rw [hb] at h1; cases h1
  · rw [hr] at h1; cases h1
  · rw [hr] at h1
    cases h1
    exact ⟨p, q, c, rfl, h2, h3, hbw⟩
theorem near_good {b : Yb} {P : Yp} {w : World} (hb : yardB b = true) {i j : Nat} (hi : i < b.lots.length) (hj : j < b.lots.length) (hij : i ≠ j) (h : YbAt w P b) :
    Calls Try.prog 14 #[.agg (ybA b P), .int .i64 (i : Int), .int .i64 (j : Int)] w fun e w' => e = .returned (.tuple #[.int .i64 (kindN (fun k => nearK b k i j)), .int .i64 0]) ∧ Below w.heap.size w w' := by
  have q := near_api b P (i : Int) (j : Int) w h
  unfold nearA at q
  rw [hb, if_pos rfl, (lotOk_iff b i).2 ⟨by omega, by omega⟩, (lotOk_iff b j).2 ⟨by omega, by omega⟩, if_pos (by rfl), if_neg (by omega)] at q
  exact q
theorem served_good {b : Yb} {P : Yp} {w : World} (hb : yardB b = true) {i : Nat} (hi : i < b.lots.length) (h : YbAt w P b) :
    Calls Try.prog 18 #[.agg (ybA b P), .int .i64 (i : Int)] w fun e w' => e = .returned (.tuple #[.int .i64 (kindN (fun k => servK b k i)), .int .i64 0]) ∧ Below w.heap.size w w' := by
  have q := served_api b P (i : Int) w h
  unfold servA at q
  rw [hb, if_pos rfl, (lotOk_iff b i).2 ⟨by omega, by omega⟩, if_pos (by rfl)] at q
  exact q
set_option maxRecDepth 100000 in
set_option maxHeartbeats 6400000 in
theorem YardPart_no (b : Yb) (P : Yp) (n0 n1 n2 : Int) (w : World) (hB : YbAt w P b)  (hb : yardB b = true) (ha : allowK b false (drawnF b n0) = false) :
    Calls Try.prog 9 #[.agg (ybA b P), .agg #[.int .i64 n0, .int .i64 n1, .int .i64 n2]] w fun e w' => e = .returned (.bool true) ∧ Below w.heap.size w w' := by
  obtain ⟨pl, cl, pd, cd, pb, cb, ps, cs⟩ := P
  obtain ⟨W0, hW0⟩ : ∃ W, W = (w.alloc (.cells (ybA b ⟨pl, cl, pd, cd, pb, cb, ps, cs⟩) 25)).alloc (.cells #[.int .i64 n0, .int .i64 n1, .int .i64 n2] 58) := ⟨_, rfl⟩
  have HW0 := Lib.hid hW0
  have HE := Lib.hid (show Below w.heap.size w W0 by rw [hW0]; exact below_alloc2 _ _ _)
  have HRx := Lib.hid (show Row W0 w.heap.size (ybA b ⟨pl, cl, pd, cd, pb, cb, ps, cs⟩) 25 by rw [hW0]; exact (Row.new _ _ _).alloc _)
  have HRN := Lib.hid (show Row W0 (w.heap.size + 1) #[.int .i64 n0, .int .i64 n1, .int .i64 n2] 58 by rw [hW0]; exact Row.new1 _ _ _ _)
  have HB := Lib.hid (hB.below HE.out)
  have hn61 := hB.n1
  clear hW0 hB
  have HSO := Lib.hid (sound_yes b ⟨pl, cl, pd, cd, pb, cb, ps, cs⟩ W0 HB.out hb)
  have HOK := Lib.hid (yardB_ok hb)
  have HBB := Lib.hid hb
  have hok := HOK.out
  have hL1 := hok.n1
  have hL7 := hok.n7
  have he0 := hok.e0
  have g0 := HRx.out.cell 0 (v := .slice pl b.lots.length cl) rfl
  have g1 := HRx.out.cell 1 (v := .slice pd b.doors.length cd) rfl
  have g2 := HRx.out.cell 2 (v := .slice pb b.buckets.length cb) rfl
  have g3 := HRx.out.cell 3 (v := .slice ps b.spare.length cs) rfl
  have g4 := HRx.out.cell 4 (v := .int .i64 b.apart) rfl
  have g5 := HRx.out.cell 5 (v := .int .i64 b.door) rfl
  have g6 := HRx.out.cell 6 (v := .int .i64 b.bucket) rfl
  have g7 := HRx.out.cell 7 (v := .int .i64 b.err) rfl
  have r0 := HRN.out.cell 0 (v := .int .i64 n0) rfl
  have r1 := HRN.out.cell 1 (v := .int .i64 n1) rfl
  have r2 := HRN.out.cell 2 (v := .int .i64 n2) rfl
  have hmlt : ∀ i, drawnF b n0 i = true → i < b.lots.length := fun i h => drawnF_lt h
  have HDR := Lib.hid (fun w' => drawn_any b ⟨pl, cl, pd, cd, pb, cb, ps, cs⟩ hL7 n0 w')
  have HAL := Lib.hid (fun q cq w' (h : Below W0.heap.size W0 w') hi => allowed_good (q := q) (cq := cq) HBB.out hmlt (HB.out.below h) hi)
  have HPA := Lib.hid (fun q cq w' h1 => part_set (drawnF b n0) n1 q cq w' h1)
  have HAP := Lib.hid (fun q cq w' (h : Below W0.heap.size W0 w') hi => allowed_good (q := q) (cq := cq) HBB.out (f := partS (drawnF b n0) n1) (fun i hi => hmlt i (partS_sub hi)) (HB.out.below h) hi)
  have HMO := Lib.hid (fun q cq w' (h : Below W0.heap.size W0 w') hi => more_any2 (q := q) (cq := cq) HBB.out hmlt (HB.out.below h) hi)
  have HBR := Lib.hid (fun q cq w' (h : Below W0.heap.size W0 w') hi => breaks_good (q := q) (cq := cq) HBB.out hmlt (HB.out.below h) hi)
  have hsub := kind_sub (b := b) (f := drawnF b n0) (g := partS (drawnF b n0) n1) (fun i h => partS_sub h)
  have hbn := breaks_none (b := b) (m := drawnF b n0)
  have hkd := allow_kind he0 (drawnF b n0)
  have HPO := Lib.hid (fun x (hx : x ∈ pairsL (nearK b false) (lotsL (drawnF b n0))) => pair_ok hmlt hx)
  have HLO := Lib.hid (fun i (hi : i ∈ lotsL (unservF b false (drawnF b n0))) => lot_ok hL7 hmlt hi)
  have HIX := Lib.hid (fun q cq v w' (hi : IntsAt w' q (intsN (lotsL (drawnF b n0)))) => Calls.mono (Index_any q cq (intsN (lotsL (drawnF b n0))) v (by rw [intsN_len]; have := lotsL_le (drawnF b n0); omega) w' hi) (R' := fun e w'' => e = .returned (.int .i64 (idxN (intsN (lotsL (drawnF b n0))) v)) ∧ w' = w'') (by rintro e u ⟨rfl, rfl⟩; exact ⟨rfl, rfl⟩))
  have HIQ := Lib.hid (fun q cq v w' (hi : IntsAt w' q (intsN (lotsL (moreF b (drawnF b n0))))) => Calls.mono (Index_any q cq (intsN (lotsL (moreF b (drawnF b n0)))) v (by rw [intsN_len]; have := lotsL_le (moreF b (drawnF b n0)); omega) w' hi) (R' := fun e w'' => e = .returned (.int .i64 (idxN (intsN (lotsL (moreF b (drawnF b n0)))) v)) ∧ w' = w'') (by rintro e u ⟨rfl, rfl⟩; exact ⟨rfl, rfl⟩))
  have HGR := Lib.hid (fun q cq w' hi => Group_any (lotsL (drawnF b n0)) (lotsL_le _) (fun x hx => (lotsL_mem.1 hx).1) q cq w' hi)
  have hpl := pairsL_length (nearK b false) (lotsL (drawnF b n0))
  have hml := lotsL_le (drawnF b n0)
  have hul := lotsL_le (unservF b false (drawnF b n0))
  have hpl49 : (pairsL (nearK b false) (lotsL (drawnF b n0))).length ≤ 49 := Nat.le_trans hpl (Nat.mul_le_mul hml hml)
  obtain ⟨r, hr, hrL⟩ := spin_nat (n := n2) (m := (b.lots.length : Int)) (by omega)
  have HSP := Lib.hid (fun w' => (by have q := Spin_any n2 (b.lots.length : Int) w' (by unfold I64; omega); rw [hr] at q; exact q))
  have hrN : r < b.lots.length := by omega
  have hr0 : (0 : Int) ≤ (r : Int) := by omega
  have hgw := group_with hL7 hmlt hrN
  have hwl : ∀ i, withF (drawnF b n0) r i = true → i < b.lots.length := fun i hi => by
    unfold withF at hi
    split at hi
    · omega
    · exact hmlt i hi
  have HWK := Lib.hid (fun q cq w' (h : Below W0.heap.size W0 w') hi => allowed_good (q := q) (cq := cq) HBB.out (f := withF (drawnF b n0) r) hwl (HB.out.below h) hi)
  have HMK := Lib.hid (fun w' => (by have h := Marks_any (orN (groupN (lotsL (drawnF b n0))) (2 ^ r)) b.lots.length w' hgw.2.2.1 (by omega); rw [marksL_set hL7, hgw.2.2.2] at h; exact h))
  have hix := idx_lots (drawnF b n0) r
  have hiq := idx_lots (moreF b (drawnF b n0)) r
  have hkw := allow_kind he0 (withF (drawnF b n0) r)
  unfold GaveSet at HDR HPA
  obtain ⟨m, hm⟩ : ∃ v, drawnF b n0 = v := ⟨_, rfl⟩
  rw [hm] at HDR HAL HPA HAP HMO HBR hsub hbn hkd HPO HLO HIX HIQ HGR hpl49 hul hgw HWK HMK hix hiq hkw hmlt ha
  clear hm hr hpl hml
  obtain ⟨kd, hkde⟩ : ∃ v, kindN (fun k => allowK b k m) = v := ⟨_, rfl⟩
  obtain ⟨kp, hkpe⟩ : ∃ v, kindN (fun k => allowK b k (partS m n1)) = v := ⟨_, rfl⟩
  obtain ⟨kw, hkwe⟩ : ∃ v, kindN (fun k => allowK b k (withF m r)) = v := ⟨_, rfl⟩
  rw [hkde] at HAL hsub hkd
  rw [hkpe] at HAP hsub
  rw [hkwe] at HWK hkw
  obtain ⟨gN, hgN⟩ : ∃ v, groupN (lotsL m) = v := ⟨_, rfl⟩
  rw [hgN] at HGR HMK hgw
  obtain ⟨oN, hoN⟩ : ∃ v, orN gN (2 ^ r) = v := ⟨_, rfl⟩
  rw [hoN] at HMK hgw
  have hor := hgw.2.1
  obtain ⟨N, hN⟩ : ∃ n, 2 ^ r = n := ⟨_, rfl⟩
  have hp := pow_few (n := r) (by omega)
  obtain ⟨ex, ey⟩ := pow_wrap hN hp.2
  rw [hN] at hor
  obtain ⟨LW, hLW⟩ : ∃ v, intsN (lotsL (withF m r)) = v := ⟨_, rfl⟩
  rw [hLW] at HMK HWK
  obtain ⟨LE, hLE⟩ : ∃ v, intsN (lotsL (partS m n1)) = v := ⟨_, rfl⟩
  rw [hLE] at HPA HAP
  obtain ⟨ix, hixe⟩ : ∃ v, idxN (intsN (lotsL m)) (r : Int) = v := ⟨_, rfl⟩
  obtain ⟨iq, hiqe⟩ : ∃ v, idxN (intsN (lotsL (moreF b m))) (r : Int) = v := ⟨_, rfl⟩
  have HIXE := Lib.hid hixe
  have HIQE := Lib.hid hiqe
  rw [hixe] at hix
  rw [hiqe] at hiq
  have hmr : moreF b m r = (!m r && allowK b false (withF m r)) := by
    unfold moreF allF
    rw [decide_eq_true hrN, Bool.true_and]
  clear hkde hkpe hkwe hgN hoN hLW hLE hixe hiqe hgw hN hp hb hok
  have hr7 : r < 7 := by omega
  have hm4 : moreL b m = [] ∧ moreE b m = 4 := by unfold moreL moreE; rw [ha]; exact ⟨rfl, rfl⟩
  rw [hm4.1, hm4.2] at HMO
  have hkd2 : (kd == 2) = false := by rw [hkd, ha, if_neg (by simp)]; split <;> rfl
  have hT : (((pairsL (nearK b false) (lotsL m)).length : Int) + ((intsN (lotsL (unservF b false m))).length : Int) == 0) = false := by
    rw [beq_eq_false_iff_ne, intsN_len]
    intro h
    have := hbn.2 (by omega)
    rw [ha] at this
    cases this
  have hlt : ¬ kp < kd := by omega
  have hlt' := eq_false hlt
  have hW : IntKind.i64.wrap (((pairsL (nearK b false) (lotsL m)).length : Int) + ((intsN (lotsL (unservF b false m))).length : Int)) = ((pairsL (nearK b false) (lotsL m)).length : Int) + ((intsN (lotsL (unservF b false m))).length : Int) := IntWalk.i64_in _ (by rw [intsN_len]; omega)
  have hpi : ((pairsL (nearK b false) (lotsL m)).length : Int) ≤ 49 := by omega
  have HUL := Lib.hid hul
  have hui : ((intsN (lotsL (unservF b false m))).length : Int) ≤ 7 := by rw [intsN_len]; omega
  clear hm4 hbn hkd hsub hix hiq hkw hmr ha hul hor ex ey HGR HWK HMK HIQ HIQE HIXE
  obtain ⟨PL, hPL⟩ : ∃ v, pairsL (nearK b false) (lotsL m) = v := ⟨_, rfl⟩
  obtain ⟨UL, hUL⟩ : ∃ v, lotsL (unservF b false m) = v := ⟨_, rfl⟩
  rw [hPL] at HBR HPO hT hW hpi hpl49
  rw [hUL] at HBR HLO hT hW hui HUL
  clear hPL hUL
  go_enter Try.func9, Try.ntmps9
  go_upto_region 1 with (fail)
  rw [← HW0.out]
  go_upto_region 5 with (first
    | (go_at_call 37; (with_reducible refine HSO.out.mono ?_); rintro e u ⟨rfl, hbu⟩; obtain ⟨x0, hx0⟩ := later_of hbu; subst hx0; clear hbu)
    | (go_at_call 42; (with_reducible refine (HDR.out _).mono ?_); rintro e u ⟨qm, cqm, rfl, hi1, hbu⟩; have HIM := Lib.hid hi1; obtain ⟨x1, hx1⟩ := x0.on hbu; subst hx1; clear hbu; clear hi1)
    | (go_at_call 20; (with_reducible refine (HAL.out _ _ _ (Later.b _) HIM.out).mono ?_); rintro e u ⟨rfl, hbu⟩; have HIM := Lib.hid (HIM.out.below hbu); obtain ⟨x2, hx2⟩ := x1.on hbu; subst hx2; clear hbu))
  refine wp_region_held_drew (S := fun w' => Row w' w.heap.size (ybA b ⟨pl, cl, pd, cd, pb, cb, ps, cs⟩) 25 ∧ w'.cell? ⟨w.heap.size + 1, 1, none⟩ = some (.int .i64 n1)) (by kernel_rfl) ⟨HRx.out.below x2.b.drew HRx.out.lt, (HRN.out.below x2.b.drew HRN.out.lt).cell 1 rfl⟩ (fun hH => ?_)
  have hbu : Below x2.w.heap.size x2.w x2.w.drew := (Below.refl _ _).drew
  have HIM := Lib.hid (HIM.out.below hbu)
  obtain ⟨x3, hx2⟩ := x2.on hbu
  clear hbu
  rw [hx2] at HIM hH ⊢
  clear hx2
  refine wpAnyH_take_to 0 40 (.agg (ybA b ⟨pl, cl, pd, cd, pb, cb, ps, cs⟩)) rfl rfl (by kernel_rfl) (by kernel_rfl) (by kernel_rfl) (fun _ _ _ h => h) (yields_row (by rfl) 25 _ rfl (w.heap.size) rfl 25 (ybA b ⟨pl, cl, pd, cd, pb, cb, ps, cs⟩) _ (fun _ h => h.1) Try.underlying25 rfl (by kernel_rfl)) hH ?_
  refine wpAnyH_take_to 1 41 (.slice qm (intsN (lotsL m)).length cqm) rfl rfl (by kernel_rfl) (by kernel_rfl) (by kernel_rfl) (fun _ _ _ h => h) (Or.inl ⟨by rfl, fun w' hSw => by (obtain ⟨q0, q1⟩ := hSw; go_simp)⟩) hH ?_
  refine wpAnyH_take_to 2 42 (.pointer (some ⟨w.heap.size + 1, 1, none⟩)) rfl rfl (by kernel_rfl) (by kernel_rfl) (by kernel_rfl) (fun _ _ _ h => h) (Or.inl ⟨by rfl, fun w' hSw => by (obtain ⟨q0, q1⟩ := hSw; go_simp)⟩) hH ?_
  refine wpAnyH_take_to 3 43 (.int .i64 n1) rfl rfl (by kernel_rfl) (by kernel_rfl) (by kernel_rfl) (fun _ _ _ h => h) (Or.inl ⟨by rfl, fun w' hSw => by (obtain ⟨q0, q1⟩ := hSw; go_simp)⟩) hH ?_
  try simp only [Act.put, List.setIfInBounds_toArray, List.set_cons_succ, List.set_cons_zero]
  refine wpAnyH_ready (rs := [4]) (by kernel_rfl) (by simp) (AllReadyH.cons rfl (fun K hK => ?_) AllReadyH.nil)
  go_simp
  refine (HPA.out _ _ _ HIM.out).mono ?_
  rintro e u ⟨qe, cqe, rfl, hi1, hbu⟩
  have HIe := Lib.hid hi1
  have HIM := Lib.hid (HIM.out.below hbu)
  obtain ⟨x4, hx3⟩ := x3.on hbu
  subst hx3
  clear hbu hi1
  refine hK.out _ _ ⟨HRx.out.below x4.b HRx.out.lt, (HRN.out.below x4.b HRN.out.lt).cell 1 rfl⟩ (fun hH => ?_)
  clear hK K
  try simp only [Act.put, List.setIfInBounds_toArray, List.set_cons_succ, List.set_cons_zero]
  refine wpAnyH_ready (rs := [5]) (by kernel_rfl) (by simp) (AllReadyH.cons rfl (fun K hK => ?_) AllReadyH.nil)
  go_simp
  refine (HAP.out _ _ _ (Later.b _) HIe.out).mono ?_
  rintro e u ⟨rfl, hbu⟩
  have HIM := Lib.hid (HIM.out.below hbu)
  obtain ⟨x5, hx4⟩ := x4.on hbu
  subst hx4
  clear hbu
  refine hK.out _ _ ⟨HRx.out.below x5.b HRx.out.lt, (HRN.out.below x5.b HRN.out.lt).cell 1 rfl⟩ (fun hH => ?_)
  clear hK K
  try simp only [Act.put, List.setIfInBounds_toArray, List.set_cons_succ, List.set_cons_zero]
  refine wpAnyH_take_to 6 39 (.tuple #[.int .i64 kp, .int .i64 0]) rfl rfl (by kernel_rfl) (by kernel_rfl) (by kernel_rfl) (fun _ _ _ h => h) (Or.inl ⟨by rfl, fun w' hSw => by (obtain ⟨q0, q1⟩ := hSw; go_simp)⟩) hH ?_
  refine wpAnyH_take_to 7 46 (.int .i64 kp) rfl rfl (by kernel_rfl) (by kernel_rfl) (by kernel_rfl) (fun _ _ _ h => h) (Or.inl ⟨by rfl, fun w' hSw => by (obtain ⟨q0, q1⟩ := hSw; go_simp)⟩) hH ?_
  refine wpAnyH_take_to 8 47 (.int .i64 0) rfl rfl (by kernel_rfl) (by kernel_rfl) (by kernel_rfl) (fun _ _ _ h => h) (Or.inl ⟨by rfl, fun w' hSw => by (obtain ⟨q0, q1⟩ := hSw; go_simp)⟩) hH ?_
  refine wpAnyH_take_to 9 8 (.int .i64 kp) rfl rfl (by kernel_rfl) (by kernel_rfl) (by kernel_rfl) (fun _ _ _ h => h) (Or.inl ⟨by rfl, fun w' hSw => by (obtain ⟨q0, q1⟩ := hSw; go_simp)⟩) hH ?_
  refine wpAnyH_take_to 10 9 (.int .i64 0) rfl rfl (by kernel_rfl) (by kernel_rfl) (by kernel_rfl) (fun _ _ _ h => h) (Or.inl ⟨by rfl, fun w' hSw => by (obtain ⟨q0, q1⟩ := hSw; go_simp)⟩) hH ?_
  try simp only [Act.put, List.setIfInBounds_toArray, List.set_cons_succ, List.set_cons_zero]
  refine wpAnyH_done (by kernel_rfl) ?_ _
  simp only [Exit.then, Act.put]
  go_upto_region 8 with (first
    | (go_at_call 30; (with_reducible refine (HMO.out _ _ _ (Later.b _) HIM.out).mono ?_); rintro e u ⟨qr, cqr, rfl, hi1, hbu⟩; have HIR := Lib.hid hi1; have HIM := Lib.hid (HIM.out.below hbu); obtain ⟨x6, hx6⟩ := x5.on hbu; subst hx6; clear hbu; clear hi1)
    | (go_at_call 32; (with_reducible refine (HBR.out _ _ _ (Later.b _) HIM.out).mono ?_); rintro e u ⟨pp, qu, cu, rfl, hi1, hi2, hbu⟩; have HIP := Lib.hid hi1; have HIU := Lib.hid hi2; have HIM := Lib.hid (HIM.out.below hbu); have HIR := Lib.hid (HIR.out.below hbu); obtain ⟨x7, hx7⟩ := x6.on hbu; subst hx7; clear hbu; clear hi1 hi2))
  go_wp2_with fail
  obtain ⟨V, hV⟩ : ∃ V, x7.w = V := ⟨_, rfl⟩
  have KV := Lib.hid (show From W0 V by rw [← hV]; exact x7.fr)
  rw [hV] at HIM HIP HIU ⊢
  clear hV HIR
  have f0 := KV.out.cell g0
  have f1 := KV.out.cell g1
  have f2 := KV.out.cell g2
  have f3 := KV.out.cell g3
  have f4 := KV.out.cell g4
  have f5 := KV.out.cell g5
  have f6 := KV.out.cell g6
  have f7 := KV.out.cell g7
  have p2 := KV.out.cell r2
  clear g0 g1 g2 g3 g4 g5 g6 g7 r0 r1 r2
  have HBV := Lib.hid (HB.out.below KV.out.b)
  go_loopw [15] (fun i wr => ∃ (k : Nat) (x : Later V), k ≤ PL.length ∧ i = .int .i64 (k : Int) ∧ wr = x.w) (fun i _ => PL.length - (intOf i).toNat)
  case atStart => exact ⟨0, ⟨V, Below.refl _ _⟩, by omega, rfl, rfl⟩
  case round =>
    obtain ⟨k, x, hk, rfl, rfl⟩ := hrel
    by_cases hlt : k < PL.length
    · obtain ⟨bp, op, hpp, c1, c2⟩ := HIP.out k hlt
      have hok := HPO.out _ (List.getElem_mem hlt)
      obtain ⟨pr, hpr⟩ : ∃ v, PL[k] = v := ⟨_, rfl⟩
      rw [hpr] at c1 c2 hok
      obtain ⟨px, py⟩ := pr
      obtain ⟨hx, hy, hne, hi0, hi1, hkk⟩ := hok
      dsimp only at c1 c2 hx hy hne hi0 hi1 hkk
      have HNE := Lib.hid (fun w' (h : From V w') => near_good (P := ⟨pl, cl, pd, cd, pb, cb, ps, cs⟩) HBB.out hx hy hne (HBV.out.below h.b))
      have HI1 := Lib.hid (fun w' (h : From V w') => HIX.out qm cqm (px : Int) w' (HIM.out.below h.b))
      have HI2 := Lib.hid (fun w' (h : From V w') => HIX.out qm cqm (py : Int) w' (HIM.out.below h.b))
      obtain ⟨kv, hkv⟩ : ∃ v, kindN (fun k => nearK b k px py) = v := ⟨_, rfl⟩
      obtain ⟨i1, hi1e⟩ : ∃ v, idxN (intsN (lotsL m)) (px : Int) = v := ⟨_, rfl⟩
      obtain ⟨i2, hi2e⟩ : ∃ v, idxN (intsN (lotsL m)) (py : Int) = v := ⟨_, rfl⟩
      rw [hkv] at HNE hkk
      rw [hi1e] at HI1 hi0 hi1
      rw [hi2e] at HI2 hi1
      have hk0 : (kv == 0) = false := by rw [beq_eq_false_iff_ne]; exact hkk
      have hn1 : ¬ i1 < 0 := by omega
      have hn1' := eq_false hn1
      have hn2 : ¬ i2 ≤ i1 := by omega
      have hn2' := eq_false hn2
      have j1 : (0 : Int) ≤ (k : Int) := by omega
      have j2 : (k : Int) < (PL.length : Int) := by omega
      subst hpp
      clear hpr hkv hi1e hi2e hkk hx hy hne
      go_wp2_with fail
      refine wp_region_later (by kernel_rfl) (by kernel_rfl) ?_
      repeat (go_big_quiet_step (first
        | (go_at_call 14; with_reducible exact Calls.later_of (HNE.out _ (From.trans (Later.fr _) (Later.fr _))))))
      refine wpQuiet_nil ?_
      intro _ hw'
      obtain ⟨y, hw''⟩ := hw'
      subst hw''
      obtain ⟨y1, hx2⟩ := x.up y
      rw [hx2]
      clear hx2 y
      go_wp2_with fail
      refine wp_region_later (by kernel_rfl) (by kernel_rfl) ?_
      repeat (go_big_quiet_step (first
        | (go_at_call 48; with_reducible exact Calls.later_same (HI1.out _ (From.trans (Later.fr _) (Later.fr _))))
        | (go_at_call 48; with_reducible exact Calls.later_same (HI2.out _ (From.trans (Later.fr _) (Later.fr _))))))
      refine wpQuiet_nil ?_
      intro _ hw'
      obtain ⟨y, hw''⟩ := hw'
      subst hw''
      obtain ⟨y2, hx2⟩ := y1.up y
      rw [hx2]
      clear hx2 y
      go_wp2_with fail
      go_roundw
      case rel => exact ⟨k + 1, y2, by omega, by go_num, rfl⟩
      case measure => simp [intOf]; omega
    · obtain rfl : k = PL.length := by omega
      rw [show (intsN UL).length = UL.length from intsN_len UL] at hui hT hW ⊢
      go_wp2_with fail
      go_loopw [18] (fun i wr => ∃ (k : Nat) (x : Later V), k ≤ UL.length ∧ i = .int .i64 (k : Int) ∧ wr = x.w) (fun i _ => UL.length - (intOf i).toNat)
      case atStart => exact ⟨0, x, by omega, rfl, rfl⟩
      case round =>
        clear x
        obtain ⟨k, x, hk, rfl, rfl⟩ := hrel
        by_cases hlt : k < UL.length
        · obtain ⟨bp, op, hpp, c1⟩ := ints_cell HIU.out hlt
          have hok := HLO.out _ (List.getElem_mem hlt)
          obtain ⟨v, hv⟩ : ∃ v, UL[k] = v := ⟨_, rfl⟩
          rw [hv] at c1 hok
          obtain ⟨hx, hi0, hkk⟩ := hok
          have HSE := Lib.hid (fun w' (h : From V w') => served_good (P := ⟨pl, cl, pd, cd, pb, cb, ps, cs⟩) HBB.out hx (HBV.out.below h.b))
          have HI1 := Lib.hid (fun w' (h : From V w') => HIX.out qm cqm (v : Int) w' (HIM.out.below h.b))
          obtain ⟨kv, hkv⟩ : ∃ t, kindN (fun k => servK b k v) = t := ⟨_, rfl⟩
          obtain ⟨i1, hi1e⟩ : ∃ t, idxN (intsN (lotsL m)) (v : Int) = t := ⟨_, rfl⟩
          rw [hkv] at HSE hkk
          rw [hi1e] at HI1 hi0
          have hk0 : (kv == 2) = false := by rw [beq_eq_false_iff_ne]; exact hkk
          have hn1 : ¬ i1 < 0 := by omega
          have hn1' := eq_false hn1
          have j1 : (0 : Int) ≤ (k : Int) := by omega
          have j2 : (k : Int) < (UL.length : Int) := by omega
          subst hpp
          clear hv hkv hi1e hkk hx
          go_wp2_with fail
          refine wp_region_later (by kernel_rfl) (by kernel_rfl) ?_
          repeat (go_big_quiet_step (first
            | (go_at_call 18; with_reducible exact Calls.later_of (HSE.out _ (From.trans (Later.fr _) (Later.fr _))))))
          refine wpQuiet_nil ?_
          intro _ hw'
          obtain ⟨y, hw''⟩ := hw'
          subst hw''
          obtain ⟨y1, hx2⟩ := x.up y
          rw [hx2]
          clear hx2 y
          go_wp2_with (first
            | (go_at_call 48; (with_reducible refine (HI1.out _ (Later.fr _)).mono ?_); rintro e u ⟨rfl, rfl⟩))
          go_roundw
          case rel => exact ⟨k + 1, y1, by omega, by go_num, rfl⟩
          case measure => simp [intOf]; omega
        · obtain rfl : k = UL.length := by omega
          go_wp2_with (first
            | (go_at_call 44; (with_reducible refine (HSP.out _).mono ?_); rintro e u ⟨rfl, rfl⟩)
            | (go_at_call 22; (with_reducible refine (stacked_any _).mono ?_); rintro e u ⟨rfl, hbu⟩; obtain ⟨ye, hye⟩ := x.on hbu; subst hye; clear hbu))
          go_ret
          exact ⟨rfl, HE.out.trans ((KV.out.b.trans (ye.b.mono KV.out.b.size)).mono HE.out.size)⟩
end Go.Proofs.Ytajkgfeockcbpaa
