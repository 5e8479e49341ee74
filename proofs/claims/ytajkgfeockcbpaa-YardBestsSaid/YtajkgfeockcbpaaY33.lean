/- The law YardNear. -/
import Derived.Test.YtajkgfeockcbpaaY32
namespace Go.Proofs.Ytajkgfeockcbpaa
open Go.RowKit Go.Maps
attribute [local go_sem] Oper.semAt_some

/-- A yard with another distance that stacks must be apart. -/
def apartB (b : Yb) (a : Int) : Yb := { b with apart := a }
theorem apart_at {w : World} {P : Yp} {b : Yb} (h : YbAt w P b) (a : Int) : YbAt w P (apartB b a) := ⟨h.l, h.d, h.u, h.s, h.n1, h.n2, h.n3, h.n4, h.c1, h.c2, h.c3, h.c4⟩
theorem apart_ok {b : Yb} (h : yardB b = true) {a : Int} (h0 : 0 ≤ a) (h1 : a ≤ b.apart) : yardB (apartB b a) = true := by
  obtain ⟨k, h3⟩ := yardB_iff.1 h
  exact yardB_iff.2 ⟨⟨k.n1, k.n7, k.d1, k.d3, k.b4, k.s3, h0, Int.le_trans h1 k.a1, k.o0, k.o1, k.u0, k.u1, k.e0, k.e1, k.l, k.sd, k.sb, k.ss⟩, h3⟩
theorem kindN_eq (f : Bool → Bool) (x y : Bool) (hx : f false = x) (hy : f true = y) : kindN f = (if x = true then 1 else 0) + (if y = true then 1 else 0) := by
  subst hx hy
  rfl
/-- How near two lots are, in numbers. -/
theorem near_kind {b : Yb} {i j : Nat} {t : Int} (ht : told (lotAt b i).sp (lotAt b j).sp = t) (ht0 : 0 ≤ t) (he : 0 ≤ b.err) :
    kindN (fun k => nearK b k i j) = (if t + b.err < b.apart then 2 else if 0 < b.apart ∧ t - b.err < b.apart then 1 else 0) := by
  have e1 : nearK b true i j = decide (t + b.err < b.apart) := by
    unfold nearK betw farHi
    rw [if_pos rfl, ht]
  have e2 : nearK b false i j = decide (max 0 (t - b.err) < b.apart) := by
    unfold nearK betw farLo
    rw [if_neg (by simp), ht]
  rw [kindN_eq (fun k => nearK b k i j) _ _ e2 e1]
  by_cases h1 : t + b.err < b.apart
  · have h2 : max 0 (t - b.err) < b.apart := by omega
    simp [h1, h2]
  · by_cases h2 : 0 < b.apart ∧ t - b.err < b.apart
    · have h3 : max 0 (t - b.err) < b.apart := by omega
      rw [if_neg h1, if_pos h2, decide_eq_false h1, decide_eq_true h3]
      rfl
    · have h3 : ¬ max 0 (t - b.err) < b.apart := by omega
      rw [if_neg h1, if_neg h2, decide_eq_false h1, decide_eq_false h3]
      rfl
theorem near_apart {b : Yb} {a : Int} (h : a ≤ b.apart) (i j : Nat) : kindN (fun k => nearK (apartB b a) k i j) ≤ kindN (fun k => nearK b k i j) := by
  have key : ∀ k, nearK (apartB b a) k i j = true → nearK b k i j = true := fun k hk => by
    unfold nearK at hk ⊢
    rw [decide_eq_true_eq] at hk ⊢
    exact Int.lt_of_lt_of_le hk h
  have h1 := key false
  have h2 := key true
  rw [kindN_eq (fun k => nearK (apartB b a) k i j) _ _ rfl rfl, kindN_eq (fun k => nearK b k i j) _ _ rfl rfl]
  generalize nearK (apartB b a) false i j = x1 at *
  generalize nearK (apartB b a) true i j = x2 at *
  generalize nearK b false i j = x3 at *
  generalize nearK b true i j = x4 at *
  revert h1 h2
  cases x1 <;> cases x2 <;> cases x3 <;> cases x4 <;> simp
theorem spin_nat {n m : Int} (hm : 1 ≤ m) : ∃ k : Nat, spin n m = (k : Int) ∧ (k : Int) < m := by
  obtain ⟨h0, h1⟩ := spin_range n m hm
  exact ⟨(spin n m).toNat, by omega, by omega⟩
theorem other_ne {m o r : Int} (h0 : 0 ≤ o) (ho : o < m) (hr0 : 0 ≤ r) (hr : r < m - 1) : spin (o + 1 + r) m ≠ o := by
  unfold spin
  rw [if_neg (by omega)]
  by_cases h : o + 1 + r < m
  · rw [Int.emod_eq_of_lt (by omega) h]; omega
  · rw [show o + 1 + r = (o + 1 + r - m) + m by omega, Int.add_emod_right, Int.emod_eq_of_lt (by omega) (by omega)]
    omega
theorem near_at {b : Yb} (hb : yardB b = true) {i j : Nat} (hi : i < b.lots.length) (hj : j < b.lots.length) (hij : i ≠ j) : nearA b i j = (kindN (fun k => nearK b k i j), 0) := by
  unfold nearA
  rw [hb, if_pos rfl, (lotOk_iff b i).2 ⟨by omega, by omega⟩, (lotOk_iff b j).2 ⟨by omega, by omega⟩]
  rw [if_pos (by rfl), if_neg (by omega)]
  rfl
set_option maxRecDepth 100000 in
set_option maxHeartbeats 6400000 in
theorem YardNear_any (b : Yb) (P : Yp) (m0 m1 m2 : Int) (w : World) (hB : YbAt w P b) :
    Calls Try.prog 7 #[.agg (ybA b P), .agg #[.int .i64 m0, .int .i64 m1, .int .i64 m2]] w fun e w' => e = .returned (.bool true) ∧ Below w.heap.size w w' := by
  obtain ⟨pl, cl, pd, cd, pb, cb, ps, cs⟩ := P
  obtain ⟨W0, hW0⟩ : ∃ W, W = (w.alloc (.cells (ybA b ⟨pl, cl, pd, cd, pb, cb, ps, cs⟩) 25)).alloc (.cells #[.int .i64 m0, .int .i64 m1, .int .i64 m2] 58) := ⟨_, rfl⟩
  have HW0 := Lib.hid hW0
  have HE := Lib.hid (show Below w.heap.size w W0 by rw [hW0]; exact below_alloc2 _ _ _)
  have HRx := Lib.hid (show Row W0 w.heap.size (ybA b ⟨pl, cl, pd, cd, pb, cb, ps, cs⟩) 25 by rw [hW0]; exact (Row.new _ _ _).alloc _)
  have HRN := Lib.hid (show Row W0 (w.heap.size + 1) #[.int .i64 m0, .int .i64 m1, .int .i64 m2] 58 by rw [hW0]; exact Row.new1 _ _ _ _)
  have HB := Lib.hid (hB.below HE.out)
  have hn61 := hB.n1
  clear hW0 hB
  cases hb : yardB b
  · have HSO := Lib.hid (sound_no b ⟨pl, cl, pd, cd, pb, cb, ps, cs⟩ W0 HB.out hb)
    clear hb
    go_enter Try.func7, Try.ntmps7
    go_upto_region 1 with (fail)
    rw [← HW0.out]
    go_wp2_with (first
      | (refine load_row rfl 25 _ rfl w.heap.size rfl 25 _ _ HRx.out Try.underlying25 rfl (by kernel_rfl) ?_)
      | (go_at_call 37; (with_reducible refine HSO.out.mono ?_); rintro e u ⟨rfl, hbu⟩; have HU := Lib.hid (HE.out.trans (hbu.mono HE.out.size)); clear hbu)
      | (go_at_call 22; (with_reducible refine (stacked_any _).mono ?_); rintro e v ⟨rfl, hbu⟩; have HV := Lib.hid (HU.out.trans (hbu.mono HU.out.size)); clear hbu))
    go_ret
    exact ⟨rfl, HV.out⟩
  · have HSO := Lib.hid (sound_yes b ⟨pl, cl, pd, cd, pb, cb, ps, cs⟩ W0 HB.out hb)
    have HOK := Lib.hid (yardB_ok hb)
    have HBB := Lib.hid hb
    have hok := HOK.out
    have hL1 := hok.n1
    have hL7 := hok.n7
    have g0 := HRx.out.cell 0 (v := .slice pl b.lots.length cl) rfl
    have g4 := HRx.out.cell 4 (v := .int .i64 b.apart) rfl
    have g7 := HRx.out.cell 7 (v := .int .i64 b.err) rfl
    have r0 := HRN.out.cell 0 (v := .int .i64 m0) rfl
    have r1 := HRN.out.cell 1 (v := .int .i64 m1) rfl
    have r2 := HRN.out.cell 2 (v := .int .i64 m2) rfl
    clear hb hok
    by_cases h2 : b.lots.length < 2
    · have h2i : (b.lots.length : Int) < 2 := by omega
      go_enter Try.func7, Try.ntmps7
      go_upto_region 1 with (fail)
      rw [← HW0.out]
      go_wp2_with (first
        | (refine load_row rfl 25 _ rfl w.heap.size rfl 25 _ _ HRx.out Try.underlying25 rfl (by kernel_rfl) ?_)
        | (go_at_call 37; (with_reducible refine HSO.out.mono ?_); rintro e u ⟨rfl, hbu⟩; obtain ⟨z, hz⟩ := later_of hbu; subst hz; have HU := Lib.hid (z.base HE.out); clear hbu)
        | (go_at_call 22; (with_reducible refine (stacked_any _).mono ?_); rintro e v ⟨rfl, hbu⟩; have HV := Lib.hid (HU.out.trans (hbu.mono HU.out.size)); clear hbu))
      go_ret
      exact ⟨rfl, HV.out⟩
    · have h2i : ¬ (b.lots.length : Int) < 2 := by omega
      obtain ⟨i, hi, hiL⟩ := spin_nat (n := m0) (m := (b.lots.length : Int)) (by omega)
      obtain ⟨rr, hr, hrL⟩ := spin_nat (n := m1) (m := (b.lots.length : Int) - 1) (by omega)
      have hne := other_ne (m := (b.lots.length : Int)) (o := (i : Int)) (r := (rr : Int)) (by omega) hiL (by omega) hrL
      obtain ⟨j, hj, hjL⟩ := spin_nat (n := (i : Int) + 1 + (rr : Int)) (m := (b.lots.length : Int)) (by omega)
      have hij : i ≠ j := fun h => hne (by rw [hj, h])
      have hiN : i < b.lots.length := by omega
      have hjN : j < b.lots.length := by omega
      have hok := HOK.out
      have ha0 := hok.a0
      have ha1 := hok.a1
      have he0 := hok.e0
      have he1 := hok.e1
      obtain ⟨a', ha', haL⟩ := spin_nat (n := m2) (m := b.apart + 1) (by omega)
      obtain ⟨tv, htv⟩ : ∃ t, told (lotAt b i).sp (lotAt b j).sp = t := ⟨_, rfl⟩
      have hsi := lotAt_mem hiN
      have hsj := lotAt_mem hjN
      have hpi := (lotB_iff.1 (hok.l _ hsi)).1
      have hpj := (lotB_iff.1 (hok.l _ hsj)).1
      have ht0 : 0 ≤ tv := by rw [← htv]; exact told_nn _ _
      have ht1 : tv ≤ 198 := by rw [← htv]; exact told_le hpi hpj
      have HKD := Lib.hid (near_kind htv ht0 he0)
      have HN1 := Lib.hid (fun w' (h : Below W0.heap.size W0 w') => (by have q := near_api b ⟨pl, cl, pd, cd, pb, cb, ps, cs⟩ (i : Int) (j : Int) w' (HB.out.below h); rw [near_at HBB.out hiN hjN hij] at q; exact q))
      have HN2 := Lib.hid (fun w' (h : Below W0.heap.size W0 w') => (by have q := near_api b ⟨pl, cl, pd, cd, pb, cb, ps, cs⟩ (j : Int) (i : Int) w' (HB.out.below h); rw [near_at HBB.out hjN hiN (Ne.symm hij), show kindN (fun k => nearK b k j i) = kindN (fun k => nearK b k i j) by congr 1; funext k; exact nearK_comm b k j i] at q; exact q))
      have HN3 := Lib.hid (fun w' (h : Below W0.heap.size W0 w') => (by have q := near_api (apartB b (a' : Int)) ⟨pl, cl, pd, cd, pb, cb, ps, cs⟩ (i : Int) (j : Int) w' (apart_at (HB.out.below h) _); rw [near_at (b := apartB b (a' : Int)) (apart_ok HBB.out (by omega) (by omega)) hiN hjN hij] at q; exact q))
      have hkl := near_apart (b := b) (a := (a' : Int)) (by omega) i j
      obtain ⟨kd, hkd⟩ : ∃ k, kindN (fun k => nearK b k i j) = k := ⟨_, rfl⟩
      obtain ⟨kl, hkl2⟩ : ∃ k, kindN (fun k => nearK (apartB b (a' : Int)) k i j) = k := ⟨_, rfl⟩
      rw [hkd] at HN1 HN2 HKD hkl
      rw [hkl2] at HN3 hkl
      obtain ⟨bi, oi, hpl, x0, x1, _, _⟩ := HB.out.l.at hiN
      obtain ⟨bj, oj, hpl2, y0, y1, _, _⟩ := HB.out.l.at hjN
      dsimp only at hpl hpl2
      subst hpl
      cases hpl2
      have HTO := Lib.hid (fun w' => told_law (lotAt b i).sp.1 (lotAt b i).sp.2 (lotAt b j).sp.1 (lotAt b j).sp.2 hpi hpj w')
      rw [show told ((lotAt b i).sp.1, (lotAt b i).sp.2) ((lotAt b j).sp.1, (lotAt b j).sp.2) = tv from htv] at HTO
      generalize (lotAt b i).sp.1 = s0 at *
      generalize (lotAt b i).sp.2 = s1 at *
      generalize (lotAt b j).sp.1 = t0 at *
      generalize (lotAt b j).sp.2 = t1 at *
      have HS1 := Lib.hid (fun w' => (by have q := Spin_any m0 (b.lots.length : Int) w' (by unfold I64; omega); rw [hi] at q; exact q))
      have HS2 := Lib.hid (fun w' => (by have q := Spin_any m1 ((b.lots.length : Int) - 1) w' (by unfold I64; omega); rw [hr] at q; exact q))
      have HS3 := Lib.hid (fun w' => (by have q := Spin_any ((i : Int) + 1 + (rr : Int)) (b.lots.length : Int) w' (by unfold I64; omega); rw [hj] at q; exact q))
      have HS4 := Lib.hid (fun w' => (by have q := Spin_any m2 (b.apart + 1) w' (by unfold I64; omega); rw [ha'] at q; exact q))
      have w1 : IntKind.i64.wrap ((b.lots.length : Int) - 1) = (b.lots.length : Int) - 1 := IntWalk.i64_in _ (by omega)
      have w2 : IntKind.i64.wrap ((i : Int) + 1) = (i : Int) + 1 := IntWalk.i64_in _ (by omega)
      have w3 : IntKind.i64.wrap ((i : Int) + 1 + (rr : Int)) = (i : Int) + 1 + (rr : Int) := IntWalk.i64_in _ (by omega)
      have w4 : IntKind.i64.wrap (b.apart + 1) = b.apart + 1 := IntWalk.i64_in _ (by omega)
      have z1 : (0 : Int) ≤ (i : Int) := by omega
      have z2 : (0 : Int) ≤ (j : Int) := by omega
      clear hi hr hj ha' hne hpi hpj hsi hsj htv hkd hkl2 hok
      go_enter Try.func7, Try.ntmps7
      go_upto_region 1 with (fail)
      rw [← HW0.out]
      go_wp2_with (first
        | (refine load_row rfl 25 _ rfl w.heap.size rfl 25 _ _ HRx.out Try.underlying25 rfl (by kernel_rfl) ?_)
        | (go_at_call 37; (with_reducible refine HSO.out.mono ?_); rintro e u ⟨rfl, hbu⟩; obtain ⟨z, hz⟩ := later_of hbu; subst hz; clear hbu)
        | (go_at_call 44; (with_reducible refine (HS1.out _).mono ?_); rintro e u ⟨rfl, rfl⟩))
      have HT2 := Lib.hid (fun w' => (HS2.out w').mono (R' := fun e u => e = .returned (.int .i64 (rr : Int)) ∧ Below w'.heap.size w' u) (by rintro e u ⟨rfl, rfl⟩; exact ⟨rfl, Below.refl _ _⟩))
      have HT3 := Lib.hid (fun w' => (HS3.out w').mono (R' := fun e u => e = .returned (.int .i64 (j : Int)) ∧ Below w'.heap.size w' u) (by rintro e u ⟨rfl, rfl⟩; exact ⟨rfl, Below.refl _ _⟩))
      refine wp_region_later (by kernel_rfl) (by kernel_rfl) ?_
      repeat (go_big_quiet_step (first
        | (go_at_call 44; with_reducible exact Calls.later_of (HT2.out _))
        | (go_at_call 44; with_reducible exact Calls.later_of (HT3.out _))))
      refine wpQuiet_nil ?_
      intro _ hw'
      obtain ⟨y, hw''⟩ := hw'
      subst hw''
      obtain ⟨x2, hx2⟩ := z.up y
      rw [hx2]
      clear hx2
      go_wp2_with (first
        | (refine load_row rfl 25 _ rfl w.heap.size rfl 25 _ _ (HRx.out.below (Later.b _) HRx.out.lt) Try.underlying25 rfl (by kernel_rfl) ?_)
        | (go_at_call 14; (with_reducible refine (HN1.out _ x2.b).mono ?_); rintro e u ⟨rfl, hbu⟩; obtain ⟨x3, hx3⟩ := x2.on hbu; subst hx3; clear hbu)
        | (go_at_call 14; (with_reducible refine (HN2.out _ x3.b).mono ?_); rintro e u ⟨rfl, hbu⟩; obtain ⟨x4, hx4⟩ := x3.on hbu; subst hx4; clear hbu))
      refine wp_region_later (by kernel_rfl) (by kernel_rfl) ?_
      repeat (go_big_quiet_step (first
        | (go_at_call 45; with_reducible exact Calls.later_of (HTO.out _))))
      refine wpQuiet_nil ?_
      intro _ hw'
      obtain ⟨y5, hw''⟩ := hw'
      subst hw''
      obtain ⟨x5, hx5⟩ := x4.up y5
      rw [hx5]
      clear hx5
      have w5 : IntKind.i64.wrap (tv - b.err) = tv - b.err := IntWalk.i64_in _ (by omega)
      have w6 : IntKind.i64.wrap (tv + b.err) = tv + b.err := IntWalk.i64_in _ (by omega)
      obtain ⟨g, hg⟩ : ∃ n, x5.w.heap.size = n := ⟨_, rfl⟩
      have rX := Row.new x5.w (ybA b ⟨some ⟨bi, oi, none⟩, cl, pd, cd, pb, cb, ps, cs⟩) 25
      obtain ⟨x6, hx6⟩ := x5.on (below_alloc x5.w (.cells (ybA b ⟨some ⟨bi, oi, none⟩, cl, pd, cd, pb, cb, ps, cs⟩) 25))
      have hgz : W0.heap.size ≤ g := by rw [← hg]; exact x5.b.size
      rw [hx6, hg] at rX
      have c4 := rX.cell 4 (v := .int .i64 b.apart) rfl
      have f4 := rX.free 4
      obtain ⟨x7, hx7⟩ := later_of (below_set x6.b g 4 hgz (.int .i64 (a' : Int)))
      have RX7 := Lib.hid (show Row x7.w g (ybA (apartB b (a' : Int)) ⟨some ⟨bi, oi, none⟩, cl, pd, cd, pb, cb, ps, cs⟩) 25 by have q := rX.set 4 (.int .i64 (a' : Int)); rw [hx7] at q; exact q)
      clear rX
      have g1 := HRx.out.cell 1 (v := .slice pd b.doors.length cd) rfl
      have g2 := HRx.out.cell 2 (v := .slice pb b.buckets.length cb) rfl
      have g3 := HRx.out.cell 3 (v := .slice ps b.spare.length cs) rfl
      have g5 := HRx.out.cell 5 (v := .int .i64 b.door) rfl
      have g6 := HRx.out.cell 6 (v := .int .i64 b.bucket) rfl
      by_cases hH : tv + b.err < b.apart
      · have hA : 0 < b.apart := by omega
        have hL : tv - b.err < b.apart := by omega
        have hk : kd = 2 := by rw [HKD.out, if_pos hH]
        subst hk
        go_wp2_with (first
          | (go_at_call 44; (with_reducible refine (HS4.out _).mono ?_); rintro e u ⟨rfl, rfl⟩)
          | (refine load_row rfl 25 _ rfl g rfl 25 _ _ RX7.out Try.underlying25 rfl (by kernel_rfl) ?_)
          | (go_at_call 14; (with_reducible refine (HN3.out _ x7.b).mono ?_); rintro e u ⟨rfl, hbu⟩; obtain ⟨x8, hx8⟩ := x7.on hbu; subst hx8; clear hbu)
          | (go_at_call 22; (with_reducible refine (stacked_any _).mono ?_); rintro e v ⟨rfl, hbu⟩; have HV := Lib.hid ((x8.base HE.out).trans (hbu.mono (x8.base HE.out).size)); clear hbu))
        go_ret
        exact ⟨rfl, HV.out⟩
      · by_cases hA : 0 < b.apart
        · by_cases hL : tv - b.err < b.apart
          · have hk : kd = 1 := by rw [HKD.out, if_neg hH, if_pos ⟨hA, hL⟩]
            subst hk
            go_wp2_with (first
              | (go_at_call 44; (with_reducible refine (HS4.out _).mono ?_); rintro e u ⟨rfl, rfl⟩)
              | (refine load_row rfl 25 _ rfl g rfl 25 _ _ RX7.out Try.underlying25 rfl (by kernel_rfl) ?_)
              | (go_at_call 14; (with_reducible refine (HN3.out _ x7.b).mono ?_); rintro e u ⟨rfl, hbu⟩; obtain ⟨x8, hx8⟩ := x7.on hbu; subst hx8; clear hbu)
              | (go_at_call 22; (with_reducible refine (stacked_any _).mono ?_); rintro e v ⟨rfl, hbu⟩; have HV := Lib.hid ((x8.base HE.out).trans (hbu.mono (x8.base HE.out).size)); clear hbu))
            go_ret
            exact ⟨rfl, HV.out⟩
          · have hk : kd = 0 := by rw [HKD.out, if_neg hH, if_neg (fun q => hL q.2)]
            subst hk
            go_wp2_with (first
              | (go_at_call 44; (with_reducible refine (HS4.out _).mono ?_); rintro e u ⟨rfl, rfl⟩)
              | (refine load_row rfl 25 _ rfl g rfl 25 _ _ RX7.out Try.underlying25 rfl (by kernel_rfl) ?_)
              | (go_at_call 14; (with_reducible refine (HN3.out _ x7.b).mono ?_); rintro e u ⟨rfl, hbu⟩; obtain ⟨x8, hx8⟩ := x7.on hbu; subst hx8; clear hbu)
              | (go_at_call 22; (with_reducible refine (stacked_any _).mono ?_); rintro e v ⟨rfl, hbu⟩; have HV := Lib.hid ((x8.base HE.out).trans (hbu.mono (x8.base HE.out).size)); clear hbu))
            go_ret
            exact ⟨rfl, HV.out⟩
        · have hk : kd = 0 := by rw [HKD.out, if_neg hH, if_neg (fun q => hA q.1)]
          subst hk
          go_wp2_with (first
            | (go_at_call 44; (with_reducible refine (HS4.out _).mono ?_); rintro e u ⟨rfl, rfl⟩)
            | (refine load_row rfl 25 _ rfl g rfl 25 _ _ RX7.out Try.underlying25 rfl (by kernel_rfl) ?_)
            | (go_at_call 14; (with_reducible refine (HN3.out _ x7.b).mono ?_); rintro e u ⟨rfl, hbu⟩; obtain ⟨x8, hx8⟩ := x7.on hbu; subst hx8; clear hbu)
            | (go_at_call 22; (with_reducible refine (stacked_any _).mono ?_); rintro e v ⟨rfl, hbu⟩; have HV := Lib.hid ((x8.base HE.out).trans (hbu.mono (x8.base HE.out).size)); clear hbu))
          go_ret
          exact ⟨rfl, HV.out⟩
end Go.Proofs.Ytajkgfeockcbpaa
