/- The law of layer 3 on the two frames: two that clash. -/
import Derived.Test.YtjaeheodabojfaaWWA
namespace Go.Proofs.Ytjaeheodabojfaa
open Go.RowKit Go.Maps
attribute [local go_sem] Oper.semAt_some

set_option maxRecDepth 10000 in
set_option maxHeartbeats 3200000 in
theorem clash_B (pp : Option Addr) (cp : Nat) (pf : Option Addr) (cf : Nat) (ps : List Pt) (ms : List FrM) (pset : Option Addr) (cset : Nat) (set : List Int) (n0 n1 : Int) (w : World) (hB : BkAt w pp pf ps ms) (hiset : IntsAt w pset set) (hnset : set.length ≤ maxLen) (hb : bookB ps (frsM ms) = true) (hl0 : (pickL (lostI ps (frsM ms)) (frsM ms).length).length = 0) (a : Nat) (hf : clashF ps (frsM ms) = some a) : Calls Try.prog 9 #[.agg #[.slice pp ps.length cp, .slice pf ms.length cf], .slice pset set.length cset, .agg #[.int .i64 n0, .int .i64 n1]] w fun e w' => e = .returned (.bool true) ∧ Below w.heap.size w w' := by
  have hE := below_alloc2 w (.cells #[.slice pp ps.length cp, .slice pf ms.length cf] 25) (.cells #[.int .i64 n0, .int .i64 n1] 47)
  have HB := Lib.hid (hB.below hE)
  have HE := Lib.hid hE
  have HR := Lib.hid ((Row.new w #[.slice pp ps.length cp, .slice pf ms.length cf] 25).alloc (.cells #[.int .i64 n0, .int .i64 n1] 47))
  have HN := Lib.hid (Row.new1 w (.cells #[.slice pp ps.length cp, .slice pf ms.length cf] 25) #[.int .i64 n0, .int .i64 n1] 47)
  clear hE
  have HV := Lib.hid hb
  have HBK := Lib.hid (bk_of hB hb)
  have hok := bookB_iff.1 hb
  have hn4 := HBK.out.n4
  have hn5 := HBK.out.n5
  have hn1 := HBK.out.ok.p1
  have HSI := Lib.hid hiset
  have HSN := Lib.hid hnset
  have HB0 := Lib.hid hB
  have hfl := frsM_length ms
  have BE := Lib.hid (bookE_ok hb)
  obtain ⟨s, hs⟩ : ∃ s, s = settingL set ps.length := ⟨_, rfl⟩
  have HS := Lib.hid hs
  have HSL := Lib.hid (show s.length = ps.length by rw [hs, settingL_length])
  have hss : isSetB ps.length s = true := by rw [hs]; exact settingL_set _ _
  have SE1 := Lib.hid (setE_yes hb hss)
  have LL := Lib.hid (show lostL ps (frsM ms) = pickL (lostI ps (frsM ms)) (frsM ms).length by rw [lostL, if_pos hb])
  have GV1 := Lib.hid (show goodV ps (frsM ms) s = goodD ps (frsM ms) s by rw [goodV, if_pos SE1.out])
  have HG := Lib.hid (show Grown (pickL (lostI ps (frsM ms)) (frsM ms).length) ms.length by rw [hfl]; exact grown_pick _ _)
  have hl5 : (pickL (lostI ps (frsM ms)) (frsM ms).length).length ≤ 5 := by have := pickL_length (lostI ps (frsM ms)) (frsM ms).length; omega
  have hd5 : (goodD ps (frsM ms) s).length ≤ 5 := by have := goodD_length ps (frsM ms) s; omega
  have hnl := fun i (hi : i < ms.length) => none_lost hl0 (i := i) (by rw [hfl]; exact hi)
  have HPR := Lib.hid (fun p q (hpq : p < q) (hq : q < (frsM ms).length) => clash_pair hb hl0 hpq hq)
  have HTM := Lib.hid (fun p q (hp : p < (frsM ms).length) (hq : q < (frsM ms).length) => two_most hok hp hq)
  have HNL := Lib.hid hnl
  obtain ⟨o, cv, ho, hao, hon, hno⟩ := clash_some hb hl0 hf
  have CV := Lib.hid cv
  have HO := Lib.hid ho
  rw [hfl] at hon
  have hix : ¬ (0 ≤ idxN (goodD ps (frsM ms) s) (a : Int) ∧ 0 ≤ idxN (goodD ps (frsM ms) s) (o : Int)) := by
    rintro ⟨h1, h2⟩
    rw [idx_mem, goodD, mem_pickL] at h1 h2
    obtain ⟨i, e1, _, g1⟩ := h1
    obtain ⟨j, e2, _, g2⟩ := h2
    have : a = i := by omega
    subst this
    have : o = j := by omega
    subst this
    exact hno s (set_mem hss) ⟨g1, g2⟩
  have FT1 := Lib.hid (fits_yes (n := (o : Int)) (lo := 1) (hi := (ms.length : Int) - 1) (by omega))
  have FT2 := Lib.hid (fits_yes (n := (a : Int)) (lo := 0) (hi := (o : Int) - 1) (by omega))
  have HFF := Lib.hid hf
  have HL0 := Lib.hid (List.length_eq_zero_iff.1 hl0)
  rw [HL0.out] at LL HG
  generalize goodD ps (frsM ms) s = d at *
  obtain ⟨ia, hia⟩ : ∃ x, idxN d (a : Int) = x := ⟨_, rfl⟩
  obtain ⟨io, hio⟩ : ∃ x, idxN d (o : Int) = x := ⟨_, rfl⟩
  rw [hia, hio] at hix
  have HIA := Lib.hid hia
  have HIO := Lib.hid hio
  clear hb hfl hiset hnset hs hss hok hl5 hl0 hnl hf hno cv ho hia hio
  go_enter Try.func9, Try.ntmps9
  go_wp2_with fail
  refine (sound_any pp cp pf cf ps ms _ HB.out).mono ?_
  rintro e w1 ⟨rfl, hb1⟩
  rw [HV.out]
  have HE := Lib.hid (HE.out.trans (hb1.mono HE.out.size))
  have HR := Lib.hid (HR.out.below hb1 HR.out.lt)
  have HN := Lib.hid (HN.out.below hb1 HN.out.lt)
  clear hb1
  have HBW := Lib.hid (HB0.out.below HE.out)
  have KI := Lib.hid (From.refl w1)
  have c0 := (KI.out.row HR.out).cell 0 (v := .slice pp ps.length cp) rfl
  have c1 := (KI.out.row HR.out).cell 1 (v := .slice pf ms.length cf) rfl
  go_wp2_with fail
  clear c0 c1
  have hd := Lost_any pp cp pf cf ps ms _ (HBW.out.below KI.out.b)
  rw [LL.out, BE.out] at hd
  refine hd.mono ?_
  clear hd
  rintro e w2 ⟨ql, cl, rfl, hl, hb⟩
  have KI := Lib.hid (KI.out.below hb)
  have HL := Lib.hid hl
  clear hb hl
  have c0 := (KI.out.row HR.out).cell 0 (v := .slice pp ps.length cp) rfl
  have c1 := (KI.out.row HR.out).cell 1 (v := .slice pf ms.length cf) rfl
  go_wp2_with fail
  clear c0 c1
  have hd := Clash_any pp cp pf cf ps ms _ (HBW.out.below KI.out.b)
  rw [CV.out] at hd
  refine hd.mono ?_
  clear hd
  rintro e w3 ⟨rfl, hb⟩
  have KI := Lib.hid (KI.out.below hb)
  have HL := Lib.hid (HL.out.below hb)
  clear hb
  unfold Trip
  dsimp only
  have R1 := Lib.hid (KI.out.row HR.out)
  have RN := Lib.hid (KI.out.row HN.out)
  have R2 := Lib.hid (HBW.out.below KI.out.b)
  have R3 := Lib.hid (HE.out.trans (KI.out.b.mono HE.out.size))
  have R4 := Lib.hid HL.out
  clear KI HL HR HN HBW HE
  have hS : ∀ w', From w3 w' → w'.cell? ⟨w.heap.size, 0, none⟩ = some (.slice pp ps.length cp) ∧ w'.cell? ⟨w.heap.size, 1, none⟩ = some (.slice pf ms.length cf) := fun w' k => ⟨(k.row R1.out).cell 0 rfl, (k.row R1.out).cell 1 rfl⟩
  have HSS := Lib.hid hS
  have KI := Lib.hid (From.refl w3)
  clear hS
  go_wp2_with fail
  go_region_held3 (fun w' => w'.cell? ⟨w.heap.size, 0, none⟩ = some (.slice pp ps.length cp) ∧ w'.cell? ⟨w.heap.size, 1, none⟩ = some (.slice pf ms.length cf)) (first | with_reducible exact HSS.out _ KI.out | with_reducible exact HSS.out _ KI.out.drew)
    (first
      | (go_at_call 41; (with_reducible refine (setting_any _ _ _ (by omega) _ _ _ _ _ set _ (by first | with_reducible exact (HSI.out.below (R3.out.trans (KI.out.b.mono R3.out.size))) | with_reducible exact (HSI.out.below (R3.out.trans (KI.out.drew.b.mono R3.out.size)))) HSN.out).mono ?_); rw [← HS.out]; rintro e wy ⟨q, c, rfl, hi, hbu⟩; have HI := Lib.hid hi; have KI := Lib.hid (by first | with_reducible exact KI.out.drew.below hbu | with_reducible exact KI.out.below hbu); clear hbu hi)
      | (go_at_call 23; (have hd := Good_any pp cp pf cf ps ms _ (R2.out.below KI.out.b) q c s HI.out (by rw [HSL.out]; omega)); rw [GV1.out, SE1.out] at hd; refine hd.mono ?_; clear hd; rintro e wz ⟨qd, cd, rfl, hd, hbu⟩; have HD := Lib.hid hd; have KI := Lib.hid (KI.out.below hbu); clear hbu hd))
  all_goals
    have HL := Lib.hid (KI.out.ints R4.out)
    have c1 := (KI.out.row R1.out).cell 1 (v := .slice pf ms.length cf) rfl
    have HGN := Lib.hid (fun w => (Grows_any ql cl [] ms.length (by simp) (by omega) w (fun i hi => by simp at hi) HG.out : Calls Try.prog 42 #[.slice ql 0 cl, .int .i64 (ms.length : Int)] w fun e w' => e = .returned (.bool true) ∧ Below w.heap.size w w'))
    go_wp2_with (first
      | (go_at_call 42; (refine (HGN.out _).mono ?_); rintro e wg ⟨rfl, hb⟩; have KI := Lib.hid (KI.out.below hb); have HD := Lib.hid (HD.out.below hb); clear hb))
    have P1 := Lib.hid (KI.out.row R1.out)
    have PN := Lib.hid (KI.out.row RN.out)
    have P2 := Lib.hid (R2.out.below KI.out.b)
    have P3 := Lib.hid (R3.out.trans (KI.out.b.mono R3.out.size))
    have P5 := Lib.hid HD.out
    clear KI HL HD
    go_loopw [14] (fun i wr => i = .int .i64 0 ∧ From wg wr) (fun _ _ => 0)
    case atStart => exact ⟨rfl, From.refl wg⟩
    case round =>
      obtain ⟨rfl, ki⟩ := hrel
      have KI := Lib.hid ki
      clear ki
      have c1 := (KI.out.row P1.out).cell 1 (v := .slice pf ms.length cf) rfl
      go_upto_region 13 with (fail)
      go_cut [128] from 99 to 127 (fun a wx => a = .bool false ∧ From wg wx)
      case first =>
        rcases Int.lt_or_le ia 0 with h7 | h7
        · have h8 : ¬ 0 ≤ ia := by omega
          go_wp2_with (first
            | (go_at_call 46; (with_reducible refine (Fits_any _ _ _ _).mono ?_); rintro e wf ⟨rfl, rfl⟩; first | rw [FT1.out] | rw [FT2.out])
            | (go_at_call 45; (with_reducible refine (Index_any _ _ _ _ (by omega) _ (KI.out.ints P5.out)).mono ?_); rintro e wi ⟨rfl, rfl⟩; first | rw [HIA.out] | rw [HIO.out]))
          go_meet
          exact ⟨by first | rfl | exact congrArg Value.bool (by simp; omega), KI.out⟩
        · have h8 : ¬ 0 ≤ io := by omega
          go_wp2_with (first
            | (go_at_call 46; (with_reducible refine (Fits_any _ _ _ _).mono ?_); rintro e wf ⟨rfl, rfl⟩; first | rw [FT1.out] | rw [FT2.out])
            | (go_at_call 45; (with_reducible refine (Index_any _ _ _ _ (by omega) _ (KI.out.ints P5.out)).mono ?_); rintro e wi ⟨rfl, rfl⟩; first | rw [HIA.out] | rw [HIO.out]))
          go_meet
          exact ⟨by first | rfl | exact congrArg Value.bool (by simp; omega), KI.out⟩
      case rest =>
        obtain ⟨rfl, ki⟩ := hcut
        clear c1
        generalize wc = w13 at *
        have KI := Lib.hid ki
        clear ki
        have c1 := (KI.out.row P1.out).cell 1 (v := .slice pf ms.length cf) rfl
        rcases Nat.lt_or_ge ms.length 2 with h2 | h2
        · have HE := Lib.hid (P3.out.trans (KI.out.b.mono P3.out.size))
          exfalso; omega
        · have h2' : ¬ ms.length < 2 := by omega
          have d0 := (KI.out.row PN.out).cell 0 (v := .int .i64 n0) rfl
          have d1 := (KI.out.row PN.out).cell 1 (v := .int .i64 n1) rfl
          obtain ⟨p, hp, hpl⟩ : ∃ p : Nat, spin n0 ms.length = p ∧ p < ms.length := ⟨(spin n0 ms.length).toNat, by have := spin_range n0 ms.length (by omega); omega, by have := spin_range n0 ms.length (by omega); omega⟩
          obtain ⟨r, hr, hrl⟩ : ∃ r : Nat, spin n1 ((ms.length : Int) - 1) = r ∧ r + 1 < ms.length := ⟨(spin n1 ((ms.length : Int) - 1)).toNat, by have := spin_range n1 ((ms.length : Int) - 1) (by omega); omega, by have := spin_range n1 ((ms.length : Int) - 1) (by omega); omega⟩
          obtain ⟨q', hq, hql, hqp⟩ : ∃ q' : Nat, spin ((p : Int) + 1 + (r : Int)) ms.length = q' ∧ q' < ms.length ∧ q' ≠ p := by
            have h1 := spin_range ((p : Int) + 1 + (r : Int)) ms.length (by omega)
            refine ⟨(spin ((p : Int) + 1 + (r : Int)) ms.length).toNat, by omega, by omega, ?_⟩
            rw [spin, if_neg (by omega)] at *
            intro e
            have e2 : ((p : Int) + 1 + (r : Int)) % (ms.length : Int) = p := by omega
            have e3 := Int.emod_add_mul_ediv ((p : Int) + 1 + (r : Int)) (ms.length : Int)
            rw [e2] at e3
            have e4 : (ms.length : Int) * (((p : Int) + 1 + (r : Int)) / (ms.length : Int)) = (r : Int) + 1 := by omega
            have e5 : 0 < ((p : Int) + 1 + (r : Int)) / (ms.length : Int) := by
              rcases Int.lt_or_le 0 (((p : Int) + 1 + (r : Int)) / (ms.length : Int)) with h | h
              · exact h
              · have := Int.mul_nonpos_of_nonneg_of_nonpos (show (0 : Int) ≤ ms.length by omega) h
                omega
            have e6 : (ms.length : Int) * 1 ≤ (ms.length : Int) * (((p : Int) + 1 + (r : Int)) / (ms.length : Int)) := Int.mul_le_mul_of_nonneg_left (by omega) (by omega)
            omega
          have HP := Lib.hid hp
          have e1 : IntKind.i64.wrap ((p : Int) + 1) = (p : Int) + 1 := IntWalk.i64_in _ (by omega)
          have e2 : IntKind.i64.wrap ((ms.length : Int) - 1) = (ms.length : Int) - 1 := IntWalk.i64_in _ (by omega)
          have e4 : IntKind.i64.wrap ((p : Int) + 1 + (r : Int)) = (p : Int) + 1 + (r : Int) := IntWalk.i64_in _ (by omega)
          have HS1 := Lib.hid (fun w' => (by have h := Spin_any n1 ((ms.length : Int) - 1) w' (by unfold I64; omega); rw [hr] at h; exact h : Calls Try.prog 48 #[.int .i64 n1, .int .i64 ((ms.length : Int) - 1)] w' fun e w'' => e = .returned (.int .i64 (r : Int)) ∧ w' = w''))
          have HS2 := Lib.hid (fun w' => (by have h := Spin_any ((p : Int) + 1 + (r : Int)) (ms.length : Int) w' (by unfold I64; omega); rw [hq] at h; exact h : Calls Try.prog 48 #[.int .i64 ((p : Int) + 1 + (r : Int)), .int .i64 (ms.length : Int)] w' fun e w'' => e = .returned (.int .i64 (q' : Int)) ∧ w' = w''))
          clear hp hr hq
          go_wp2_with (first
            | (go_at_call 48; (with_reducible refine (Spin_any _ _ _ (by unfold I64; omega)).mono ?_); rintro e u ⟨rfl, rfl⟩; rw [HP.out]))
          go_quiet ((go_at_call 48; first | with_reducible exact quiet_eq (HS1.out _) | with_reducible exact quiet_eq (HS2.out _)))
          have KD := Lib.hid (⟨below_drewN KI.out.b nq⟩ : From wg (w13.drewN nq))
          clear c1 d0 d1 e1 e2 e4 HS1 HS2
          generalize w13.drewN nq = W5 at *
          rcases Nat.lt_or_ge p q' with h3 | h3
          · have h4 : ¬ q' < p := by omega
            have h4' : ¬ (q' : Int) < (p : Int) := by omega
            have KF := Lib.hid (KD.out)
            obtain ⟨b', o', e', a0, a1, a2, a3⟩ := (P2.out.below KF.out.b).f p hpl
            obtain ⟨b'', o'', e'', b0, b1, b2, b3⟩ := (P2.out.below KF.out.b).f q' hql
            cases (e'.symm.trans e'')
            obtain ⟨mA, hmA⟩ : ∃ m, ms[p] = m := ⟨_, rfl⟩
            obtain ⟨mB, hmB⟩ : ∃ m, ms[q'] = m := ⟨_, rfl⟩
            have t := HTM.out p q' (by rw [frsM_length]; omega) (by rw [frsM_length]; omega)
            have t5 := HPR.out p q' (by omega) (by rw [frsM_length]; omega)
            have g1 : (frsM ms)[p]'(by rw [frsM_length]; omega) = mA.f := by simp [frsM, hmA]
            have g2 : (frsM ms)[q']'(by rw [frsM_length]; omega) = mB.f := by simp [frsM, hmB]
            have g3 := HNL.out p (by omega)
            simp only [g1, g2] at t t5
            have hm3 : mA.f.stay.length < 2 ^ 62 ∧ mB.f.stay.length < 2 ^ 62 := ⟨by rw [← hmA]; exact P2.out.b3 _ (List.getElem_mem _), by rw [← hmB]; exact P2.out.b3 _ (List.getElem_mem _)⟩
            rw [hmA] at a0 a1 a2 a3
            rw [hmB] at b0 b1 b2 b3
            obtain ⟨t1, t2, t3, t4⟩ := t
            have t3 := t3 g3
            have hB2 := bookB_iff.2 t1
            have BE2 := Lib.hid (bookE_ok (ps := ps) (fs := frsM [mA, mB]) hB2)
            have MF2 := Lib.hid (show mostF ps (frsM [mA, mB]) = goodD ps [mA.f, mB.f] (mostD ps [mA.f, mB.f]) from by rw [mostF, if_pos (show bookB ps (frsM [mA, mB]) = true from hB2)]; rfl)
            generalize goodD ps [mA.f, mB.f] (mostD ps [mA.f, mB.f]) = bl at *
            obtain ⟨u1, u2⟩ := t5.2 a o HFF.out HO.out
            have hbl1 : ((bl.length : Int) == 0) = false := beq_eq_false_iff_ne.2 (by omega)
            clear t5
            have i1 : (0 : Int) ≤ (p : Int) := by omega
            have i2 : (p : Int) < (ms.length : Int) := by omega
            have i3 : (0 : Int) ≤ (q' : Int) := by omega
            have i4 : (q' : Int) < (ms.length : Int) := by omega
            have c0 := (KF.out.row P1.out).cell 0 (v := .slice pp ps.length cp) rfl
            have c1 := (KF.out.row P1.out).cell 1 (v := .slice pf ms.length cf) rfl
            have EP := Lib.hid e'
            clear t1 t4 g1 g2 g3 hB2 hmA hmB e' e''
            have hx := below_alloc W5 (.cells #[.slice pp ps.length cp, .slice pf ms.length cf] 25)
            have RX := Lib.hid (Row.new W5 #[.slice pp ps.length cp, .slice pf ms.length cf] 25)
            have KF := Lib.hid (KF.out.below hx)
            have A3 := Lib.hid a3
            have B3 := Lib.hid b3
            have hxb := hx
            go_wp2_with fail
            clear c0 c1 hx
            have k0 := hxb.size
            have kb : b' < W5.heap.size := cell_block a0
            have kw : w.heap.size < W5.heap.size := by have h1 := P1.out.lt; have h2 := KD.out.b.size; omega
            have hcell : ∀ c o v, W5.cell? ⟨c, o, none⟩ = some v → ∀ W', Below W5.heap.size W5 W' → W'.cell? ⟨c, o, none⟩ = some v := fun c o v h W' hb => (From.mk hb).cell h
            have e1w := (KD.out.row P1.out).cell 1 (v := .slice pf ms.length cf) rfl
            rw [EP.out] at e1w
            have hS : ∀ w', Below W5.heap.size W5 w' → w'.cell? ⟨w.heap.size, 1, none⟩ = some (.slice (some ⟨b', o', none⟩) ms.length cf) ∧ w'.cell? ⟨b', o' + p * 3, none⟩ = some (.slice mA.p mA.f.stay.length mA.c) ∧ w'.cell? ⟨b', o' + p * 3 + 1, none⟩ = some (.int .i64 mA.f.lo) ∧ w'.cell? ⟨b', o' + p * 3 + 2, none⟩ = some (.int .i64 mA.f.hi) ∧ w'.cell? ⟨b', o' + q' * 3, none⟩ = some (.slice mB.p mB.f.stay.length mB.c) ∧ w'.cell? ⟨b', o' + q' * 3 + 1, none⟩ = some (.int .i64 mB.f.lo) ∧ w'.cell? ⟨b', o' + q' * 3 + 2, none⟩ = some (.int .i64 mB.f.hi) := fun w' k => ⟨hcell _ _ _ e1w _ k, hcell _ _ _ a0 _ k, hcell _ _ _ a1 _ k, hcell _ _ _ a2 _ k, hcell _ _ _ b0 _ k, hcell _ _ _ b1 _ k, hcell _ _ _ b2 _ k⟩
            obtain ⟨W6, hW6⟩ : ∃ W, W = W5.alloc (.cells #[.slice pp ps.length cp, .slice pf ms.length cf] 25) := ⟨_, rfl⟩
            rw [← hW6] at hxb RX KF
            have HW6 := Lib.hid hW6
            have hz6 : W5.heap.size < W6.heap.size := by rw [hW6]; simp
            have hb6 : Below W5.heap.size W5 (W6.alloc (.cells #[.slice mA.p mA.f.stay.length mA.c, .int .i64 mA.f.lo, .int .i64 mA.f.hi, .slice mB.p mB.f.stay.length mB.c, .int .i64 mB.f.lo, .int .i64 mB.f.hi] 55)).drew := (hxb.alloc (by omega) _).drew
            have RX2 := Lib.hid ((RX.out.alloc (.cells #[.slice mA.p mA.f.stay.length mA.c, .int .i64 mA.f.lo, .int .i64 mA.f.hi, .slice mB.p mB.f.stay.length mB.c, .int .i64 mB.f.lo, .int .i64 mB.f.hi] 55)).drew)
            have RC := Lib.hid ((Row.new W6 #[.slice mA.p mA.f.stay.length mA.c, .int .i64 mA.f.lo, .int .i64 mA.f.hi, .slice mB.p mB.f.stay.length mB.c, .int .i64 mB.f.lo, .int .i64 mB.f.hi] 55).drew)
            have HS1 := Lib.hid (hS _ hxb)
            have HS2 := Lib.hid (hS _ hxb.drew)
            have HS3 := Lib.hid (hS _ hb6)
            have hb8 : Below W5.heap.size W5 ((W6.setCell ⟨W5.heap.size, 1, none⟩ (.slice (some ⟨W6.heap.size, 0, none⟩) 2 2)).alloc (.cells #[.slice mA.p mA.f.stay.length mA.c, .int .i64 mA.f.lo, .int .i64 mA.f.hi, .slice mB.p mB.f.stay.length mB.c, .int .i64 mB.f.lo, .int .i64 mB.f.hi] 55)).drew := ((hxb.setCell (p := ⟨W5.heap.size, 1, none⟩) (Nat.le_refl _) _).alloc (by simp; omega) _).drew
            have HS4 := Lib.hid (hS _ hb8)
            have x1 := RX2.out.cell 1 (v := .slice pf ms.length cf) rfl
            have x2 := RX2.out.free 1
            have HB7 := Lib.hid hb8
            have RX7 := Lib.hid (((RX.out.set 1 (.slice (some ⟨W6.heap.size, 0, none⟩) 2 2)).alloc (.cells #[.slice mA.p mA.f.stay.length mA.c, .int .i64 mA.f.lo, .int .i64 mA.f.hi, .slice mB.p mB.f.stay.length mB.c, .int .i64 mB.f.lo, .int .i64 mB.f.hi] 55)).drew)
            have RC7 := Lib.hid ((Row.new' (w := W6.setCell ⟨W5.heap.size, 1, none⟩ (.slice (some ⟨W6.heap.size, 0, none⟩) 2 2)) (n := W6.heap.size) (by simp) #[.slice mA.p mA.f.stay.length mA.c, .int .i64 mA.f.lo, .int .i64 mA.f.hi, .slice mB.p mB.f.stay.length mB.c, .int .i64 mB.f.lo, .int .i64 mB.f.hi] 55).drew)
            clear hS hcell e1w a0 a1 a2 a3 b0 b1 b2 b3 hxb hb6 hb8 hW6
            rw [← HW6.out]
            go_region_held3 (fun w' => w'.cell? ⟨w.heap.size, 1, none⟩ = some (.slice (some ⟨b', o', none⟩) ms.length cf) ∧ w'.cell? ⟨b', o' + p * 3, none⟩ = some (.slice mA.p mA.f.stay.length mA.c) ∧ w'.cell? ⟨b', o' + p * 3 + 1, none⟩ = some (.int .i64 mA.f.lo) ∧ w'.cell? ⟨b', o' + p * 3 + 2, none⟩ = some (.int .i64 mA.f.hi) ∧ w'.cell? ⟨b', o' + q' * 3, none⟩ = some (.slice mB.p mB.f.stay.length mB.c) ∧ w'.cell? ⟨b', o' + q' * 3 + 1, none⟩ = some (.int .i64 mB.f.lo) ∧ w'.cell? ⟨b', o' + q' * 3 + 2, none⟩ = some (.int .i64 mB.f.hi)) (first | exact HS1.out | exact HS2.out | exact HS3.out | exact HS4.out) (fail)
            all_goals
              clear x1 x2 HS1 HS2 HS3 HS4 RX2 RC
              have k1 : W6.heap.size < ((W6.setCell ⟨W5.heap.size, 1, none⟩ (.slice (some ⟨W6.heap.size, 0, none⟩) 2 2)).alloc (.cells #[.slice mA.p mA.f.stay.length mA.c, .int .i64 mA.f.lo, .int .i64 mA.f.hi, .slice mB.p mB.f.stay.length mB.c, .int .i64 mB.f.lo, .int .i64 mB.f.hi] 55)).drew.heap.size := RC7.out.lt
              generalize ((W6.setCell ⟨W5.heap.size, 1, none⟩ (.slice (some ⟨W6.heap.size, 0, none⟩) 2 2)).alloc (.cells #[.slice mA.p mA.f.stay.length mA.c, .int .i64 mA.f.lo, .int .i64 mA.f.hi, .slice mB.p mB.f.stay.length mB.c, .int .i64 mB.f.lo, .int .i64 mB.f.hi] 55)).drew = W7 at *
              have hbk : BkAt W7 pp (some ⟨W6.heap.size, 0, none⟩) ps [mA, mB] := ⟨((P2.out.below KD.out.b).below HB7.out).p, two_frames RC7.out (A3.out.below HB7.out) (B3.out.below HB7.out), P2.out.b1, by simp, by simp only [List.mem_cons, List.not_mem_nil, or_false]; rintro x (rfl | rfl); exact hm3.1; exact hm3.2⟩
              have y0 := RX7.out.cell 0 (v := .slice pp ps.length cp) rfl
              have y1 := RX7.out.cell 1 (v := .slice (some ⟨W6.heap.size, 0, none⟩) 2 2) rfl
              have HE := Lib.hid ((P3.out.trans (KD.out.b.mono P3.out.size)).trans (HB7.out.mono (P3.out.trans (KD.out.b.mono P3.out.size)).size))
              go_wp2_with fail
              clear y0 y1
              have hd := Most_any pp cp (some ⟨W6.heap.size, 0, none⟩) 2 ps [mA, mB] W7 hbk
              rw [show ([mA, mB] : List FrM).length = 2 from rfl, MF2.out, BE2.out] at hd
              refine hd.mono ?_
              clear hd
              rintro e w9 ⟨qm, cm, qf, cf2, rfl, _, _, hb⟩
              have HE := Lib.hid (HE.out.trans (hb.mono HE.out.size))
              clear hb
              by_cases hb2 : bl.length = 2
              · have hbl2 : ((bl.length : Int) == 2) = true := beq_iff_eq.2 (by omega)
                have u1 := u1 hb2
                by_cases h8 : p = a
                · have h9 : ((p : Int) != (a : Int)) = false := by rw [h8]; simp
                  have h9' : (p != a) = false := by rw [h8]; simp
                  have h10 : ¬ q' = o := by omega
                  have h11 : ((q' : Int) != (o : Int)) = true := bne_iff_ne.2 (by omega)
                  have h11' : (q' != o) = true := bne_iff_ne.2 (by omega)
                  clear h8
                  go_wp2_with fail
                  refine (warmed_any _).mono ?_
                  rintro e w11 ⟨rfl, hb⟩
                  have HE := Lib.hid (HE.out.trans (hb.mono HE.out.size))
                  clear hb
                  go_wp2_with fail
                  go_ret
                  exact ⟨rfl, HE.out⟩
                · have h9 : ((p : Int) != (a : Int)) = true := bne_iff_ne.2 (by omega)
                  have h9' : (p != a) = true := bne_iff_ne.2 (by omega)
                  go_wp2_with fail
                  refine (warmed_any _).mono ?_
                  rintro e w11 ⟨rfl, hb⟩
                  have HE := Lib.hid (HE.out.trans (hb.mono HE.out.size))
                  clear hb
                  go_wp2_with fail
                  go_ret
                  exact ⟨rfl, HE.out⟩
              · have hbl2 : ((bl.length : Int) == 2) = false := beq_eq_false_iff_ne.2 (by omega)
                have u2 := u2 hb2
                by_cases h8 : a < p
                · have h9 : (a : Int) < (p : Int) := by omega
                  go_wp2_with fail
                  refine (warmed_any _).mono ?_
                  rintro e w11 ⟨rfl, hb⟩
                  have HE := Lib.hid (HE.out.trans (hb.mono HE.out.size))
                  clear hb
                  go_wp2_with fail
                  go_ret
                  exact ⟨rfl, HE.out⟩
                · have h9 : ¬ (a : Int) < (p : Int) := by omega
                  have h10 : ((a : Int) == (p : Int)) = true := beq_iff_eq.2 (by omega)
                  have h10' : (a == p) = true := beq_iff_eq.2 (by omega)
                  have h11 : (o : Int) ≤ (q' : Int) := by omega
                  clear u2
                  go_wp2_with fail
                  refine (warmed_any _).mono ?_
                  rintro e w11 ⟨rfl, hb⟩
                  have HE := Lib.hid (HE.out.trans (hb.mono HE.out.size))
                  clear hb
                  go_wp2_with fail
                  go_ret
                  exact ⟨rfl, HE.out⟩
          · have h3' : q' < p := by omega
            have h4 : ¬ p < q' := by omega
            have h4' : ¬ (p : Int) < (q' : Int) := by omega
            have KF := Lib.hid (KD.out)
            obtain ⟨b', o', e', a0, a1, a2, a3⟩ := (P2.out.below KF.out.b).f q' hql
            obtain ⟨b'', o'', e'', b0, b1, b2, b3⟩ := (P2.out.below KF.out.b).f p hpl
            cases (e'.symm.trans e'')
            obtain ⟨mA, hmA⟩ : ∃ m, ms[q'] = m := ⟨_, rfl⟩
            obtain ⟨mB, hmB⟩ : ∃ m, ms[p] = m := ⟨_, rfl⟩
            have t := HTM.out q' p (by rw [frsM_length]; omega) (by rw [frsM_length]; omega)
            have t5 := HPR.out q' p (by omega) (by rw [frsM_length]; omega)
            have g1 : (frsM ms)[q']'(by rw [frsM_length]; omega) = mA.f := by simp [frsM, hmA]
            have g2 : (frsM ms)[p]'(by rw [frsM_length]; omega) = mB.f := by simp [frsM, hmB]
            have g3 := HNL.out q' (by omega)
            simp only [g1, g2] at t t5
            have hm3 : mA.f.stay.length < 2 ^ 62 ∧ mB.f.stay.length < 2 ^ 62 := ⟨by rw [← hmA]; exact P2.out.b3 _ (List.getElem_mem _), by rw [← hmB]; exact P2.out.b3 _ (List.getElem_mem _)⟩
            rw [hmA] at a0 a1 a2 a3
            rw [hmB] at b0 b1 b2 b3
            obtain ⟨t1, t2, t3, t4⟩ := t
            have t3 := t3 g3
            have hB2 := bookB_iff.2 t1
            have BE2 := Lib.hid (bookE_ok (ps := ps) (fs := frsM [mA, mB]) hB2)
            have MF2 := Lib.hid (show mostF ps (frsM [mA, mB]) = goodD ps [mA.f, mB.f] (mostD ps [mA.f, mB.f]) from by rw [mostF, if_pos (show bookB ps (frsM [mA, mB]) = true from hB2)]; rfl)
            generalize goodD ps [mA.f, mB.f] (mostD ps [mA.f, mB.f]) = bl at *
            obtain ⟨u1, u2⟩ := t5.2 a o HFF.out HO.out
            have hbl1 : ((bl.length : Int) == 0) = false := beq_eq_false_iff_ne.2 (by omega)
            clear t5
            have i1 : (0 : Int) ≤ (q' : Int) := by omega
            have i2 : (q' : Int) < (ms.length : Int) := by omega
            have i3 : (0 : Int) ≤ (p : Int) := by omega
            have i4 : (p : Int) < (ms.length : Int) := by omega
            have c0 := (KF.out.row P1.out).cell 0 (v := .slice pp ps.length cp) rfl
            have c1 := (KF.out.row P1.out).cell 1 (v := .slice pf ms.length cf) rfl
            have EP := Lib.hid e'
            clear t1 t4 g1 g2 g3 hB2 hmA hmB e' e''
            have hx := below_alloc W5 (.cells #[.slice pp ps.length cp, .slice pf ms.length cf] 25)
            have RX := Lib.hid (Row.new W5 #[.slice pp ps.length cp, .slice pf ms.length cf] 25)
            have KF := Lib.hid (KF.out.below hx)
            have A3 := Lib.hid a3
            have B3 := Lib.hid b3
            have hxb := hx
            go_wp2_with fail
            clear c0 c1 hx
            have k0 := hxb.size
            have kb : b' < W5.heap.size := cell_block a0
            have kw : w.heap.size < W5.heap.size := by have h1 := P1.out.lt; have h2 := KD.out.b.size; omega
            have hcell : ∀ c o v, W5.cell? ⟨c, o, none⟩ = some v → ∀ W', Below W5.heap.size W5 W' → W'.cell? ⟨c, o, none⟩ = some v := fun c o v h W' hb => (From.mk hb).cell h
            have e1w := (KD.out.row P1.out).cell 1 (v := .slice pf ms.length cf) rfl
            rw [EP.out] at e1w
            have hS : ∀ w', Below W5.heap.size W5 w' → w'.cell? ⟨w.heap.size, 1, none⟩ = some (.slice (some ⟨b', o', none⟩) ms.length cf) ∧ w'.cell? ⟨b', o' + q' * 3, none⟩ = some (.slice mA.p mA.f.stay.length mA.c) ∧ w'.cell? ⟨b', o' + q' * 3 + 1, none⟩ = some (.int .i64 mA.f.lo) ∧ w'.cell? ⟨b', o' + q' * 3 + 2, none⟩ = some (.int .i64 mA.f.hi) ∧ w'.cell? ⟨b', o' + p * 3, none⟩ = some (.slice mB.p mB.f.stay.length mB.c) ∧ w'.cell? ⟨b', o' + p * 3 + 1, none⟩ = some (.int .i64 mB.f.lo) ∧ w'.cell? ⟨b', o' + p * 3 + 2, none⟩ = some (.int .i64 mB.f.hi) := fun w' k => ⟨hcell _ _ _ e1w _ k, hcell _ _ _ a0 _ k, hcell _ _ _ a1 _ k, hcell _ _ _ a2 _ k, hcell _ _ _ b0 _ k, hcell _ _ _ b1 _ k, hcell _ _ _ b2 _ k⟩
            obtain ⟨W6, hW6⟩ : ∃ W, W = W5.alloc (.cells #[.slice pp ps.length cp, .slice pf ms.length cf] 25) := ⟨_, rfl⟩
            rw [← hW6] at hxb RX KF
            have HW6 := Lib.hid hW6
            have hz6 : W5.heap.size < W6.heap.size := by rw [hW6]; simp
            have hb6 : Below W5.heap.size W5 (W6.alloc (.cells #[.slice mA.p mA.f.stay.length mA.c, .int .i64 mA.f.lo, .int .i64 mA.f.hi, .slice mB.p mB.f.stay.length mB.c, .int .i64 mB.f.lo, .int .i64 mB.f.hi] 55)).drew := (hxb.alloc (by omega) _).drew
            have RX2 := Lib.hid ((RX.out.alloc (.cells #[.slice mA.p mA.f.stay.length mA.c, .int .i64 mA.f.lo, .int .i64 mA.f.hi, .slice mB.p mB.f.stay.length mB.c, .int .i64 mB.f.lo, .int .i64 mB.f.hi] 55)).drew)
            have RC := Lib.hid ((Row.new W6 #[.slice mA.p mA.f.stay.length mA.c, .int .i64 mA.f.lo, .int .i64 mA.f.hi, .slice mB.p mB.f.stay.length mB.c, .int .i64 mB.f.lo, .int .i64 mB.f.hi] 55).drew)
            have HS1 := Lib.hid (hS _ hxb)
            have HS2 := Lib.hid (hS _ hxb.drew)
            have HS3 := Lib.hid (hS _ hb6)
            have hb8 : Below W5.heap.size W5 ((W6.setCell ⟨W5.heap.size, 1, none⟩ (.slice (some ⟨W6.heap.size, 0, none⟩) 2 2)).alloc (.cells #[.slice mA.p mA.f.stay.length mA.c, .int .i64 mA.f.lo, .int .i64 mA.f.hi, .slice mB.p mB.f.stay.length mB.c, .int .i64 mB.f.lo, .int .i64 mB.f.hi] 55)).drew := ((hxb.setCell (p := ⟨W5.heap.size, 1, none⟩) (Nat.le_refl _) _).alloc (by simp; omega) _).drew
            have HS4 := Lib.hid (hS _ hb8)
            have x1 := RX2.out.cell 1 (v := .slice pf ms.length cf) rfl
            have x2 := RX2.out.free 1
            have HB7 := Lib.hid hb8
            have RX7 := Lib.hid (((RX.out.set 1 (.slice (some ⟨W6.heap.size, 0, none⟩) 2 2)).alloc (.cells #[.slice mA.p mA.f.stay.length mA.c, .int .i64 mA.f.lo, .int .i64 mA.f.hi, .slice mB.p mB.f.stay.length mB.c, .int .i64 mB.f.lo, .int .i64 mB.f.hi] 55)).drew)
            have RC7 := Lib.hid ((Row.new' (w := W6.setCell ⟨W5.heap.size, 1, none⟩ (.slice (some ⟨W6.heap.size, 0, none⟩) 2 2)) (n := W6.heap.size) (by simp) #[.slice mA.p mA.f.stay.length mA.c, .int .i64 mA.f.lo, .int .i64 mA.f.hi, .slice mB.p mB.f.stay.length mB.c, .int .i64 mB.f.lo, .int .i64 mB.f.hi] 55).drew)
            clear hS hcell e1w a0 a1 a2 a3 b0 b1 b2 b3 hxb hb6 hb8 hW6
            rw [← HW6.out]
            go_region_held3 (fun w' => w'.cell? ⟨w.heap.size, 1, none⟩ = some (.slice (some ⟨b', o', none⟩) ms.length cf) ∧ w'.cell? ⟨b', o' + q' * 3, none⟩ = some (.slice mA.p mA.f.stay.length mA.c) ∧ w'.cell? ⟨b', o' + q' * 3 + 1, none⟩ = some (.int .i64 mA.f.lo) ∧ w'.cell? ⟨b', o' + q' * 3 + 2, none⟩ = some (.int .i64 mA.f.hi) ∧ w'.cell? ⟨b', o' + p * 3, none⟩ = some (.slice mB.p mB.f.stay.length mB.c) ∧ w'.cell? ⟨b', o' + p * 3 + 1, none⟩ = some (.int .i64 mB.f.lo) ∧ w'.cell? ⟨b', o' + p * 3 + 2, none⟩ = some (.int .i64 mB.f.hi)) (first | exact HS1.out | exact HS2.out | exact HS3.out | exact HS4.out) (fail)
            all_goals
              clear x1 x2 HS1 HS2 HS3 HS4 RX2 RC
              have k1 : W6.heap.size < ((W6.setCell ⟨W5.heap.size, 1, none⟩ (.slice (some ⟨W6.heap.size, 0, none⟩) 2 2)).alloc (.cells #[.slice mA.p mA.f.stay.length mA.c, .int .i64 mA.f.lo, .int .i64 mA.f.hi, .slice mB.p mB.f.stay.length mB.c, .int .i64 mB.f.lo, .int .i64 mB.f.hi] 55)).drew.heap.size := RC7.out.lt
              generalize ((W6.setCell ⟨W5.heap.size, 1, none⟩ (.slice (some ⟨W6.heap.size, 0, none⟩) 2 2)).alloc (.cells #[.slice mA.p mA.f.stay.length mA.c, .int .i64 mA.f.lo, .int .i64 mA.f.hi, .slice mB.p mB.f.stay.length mB.c, .int .i64 mB.f.lo, .int .i64 mB.f.hi] 55)).drew = W7 at *
              have hbk : BkAt W7 pp (some ⟨W6.heap.size, 0, none⟩) ps [mA, mB] := ⟨((P2.out.below KD.out.b).below HB7.out).p, two_frames RC7.out (A3.out.below HB7.out) (B3.out.below HB7.out), P2.out.b1, by simp, by simp only [List.mem_cons, List.not_mem_nil, or_false]; rintro x (rfl | rfl); exact hm3.1; exact hm3.2⟩
              have y0 := RX7.out.cell 0 (v := .slice pp ps.length cp) rfl
              have y1 := RX7.out.cell 1 (v := .slice (some ⟨W6.heap.size, 0, none⟩) 2 2) rfl
              have HE := Lib.hid ((P3.out.trans (KD.out.b.mono P3.out.size)).trans (HB7.out.mono (P3.out.trans (KD.out.b.mono P3.out.size)).size))
              go_wp2_with fail
              clear y0 y1
              have hd := Most_any pp cp (some ⟨W6.heap.size, 0, none⟩) 2 ps [mA, mB] W7 hbk
              rw [show ([mA, mB] : List FrM).length = 2 from rfl, MF2.out, BE2.out] at hd
              refine hd.mono ?_
              clear hd
              rintro e w9 ⟨qm, cm, qf, cf2, rfl, _, _, hb⟩
              have HE := Lib.hid (HE.out.trans (hb.mono HE.out.size))
              clear hb
              by_cases hb2 : bl.length = 2
              · have hbl2 : ((bl.length : Int) == 2) = true := beq_iff_eq.2 (by omega)
                have u1 := u1 hb2
                by_cases h8 : q' = a
                · have h9 : ((q' : Int) != (a : Int)) = false := by rw [h8]; simp
                  have h9' : (q' != a) = false := by rw [h8]; simp
                  have h10 : ¬ p = o := by omega
                  have h11 : ((p : Int) != (o : Int)) = true := bne_iff_ne.2 (by omega)
                  have h11' : (p != o) = true := bne_iff_ne.2 (by omega)
                  clear h8
                  go_wp2_with fail
                  refine (warmed_any _).mono ?_
                  rintro e w11 ⟨rfl, hb⟩
                  have HE := Lib.hid (HE.out.trans (hb.mono HE.out.size))
                  clear hb
                  go_wp2_with fail
                  go_ret
                  exact ⟨rfl, HE.out⟩
                · have h9 : ((q' : Int) != (a : Int)) = true := bne_iff_ne.2 (by omega)
                  have h9' : (q' != a) = true := bne_iff_ne.2 (by omega)
                  go_wp2_with fail
                  refine (warmed_any _).mono ?_
                  rintro e w11 ⟨rfl, hb⟩
                  have HE := Lib.hid (HE.out.trans (hb.mono HE.out.size))
                  clear hb
                  go_wp2_with fail
                  go_ret
                  exact ⟨rfl, HE.out⟩
              · have hbl2 : ((bl.length : Int) == 2) = false := beq_eq_false_iff_ne.2 (by omega)
                have u2 := u2 hb2
                by_cases h8 : a < q'
                · have h9 : (a : Int) < (q' : Int) := by omega
                  go_wp2_with fail
                  refine (warmed_any _).mono ?_
                  rintro e w11 ⟨rfl, hb⟩
                  have HE := Lib.hid (HE.out.trans (hb.mono HE.out.size))
                  clear hb
                  go_wp2_with fail
                  go_ret
                  exact ⟨rfl, HE.out⟩
                · have h9 : ¬ (a : Int) < (q' : Int) := by omega
                  have h10 : ((a : Int) == (q' : Int)) = true := beq_iff_eq.2 (by omega)
                  have h10' : (a == q') = true := beq_iff_eq.2 (by omega)
                  have h11 : (o : Int) ≤ (p : Int) := by omega
                  clear u2
                  go_wp2_with fail
                  refine (warmed_any _).mono ?_
                  rintro e w11 ⟨rfl, hb⟩
                  have HE := Lib.hid (HE.out.trans (hb.mono HE.out.size))
                  clear hb
                  go_wp2_with fail
                  go_ret
                  exact ⟨rfl, HE.out⟩

theorem TunnelClash_any (pp : Option Addr) (cp : Nat) (pf : Option Addr) (cf : Nat) (ps : List Pt) (ms : List FrM) (pset : Option Addr) (cset : Nat) (set : List Int) (n0 n1 : Int) (w : World) (hB : BkAt w pp pf ps ms) (hiset : IntsAt w pset set) (hnset : set.length ≤ maxLen) : Calls Try.prog 9 #[.agg #[.slice pp ps.length cp, .slice pf ms.length cf], .slice pset set.length cset, .agg #[.int .i64 n0, .int .i64 n1]] w fun e w' => e = .returned (.bool true) ∧ Below w.heap.size w w' := by
  cases hb : bookB ps (frsM ms)
  · exact clash_bad pp cp pf cf ps ms pset cset set n0 n1 w hB hiset hnset hb
  · by_cases h0 : (pickL (lostI ps (frsM ms)) (frsM ms).length).length = 0
    · rcases hf : clashF ps (frsM ms) with _ | a
      · exact clash_C pp cp pf cf ps ms pset cset set n0 n1 w hB hiset hnset hb h0 hf
      · exact clash_B pp cp pf cf ps ms pset cset set n0 n1 w hB hiset hnset hb h0 a hf
    · exact clash_A pp cp pf cf ps ms pset cset set n0 n1 w hB hiset hnset hb h0
end Go.Proofs.Ytjaeheodabojfaa
