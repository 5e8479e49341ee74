/- A column that surely has a knot truly has one, one that surely is whole has none; a piece surely is whole just if all of its columns are: the law returns true, whatever the log and the numbers. -/
import Derived.Test.YtnnlbbmimdohoaaT5
namespace Go.Proofs.Ytnnlbbmimdohoaa
open Go.RowKit Go.Maps
attribute [local go_sem] Oper.semAt_some

set_option maxRecDepth 10000 in
set_option maxHeartbeats 1600000 in
theorem PeelKnotty_any (p1 : Option Addr) (c1 : Nat) (p2 : Option Addr) (c2 : Nat) (long : List Int) (sz : Int) (ks : List K4) (w0 : World) (h : LogAt w0 p1 p2 long ks) (n : Int) (ps : Option Addr) (cs : Nat) (bits : List Int) (hbi : IntsAt w0 ps bits) (hbn : bits.length ≤ maxLen) :
    Calls Try.prog 8 #[.agg #[.slice p1 long.length c1, .int .i64 sz, .slice p2 ks.length c2], .int .i64 n, .slice ps bits.length cs] w0 fun e w' => e = .returned (.bool true) ∧ Below w0.heap.size w0 w' := by
  go_enter Try.func8, Try.ntmps8
  have hba := below_alloc w0 (.cells #[.slice p1 long.length c1, .int .i64 sz, .slice p2 ks.length c2] 25)
  have r0 := Row.new w0 #[.slice p1 long.length c1, .int .i64 sz, .slice p2 ks.length c2] 25
  have HH := Lib.hid (h.below hba)
  have HS := Lib.hid (hbi.below hba)
  clear h hbi
  cases hb : validB long sz ks
  · go_wp2_with (first | (refine (sound_no p1 c1 p2 c2 long sz ks _ HH.out hb).mono ?_; rintro e w1 ⟨rfl, hb1⟩; have HB := Lib.hid (hba.trans (hb1.mono (by simp <;> omega))); clear hb1) | (refine (peeled_any _).mono ?_; rintro e w2 ⟨rfl, hb2⟩))
    go_ret
    exact ⟨rfl, HB.out.trans (hb2.mono HB.out.size)⟩
  · have hok := valid_ok hb
    have hs1 := hok.s1
    have hs6 := hok.s6
    obtain ⟨m, rfl⟩ : ∃ m : Nat, sz = m := ⟨sz.toNat, by omega⟩
    have hw := wideN_eq hok.L
    have hn6 := hok.L.n6
    have hlong := total_psum hok.L long.length (Nat.le_refl _)
    rw [List.take_length] at hlong
    have HLONG := Lib.hid hlong
    have hsp := spin_range n (wideN long) (by omega)
    obtain ⟨c, hc⟩ : ∃ c : Nat, spin n (wideN long) = c := ⟨(spin n (wideN long)).toNat, by omega⟩
    have hcl : c < wideN long := by omega
    have HSP := Lib.hid hc
    have HW := Lib.hid hw.1
    have hwl := hw.2.1
    have hpt := Lib.hid (trulyK_point bits 0 ks hok.ok hok.fh)
    have hKN := Lib.hid (fun i => knots_reach hok.L hpt.out i : ∀ i, b0 (knotsTo long (trulyK bits 0 ks) long.length) i = b0 (reachD long (trulyK bits 0 ks)) i)
    have hKL := Lib.hid (knotsTo_length (trulyK bits 0 ks) hok.L long.length (Nat.le_refl _))
    have hKM := Lib.hid (truly_truth hok bits)
    have hTV := truly_valid hb bits
    have HTR := Lib.hid (fun w hl hs => truly_any p1 c1 p2 c2 long m ks w hl hb ps cs bits hs hbn : ∀ w, LogAt w p1 p2 long ks → IntsAt w ps bits → Calls Try.prog 41 #[.agg #[.slice p1 long.length c1, .int .i64 m, .slice p2 ks.length c2], .slice ps bits.length cs] w (GaveLog p1 c1 long m (trulyK bits 0 ks) w))
    have HKC := Lib.hid (fun w p2 c2 hl => knots_any p1 c1 p2 c2 long m (trulyK bits 0 ks) w hl hTV : ∀ (w : World) (p2 : Option Addr) (c2 : Nat), LogAt w p1 p2 long (trulyK bits 0 ks) → Calls Try.prog 40 #[.agg #[.slice p1 long.length c1, .int .i64 m, .slice p2 (trulyK bits 0 ks).length c2]] w fun e w' => ∃ p c, e = .returned (.slice p (knotsTo long (trulyK bits 0 ks) long.length).length c) ∧ BoolsAt w' p (knotsTo long (trulyK bits 0 ks) long.length) ∧ Below w.heap.size w w')
    clear hlong hsp hw hpt hTV hc
    generalize knotsTo long (trulyK bits 0 ks) long.length = kn at *
    generalize trulyK bits 0 ks = kt at *
    have HKD := Lib.hid (fun w hl => Knotty_good p1 c1 p2 c2 long m ks w hl c hcl hb : ∀ w, LogAt w p1 p2 long ks → Calls Try.prog 21 #[.agg #[.slice p1 long.length c1, .int .i64 m, .slice p2 ks.length c2], .int .i64 c] w fun e w' => e = .returned (.tuple #[.int .i64 (knotD long ks c), .int .i64 0]) ∧ Below w.heap.size w w')
    generalize hwd : wideN long = wd at *
    have HWD := Lib.hid hwd
    clear hwd
    have hk2 : knotD long ks c = 2 → b0 kn c = true := fun h => by rw [hKN.out]; exact knot_true hKM.out h
    have hk0 : knotD long ks c = 0 → b0 kn c = false := fun h => by rw [hKN.out]; exact knot_false hKM.out h
    have hkr := knot_range long ks c
    generalize knotD long ks c = kd at *
    have hkb : (kd = 0 ∧ b0 kn c = false) ∨ kd = 1 ∨ (kd = 2 ∧ b0 kn c = true) := by
      rcases (show kd = 0 ∨ kd = 1 ∨ kd = 2 by omega) with h | h | h
      · exact .inl ⟨h, hk0 h⟩
      · exact .inr (.inl h)
      · exact .inr (.inr ⟨h, hk2 h⟩)
    have HKB := Lib.hid hkb
    clear hk2 hk0 hkr hkb
    go_wp2_with fail
    refine (sound_yes p1 c1 p2 c2 long m ks _ HH.out hb).mono ?_
    rintro e w1 ⟨rfl, hb1⟩
    have hs1' := hb1.size
    simp at hs1'
    have H1 := Lib.hid (HH.out.below hb1)
    have S1 := Lib.hid (HS.out.below hb1)
    have R1 := Lib.hid (r0.below hb1 (by simp))
    have B1 := Lib.hid (hba.trans (hb1.mono (by simp)))
    clear hb1 hba r0 HH HS
    have k0 := R1.out.cell 0 (v := .slice p1 long.length c1) rfl
    have HTOT := Lib.hid (show Calls Try.prog 47 #[.slice p1 long.length c1] w1 fun e w' => e = .returned (.int .i64 (wd : Int)) ∧ w1 = w' from by have h := Total_any p1 c1 long w1 (by unfold maxLen; omega) H1.out.l; rw [HLONG.out, ← HW.out] at h; exact h)
    have HSPN := Lib.hid (show Calls Try.prog 49 #[.int .i64 n, .int .i64 (wd : Int)] w1 fun e w' => e = .returned (.int .i64 (c : Int)) ∧ w1 = w' from by have h := Spin_any n wd w1 ⟨by omega, by omega⟩; rw [HSP.out] at h; exact h)
    go_wp2_with (first | (refine HTOT.out.mono ?_; rintro e u ⟨rfl, rfl⟩) | (refine HSPN.out.mono ?_; rintro e u ⟨rfl, rfl⟩) | (refine load_row rfl 25 _ rfl _ rfl 25 _ _ R1.out Try.underlying25 rfl (by kernel_rfl) ?_))
    refine (HTR.out _ H1.out S1.out).mono ?_
    rintro e w2 ⟨p2', c2', rfl, hl2, hcc, hb2⟩
    have hz2 := hb2.size
    have H2 := Lib.hid (H1.out.below hb2)
    have R2 := Lib.hid (R1.out.below hb2 (by omega))
    have B2 := Lib.hid (B1.out.trans (hb2.mono (by omega)))
    have L2 := Lib.hid hl2
    clear hb2 hl2 H1 S1 R1 B1 HTOT HSPN HTR k0
    go_wp2_with fail
    refine (HKC.out _ _ _ L2.out).mono ?_
    rintro e w3 ⟨pk, ck, rfl, hkn, hb3⟩
    have hz3 := hb3.size
    have H3 := Lib.hid (H2.out.below hb3)
    have R3 := Lib.hid (R2.out.below hb3 (by omega))
    have B3 := Lib.hid (B2.out.trans (hb3.mono (by omega)))
    have K3 := Lib.hid hkn
    clear hb3 hkn H2 R2 B2 L2 HKC
    go_wp2_with (first | (refine load_row rfl 25 _ rfl _ rfl 25 _ _ R3.out Try.underlying25 rfl (by kernel_rfl) ?_))
    refine (HKD.out _ H3.out).mono ?_
    rintro e w4 ⟨rfl, hb4⟩
    have hz4 := hb4.size
    have H4 := Lib.hid (H3.out.below hb4)
    have R4 := Lib.hid (R3.out.below hb4 (by omega))
    have B4 := Lib.hid (B3.out.trans (hb4.mono (by omega)))
    have K4 := Lib.hid (K3.out.below hb4)
    clear hb4 H3 R3 B3 K3 HKD
    obtain ⟨b, o, rfl, hcell⟩ := K4.out c (by have := hKL.out; have := HW.out; omega)
    have hkl : c < kn.length := by have := hKL.out; have := HW.out; omega
    clear hKN hKM
    rcases HKB.out with ⟨rfl, hbc⟩ | rfl | ⟨rfl, hbc⟩
    all_goals first | rw [hbc] at hcell | skip
    all_goals
      clear HKB
      try clear hbc
    all_goals
      have k1 := R4.out.cell 1 (v := .int .i64 m) rfl
      by_cases hcs : c + m ≤ wd
      · go_wp2_with (first | (refine (Fits_yes _ _ _ _ (by decide) (by decide)).mono ?_; rintro e u ⟨rfl, rfl⟩))
        clear k1 hcell K4
        go_loopw [12, 13] (fun ok i wr => ∃ j : Nat, j ≤ m ∧ i = .int .i64 ((c + j : Nat) : Int) ∧ ok = .bool (freeAt (reachD long ks) c j) ∧ Row wr w0.heap.size #[.slice p1 long.length c1, .int .i64 (m : Int), .slice p2 ks.length c2] 25 ∧ Below w0.heap.size w0 wr ∧ LogAt wr p1 p2 long ks) (fun _ i _ => (c + m) - (intOf i).toNat)
        case atStart => exact ⟨0, by omega, by simp, by rw [freeAt_zero], R4.out, B4.out, H4.out⟩
        case round =>
          obtain ⟨j, hj, rfl, rfl, g0, gb, gl⟩ := hrel
          clear R4 B4 H4
          have k1 := g0.cell 1 (v := .int .i64 m) rfl
          have G0 := Lib.hid g0
          have GB := Lib.hid gb
          have GL := Lib.hid gl
          have hz := g0.lt
          clear g0 gb gl
          by_cases hjm : j < m
          · go_wp2_with (first | (refine load_row rfl 25 _ rfl _ rfl 25 _ _ G0.out Try.underlying25 rfl (by kernel_rfl) ?_))
            clear k1
            refine (Knotty_good p1 c1 p2 c2 long m ks _ GL.out (c + j) (by rw [HWD.out]; omega) hb).mono ?_
            rintro e w6 ⟨rfl, hb6⟩
            have hz6 := hb6.size
            have G2 := Lib.hid (G0.out.below hb6 hz)
            have GB2 := Lib.hid (GB.out.trans (hb6.mono GB.out.size))
            have GL2 := Lib.hid (GL.out.below hb6)
            clear hb6 G0 GB GL
            have HST := Lib.hid (freeAt_succ (reachD long ks) c j)
            have hki := knot_iff (long := long) hok.ok (c + j)
            have hkr := knot_range long ks (c + j)
            generalize knotD long ks (c + j) = kd at *
            generalize b0 (reachD long ks) (c + j) = bb at *
            have hbb : bb = !decide (kd = 0) := by
              by_cases h : kd = 0
              · rw [hki.1 h]; simp [h]
              · cases bb
                · exact absurd (hki.2 rfl) h
                · simp [h]
            subst hbb
            clear hki
            by_cases hk0 : kd = 0
            · subst hk0
              cases hfr : freeAt (reachD long ks) c j
              all_goals
                have HF := Lib.hid hfr
                clear hfr
                go_wp2
                go_roundw
                case rel => exact ⟨j + 1, by omega, by go_num, by rw [HST.out, HF.out]; simp, G2.out, GB2.out, GL2.out⟩
                case measure => simp [intOf]; omega
            · have hk1 : (kd == 0) = false := by simpa using hk0
              have HK := Lib.hid hk0
              clear hk0
              cases hfr : freeAt (reachD long ks) c j
              all_goals
                have HF := Lib.hid hfr
                clear hfr
                go_wp2
                go_roundw
                case rel => exact ⟨j + 1, by omega, by go_num, by rw [HST.out, HF.out]; simp [HK.out], G2.out, GB2.out, GL2.out⟩
                case measure => simp [intOf]; omega
          · obtain rfl : j = m := by omega
            have HSU := Lib.hid (Sure_yes p1 c1 p2 c2 long j ks (wr.alloc (.cells #[.int .i64 (c : Int)] 3)) (GL.out.below (below_alloc _ _)) (some ⟨wr.heap.size, 0, none⟩) [(c : Int)] 1 (ints_row (Row.new wr (intsA [(c : Int)]) 3)) (by simp [maxLen]) hb (cutOk_mk (by omega) (by rw [← HW.out]; omega) (by rw [cutOk])))
            have hcount : countL (wholesD long j (reachD long ks)) [(c : Int)] = if freeAt (reachD long ks) c j then 1 else 0 := by
              have hbf : b0 (wholesD long j (reachD long ks)) (c : Int).toNat = freeAt (reachD long ks) c j := by
                rw [Bool.eq_iff_iff, b0_wholesD, freeAt_iff]
                simp only [Int.toNat_natCast]
                exact ⟨fun h => h.2.2, fun h => ⟨by omega, by have := HW.out; omega, h⟩⟩
              rw [countL_cons, countL_nil, Int.zero_add, hbf]
            rw [hcount] at HSU
            clear hcount
            cases hfr : freeAt (reachD long ks) c j
            all_goals
              rw [hfr] at HSU
              go_wp2_with (first | (refine load_row rfl 25 _ rfl _ rfl 25 _ _ G0.out Try.underlying25 rfl (by kernel_rfl) ?_))
              refine HSU.out.mono ?_
              rintro e w7 ⟨rfl, hb7⟩
              have B7 := Lib.hid ((GB.out.alloc GB.out.size (.cells #[.int .i64 (c : Int)] 3)).trans (hb7.mono (by simp; have := GB.out.size; omega)))
              clear hb7 HSU hfr
              go_wp2_with (first | (refine (Fits_yes _ _ _ _ (by decide) (by decide)).mono ?_; rintro e u ⟨rfl, rfl⟩) | (refine (peeled_any _).mono ?_; rintro e w8 ⟨rfl, hb8⟩))
              go_ret
              exact ⟨rfl, B7.out.trans (hb8.mono B7.out.size)⟩
      · go_wp2_with (first | (refine (Fits_yes _ _ _ _ (by decide) (by decide)).mono ?_; rintro e u ⟨rfl, rfl⟩) | (refine (peeled_any _).mono ?_; rintro e w5 ⟨rfl, hb5⟩))
        go_ret
        exact ⟨rfl, B4.out.trans (hb5.mono B4.out.size)⟩
end Go.Proofs.Ytnnlbbmimdohoaa
