/- As many pieces as can be hoped for are whole in some truth: the law returns true, whatever the log and the numbers. -/
import Derived.Test.YtnnlbbmimdohoaaT7
namespace Go.Proofs.Ytnnlbbmimdohoaa
open Go.RowKit Go.Maps
attribute [local go_sem] Oper.semAt_some

set_option maxRecDepth 10000 in
set_option maxHeartbeats 1600000 in
theorem PeelHope_any (p1 : Option Addr) (c1 : Nat) (p2 : Option Addr) (c2 : Nat) (long : List Int) (sz : Int) (ks : List K4) (w0 : World) (h : LogAt w0 p1 p2 long ks) (ps : Option Addr) (cs : Nat) (bits : List Int) (hbi : IntsAt w0 ps bits) (hbn : bits.length ≤ maxLen) :
    Calls Try.prog 9 #[.agg #[.slice p1 long.length c1, .int .i64 sz, .slice p2 ks.length c2], .slice ps bits.length cs] w0 fun e w' => e = .returned (.bool true) ∧ Below w0.heap.size w0 w' := by
  go_enter Try.func9, Try.ntmps9
  have hba := below_alloc w0 (.cells #[.slice p1 long.length c1, .int .i64 sz, .slice p2 ks.length c2] 25)
  have r0 := Row.new w0 #[.slice p1 long.length c1, .int .i64 sz, .slice p2 ks.length c2] 25
  have HH := Lib.hid (h.below hba)
  have HS := Lib.hid (hbi.below hba)
  clear h hbi
  cases hb : validB long sz ks
  · go_wp2_with (first | (refine (sound_no p1 c1 p2 c2 long sz ks _ HH.out hb).mono ?_; rintro e w1 ⟨rfl, hb1⟩; have HB := Lib.hid (hba.trans (hb1.mono (by simp <;> omega))); clear hb1) | (refine (peeled_any _).mono ?_; rintro e w2 ⟨rfl, hb2⟩))
    go_ret
    exact ⟨rfl, HB.out.trans (hb2.mono HB.out.size)⟩
  · have hok := valid_ok hb
    have hs1 := hok.s1
    have hs6 := hok.s6
    have hk3 := hok.k3
    have hpt := Lib.hid (trulyK_point bits 0 ks hok.ok hok.fh)
    have hKM := truly_truth hok bits
    have hTV := truly_valid hb bits
    have HTR := Lib.hid (fun w hl hs => truly_any p1 c1 p2 c2 long sz ks w hl hb ps cs bits hs hbn : ∀ w, LogAt w p1 p2 long ks → IntsAt w ps bits → Calls Try.prog 41 #[.agg #[.slice p1 long.length c1, .int .i64 sz, .slice p2 ks.length c2], .slice ps bits.length cs] w (GaveLog p1 c1 long sz (trulyK bits 0 ks) w))
    have HBT := Lib.hid (fun w p2 c2 hl => Best_good p1 c1 p2 c2 long sz (trulyK bits 0 ks) w hl hTV : ∀ w (p2 : Option Addr) (c2 : Nat), LogAt w p1 p2 long (trulyK bits 0 ks) → Calls Try.prog 30 #[.agg #[.slice p1 long.length c1, .int .i64 sz, .slice p2 (trulyK bits 0 ks).length c2]] w fun e w' => ∃ p c, e = .returned (.tuple #[.slice p (bestD long sz (trulyK bits 0 ks)).length c, .int .i64 0]) ∧ IntsAt w' p (bestD long sz (trulyK bits 0 ks)) ∧ Below w.heap.size w w')
    have HHT := Lib.hid (fun w p2 c2 hl => by have h := Hope_good p1 c1 p2 c2 long sz (trulyK bits 0 ks) w hl hTV; rw [point_hope hpt.out] at h; exact h : ∀ w (p2 : Option Addr) (c2 : Nat), LogAt w p1 p2 long (trulyK bits 0 ks) → Calls Try.prog 35 #[.agg #[.slice p1 long.length c1, .int .i64 sz, .slice p2 (trulyK bits 0 ks).length c2]] w fun e w' => e = .returned (.tuple #[.int .i64 ((bestD long sz (trulyK bits 0 ks)).length : Int), .int .i64 0]) ∧ Below w.heap.size w w')
    have hle : ((bestD long sz (trulyK bits 0 ks)).length : Int) ≤ hopeD long sz ks := hope_ge (sz := sz) hKM
    have HHO := Lib.hid (fun w hl => Hope_good p1 c1 p2 c2 long sz ks w hl hb : ∀ w, LogAt w p1 p2 long ks → Calls Try.prog 35 #[.agg #[.slice p1 long.length c1, .int .i64 sz, .slice p2 ks.length c2]] w fun e w' => e = .returned (.tuple #[.int .i64 (hopeD long sz ks), .int .i64 0]) ∧ Below w.heap.size w w')
    clear hpt hTV hKM
    generalize bestD long sz (trulyK bits 0 ks) = bt at *
    generalize trulyK bits 0 ks = kt at *
    generalize hhope : hopeD long sz ks = hope at *
    have HHOPE := Lib.hid hhope
    clear hhope
    go_wp2_with fail
    refine (sound_yes p1 c1 p2 c2 long sz ks _ HH.out hb).mono ?_
    rintro e w1 ⟨rfl, hb1⟩
    have hs1' := hb1.size
    simp at hs1'
    have H1 := Lib.hid (HH.out.below hb1)
    have S1 := Lib.hid (HS.out.below hb1)
    have R1 := Lib.hid (r0.below hb1 (by simp))
    have B1 := Lib.hid (hba.trans (hb1.mono (by simp)))
    clear hb1 hba r0 HH HS
    go_wp2_with (first | (refine load_row rfl 25 _ rfl _ rfl 25 _ _ R1.out Try.underlying25 rfl (by kernel_rfl) ?_))
    refine (HHO.out _ H1.out).mono ?_
    rintro e w2 ⟨rfl, hb2⟩
    have hz2 := hb2.size
    have H2 := Lib.hid (H1.out.below hb2)
    have S2 := Lib.hid (S1.out.below hb2)
    have R2 := Lib.hid (R1.out.below hb2 (by omega))
    have B2 := Lib.hid (B1.out.trans (hb2.mono (by omega)))
    clear hb2 H1 S1 R1 B1 HHO
    go_wp2_with (first | (refine load_row rfl 25 _ rfl _ rfl 25 _ _ R2.out Try.underlying25 rfl (by kernel_rfl) ?_))
    refine (HTR.out _ H2.out S2.out).mono ?_
    rintro e w3 ⟨p3, c3, rfl, hl3, hcc, hb3⟩
    have hz3 := hb3.size
    have H3 := Lib.hid (H2.out.below hb3)
    have S3 := Lib.hid (S2.out.below hb3)
    have R3 := Lib.hid (R2.out.below hb3 (by omega))
    have B3 := Lib.hid (B2.out.trans (hb3.mono (by omega)))
    have L3 := Lib.hid hl3
    clear hb3 hl3 H2 S2 R2 B2
    go_wp2_with fail
    refine (HBT.out _ _ _ L3.out).mono ?_
    rintro e w4 ⟨pb, cb, rfl, _, hb4⟩
    have hz4 := hb4.size
    have H4 := Lib.hid (H3.out.below hb4)
    have S4 := Lib.hid (S3.out.below hb4)
    have R4 := Lib.hid (R3.out.below hb4 (by omega))
    have B4 := Lib.hid (B3.out.trans (hb4.mono (by omega)))
    clear hb4 H3 S3 R3 B3 L3
    go_wp2_with (first | (refine load_row rfl 25 _ rfl _ rfl 25 _ _ R4.out Try.underlying25 rfl (by kernel_rfl) ?_))
    refine (HTR.out _ H4.out S4.out).mono ?_
    rintro e w5 ⟨p5, c5, rfl, hl5, hcc5, hb5⟩
    have hz5 := hb5.size
    have H5 := Lib.hid (H4.out.below hb5)
    have R5 := Lib.hid (R4.out.below hb5 (by omega))
    have B5 := Lib.hid (B4.out.trans (hb5.mono (by omega)))
    have L5 := Lib.hid hl5
    clear hb5 hl5 H4 S4 R4 B4 HTR
    go_wp2_with fail
    refine (HHT.out _ _ _ L5.out).mono ?_
    rintro e w6 ⟨rfl, hb6⟩
    have hz6 := hb6.size
    have H6 := Lib.hid (H5.out.below hb6)
    have R6 := Lib.hid (R5.out.below hb6 (by omega))
    have B6 := Lib.hid (B5.out.trans (hb6.mono (by omega)))
    clear hb6 H5 R5 B5 L5 HHT HBT
    go_wp2_with fail
    obtain ⟨hpow, hp512⟩ := pow_len hk3
    have HALL := Lib.hid (mostI_all hok)
    rw [HHOPE.out] at HALL
    have hh := hopeD_range hok
    rw [HHOPE.out] at hh
    have HML := Lib.hid (fun j => mostI_le hok j : ∀ j, 0 ≤ mostI long sz ks j ∧ mostI long sz ks j ≤ hopeD long sz ks)
    rw [HHOPE.out] at HML
    generalize 8 ^ ks.length = N at *
    have HPOW := Lib.hid hpow
    clear hpow
    go_loopw [11, 12] (fun most i wr => ∃ j : Nat, j ≤ N ∧ i = .int .i64 j ∧ most = .int .i64 (mostI long sz ks j) ∧ Row wr w0.heap.size #[.slice p1 long.length c1, .int .i64 sz, .slice p2 ks.length c2] 25 ∧ Below w0.heap.size w0 wr ∧ LogAt wr p1 p2 long ks) (fun _ i _ => N - (intOf i).toNat)
    case atStart => exact ⟨0, by omega, rfl, rfl, R6.out, B6.out, H6.out⟩
    case round =>
      obtain ⟨j, hj, rfl, rfl, g0, gb, gl⟩ := hrel
      clear R6 B6 H6
      have k2 := g0.cell 2 (v := .slice p2 ks.length c2) rfl
      have G0 := Lib.hid g0
      have GB := Lib.hid gb
      have GL := Lib.hid gl
      have hz := g0.lt
      clear g0 gb gl
      by_cases hjN : j < N
      · have hjl : (j : Int) < wrap64 (2 ^ (3 * ks.length)) := by rw [HPOW.out]; omega
        go_wp2_with (first | (refine load_row rfl 25 _ rfl _ rfl 25 _ _ G0.out Try.underlying25 rfl (by kernel_rfl) ?_))
        have G1 := Lib.hid (G0.out.alloc (.cells #[.int .i64 ((j : Int) % 4), .int .i64 ((j : Int) / 4 % 2), .int .i64 ((j : Int) / 8 % 4), .int .i64 ((j : Int) / 32 % 2), .int .i64 ((j : Int) / 64 % 4), .int .i64 ((j : Int) / 256)] 3))
        have GB1 := Lib.hid (GB.out.alloc GB.out.size (.cells #[.int .i64 ((j : Int) % 4), .int .i64 ((j : Int) / 4 % 2), .int .i64 ((j : Int) / 8 % 4), .int .i64 ((j : Int) / 32 % 2), .int .i64 ((j : Int) / 64 % 4), .int .i64 ((j : Int) / 256)] 3))
        have GL1 := Lib.hid (GL.out.below (below_alloc wr (.cells #[.int .i64 ((j : Int) % 4), .int .i64 ((j : Int) / 4 % 2), .int .i64 ((j : Int) / 8 % 4), .int .i64 ((j : Int) / 32 % 2), .int .i64 ((j : Int) / 64 % 4), .int .i64 ((j : Int) / 256)] 3)))
        have HTR := Lib.hid (truly_any p1 c1 p2 c2 long sz ks (wr.alloc (.cells #[.int .i64 ((j : Int) % 4), .int .i64 ((j : Int) / 4 % 2), .int .i64 ((j : Int) / 8 % 4), .int .i64 ((j : Int) / 32 % 2), .int .i64 ((j : Int) / 64 % 4), .int .i64 ((j : Int) / 256)] 3)) GL1.out hb (some ⟨wr.heap.size, 0, none⟩) 6 (bitsI j) (ints_row (Row.new wr (intsA (bitsI j)) 3)) (by simp [maxLen, bitsI]))
        have hTV := truly_valid hb (bitsI j)
        have HBT := Lib.hid (fun w p2 c2 hl => Best_good p1 c1 p2 c2 long sz (trulyK (bitsI j) 0 ks) w hl hTV : ∀ w (p2 : Option Addr) (c2 : Nat), LogAt w p1 p2 long (trulyK (bitsI j) 0 ks) → Calls Try.prog 30 #[.agg #[.slice p1 long.length c1, .int .i64 sz, .slice p2 (trulyK (bitsI j) 0 ks).length c2]] w fun e w' => ∃ p c, e = .returned (.tuple #[.slice p (bestD long sz (trulyK (bitsI j) 0 ks)).length c, .int .i64 0]) ∧ IntsAt w' p (bestD long sz (trulyK (bitsI j) 0 ks)) ∧ Below w.heap.size w w')
        have HST := Lib.hid (show mostI long sz ks (j + 1) = max (mostI long sz ks j) ((bestD long sz (trulyK (bitsI j) 0 ks)).length : Int) from rfl)
        generalize bestD long sz (trulyK (bitsI j) 0 ks) = bj at *
        generalize trulyK (bitsI j) 0 ks = kj at *
        clear hTV G0 GB GL k2
        refine HTR.out.mono ?_
        rintro e w7 ⟨p7, c7, rfl, hl7, hcc7, hb7⟩
        have hz7 := hb7.size
        simp at hz7
        have G2 := Lib.hid (G1.out.below hb7 (by simp; omega))
        have GB2 := Lib.hid (GB1.out.trans (hb7.mono (by have := GB1.out.size; simp; omega)))
        have GL2 := Lib.hid (GL1.out.below hb7)
        have L7 := Lib.hid hl7
        clear hb7 hl7 G1 GB1 GL1 HTR
        go_wp2_with fail
        refine (HBT.out _ _ _ (L7.out.below (below_alloc _ _))).mono ?_
        rintro e w8 ⟨pb2, cb2, rfl, _, hb8⟩
        have hz8 := hb8.size
        simp at hz8
        have G3 := Lib.hid ((G2.out.alloc (.cells #[.slice p1 long.length c1, .int .i64 sz, .slice p7 kj.length c7] 25)).below hb8 (by simp; have := G2.out.lt; omega))
        have GB3 := Lib.hid ((GB2.out.alloc GB2.out.size (.cells #[.slice p1 long.length c1, .int .i64 sz, .slice p7 kj.length c7] 25)).trans (hb8.mono (by simp; have := GB2.out.size; omega)))
        have GL3 := Lib.hid ((GL2.out.below (below_alloc w7 (.cells #[.slice p1 long.length c1, .int .i64 sz, .slice p7 kj.length c7] 25))).below hb8)
        clear hb8 G2 GB2 GL2 L7 HBT
        go_wp2
        go_roundw
        case rel => exact ⟨j + 1, by omega, by go_num, by rw [HST.out]; congr 1; omega, G3.out, GB3.out, GL3.out⟩
        case measure => simp [intOf]; omega
      · obtain rfl : j = N := by omega
        have hjl : ¬ (j : Int) < wrap64 (2 ^ (3 * ks.length)) := by rw [HPOW.out]; omega
        have HALL2 := Lib.hid HALL.out
        rw [HALL2.out]
        go_wp2_with (first | (refine (peeled_any _).mono ?_; rintro e w15 ⟨rfl, hb15⟩))
        go_ret
        exact ⟨rfl, GB.out.trans (hb15.mono GB.out.size)⟩
end Go.Proofs.Ytnnlbbmimdohoaa
