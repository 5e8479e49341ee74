/- A log without knots gives as many pieces as the ribbon has room for: the law returns true, whatever the log and the number. -/
import Derived.Test.YtnnlbbmimdohoaaN1
import Derived.Test.YtnnlbbmimdohoaaT3
namespace Go.Proofs.Ytnnlbbmimdohoaa
open Go.RowKit Go.Maps
attribute [local go_sem] Oper.semAt_some

theorem Knotty_clean (p1 : Option Addr) (c1 : Nat) (p2 : Option Addr) (c2 : Nat) (long : List Int) (sz : Int) (w0 : World) (h : LogAt w0 p1 p2 long []) (hb : validB long sz [] = true) (c : Nat) (hc : c < wideN long) :
    Calls Try.prog 21 #[.agg #[.slice p1 long.length c1, .int .i64 sz, .slice p2 0 c2], .int .i64 c] w0 fun e w' => e = .returned (.tuple #[.int .i64 0, .int .i64 0]) ∧ Below w0.heap.size w0 w' := by
  have h := Knotty_good p1 c1 p2 c2 long sz [] w0 h c hc hb
  rw [clean_knot] at h
  exact h
theorem Hope_clean (p1 : Option Addr) (c1 : Nat) (p2 : Option Addr) (c2 : Nat) (long : List Int) (sz : Int) (w0 : World) (h : LogAt w0 p1 p2 long []) (hb : validB long sz [] = true) :
    Calls Try.prog 35 #[.agg #[.slice p1 long.length c1, .int .i64 sz, .slice p2 0 c2]] w0 fun e w' => e = .returned (.tuple #[.int .i64 ((bestD long sz []).length : Int), .int .i64 0]) ∧ Below w0.heap.size w0 w' := by
  have h := Hope_good p1 c1 p2 c2 long sz [] w0 h hb
  rw [clean_hope] at h
  exact h

theorem Best_clean (p1 : Option Addr) (c1 : Nat) (p2 : Option Addr) (c2 : Nat) (long : List Int) (sz : Int) (w0 : World) (h : LogAt w0 p1 p2 long []) (hb : validB long sz [] = true) :
    Calls Try.prog 30 #[.agg #[.slice p1 long.length c1, .int .i64 sz, .slice p2 0 c2]] w0 fun e w' => ∃ p c, e = .returned (.tuple #[.slice p (bestD long sz []).length c, .int .i64 0]) ∧ IntsAt w' p (bestD long sz []) ∧ Below w0.heap.size w0 w' :=
  Best_good p1 c1 p2 c2 long sz [] w0 h hb
theorem Ask_clean (p1 : Option Addr) (c1 : Nat) (p2 : Option Addr) (c2 : Nat) (long : List Int) (sz : Int) (w0 : World) (h : LogAt w0 p1 p2 long []) (hb : validB long sz [] = true) :
    Calls Try.prog 37 #[.agg #[.slice p1 long.length c1, .int .i64 sz, .slice p2 0 c2]] w0 fun e w' => e = .returned (.tuple #[.int .i64 0, .int .i64 4]) ∧ Below w0.heap.size w0 w' :=
  Ask_none p1 c1 p2 c2 long sz [] w0 h hb rfl

set_option maxRecDepth 10000 in
set_option maxHeartbeats 1600000 in
theorem PeelClean_any (p1 : Option Addr) (c1 : Nat) (p2 : Option Addr) (c2 : Nat) (long : List Int) (sz : Int) (ks : List K4) (w0 : World) (h : LogAt w0 p1 p2 long ks) (n : Int) :
    Calls Try.prog 11 #[.agg #[.slice p1 long.length c1, .int .i64 sz, .slice p2 ks.length c2], .int .i64 n] w0 fun e w' => e = .returned (.bool true) ∧ Below w0.heap.size w0 w' := by
  go_enter Try.func11, Try.ntmps11
  have hba := below_alloc w0 (.cells #[.slice p1 long.length c1, .int .i64 sz, .slice p2 ks.length c2] 25)
  have r0 := Row.new w0 #[.slice p1 long.length c1, .int .i64 sz, .slice p2 ks.length c2] 25
  have HH0 := Lib.hid h
  have HH := Lib.hid (h.below hba)
  clear h
  cases hb : validB long sz ks
  · go_wp2_with (first | (refine (sound_no p1 c1 p2 c2 long sz ks _ HH.out hb).mono ?_; rintro e w1 ⟨rfl, hb1⟩; have HB := Lib.hid (hba.trans (hb1.mono (by simp <;> omega))); clear hb1) | (refine (peeled_any _).mono ?_; rintro e w2 ⟨rfl, hb2⟩))
    go_ret
    exact ⟨rfl, HB.out.trans (hb2.mono HB.out.size)⟩
  · have hok := valid_ok hb
    have hL0 := hok.L
    have hbc := clean_valid hb
    have hw := wideN_eq hL0
    have hlong := total_psum hL0 long.length (Nat.le_refl _)
    rw [List.take_length] at hlong
    have hn6 := hL0.n6
    go_wp2_with (first | (refine (sound_yes p1 c1 p2 c2 long sz ks _ HH.out hb).mono ?_; rintro e w1 ⟨rfl, hb1⟩; have HB := Lib.hid (hba.trans (hb1.mono (by simp <;> omega))); have R0 := Lib.hid (r0.below hb1 (by simp <;> omega)); have HH1 := Lib.hid (HH.out.below hb1); clear hb1; have k0 := R0.out.cell 0 (v := .slice p1 long.length c1) rfl; have k1 := R0.out.cell 1 (v := .int .i64 sz) rfl; have k2 := R0.out.cell 2 (v := .slice p2 ks.length c2) rfl; have hz := R0.out.lt))
    have H1 := Lib.hid (show LogAt (w1.alloc (.cells #[.slice p1 long.length c1, .int .i64 sz, .slice none 0 0] 25)) p1 none long [] from ⟨HH1.out.l.below (below_alloc _ _), fun i hi => by simp at hi, HH1.out.b1, by decide⟩)
    have RX := Lib.hid (Row.new w1 #[.slice p1 long.length c1, .int .i64 sz, .slice none 0 0] 25)
    have R0 := Lib.hid (R0.out.alloc (.cells #[.slice p1 long.length c1, .int .i64 sz, .slice none 0 0] 25))
    have HB := Lib.hid (HB.out.alloc (by omega) (.cells #[.slice p1 long.length c1, .int .i64 sz, .slice none 0 0] 25))
    have htot := Total_any p1 c1 long (w1.alloc (.cells #[.slice p1 long.length c1, .int .i64 sz, .slice none 0 0] 25)) (by unfold maxLen; omega) H1.out.l
    rw [hlong] at htot
    have HTOT := Lib.hid htot
    obtain ⟨hbl, hba0⟩ := clean_best hok
    have HBA := Lib.hid hba0
    have HBL := Lib.hid hbl
    clear hbl
    have hblen : ((bestD long sz []).length : Int) ≤ 72 := cutD_short (ks := ks) hok _
    clear htot k0 k1 k2 hba r0 HH HH1 hba0
    go_wp2_with (first | (refine HTOT.out.mono ?_; rintro e u ⟨rfl, rfl⟩))
    refine (Best_clean p1 c1 none 0 long sz _ H1.out hbc).mono ?_
    rintro e w3 ⟨pb, cb, rfl, hbi, hb3⟩
    have hs3 := hb3.size
    simp at hs3
    have H3 := Lib.hid (H1.out.below hb3)
    have X3 := Lib.hid (RX.out.below hb3 (by simp))
    have R3 := Lib.hid (R0.out.below hb3 (by simp; omega))
    have B3 := Lib.hid (HB.out.trans (hb3.mono (by simp; omega)))
    have BI3 := Lib.hid hbi
    clear hb3 hbi HTOT
    have x0 := X3.out.cell 0 (v := .slice p1 long.length c1) rfl
    have x1 := X3.out.cell 1 (v := .int .i64 sz) rfl
    have x2 := X3.out.cell 2 (v := .slice none 0 0) rfl
    go_wp2_with fail
    refine (Hope_clean p1 c1 none 0 long sz _ H3.out hbc).mono ?_
    rintro e w4 ⟨rfl, hb4⟩
    have hs4 := hb4.size
    have H4 := Lib.hid (H3.out.below hb4)
    have X4 := Lib.hid (X3.out.below hb4 (by omega))
    have R4 := Lib.hid (R3.out.below hb4 (by omega))
    have B4 := Lib.hid (B3.out.trans (hb4.mono (by omega)))
    have BI4 := Lib.hid (BI3.out.below hb4)
    clear hb4 x0 x1 x2
    obtain ⟨c, hcs, hcl⟩ : ∃ c : Nat, spin n (psum long long.length) = c ∧ c < wideN long := by
      have hr := spin_range n (psum long long.length) (by omega)
      exact ⟨(spin n (psum long long.length)).toNat, by omega, by omega⟩
    have HCS := Lib.hid hcs
    clear hcs
    go_wp2_with fail
    refine region_inv rfl (by kernel_rfl) (fun L a v => ∃ x11 x12 x35 x36 x37 x38 x39 x40 x41 x42 : Value, a = { tmps := #[.agg #[.slice p1 long.length c1, .int .i64 sz, .slice p2 ks.length c2], .int .i64 n, .pointer (some ⟨w0.heap.size, 0, none⟩), undef, .bool false, .pointer (some ⟨w1.heap.size, 0, none⟩), .int .i64 (psum long long.length), .slice pb (bestD long sz []).length cb, .int .i64 0, .int .i64 ((bestD long sz []).length : Int), .int .i64 0, x11, x12, undef, undef, undef, .agg #[.slice p1 long.length c1, .int .i64 sz, .slice p2 ks.length c2], .bool true, .bool false, undef, .agg #[.slice p1 long.length c1, .int .i64 sz, .slice p2 ks.length c2], .pointer (some ⟨w1.heap.size, 2, none⟩), .pointer (some ⟨w0.heap.size, 0, none⟩), .slice p1 long.length c1, .int .i64 (psum long long.length), .tuple #[.slice pb (bestD long sz []).length cb, .int .i64 0], .agg #[.slice p1 long.length c1, .int .i64 sz, .slice none 0 0], .tuple #[.slice pb (bestD long sz []).length cb, .int .i64 0], .slice pb (bestD long sz []).length cb, .int .i64 0, .tuple #[.int .i64 ((bestD long sz []).length : Int), .int .i64 0], .agg #[.slice p1 long.length c1, .int .i64 sz, .slice none 0 0], .tuple #[.int .i64 ((bestD long sz []).length : Int), .int .i64 0], .int .i64 ((bestD long sz []).length : Int), .int .i64 0, x35, x36, x37, x38, x39, x40, x41, x42, undef, undef, undef, undef, undef, undef, undef, undef, undef, undef, undef, undef, undef, undef, undef, undef, undef, undef, undef, undef, undef, undef, undef, undef, undef, undef, undef, undef, undef, undef, undef, undef, undef, undef, undef, undef, undef, undef, undef, undef, undef, undef, undef, undef, undef, undef, undef, undef, undef, undef, undef, undef, undef, undef], defers := [] } ∧ Hid (L 0 = true → x36 = .agg #[.slice p1 long.length c1, .int .i64 sz, .slice none 0 0]) ∧ Hid (L 1 = true → x37 = .int .i64 n) ∧ Hid (L 2 = true → x38 = .int .i64 (psum long long.length)) ∧ Hid (L 3 = true → x39 = .int .i64 c) ∧ Hid (L 4 = true → x40 = .tuple #[.int .i64 0, .int .i64 0]) ∧ Hid (L 5 = true → x35 = .tuple #[.int .i64 0, .int .i64 0]) ∧ Hid (L 6 = true → x41 = .int .i64 0) ∧ Hid (L 7 = true → x42 = .int .i64 0) ∧ Hid (L 8 = true → x11 = .int .i64 0) ∧ Hid (L 9 = true → x12 = .int .i64 0) ∧ Hid (Row v w1.heap.size #[.slice p1 long.length c1, .int .i64 sz, .slice none 0 0] 25) ∧ Hid (Row v w0.heap.size #[.slice p1 long.length c1, .int .i64 sz, .slice p2 ks.length c2] 25) ∧ Hid (LogAt v p1 none long []) ∧ Hid (IntsAt v pb (bestD long sz [])) ∧ Hid (Below w0.heap.size w0 v)) ?h0 ?steps ?hd
    case h0 => exact ⟨_, _, _, _, _, _, _, _, _, _, rfl, Lib.hid nofun, Lib.hid nofun, Lib.hid nofun, Lib.hid nofun, Lib.hid nofun, Lib.hid nofun, Lib.hid nofun, Lib.hid nofun, Lib.hid nofun, Lib.hid nofun, Lib.hid (X4.out.drew), Lib.hid (R4.out.drew), Lib.hid (⟨H4.out.l, H4.out.k, H4.out.b1, H4.out.b2⟩), Lib.hid (BI4.out), Lib.hid (B4.out.drew)⟩
    case hd =>
      rintro L a v hL ⟨x11, x12, x35, x36, x37, x38, x39, x40, x41, x42, rfl, hf0, hf1, hf2, hf3, hf4, hf5, hf6, hf7, hf8, hf9, rx, r0, hh, bi, hbe⟩
      obtain rfl := hf0.out (hL 0 (by decide))
      obtain rfl := hf1.out (hL 1 (by decide))
      obtain rfl := hf2.out (hL 2 (by decide))
      obtain rfl := hf3.out (hL 3 (by decide))
      obtain rfl := hf4.out (hL 4 (by decide))
      obtain rfl := hf5.out (hL 5 (by decide))
      obtain rfl := hf6.out (hL 6 (by decide))
      obtain rfl := hf7.out (hL 7 (by decide))
      obtain rfl := hf8.out (hL 8 (by decide))
      obtain rfl := hf9.out (hL 9 (by decide))
      clear hf0
      clear hf1
      clear hf2
      clear hf3
      clear hf4
      clear hf5
      clear hf6
      clear hf7
      clear hf8
      clear hf9
      clear hL
      have hsv := rx.out.lt
      have x0 := rx.out.cell 0 (v := .slice p1 long.length c1) rfl
      have x1 := rx.out.cell 1 (v := .int .i64 sz) rfl
      have x2 := rx.out.cell 2 (v := .slice none 0 0) rfl
      go_wp2_with fail
      refine (Ask_clean p1 c1 none 0 long sz _ hh.out hbc).mono ?_
      rintro e w6 ⟨rfl, hb6⟩
      have hs6 := hb6.size
      have R6 := Lib.hid (r0.out.below hb6 (by omega))
      have B6 := Lib.hid (hbe.out.trans (hb6.mono hbe.out.size))
      have BI6 := Lib.hid (bi.out.below hb6)
      clear hb6 x0 x1 x2 rx r0 hh bi hbe
      have k1 := R6.out.cell 1 (v := .int .i64 sz) rfl
      have hs1 := hok.s1
      have hsz6 := hok.s6
      have HQ := Lib.hid (clean_quo hok)
      go_wp2_with fail
      all_goals first | exact absurd HQ.out (by assumption) | skip
      clear k1
      go_loopw [15] (fun i wr => ∃ j : Nat, j ≤ (bestD long sz []).length ∧ i = .int .i64 j ∧ Row wr w0.heap.size #[.slice p1 long.length c1, .int .i64 sz, .slice p2 ks.length c2] 25 ∧ IntsAt wr pb (bestD long sz []) ∧ Below w0.heap.size w0 wr) (fun i _ => (bestD long sz []).length - (intOf i).toNat)
      case atStart => exact ⟨0, by omega, rfl, R6.out, BI6.out, B6.out⟩
      case round =>
        obtain ⟨j, hj, rfl, g0, gi, gb⟩ := hrel
        have G0 := Lib.hid g0
        have GI := Lib.hid gi
        have GB := Lib.hid gb
        have k1 := g0.cell 1 (v := .int .i64 sz) rfl
        clear g0 gi gb
        by_cases hjl : j < (bestD long sz []).length
        · obtain ⟨b, o, rfl, hc⟩ := GI.out j hjl
          have hat : at0 (bestD long sz []) j = (j : Int) * sz := by
            rw [HBA.out j hjl, Int.natCast_mul]
            congr 1
            omega
          rw [hat] at hc
          have hm0 : (0 : Int) ≤ (j : Int) * sz := Int.mul_nonneg (by omega) (by omega)
          have hm1 : (j : Int) * sz ≤ 72 * 6 := Int.mul_le_mul (by omega) hsz6 (by omega) (by omega)
          clear hat
          go_wp2
          go_quiet (fail)
          go_wp2
          go_roundw
          case rel => exact ⟨j + 1, by omega, by go_num, G0.out, GI.out, below_drewN GB.out _⟩
          case measure => simp [intOf]; omega
        · go_wp2_with (first | (refine (peeled_any _).mono ?_; rintro e w7 ⟨rfl, hb7⟩))
          go_ret
          exact ⟨rfl, GB.out.trans (hb7.mono GB.out.size)⟩
    case steps =>
      refine ⟨?_, ?_, ?_, ?_, ?_, ?_, ?_, ?_, ?_, ?_, trivial⟩
      · rintro L a v hL hk ⟨x11, x12, x35, x36, x37, x38, x39, x40, x41, x42, rfl, hf0, hf1, hf2, hf3, hf4, hf5, hf6, hf7, hf8, hf9, rx, r0, hh, bi, hbe⟩ K hK
        have HK0 := Lib.hid hK
        clear hK
        clear hL
        clear hk
        refine wp_load_row 25 _ rfl _ rfl 25 _ (0, 0) _ rx.out Try.underlying25 rfl (by kernel_rfl) ?_
        exact HK0.out _ _ ⟨_, _, _, _, _, _, _, _, _, _, rfl, Lib.hid (fun _ => rfl), hf1, hf2, hf3, hf4, hf5, hf6, hf7, hf8, hf9, rx, r0, hh, bi, hbe⟩
      · rintro L a v hL hk ⟨x11, x12, x35, x36, x37, x38, x39, x40, x41, x42, rfl, hf0, hf1, hf2, hf3, hf4, hf5, hf6, hf7, hf8, hf9, rx, r0, hh, bi, hbe⟩ K hK
        have HK0 := Lib.hid hK
        clear hK
        clear hL
        clear hk
        go_wp2
        exact HK0.out _ _ ⟨_, _, _, _, _, _, _, _, _, _, rfl, hf0, Lib.hid (fun _ => rfl), hf2, hf3, hf4, hf5, hf6, hf7, hf8, hf9, rx, r0, hh, bi, hbe⟩
      · rintro L a v hL hk ⟨x11, x12, x35, x36, x37, x38, x39, x40, x41, x42, rfl, hf0, hf1, hf2, hf3, hf4, hf5, hf6, hf7, hf8, hf9, rx, r0, hh, bi, hbe⟩ K hK
        have HK0 := Lib.hid hK
        clear hK
        clear hL
        clear hk
        go_wp2
        exact HK0.out _ _ ⟨_, _, _, _, _, _, _, _, _, _, rfl, hf0, hf1, Lib.hid (fun _ => rfl), hf3, hf4, hf5, hf6, hf7, hf8, hf9, rx, r0, hh, bi, hbe⟩
      · rintro L a v hL hk ⟨x11, x12, x35, x36, x37, x38, x39, x40, x41, x42, rfl, hf0, hf1, hf2, hf3, hf4, hf5, hf6, hf7, hf8, hf9, rx, r0, hh, bi, hbe⟩ K hK
        have HK0 := Lib.hid hK
        clear hK
        obtain rfl := hf1.out (after_on hL 1 rfl)
        obtain rfl := hf2.out (after_on hL 2 rfl)
        clear hL
        clear hk
        go_wp2_with fail
        refine (Spin_any _ _ _ ⟨by omega, by omega⟩).mono ?_
        rintro e u ⟨rfl, rfl⟩
        rw [HCS.out]
        exact HK0.out _ _ ⟨_, _, _, _, _, _, _, _, _, _, rfl, hf0, Lib.hid (fun _ => rfl), Lib.hid (fun _ => rfl), Lib.hid (fun _ => rfl), hf4, hf5, hf6, hf7, hf8, hf9, rx, r0, hh, bi, hbe⟩
      · rintro L a v hL hk ⟨x11, x12, x35, x36, x37, x38, x39, x40, x41, x42, rfl, hf0, hf1, hf2, hf3, hf4, hf5, hf6, hf7, hf8, hf9, rx, r0, hh, bi, hbe⟩ K hK
        have HK0 := Lib.hid hK
        clear hK
        obtain rfl := hf0.out (after_on hL 0 rfl)
        obtain rfl := hf3.out (after_on hL 3 rfl)
        clear hL
        clear hk
        go_wp2_with fail
        refine (Knotty_clean p1 c1 none 0 long sz _ hh.out hbc c hcl).mono ?_
        rintro e u ⟨rfl, hb5⟩
        exact HK0.out _ _ ⟨_, _, _, _, _, _, _, _, _, _, rfl, Lib.hid (fun _ => rfl), hf1, hf2, Lib.hid (fun _ => rfl), Lib.hid (fun _ => rfl), hf5, hf6, hf7, hf8, hf9, Lib.hid (rx.out.below hb5 rx.out.lt), Lib.hid (r0.out.below hb5 r0.out.lt), Lib.hid (hh.out.below hb5), Lib.hid (bi.out.below hb5), Lib.hid (hbe.out.trans (hb5.mono hbe.out.size))⟩
      · rintro L a v hL hk ⟨x11, x12, x35, x36, x37, x38, x39, x40, x41, x42, rfl, hf0, hf1, hf2, hf3, hf4, hf5, hf6, hf7, hf8, hf9, rx, r0, hh, bi, hbe⟩ K hK
        have HK0 := Lib.hid hK
        clear hK
        obtain rfl := hf4.out (after_on hL 4 rfl)
        clear hL
        clear hk
        go_wp2
        exact HK0.out _ _ ⟨_, _, _, _, _, _, _, _, _, _, rfl, hf0, hf1, hf2, hf3, Lib.hid (fun _ => rfl), Lib.hid (fun _ => rfl), hf6, hf7, hf8, hf9, rx, r0, hh, bi, hbe⟩
      · rintro L a v hL hk ⟨x11, x12, x35, x36, x37, x38, x39, x40, x41, x42, rfl, hf0, hf1, hf2, hf3, hf4, hf5, hf6, hf7, hf8, hf9, rx, r0, hh, bi, hbe⟩ K hK
        have HK0 := Lib.hid hK
        clear hK
        obtain rfl := hf5.out (after_on hL 5 rfl)
        clear hL
        clear hk
        go_wp2
        exact HK0.out _ _ ⟨_, _, _, _, _, _, _, _, _, _, rfl, hf0, hf1, hf2, hf3, hf4, Lib.hid (fun _ => rfl), Lib.hid (fun _ => rfl), hf7, hf8, hf9, rx, r0, hh, bi, hbe⟩
      · rintro L a v hL hk ⟨x11, x12, x35, x36, x37, x38, x39, x40, x41, x42, rfl, hf0, hf1, hf2, hf3, hf4, hf5, hf6, hf7, hf8, hf9, rx, r0, hh, bi, hbe⟩ K hK
        have HK0 := Lib.hid hK
        clear hK
        obtain rfl := hf5.out (after_on hL 5 rfl)
        clear hL
        clear hk
        go_wp2
        exact HK0.out _ _ ⟨_, _, _, _, _, _, _, _, _, _, rfl, hf0, hf1, hf2, hf3, hf4, Lib.hid (fun _ => rfl), hf6, Lib.hid (fun _ => rfl), hf8, hf9, rx, r0, hh, bi, hbe⟩
      · rintro L a v hL hk ⟨x11, x12, x35, x36, x37, x38, x39, x40, x41, x42, rfl, hf0, hf1, hf2, hf3, hf4, hf5, hf6, hf7, hf8, hf9, rx, r0, hh, bi, hbe⟩ K hK
        have HK0 := Lib.hid hK
        clear hK
        obtain rfl := hf6.out (after_on hL 6 rfl)
        clear hL
        clear hk
        go_wp2
        exact HK0.out _ _ ⟨_, _, _, _, _, _, _, _, _, _, rfl, hf0, hf1, hf2, hf3, hf4, hf5, Lib.hid (fun _ => rfl), hf7, Lib.hid (fun _ => rfl), hf9, rx, r0, hh, bi, hbe⟩
      · rintro L a v hL hk ⟨x11, x12, x35, x36, x37, x38, x39, x40, x41, x42, rfl, hf0, hf1, hf2, hf3, hf4, hf5, hf6, hf7, hf8, hf9, rx, r0, hh, bi, hbe⟩ K hK
        have HK0 := Lib.hid hK
        clear hK
        obtain rfl := hf7.out (after_on hL 7 rfl)
        clear hL
        clear hk
        go_wp2
        exact HK0.out _ _ ⟨_, _, _, _, _, _, _, _, _, _, rfl, hf0, hf1, hf2, hf3, hf4, hf5, hf6, Lib.hid (fun _ => rfl), hf8, Lib.hid (fun _ => rfl), rx, r0, hh, bi, hbe⟩

end Go.Proofs.Ytnnlbbmimdohoaa
