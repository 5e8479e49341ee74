/- Each angle of each turn has one column of this turn: the law returns true, whatever the log and the numbers. -/
import Derived.Test.YtnnlbbmimdohoaaL2
import Derived.Test.YtnnlbbmimdohoaaL3
namespace Go.Proofs.Ytnnlbbmimdohoaa
open Go.RowKit Go.Maps
attribute [local go_sem] Oper.semAt_some

theorem Fits_yes (n lo hi : Int) (w : World) (h1 : lo ≤ n) (h2 : n ≤ hi) : Calls Try.prog 46 #[.int .i64 n, .int .i64 lo, .int .i64 hi] w fun e w' => e = .returned (.bool true) ∧ w = w' := by
  have h := Fits_any n lo hi w
  rw [fits_of h1 h2] at h
  exact h
theorem col_eq {long : List Int} {a : Int} {t : Nat} (ht : t < long.length) (h6 : long.length ≤ 6) : colOf (rb long) long a t = psum long t + a * at0 long t / 24 := by
  have e : at0 (startsTo long long.length) t = psum long t := by rw [at0_lt (by rw [startsTo_length]; omega)]; simp [startsTo, ht]
  show at0 (startsTo long long.length) t + _ = _
  rw [e]
theorem Column_ok (p1 : Option Addr) (c1 : Nat) (p2 : Option Addr) (c2 : Nat) (long : List Int) (sz : Int) (ks : List K4) (w0 : World) (h : LogAt w0 p1 p2 long ks) (hb : validB long sz ks = true) (t : Nat) (a : Int) (ht : t < long.length) (h0 : 0 ≤ a) (h1 : a ≤ 23) :
    Calls Try.prog 19 #[.agg #[.slice p1 long.length c1, .int .i64 sz, .slice p2 ks.length c2], .int .i64 t, .int .i64 a] w0 fun e w' => e = .returned (.tuple #[.int .i64 (psum long t + a * at0 long t / 24), .int .i64 0]) ∧ Below w0.heap.size w0 w' := by
  have h := Column_any p1 c1 p2 c2 long sz ks w0 h t a
  rw [hb, if_pos rfl, if_pos (by simp [showsB]; omega), Int.toNat_natCast, col_eq ht (valid_ok hb).L.n6] at h
  exact h
theorem total_psum {long : List Int} (h : LongOk long) : ∀ t, t ≤ long.length → total (long.take t) = psum long t
  | 0, _ => by simp [total, psum]
  | t + 1, ht => by
    have h1 := psum_range h t (by omega)
    have h2 := h.lo t (by omega)
    have h3 := h.hi t (by omega)
    have h6 := h.n6
    rw [total_take _ _ (by omega), total_psum h t (by omega), psum_succ (by omega), IntWalk.wrap64_in _ (by omega)]
theorem IntsAt.take {w : World} {p : Option Addr} {xs : List Int} (h : IntsAt w p xs) (n : Nat) : IntsAt w p (xs.take n) := by
  intro i hi
  rw [List.length_take] at hi
  obtain ⟨b, o, hp, hc⟩ := h i (by omega)
  exact ⟨b, o, hp, by rw [hc, at0_lt (by omega), at0_lt (by rw [List.length_take]; omega)]; simp⟩

set_option maxRecDepth 10000 in
set_option maxHeartbeats 800000 in
theorem PeelAngles_any (p1 : Option Addr) (c1 : Nat) (p2 : Option Addr) (c2 : Nat) (long : List Int) (sz : Int) (ks : List K4) (w0 : World) (h : LogAt w0 p1 p2 long ks) (hc1 : long.length ≤ c1) (n0 n1 : Int) :
    Calls Try.prog 12 #[.agg #[.slice p1 long.length c1, .int .i64 sz, .slice p2 ks.length c2], .agg #[.int .i64 n0, .int .i64 n1]] w0 fun e w' => e = .returned (.bool true) ∧ Below w0.heap.size w0 w' := by
  go_enter Try.func12, Try.ntmps12
  have hba := (below_alloc w0 (.cells #[.slice p1 long.length c1, .int .i64 sz, .slice p2 ks.length c2] 25)).alloc (Nat.le_of_lt (by simp)) (.cells #[.int .i64 n0, .int .i64 n1] 64)
  have r0 : Row _ w0.heap.size #[.slice p1 long.length c1, .int .i64 sz, .slice p2 ks.length c2] 25 := (Row.new w0 _ _).alloc (.cells #[.int .i64 n0, .int .i64 n1] 64)
  have r1 : Row _ (w0.heap.size + 1) #[.int .i64 n0, .int .i64 n1] 64 := Row.new' (w := w0.alloc (.cells #[.slice p1 long.length c1, .int .i64 sz, .slice p2 ks.length c2] 25)) (by simp) _ _
  have HH := Lib.hid (h.below hba)
  clear h
  cases hb : validB long sz ks
  · go_wp2_with (first | (refine (sound_no p1 c1 p2 c2 long sz ks _ HH.out hb).mono ?_; rintro e w1 ⟨rfl, hb1⟩; have HB := Lib.hid (hba.trans (hb1.mono (by simp <;> omega))); clear hb1) | (refine (peeled_any _).mono ?_; rintro e w2 ⟨rfl, hb2⟩))
    go_ret
    exact ⟨rfl, HB.out.trans (hb2.mono HB.out.size)⟩
  · have hok := valid_ok hb
    have hL0 := hok.L
    go_wp2_with (first | (refine (sound_yes p1 c1 p2 c2 long sz ks _ HH.out hb).mono ?_; rintro e w1 ⟨rfl, hb1⟩; have HB := Lib.hid (hba.trans (hb1.mono (by simp <;> omega))); have R0 := Lib.hid (r0.below hb1 (by simp <;> omega)); have R1 := Lib.hid (r1.below hb1 (by simp)); have HH1 := Lib.hid (HH.out.below hb1); clear hb1))
    obtain ⟨t, ht, htl⟩ : ∃ t : Nat, spin n0 long.length = t ∧ t < long.length := by
      have hr := spin_range n0 long.length (by have := hL0.n1; omega)
      exact ⟨(spin n0 long.length).toNat, by omega, by omega⟩
    obtain ⟨an, ha, hal⟩ : ∃ a : Nat, spin n1 23 = a ∧ a < 23 := by
      have hr := spin_range n1 23 (by omega)
      exact ⟨(spin n1 23).toNat, by omega, by omega⟩
    have HT := Lib.hid ht
    have HAN := Lib.hid ha
    clear ht ha hba r0 r1 HH
    refine region_inv rfl (by kernel_rfl) (fun L a v => ∃ x5 x6 x20 x21 x22 x23 x24 x25 x26 x27 x28 : Value, a = { tmps := #[.agg #[.slice p1 long.length c1, .int .i64 sz, .slice p2 ks.length c2], .agg #[.int .i64 n0, .int .i64 n1], .pointer (some ⟨w0.heap.size, 0, none⟩), .pointer (some ⟨w0.heap.size + 1, 0, none⟩), .bool false, x5, x6, undef, undef, undef, undef, undef, undef, undef, undef, undef, .agg #[.slice p1 long.length c1, .int .i64 sz, .slice p2 ks.length c2], .bool true, .bool false, undef, x20, x21, x22, x23, x24, x25, x26, x27, x28, undef, undef, undef, undef, undef, undef, undef, undef, undef, undef, undef, undef, undef, undef, undef, undef, undef, undef, undef, undef, undef, undef, undef, undef, undef, undef, undef, undef, undef, undef, undef, undef, undef, undef, undef, undef, undef, undef, undef, undef, undef, undef, undef, undef, undef, undef, undef, undef, undef, undef, undef, undef, undef, undef, undef, undef, undef, undef, undef, undef, undef, undef, undef, undef, undef, undef, undef, undef, undef, undef, undef, undef, undef, undef, undef, undef, undef, undef, undef, undef, undef], defers := [] } ∧ Hid (L 0 = true → x20 = .pointer (some ⟨w0.heap.size + 1, 0, none⟩)) ∧ Hid (L 1 = true → x21 = .int .i64 n0) ∧ Hid (L 2 = true → x22 = .pointer (some ⟨w0.heap.size, 0, none⟩)) ∧ Hid (L 3 = true → x23 = .slice p1 long.length c1) ∧ Hid (L 4 = true → x24 = .int .i64 long.length) ∧ Hid (L 5 = true → x25 = .int .i64 t) ∧ Hid (L 6 = true → x26 = .pointer (some ⟨w0.heap.size + 1, 1, none⟩)) ∧ Hid (L 7 = true → x27 = .int .i64 n1) ∧ Hid (L 8 = true → x28 = .int .i64 an) ∧ Hid (L 9 = true → x5 = .int .i64 t) ∧ Hid (L 10 = true → x6 = .int .i64 an) ∧ Hid (Row v w0.heap.size #[.slice p1 long.length c1, .int .i64 sz, .slice p2 ks.length c2] 25) ∧ Hid (Row v (w0.heap.size + 1) #[.int .i64 n0, .int .i64 n1] 64) ∧ Hid (LogAt v p1 p2 long ks) ∧ Hid (Below w0.heap.size w0 v)) ?h0 ?steps ?hd
    case h0 => exact ⟨_, _, _, _, _, _, _, _, _, _, _, rfl, Lib.hid nofun, Lib.hid nofun, Lib.hid nofun, Lib.hid nofun, Lib.hid nofun, Lib.hid nofun, Lib.hid nofun, Lib.hid nofun, Lib.hid nofun, Lib.hid nofun, Lib.hid nofun, Lib.hid (R0.out.drew), Lib.hid (R1.out.drew), Lib.hid (⟨HH1.out.l, HH1.out.k, HH1.out.b1, HH1.out.b2⟩), Lib.hid (HB.out.drew)⟩
    case hd =>
      rintro L a v hL ⟨x5, x6, x20, x21, x22, x23, x24, x25, x26, x27, x28, rfl, hf0, hf1, hf2, hf3, hf4, hf5, hf6, hf7, hf8, hf9, hf10, r0, r1, hh, hbe⟩
      obtain rfl := hf0.out (hL 0 (by decide))
      obtain rfl := hf1.out (hL 1 (by decide))
      obtain rfl := hf2.out (hL 2 (by decide))
      obtain rfl := hf3.out (hL 3 (by decide))
      obtain rfl := hf4.out (hL 4 (by decide))
      obtain rfl := hf5.out (hL 5 (by decide))
      obtain rfl := hf6.out (hL 6 (by decide))
      obtain rfl := hf7.out (hL 7 (by decide))
      obtain rfl := hf8.out (hL 8 (by decide))
      obtain rfl := hf9.out (hL 9 (by decide))
      obtain rfl := hf10.out (hL 10 (by decide))
      clear hf0
      clear hf1
      clear hf2
      clear hf3
      clear hf4
      clear hf5
      clear hf6
      clear hf7
      clear hf8
      clear hf9
      clear hf10
      clear hL
      obtain ⟨b, o, rfl, hcell⟩ := hh.out.l t htl
      have hlo := hL0.lo t htl
      have hhi := hL0.hi t htl
      have hps := psum_range hL0 t (by omega)
      have hn6 := hL0.n6
      have htot := Total_any (some ⟨b, o, none⟩) c1 (long.take t) v (by rw [List.length_take]; unfold maxLen; omega) (hh.out.l.take t)
      rw [List.length_take, Nat.min_eq_left (by omega), total_psum hL0 t (by omega)] at htot
      have HTOT := Lib.hid htot
      have x0 : (0 : Int) ≤ an * at0 long t := Int.mul_nonneg (by omega) (by omega)
      have x1 : (an : Int) * at0 long t ≤ 22 * at0 long t := Int.mul_le_mul_of_nonneg_right (by omega) (by omega)
      have E2 := Lib.hid (show psum long t + ((an : Int) + 1) * at0 long t / 24 = psum long t + (an * at0 long t + at0 long t) / 24 by rw [Int.add_mul, Int.one_mul])
      have E3 := Lib.hid (show psum long t + 0 * at0 long t / 24 = psum long t by simp)
      have E4 := Lib.hid (show psum long t + 23 * at0 long t / 24 = psum long t + at0 long t - 1 by omega)
      have HB1 := Lib.hid hbe.out
      have hv := hbe.out.size
      have c0 := r0.out.cell 0 (v := .slice (some ⟨b, o, none⟩) long.length c1) rfl
      have c1' := r0.out.cell 1 (v := .int .i64 sz) rfl
      have c2' := r0.out.cell 2 (v := .slice p2 ks.length c2) rfl
      clear htot hbe r1 hcell
      go_wp2_with (first | (refine HTOT.out.mono ?_; rintro e u ⟨rfl, rfl⟩))
      refine (Column_ok (some ⟨b, o, none⟩) c1 p2 c2 long sz ks _ hh.out hb t _ htl (by omega) (by omega)).mono ?_
      rintro e w3 ⟨rfl, hb3⟩
      have hs3 := hb3.size
      have H3 := Lib.hid (hh.out.below hb3)
      have G3 := Lib.hid (r0.out.below hb3 r0.out.lt)
      have B3 := Lib.hid (HB1.out.trans (hb3.mono (by omega)))
      clear hb3 c0 c1' c2'
      have c0 := G3.out.cell 0 (v := .slice (some ⟨b, o, none⟩) long.length c1) rfl
      have c1' := G3.out.cell 1 (v := .int .i64 sz) rfl
      have c2' := G3.out.cell 2 (v := .slice p2 ks.length c2) rfl
      go_wp2_with fail
      refine (Column_ok (some ⟨b, o, none⟩) c1 p2 c2 long sz ks _ H3.out hb t _ htl (by omega) (by omega)).mono ?_
      rw [E2.out]
      rintro e w4 ⟨rfl, hb4⟩
      have hs4 := hb4.size
      have H4 := Lib.hid (H3.out.below hb4)
      have G4 := Lib.hid (G3.out.below hb4 G3.out.lt)
      have B4 := Lib.hid (B3.out.trans (hb4.mono (by omega)))
      clear hb4 c0 c1' c2'
      have c0 := G4.out.cell 0 (v := .slice (some ⟨b, o, none⟩) long.length c1) rfl
      have c1' := G4.out.cell 1 (v := .int .i64 sz) rfl
      have c2' := G4.out.cell 2 (v := .slice p2 ks.length c2) rfl
      go_wp2_with fail
      refine (Column_ok (some ⟨b, o, none⟩) c1 p2 c2 long sz ks _ H4.out hb t _ htl (by omega) (by omega)).mono ?_
      rw [E3.out]
      rintro e w5 ⟨rfl, hb5⟩
      have hs5 := hb5.size
      have H5 := Lib.hid (H4.out.below hb5)
      have G5 := Lib.hid (G4.out.below hb5 G4.out.lt)
      have B5 := Lib.hid (B4.out.trans (hb5.mono (by omega)))
      clear hb5 c0 c1' c2'
      have c0 := G5.out.cell 0 (v := .slice (some ⟨b, o, none⟩) long.length c1) rfl
      have c1' := G5.out.cell 1 (v := .int .i64 sz) rfl
      have c2' := G5.out.cell 2 (v := .slice p2 ks.length c2) rfl
      go_wp2_with fail
      refine (Column_ok (some ⟨b, o, none⟩) c1 p2 c2 long sz ks _ H5.out hb t _ htl (by omega) (by omega)).mono ?_
      rw [E4.out]
      rintro e w6 ⟨rfl, hb6⟩
      have hs6 := hb6.size
      have H6 := Lib.hid (H5.out.below hb6)
      have G6 := Lib.hid (G5.out.below hb6 G5.out.lt)
      have B6 := Lib.hid (B5.out.trans (hb6.mono (by omega)))
      clear hb6 c0 c1' c2'
      have c0 := G6.out.cell 0 (v := .slice (some ⟨b, o, none⟩) long.length c1) rfl
      have c1' := G6.out.cell 1 (v := .int .i64 sz) rfl
      have c2' := G6.out.cell 2 (v := .slice p2 ks.length c2) rfl
      obtain ⟨b', o', e', hcell⟩ := H6.out.l t htl
      cases e'
      generalize psum long t = F at *
      generalize at0 long t = Lt at *
      generalize (an : Int) * Lt = X at *
      clear HTOT E2 E3 E4
      go_wp2_with (first | (refine (Fits_yes _ _ _ _ (by omega) (by omega)).mono ?_; rintro e u ⟨rfl, rfl⟩) | (refine (peeled_any _).mono ?_; rintro e w7 ⟨rfl, hb7⟩))
      all_goals go_ret
      all_goals exact ⟨rfl, B6.out.trans (hb7.mono B6.out.size)⟩
    case steps =>
      refine ⟨?_, ?_, ?_, ?_, ?_, ?_, ?_, ?_, ?_, ?_, ?_, trivial⟩
      · rintro L a v hL hk ⟨x5, x6, x20, x21, x22, x23, x24, x25, x26, x27, x28, rfl, hf0, hf1, hf2, hf3, hf4, hf5, hf6, hf7, hf8, hf9, hf10, r0, r1, hh, hbe⟩ K hK
        have HK0 := Lib.hid hK
        clear hK
        clear hL
        clear hk
        go_wp2
        exact HK0.out _ _ ⟨_, _, _, _, _, _, _, _, _, _, _, rfl, Lib.hid (fun _ => rfl), hf1, hf2, hf3, hf4, hf5, hf6, hf7, hf8, hf9, hf10, r0, r1, hh, hbe⟩
      · rintro L a v hL hk ⟨x5, x6, x20, x21, x22, x23, x24, x25, x26, x27, x28, rfl, hf0, hf1, hf2, hf3, hf4, hf5, hf6, hf7, hf8, hf9, hf10, r0, r1, hh, hbe⟩ K hK
        have HK0 := Lib.hid hK
        clear hK
        obtain rfl := hf0.out (after_on hL 0 rfl)
        clear hL
        clear hk
        have c0 := r1.out.cell 0 (v := .int .i64 n0) rfl
        go_wp2
        exact HK0.out _ _ ⟨_, _, _, _, _, _, _, _, _, _, _, rfl, Lib.hid (fun _ => rfl), Lib.hid (fun _ => rfl), hf2, hf3, hf4, hf5, hf6, hf7, hf8, hf9, hf10, r0, r1, hh, hbe⟩
      · rintro L a v hL hk ⟨x5, x6, x20, x21, x22, x23, x24, x25, x26, x27, x28, rfl, hf0, hf1, hf2, hf3, hf4, hf5, hf6, hf7, hf8, hf9, hf10, r0, r1, hh, hbe⟩ K hK
        have HK0 := Lib.hid hK
        clear hK
        clear hL
        clear hk
        go_wp2
        exact HK0.out _ _ ⟨_, _, _, _, _, _, _, _, _, _, _, rfl, hf0, hf1, Lib.hid (fun _ => rfl), hf3, hf4, hf5, hf6, hf7, hf8, hf9, hf10, r0, r1, hh, hbe⟩
      · rintro L a v hL hk ⟨x5, x6, x20, x21, x22, x23, x24, x25, x26, x27, x28, rfl, hf0, hf1, hf2, hf3, hf4, hf5, hf6, hf7, hf8, hf9, hf10, r0, r1, hh, hbe⟩ K hK
        have HK0 := Lib.hid hK
        clear hK
        obtain rfl := hf2.out (after_on hL 2 rfl)
        clear hL
        clear hk
        have c0 := r0.out.cell 0 (v := .slice p1 long.length c1) rfl
        go_wp2
        exact HK0.out _ _ ⟨_, _, _, _, _, _, _, _, _, _, _, rfl, hf0, hf1, Lib.hid (fun _ => rfl), Lib.hid (fun _ => rfl), hf4, hf5, hf6, hf7, hf8, hf9, hf10, r0, r1, hh, hbe⟩
      · rintro L a v hL hk ⟨x5, x6, x20, x21, x22, x23, x24, x25, x26, x27, x28, rfl, hf0, hf1, hf2, hf3, hf4, hf5, hf6, hf7, hf8, hf9, hf10, r0, r1, hh, hbe⟩ K hK
        have HK0 := Lib.hid hK
        clear hK
        obtain rfl := hf3.out (after_on hL 3 rfl)
        clear hL
        clear hk
        go_wp2
        exact HK0.out _ _ ⟨_, _, _, _, _, _, _, _, _, _, _, rfl, hf0, hf1, hf2, Lib.hid (fun _ => rfl), Lib.hid (fun _ => rfl), hf5, hf6, hf7, hf8, hf9, hf10, r0, r1, hh, hbe⟩
      · rintro L a v hL hk ⟨x5, x6, x20, x21, x22, x23, x24, x25, x26, x27, x28, rfl, hf0, hf1, hf2, hf3, hf4, hf5, hf6, hf7, hf8, hf9, hf10, r0, r1, hh, hbe⟩ K hK
        have HK0 := Lib.hid hK
        clear hK
        obtain rfl := hf1.out (after_on hL 1 rfl)
        obtain rfl := hf4.out (after_on hL 4 rfl)
        clear hL
        clear hk
        go_wp2_with fail
        refine (Spin_any _ _ _ ⟨by omega, by have := hL0.n6; omega⟩).mono ?_
        rintro e u ⟨rfl, rfl⟩
        rw [HT.out]
        exact HK0.out _ _ ⟨_, _, _, _, _, _, _, _, _, _, _, rfl, hf0, Lib.hid (fun _ => rfl), hf2, hf3, Lib.hid (fun _ => rfl), Lib.hid (fun _ => rfl), hf6, hf7, hf8, hf9, hf10, r0, r1, hh, hbe⟩
      · rintro L a v hL hk ⟨x5, x6, x20, x21, x22, x23, x24, x25, x26, x27, x28, rfl, hf0, hf1, hf2, hf3, hf4, hf5, hf6, hf7, hf8, hf9, hf10, r0, r1, hh, hbe⟩ K hK
        have HK0 := Lib.hid hK
        clear hK
        clear hL
        clear hk
        go_wp2
        exact HK0.out _ _ ⟨_, _, _, _, _, _, _, _, _, _, _, rfl, hf0, hf1, hf2, hf3, hf4, hf5, Lib.hid (fun _ => rfl), hf7, hf8, hf9, hf10, r0, r1, hh, hbe⟩
      · rintro L a v hL hk ⟨x5, x6, x20, x21, x22, x23, x24, x25, x26, x27, x28, rfl, hf0, hf1, hf2, hf3, hf4, hf5, hf6, hf7, hf8, hf9, hf10, r0, r1, hh, hbe⟩ K hK
        have HK0 := Lib.hid hK
        clear hK
        obtain rfl := hf6.out (after_on hL 6 rfl)
        clear hL
        clear hk
        have c0 := r1.out.cell 1 (v := .int .i64 n1) rfl
        go_wp2
        exact HK0.out _ _ ⟨_, _, _, _, _, _, _, _, _, _, _, rfl, hf0, hf1, hf2, hf3, hf4, hf5, Lib.hid (fun _ => rfl), Lib.hid (fun _ => rfl), hf8, hf9, hf10, r0, r1, hh, hbe⟩
      · rintro L a v hL hk ⟨x5, x6, x20, x21, x22, x23, x24, x25, x26, x27, x28, rfl, hf0, hf1, hf2, hf3, hf4, hf5, hf6, hf7, hf8, hf9, hf10, r0, r1, hh, hbe⟩ K hK
        have HK0 := Lib.hid hK
        clear hK
        obtain rfl := hf7.out (after_on hL 7 rfl)
        clear hL
        clear hk
        go_wp2_with fail
        refine (Spin_any _ _ _ ⟨by omega, by omega⟩).mono ?_
        rintro e u ⟨rfl, rfl⟩
        rw [HAN.out]
        exact HK0.out _ _ ⟨_, _, _, _, _, _, _, _, _, _, _, rfl, hf0, hf1, hf2, hf3, hf4, hf5, hf6, Lib.hid (fun _ => rfl), Lib.hid (fun _ => rfl), hf9, hf10, r0, r1, hh, hbe⟩
      · rintro L a v hL hk ⟨x5, x6, x20, x21, x22, x23, x24, x25, x26, x27, x28, rfl, hf0, hf1, hf2, hf3, hf4, hf5, hf6, hf7, hf8, hf9, hf10, r0, r1, hh, hbe⟩ K hK
        have HK0 := Lib.hid hK
        clear hK
        obtain rfl := hf5.out (after_on hL 5 rfl)
        clear hL
        clear hk
        go_wp2
        exact HK0.out _ _ ⟨_, _, _, _, _, _, _, _, _, _, _, rfl, hf0, hf1, hf2, hf3, hf4, Lib.hid (fun _ => rfl), hf6, hf7, hf8, Lib.hid (fun _ => rfl), hf10, r0, r1, hh, hbe⟩
      · rintro L a v hL hk ⟨x5, x6, x20, x21, x22, x23, x24, x25, x26, x27, x28, rfl, hf0, hf1, hf2, hf3, hf4, hf5, hf6, hf7, hf8, hf9, hf10, r0, r1, hh, hbe⟩ K hK
        have HK0 := Lib.hid hK
        clear hK
        obtain rfl := hf8.out (after_on hL 8 rfl)
        clear hL
        clear hk
        go_wp2
        exact HK0.out _ _ ⟨_, _, _, _, _, _, _, _, _, _, _, rfl, hf0, hf1, hf2, hf3, hf4, hf5, hf6, hf7, Lib.hid (fun _ => rfl), hf9, Lib.hid (fun _ => rfl), r0, r1, hh, hbe⟩

end Go.Proofs.Ytnnlbbmimdohoaa
