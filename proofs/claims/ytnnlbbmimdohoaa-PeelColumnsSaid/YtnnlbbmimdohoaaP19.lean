/- The walks of layer 1: how many columns are left. -/
import Derived.Test.YtnnlbbmimdohoaaP14
namespace Go.Proofs.Ytnnlbbmimdohoaa
open Go.RowKit Go.Maps
attribute [local go_sem] Oper.semAt_some

set_option maxRecDepth 10000 in
set_option maxHeartbeats 800000 in
theorem Waste_bad (p1 : Option Addr) (c1 : Nat) (p2 : Option Addr) (c2 : Nat) (long : List Int) (sz : Int) (ks : List K4) (w0 : World) (h : LogAt w0 p1 p2 long ks) (hb : validB long sz ks = false) :
    Calls Try.prog 33 #[.agg #[.slice p1 long.length c1, .int .i64 sz, .slice p2 ks.length c2]] w0 fun e w' => e = .returned (.tuple #[.int .i64 0, .int .i64 10]) ∧ Below w0.heap.size w0 w' := by
  go_enter Try.func33, Try.ntmps33
  have hba := below_alloc w0 (.cells #[.slice p1 long.length c1, .int .i64 sz, .slice p2 ks.length c2] 25)
  have r0 := Row.new w0 #[.slice p1 long.length c1, .int .i64 sz, .slice p2 ks.length c2] 25
  have HC := Lib.hid (check_any p1 c1 p2 c2 long sz ks _ (h.l.below hba) (h.k.below hba) h.b1 h.b2)
  have HH := Lib.hid h
  clear h
  go_wp2_with (first | (refine HC.out.mono ?_; rw [checkE, hb]; rintro e w2 ⟨rfl, hb3⟩))
  go_ret2
  exact ⟨rfl, hba.trans (hb3.mono (by simp))⟩

set_option maxRecDepth 10000 in
set_option maxHeartbeats 800000 in
theorem Waste_good (p1 : Option Addr) (c1 : Nat) (p2 : Option Addr) (c2 : Nat) (long : List Int) (sz : Int) (ks : List K4) (w0 : World) (h : LogAt w0 p1 p2 long ks) (hb : validB long sz ks = true) :
    Calls Try.prog 33 #[.agg #[.slice p1 long.length c1, .int .i64 sz, .slice p2 ks.length c2]] w0 fun e w' => e = .returned (.tuple #[.int .i64 (psum long long.length - sz * ((cutD long sz (reachD long ks)).length : Int)), .int .i64 0]) ∧ Below w0.heap.size w0 w' := by
  have hok := valid_ok hb
  obtain ⟨hw1, hw2, hw3⟩ := wideN_eq hok.L
  have hln := cutD_short hok (reachD long ks)
  have hm1 : 0 ≤ sz * ((cutD long sz (reachD long ks)).length : Int) := Int.mul_nonneg (by have := hok.s1; omega) (by omega)
  have hm2 : sz * ((cutD long sz (reachD long ks)).length : Int) ≤ 6 * 72 := Int.mul_le_mul hok.s6 (by omega) (by omega) (by omega)
  go_enter Try.func33, Try.ntmps33
  have hba := below_alloc w0 (.cells #[.slice p1 long.length c1, .int .i64 sz, .slice p2 ks.length c2] 25)
  have r0 := Row.new w0 #[.slice p1 long.length c1, .int .i64 sz, .slice p2 ks.length c2] 25
  have HC := Lib.hid (check_any p1 c1 p2 c2 long sz ks _ (h.l.below hba) (h.k.below hba) h.b1 h.b2)
  have HH := Lib.hid h
  clear h
  go_wp2_with (first | (refine HC.out.mono ?_; rw [checkE, hb]; rintro e w2 ⟨rfl, hb3⟩; have HB2 := Lib.hid (hba.trans (hb3.mono (by simp))); have r2 := Lib.hid (r0.below hb3 (by simp)); clear hb3; have k0 := r2.out.cell 0 (v := .slice p1 long.length c1) rfl; have k1 := r2.out.cell 1 (v := .int .i64 sz) rfl; have k2 := r2.out.cell 2 (v := .slice p2 ks.length c2) rfl; have hz := r2.out.lt) | (refine (unroll_of p1 c1 p2 c2 long sz ks _ (HH.out.below HB2.out) hok).mono ?_; rintro e w3 ⟨R, mb, nn, f, rfl, hR, hA, hb4⟩; have HB4 := Lib.hid (HB2.out.trans (hb4.mono (by omega))); have hz3 := hb4.size; have HA3 := Lib.hid hA; clear hb4 hA k0 k1 k2) | (refine store_new rfl 76 _ _ rfl R.A zero76 76 rfl rfl (size76 hR.ok.s6) (by rw [R.size hR.ok.s6]; rfl) R.one ?_))
  have R0 := Lib.hid (Row.new w3 R.A 76)
  have HA := Lib.hid (HA3.out.below (below_alloc w3 (.cells R.A 76)))
  have HB := Lib.hid (HB4.out.trans ((below_alloc w3 (.cells R.A 76)).mono (by omega)))
  have HLE := Lib.hid (show w0.heap.size ≤ w3.heap.size by omega)
  clear hba r0 HC HA3 HB4 HB2 r2
  refine region_inv rfl (by kernel_rfl) (fun L a w => ∃ x2 x3 x13 x14 x15 x16 x17 x18 x19 x20 x21 x22 x23 x24 x25 x26 : Value, a = { tmps := #[.agg #[.slice p1 long.length c1, .int .i64 sz, .slice p2 ks.length c2], .pointer (some ⟨w0.heap.size, 0, none⟩), x2, x3, .int .i64 0, .pointer (some ⟨w3.heap.size, 0, none⟩), .agg #[.slice p1 long.length c1, .int .i64 sz, .slice p2 ks.length c2], .int .i64 0, .int .i64 0, .bool false, undef, .agg #[.slice p1 long.length c1, .int .i64 sz, .slice p2 ks.length c2], .agg R.A, x13, x14, x15, x16, x17, x18, x19, x20, x21, x22, x23, x24, x25, x26], defers := [] } ∧ Hid (L 0 = true → x13 = .pointer (some ⟨w3.heap.size, 3, none⟩)) ∧ Hid (L 1 = true → x14 = .int .i64 (psum long long.length)) ∧ Hid (L 2 = true → x15 = .pointer (some ⟨w3.heap.size, 0, none⟩)) ∧ Hid (L 3 = true → x16 = .pointer (some ⟨w3.heap.size, 1, none⟩)) ∧ Hid (L 4 = true → x17 = .int .i64 sz) ∧ Hid (L 5 = true → x18 = .agg R.A) ∧ Hid (L 6 = true → x19 = .agg R.A) ∧ Hid (L 7 = true → x20 = .pointer (some ⟨w3.heap.size, 0, none⟩)) ∧ Hid (L 8 = true → x21 = .pointer (some ⟨w3.heap.size, 2, none⟩)) ∧ Hid (L 9 = true → x22 = .slice p2 ks.length c2) ∧ Hid (L 10 = true → x23 = cols (reachD long ks)) ∧ Hid (L 11 = true → x24 = .int .i64 ((cutD long sz (reachD long ks)).length : Int)) ∧ Hid (L 12 = true → x25 = .int .i64 (sz * ((cutD long sz (reachD long ks)).length : Int))) ∧ Hid (L 13 = true → x26 = .int .i64 (psum long long.length - sz * ((cutD long sz (reachD long ks)).length : Int))) ∧ Hid (L 14 = true → x2 = .int .i64 (psum long long.length - sz * ((cutD long sz (reachD long ks)).length : Int))) ∧ Hid (L 15 = true → x3 = .int .i64 0) ∧ Hid (Row w w3.heap.size R.A 76) ∧ Hid (RibAt w R long ks mb nn f) ∧ Hid (Below w0.heap.size w0 w)) ?h0 ?steps ?hd
  case h0 => exact ⟨_, _, _, _, _, _, _, _, _, _, _, _, _, _, _, _, rfl, Lib.hid nofun, Lib.hid nofun, Lib.hid nofun, Lib.hid nofun, Lib.hid nofun, Lib.hid nofun, Lib.hid nofun, Lib.hid nofun, Lib.hid nofun, Lib.hid nofun, Lib.hid nofun, Lib.hid nofun, Lib.hid nofun, Lib.hid nofun, Lib.hid nofun, Lib.hid nofun, Lib.hid (R0.out.drew), Lib.hid (HA.out.drew), Lib.hid (HB.out.drew)⟩
  case hd =>
    rintro L a w hL ⟨x2, x3, x13, x14, x15, x16, x17, x18, x19, x20, x21, x22, x23, x24, x25, x26, rfl, hf0, hf1, hf2, hf3, hf4, hf5, hf6, hf7, hf8, hf9, hf10, hf11, hf12, hf13, hf14, hf15, hr0, ha, hb⟩
    obtain rfl := hf0.out (hL 0 (by decide))
    obtain rfl := hf1.out (hL 1 (by decide))
    obtain rfl := hf2.out (hL 2 (by decide))
    obtain rfl := hf3.out (hL 3 (by decide))
    obtain rfl := hf4.out (hL 4 (by decide))
    obtain rfl := hf5.out (hL 5 (by decide))
    obtain rfl := hf6.out (hL 6 (by decide))
    obtain rfl := hf7.out (hL 7 (by decide))
    obtain rfl := hf8.out (hL 8 (by decide))
    obtain rfl := hf9.out (hL 9 (by decide))
    obtain rfl := hf10.out (hL 10 (by decide))
    obtain rfl := hf11.out (hL 11 (by decide))
    obtain rfl := hf12.out (hL 12 (by decide))
    obtain rfl := hf13.out (hL 13 (by decide))
    obtain rfl := hf14.out (hL 14 (by decide))
    obtain rfl := hf15.out (hL 15 (by decide))
    clear hf0
    clear hf1
    clear hf2
    clear hf3
    clear hf4
    clear hf5
    clear hf6
    clear hf7
    clear hf8
    clear hf9
    clear hf10
    clear hf11
    clear hf12
    clear hf13
    clear hf14
    clear hf15
    clear hL
    go_wp2
    go_ret2
    exact ⟨rfl, hb.out⟩
  case steps =>
    refine ⟨?_, ?_, ?_, ?_, ?_, ?_, ?_, ?_, ?_, ?_, ?_, ?_, ?_, ?_, ?_, ?_, trivial⟩
    · rintro L a w hL hk ⟨x2, x3, x13, x14, x15, x16, x17, x18, x19, x20, x21, x22, x23, x24, x25, x26, rfl, hf0, hf1, hf2, hf3, hf4, hf5, hf6, hf7, hf8, hf9, hf10, hf11, hf12, hf13, hf14, hf15, hr0, ha, hb⟩ K hK
      have HK0 := Lib.hid hK
      clear hK
      clear hL
      clear hk
      go_wp2
      exact HK0.out _ _ ⟨_, _, _, _, _, _, _, _, _, _, _, _, _, _, _, _, rfl, Lib.hid (fun _ => rfl), Lib.hid (fun h => hf1.out (by simpa [upd] using h)), Lib.hid (fun h => hf2.out (by simpa [upd] using h)), Lib.hid (fun h => hf3.out (by simpa [upd] using h)), Lib.hid (fun h => hf4.out (by simpa [upd] using h)), Lib.hid (fun h => hf5.out (by simpa [upd] using h)), Lib.hid (fun h => hf6.out (by simpa [upd] using h)), Lib.hid (fun h => hf7.out (by simpa [upd] using h)), Lib.hid (fun h => hf8.out (by simpa [upd] using h)), Lib.hid (fun h => hf9.out (by simpa [upd] using h)), Lib.hid (fun h => hf10.out (by simpa [upd] using h)), Lib.hid (fun h => hf11.out (by simpa [upd] using h)), Lib.hid (fun h => hf12.out (by simpa [upd] using h)), Lib.hid (fun h => hf13.out (by simpa [upd] using h)), Lib.hid (fun h => hf14.out (by simpa [upd] using h)), Lib.hid (fun h => hf15.out (by simpa [upd] using h)), hr0, ha, hb⟩
    · rintro L a w hL hk ⟨x2, x3, x13, x14, x15, x16, x17, x18, x19, x20, x21, x22, x23, x24, x25, x26, rfl, hf0, hf1, hf2, hf3, hf4, hf5, hf6, hf7, hf8, hf9, hf10, hf11, hf12, hf13, hf14, hf15, hr0, ha, hb⟩ K hK
      have HK0 := Lib.hid hK
      clear hK
      obtain rfl := hf0.out (after_on hL 0 rfl)
      clear hL
      clear hk
      have c3 := hr0.out.cell 3 R.a3
      rw [hR.wide] at c3
      go_wp2
      exact HK0.out _ _ ⟨_, _, _, _, _, _, _, _, _, _, _, _, _, _, _, _, rfl, Lib.hid (fun _ => rfl), Lib.hid (fun _ => rfl), Lib.hid (fun h => hf2.out (by simpa [upd] using h)), Lib.hid (fun h => hf3.out (by simpa [upd] using h)), Lib.hid (fun h => hf4.out (by simpa [upd] using h)), Lib.hid (fun h => hf5.out (by simpa [upd] using h)), Lib.hid (fun h => hf6.out (by simpa [upd] using h)), Lib.hid (fun h => hf7.out (by simpa [upd] using h)), Lib.hid (fun h => hf8.out (by simpa [upd] using h)), Lib.hid (fun h => hf9.out (by simpa [upd] using h)), Lib.hid (fun h => hf10.out (by simpa [upd] using h)), Lib.hid (fun h => hf11.out (by simpa [upd] using h)), Lib.hid (fun h => hf12.out (by simpa [upd] using h)), Lib.hid (fun h => hf13.out (by simpa [upd] using h)), Lib.hid (fun h => hf14.out (by simpa [upd] using h)), Lib.hid (fun h => hf15.out (by simpa [upd] using h)), hr0, ha, hb⟩
    · rintro L a w hL hk ⟨x2, x3, x13, x14, x15, x16, x17, x18, x19, x20, x21, x22, x23, x24, x25, x26, rfl, hf0, hf1, hf2, hf3, hf4, hf5, hf6, hf7, hf8, hf9, hf10, hf11, hf12, hf13, hf14, hf15, hr0, ha, hb⟩ K hK
      have HK0 := Lib.hid hK
      clear hK
      clear hL
      clear hk
      go_wp2
      exact HK0.out _ _ ⟨_, _, _, _, _, _, _, _, _, _, _, _, _, _, _, _, rfl, Lib.hid (fun h => hf0.out (by simpa [upd] using h)), Lib.hid (fun h => hf1.out (by simpa [upd] using h)), Lib.hid (fun _ => rfl), Lib.hid (fun h => hf3.out (by simpa [upd] using h)), Lib.hid (fun h => hf4.out (by simpa [upd] using h)), Lib.hid (fun h => hf5.out (by simpa [upd] using h)), Lib.hid (fun h => hf6.out (by simpa [upd] using h)), Lib.hid (fun h => hf7.out (by simpa [upd] using h)), Lib.hid (fun h => hf8.out (by simpa [upd] using h)), Lib.hid (fun h => hf9.out (by simpa [upd] using h)), Lib.hid (fun h => hf10.out (by simpa [upd] using h)), Lib.hid (fun h => hf11.out (by simpa [upd] using h)), Lib.hid (fun h => hf12.out (by simpa [upd] using h)), Lib.hid (fun h => hf13.out (by simpa [upd] using h)), Lib.hid (fun h => hf14.out (by simpa [upd] using h)), Lib.hid (fun h => hf15.out (by simpa [upd] using h)), hr0, ha, hb⟩
    · rintro L a w hL hk ⟨x2, x3, x13, x14, x15, x16, x17, x18, x19, x20, x21, x22, x23, x24, x25, x26, rfl, hf0, hf1, hf2, hf3, hf4, hf5, hf6, hf7, hf8, hf9, hf10, hf11, hf12, hf13, hf14, hf15, hr0, ha, hb⟩ K hK
      have HK0 := Lib.hid hK
      clear hK
      obtain rfl := hf2.out (after_on hL 2 rfl)
      clear hL
      clear hk
      go_wp2
      exact HK0.out _ _ ⟨_, _, _, _, _, _, _, _, _, _, _, _, _, _, _, _, rfl, Lib.hid (fun h => hf0.out (by simpa [upd] using h)), Lib.hid (fun h => hf1.out (by simpa [upd] using h)), Lib.hid (fun _ => rfl), Lib.hid (fun _ => rfl), Lib.hid (fun h => hf4.out (by simpa [upd] using h)), Lib.hid (fun h => hf5.out (by simpa [upd] using h)), Lib.hid (fun h => hf6.out (by simpa [upd] using h)), Lib.hid (fun h => hf7.out (by simpa [upd] using h)), Lib.hid (fun h => hf8.out (by simpa [upd] using h)), Lib.hid (fun h => hf9.out (by simpa [upd] using h)), Lib.hid (fun h => hf10.out (by simpa [upd] using h)), Lib.hid (fun h => hf11.out (by simpa [upd] using h)), Lib.hid (fun h => hf12.out (by simpa [upd] using h)), Lib.hid (fun h => hf13.out (by simpa [upd] using h)), Lib.hid (fun h => hf14.out (by simpa [upd] using h)), Lib.hid (fun h => hf15.out (by simpa [upd] using h)), hr0, ha, hb⟩
    · rintro L a w hL hk ⟨x2, x3, x13, x14, x15, x16, x17, x18, x19, x20, x21, x22, x23, x24, x25, x26, rfl, hf0, hf1, hf2, hf3, hf4, hf5, hf6, hf7, hf8, hf9, hf10, hf11, hf12, hf13, hf14, hf15, hr0, ha, hb⟩ K hK
      have HK0 := Lib.hid hK
      clear hK
      obtain rfl := hf3.out (after_on hL 3 rfl)
      clear hL
      clear hk
      have c1 := hr0.out.cell 1 R.a1
      rw [hR.sz] at c1
      go_wp2
      exact HK0.out _ _ ⟨_, _, _, _, _, _, _, _, _, _, _, _, _, _, _, _, rfl, Lib.hid (fun h => hf0.out (by simpa [upd] using h)), Lib.hid (fun h => hf1.out (by simpa [upd] using h)), Lib.hid (fun h => hf2.out (by simpa [upd] using h)), Lib.hid (fun _ => rfl), Lib.hid (fun _ => rfl), Lib.hid (fun h => hf5.out (by simpa [upd] using h)), Lib.hid (fun h => hf6.out (by simpa [upd] using h)), Lib.hid (fun h => hf7.out (by simpa [upd] using h)), Lib.hid (fun h => hf8.out (by simpa [upd] using h)), Lib.hid (fun h => hf9.out (by simpa [upd] using h)), Lib.hid (fun h => hf10.out (by simpa [upd] using h)), Lib.hid (fun h => hf11.out (by simpa [upd] using h)), Lib.hid (fun h => hf12.out (by simpa [upd] using h)), Lib.hid (fun h => hf13.out (by simpa [upd] using h)), Lib.hid (fun h => hf14.out (by simpa [upd] using h)), Lib.hid (fun h => hf15.out (by simpa [upd] using h)), hr0, ha, hb⟩
    · rintro L a w hL hk ⟨x2, x3, x13, x14, x15, x16, x17, x18, x19, x20, x21, x22, x23, x24, x25, x26, rfl, hf0, hf1, hf2, hf3, hf4, hf5, hf6, hf7, hf8, hf9, hf10, hf11, hf12, hf13, hf14, hf15, hr0, ha, hb⟩ K hK
      have HK0 := Lib.hid hK
      clear hK
      clear hL
      clear hk
      refine wp_load_row 76 _ rfl _ rfl 76 _ (0, 0) _ hr0.out Try.underlying76 rfl (size76 hR.ok.s6) ?_
      exact HK0.out _ _ ⟨_, _, _, _, _, _, _, _, _, _, _, _, _, _, _, _, rfl, Lib.hid (fun h => hf0.out (by simpa [upd] using h)), Lib.hid (fun h => hf1.out (by simpa [upd] using h)), Lib.hid (fun h => hf2.out (by simpa [upd] using h)), Lib.hid (fun h => hf3.out (by simpa [upd] using h)), Lib.hid (fun h => hf4.out (by simpa [upd] using h)), Lib.hid (fun _ => rfl), Lib.hid (fun h => hf6.out (by simpa [upd] using h)), Lib.hid (fun h => hf7.out (by simpa [upd] using h)), Lib.hid (fun h => hf8.out (by simpa [upd] using h)), Lib.hid (fun h => hf9.out (by simpa [upd] using h)), Lib.hid (fun h => hf10.out (by simpa [upd] using h)), Lib.hid (fun h => hf11.out (by simpa [upd] using h)), Lib.hid (fun h => hf12.out (by simpa [upd] using h)), Lib.hid (fun h => hf13.out (by simpa [upd] using h)), Lib.hid (fun h => hf14.out (by simpa [upd] using h)), Lib.hid (fun h => hf15.out (by simpa [upd] using h)), hr0, ha, hb⟩
    · rintro L a w hL hk ⟨x2, x3, x13, x14, x15, x16, x17, x18, x19, x20, x21, x22, x23, x24, x25, x26, rfl, hf0, hf1, hf2, hf3, hf4, hf5, hf6, hf7, hf8, hf9, hf10, hf11, hf12, hf13, hf14, hf15, hr0, ha, hb⟩ K hK
      have HK0 := Lib.hid hK
      clear hK
      clear hL
      clear hk
      refine wp_load_row 76 _ rfl _ rfl 76 _ (0, 0) _ hr0.out Try.underlying76 rfl (size76 hR.ok.s6) ?_
      exact HK0.out _ _ ⟨_, _, _, _, _, _, _, _, _, _, _, _, _, _, _, _, rfl, Lib.hid (fun h => hf0.out (by simpa [upd] using h)), Lib.hid (fun h => hf1.out (by simpa [upd] using h)), Lib.hid (fun h => hf2.out (by simpa [upd] using h)), Lib.hid (fun h => hf3.out (by simpa [upd] using h)), Lib.hid (fun h => hf4.out (by simpa [upd] using h)), Lib.hid (fun h => hf5.out (by simpa [upd] using h)), Lib.hid (fun _ => rfl), Lib.hid (fun h => hf7.out (by simpa [upd] using h)), Lib.hid (fun h => hf8.out (by simpa [upd] using h)), Lib.hid (fun h => hf9.out (by simpa [upd] using h)), Lib.hid (fun h => hf10.out (by simpa [upd] using h)), Lib.hid (fun h => hf11.out (by simpa [upd] using h)), Lib.hid (fun h => hf12.out (by simpa [upd] using h)), Lib.hid (fun h => hf13.out (by simpa [upd] using h)), Lib.hid (fun h => hf14.out (by simpa [upd] using h)), Lib.hid (fun h => hf15.out (by simpa [upd] using h)), hr0, ha, hb⟩
    · rintro L a w hL hk ⟨x2, x3, x13, x14, x15, x16, x17, x18, x19, x20, x21, x22, x23, x24, x25, x26, rfl, hf0, hf1, hf2, hf3, hf4, hf5, hf6, hf7, hf8, hf9, hf10, hf11, hf12, hf13, hf14, hf15, hr0, ha, hb⟩ K hK
      have HK0 := Lib.hid hK
      clear hK
      clear hL
      clear hk
      go_wp2
      exact HK0.out _ _ ⟨_, _, _, _, _, _, _, _, _, _, _, _, _, _, _, _, rfl, Lib.hid (fun h => hf0.out (by simpa [upd] using h)), Lib.hid (fun h => hf1.out (by simpa [upd] using h)), Lib.hid (fun h => hf2.out (by simpa [upd] using h)), Lib.hid (fun h => hf3.out (by simpa [upd] using h)), Lib.hid (fun h => hf4.out (by simpa [upd] using h)), Lib.hid (fun h => hf5.out (by simpa [upd] using h)), Lib.hid (fun h => hf6.out (by simpa [upd] using h)), Lib.hid (fun _ => rfl), Lib.hid (fun h => hf8.out (by simpa [upd] using h)), Lib.hid (fun h => hf9.out (by simpa [upd] using h)), Lib.hid (fun h => hf10.out (by simpa [upd] using h)), Lib.hid (fun h => hf11.out (by simpa [upd] using h)), Lib.hid (fun h => hf12.out (by simpa [upd] using h)), Lib.hid (fun h => hf13.out (by simpa [upd] using h)), Lib.hid (fun h => hf14.out (by simpa [upd] using h)), Lib.hid (fun h => hf15.out (by simpa [upd] using h)), hr0, ha, hb⟩
    · rintro L a w hL hk ⟨x2, x3, x13, x14, x15, x16, x17, x18, x19, x20, x21, x22, x23, x24, x25, x26, rfl, hf0, hf1, hf2, hf3, hf4, hf5, hf6, hf7, hf8, hf9, hf10, hf11, hf12, hf13, hf14, hf15, hr0, ha, hb⟩ K hK
      have HK0 := Lib.hid hK
      clear hK
      obtain rfl := hf7.out (after_on hL 7 rfl)
      clear hL
      clear hk
      go_wp2
      exact HK0.out _ _ ⟨_, _, _, _, _, _, _, _, _, _, _, _, _, _, _, _, rfl, Lib.hid (fun h => hf0.out (by simpa [upd] using h)), Lib.hid (fun h => hf1.out (by simpa [upd] using h)), Lib.hid (fun h => hf2.out (by simpa [upd] using h)), Lib.hid (fun h => hf3.out (by simpa [upd] using h)), Lib.hid (fun h => hf4.out (by simpa [upd] using h)), Lib.hid (fun h => hf5.out (by simpa [upd] using h)), Lib.hid (fun h => hf6.out (by simpa [upd] using h)), Lib.hid (fun _ => rfl), Lib.hid (fun _ => rfl), Lib.hid (fun h => hf9.out (by simpa [upd] using h)), Lib.hid (fun h => hf10.out (by simpa [upd] using h)), Lib.hid (fun h => hf11.out (by simpa [upd] using h)), Lib.hid (fun h => hf12.out (by simpa [upd] using h)), Lib.hid (fun h => hf13.out (by simpa [upd] using h)), Lib.hid (fun h => hf14.out (by simpa [upd] using h)), Lib.hid (fun h => hf15.out (by simpa [upd] using h)), hr0, ha, hb⟩
    · rintro L a w hL hk ⟨x2, x3, x13, x14, x15, x16, x17, x18, x19, x20, x21, x22, x23, x24, x25, x26, rfl, hf0, hf1, hf2, hf3, hf4, hf5, hf6, hf7, hf8, hf9, hf10, hf11, hf12, hf13, hf14, hf15, hr0, ha, hb⟩ K hK
      have HK0 := Lib.hid hK
      clear hK
      obtain rfl := hf8.out (after_on hL 8 rfl)
      clear hL
      clear hk
      have c2 := hr0.out.cell 2 R.a2
      rw [hR.p2, hR.n2, hR.c2] at c2
      go_wp2
      exact HK0.out _ _ ⟨_, _, _, _, _, _, _, _, _, _, _, _, _, _, _, _, rfl, Lib.hid (fun h => hf0.out (by simpa [upd] using h)), Lib.hid (fun h => hf1.out (by simpa [upd] using h)), Lib.hid (fun h => hf2.out (by simpa [upd] using h)), Lib.hid (fun h => hf3.out (by simpa [upd] using h)), Lib.hid (fun h => hf4.out (by simpa [upd] using h)), Lib.hid (fun h => hf5.out (by simpa [upd] using h)), Lib.hid (fun h => hf6.out (by simpa [upd] using h)), Lib.hid (fun h => hf7.out (by simpa [upd] using h)), Lib.hid (fun _ => rfl), Lib.hid (fun _ => rfl), Lib.hid (fun h => hf10.out (by simpa [upd] using h)), Lib.hid (fun h => hf11.out (by simpa [upd] using h)), Lib.hid (fun h => hf12.out (by simpa [upd] using h)), Lib.hid (fun h => hf13.out (by simpa [upd] using h)), Lib.hid (fun h => hf14.out (by simpa [upd] using h)), Lib.hid (fun h => hf15.out (by simpa [upd] using h)), hr0, ha, hb⟩
    · rintro L a w hL hk ⟨x2, x3, x13, x14, x15, x16, x17, x18, x19, x20, x21, x22, x23, x24, x25, x26, rfl, hf0, hf1, hf2, hf3, hf4, hf5, hf6, hf7, hf8, hf9, hf10, hf11, hf12, hf13, hf14, hf15, hr0, ha, hb⟩ K hK
      have HK0 := Lib.hid hK
      clear hK
      obtain rfl := hf6.out (after_on hL 6 rfl)
      obtain rfl := hf9.out (after_on hL 9 rfl)
      clear hL
      clear hk
      have hlt := hr0.out.lt
      go_wp2_with fail
      refine (reach_of hR hok _ ha.out).mono ?_
      rintro e w5 ⟨rfl, hb5⟩
      exact HK0.out _ _ ⟨_, _, _, _, _, _, _, _, _, _, _, _, _, _, _, _, rfl, Lib.hid (fun h => hf0.out (by simpa [upd] using h)), Lib.hid (fun h => hf1.out (by simpa [upd] using h)), Lib.hid (fun h => hf2.out (by simpa [upd] using h)), Lib.hid (fun h => hf3.out (by simpa [upd] using h)), Lib.hid (fun h => hf4.out (by simpa [upd] using h)), Lib.hid (fun h => hf5.out (by simpa [upd] using h)), Lib.hid (fun _ => rfl), Lib.hid (fun h => hf7.out (by simpa [upd] using h)), Lib.hid (fun h => hf8.out (by simpa [upd] using h)), Lib.hid (fun _ => rfl), Lib.hid (fun _ => rfl), Lib.hid (fun h => hf11.out (by simpa [upd] using h)), Lib.hid (fun h => hf12.out (by simpa [upd] using h)), Lib.hid (fun h => hf13.out (by simpa [upd] using h)), Lib.hid (fun h => hf14.out (by simpa [upd] using h)), Lib.hid (fun h => hf15.out (by simpa [upd] using h)), Lib.hid (hr0.out.below hb5 hr0.out.lt), Lib.hid (ha.out.below hb5), Lib.hid (hb.out.trans (hb5.mono (Nat.le_trans HLE.out (Nat.le_of_lt hlt))))⟩
    · rintro L a w hL hk ⟨x2, x3, x13, x14, x15, x16, x17, x18, x19, x20, x21, x22, x23, x24, x25, x26, rfl, hf0, hf1, hf2, hf3, hf4, hf5, hf6, hf7, hf8, hf9, hf10, hf11, hf12, hf13, hf14, hf15, hr0, ha, hb⟩ K hK
      have HK0 := Lib.hid hK
      clear hK
      obtain rfl := hf5.out (after_on hL 5 rfl)
      obtain rfl := hf10.out (after_on hL 10 rfl)
      clear hL
      clear hk
      have hlt := hr0.out.lt
      go_wp2_with fail
      refine (pieces_of hR hok _ (reachD_length _ _) _).mono ?_
      rintro e w5 ⟨rfl, hb5⟩
      exact HK0.out _ _ ⟨_, _, _, _, _, _, _, _, _, _, _, _, _, _, _, _, rfl, Lib.hid (fun h => hf0.out (by simpa [upd] using h)), Lib.hid (fun h => hf1.out (by simpa [upd] using h)), Lib.hid (fun h => hf2.out (by simpa [upd] using h)), Lib.hid (fun h => hf3.out (by simpa [upd] using h)), Lib.hid (fun h => hf4.out (by simpa [upd] using h)), Lib.hid (fun _ => rfl), Lib.hid (fun h => hf6.out (by simpa [upd] using h)), Lib.hid (fun h => hf7.out (by simpa [upd] using h)), Lib.hid (fun h => hf8.out (by simpa [upd] using h)), Lib.hid (fun h => hf9.out (by simpa [upd] using h)), Lib.hid (fun _ => rfl), Lib.hid (fun _ => rfl), Lib.hid (fun h => hf12.out (by simpa [upd] using h)), Lib.hid (fun h => hf13.out (by simpa [upd] using h)), Lib.hid (fun h => hf14.out (by simpa [upd] using h)), Lib.hid (fun h => hf15.out (by simpa [upd] using h)), Lib.hid (hr0.out.below hb5 hr0.out.lt), Lib.hid (ha.out.below hb5), Lib.hid (hb.out.trans (hb5.mono (Nat.le_trans HLE.out (Nat.le_of_lt hlt))))⟩
    · rintro L a w hL hk ⟨x2, x3, x13, x14, x15, x16, x17, x18, x19, x20, x21, x22, x23, x24, x25, x26, rfl, hf0, hf1, hf2, hf3, hf4, hf5, hf6, hf7, hf8, hf9, hf10, hf11, hf12, hf13, hf14, hf15, hr0, ha, hb⟩ K hK
      have HK0 := Lib.hid hK
      clear hK
      obtain rfl := hf4.out (after_on hL 4 rfl)
      obtain rfl := hf11.out (after_on hL 11 rfl)
      clear hL
      clear hk
      go_wp2
      exact HK0.out _ _ ⟨_, _, _, _, _, _, _, _, _, _, _, _, _, _, _, _, rfl, Lib.hid (fun h => hf0.out (by simpa [upd] using h)), Lib.hid (fun h => hf1.out (by simpa [upd] using h)), Lib.hid (fun h => hf2.out (by simpa [upd] using h)), Lib.hid (fun h => hf3.out (by simpa [upd] using h)), Lib.hid (fun _ => rfl), Lib.hid (fun h => hf5.out (by simpa [upd] using h)), Lib.hid (fun h => hf6.out (by simpa [upd] using h)), Lib.hid (fun h => hf7.out (by simpa [upd] using h)), Lib.hid (fun h => hf8.out (by simpa [upd] using h)), Lib.hid (fun h => hf9.out (by simpa [upd] using h)), Lib.hid (fun h => hf10.out (by simpa [upd] using h)), Lib.hid (fun _ => rfl), Lib.hid (fun _ => rfl), Lib.hid (fun h => hf13.out (by simpa [upd] using h)), Lib.hid (fun h => hf14.out (by simpa [upd] using h)), Lib.hid (fun h => hf15.out (by simpa [upd] using h)), hr0, ha, hb⟩
    · rintro L a w hL hk ⟨x2, x3, x13, x14, x15, x16, x17, x18, x19, x20, x21, x22, x23, x24, x25, x26, rfl, hf0, hf1, hf2, hf3, hf4, hf5, hf6, hf7, hf8, hf9, hf10, hf11, hf12, hf13, hf14, hf15, hr0, ha, hb⟩ K hK
      have HK0 := Lib.hid hK
      clear hK
      obtain rfl := hf1.out (after_on hL 1 rfl)
      obtain rfl := hf12.out (after_on hL 12 rfl)
      clear hL
      clear hk
      go_wp2
      exact HK0.out _ _ ⟨_, _, _, _, _, _, _, _, _, _, _, _, _, _, _, _, rfl, Lib.hid (fun h => hf0.out (by simpa [upd] using h)), Lib.hid (fun _ => rfl), Lib.hid (fun h => hf2.out (by simpa [upd] using h)), Lib.hid (fun h => hf3.out (by simpa [upd] using h)), Lib.hid (fun h => hf4.out (by simpa [upd] using h)), Lib.hid (fun h => hf5.out (by simpa [upd] using h)), Lib.hid (fun h => hf6.out (by simpa [upd] using h)), Lib.hid (fun h => hf7.out (by simpa [upd] using h)), Lib.hid (fun h => hf8.out (by simpa [upd] using h)), Lib.hid (fun h => hf9.out (by simpa [upd] using h)), Lib.hid (fun h => hf10.out (by simpa [upd] using h)), Lib.hid (fun h => hf11.out (by simpa [upd] using h)), Lib.hid (fun _ => rfl), Lib.hid (fun _ => rfl), Lib.hid (fun h => hf14.out (by simpa [upd] using h)), Lib.hid (fun h => hf15.out (by simpa [upd] using h)), hr0, ha, hb⟩
    · rintro L a w hL hk ⟨x2, x3, x13, x14, x15, x16, x17, x18, x19, x20, x21, x22, x23, x24, x25, x26, rfl, hf0, hf1, hf2, hf3, hf4, hf5, hf6, hf7, hf8, hf9, hf10, hf11, hf12, hf13, hf14, hf15, hr0, ha, hb⟩ K hK
      have HK0 := Lib.hid hK
      clear hK
      obtain rfl := hf13.out (after_on hL 13 rfl)
      clear hL
      clear hk
      go_wp2
      exact HK0.out _ _ ⟨_, _, _, _, _, _, _, _, _, _, _, _, _, _, _, _, rfl, Lib.hid (fun h => hf0.out (by simpa [upd] using h)), Lib.hid (fun h => hf1.out (by simpa [upd] using h)), Lib.hid (fun h => hf2.out (by simpa [upd] using h)), Lib.hid (fun h => hf3.out (by simpa [upd] using h)), Lib.hid (fun h => hf4.out (by simpa [upd] using h)), Lib.hid (fun h => hf5.out (by simpa [upd] using h)), Lib.hid (fun h => hf6.out (by simpa [upd] using h)), Lib.hid (fun h => hf7.out (by simpa [upd] using h)), Lib.hid (fun h => hf8.out (by simpa [upd] using h)), Lib.hid (fun h => hf9.out (by simpa [upd] using h)), Lib.hid (fun h => hf10.out (by simpa [upd] using h)), Lib.hid (fun h => hf11.out (by simpa [upd] using h)), Lib.hid (fun h => hf12.out (by simpa [upd] using h)), Lib.hid (fun _ => rfl), Lib.hid (fun _ => rfl), Lib.hid (fun h => hf15.out (by simpa [upd] using h)), hr0, ha, hb⟩
    · rintro L a w hL hk ⟨x2, x3, x13, x14, x15, x16, x17, x18, x19, x20, x21, x22, x23, x24, x25, x26, rfl, hf0, hf1, hf2, hf3, hf4, hf5, hf6, hf7, hf8, hf9, hf10, hf11, hf12, hf13, hf14, hf15, hr0, ha, hb⟩ K hK
      have HK0 := Lib.hid hK
      clear hK
      clear hL
      clear hk
      go_wp2
      exact HK0.out _ _ ⟨_, _, _, _, _, _, _, _, _, _, _, _, _, _, _, _, rfl, Lib.hid (fun h => hf0.out (by simpa [upd] using h)), Lib.hid (fun h => hf1.out (by simpa [upd] using h)), Lib.hid (fun h => hf2.out (by simpa [upd] using h)), Lib.hid (fun h => hf3.out (by simpa [upd] using h)), Lib.hid (fun h => hf4.out (by simpa [upd] using h)), Lib.hid (fun h => hf5.out (by simpa [upd] using h)), Lib.hid (fun h => hf6.out (by simpa [upd] using h)), Lib.hid (fun h => hf7.out (by simpa [upd] using h)), Lib.hid (fun h => hf8.out (by simpa [upd] using h)), Lib.hid (fun h => hf9.out (by simpa [upd] using h)), Lib.hid (fun h => hf10.out (by simpa [upd] using h)), Lib.hid (fun h => hf11.out (by simpa [upd] using h)), Lib.hid (fun h => hf12.out (by simpa [upd] using h)), Lib.hid (fun h => hf13.out (by simpa [upd] using h)), Lib.hid (fun h => hf14.out (by simpa [upd] using h)), Lib.hid (fun _ => rfl), hr0, ha, hb⟩

end Go.Proofs.Ytnnlbbmimdohoaa
