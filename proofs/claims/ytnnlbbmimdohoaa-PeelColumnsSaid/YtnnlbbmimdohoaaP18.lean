/- The walks of layer 1: how many pieces of a cutting surely are whole. -/
import Derived.Test.YtnnlbbmimdohoaaP14
namespace Go.Proofs.Ytnnlbbmimdohoaa
open Go.RowKit Go.Maps
attribute [local go_sem] Oper.semAt_some

set_option maxRecDepth 10000 in
set_option maxHeartbeats 800000 in
theorem Sure_bad (p1 : Option Addr) (c1 : Nat) (p2 : Option Addr) (c2 : Nat) (long : List Int) (sz : Int) (ks : List K4) (w0 : World) (h : LogAt w0 p1 p2 long ks) (pc : Option Addr) (cut : List Int) (cc : Nat) (hc : IntsAt w0 pc cut) (_hn : cut.length ≤ maxLen) (hb : validB long sz ks = false) :
    Calls Try.prog 26 #[.agg #[.slice p1 long.length c1, .int .i64 sz, .slice p2 ks.length c2], .slice pc cut.length cc] w0 fun e w' => e = .returned (.tuple #[.int .i64 0, .int .i64 10]) ∧ Below w0.heap.size w0 w' := by
  go_enter Try.func26, Try.ntmps26
  have hba := below_alloc w0 (.cells #[.slice p1 long.length c1, .int .i64 sz, .slice p2 ks.length c2] 25)
  have HH := Lib.hid (h.below hba)
  have HI := Lib.hid hc
  have HI2 := Lib.hid (hc.below hba)
  clear h hc
  go_wp2_with (first | (refine (ask_bad p1 c1 p2 c2 long sz ks _ HH.out hb pc _ _).mono ?_; rintro e w2 ⟨rfl, hb3⟩; have HB2 := Lib.hid (hba.trans (hb3.mono (by simp))); clear hb3) | (refine store_new rfl 76 _ _ rfl zero76 zero76 76 rfl rfl zero76_size rfl zero76_one ?_))
  go_ret2
  exact ⟨rfl, HB2.out.alloc HB2.out.size _⟩

set_option maxRecDepth 10000 in
set_option maxHeartbeats 800000 in
theorem Sure_no (p1 : Option Addr) (c1 : Nat) (p2 : Option Addr) (c2 : Nat) (long : List Int) (sz : Int) (ks : List K4) (w0 : World) (h : LogAt w0 p1 p2 long ks) (pc : Option Addr) (cut : List Int) (cc : Nat) (hc : IntsAt w0 pc cut) (hn : cut.length ≤ maxLen) (hb : validB long sz ks = true) (hcut : cutOk sz (psum long long.length) 0 cut = false) :
    Calls Try.prog 26 #[.agg #[.slice p1 long.length c1, .int .i64 sz, .slice p2 ks.length c2], .slice pc cut.length cc] w0 fun e w' => e = .returned (.tuple #[.int .i64 0, .int .i64 11]) ∧ Below w0.heap.size w0 w' := by
  go_enter Try.func26, Try.ntmps26
  have hba := below_alloc w0 (.cells #[.slice p1 long.length c1, .int .i64 sz, .slice p2 ks.length c2] 25)
  have HH := Lib.hid (h.below hba)
  have HI := Lib.hid hc
  have HI2 := Lib.hid (hc.below hba)
  clear h hc
  go_wp2_with (first | (refine (ask_no p1 c1 p2 c2 long sz ks _ HH.out hb pc cut cc HI2.out hn hcut).mono ?_; rintro e w2 ⟨rfl, hb3⟩; have HB2 := Lib.hid (hba.trans (hb3.mono (by simp))); clear hb3) | (refine store_new rfl 76 _ _ rfl zero76 zero76 76 rfl rfl zero76_size rfl zero76_one ?_))
  go_ret2
  exact ⟨rfl, HB2.out.alloc HB2.out.size _⟩

set_option maxRecDepth 10000 in
set_option maxHeartbeats 800000 in
theorem Sure_yes (p1 : Option Addr) (c1 : Nat) (p2 : Option Addr) (c2 : Nat) (long : List Int) (sz : Int) (ks : List K4) (w0 : World) (h : LogAt w0 p1 p2 long ks) (pc : Option Addr) (cut : List Int) (cc : Nat) (hc : IntsAt w0 pc cut) (hn : cut.length ≤ maxLen) (hb : validB long sz ks = true) (hcut : cutOk sz (psum long long.length) 0 cut = true) :
    Calls Try.prog 26 #[.agg #[.slice p1 long.length c1, .int .i64 sz, .slice p2 ks.length c2], .slice pc cut.length cc] w0 fun e w' => e = .returned (.tuple #[.int .i64 (countL (wholesD long sz (reachD long ks)) cut), .int .i64 0]) ∧ Below w0.heap.size w0 w' := by
  have hok := valid_ok hb
  go_enter Try.func26, Try.ntmps26
  have hba := below_alloc w0 (.cells #[.slice p1 long.length c1, .int .i64 sz, .slice p2 ks.length c2] 25)
  have HH := Lib.hid (h.below hba)
  have HI := Lib.hid hc
  have HI2 := Lib.hid (hc.below hba)
  clear h hc
  go_wp2_with (first | (refine (ask_yes p1 c1 p2 c2 long sz ks _ HH.out hb pc cut cc HI2.out hn hcut).mono ?_; rintro e w2 ⟨R, mb, nn, f, rfl, hR, hA, hb3⟩; have HB2 := Lib.hid (hba.trans (hb3.mono (by simp))); have HA2 := Lib.hid hA; have hz := hb3.size; simp at hz; clear hb3 hA) | (refine store_new rfl 76 _ _ rfl R.A zero76 76 rfl rfl (size76 hR.ok.s6) (by rw [R.size hR.ok.s6]; rfl) R.one ?_))
  have R0 := Lib.hid (Row.new w2 R.A 76)
  have HA := Lib.hid (HA2.out.below (below_alloc w2 (.cells R.A 76)))
  have HB := Lib.hid (HB2.out.trans ((below_alloc w2 (.cells R.A 76)).mono (by omega)))
  have HLE := Lib.hid (show w0.heap.size ≤ w2.heap.size by omega)
  clear hba HA2 HB2
  refine region_inv rfl (by kernel_rfl) (fun L a w => ∃ x4 x5 x17 x18 x19 x20 x21 x22 x23 x24 x25 : Value, a = { tmps := #[.agg #[.slice p1 long.length c1, .int .i64 sz, .slice p2 ks.length c2], .slice pc cut.length cc, .pointer (some ⟨w0.heap.size, 0, none⟩), undef, x4, x5, .pointer (some ⟨w2.heap.size, 0, none⟩), .int .i64 0, .tuple #[.agg R.A, .int .i64 0], .agg #[.slice p1 long.length c1, .int .i64 sz, .slice p2 ks.length c2], .slice pc cut.length cc, .tuple #[.agg R.A, .int .i64 0], .agg R.A, .int .i64 0, .int .i64 0, .bool false, undef, x17, x18, x19, x20, x21, x22, x23, x24, x25], defers := [] } ∧ Hid (L 0 = true → x17 = .agg R.A) ∧ Hid (L 1 = true → x18 = .agg R.A) ∧ Hid (L 2 = true → x19 = .pointer (some ⟨w2.heap.size, 0, none⟩)) ∧ Hid (L 3 = true → x20 = .pointer (some ⟨w2.heap.size, 2, none⟩)) ∧ Hid (L 4 = true → x21 = .slice p2 ks.length c2) ∧ Hid (L 5 = true → x22 = cols (reachD long ks)) ∧ Hid (L 6 = true → x23 = knifeV (wideN long) sz.toNat (wholesD long sz (reachD long ks))) ∧ Hid (L 7 = true → x24 = .slice pc cut.length cc) ∧ Hid (L 8 = true → x25 = .int .i64 (countL (wholesD long sz (reachD long ks)) cut)) ∧ Hid (L 9 = true → x4 = .int .i64 (countL (wholesD long sz (reachD long ks)) cut)) ∧ Hid (L 10 = true → x5 = .int .i64 0) ∧ Hid (Row w w2.heap.size R.A 76) ∧ Hid (RibAt w R long ks mb nn f) ∧ Hid (Below w0.heap.size w0 w)) ?h0 ?steps ?hd
  case h0 => exact ⟨_, _, _, _, _, _, _, _, _, _, _, rfl, Lib.hid nofun, Lib.hid nofun, Lib.hid nofun, Lib.hid nofun, Lib.hid nofun, Lib.hid nofun, Lib.hid nofun, Lib.hid nofun, Lib.hid nofun, Lib.hid nofun, Lib.hid nofun, Lib.hid (R0.out.drew), Lib.hid (HA.out.drew), Lib.hid (HB.out.drew)⟩
  case hd =>
    rintro L a w hL ⟨x4, x5, x17, x18, x19, x20, x21, x22, x23, x24, x25, rfl, hf0, hf1, hf2, hf3, hf4, hf5, hf6, hf7, hf8, hf9, hf10, hr0, ha, hb⟩
    obtain rfl := hf0.out (hL 0 (by decide))
    obtain rfl := hf1.out (hL 1 (by decide))
    obtain rfl := hf2.out (hL 2 (by decide))
    obtain rfl := hf3.out (hL 3 (by decide))
    obtain rfl := hf4.out (hL 4 (by decide))
    obtain rfl := hf5.out (hL 5 (by decide))
    obtain rfl := hf6.out (hL 6 (by decide))
    obtain rfl := hf7.out (hL 7 (by decide))
    obtain rfl := hf8.out (hL 8 (by decide))
    obtain rfl := hf9.out (hL 9 (by decide))
    obtain rfl := hf10.out (hL 10 (by decide))
    clear hf0
    clear hf1
    clear hf2
    clear hf3
    clear hf4
    clear hf5
    clear hf6
    clear hf7
    clear hf8
    clear hf9
    clear hf10
    clear hL
    go_wp2
    go_ret2
    exact ⟨rfl, hb.out⟩
  case steps =>
    refine ⟨?_, ?_, ?_, ?_, ?_, ?_, ?_, ?_, ?_, ?_, ?_, trivial⟩
    · rintro L a w hL hk ⟨x4, x5, x17, x18, x19, x20, x21, x22, x23, x24, x25, rfl, hf0, hf1, hf2, hf3, hf4, hf5, hf6, hf7, hf8, hf9, hf10, hr0, ha, hb⟩ K hK
      have HK0 := Lib.hid hK
      clear hK
      clear hL
      clear hk
      refine wp_load_row 76 _ rfl _ rfl 76 _ (0, 0) _ hr0.out Try.underlying76 rfl (size76 hR.ok.s6) ?_
      exact HK0.out _ _ ⟨_, _, _, _, _, _, _, _, _, _, _, rfl, Lib.hid (fun _ => rfl), Lib.hid (fun h => hf1.out (by simpa [upd] using h)), Lib.hid (fun h => hf2.out (by simpa [upd] using h)), Lib.hid (fun h => hf3.out (by simpa [upd] using h)), Lib.hid (fun h => hf4.out (by simpa [upd] using h)), Lib.hid (fun h => hf5.out (by simpa [upd] using h)), Lib.hid (fun h => hf6.out (by simpa [upd] using h)), Lib.hid (fun h => hf7.out (by simpa [upd] using h)), Lib.hid (fun h => hf8.out (by simpa [upd] using h)), Lib.hid (fun h => hf9.out (by simpa [upd] using h)), Lib.hid (fun h => hf10.out (by simpa [upd] using h)), hr0, ha, hb⟩
    · rintro L a w hL hk ⟨x4, x5, x17, x18, x19, x20, x21, x22, x23, x24, x25, rfl, hf0, hf1, hf2, hf3, hf4, hf5, hf6, hf7, hf8, hf9, hf10, hr0, ha, hb⟩ K hK
      have HK0 := Lib.hid hK
      clear hK
      clear hL
      clear hk
      refine wp_load_row 76 _ rfl _ rfl 76 _ (0, 0) _ hr0.out Try.underlying76 rfl (size76 hR.ok.s6) ?_
      exact HK0.out _ _ ⟨_, _, _, _, _, _, _, _, _, _, _, rfl, Lib.hid (fun h => hf0.out (by simpa [upd] using h)), Lib.hid (fun _ => rfl), Lib.hid (fun h => hf2.out (by simpa [upd] using h)), Lib.hid (fun h => hf3.out (by simpa [upd] using h)), Lib.hid (fun h => hf4.out (by simpa [upd] using h)), Lib.hid (fun h => hf5.out (by simpa [upd] using h)), Lib.hid (fun h => hf6.out (by simpa [upd] using h)), Lib.hid (fun h => hf7.out (by simpa [upd] using h)), Lib.hid (fun h => hf8.out (by simpa [upd] using h)), Lib.hid (fun h => hf9.out (by simpa [upd] using h)), Lib.hid (fun h => hf10.out (by simpa [upd] using h)), hr0, ha, hb⟩
    · rintro L a w hL hk ⟨x4, x5, x17, x18, x19, x20, x21, x22, x23, x24, x25, rfl, hf0, hf1, hf2, hf3, hf4, hf5, hf6, hf7, hf8, hf9, hf10, hr0, ha, hb⟩ K hK
      have HK0 := Lib.hid hK
      clear hK
      clear hL
      clear hk
      go_wp2
      exact HK0.out _ _ ⟨_, _, _, _, _, _, _, _, _, _, _, rfl, Lib.hid (fun h => hf0.out (by simpa [upd] using h)), Lib.hid (fun h => hf1.out (by simpa [upd] using h)), Lib.hid (fun _ => rfl), Lib.hid (fun h => hf3.out (by simpa [upd] using h)), Lib.hid (fun h => hf4.out (by simpa [upd] using h)), Lib.hid (fun h => hf5.out (by simpa [upd] using h)), Lib.hid (fun h => hf6.out (by simpa [upd] using h)), Lib.hid (fun h => hf7.out (by simpa [upd] using h)), Lib.hid (fun h => hf8.out (by simpa [upd] using h)), Lib.hid (fun h => hf9.out (by simpa [upd] using h)), Lib.hid (fun h => hf10.out (by simpa [upd] using h)), hr0, ha, hb⟩
    · rintro L a w hL hk ⟨x4, x5, x17, x18, x19, x20, x21, x22, x23, x24, x25, rfl, hf0, hf1, hf2, hf3, hf4, hf5, hf6, hf7, hf8, hf9, hf10, hr0, ha, hb⟩ K hK
      have HK0 := Lib.hid hK
      clear hK
      obtain rfl := hf2.out (after_on hL 2 rfl)
      clear hL
      clear hk
      go_wp2
      exact HK0.out _ _ ⟨_, _, _, _, _, _, _, _, _, _, _, rfl, Lib.hid (fun h => hf0.out (by simpa [upd] using h)), Lib.hid (fun h => hf1.out (by simpa [upd] using h)), Lib.hid (fun _ => rfl), Lib.hid (fun _ => rfl), Lib.hid (fun h => hf4.out (by simpa [upd] using h)), Lib.hid (fun h => hf5.out (by simpa [upd] using h)), Lib.hid (fun h => hf6.out (by simpa [upd] using h)), Lib.hid (fun h => hf7.out (by simpa [upd] using h)), Lib.hid (fun h => hf8.out (by simpa [upd] using h)), Lib.hid (fun h => hf9.out (by simpa [upd] using h)), Lib.hid (fun h => hf10.out (by simpa [upd] using h)), hr0, ha, hb⟩
    · rintro L a w hL hk ⟨x4, x5, x17, x18, x19, x20, x21, x22, x23, x24, x25, rfl, hf0, hf1, hf2, hf3, hf4, hf5, hf6, hf7, hf8, hf9, hf10, hr0, ha, hb⟩ K hK
      have HK0 := Lib.hid hK
      clear hK
      obtain rfl := hf3.out (after_on hL 3 rfl)
      clear hL
      clear hk
      have c2 := hr0.out.cell 2 R.a2
      rw [hR.p2, hR.n2, hR.c2] at c2
      go_wp2
      exact HK0.out _ _ ⟨_, _, _, _, _, _, _, _, _, _, _, rfl, Lib.hid (fun h => hf0.out (by simpa [upd] using h)), Lib.hid (fun h => hf1.out (by simpa [upd] using h)), Lib.hid (fun h => hf2.out (by simpa [upd] using h)), Lib.hid (fun _ => rfl), Lib.hid (fun _ => rfl), Lib.hid (fun h => hf5.out (by simpa [upd] using h)), Lib.hid (fun h => hf6.out (by simpa [upd] using h)), Lib.hid (fun h => hf7.out (by simpa [upd] using h)), Lib.hid (fun h => hf8.out (by simpa [upd] using h)), Lib.hid (fun h => hf9.out (by simpa [upd] using h)), Lib.hid (fun h => hf10.out (by simpa [upd] using h)), hr0, ha, hb⟩
    · rintro L a w hL hk ⟨x4, x5, x17, x18, x19, x20, x21, x22, x23, x24, x25, rfl, hf0, hf1, hf2, hf3, hf4, hf5, hf6, hf7, hf8, hf9, hf10, hr0, ha, hb⟩ K hK
      have HK0 := Lib.hid hK
      clear hK
      obtain rfl := hf1.out (after_on hL 1 rfl)
      obtain rfl := hf4.out (after_on hL 4 rfl)
      clear hL
      clear hk
      have hlt := hr0.out.lt
      go_wp2_with fail
      refine (reach_of hR hok _ ha.out).mono ?_
      rintro e w5 ⟨rfl, hb5⟩
      exact HK0.out _ _ ⟨_, _, _, _, _, _, _, _, _, _, _, rfl, Lib.hid (fun h => hf0.out (by simpa [upd] using h)), Lib.hid (fun _ => rfl), Lib.hid (fun h => hf2.out (by simpa [upd] using h)), Lib.hid (fun h => hf3.out (by simpa [upd] using h)), Lib.hid (fun _ => rfl), Lib.hid (fun _ => rfl), Lib.hid (fun h => hf6.out (by simpa [upd] using h)), Lib.hid (fun h => hf7.out (by simpa [upd] using h)), Lib.hid (fun h => hf8.out (by simpa [upd] using h)), Lib.hid (fun h => hf9.out (by simpa [upd] using h)), Lib.hid (fun h => hf10.out (by simpa [upd] using h)), Lib.hid (hr0.out.below hb5 hr0.out.lt), Lib.hid (ha.out.below hb5), Lib.hid (hb.out.trans (hb5.mono (Nat.le_trans HLE.out (Nat.le_of_lt hlt))))⟩
    · rintro L a w hL hk ⟨x4, x5, x17, x18, x19, x20, x21, x22, x23, x24, x25, rfl, hf0, hf1, hf2, hf3, hf4, hf5, hf6, hf7, hf8, hf9, hf10, hr0, ha, hb⟩ K hK
      have HK0 := Lib.hid hK
      clear hK
      obtain rfl := hf0.out (after_on hL 0 rfl)
      obtain rfl := hf5.out (after_on hL 5 rfl)
      clear hL
      clear hk
      have hlt := hr0.out.lt
      go_wp2_with fail
      refine (knife_of hR hok _ (reachD_length _ _) _).mono ?_
      rintro e w5 ⟨rfl, hb5⟩
      exact HK0.out _ _ ⟨_, _, _, _, _, _, _, _, _, _, _, rfl, Lib.hid (fun _ => rfl), Lib.hid (fun h => hf1.out (by simpa [upd] using h)), Lib.hid (fun h => hf2.out (by simpa [upd] using h)), Lib.hid (fun h => hf3.out (by simpa [upd] using h)), Lib.hid (fun h => hf4.out (by simpa [upd] using h)), Lib.hid (fun _ => rfl), Lib.hid (fun _ => rfl), Lib.hid (fun h => hf7.out (by simpa [upd] using h)), Lib.hid (fun h => hf8.out (by simpa [upd] using h)), Lib.hid (fun h => hf9.out (by simpa [upd] using h)), Lib.hid (fun h => hf10.out (by simpa [upd] using h)), Lib.hid (hr0.out.below hb5 hr0.out.lt), Lib.hid (ha.out.below hb5), Lib.hid (hb.out.trans (hb5.mono (Nat.le_trans HLE.out (Nat.le_of_lt hlt))))⟩
    · rintro L a w hL hk ⟨x4, x5, x17, x18, x19, x20, x21, x22, x23, x24, x25, rfl, hf0, hf1, hf2, hf3, hf4, hf5, hf6, hf7, hf8, hf9, hf10, hr0, ha, hb⟩ K hK
      have HK0 := Lib.hid hK
      clear hK
      clear hL
      clear hk
      go_wp2
      exact HK0.out _ _ ⟨_, _, _, _, _, _, _, _, _, _, _, rfl, Lib.hid (fun h => hf0.out (by simpa [upd] using h)), Lib.hid (fun h => hf1.out (by simpa [upd] using h)), Lib.hid (fun h => hf2.out (by simpa [upd] using h)), Lib.hid (fun h => hf3.out (by simpa [upd] using h)), Lib.hid (fun h => hf4.out (by simpa [upd] using h)), Lib.hid (fun h => hf5.out (by simpa [upd] using h)), Lib.hid (fun h => hf6.out (by simpa [upd] using h)), Lib.hid (fun _ => rfl), Lib.hid (fun h => hf8.out (by simpa [upd] using h)), Lib.hid (fun h => hf9.out (by simpa [upd] using h)), Lib.hid (fun h => hf10.out (by simpa [upd] using h)), hr0, ha, hb⟩
    · rintro L a w hL hk ⟨x4, x5, x17, x18, x19, x20, x21, x22, x23, x24, x25, rfl, hf0, hf1, hf2, hf3, hf4, hf5, hf6, hf7, hf8, hf9, hf10, hr0, ha, hb⟩ K hK
      have HK0 := Lib.hid hK
      clear hK
      obtain rfl := hf6.out (after_on hL 6 rfl)
      obtain rfl := hf7.out (after_on hL 7 rfl)
      clear hL
      clear hk
      have hlt := hr0.out.lt
      go_wp2_with fail
      refine (count_of hok _ (wholesD_length _ _ _) _ _ _ _ hn (HI.out.below hb.out) hcut).mono ?_
      rintro e w5 ⟨rfl, hb5⟩
      exact HK0.out _ _ ⟨_, _, _, _, _, _, _, _, _, _, _, rfl, Lib.hid (fun h => hf0.out (by simpa [upd] using h)), Lib.hid (fun h => hf1.out (by simpa [upd] using h)), Lib.hid (fun h => hf2.out (by simpa [upd] using h)), Lib.hid (fun h => hf3.out (by simpa [upd] using h)), Lib.hid (fun h => hf4.out (by simpa [upd] using h)), Lib.hid (fun h => hf5.out (by simpa [upd] using h)), Lib.hid (fun _ => rfl), Lib.hid (fun _ => rfl), Lib.hid (fun _ => rfl), Lib.hid (fun h => hf9.out (by simpa [upd] using h)), Lib.hid (fun h => hf10.out (by simpa [upd] using h)), Lib.hid (hr0.out.below hb5 hr0.out.lt), Lib.hid (ha.out.below hb5), Lib.hid (hb.out.trans (hb5.mono (Nat.le_trans HLE.out (Nat.le_of_lt hlt))))⟩
    · rintro L a w hL hk ⟨x4, x5, x17, x18, x19, x20, x21, x22, x23, x24, x25, rfl, hf0, hf1, hf2, hf3, hf4, hf5, hf6, hf7, hf8, hf9, hf10, hr0, ha, hb⟩ K hK
      have HK0 := Lib.hid hK
      clear hK
      obtain rfl := hf8.out (after_on hL 8 rfl)
      clear hL
      clear hk
      go_wp2
      exact HK0.out _ _ ⟨_, _, _, _, _, _, _, _, _, _, _, rfl, Lib.hid (fun h => hf0.out (by simpa [upd] using h)), Lib.hid (fun h => hf1.out (by simpa [upd] using h)), Lib.hid (fun h => hf2.out (by simpa [upd] using h)), Lib.hid (fun h => hf3.out (by simpa [upd] using h)), Lib.hid (fun h => hf4.out (by simpa [upd] using h)), Lib.hid (fun h => hf5.out (by simpa [upd] using h)), Lib.hid (fun h => hf6.out (by simpa [upd] using h)), Lib.hid (fun h => hf7.out (by simpa [upd] using h)), Lib.hid (fun _ => rfl), Lib.hid (fun _ => rfl), Lib.hid (fun h => hf10.out (by simpa [upd] using h)), hr0, ha, hb⟩
    · rintro L a w hL hk ⟨x4, x5, x17, x18, x19, x20, x21, x22, x23, x24, x25, rfl, hf0, hf1, hf2, hf3, hf4, hf5, hf6, hf7, hf8, hf9, hf10, hr0, ha, hb⟩ K hK
      have HK0 := Lib.hid hK
      clear hK
      clear hL
      clear hk
      go_wp2
      exact HK0.out _ _ ⟨_, _, _, _, _, _, _, _, _, _, _, rfl, Lib.hid (fun h => hf0.out (by simpa [upd] using h)), Lib.hid (fun h => hf1.out (by simpa [upd] using h)), Lib.hid (fun h => hf2.out (by simpa [upd] using h)), Lib.hid (fun h => hf3.out (by simpa [upd] using h)), Lib.hid (fun h => hf4.out (by simpa [upd] using h)), Lib.hid (fun h => hf5.out (by simpa [upd] using h)), Lib.hid (fun h => hf6.out (by simpa [upd] using h)), Lib.hid (fun h => hf7.out (by simpa [upd] using h)), Lib.hid (fun h => hf8.out (by simpa [upd] using h)), Lib.hid (fun h => hf9.out (by simpa [upd] using h)), Lib.hid (fun _ => rfl), hr0, ha, hb⟩

end Go.Proofs.Ytnnlbbmimdohoaa
