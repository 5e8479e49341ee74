/- The walks of layer 1: the column of an angle. -/
import Derived.Test.YtnnlbbmimdohoaaP14
namespace Go.Proofs.Ytnnlbbmimdohoaa
open Go.RowKit Go.Maps
attribute [local go_sem] Oper.semAt_some

set_option maxRecDepth 10000 in
set_option maxHeartbeats 800000 in
theorem Column_any (p1 : Option Addr) (c1 : Nat) (p2 : Option Addr) (c2 : Nat) (long : List Int) (sz : Int) (ks : List K4) (w0 : World) (h : LogAt w0 p1 p2 long ks) (t an : Int) :
    Calls Try.prog 19 #[.agg #[.slice p1 long.length c1, .int .i64 sz, .slice p2 ks.length c2], .int .i64 t, .int .i64 an] w0 fun e w' => e = .returned (if validB long sz ks then (if showsB an t long.length then .tuple #[.int .i64 (colOf (rb long) long an t.toNat), .int .i64 0] else .tuple #[.int .i64 0, .int .i64 11]) else .tuple #[.int .i64 0, .int .i64 10]) ∧ Below w0.heap.size w0 w' := by
  go_enter Try.func19, Try.ntmps19
  have hba := below_alloc w0 (.cells #[.slice p1 long.length c1, .int .i64 sz, .slice p2 ks.length c2] 25)
  have r0 := Row.new w0 #[.slice p1 long.length c1, .int .i64 sz, .slice p2 ks.length c2] 25
  have HC := Lib.hid (check_any p1 c1 p2 c2 long sz ks _ (h.l.below hba) (h.k.below hba) h.b1 h.b2)
  have HH := Lib.hid h
  clear h
  cases hb : validB long sz ks
  · go_wp2_with (first | (refine HC.out.mono ?_; rw [checkE, hb]; rintro e w2 ⟨rfl, hb3⟩))
    go_ret2
    exact ⟨rfl, hba.trans (hb3.mono (by simp))⟩
  · have hok := valid_ok hb
    cases hs : showsB an t long.length
    · go_wp2_with (first | (refine HC.out.mono ?_; rw [checkE, hb]; rintro e w2 ⟨rfl, hb3⟩; have HB := Lib.hid (hba.trans (hb3.mono (by simp))); have r2 := Lib.hid (r0.below hb3 (by simp)); clear hb3; have k0 := r2.out.cell 0 (v := .slice p1 long.length c1) rfl; have hz := r2.out.lt) | (refine (shows_any _ _ _ _).mono ?_; rw [hs]; rintro e w3 ⟨rfl, hb3⟩))
      go_ret2
      exact ⟨rfl, HB.out.trans (((below_alloc _ _).mono (by omega)).trans (hb3.mono (by simp; omega)))⟩
    · obtain ⟨ha0, ha1, ht0, htl⟩ : 0 ≤ an ∧ an ≤ 23 ∧ 0 ≤ t ∧ t < long.length := by
        simp only [showsB, Bool.and_eq_true, decide_eq_true_eq] at hs
        omega
      obtain ⟨t, rfl⟩ : ∃ t' : Nat, t = t' := ⟨t.toNat, by omega⟩
      have htl : t < long.length := by omega
      rw [Int.toNat_natCast]
      go_wp2_with (first | (refine HC.out.mono ?_; rw [checkE, hb]; rintro e w2 ⟨rfl, hb3⟩; have HB := Lib.hid (hba.trans (hb3.mono (by simp))); have r2 := Lib.hid (r0.below hb3 (by simp)); clear hb3; have k0 := r2.out.cell 0 (v := .slice p1 long.length c1) rfl; have hz := r2.out.lt) | (refine (shows_any _ _ _ _).mono ?_; rw [hs]; rintro e w3 ⟨rfl, hb3⟩))
      have R0 := Lib.hid (((r2.out).alloc (.cells #[.int .i64 an, .int .i64 t] 80)).below hb3 (by simp; omega))
      have R1 := Lib.hid ((Row.new w2 #[.int .i64 an, .int .i64 t] 80).below hb3 (by simp))
      have HB2 := Lib.hid (HB.out.trans (((below_alloc w2 (.cells #[.int .i64 an, .int .i64 t] 80)).mono (by omega)).trans (hb3.mono (by simp; omega))))
      clear hb3 k0 r0 hba HC
      refine region_inv rfl (by kernel_rfl) (fun L a w => ∃ x6 x7 x24 x25 x26 x27 : Value, a = { tmps := #[.agg #[.slice p1 long.length c1, .int .i64 sz, .slice p2 ks.length c2], .int .i64 t, .int .i64 an, .pointer (some ⟨w0.heap.size, 0, none⟩), undef, undef, x6, x7, .int .i64 0, .pointer (some ⟨w2.heap.size, 0, none⟩), .agg #[.slice p1 long.length c1, .int .i64 sz, .slice p2 ks.length c2], .int .i64 0, .int .i64 0, .bool false, undef, .int .i64 an, .int .i64 t, .agg #[.int .i64 an, .int .i64 t], .agg #[.int .i64 an, .int .i64 t], .pointer (some ⟨w0.heap.size, 0, none⟩), .slice p1 long.length c1, .int .i64 long.length, .bool true, .bool false, x24, x25, x26, x27], defers := [] } ∧ Hid (L 0 = true → x24 = .agg #[.slice p1 long.length c1, .int .i64 sz, .slice p2 ks.length c2]) ∧ Hid (L 2 = true → x26 = .agg #[.int .i64 an, .int .i64 t]) ∧ Hid (L 3 = true → x27 = .int .i64 (colOf (rb long) long an t)) ∧ Hid (L 4 = true → x6 = .int .i64 (colOf (rb long) long an t)) ∧ Hid (L 5 = true → x7 = .int .i64 0) ∧ Hid (Row w w0.heap.size #[.slice p1 long.length c1, .int .i64 sz, .slice p2 ks.length c2] 25) ∧ Hid (Row w w2.heap.size #[.int .i64 an, .int .i64 t] 80) ∧ Hid (Below w0.heap.size w0 w) ∧ Hid (L 1 = true → ∃ R mb nn f, x25 = .agg R.A ∧ RibOf R p1 c1 p2 c2 long sz ks ∧ RibAt w R long ks mb nn f)) ?h0 ?steps ?hd
      case h0 => exact ⟨_, _, _, _, _, _, rfl, Lib.hid nofun, Lib.hid nofun, Lib.hid nofun, Lib.hid nofun, Lib.hid nofun, Lib.hid (R0.out), Lib.hid (R1.out), Lib.hid (HB2.out.drew), Lib.hid (nofun)⟩
      case hd =>
        rintro L a w hL ⟨x6, x7, x24, x25, x26, x27, rfl, hf0, hf2, hf3, hf4, hf5, hr0, hr1, hb, hu⟩
        obtain rfl := hf0.out (hL 0 (by decide))
        obtain rfl := hf2.out (hL 2 (by decide))
        obtain rfl := hf3.out (hL 3 (by decide))
        obtain rfl := hf4.out (hL 4 (by decide))
        obtain rfl := hf5.out (hL 5 (by decide))
        clear hf0
        clear hf2
        clear hf3
        clear hf4
        clear hf5
        clear hL
        go_wp2
        go_ret2
        exact ⟨rfl, hb.out⟩
      case steps =>
        refine ⟨?_, ?_, ?_, ?_, ?_, ?_, trivial⟩
        · rintro L a w hL hk ⟨x6, x7, x24, x25, x26, x27, rfl, hf0, hf2, hf3, hf4, hf5, hr0, hr1, hb, hu⟩ K hK
          have HK0 := Lib.hid hK
          clear hK
          clear hL
          clear hk
          refine wp_load_row 25 _ rfl _ rfl 25 _ (0, 0) _ hr0.out Try.underlying25 rfl (by kernel_rfl) ?_
          exact HK0.out _ _ ⟨_, _, _, _, _, _, rfl, Lib.hid (fun _ => rfl), Lib.hid (fun h => hf2.out (by simpa [upd] using h)), Lib.hid (fun h => hf3.out (by simpa [upd] using h)), Lib.hid (fun h => hf4.out (by simpa [upd] using h)), Lib.hid (fun h => hf5.out (by simpa [upd] using h)), hr0, hr1, hb, Lib.hid (fun h => hu.out (by simpa [upd] using h))⟩
        · rintro L a w hL hk ⟨x6, x7, x24, x25, x26, x27, rfl, hf0, hf2, hf3, hf4, hf5, hr0, hr1, hb, hu⟩ K hK
          have HK0 := Lib.hid hK
          clear hK
          obtain rfl := hf0.out (after_on hL 0 rfl)
          clear hL
          clear hk
          have hlt := hr0.out.lt
          go_wp2_with fail
          refine (unroll_of p1 c1 p2 c2 long sz ks _ (HH.out.below hb.out) hok).mono ?_
          rintro e w5 ⟨R, mb, nn, f, rfl, hR, hA, hb5⟩
          exact HK0.out _ _ ⟨_, _, _, _, _, _, rfl, Lib.hid (fun _ => rfl), Lib.hid (fun h => hf2.out (by simpa [upd] using h)), Lib.hid (fun h => hf3.out (by simpa [upd] using h)), Lib.hid (fun h => hf4.out (by simpa [upd] using h)), Lib.hid (fun h => hf5.out (by simpa [upd] using h)), Lib.hid (hr0.out.below hb5 hr0.out.lt), Lib.hid (hr1.out.below hb5 hr1.out.lt), Lib.hid (hb.out.trans (hb5.mono (Nat.le_trans (Nat.le_of_lt hlt) (Nat.le_refl _)))), Lib.hid (fun _ => ⟨R, mb, nn, f, rfl, hR, hA⟩)⟩
        · rintro L a w hL hk ⟨x6, x7, x24, x25, x26, x27, rfl, hf0, hf2, hf3, hf4, hf5, hr0, hr1, hb, hu⟩ K hK
          have HK0 := Lib.hid hK
          clear hK
          clear hL
          clear hk
          refine wp_load_row 80 _ rfl _ rfl 80 _ (0, 0) _ hr1.out Try.underlying80 rfl (by kernel_rfl) ?_
          exact HK0.out _ _ ⟨_, _, _, _, _, _, rfl, Lib.hid (fun h => hf0.out (by simpa [upd] using h)), Lib.hid (fun _ => rfl), Lib.hid (fun h => hf3.out (by simpa [upd] using h)), Lib.hid (fun h => hf4.out (by simpa [upd] using h)), Lib.hid (fun h => hf5.out (by simpa [upd] using h)), hr0, hr1, hb, Lib.hid (fun h => hu.out (by simpa [upd] using h))⟩
        · rintro L a w hL hk ⟨x6, x7, x24, x25, x26, x27, rfl, hf0, hf2, hf3, hf4, hf5, hr0, hr1, hb, hu⟩ K hK
          have HK0 := Lib.hid hK
          clear hK
          obtain rfl := hf2.out (after_on hL 2 rfl)
          clear hk
          obtain ⟨R, mb, nn, f, rfl, hR, hA⟩ := hu.out (after_on hL 1 rfl)
          clear hL
          have hlt := hr0.out.lt
          go_wp2_with fail
          refine (column_any R long hR.ok.s6 _ hA.l hR.ok.n1 an t ha0 ha1 htl hR.ok.n6 (by have := hR.ok.lo t htl; omega) (hR.ok.hi t htl) (hR.ok.s0 t htl) (by have := hR.ok.se t htl; have := hR.ok.lo t htl; have := hR.ok.w72; omega)).mono ?_
          rintro e w5 ⟨rfl, hb5⟩
          rw [show colOf R long an t = colOf (rb long) long an t by unfold colOf; rw [hR.s]]
          exact HK0.out _ _ ⟨_, _, _, _, _, _, rfl, Lib.hid (fun h => hf0.out (by simpa [upd] using h)), Lib.hid (fun _ => rfl), Lib.hid (fun _ => rfl), Lib.hid (fun h => hf4.out (by simpa [upd] using h)), Lib.hid (fun h => hf5.out (by simpa [upd] using h)), Lib.hid (hr0.out.below hb5 hr0.out.lt), Lib.hid (hr1.out.below hb5 hr1.out.lt), Lib.hid (hb.out.trans (hb5.mono (Nat.le_trans (Nat.le_of_lt hlt) (Nat.le_refl _)))), Lib.hid (fun _ => ⟨R, mb, nn, f, rfl, hR, hA.below hb5⟩)⟩
        · rintro L a w hL hk ⟨x6, x7, x24, x25, x26, x27, rfl, hf0, hf2, hf3, hf4, hf5, hr0, hr1, hb, hu⟩ K hK
          have HK0 := Lib.hid hK
          clear hK
          obtain rfl := hf3.out (after_on hL 3 rfl)
          clear hL
          clear hk
          go_wp2
          exact HK0.out _ _ ⟨_, _, _, _, _, _, rfl, Lib.hid (fun h => hf0.out (by simpa [upd] using h)), Lib.hid (fun h => hf2.out (by simpa [upd] using h)), Lib.hid (fun _ => rfl), Lib.hid (fun _ => rfl), Lib.hid (fun h => hf5.out (by simpa [upd] using h)), hr0, hr1, hb, Lib.hid (fun h => hu.out (by simpa [upd] using h))⟩
        · rintro L a w hL hk ⟨x6, x7, x24, x25, x26, x27, rfl, hf0, hf2, hf3, hf4, hf5, hr0, hr1, hb, hu⟩ K hK
          have HK0 := Lib.hid hK
          clear hK
          clear hL
          clear hk
          go_wp2
          exact HK0.out _ _ ⟨_, _, _, _, _, _, rfl, Lib.hid (fun h => hf0.out (by simpa [upd] using h)), Lib.hid (fun h => hf2.out (by simpa [upd] using h)), Lib.hid (fun h => hf3.out (by simpa [upd] using h)), Lib.hid (fun h => hf4.out (by simpa [upd] using h)), Lib.hid (fun _ => rfl), hr0, hr1, hb, Lib.hid (fun h => hu.out (by simpa [upd] using h))⟩

end Go.Proofs.Ytnnlbbmimdohoaa
