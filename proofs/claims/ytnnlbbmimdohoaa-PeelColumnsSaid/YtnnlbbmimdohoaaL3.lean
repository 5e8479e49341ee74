/- The law's own helper of layer 1: is there a log, and is it as small as it can be? -/
import Derived.Test.YtnnlbbmimdohoaaL1
namespace Go.Proofs.Ytnnlbbmimdohoaa
open Go.RowKit Go.Maps
attribute [local go_sem] Oper.semAt_some

theorem fits_of {n lo hi : Int} (h1 : lo ≤ n) (h2 : n ≤ hi) : fits n lo hi = true := by simp [fits, h1, h2]

set_option maxRecDepth 10000 in
set_option maxHeartbeats 800000 in
theorem sound_no (p1 : Option Addr) (c1 : Nat) (p2 : Option Addr) (c2 : Nat) (long : List Int) (sz : Int) (ks : List K4) (w0 : World) (h : LogAt w0 p1 p2 long ks) (hb : validB long sz ks = false) :
    Calls Try.prog 39 #[.agg #[.slice p1 long.length c1, .int .i64 sz, .slice p2 ks.length c2]] w0 fun e w' => e = .returned (.bool false) ∧ Below w0.heap.size w0 w' := by
  go_enter Try.func39, Try.ntmps39
  have hba := below_alloc w0 (.cells #[.slice p1 long.length c1, .int .i64 sz, .slice p2 ks.length c2] 25)
  have r0 := Row.new w0 #[.slice p1 long.length c1, .int .i64 sz, .slice p2 ks.length c2] 25
  have HC := Lib.hid (check_any p1 c1 p2 c2 long sz ks _ (h.l.below hba) (h.k.below hba) h.b1 h.b2)
  clear h
  go_wp2_with (first | (refine HC.out.mono ?_; rw [checkE, hb]; rintro e w2 ⟨rfl, hb3⟩; have HB := Lib.hid (hba.trans (hb3.mono (by simp))); clear hb3 hba HC))
  go_loopw [3, 4] (fun ok _ wr => ok = .bool false ∧ Below w0.heap.size w0 wr) (fun _ _ _ => 0)
  case atStart => exact ⟨rfl, HB.out⟩
  case round =>
    obtain ⟨rfl, hb1⟩ := hrel
    have HB1 := Lib.hid hb1
    clear hb1
    go_wp2
    go_loopw [3, 5] (fun ok _ wr => ok = .bool false ∧ Below w0.heap.size w0 wr) (fun _ _ _ => 0)
    case atStart => exact ⟨rfl, HB1.out⟩
    case round =>
      obtain ⟨rfl, hb2⟩ := hrel
      have HB2 := Lib.hid hb2
      clear hb2
      go_wp2
      go_ret
      exact ⟨rfl, HB2.out⟩

set_option maxRecDepth 10000 in
set_option maxHeartbeats 1600000 in
theorem sound_yes (p1 : Option Addr) (c1 : Nat) (p2 : Option Addr) (c2 : Nat) (long : List Int) (sz : Int) (ks : List K4) (w0 : World) (h : LogAt w0 p1 p2 long ks) (hb : validB long sz ks = true) :
    Calls Try.prog 39 #[.agg #[.slice p1 long.length c1, .int .i64 sz, .slice p2 ks.length c2]] w0 fun e w' => e = .returned (.bool true) ∧ Below w0.heap.size w0 w' := by
  have hok := valid_ok hb
  go_enter Try.func39, Try.ntmps39
  have hba := below_alloc w0 (.cells #[.slice p1 long.length c1, .int .i64 sz, .slice p2 ks.length c2] 25)
  have r0 := Row.new w0 #[.slice p1 long.length c1, .int .i64 sz, .slice p2 ks.length c2] 25
  have HC := Lib.hid (check_any p1 c1 p2 c2 long sz ks _ (h.l.below hba) (h.k.below hba) h.b1 h.b2)
  have HH := Lib.hid h
  have hn1 := hok.L.n1
  have hn6 := hok.L.n6
  have hk3 := hok.k3
  have F1 := Lib.hid (fits_of (n := (long.length : Int)) (lo := 1) (hi := 6) (by omega) (by omega))
  have F2 := Lib.hid (fits_of (n := sz) (lo := 1) (hi := 6) hok.s1 hok.s6)
  clear h
  go_wp2_with (first | (refine HC.out.mono ?_; rw [checkE, hb]; rintro e w2 ⟨rfl, hb3⟩; have HB := Lib.hid (hba.trans (hb3.mono (by simp))); have r2 := Lib.hid (r0.below hb3 (by simp)); clear hb3 hba HC; have k0 := r2.out.cell 0 (v := .slice p1 long.length c1) rfl; have k1 := r2.out.cell 1 (v := .int .i64 sz) rfl; have k2 := r2.out.cell 2 (v := .slice p2 ks.length c2) rfl) | (refine (Fits_any _ _ _ _).mono ?_; (first | rw [F1.out] | rw [F2.out]); rintro e w3 ⟨rfl, rfl⟩))
  clear k0 k1 k2
  go_loopw [3, 4] (fun ok i wr => ok = .bool true ∧ ∃ j : Nat, j ≤ long.length ∧ i = .int .i64 j ∧ Row wr w0.heap.size #[.slice p1 long.length c1, .int .i64 sz, .slice p2 ks.length c2] 25 ∧ Below w0.heap.size w0 wr) (fun _ i _ => long.length - (intOf i).toNat)
  case atStart => exact ⟨by first | rfl | (congr 1; simp; done) | (congr 1; simp; omega), 0, by omega, rfl, r2.out, HB.out⟩
  case round =>
    obtain ⟨rfl, j, hj, rfl, g0, gb⟩ := hrel
    have GB := Lib.hid gb
    have k0 := g0.cell 0 (v := .slice p1 long.length c1) rfl
    have k2 := g0.cell 2 (v := .slice p2 ks.length c2) rfl
    have G0 := Lib.hid g0
    clear g0 gb
    by_cases hjl : j < long.length
    · obtain ⟨b, o, rfl, hc⟩ := (HH.out.l.below GB.out) j hjl
      have F := Lib.hid (fits_of (hok.L.lo j hjl) (hok.L.hi j hjl))
      go_wp2_with (first | (refine (Fits_any _ _ _ _).mono ?_; rw [F.out]; rintro e w3 ⟨rfl, rfl⟩))
      go_roundw
      case rel => exact ⟨rfl, j + 1, by omega, by go_num, G0.out, GB.out⟩
      case measure => simp [intOf]; omega
    · obtain rfl : j = long.length := by omega
      go_wp2
      clear k0 k2
      go_loopw [3, 5] (fun ok i wr => ok = .bool true ∧ ∃ j : Nat, j ≤ ks.length ∧ i = .int .i64 j ∧ Row wr w0.heap.size #[.slice p1 long.length c1, .int .i64 sz, .slice p2 ks.length c2] 25 ∧ Below w0.heap.size w0 wr) (fun _ i _ => ks.length - (intOf i).toNat)
      case atStart => exact ⟨rfl, 0, by omega, rfl, G0.out, GB.out⟩
      case round =>
        obtain ⟨rfl, j, hj, rfl, g0, gb⟩ := hrel
        have GB := Lib.hid gb
        have k0 := g0.cell 0 (v := .slice p1 long.length c1) rfl
        have k2 := g0.cell 2 (v := .slice p2 ks.length c2) rfl
        have hlt := g0.lt
        have G0 := Lib.hid g0
        clear g0 gb
        by_cases hjk : j < ks.length
        · obtain ⟨b, o, rfl, q0, q1, q2, q3⟩ := (HH.out.k.below GB.out) j hjk
          have hko := hok.ok ks[j] (List.getElem_mem _)
          have hfh := hok.fh ks[j] (List.getElem_mem _)
          have haw := hok.aw ks[j] (List.getElem_mem _)
          have hfw := hok.fw ks[j] (List.getElem_mem _)
          generalize ks[j] = kk at *
          have a0 := hko.a0
          have a1 := hko.a1
          have a2 := hko.a
          have b0 := hko.f0
          have b2 := hko.f
          have E1 := Lib.hid (show (decide ((0 : Int) ≤ kk.al) && decide (kk.al ≤ kk.ah) && decide (kk.ah ≤ 23)) = true by simp [a0, a1, a2])
          have E2 := Lib.hid (show (decide ((0 : Int) ≤ kk.fl) && decide (kk.fl ≤ kk.fh) && decide (kk.fh ≤ (long.length : Int))) = true by simp [b0, b2, hfh])
          go_wp2_with (first | (refine (Right_any _ _ _ _ _).mono ?_; rw [E1.out]; rintro e w3 ⟨rfl, hb3⟩; have hz3 := hb3.size; simp at hz3; have RK := Lib.hid ((Row.new wr #[.int .i64 kk.al, .int .i64 kk.ah, .int .i64 kk.fl, .int .i64 kk.fh] 61).below hb3 (by simp)); have GR := Lib.hid ((G0.out.alloc (.cells #[.int .i64 kk.al, .int .i64 kk.ah, .int .i64 kk.fl, .int .i64 kk.fh] 61)).below hb3 (by simp; omega)); have HB3 := Lib.hid ((GB.out.alloc (by omega) (.cells #[.int .i64 kk.al, .int .i64 kk.ah, .int .i64 kk.fl, .int .i64 kk.fh] 61)).trans (hb3.mono (by simp; omega))); clear hb3 q0 q1 q2 q3 k0 k2; have s2 := RK.out.cell 2 (v := .int .i64 kk.fl) rfl; have s3 := RK.out.cell 3 (v := .int .i64 kk.fh) rfl; have k0 := GR.out.cell 0 (v := .slice p1 long.length c1) rfl) | (refine (Right_any _ _ _ _ _).mono ?_; rw [E2.out]; rintro e w4 ⟨rfl, hb4⟩; have hz4 := hb4.size; have RK4 := Lib.hid (RK.out.below hb4 (by omega)); have GR4 := Lib.hid (GR.out.below hb4 (by omega)); have HB4 := Lib.hid (HB3.out.trans (hb4.mono (by omega))); clear hb4 s2 s3 k0; have s0 := RK4.out.cell 0 (v := .int .i64 kk.al) rfl; have s1 := RK4.out.cell 1 (v := .int .i64 kk.ah) rfl; have s2 := RK4.out.cell 2 (v := .int .i64 kk.fl) rfl; have s3 := RK4.out.cell 3 (v := .int .i64 kk.fh) rfl))
          go_roundw
          case rel => exact ⟨by first | rfl | (congr 1; simp; done) | (congr 1; simp; omega), j + 1, by omega, by go_num, GR4.out, HB4.out⟩
          case measure => simp [intOf]; omega
        · obtain rfl : j = ks.length := by omega
          go_wp2
          go_ret
          exact ⟨rfl, GB.out⟩

end Go.Proofs.Ytnnlbbmimdohoaa
