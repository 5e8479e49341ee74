/- The specification of layer 1: what it refuses. -/
import Derived.Test.YtnnlbbmimdohoaaN1
import Derived.Test.YtnnlbbmimdohoaaT5
import Derived.Deep.RegionHeld3
import Derived.Test.YtnnlbbmimdohoaaT8
import Derived.Maps.AppendAt
import Derived.Test.YtnnlbbmimdohoaaT67
namespace Go.Proofs.Ytnnlbbmimdohoaa
open Go.RowKit Go.Maps
attribute [local go_sem] Oper.semAt_some

theorem Fits_no (n lo hi : Int) (w : World) (h : n < lo ∨ hi < n) : Calls Try.prog 46 #[.int .i64 n, .int .i64 lo, .int .i64 hi] w fun e w' => e = .returned (.bool false) ∧ w = w' := by
  have h2 := Fits_any n lo hi w
  rw [show fits n lo hi = false by unfold fits; simp; omega] at h2
  exact h2
/-- What is a span within bounds. -/
def rightB (a b hi : Int) : Bool := decide ((0 : Int) ≤ a) && decide (a ≤ b) && decide (b ≤ hi)
theorem rightB_iff {a b hi : Int} : rightB a b hi = true ↔ 0 ≤ a ∧ a ≤ b ∧ b ≤ hi := by
  simp [rightB, and_assoc]
theorem kvalid_iff {k : K4} {n : Nat} (hn : n ≤ 6) : kvalidB k n = true ↔ rightB k.al k.ah 23 = true ∧ k.ah - k.al ≤ 3 ∧ rightB k.fl k.fh n = true ∧ k.fh - k.fl ≤ 1 := by
  have e0 : wrap64 ((n : Int) + 1) = n + 1 := IntWalk.wrap64_in _ (by omega)
  rw [rightB_iff, rightB_iff]
  simp only [kvalidB, showsB, narrowB, e0, Bool.and_eq_true, decide_eq_true_eq]
  constructor
  · rintro ⟨⟨⟨⟨⟨⟨a1, a2⟩, a3⟩, a4⟩, ⟨⟨b1, b2⟩, b3⟩, b4⟩, c1, c2⟩, d1, d2⟩
    rw [IntWalk.wrap64_in _ (by omega)] at c2
    rw [IntWalk.wrap64_in _ (by omega)] at d2
    omega
  · rintro ⟨⟨a1, a2, a3⟩, a4, ⟨b1, b2, b3⟩, b4⟩
    rw [IntWalk.wrap64_in _ (by omega), IntWalk.wrap64_in _ (by omega)]
    omega
theorem Right_is (a b hi : Int) (w : World) {v : Bool} (hv : rightB a b hi = v) : Calls Try.prog 58 #[.agg #[.int .i64 a, .int .i64 b], .int .i64 0, .int .i64 hi] w fun e w' => e = .returned (.bool v) ∧ Below w.heap.size w w' := by
  have h := Right_any a b 0 hi w
  rw [show (decide ((0 : Int) ≤ a) && decide (a ≤ b) && decide (b ≤ hi)) = v from hv] at h
  exact h
theorem not_knot {long : List Int} {sz : Int} {ks : List K4} {j : Nat} (hj : j < ks.length) (h : kvalidB ks[j] long.length = false) : validB long sz ks = false := by
  simp only [validB]
  rw [show ks.all (kvalidB · long.length) = false by rw [List.all_eq_false]; exact ⟨ks[j], List.getElem_mem _, by simp [h]⟩]
  simp

set_option maxRecDepth 10000 in
set_option maxHeartbeats 1600000 in
theorem refCheck_no (p1 : Option Addr) (c1 : Nat) (p2 : Option Addr) (c2 : Nat) (long : List Int) (sz : Int) (ks : List K4) (w0 : World) (h : LogAt w0 p1 p2 long ks) (hhead : ¬ (1 ≤ long.length ∧ long.length ≤ 6 ∧ 1 ≤ sz ∧ sz ≤ 6 ∧ ks.length ≤ 3)) :
    Calls Try.prog 18 #[.agg #[.slice p1 long.length c1, .int .i64 sz, .slice p2 ks.length c2]] w0 fun e w' => e = .returned (.int .i64 (checkE long sz ks)) ∧ Below w0.heap.size w0 w' := by
  have hb1 := h.b1
  have hb2 := h.b2
  clear h
  go_enter Try.func18, Try.ntmps18
  have hba := below_alloc w0 (.cells #[.slice p1 long.length c1, .int .i64 sz, .slice p2 ks.length c2] 25)
  have r0 := Row.new w0 #[.slice p1 long.length c1, .int .i64 sz, .slice p2 ks.length c2] 25
  have R0 := Lib.hid r0
  have B0 := Lib.hid hba
  clear hba
  have HV := Lib.hid (not_valid (long := long) (sz := sz) (ks := ks) hhead).symm
  have k0 := r0.cell 0 (v := .slice p1 long.length c1) rfl
  have k1 := r0.cell 1 (v := .int .i64 sz) rfl
  have k2 := r0.cell 2 (v := .slice p2 ks.length c2) rfl
  clear r0 R0
  by_cases q1 : 1 ≤ (long.length : Int) ∧ (long.length : Int) ≤ 6
  · by_cases q2 : 1 ≤ sz ∧ sz ≤ 6
    · have q3 : decide ((ks.length : Int) ≤ 3) = false := by simp; omega
      clear hhead
      go_wp2_with (first | (refine (Fits_yes _ _ _ _ (by omega) (by omega)).mono ?_; rintro e u ⟨rfl, rfl⟩))
      clear k0 k1 k2 q3
      go_loopw [3, 4] (fun ok i wr => ok = .bool false ∧ (∃ q, i = .int .i64 q) ∧ Below w0.heap.size w0 wr) (fun _ _ _ => 0)
      case atStart => exact ⟨by first | rfl | (congr 1; simp; omega), ⟨_, rfl⟩, B0.out⟩
      case round =>
        obtain ⟨rfl, ⟨q, rfl⟩, hb⟩ := hrel
        have B1 := Lib.hid hb
        clear hb B0
        go_wp2
        go_loopw [3, 5] (fun ok i wr => ok = .bool false ∧ (∃ q, i = .int .i64 q) ∧ Below w0.heap.size w0 wr) (fun _ _ _ => 0)
        case atStart => exact ⟨rfl, ⟨_, rfl⟩, B1.out⟩
        case round =>
          obtain ⟨rfl, ⟨q, rfl⟩, hb⟩ := hrel
          have B2 := Lib.hid hb
          clear hb B1
          go_wp2
          go_ret
          exact ⟨by rw [checkE, HV.out]; rfl, B2.out⟩
    · go_wp2_with (first | (refine (Fits_yes _ _ _ _ (by omega) (by omega)).mono ?_; rintro e u ⟨rfl, rfl⟩) | (refine (Fits_no _ _ _ _ (by omega)).mono ?_; rintro e u ⟨rfl, rfl⟩))
      clear k0 k1 k2
      go_loopw [3, 4] (fun ok i wr => ok = .bool false ∧ (∃ q, i = .int .i64 q) ∧ Below w0.heap.size w0 wr) (fun _ _ _ => 0)
      case atStart => exact ⟨by first | rfl | (congr 1; simp; omega), ⟨_, rfl⟩, B0.out⟩
      case round =>
        obtain ⟨rfl, ⟨q, rfl⟩, hb⟩ := hrel
        have B1 := Lib.hid hb
        clear hb B0
        go_wp2
        go_loopw [3, 5] (fun ok i wr => ok = .bool false ∧ (∃ q, i = .int .i64 q) ∧ Below w0.heap.size w0 wr) (fun _ _ _ => 0)
        case atStart => exact ⟨rfl, ⟨_, rfl⟩, B1.out⟩
        case round =>
          obtain ⟨rfl, ⟨q, rfl⟩, hb⟩ := hrel
          have B2 := Lib.hid hb
          clear hb B1
          go_wp2
          go_ret
          exact ⟨by rw [checkE, HV.out]; rfl, B2.out⟩
  · go_wp2_with (first | (refine (Fits_no _ _ _ _ (by omega)).mono ?_; rintro e u ⟨rfl, rfl⟩))
    clear k0 k1 k2
    go_loopw [3, 4] (fun ok i wr => ok = .bool false ∧ (∃ q, i = .int .i64 q) ∧ Below w0.heap.size w0 wr) (fun _ _ _ => 0)
    case atStart => exact ⟨by first | rfl | (congr 1; simp; omega), ⟨_, rfl⟩, B0.out⟩
    case round =>
      obtain ⟨rfl, ⟨q, rfl⟩, hb⟩ := hrel
      have B1 := Lib.hid hb
      clear hb B0
      go_wp2
      go_loopw [3, 5] (fun ok i wr => ok = .bool false ∧ (∃ q, i = .int .i64 q) ∧ Below w0.heap.size w0 wr) (fun _ _ _ => 0)
      case atStart => exact ⟨rfl, ⟨_, rfl⟩, B1.out⟩
      case round =>
        obtain ⟨rfl, ⟨q, rfl⟩, hb⟩ := hrel
        have B2 := Lib.hid hb
        clear hb B1
        go_wp2
        go_ret
        exact ⟨by rw [checkE, HV.out]; rfl, B2.out⟩
end Go.Proofs.Ytnnlbbmimdohoaa
/- The specification of layer 1: what it refuses (2). -/
namespace Go.Proofs.Ytnnlbbmimdohoaa
open Go.RowKit Go.Maps
attribute [local go_sem] Oper.semAt_some

set_option maxRecDepth 10000 in
set_option maxHeartbeats 1600000 in
theorem refCheck_any (p1 : Option Addr) (c1 : Nat) (p2 : Option Addr) (c2 : Nat) (long : List Int) (sz : Int) (ks : List K4) (w0 : World) (h : LogAt w0 p1 p2 long ks) :
    Calls Try.prog 18 #[.agg #[.slice p1 long.length c1, .int .i64 sz, .slice p2 ks.length c2]] w0 fun e w' => e = .returned (.int .i64 (checkE long sz ks)) ∧ Below w0.heap.size w0 w' := by
  by_cases hno : ¬ (1 ≤ long.length ∧ long.length ≤ 6 ∧ 1 ≤ sz ∧ sz ≤ 6 ∧ ks.length ≤ 3)
  · exact refCheck_no p1 c1 p2 c2 long sz ks w0 h hno
  have hhead := Classical.not_not.1 hno
  clear hno
  have hb1 := h.b1
  have hb2 := h.b2
  have HH := Lib.hid h
  clear h
  go_enter Try.func18, Try.ntmps18
  have hba := below_alloc w0 (.cells #[.slice p1 long.length c1, .int .i64 sz, .slice p2 ks.length c2] 25)
  have r0 := Row.new w0 #[.slice p1 long.length c1, .int .i64 sz, .slice p2 ks.length c2] 25
  have R0 := Lib.hid r0
  have B0 := Lib.hid hba
  clear hba
  · obtain ⟨g1, g2, g3, g4, g5⟩ := hhead
    clear hb1 hb2
    have k0 := r0.cell 0 (v := .slice p1 long.length c1) rfl
    have k1 := r0.cell 1 (v := .int .i64 sz) rfl
    have k2 := r0.cell 2 (v := .slice p2 ks.length c2) rfl
    clear r0
    go_wp2_with (first | (refine (Fits_yes _ _ _ _ (by omega) (by omega)).mono ?_; rintro e u ⟨rfl, rfl⟩))
    clear k0 k1 k2
    go_loopw [3, 4] (fun ok i wr => (((∃ (j : Nat) (y : Int), j ≤ long.length ∧ i = .int .i64 j ∧ ok = .bool true ∧ y ≤ 12 ∧ (0 < j → y = at0 long (j - 1)) ∧ (j = 0 → y = 12) ∧ Hid (fallB 12 long = fallB y (long.drop j))) ∨ (ok = .bool false ∧ (∃ q, i = .int .i64 q) ∧ Hid (validB long sz ks = false)))) ∧ Row wr w0.heap.size #[.slice p1 long.length c1, .int .i64 sz, .slice p2 ks.length c2] 25 ∧ Below w0.heap.size w0 wr) (fun _ i _ => long.length - (intOf i).toNat)
    case atStart => exact ⟨.inl ⟨0, 12, by omega, rfl, by first | rfl | (congr 1; simp; omega), by omega, by omega, by omega, Lib.hid rfl⟩, R0.out, B0.out⟩
    case round =>
      obtain ⟨hi, r0, hb⟩ := hrel
      clear R0 B0
      have R0 := Lib.hid r0
      have B0 := Lib.hid hb
      have k0 := r0.cell 0 (v := .slice p1 long.length c1) rfl
      have k2 := r0.cell 2 (v := .slice p2 ks.length c2) rfl
      clear r0 hb
      rcases hi with ⟨j, y, hj, rfl, rfl, hy, hyp, hy0, HF⟩ | ⟨rfl, ⟨q, rfl⟩, HV⟩
      · by_cases hjl : j < long.length
        · obtain ⟨b, o, rfl, hc⟩ := (HH.out.l.below B0.out) j hjl
          have hst := fall_at (y := y) hjl
          rw [← HF.out] at hst
          have HST := Lib.hid hst
          clear hst HF
          by_cases hx : 1 ≤ at0 long j ∧ at0 long j ≤ 12
          · by_cases hj0 : j = 0
            · subst hj0
              have hc0 : wr.cell? ⟨b, o, none⟩ = some (.int .i64 (at0 long 0)) := by simpa using hc
              have hy12 := hy0 rfl
              clear hy0 hyp
              subst hy12
              go_wp2_with fail
              go_quiet ((go_at_call 46; exact quiet_eq (Fits_yes _ _ _ _ (by omega) (by omega))))
              go_wp2
              go_roundw
              case rel => exact ⟨.inl ⟨1, at0 long 0, by omega, by go_num, rfl, by omega, fun _ => rfl, by omega, Lib.hid (by rw [HST.out, show decide (1 ≤ at0 long 0) = true by simp; omega, show decide (at0 long 0 ≤ 12) = true by simp; omega]; simp)⟩, R0.out.drewN _, below_drewN B0.out _⟩
              case measure => simp [intOf]; omega
            · obtain ⟨b', o', e', hc'⟩ := (HH.out.l.below B0.out) (j - 1) (by omega)
              cases e'
              have hyj := hyp (by omega)
              have hjz : ((j : Int) == 0) = false := by simp; omega
              have hs1 : IntKind.i64.wrap ((j : Int) - 1) = (j : Int) - 1 := IntWalk.i64_in _ (by omega)
              have hs2 : (0 : Int) ≤ (j : Int) - 1 := by omega
              have hs3 : ((j : Int) - 1).toNat = j - 1 := by omega
              clear hyp hy0
              by_cases hle : at0 long j ≤ at0 long (j - 1)
              · go_wp2_with fail
                go_quiet ((go_at_call 46; exact quiet_eq (Fits_yes _ _ _ _ (by omega) (by omega))))
                go_wp2
                go_roundw
                case rel => exact ⟨.inl ⟨j + 1, at0 long j, by omega, by go_num, rfl, by omega, fun _ => rfl, by omega, Lib.hid (by rw [HST.out, show decide (1 ≤ at0 long j) = true by simp; omega, show decide (at0 long j ≤ y) = true by simp; omega]; simp)⟩, R0.out.drewN _, below_drewN B0.out _⟩
                case measure => simp [intOf]; omega
              · have HVF := Lib.hid (not_fall (long := long) (sz := sz) (ks := ks) (by rw [HST.out, show decide (at0 long j ≤ y) = false by simp; omega]; simp)).symm
                go_wp2_with fail
                go_quiet ((go_at_call 46; exact quiet_eq (Fits_yes _ _ _ _ (by omega) (by omega))))
                go_wp2
                go_roundw
                case rel => exact ⟨.inr ⟨by first | rfl | (congr 1; simp; omega), ⟨_, rfl⟩, Lib.hid HVF.out⟩, R0.out.drewN _, below_drewN B0.out _⟩
                case measure => simp [intOf]; omega
          · have hfb : fallB 12 long = false := by
              rw [HST.out]
              rcases (show at0 long j < 1 ∨ y < at0 long j by omega) with h | h
              · rw [show decide (1 ≤ at0 long j) = false by simp; omega]; simp
              · rw [show decide (at0 long j ≤ y) = false by simp; omega]; simp
            have HVF := Lib.hid (not_fall (long := long) (sz := sz) (ks := ks) hfb).symm
            clear hfb
            clear hyp hy0
            go_wp2_with fail
            go_quiet ((go_at_call 46; exact quiet_eq (Fits_no _ _ _ _ (by omega))))
            go_wp2
            go_roundw
            case rel => exact ⟨.inr ⟨rfl, ⟨_, rfl⟩, Lib.hid HVF.out⟩, R0.out.drewN _, below_drewN B0.out _⟩
            case measure => simp [intOf]; omega
        · obtain rfl : j = long.length := by omega
          have HFF := HF
          rw [List.drop_length] at HFF
          clear HF hyp hy0
          go_wp2_with fail
          clear k0 k2
          go_loopw [3, 5] (fun ok i wr => ((∃ j : Nat, j ≤ ks.length ∧ i = .int .i64 j ∧ ok = .bool true ∧ Hid (∀ x ∈ ks.take j, kvalidB x long.length = true)) ∨ (ok = .bool false ∧ (∃ q, i = .int .i64 q) ∧ Hid (validB long sz ks = false))) ∧ Row wr w0.heap.size #[.slice p1 long.length c1, .int .i64 sz, .slice p2 ks.length c2] 25 ∧ Below w0.heap.size w0 wr) (fun _ i _ => ks.length - (intOf i).toNat)
          case atStart => exact ⟨.inl ⟨0, by omega, rfl, rfl, Lib.hid (by simp)⟩, R0.out, B0.out⟩
          case round =>
            obtain ⟨hi, r0, hb⟩ := hrel
            clear R0 B0
            have R0 := Lib.hid r0
            have B0 := Lib.hid hb
            have k0 := r0.cell 0 (v := .slice p1 long.length c1) rfl
            have k2 := r0.cell 2 (v := .slice p2 ks.length c2) rfl
            have hz0 := r0.lt
            clear r0 hb
            rcases hi with ⟨j, hj, rfl, rfl, HA⟩ | ⟨rfl, ⟨q, rfl⟩, HV⟩
            · by_cases hjk : j < ks.length
              · obtain ⟨b, o, rfl, q0, q1, q2, q3⟩ := (HH.out.k.below B0.out) j hjk
                have hki := kvalid_iff (k := ks[j]) (n := long.length) g2
                have HNK := Lib.hid (fun h => not_knot (long := long) (sz := sz) hjk h : kvalidB ks[j] long.length = false → validB long sz ks = false)
                have HTK := Lib.hid (List.take_succ_eq_append_getElem hjk)
                generalize ks[j] = kk at *
                have R1 := Lib.hid (R0.out.alloc (.cells #[.int .i64 kk.al, .int .i64 kk.ah, .int .i64 kk.fl, .int .i64 kk.fh] 61))
                have B1 := Lib.hid (B0.out.alloc B0.out.size (.cells #[.int .i64 kk.al, .int .i64 kk.ah, .int .i64 kk.fl, .int .i64 kk.fh] 61))
                have X1 := Lib.hid (Row.new wr #[.int .i64 kk.al, .int .i64 kk.ah, .int .i64 kk.fl, .int .i64 kk.fh] 61)
                have hnl : (long.length : Int) ≤ 6 := by omega
                clear k0
                cases hr1 : rightB kk.al kk.ah 23
                · have HV := Lib.hid (HNK.out (by cases hv : kvalidB kk long.length; rfl; rw [(hki.1 hv).1] at hr1; cases hr1))
                  clear hki
                  go_wp2_with fail
                  refine (Right_is _ _ _ _ hr1).mono ?_
                  rintro e w3 ⟨rfl, hb3⟩
                  have R2 := Lib.hid (R1.out.below hb3 (by simp; omega))
                  have B2 := Lib.hid (B1.out.trans (hb3.mono B1.out.size))
                  clear hb3 R1 B1 X1
                  go_wp2
                  go_roundw
                  case rel => exact ⟨.inr ⟨rfl, ⟨_, rfl⟩, HV⟩, R2.out, B2.out⟩
                  case measure => simp [intOf]; omega
                · obtain ⟨a0, a1, a2⟩ := rightB_iff.1 hr1
                  go_wp2_with fail
                  refine (Right_is _ _ _ _ hr1).mono ?_
                  rintro e w3 ⟨rfl, hb3⟩
                  have R2 := Lib.hid (R1.out.below hb3 (by simp; omega))
                  have B2 := Lib.hid (B1.out.trans (hb3.mono B1.out.size))
                  have X2 := Lib.hid (X1.out.below hb3 (by simp))
                  clear hb3 R1 B1 X1
                  have x0 := X2.out.cell 0 (v := .int .i64 kk.al) rfl
                  have x1 := X2.out.cell 1 (v := .int .i64 kk.ah) rfl
                  have x2 := X2.out.cell 2 (v := .int .i64 kk.fl) rfl
                  have x3 := X2.out.cell 3 (v := .int .i64 kk.fh) rfl
                  have k0 := R2.out.cell 0 (v := .slice p1 long.length c1) rfl
                  by_cases hw1 : kk.ah - kk.al ≤ 3
                  · cases hr2 : rightB kk.fl kk.fh long.length
                    · have HV := Lib.hid (HNK.out (by cases hv : kvalidB kk long.length; rfl; rw [(hki.1 hv).2.2.1] at hr2; cases hr2))
                      clear hki
                      go_wp2_with fail
                      refine (Right_is _ _ _ _ hr2).mono ?_
                      rintro e w4 ⟨rfl, hb4⟩
                      have R3 := Lib.hid (R2.out.below hb4 R2.out.lt)
                      have B3 := Lib.hid (B2.out.trans (hb4.mono B2.out.size))
                      clear hb4 R2 B2 X2 x0 x1 x2 x3 k0
                      go_wp2
                      go_roundw
                      case rel => exact ⟨.inr ⟨rfl, ⟨_, rfl⟩, HV⟩, R3.out, B3.out⟩
                      case measure => simp [intOf]; omega
                    · obtain ⟨b0, b1, b2⟩ := rightB_iff.1 hr2
                      go_wp2_with fail
                      refine (Right_is _ _ _ _ hr2).mono ?_
                      rintro e w4 ⟨rfl, hb4⟩
                      have R3 := Lib.hid (R2.out.below hb4 R2.out.lt)
                      have B3 := Lib.hid (B2.out.trans (hb4.mono B2.out.size))
                      have X3 := Lib.hid (X2.out.below hb4 X2.out.lt)
                      clear hb4 R2 B2 X2 x0 x1 x2 x3 k0
                      have x2 := X3.out.cell 2 (v := .int .i64 kk.fl) rfl
                      have x3 := X3.out.cell 3 (v := .int .i64 kk.fh) rfl
                      by_cases hw2 : kk.fh - kk.fl ≤ 1
                      · have HKV := Lib.hid (hki.2 ⟨hr1, hw1, hr2, hw2⟩)
                        clear hki
                        go_wp2
                        go_roundw
                        case rel =>
                          refine ⟨.inl ⟨j + 1, by omega, by go_num, rfl, Lib.hid ?_⟩, R3.out, B3.out⟩
                          intro x hx
                          rw [HTK.out] at hx
                          rcases List.mem_append.1 hx with h | h
                          · exact HA.out x h
                          · obtain rfl : x = kk := by simpa using h
                            exact HKV.out
                        case measure => simp [intOf]; omega
                      · have HV := Lib.hid (HNK.out (by cases hv : kvalidB kk long.length; rfl; exact absurd (hki.1 hv).2.2.2 hw2))
                        clear hki
                        go_wp2
                        go_roundw
                        case rel => exact ⟨.inr ⟨by first | rfl | (congr 1; simp; omega), ⟨_, rfl⟩, HV⟩, R3.out, B3.out⟩
                        case measure => simp [intOf]; omega
                  · have HV := Lib.hid (HNK.out (by cases hv : kvalidB kk long.length; rfl; exact absurd (hki.1 hv).2.1 hw1))
                    clear hki
                    go_wp2
                    go_roundw
                    case rel => exact ⟨.inr ⟨by first | rfl | (congr 1; simp; omega), ⟨_, rfl⟩, HV⟩, R2.out, B2.out⟩
                    case measure => simp [intOf]; omega
              · obtain rfl : j = ks.length := by omega
                have HALL := HA.out
                rw [List.take_length] at HALL
                have HV := Lib.hid (show validB long sz ks = true by simp only [validB, Bool.and_eq_true, decide_eq_true_eq]; exact ⟨⟨⟨⟨⟨⟨g1, g2⟩, g3⟩, g4⟩, g5⟩, HFF.out⟩, List.all_eq_true.2 HALL⟩)
                clear HALL
                go_wp2
                go_ret
                exact ⟨by rw [checkE, HV.out]; rfl, B0.out⟩
            · go_wp2
              go_ret
              exact ⟨by rw [checkE, HV.out]; rfl, B0.out⟩
      · go_wp2_with fail
        have B1 := Lib.hid B0.out
        clear B0 k0 k2 R0
        go_loopw [3, 5] (fun ok i wr => ok = .bool false ∧ (∃ q, i = .int .i64 q) ∧ Below w0.heap.size w0 wr) (fun _ _ _ => 0)
        case atStart => exact ⟨rfl, ⟨_, rfl⟩, B1.out⟩
        case round =>
          obtain ⟨rfl, ⟨q, rfl⟩, hb⟩ := hrel
          have B2 := Lib.hid hb
          clear hb B1
          go_wp2
          go_ret
          exact ⟨by rw [checkE, HV.out]; rfl, B2.out⟩
end Go.Proofs.Ytnnlbbmimdohoaa
/- The specification of layer 1: ribbons and columns. -/
namespace Go.Proofs.Ytnnlbbmimdohoaa
open Go.RowKit Go.Maps
attribute [local go_sem] Oper.semAt_some

set_option maxRecDepth 10000 in
set_option maxHeartbeats 800000 in
theorem refRibbon_any (p1 : Option Addr) (c1 : Nat) (p2 : Option Addr) (c2 : Nat) (long : List Int) (sz : Int) (ks : List K4) (w0 : World) (h : LogAt w0 p1 p2 long ks) :
    Calls Try.prog 16 #[.agg #[.slice p1 long.length c1, .int .i64 sz, .slice p2 ks.length c2]] w0 fun e w' => e = .returned (.tuple #[.int .i64 (if validB long sz ks then psum long long.length else 0), .int .i64 (checkE long sz ks)]) ∧ Below w0.heap.size w0 w' := by
  go_enter Try.func16, Try.ntmps16
  have hba := below_alloc w0 (.cells #[.slice p1 long.length c1, .int .i64 sz, .slice p2 ks.length c2] 25)
  have r0 := Row.new w0 #[.slice p1 long.length c1, .int .i64 sz, .slice p2 ks.length c2] 25
  have HH := Lib.hid (h.below hba)
  have HC := Lib.hid (refCheck_any p1 c1 p2 c2 long sz ks _ HH.out)
  clear h
  cases hb : validB long sz ks
  · go_wp2_with (first | (refine HC.out.mono ?_; rw [checkE, hb]; rintro e w1 ⟨rfl, hb1⟩; have HB := Lib.hid (hba.trans (hb1.mono (by simp))); clear hb1))
    go_ret2
    exact ⟨by rw [checkE, hb]; rfl, HB.out⟩
  · have hok := valid_ok hb
    have hn6 := hok.L.n6
    have hlong := total_psum hok.L long.length (Nat.le_refl _)
    rw [List.take_length] at hlong
    have HLONG := Lib.hid hlong
    clear hlong
    go_wp2_with fail
    refine HC.out.mono ?_
    rw [checkE, hb]
    rintro e w1 ⟨rfl, hb1⟩
    have HB := Lib.hid (hba.trans (hb1.mono (by simp)))
    have R1 := Lib.hid (r0.below hb1 (by simp))
    have HT := Lib.hid (Total_any p1 c1 long w1 (by unfold maxLen; omega) (HH.out.below hb1).l)
    rw [HLONG.out] at HT
    clear hb1 r0 hba HC
    have k0 := R1.out.cell 0 (v := .slice p1 long.length c1) rfl
    go_wp2_with (first | (refine HT.out.mono ?_; rintro e u ⟨rfl, rfl⟩))
    go_ret2
    exact ⟨by rw [checkE, hb]; rfl, HB.out⟩

set_option maxRecDepth 10000 in
set_option maxHeartbeats 800000 in
theorem refcolumn_any (p1 : Option Addr) (c1 : Nat) (p2 : Option Addr) (c2 : Nat) (long : List Int) (sz : Int) (ks : List K4) (w0 : World) (h : LogAt w0 p1 p2 long ks) (hL : LongOk long) (hc1 : long.length ≤ c1) (t : Nat) (ht : t < long.length) (a : Int) (ha0 : 0 ≤ a) (ha1 : a ≤ 23) :
    Calls Try.prog 61 #[.agg #[.slice p1 long.length c1, .int .i64 sz, .slice p2 ks.length c2], .int .i64 t, .int .i64 a] w0 fun e w' => e = .returned (.int .i64 (psum long t + a * at0 long t / 24)) ∧ Below w0.heap.size w0 w' := by
  obtain ⟨b, o, rfl, hcell⟩ := h.l t ht
  have hn6 := hL.n6
  have hci := col_in hL ha0 ha1 ht
  have hps := psum_range hL t (by omega)
  have h1 := hL.lo t ht
  have h12 := hL.hi t ht
  have m0 : 0 ≤ a * at0 long t := Int.mul_nonneg ha0 (by omega)
  have m1 : a * at0 long t ≤ 23 * at0 long t := Int.mul_le_mul_of_nonneg_right ha1 (by omega)
  have htot := total_psum hL t (by omega)
  have hba := below_alloc w0 (.cells #[.slice (some ⟨b, o, none⟩) long.length c1, .int .i64 sz, .slice p2 ks.length c2] 25)
  have HT := Lib.hid (fun nq => (by
    have hz := Total_any (some ⟨b, o, none⟩) c1 (long.take t) ((w0.alloc (.cells #[.slice (some ⟨b, o, none⟩) long.length c1, .int .i64 sz, .slice p2 ks.length c2] 25)).drewN nq) (by rw [List.length_take]; unfold maxLen; omega) (fun i hi => by
      rw [List.length_take] at hi
      obtain ⟨b', o', e, hc⟩ := (h.l.below hba) i (by omega)
      exact ⟨b', o', e, by rw [show at0 (long.take t) i = at0 long i by rw [at0_lt (by rw [List.length_take]; omega), at0_lt (by omega), List.getElem_take]]; exact hc⟩)
    rw [htot, show (long.take t).length = t by rw [List.length_take]; omega] at hz
    exact hz) : ∀ nq, Calls Try.prog 47 #[.slice (some ⟨b, o, none⟩) t c1] ((w0.alloc (.cells #[.slice (some ⟨b, o, none⟩) long.length c1, .int .i64 sz, .slice p2 ks.length c2] 25)).drewN nq) fun e w' => e = .returned (.int .i64 (psum long t)) ∧ (w0.alloc (.cells #[.slice (some ⟨b, o, none⟩) long.length c1, .int .i64 sz, .slice p2 ks.length c2] 25)).drewN nq = w')
  have hcl : (w0.alloc (.cells #[.slice (some ⟨b, o, none⟩) long.length c1, .int .i64 sz, .slice p2 ks.length c2] 25)).cell? ⟨b, o + t, none⟩ = some (.int .i64 (at0 long t)) := by
    obtain ⟨b', o', e, hc⟩ := (h.l.below hba) t ht
    cases e
    exact hc
  have HB := Lib.hid hba
  have r0 := Row.new w0 #[.slice (some ⟨b, o, none⟩) long.length c1, .int .i64 sz, .slice p2 ks.length c2] 25
  have k0 := r0.cell 0 (v := .slice (some ⟨b, o, none⟩) long.length c1) rfl
  clear h htot hcell hba r0
  generalize at0 long t = x at *
  generalize psum long t = ps at *
  have e1 : IntKind.i64.wrap (a * x) = a * x := IntWalk.i64_in _ (by omega)
  have e2 : (a * x).tdiv 24 = a * x / 24 := Int.tdiv_eq_ediv_of_nonneg m0
  have e3 : IntKind.i64.wrap (a * x / 24) = a * x / 24 := IntWalk.i64_in _ (by omega)
  have e4 : IntKind.i64.wrap (ps + a * x / 24) = ps + a * x / 24 := IntWalk.i64_in _ (by omega)
  have i0 : (t : Int) ≤ (c1 : Int) := by omega
  have i1 : (0 : Int) ≤ (t : Int) := by omega
  have i2 : (t : Int) < (long.length : Int) := by omega
  go_enter Try.func61, Try.ntmps61
  go_wp2_with fail
  go_quiet ((go_at_call 47; exact quiet_eq (HT.out _)))
  clear e1 e2 e3 e4
  go_wp2
  go_ret
  exact ⟨rfl, by exact below_drewN HB.out _⟩

set_option maxRecDepth 10000 in
set_option maxHeartbeats 800000 in
theorem refColumn_any (p1 : Option Addr) (c1 : Nat) (p2 : Option Addr) (c2 : Nat) (long : List Int) (sz : Int) (ks : List K4) (w0 : World) (h : LogAt w0 p1 p2 long ks) (hc1 : long.length ≤ c1) (t a : Int) :
    Calls Try.prog 20 #[.agg #[.slice p1 long.length c1, .int .i64 sz, .slice p2 ks.length c2], .int .i64 t, .int .i64 a] w0 fun e w' => e = .returned (.tuple #[.int .i64 (if validB long sz ks then if showsB a t long.length then psum long t.toNat + a * at0 long t.toNat / 24 else 0 else 0), .int .i64 (if validB long sz ks then if showsB a t long.length then 0 else 11 else 10)]) ∧ Below w0.heap.size w0 w' := by
  go_enter Try.func20, Try.ntmps20
  have hba := below_alloc w0 (.cells #[.slice p1 long.length c1, .int .i64 sz, .slice p2 ks.length c2] 25)
  have r0 := Row.new w0 #[.slice p1 long.length c1, .int .i64 sz, .slice p2 ks.length c2] 25
  have HH := Lib.hid (h.below hba)
  have HC := Lib.hid (refCheck_any p1 c1 p2 c2 long sz ks _ HH.out)
  clear h
  cases hb : validB long sz ks
  · go_wp2_with (first | (refine HC.out.mono ?_; rw [checkE, hb]; rintro e w1 ⟨rfl, hb1⟩; have HB := Lib.hid (hba.trans (hb1.mono (by simp))); clear hb1))
    go_ret2
    exact ⟨rfl, HB.out⟩
  · have hok := valid_ok hb
    have hL := hok.L
    have hn6 := hok.L.n6
    have hn1 := hok.L.n1
    go_wp2_with fail
    refine HC.out.mono ?_
    rw [checkE, hb]
    rintro e w1 ⟨rfl, hb1⟩
    have HB := Lib.hid (hba.trans (hb1.mono (by simp)))
    have R1 := Lib.hid (r0.below hb1 (by simp))
    have H1 := Lib.hid (HH.out.below hb1)
    clear hb1 r0 hba HC HH
    have k0 := R1.out.cell 0 (v := .slice p1 long.length c1) rfl
    by_cases q1 : 0 ≤ t ∧ t ≤ (long.length : Int) - 1
    · by_cases q2 : 0 ≤ a ∧ a ≤ 23
      · have hsh : showsB a t long.length = true := by simp [showsB]; omega
        obtain ⟨m, rfl⟩ : ∃ m : Nat, t = m := ⟨t.toNat, by omega⟩
        have HCO := Lib.hid (refcolumn_any p1 c1 p2 c2 long sz ks w1 H1.out hL hc1 m (by omega) a q2.1 q2.2)
        go_wp2_with (first | (refine load_row rfl 25 _ rfl _ rfl 25 _ _ R1.out Try.underlying25 rfl (by kernel_rfl) ?_) | (refine (Fits_yes _ _ _ _ (by omega) (by omega)).mono ?_; rintro e u ⟨rfl, rfl⟩))
        refine HCO.out.mono ?_
        rintro e w2 ⟨rfl, hb2⟩
        have HB2 := Lib.hid (HB.out.trans (hb2.mono HB.out.size))
        clear hb2 HCO
        go_wp2
        go_ret2
        exact ⟨rfl, HB2.out⟩
      · have hsh : showsB a t long.length = false := by simp [showsB]; omega
        go_wp2_with (first | (refine (Fits_yes _ _ _ _ (by omega) (by omega)).mono ?_; rintro e u ⟨rfl, rfl⟩) | (refine (Fits_no _ _ _ _ (by omega)).mono ?_; rintro e u ⟨rfl, rfl⟩))
        go_ret2
        exact ⟨rfl, HB.out⟩
    · have hsh : showsB a t long.length = false := by simp [showsB]; omega
      go_wp2_with (first | (refine (Fits_no _ _ _ _ (by omega)).mono ?_; rintro e u ⟨rfl, rfl⟩))
      go_ret2
      exact ⟨rfl, HB.out⟩
end Go.Proofs.Ytnnlbbmimdohoaa
/- The specification of layer 1: the places of a knot. -/
namespace Go.Proofs.Ytnnlbbmimdohoaa
open Go.RowKit Go.Maps
attribute [local go_sem] Oper.semAt_some

theorem Try.infoPlace : (Try.prog.info? 109).map (fun i => (i.zero, i.size, i.bytes)) = some (some (.agg #[.int .i64 0, .int .i64 0]), 2, 16) := by kernel_rfl
/-- The cells of places. -/
def placeVals (l : List (Int × Int)) : List Value := l.flatMap fun p => [.int .i64 p.1, .int .i64 p.2]
theorem placeVals_length : ∀ l : List (Int × Int), (placeVals l).length = l.length * 2
  | [] => rfl
  | p :: l => by
    have := placeVals_length l
    rw [placeVals] at this ⊢
    rw [List.flatMap_cons, List.length_append, this]
    simp; omega
theorem placeVals_append (a b : List (Int × Int)) : placeVals (a ++ b) = placeVals a ++ placeVals b := List.flatMap_append
theorem placeVals_at : ∀ {l : List (Int × Int)} {i : Nat} (h : i < l.length), (placeVals l)[i * 2]? = some (.int .i64 l[i].1) ∧ (placeVals l)[i * 2 + 1]? = some (.int .i64 l[i].2)
  | [], _, h => by simp at h
  | p :: l, 0, _ => by simp [placeVals]
  | p :: l, i + 1, h => by
    have := placeVals_at (l := l) (i := i) (by simpa using h)
    have e0 : (i + 1) * 2 = i * 2 + 1 + 1 := by omega
    have e1 : (i + 1) * 2 + 1 = i * 2 + 1 + 1 + 1 := by omega
    rw [e1, e0]
    simpa [placeVals] using this
/-- Such places lie in memory. -/
def PlacesAt (w : World) (p : Option Addr) (l : List (Int × Int)) : Prop :=
  ∀ i (h : i < l.length), ∃ b o, p = some ⟨b, o, none⟩ ∧ w.cell? ⟨b, o + i * 2, none⟩ = some (.int .i64 l[i].1) ∧ w.cell? ⟨b, o + i * 2 + 1, none⟩ = some (.int .i64 l[i].2)
theorem PlacesAt.below {w w' : World} {p : Option Addr} {l : List (Int × Int)} (h : PlacesAt w p l) (hb : Below w.heap.size w w') : PlacesAt w' p l := by
  intro i hi
  obtain ⟨b, o, hp, h0, h1⟩ := h i hi
  have hlt : b < w.heap.size := cell_block h0
  exact ⟨b, o, hp, by rw [(bcell hb).1 b _ hlt]; exact h0, by rw [(bcell hb).1 b _ hlt]; exact h1⟩
theorem places_of_owns {w : World} {base : Nat} {v : Value} {n : Nat} {l : List (Int × Int)} (hn : l.length = n) (h : w.ownsRow base 109 2 v n (placeVals l)) : ∃ p c, v = .slice p n c ∧ PlacesAt w p l := by
  rcases h.2 with ⟨hv, h0⟩ | ⟨g, cap, cur, hv, hg0, hh, hle, _, _, h4⟩
  · exact ⟨none, 0, by rw [hv, h0], fun i hi => absurd hi (by omega)⟩
  · refine ⟨_, cap, hv, fun i hi => ?_⟩
    have key : ∀ j u, (placeVals l)[j]? = some u → w.cell? ⟨g, 0 + j, none⟩ = some u := by
      intro j u hj
      rw [cell_of_row w g (0 + j) cur _ (0, 0) hh, Nat.zero_add]
      have hjl : j < n * 2 := by
        have := (List.getElem?_eq_some_iff.1 hj).1
        rw [placeVals_length, hn] at this
        exact this
      rw [← h4, List.getElem?_take_of_lt hjl] at hj
      simpa using hj
    obtain ⟨a0, a1⟩ := placeVals_at hi
    exact ⟨g, 0, rfl, key _ _ a0, key _ _ a1⟩
def rowP (k : K4) (i m : Nat) : List (Int × Int) := (List.range m).map fun (j : Nat) => (k.al + (i : Int), k.fl + (j : Int))
def colsP (k : K4) (m n : Nat) : List (Int × Int) := (List.range n).flatMap fun (i : Nat) => rowP k i m
theorem rowP_succ (k : K4) (i m : Nat) : rowP k i (m + 1) = rowP k i m ++ [(k.al + (i : Int), k.fl + (m : Int))] := by
  simp [rowP, List.range_succ]
theorem colsP_succ (k : K4) (m n : Nat) : colsP k m (n + 1) = colsP k m n ++ rowP k n m := by
  simp [colsP, List.range_succ, List.flatMap_append]
theorem colsP_all (k : K4) : colsP k (k.fh - k.fl + 1).toNat (k.ah - k.al + 1).toNat = placesL k := rfl
theorem rowP_length (k : K4) (i m : Nat) : (rowP k i m).length = m := by simp [rowP]
theorem colsP_length (k : K4) (m : Nat) : ∀ n, (colsP k m n).length = n * m
  | 0 => by simp [colsP]
  | n + 1 => by rw [colsP_succ, List.length_append, colsP_length k m n, rowP_length, Nat.add_mul]; omega
/-- The call returned such places. -/
def GavePlaces (l : List (Int × Int)) (w : World) (e : Ending) (w' : World) : Prop := ∃ p c, e = .returned (.slice p l.length c) ∧ PlacesAt w' p l ∧ Below w.heap.size w w'

set_option maxRecDepth 10000 in
set_option maxHeartbeats 1600000 in
theorem refplaces_any (k : K4) (hk : K4Ok k) (haw : k.ah - k.al ≤ 3) (hfw : k.fh - k.fl ≤ 1) (w : World) :
    Calls Try.prog 79 #[.agg #[.int .i64 k.al, .int .i64 k.ah, .int .i64 k.fl, .int .i64 k.fh]] w (GavePlaces (placesL k) w) := by
  obtain ⟨i0, hi, hi0, hi1, hi2⟩ := info_parts Try.infoPlace
  obtain ⟨m, hm⟩ : ∃ m : Nat, k.fh - k.fl + 1 = m := ⟨(k.fh - k.fl + 1).toNat, by have := hk.f; omega⟩
  obtain ⟨n, hn⟩ : ∃ n : Nat, k.ah - k.al + 1 = n := ⟨(k.ah - k.al + 1).toNat, by have := hk.a; omega⟩
  have hall := colsP_all k
  rw [hm, hn, Int.toNat_natCast, Int.toNat_natCast] at hall
  have HALL := Lib.hid hall
  clear hall
  have ha0 := hk.a0
  have ha1 := hk.a1
  have hf0 := hk.f0
  have hf1 := hk.f1
  have HM := Lib.hid hm
  have HN := Lib.hid hn
  have hn4 : n ≤ 4 := by omega
  have hm2 : m ≤ 2 := by omega
  clear hm hn
  go_enter Try.func79, Try.ntmps79
  go_wp2
  go_loopw [3, 4, 5] (fun v a f wr => ∃ i : Nat, i ≤ n ∧ a = .int .i64 (k.al + (i : Int)) ∧ wr.ownsRow (w.heap.size + 1) 109 2 v (i * m) (placeVals (colsP k m i)) ∧ Row wr w.heap.size #[.int .i64 k.al, .int .i64 k.ah, .int .i64 k.fl, .int .i64 k.fh] 61 ∧ Below w.heap.size w wr) (fun _ a _ _ => (k.al + n - intOf a).toNat)
  case atStart => exact ⟨0, by omega, by simp, by simpa [colsP, placeVals] using World.ownsRow_nil _ _ _ _, Row.new _ _ _, below_alloc _ _⟩
  case round =>
    obtain ⟨i, hin, rfl, hown, hr0, hb0⟩ := hrel
    have HO := Lib.hid hown
    have HR := Lib.hid hr0
    have HB := Lib.hid hb0
    have hz := hr0.lt
    have x1 := hr0.cell 1 (v := .int .i64 k.ah) rfl
    have x2 := hr0.cell 2 (v := .int .i64 k.fl) rfl
    have x3 := hr0.cell 3 (v := .int .i64 k.fh) rfl
    clear hown hr0 hb0
    by_cases hlt : i < n
    · have h1 : k.al + (i : Int) ≤ k.ah := by have := HN.out; omega
      go_wp2_with fail
      clear x1 x2 x3
      go_loopw [3, 5] (fun v f wr => ∃ j : Nat, j ≤ m ∧ f = .int .i64 (k.fl + (j : Int)) ∧ wr.ownsRow (w.heap.size + 1) 109 2 v (i * m + j) (placeVals (colsP k m i ++ rowP k i j)) ∧ Row wr w.heap.size #[.int .i64 k.al, .int .i64 k.ah, .int .i64 k.fl, .int .i64 k.fh] 61 ∧ Below w.heap.size w wr) (fun _ f _ => (k.fl + m - intOf f).toNat)
      case atStart => exact ⟨0, by omega, by simp, by simpa [rowP] using HO.out, HR.out, HB.out⟩
      case round =>
        clear HO HR HB hz
        obtain ⟨j, hjm, rfl, hown, hr0, hb0⟩ := hrel
        have HO := Lib.hid hown
        have HR := Lib.hid hr0
        have HB := Lib.hid hb0
        have hz := hr0.lt
        have x3 := hr0.cell 3 (v := .int .i64 k.fh) rfl
        clear hown hr0 hb0
        have hij : i * m + j ≤ 100 := by
          have : i * m ≤ 4 * 2 := Nat.mul_le_mul (by omega) hm2
          omega
        by_cases hjt : j < m
        · have h2 : k.fl + (j : Int) ≤ k.fh := by have := HM.out; omega
          go_wp2_with (first | (at_builtin; (refine wpList_append_own _ rfl _ _ 105 rfl (w.heap.size + 1) 109 i0 _ 2 16 Try.underlying105 hi hi0 hi1 hi2 rfl (by decide) _ _ _ rfl (HO.out.alloc _) ⟨wr.heap.size, 0, none⟩ 1 1 [.int .i64 (k.al + (i : Int)), .int .i64 (k.fl + (j : Int))] rfl rfl (fun q u hq => by rw [Addr.add_lit, Nat.zero_add]; exact (Row.new wr #[.int .i64 (k.al + (i : Int)), .int .i64 (k.fl + (j : Int))] 109).cell q (by simpa using hq)) (by simp [Value.oneCell']) (by unfold maxLen; omega) (by omega) (by simp; omega) ?_); intro v' w2 hown' hgrow _; have HO2 := Lib.hid hown'; have hg2 : Below (w.heap.size + 1) wr w2 := ((Below.refl _ _).alloc (by omega) _).grown hgrow (by simp; omega) (fun k hk => (HO.out.lt k hk).1); have hz2 := hg2.size; have HR2 := Lib.hid (HR.out.below hg2 (by omega)); have HB2 := Lib.hid (HB.out.trans (hg2.mono (by omega))); clear hown' hgrow hg2))
          exact ⟨⟨j + 1, by omega, by congr 1; omega, by have h := HO2.out; rw [rowP_succ, ← List.append_assoc, placeVals_append]; exact h, HR2.out, HB2.out⟩, by simp [intOf]; omega⟩
        · obtain rfl : j = m := by omega
          have h2 : ¬ k.fl + (j : Int) ≤ k.fh := by have := HM.out; omega
          go_wp2
          exact ⟨⟨i + 1, by omega, by congr 1; omega, by have h := HO.out; rw [colsP_succ, Nat.add_mul, Nat.one_mul]; exact h, HR.out, HB.out⟩, by simp [intOf]; omega⟩
    · obtain rfl : i = n := by omega
      have h1 : ¬ k.al + (i : Int) ≤ k.ah := by have := HN.out; omega
      go_wp2
      go_ret
      have h := HO.out
      rw [HALL.out] at h
      have hlen : (placesL k).length = i * m := by rw [← HALL.out, colsP_length]
      obtain ⟨p, c, rfl, hp⟩ := places_of_owns hlen h
      exact ⟨p, c, by rw [hlen]; rfl, hp, HB.out⟩
end Go.Proofs.Ytnnlbbmimdohoaa
/- The specification of layer 1: the columns of one more knot. -/
namespace Go.Proofs.Ytnnlbbmimdohoaa
open Go.RowKit Go.Maps
attribute [local go_sem] Oper.semAt_some

/-- Truth values, in a row of the call's own. -/
theorem copy_bools (w : World) (kn : List Bool) (b o c2 : Nat) (hks : BoolsAt w (some ⟨b, o, none⟩) kn) (h1 : 0 < kn.length) (h3 : kn.length ≤ 100) (ty : TypeId) (z : Nat) :
    ∃ g cap cur w', (Builtin.append_ #[47, 47] ty #[.slice (some ⟨z, 0, none⟩) 0 0, .slice (some ⟨b, o, none⟩) kn.length c2]).run Try.prog w = .ok (.slice (some ⟨g, 0, none⟩) kn.length cap) w' ∧ Row w' g cur 4 ∧ w.heap.size ≤ g ∧ cur.toList.take kn.length = kn.map Value.bool ∧ kn.length ≤ cap ∧ Below w.heap.size w w' := by
  obtain ⟨i0, hi, hi0, hi1, hi2⟩ := info_parts Try.infoBool
  obtain ⟨v', w', hr, hown, hg⟩ := run_append_arg_grows (P := Try.prog) w 47 ty 4 i0 _ 1 1 Try.underlying47 hi hi0 hi1 hi2 rfl (by decide) ⟨z, 0, none⟩ 0 0 [] rfl (fun j u h => by simp at h)
      ⟨b, o, none⟩ kn.length c2 (kn.map Value.bool) (by simp) (fun j u h => by
        have hj : j < kn.length := by have := (List.getElem?_eq_some_iff.1 h).1; simpa using this
        obtain ⟨b', o', e, hc⟩ := hks j hj
        cases e
        rw [Addr.add_lit, hc, b0_lt hj]
        rw [List.getElem?_map, List.getElem?_eq_getElem hj] at h
        simpa using h) (by omega) (by unfold maxLen; omega) (by omega)
  rw [List.nil_append, Nat.zero_add] at hown
  rcases hown.2 with ⟨_, hn⟩ | ⟨g, cap, cur, hv, hg0, hh, h1, h2, h3, h4⟩
  · omega
  · exact ⟨g, cap, cur, w', by rw [hr, hv], hh, hg0, by simpa using h4, h1, ⟨hg.os, hg.tape, hg.output, hg.size, fun k hk => hg.block k hk (by simp)⟩⟩
/-- The columns of a knot, besides others: as many turns as are looked at. -/
def markTo (long : List Int) (a : Int) (t : Nat) (kn : List Bool) : Nat → List Bool
  | 0 => kn
  | j + 1 => (markTo long a t kn j).set (psum long (t + j) + a * at0 long (t + j) / 24).toNat true
theorem markTo_length (long : List Int) (a : Int) (t : Nat) (kn : List Bool) : ∀ j, (markTo long a t kn j).length = kn.length
  | 0 => rfl
  | j + 1 => by rw [markTo, List.length_set, markTo_length long a t kn j]
def markL (long : List Int) (a : Int) (t : Nat) (kn : List Bool) : List Bool := markTo long a t kn (long.length - t)
theorem b0_take {l : List Bool} {m i : Nat} : b0 (l.take m) i = (decide (i < m) && b0 l i) := by
  unfold b0
  rw [List.getD_eq_getElem?_getD, List.getD_eq_getElem?_getD]
  by_cases h : i < m
  · rw [List.getElem?_take_of_lt h]; simp [h]
  · rw [List.getElem?_eq_none (by rw [List.length_take]; omega)]; simp [h]
theorem b0_all {l m : List Bool} (hl : l.length = m.length) (h : ∀ i, b0 l i = b0 m i) : l = m := by
  apply List.ext_getElem hl
  intro i h1 h2
  have := h i
  rwa [b0_lt h1, b0_lt h2] at this
theorem b0_markTo {long : List Int} {a : Int} {t i : Nat} {kn : List Bool} : ∀ n, b0 (markTo long a t kn n) i = true ↔ b0 kn i = true ∨ (i < kn.length ∧ ∃ j, j < n ∧ i = (psum long (t + j) + a * at0 long (t + j) / 24).toNat)
  | 0 => by simp [markTo]
  | n + 1 => by
    rw [markTo, b0_set, Bool.or_eq_true, Bool.and_eq_true, b0_markTo n, markTo_length]
    simp only [decide_eq_true_eq]
    constructor
    · rintro ((h | ⟨h, j, hj, e⟩) | ⟨e, h⟩)
      · exact .inl h
      · exact .inr ⟨h, j, by omega, e⟩
      · exact .inr ⟨h, n, by omega, e.symm⟩
    · rintro (h | ⟨h, j, hj, e⟩)
      · exact .inl (.inl h)
      · by_cases hjn : j = n
        · subst hjn; exact .inr ⟨e.symm, h⟩
        · exact .inl (.inr ⟨h, j, by omega, e⟩)
/-- What the specification marks is what the program marks, as far as the ribbon goes. -/
theorem mark_take {long : List Int} (hL : LongOk long) {a : Int} (h0 : 0 ≤ a) (h1 : a ≤ 23) (t : Nat) {X : List Bool} (hX : X.length = 72) : markL long a t (X.take (wideN long)) = (orL X (trailD long a t)).take (wideN long) := by
  have hw := wideN_eq hL
  have ht : (trailD long a t).length = 72 := trailL_length _ _ _ _
  have hl : (X.take (wideN long)).length = wideN long := by rw [List.length_take]; omega
  apply b0_all
  · rw [markL, markTo_length, List.length_take, List.length_take, orL_length hX ht, hX]
  · intro i
    rw [Bool.eq_iff_iff, markL, b0_markTo, b0_take, b0_take, b0_orL hX ht, Bool.and_eq_true, Bool.and_eq_true, Bool.or_eq_true, b0_trailD hL h0 h1, hl]
    simp only [decide_eq_true_eq]
    constructor
    · rintro (⟨h, hb⟩ | ⟨h, j, hj, e⟩)
      · exact ⟨h, .inl hb⟩
      · have hc := col_in hL h0 h1 (t := t + j) (by omega)
        have hp := psum_range hL (t + j) (by omega)
        exact ⟨h, .inr ⟨t + j, by omega, by omega, by omega⟩⟩
    · rintro ⟨h, hb | ⟨j, h2, h3, e⟩⟩
      · exact .inl ⟨h, hb⟩
      · refine .inr ⟨h, j - t, by omega, ?_⟩
        rw [show t + (j - t) = j by omega]
        omega
/-- The call returned such truth values. -/
def GaveBools (xs : List Bool) (w : World) (e : Ending) (w' : World) : Prop := ∃ b o c, e = .returned (.slice (some ⟨b, o, none⟩) xs.length c) ∧ w.heap.size ≤ b ∧ BoolsAt w' (some ⟨b, o, none⟩) xs ∧ Below w.heap.size w w'
theorem bools_of_row {w : World} {g : Nat} {cur : Array Value} {xs : List Bool} {t : TypeId} (h : Row w g cur t) (ht : cur.toList.take xs.length = xs.map Value.bool) : BoolsAt w (some ⟨g, 0, none⟩) xs := by
  intro i hi
  refine ⟨g, 0, rfl, ?_⟩
  rw [Nat.zero_add]
  refine h.cell i ?_
  have : (cur.toList.take xs.length)[i]? = (xs.map Value.bool)[i]? := by rw [ht]
  rw [List.getElem?_take_of_lt hi, List.getElem?_map, List.getElem?_eq_getElem hi] at this
  rw [b0_lt hi]
  simpa using this

set_option maxRecDepth 10000 in
set_option maxHeartbeats 1600000 in
theorem refmark_any (p1 : Option Addr) (c1 : Nat) (p2 : Option Addr) (c2 : Nat) (long : List Int) (sz : Int) (ks : List K4) (w0 : World) (h : LogAt w0 p1 p2 long ks) (hL : LongOk long) (hc1 : long.length ≤ c1) (pk : Option Addr) (ck : Nat) (kn : List Bool) (hk : BoolsAt w0 pk kn) (hkl : kn.length = wideN long) (a : Int) (ha0 : 0 ≤ a) (ha1 : a ≤ 23) (t : Nat) (ht : t ≤ 6) :
    Calls Try.prog 92 #[.agg #[.slice p1 long.length c1, .int .i64 sz, .slice p2 ks.length c2], .slice pk kn.length ck, .agg #[.int .i64 a, .int .i64 t]] w0 (GaveBools (markL long a t kn) w0) := by
  have hw := wideN_eq hL
  have hn6 := hL.n6
  have HKL := Lib.hid hkl
  have hk1 : 1 ≤ kn.length := by omega
  have hk72 : kn.length ≤ 72 := by omega
  clear hkl
  obtain ⟨b, o, rfl, _⟩ := hk 0 (by omega)
  go_enter Try.func92, Try.ntmps92
  have hb2 : Below w0.heap.size w0 (((w0.alloc (.cells #[.slice p1 long.length c1, .int .i64 sz, .slice p2 ks.length c2] 25)).alloc (.cells #[.int .i64 a, .int .i64 t] 109)).alloc (.cells #[] 4)) := ((below_alloc _ _).alloc (by simp) _).alloc (by simp; omega) _
  obtain ⟨g, cap, cur, w3, hr, hrow, hg0, htake, hcap, hb3⟩ := copy_bools _ kn b o ck (hk.below hb2) (by omega) (by omega) 47 (w0.heap.size + 1 + 1)
  simp at hg0
  have HR := Lib.hid hr
  have r0 : Row (((w0.alloc (.cells #[.slice p1 long.length c1, .int .i64 sz, .slice p2 ks.length c2] 25)).alloc (.cells #[.int .i64 a, .int .i64 t] 109)).alloc (.cells #[] 4)) w0.heap.size #[.slice p1 long.length c1, .int .i64 sz, .slice p2 ks.length c2] 25 := ((Row.new _ _ _).alloc _).alloc _
  have x0 : Row (((w0.alloc (.cells #[.slice p1 long.length c1, .int .i64 sz, .slice p2 ks.length c2] 25)).alloc (.cells #[.int .i64 a, .int .i64 t] 109)).alloc (.cells #[] 4)) (w0.heap.size + 1) #[.int .i64 a, .int .i64 t] 109 := (Row.new' (by simp) _ _).alloc _
  have R3 := Lib.hid (r0.below hb3 (by simp; omega))
  have X3 := Lib.hid (x0.below hb3 (by simp))
  have K3 := Lib.hid hrow
  have B3 := Lib.hid (hb2.trans (hb3.mono (by simp; omega)))
  have HT := Lib.hid htake
  have H0 := Lib.hid h
  have hlk := R3.out.cell 0 (v := .slice p1 long.length c1) rfl
  clear hr r0 x0 hrow hb3 hb2 htake h hk
  have x1 := X3.out.cell 1 (v := .int .i64 t) rfl
  go_wp2_with (first | (at_builtin; refine wpList_append_run rfl _ _ _ _ rfl _ _ _ rfl rfl HR.out ?_))
  clear x1 HR hlk
  go_loopw [8] (fun q wr => ∃ (j : Nat) (cu : Array Value), t + j ≤ max t long.length ∧ q = .int .i64 ((t + j : Nat) : Int) ∧ Row wr g cu 4 ∧ Hid (cu.toList.take kn.length = (markTo long a t kn j).map Value.bool) ∧ Row wr w0.heap.size #[.slice p1 long.length c1, .int .i64 sz, .slice p2 ks.length c2] 25 ∧ Row wr (w0.heap.size + 1) #[.int .i64 a, .int .i64 t] 109 ∧ Below w0.heap.size w0 wr) (fun q _ => 20 - (intOf q).toNat)
  case atStart => exact ⟨0, cur, by omega, by simp, K3.out, HT, R3.out, X3.out, B3.out⟩
  case round =>
    clear K3 HT R3 X3 B3
    obtain ⟨j, cu, hj, rfl, g1, HT, r1, x1, b1⟩ := hrel
    have G1 := Lib.hid g1
    have R1 := Lib.hid r1
    have X1 := Lib.hid x1
    have B1 := Lib.hid b1
    have k0 := r1.cell 0 (v := .slice p1 long.length c1) rfl
    have xa := x1.cell 0 (v := .int .i64 a) rfl
    clear g1 r1 x1 b1
    by_cases hlt : t + j < long.length
    · have hci := col_in hL ha0 ha1 hlt
      have hps := psum_range hL (t + j) (by omega)
      have hpm := psum_mono hL (i := t + j + 1) (j := long.length) (by omega) (Nat.le_refl _)
      rw [psum_succ hlt] at hpm
      obtain ⟨m, hm⟩ : ∃ m : Nat, psum long (t + j) + a * at0 long (t + j) / 24 = m := ⟨(psum long (t + j) + a * at0 long (t + j) / 24).toNat, by omega⟩
      have hmk : m < kn.length := by have := HKL.out; omega
      have HCO := Lib.hid (refcolumn_any p1 c1 p2 c2 long sz ks wr (H0.out.below B1.out) hL hc1 (t + j) hlt a ha0 ha1)
      rw [hm] at HCO
      have HST := Lib.hid (show markTo long a t kn (j + 1) = (markTo long a t kn j).set m true by rw [markTo, hm, Int.toNat_natCast])
      have htl : (cu.toList.take kn.length).length = kn.length := by rw [HT.out, List.length_map, markTo_length]
      have hcs : kn.length ≤ cu.size := by rw [List.length_take] at htl; simp at htl; omega
      clear hci hps hpm hm htl
      go_wp2_with (first | (refine load_row rfl 25 _ rfl _ rfl 25 _ _ R1.out Try.underlying25 rfl (by kernel_rfl) ?_))
      refine HCO.out.mono ?_
      rintro e w4 ⟨rfl, hb4⟩
      have G2 := Lib.hid (G1.out.below hb4 G1.out.lt)
      have R2 := Lib.hid (R1.out.below hb4 R1.out.lt)
      have X2 := Lib.hid (X1.out.below hb4 X1.out.lt)
      have B2 := Lib.hid (B1.out.trans (hb4.mono B1.out.size))
      clear hb4 HCO G1 R1 X1 B1 k0 xa
      have gc := G2.out.cell m (v := cu[m]'(by omega)) (by simp)
      have gf := G2.out.free m
      go_wp2
      go_roundw
      case rel => exact ⟨j + 1, cu.setIfInBounds m (.bool true), by omega, by go_num, G2.out.set m _, Lib.hid (by rw [HST.out, List.map_set, ← HT.out, ← List.take_set]; simp), R2.out.set_other _ _ (by dsimp only; omega), X2.out.set_other _ _ (by dsimp only; omega), B2.out.setCell (by dsimp only; omega) _⟩
      case measure => simp [intOf]; omega
    · go_wp2
      go_ret
      have hml : (markL long a t kn).length = kn.length := markTo_length _ _ _ _ _
      have hje : markTo long a t kn j = markL long a t kn := by
        rw [markL]
        by_cases htl : t ≤ long.length
        · rw [show long.length - t = j by omega]
        · rw [show j = 0 by omega, show long.length - t = 0 by omega]
      refine ⟨g, 0, cap, by rw [hml]; rfl, by omega, ?_, B1.out⟩
      refine bools_of_row G1.out ?_
      rw [hml, ← hje]
      exact HT.out
end Go.Proofs.Ytnnlbbmimdohoaa
/- The specification of layer 1: all truths. -/
namespace Go.Proofs.Ytnnlbbmimdohoaa
open Go.RowKit Go.Maps
attribute [local go_sem] Oper.semAt_some

theorem Try.infoBools : (Try.prog.info? 47).map (fun i => (i.zero, i.size, i.bytes)) = some (some (.slice none 0 0), 1, 24) := by kernel_rfl
/-- Values that are rows of truth values. -/
def RowsIn (w : World) (vals : List Value) (xss : List (List Bool)) (P : Nat → Prop) : Prop :=
  vals.length = xss.length ∧ ∀ i (h : i < xss.length), ∃ q o c, vals[i]? = some (.slice (some ⟨q, o, none⟩) xss[i].length c) ∧ BoolsAt w (some ⟨q, o, none⟩) xss[i] ∧ q < w.heap.size ∧ P q
theorem RowsIn.below {w w' : World} {vals : List Value} {xss : List (List Bool)} {P : Nat → Prop} (h : RowsIn w vals xss P) (hb : Below w.heap.size w w') : RowsIn w' vals xss P :=
  ⟨h.1, fun i hi => by
    obtain ⟨q, o, c, h1, h2, h3, h4⟩ := h.2 i hi
    exact ⟨q, o, c, h1, h2.below hb, Nat.lt_of_lt_of_le h3 hb.size, h4⟩⟩
theorem RowsIn.imp {w : World} {vals : List Value} {xss : List (List Bool)} {P Q : Nat → Prop} (h : RowsIn w vals xss P) (hi : ∀ q, q < w.heap.size → P q → Q q) : RowsIn w vals xss Q :=
  ⟨h.1, fun i hh => by
    obtain ⟨q, o, c, h1, h2, h3, h4⟩ := h.2 i hh
    exact ⟨q, o, c, h1, h2, h3, hi q h3 h4⟩⟩
theorem RowsIn.nil (w : World) (P : Nat → Prop) : RowsIn w [] [] P := ⟨rfl, fun i h => by simp at h⟩
theorem RowsIn.append {w : World} {vals vals' : List Value} {xss xss' : List (List Bool)} {P : Nat → Prop} (h : RowsIn w vals xss P) (h' : RowsIn w vals' xss' P) : RowsIn w (vals ++ vals') (xss ++ xss') P := by
  refine ⟨by rw [List.length_append, List.length_append, h.1, h'.1], fun i hi => ?_⟩
  by_cases hlt : i < xss.length
  · obtain ⟨q, o, c, h1, h2, h3, h4⟩ := h.2 i hlt
    rw [List.getElem_append_left hlt]
    exact ⟨q, o, c, by rw [List.getElem?_append_left (by rw [h.1]; exact hlt)]; exact h1, h2, h3, h4⟩
  · rw [List.length_append] at hi
    obtain ⟨q, o, c, h1, h2, h3, h4⟩ := h'.2 (i - xss.length) (by omega)
    rw [List.getElem_append_right (by omega)]
    exact ⟨q, o, c, by rw [List.getElem?_append_right (by rw [h.1]; omega), h.1]; exact h1, h2, h3, h4⟩
theorem RowsIn.grown {w w' : World} {vals : List Value} {xss : List (List Bool)} {P : Nat → Prop} {r : Option Nat} (h : RowsIn w vals xss P) (hg : w.grownBy w' r) (hn : ∀ q, P q → r ≠ some q) : RowsIn w' vals xss P :=
  ⟨h.1, fun i hi => by
    obtain ⟨q, o, c, h1, h2, h3, h4⟩ := h.2 i hi
    refine ⟨q, o, c, h1, fun j hj => ?_, Nat.lt_of_lt_of_le h3 hg.size, h4⟩
    obtain ⟨b', o', e, hc⟩ := h2 j hj
    cases e
    exact ⟨q, o, rfl, hg.cell hc (fun e => hn q h4 e.symm)⟩⟩
theorem RowsIn.one {w : World} {vals : List Value} {xss : List (List Bool)} {P : Nat → Prop} (h : RowsIn w vals xss P) : ∀ u ∈ vals, u.oneCell' = true := by
  intro u hu
  obtain ⟨i, hi, rfl⟩ := List.getElem_of_mem hu
  obtain ⟨q, o, c, h1, _⟩ := h.2 i (by rw [← h.1]; exact hi)
  rw [List.getElem?_eq_getElem hi] at h1
  rw [Option.some.inj h1]
  rfl
theorem append_rows (w : World) (base : Nat) (hbase : base ≤ w.heap.size) (v : Value) (vals : List Value) (hown : w.ownsRow base 47 1 v vals.length vals) (b3 o3 c3 : Nat) (vals3 : List Value) (xss3 : List (List Bool)) (P : Nat → Prop) (hc3 : ∀ j u, vals3[j]? = some u → w.cell? ⟨b3, o3 + j, none⟩ = some u) (hr3 : RowsIn w vals3 xss3 P) (hlen : vals.length + xss3.length ≤ 1000) (ty : TypeId) :
    ∃ v' w', (Builtin.append_ #[89, 89] ty #[v, .slice (some ⟨b3, o3, none⟩) xss3.length c3]).run Try.prog w = .ok v' w' ∧ w'.ownsRow base 47 1 v' (vals.length + vals3.length) (vals ++ vals3) ∧ w.grownBy w' v.ownBlock ∧ (v'.ownBlock = v.ownBlock ∨ v'.ownBlock = some w.heap.size) := by
  obtain ⟨i0, hi, hi0, hi1, hi2⟩ := info_parts Try.infoBools
  have hl := hr3.1
  obtain ⟨v2, w9, hr9, ho9, hg9, _, hv9⟩ := run_append_own_at (P := Try.prog) (w := w) base 89 ty 47 i0 _ 1 24 Try.underlying89 hi hi0 hi1 hi2 rfl (by decide) v vals.length vals hown ⟨b3, o3, none⟩ xss3.length c3 vals3 (by omega) (fun j u h => by rw [Addr.add_lit]; exact hc3 j u h) hr3.one (by unfold maxLen; omega) (by omega) hbase
  exact ⟨v2, w9, hr9, by rw [hl]; exact ho9, hg9, hv9⟩
/-- The call returned such rows. -/
def GaveRows (xss : List (List Bool)) (P : Nat → Prop) (w : World) (e : Ending) (w' : World) : Prop :=
  ∃ b o c vals, e = .returned (.slice (some ⟨b, o, none⟩) xss.length c) ∧ (∀ j u, vals[j]? = some u → w'.cell? ⟨b, o + j, none⟩ = some u) ∧ RowsIn w' vals xss P ∧ Below w.heap.size w w'
/-- What the specification returns of the truths: as far as the ribbon goes. -/
def truthsW (long : List Int) (ks : List K4) (X : List Bool) : List (List Bool) := (truthsL (rb long) long ks X).map (·.take (wideN long))
def truthsJ (long : List Int) (k : K4) (ks : List K4) (X : List Bool) (j : Nat) : List (List Bool) := ((placesL k).take j).flatMap fun p => truthsW long ks (orL X (trailD long p.1 p.2.toNat))
theorem truthsJ_succ {long : List Int} {k : K4} {ks : List K4} {X : List Bool} {j : Nat} (h : j < (placesL k).length) : truthsJ long k ks X (j + 1) = truthsJ long k ks X j ++ truthsW long ks (orL X (trailD long (placesL k)[j].1 (placesL k)[j].2.toNat)) := by
  rw [truthsJ, List.take_succ_eq_append_getElem h, List.flatMap_append, truthsJ]
  simp
theorem truthsJ_all (long : List Int) (k : K4) (ks : List K4) (X : List Bool) : truthsJ long k ks X (placesL k).length = truthsW long (k :: ks) X := by
  rw [truthsJ, List.take_length, truthsW, truthsL, List.map_flatMap]
  rfl
theorem truthsW_pos {long : List Int} {ks : List K4} (ho : ∀ k ∈ ks, K4Ok k) (X : List Bool) : 0 < (truthsW long ks X).length := by
  obtain ⟨kn, hm⟩ := truthsL_ne (R := rb long) (long := long) ks X ho
  rw [truthsW, List.length_map]
  exact List.length_pos_of_mem hm
theorem places_few {k : K4} (haw : k.ah - k.al ≤ 3) (hfw : k.fh - k.fl ≤ 1) : (placesL k).length ≤ 8 := by
  rw [← colsP_all, colsP_length]
  have h1 : (k.ah - k.al + 1).toNat ≤ 4 := by omega
  have h2 : (k.fh - k.fl + 1).toNat ≤ 2 := by omega
  exact Nat.mul_le_mul h1 h2
theorem truthsW_few {long : List Int} : ∀ {ks : List K4} (_ : ∀ k ∈ ks, k.ah - k.al ≤ 3) (_ : ∀ k ∈ ks, k.fh - k.fl ≤ 1) (X : List Bool), (truthsW long ks X).length ≤ 8 ^ ks.length
  | [], _, _, X => by simp [truthsW, truthsL]
  | k :: ks, h1, h2, X => by
    rw [← truthsJ_all, List.length_cons, Nat.pow_succ]
    have key : ∀ j, j ≤ (placesL k).length → (truthsJ long k ks X j).length ≤ 8 ^ ks.length * j := by
      intro j
      induction j with
      | zero => intro _; simp [truthsJ]
      | succ j ih =>
        intro hj
        have := ih (by omega)
        have h3 := truthsW_few (long := long) (ks := ks) (fun k hk => h1 k (by simp [hk])) (fun k hk => h2 k (by simp [hk])) (orL X (trailD long (placesL k)[j].1 (placesL k)[j].2.toNat))
        rw [truthsJ_succ (by omega), List.length_append, Nat.mul_add]
        omega
    exact Nat.le_trans (key _ (Nat.le_refl _)) (Nat.mul_le_mul_left _ (places_few (h1 k (by simp)) (h2 k (by simp))))
theorem truthsJ_few {long : List Int} {k : K4} {ks : List K4} {X : List Bool} {m : Nat} (h : ∀ Y, (truthsW long ks Y).length ≤ m) : ∀ j, j ≤ (placesL k).length → (truthsJ long k ks X j).length ≤ m * j
  | 0, _ => by simp [truthsJ]
  | j + 1, hj => by
    have := truthsJ_few (k := k) (X := X) h j (by omega)
    have := h (orL X (trailD long (placesL k)[j].1 (placesL k)[j].2.toNat))
    rw [truthsJ_succ (by omega), List.length_append, Nat.mul_add]
    omega
end Go.Proofs.Ytnnlbbmimdohoaa
/- The specification of layer 1: all truths (2). -/
namespace Go.Proofs.Ytnnlbbmimdohoaa
open Go.RowKit Go.Maps
attribute [local go_sem] Oper.semAt_some

/-- append, as one step of a region that draws. -/
theorem step_append_ex {P : Program} {ops : Array Oper} {o : Oper} {a : Act} {w : World} {K : Act → World → Prop} {Q : Exit → Act → World → Prop} {E : Prop}
    (hg : o.guard = none) (s x : Operand) (tys : Array TypeId) (hop : o.op = Op.call { callee := Callee.builtin Builtin.append, args := #[s, x], argTypes := tys })
    (vs vx : Value) (hs : a.eval s = vs) (hx : a.eval x = vx) (R : Value → World → Prop) (hrun : ∃ v' w', (Builtin.append_ tys o.type #[vs, vx]).run P w = .ok v' w' ∧ R v' w')
    (hK : ∀ v' w', R v' w' → K (a.put o.dst v') w') :
    if Region.wanted o (yielded ops a.tmps) = true then Oper.wp P o a w K Q else E := by
  have hw : Region.wanted o (yielded ops a.tmps) = true := by simp [Region.wanted, hg]
  rw [if_pos hw]
  obtain ⟨v', w', hrun, hR⟩ := hrun
  unfold Oper.wp
  simp [execOp, hop, resolve, invoke, builtin, hs, hx, hrun, Result.andThen]
  exact hK v' w' hR
theorem append_rows_ex (w : World) (base : Nat) (hbase : base ≤ w.heap.size) (v : Value) (vals : List Value) (hown : w.ownsRow base 47 1 v vals.length vals) (b3 o3 c3 : Nat) (vals3 : List Value) (xss3 : List (List Bool)) (P : Nat → Prop) (hc3 : ∀ j u, vals3[j]? = some u → w.cell? ⟨b3, o3 + j, none⟩ = some u) (hr3 : RowsIn w vals3 xss3 P) (hlen : vals.length + xss3.length ≤ 1000) (ty : TypeId) :
    ∃ v' w', (Builtin.append_ #[89, 89] ty #[v, .slice (some ⟨b3, o3, none⟩) xss3.length c3]).run Try.prog w = .ok v' w' ∧ (w'.ownsRow base 47 1 v' (vals.length + vals3.length) (vals ++ vals3) ∧ w.grownBy w' v.ownBlock ∧ (v'.ownBlock = v.ownBlock ∨ v'.ownBlock = some w.heap.size)) := by
  obtain ⟨v', w', h1, h2, h3, h4⟩ := append_rows w base hbase v vals hown b3 o3 c3 vals3 xss3 P hc3 hr3 hlen ty
  exact ⟨v', w', h1, h2, h3, h4⟩

/-- What the loop keeps. -/
structure TInv (p1 : Option Addr) (c1 : Nat) (p2 : Option Addr) (c2 : Nat) (long : List Int) (sz : Int) (ks : List K4) (l : Nat) (pp : Option Addr) (pl : List (Int × Int)) (v : Value) (vals : List Value) (xss : List (List Bool)) (w0 w : World) : Prop where
  rl : Row w l #[.slice p1 long.length c1, .int .i64 sz, .slice p2 ks.length c2] 25
  ow : w.ownsRow (l + 1) 47 1 v vals.length vals
  ri : RowsIn w vals xss (fun q => l + 1 ≤ q ∧ v.ownBlock ≠ some q)
  pa : PlacesAt w pp pl
  pf : ∀ b o, pp = some ⟨b, o, none⟩ → v.ownBlock ≠ some b
  hb : Below l w0 w
section
variable {p1 : Option Addr} {c1 : Nat} {p2 : Option Addr} {c2 : Nat} {long : List Int} {sz : Int} {ks : List K4} {l : Nat} {pp : Option Addr} {pl : List (Int × Int)} {v : Value} {vals : List Value} {xss : List (List Bool)} {w0 w w' : World}
theorem TInv.below (h : TInv p1 c1 p2 c2 long sz ks l pp pl v vals xss w0 w) (hb : Below w.heap.size w w') : TInv p1 c1 p2 c2 long sz ks l pp pl v vals xss w0 w' :=
  ⟨h.rl.below hb h.rl.lt, owns_below h.ow hb, h.ri.below hb, h.pa.below hb, h.pf, h.hb.trans (hb.mono (Nat.le_of_lt h.rl.lt))⟩
theorem TInv.drew (h : TInv p1 c1 p2 c2 long sz ks l pp pl v vals xss w0 w) : TInv p1 c1 p2 c2 long sz ks l pp pl v vals xss w0 w.drew :=
  ⟨h.rl.drew, h.ow, h.ri, h.pa, h.pf, h.hb.drew⟩
theorem TInv.s (h : TInv p1 c1 p2 c2 long sz ks l pp pl v vals xss w0 w) {b o j : Nat} (hp : pp = some ⟨b, o, none⟩) (hj : j < pl.length) : w.cell? ⟨l, 0, none⟩ = some (.slice p1 long.length c1) ∧ w.cell? ⟨l, 1, none⟩ = some (.int .i64 sz) ∧ w.cell? ⟨l, 2, none⟩ = some (.slice p2 ks.length c2) ∧ w.cell? ⟨b, o + j * 2, none⟩ = some (.int .i64 pl[j].1) ∧ w.cell? ⟨b, o + j * 2 + 1, none⟩ = some (.int .i64 pl[j].2) := by
  obtain ⟨b', o', e, h0, h1⟩ := h.pa j hj
  rw [hp] at e
  cases e
  exact ⟨h.rl.cell 0 rfl, h.rl.cell 1 rfl, h.rl.cell 2 rfl, h0, h1⟩
/-- More rows behind. -/
theorem TInv.more (h : TInv p1 c1 p2 c2 long sz ks l pp pl v vals xss w0 w) {v' : Value} {vals' : List Value} {xss' : List (List Bool)} (ho : w'.ownsRow (l + 1) 47 1 v' (vals.length + vals'.length) (vals ++ vals')) (hg : w.grownBy w' v.ownBlock) (hv : v'.ownBlock = v.ownBlock ∨ v'.ownBlock = some w.heap.size) (hr : RowsIn w vals' xss' (fun q => l + 1 ≤ q ∧ v.ownBlock ≠ some q)) (hpl : ∀ b o, pp = some ⟨b, o, none⟩ → b < w.heap.size) : TInv p1 c1 p2 c2 long sz ks l pp pl v' (vals ++ vals') (xss ++ xss') w0 w' := by
  have hlt := h.rl.lt
  have hown : ∀ k, v.ownBlock = some k → l + 1 ≤ k := fun k hk => (h.ow.lt k hk).1
  have hg2 : Below (l + 1) w w' := (Below.refl _ _).grown hg (by omega) hown
  refine ⟨h.rl.below hg2 (by omega), by rw [List.length_append]; exact ho, ?_, ?_, ?_, h.hb.trans (hg2.mono (by omega))⟩
  · have h2 : RowsIn w (vals ++ vals') (xss ++ xss') (fun q => l + 1 ≤ q ∧ v.ownBlock ≠ some q ∧ q < w.heap.size) := by
      refine RowsIn.append (h.ri.imp fun q hq hp => ⟨hp.1, hp.2, hq⟩) (hr.imp fun q hq hp => ⟨hp.1, hp.2, hq⟩)
    refine (h2.grown hg fun q hq => hq.2.1).imp fun q _ hq => ⟨hq.1, ?_⟩
    rcases hv with e | e
    · rw [e]; exact hq.2.1
    · rw [e]; intro e2; cases e2; omega
  · intro i hi
    obtain ⟨b, o, e, h0, h1⟩ := h.pa i hi
    have hne := h.pf b o e
    exact ⟨b, o, e, hg.cell h0 (fun e2 => hne e2.symm), hg.cell h1 (fun e2 => hne e2.symm)⟩
  · intro b o e
    rcases hv with e2 | e2
    · rw [e2]; exact h.pf b o e
    · rw [e2]; intro e3; cases e3; have := hpl _ _ e; omega
end

set_option maxRecDepth 10000 in
set_option maxHeartbeats 1600000 in
theorem reftruths_any (p1 : Option Addr) (c1 : Nat) (p2 : Option Addr) (c2 : Nat) (long : List Int) (sz : Int) (ks : List K4) (hok : LogOk long sz ks) (hc1 : long.length ≤ c1) : ∀ (d k : Nat), k + d = ks.length → ∀ (w0 : World), LogAt w0 p1 p2 long ks → ∀ (bk o ck : Nat) (X : List Bool), X.length = 72 → BoolsAt w0 (some ⟨bk, o, none⟩) (X.take (wideN long)) →
    Calls Try.prog 88 #[.agg #[.slice p1 long.length c1, .int .i64 sz, .slice p2 ks.length c2], .int .i64 k, .slice (some ⟨bk, o, none⟩) (wideN long) ck] w0 (GaveRows (truthsW long (ks.drop k) X) (fun q => q = bk ∨ w0.heap.size ≤ q) w0) := by
  intro d
  have hL := hok.L
  have hw := wideN_eq hL
  have hk3 := hok.k3
  induction d with
  | zero =>
    intro k hkd w0 h bk o ck X hX hbo
    have hkl : k = ks.length := by omega
    have hdr : ks.drop k = [] := by rw [hkl, List.drop_length]
    have hq : ((k : Int) == (ks.length : Int)) = true := by rw [hkl]; simp
    have HDR := Lib.hid hdr
    clear hkl hdr hkd
    go_enter Try.func88, Try.ntmps88
    have hba := below_alloc w0 (.cells #[.slice p1 long.length c1, .int .i64 sz, .slice p2 ks.length c2] 25)
    have r0 := Row.new w0 #[.slice p1 long.length c1, .int .i64 sz, .slice p2 ks.length c2] 25
    have k2 := r0.cell 2 (v := .slice p2 ks.length c2) rfl
    have HB := Lib.hid hba
    have HO := Lib.hid hbo
    clear h hba r0 hbo
    have hwl : (X.take (wideN long)).length = wideN long := by rw [List.length_take]; omega
    have HWL := Lib.hid hwl
    clear hwl
    go_wp2
    go_ret
    refine ⟨_, 0, 1, [.slice (some ⟨bk, o, none⟩) (wideN long) ck], by rw [HDR.out]; rfl, ?_, ?_, HB.out.alloc (by simp) _⟩
    · intro j u hj
      have h1 := Row.new' (n := w0.heap.size + 1) (w := w0.alloc (.cells #[.slice p1 long.length c1, .int .i64 sz, .slice p2 ks.length c2] 25)) (by simp) (#[.slice (some ⟨bk, o, none⟩) (wideN long) ck]) 47
      rw [Nat.zero_add]
      exact h1.cell j (by simpa using hj)
    · rw [HDR.out]
      refine ⟨rfl, fun i hi => ?_⟩
      have hi0 : i = 0 := by simpa [truthsW, truthsL] using hi
      subst hi0
      have hb2 : Below w0.heap.size w0 ((w0.alloc (.cells #[.slice p1 long.length c1, .int .i64 sz, .slice p2 ks.length c2] 25)).alloc (.cells #[.slice (some ⟨bk, o, none⟩) (wideN long) ck] 47)) := HB.out.alloc (by simp) _
      obtain ⟨b', o', e, hc⟩ := HO.out 0 (by rw [HWL.out]; omega)
      cases e
      refine ⟨bk, o, ck, ?_, HO.out.below hb2, Nat.lt_of_lt_of_le (cell_block hc) hb2.size, .inl rfl⟩
      simp only [truthsW, truthsL, List.map_cons, List.map_nil, List.getElem_cons_zero, HWL.out]
      rfl
  | succ d ih =>
    intro k hkd w0 h bk o ck X hX hbo
    have hkl : k < ks.length := by omega
    have hdr : ks.drop k = ks[k] :: ks.drop (k + 1) := List.drop_eq_getElem_cons hkl
    have hko := hok.ok ks[k] (List.getElem_mem hkl)
    have haw := hok.aw ks[k] (List.getElem_mem hkl)
    have hfw := hok.fw ks[k] (List.getElem_mem hkl)
    have HDR := Lib.hid hdr
    have hq : ((k : Int) == (ks.length : Int)) = false := by simp; omega
    have hwl : ∀ Y : List Bool, Y.length = 72 → (Y.take (wideN long)).length = wideN long := fun Y hY => by rw [List.length_take]; omega
    obtain ⟨bp, op, hpe, _⟩ := h.k k hkl
    subst hpe
    have H0 := Lib.hid h
    have HO := Lib.hid hbo
    have HMK := Lib.hid (fun w hb a ha0 ha1 t ht => (by
      have hm := refmark_any p1 c1 (some ⟨bp, op, none⟩) c2 long sz ks w (H0.out.below hb) hL hc1 (some ⟨bk, o, none⟩) ck (X.take (wideN long)) (HO.out.below hb) (hwl X hX) a ha0 ha1 t ht
      rw [hwl X hX, mark_take hL ha0 ha1 t hX] at hm
      refine hm.mono ?_
      rintro e w' ⟨b', o', c, he, hnew, hbt, hb2⟩
      rw [hwl (orL X (trailD long a t)) (orL_length hX (trailL_length _ _ _ _))] at he
      exact ⟨b', o', c, he, hnew, hbt, hb2⟩) : ∀ w, Below w0.heap.size w0 w → ∀ a : Int, 0 ≤ a → a ≤ 23 → ∀ t : Nat, t ≤ 6 → Calls Try.prog 92 #[.agg #[.slice p1 long.length c1, .int .i64 sz, .slice (some ⟨bp, op, none⟩) ks.length c2], .slice (some ⟨bk, o, none⟩) (wideN long) ck, .agg #[.int .i64 a, .int .i64 t]] w fun e w' => ∃ b' o' c, e = .returned (.slice (some ⟨b', o', none⟩) (wideN long) c) ∧ w.heap.size ≤ b' ∧ BoolsAt w' (some ⟨b', o', none⟩) ((orL X (trailD long a t)).take (wideN long)) ∧ Below w.heap.size w w')
    have HTR := Lib.hid (fun w hb b' o' c a t hbt => (by
      have hz := ih (k + 1) (by omega) w (H0.out.below hb) b' o' c (orL X (trailD long a t)) (orL_length hX (trailL_length _ _ _ _)) hbt
      rw [show ((k + 1 : Nat) : Int) = (k : Int) + 1 from rfl] at hz
      exact hz) : ∀ w, Below w0.heap.size w0 w → ∀ (b' o' c : Nat) (a : Int) (t : Nat), BoolsAt w (some ⟨b', o', none⟩) ((orL X (trailD long a t)).take (wideN long)) → Calls Try.prog 88 #[.agg #[.slice p1 long.length c1, .int .i64 sz, .slice (some ⟨bp, op, none⟩) ks.length c2], .int .i64 ((k : Int) + 1), .slice (some ⟨b', o', none⟩) (wideN long) c] w (GaveRows (truthsW long (ks.drop (k + 1)) (orL X (trailD long a t))) (fun q => q = b' ∨ w.heap.size ≤ q) w))
    have hkd2 : (ks.drop (k + 1)).length ≤ 2 := by rw [List.length_drop]; omega
    have hkm : ∀ x ∈ ks.drop (k + 1), x ∈ ks := fun x hx => List.mem_of_mem_drop hx
    have hfew := Lib.hid (fun Y => Nat.le_trans (truthsW_few (long := long) (ks := ks.drop (k + 1)) (fun x hx => hok.aw x (hkm x hx)) (fun x hx => hok.fw x (hkm x hx)) Y) (Nat.pow_le_pow_right (by decide) hkd2) : ∀ Y, (truthsW long (ks.drop (k + 1)) Y).length ≤ 8 ^ 2)
    have hpos := Lib.hid (fun Y => truthsW_pos (long := long) (ks := ks.drop (k + 1)) (fun x hx => hok.ok x (hkm x hx)) Y : ∀ Y, 0 < (truthsW long (ks.drop (k + 1)) Y).length)
    have hpos2 := Lib.hid (fun Y => truthsW_pos (long := long) (ks := ks.drop k) (fun x hx => hok.ok x (List.mem_of_mem_drop hx)) Y : ∀ Y, 0 < (truthsW long (ks.drop k) Y).length)
    have hJ := Lib.hid (truthsJ_all long ks[k] (ks.drop (k + 1)) X)
    have hpl8 := places_few haw hfw
    have HPC := Lib.hid (fun w => refplaces_any ks[k] hko haw hfw w)
    have hpin := Lib.hid (fun p hp => places_in hp : ∀ p ∈ placesL ks[k], ks[k].al ≤ p.1 ∧ p.1 ≤ ks[k].ah ∧ ks[k].fl ≤ p.2 ∧ p.2 ≤ ks[k].fh)
    clear hwl hkd2 hkm h hbo hdr haw hfw ih
    go_enter Try.func88, Try.ntmps88
    have hba := below_alloc w0 (.cells #[.slice p1 long.length c1, .int .i64 sz, .slice (some ⟨bp, op, none⟩) ks.length c2] 25)
    have r0 := Row.new w0 #[.slice p1 long.length c1, .int .i64 sz, .slice (some ⟨bp, op, none⟩) ks.length c2] 25
    have k2 := r0.cell 2 (v := .slice (some ⟨bp, op, none⟩) ks.length c2) rfl
    obtain ⟨b9, o9, e9, q0, q1, q2, q3⟩ := ((H0.out.below hba).k) k hkl
    cases e9
    have R0 := Lib.hid r0
    have HB := Lib.hid hba
    clear r0 hba
    go_wp2_with fail
    refine (HPC.out _).mono ?_
    rintro e w1 ⟨pp, cp, rfl, hpa, hb1⟩
    have R1 := Lib.hid (R0.out.below hb1 (by simp))
    have B1 := Lib.hid (HB.out.trans (hb1.mono (by simp)))
    have P1 := Lib.hid hpa
    clear hb1 hpa R0 HB k2 q0 q1 q2 q3 HPC
    have HJF := Lib.hid (fun j hj => truthsJ_few (k := ks[k]) (X := X) hfew.out j hj : ∀ j, j ≤ (placesL ks[k]).length → (truthsJ long ks[k] (ks.drop (k + 1)) X j).length ≤ 8 ^ 2 * j)
    have HJS := Lib.hid (fun j hj => truthsJ_succ (long := long) (k := ks[k]) (ks := ks.drop (k + 1)) (X := X) (j := j) hj : ∀ j (hj : j < (placesL ks[k]).length), truthsJ long ks[k] (ks.drop (k + 1)) X (j + 1) = truthsJ long ks[k] (ks.drop (k + 1)) X j ++ truthsW long (ks.drop (k + 1)) (orL X (trailD long (placesL ks[k])[j].1 (placesL ks[k])[j].2.toNat)))
    have hJ0 : truthsJ long ks[k] (ks.drop (k + 1)) X 0 = [] := by simp [truthsJ]
    have HJ0 := Lib.hid hJ0
    clear hJ0
    have hA0 := hko.a0
    have hA1 := hko.a1
    have hF0 := hko.f0
    have hF1 := hko.f1
    obtain ⟨i0, hi, hi0, hi1, hi2⟩ := info_parts Try.infoBools
    generalize placesL ks[k] = pl at *
    go_wp2_with fail
    go_loopw [7, 9] (fun v q wr => ∃ (j : Nat) (vals : List Value), j ≤ pl.length ∧ q = .int .i64 j ∧ TInv p1 c1 (some ⟨bp, op, none⟩) c2 long sz ks w0.heap.size pp pl v vals (truthsJ long ks[k] (ks.drop (k + 1)) X j) w0 wr) (fun _ q _ => pl.length - (intOf q).toNat)
    case atStart =>
      have t1 : TInv p1 c1 (some ⟨bp, op, none⟩) c2 long sz ks w0.heap.size pp pl (.slice none 0 0) [] (truthsJ long ks[k] (ks.drop (k + 1)) X 0) w0 w1 := by
        rw [HJ0.out]
        exact ⟨R1.out, World.ownsRow_nil _ _ _ _, RowsIn.nil _ _, P1.out, (fun b o _ h => by cases h), B1.out⟩
      exact ⟨0, [], Nat.zero_le _, rfl, t1⟩
    case round =>
      clear R1 B1 P1
      obtain ⟨j, vals, hj, rfl, ti⟩ := hrel
      by_cases hjl : j < pl.length
      · obtain ⟨pb, po, rfl, hp0, _⟩ := ti.pa j hjl
        have hpz := cell_block hp0
        obtain ⟨m, hm⟩ : ∃ m : Nat, pl[j].2 = m := ⟨pl[j].2.toNat, by have := hpin.out pl[j] (List.getElem_mem hjl); omega⟩
        have hpj := hpin.out pl[j] (List.getElem_mem hjl)
        have hs0 := ti.s rfl hjl
        rw [hm] at hs0 hpj
        have HS0 := Lib.hid hs0
        have hjs := HJS.out j hjl
        rw [hm, Int.toNat_natCast] at hjs
        have HJSJ := Lib.hid hjs
        have HM := Lib.hid hm
        have hvl : vals.length ≤ 512 := by have h1 := ti.ri.1; have h2 := HJF.out j hj; omega
        have hfar : ∀ q, wr.heap.size ≤ q → w0.heap.size + 1 ≤ q ∧ u7.ownBlock ≠ some q := fun q hq => ⟨by have := ti.rl.lt; omega, fun e => by have := (ti.ow.lt q e).2; omega⟩
        have HFAR := Lib.hid hfar
        have hlz := ti.rl.lt
        have TI := Lib.hid ti.drew
        have k2 := ti.rl.cell 2 (v := .slice (some ⟨bp, op, none⟩) ks.length c2) rfl
        obtain ⟨pa0, pa1⟩ : 0 ≤ pl[j].1 ∧ pl[j].1 ≤ 23 := by omega
        have hm6 : m ≤ 6 := by omega
        have i1 : (0 : Int) ≤ (j : Int) := by omega
        have i2 : (j : Int) < (pl.length : Int) := by omega
        have i3 : IntKind.i64.wrap ((k : Int) + 1) = (k : Int) + 1 := IntWalk.i64_in _ (by omega)
        clear hs0 hm ti hjs hfar hpj hp0
        go_wp2_with fail
        go_region_held3 (fun w' => w'.cell? ⟨w0.heap.size, 0, none⟩ = some (.slice p1 long.length c1) ∧ w'.cell? ⟨w0.heap.size, 1, none⟩ = some (.int .i64 sz) ∧ w'.cell? ⟨w0.heap.size, 2, none⟩ = some (.slice (some ⟨bp, op, none⟩) ks.length c2) ∧ w'.cell? ⟨pb, po + j * 2, none⟩ = some (.int .i64 pl[j].1) ∧ w'.cell? ⟨pb, po + j * 2 + 1, none⟩ = some (.int .i64 (m : Int))) (first | exact HS0.out | (have h := TI.out.s rfl hjl; rw [HM.out] at h; exact h))
          (first
            | (go_at_call 92; refine (HMK.out _ TI.out.hb pl[j].1 pa0 pa1 m hm6).mono ?_; rintro e u ⟨b', o', c', rfl, hnew, hbt, hbu⟩; have HNEW := Lib.hid (show wr.heap.size ≤ b' from hnew); have HBT := Lib.hid hbt; have HUZ := Lib.hid (show wr.heap.size ≤ u.heap.size from hbu.size); have TI := Lib.hid (TI.out.below hbu); clear hnew hbt hbu)
            | (go_at_call 88; refine (HTR.out _ TI.out.hb _ _ _ pl[j].1 m HBT.out).mono ?_; rintro e u2 ⟨b3, o3, c3, vals3, rfl, hc3, hr3, hbu⟩; have TI := Lib.hid (TI.out.below hbu); have HC3 := Lib.hid hc3; have HR3 := Lib.hid (hr3.imp fun q _ hq => HFAR.out q (by have h1 := HNEW.out; have h2 := HUZ.out; rcases hq with h | h <;> omega)); clear hc3 hr3 hbu)
            | (refine step_append_ex rfl _ _ _ rfl u7 _ rfl rfl _ (append_rows_ex u2 (w0.heap.size + 1) (by have := TI.out.rl.lt; omega) u7 vals TI.out.ow b3 o3 c3 vals3 _ _ HC3.out HR3.out (by have := hfew.out (orL X (trailD long pl[j].1 m)); omega) 89) ?_; rintro v2 w9 ⟨ho9, hg9, hv9⟩; have TI := Lib.hid (TI.out.more ho9 hg9 hv9 HR3.out (fun b o e => by obtain ⟨b', o', e', h0, _⟩ := TI.out.pa j hjl; rw [e] at e'; cases e'; exact cell_block h0)); clear ho9 hg9 hv9))
        all_goals
          go_wp2
          go_roundw
          case rel => exact ⟨j + 1, vals ++ vals3, by omega, by go_num, by rw [HJSJ.out]; exact TI.out⟩
          case measure => simp [intOf]; omega
      · obtain rfl : j = pl.length := by omega
        have hx : truthsJ long ks[k] (ks.drop (k + 1)) X pl.length = truthsW long (ks.drop k) X := by rw [hJ.out, HDR.out]
        rw [hx] at ti
        have hp := hpos2.out X
        have TI := Lib.hid ti
        clear ti hx
        go_wp2
        go_ret
        have ti := TI.out
        have hl := ti.ri.1
        rcases ti.ow.2 with ⟨_, h0⟩ | ⟨g, cap, cur, hv, _, hh, _, _, _, h4⟩
        · omega
        · refine ⟨g, 0, cap, vals, by rw [← hl]; exact congrArg Ending.returned hv, fun j u hj => ?_, ti.ri.imp fun q _ hq => .inr (by have := hq.1; omega), ti.hb⟩
          rw [cell_of_row wr g (0 + j) cur _ (0, 0) hh, Nat.zero_add]
          have hjl := (List.getElem?_eq_some_iff.1 hj).1
          rw [← h4, List.getElem?_take_of_lt (by omega)] at hj
          simpa using hj
end Go.Proofs.Ytnnlbbmimdohoaa
/- The specification of layer 1, in plain lists: what it counts, as far as the ribbon goes. -/
namespace Go.Proofs.Ytnnlbbmimdohoaa
open Go.RowKit

theorem b0_takeW {X : List Bool} {w i : Nat} (h : i < w) : b0 (X.take w) i = b0 X i := by rw [b0_take]; simp [h]
theorem freeAt_take {X : List Bool} {w i m : Nat} (h : i + m ≤ w) : freeAt (X.take w) i m = freeAt X i m := by
  rw [Bool.eq_iff_iff, freeAt_iff, freeAt_iff]
  constructor
  · intro hh j hj
    have := hh j hj
    rwa [b0_takeW (by omega)] at this
  · intro hh j hj
    rw [b0_takeW (by omega)]
    exact hh j hj
theorem wholeN_take_eq {long : List Int} {m : Nat} (h1 : 1 ≤ m) (hL : LongOk long) (X : List Bool) {cut : List Int} (hcut : cutOk m (psum long long.length) 0 cut = true) : wholeN (X.take (wideN long)) m cut = countL (wholesD long m X) cut := by
  have hw := wideN_eq hL
  have h := wholeN_eq (long := long) (sz := m) (m := m) rfl (by omega) (kn := X) (kn' := X) (fun _ => rfl) hcut (by omega)
  rw [← h]
  unfold wholeN
  congr 1
  apply List.countP_congr
  intro f hf
  have hr := cutOk_range (Int.le_refl 0) (by omega) hcut f hf
  rw [freeAt_take (by omega)]
/-- One step of the specification's scan. -/
theorem wholes_at {long : List Int} {m : Nat} (hL : LongOk long) (h1 : 1 ≤ m) {X : List Bool} {c : Nat} (hc : c + m ≤ wideN long) : b0 (wholesD long m X) c = freeAt (X.take (wideN long)) c m := by
  have hw := wideN_eq hL
  rw [freeAt_take hc, Bool.eq_iff_iff, b0_wholesD, freeAt_iff]
  simp only [Int.toNat_natCast]
  exact ⟨fun h => h.2.2, fun h => ⟨by omega, by omega, h⟩⟩
/-- How many truths have a knot in a column. -/
def manyN (xss : List (List Bool)) (c : Nat) : Nat := xss.countP (b0 · c)
theorem manyN_take {xss : List (List Bool)} {c k : Nat} (h : k < xss.length) : manyN (xss.take (k + 1)) c = manyN (xss.take k) c + if b0 xss[k] c then 1 else 0 := by
  rw [manyN, List.take_succ_eq_append_getElem h, List.countP_append, manyN, List.countP_singleton]
theorem manyN_le (xss : List (List Bool)) (c : Nat) : manyN xss c ≤ xss.length := List.countP_le_length
theorem manyN_W {long : List Int} {X : List Bool} {ks : List K4} {c : Nat} (hc : c < wideN long) : manyN (truthsW long ks X) c = manyN (truthsL (rb long) long ks X) c := by
  rw [truthsW, manyN, manyN, List.countP_map]
  apply List.countP_congr
  intro x _
  simp only [Function.comp, b0_takeW hc]
theorem knotD_many {long : List Int} {ks : List K4} {c : Nat} (ho : ∀ k ∈ ks, K4Ok k) (hc : c < wideN long) : knotD long ks c = if manyN (truthsW long ks (List.replicate 72 false)) c = 0 then 0 else if manyN (truthsW long ks (List.replicate 72 false)) c = (truthsW long ks (List.replicate 72 false)).length then 2 else 1 := by
  have hp := truthsW_pos (long := long) ho (List.replicate 72 false)
  rw [manyN_W hc]
  have hl : (truthsW long ks (List.replicate 72 false)).length = (truthsD long ks).length := by rw [truthsW, List.length_map]; rfl
  rw [hl] at hp ⊢
  change knotD long ks c = if manyN (truthsD long ks) c = 0 then 0 else if manyN (truthsD long ks) c = (truthsD long ks).length then 2 else 1
  unfold knotD manyN
  have hany : (truthsD long ks).countP (b0 · c) = 0 ↔ (truthsD long ks).any (b0 · c) = false := by
    rw [List.countP_eq_zero, List.any_eq_false]
  have hall : (truthsD long ks).countP (b0 · c) = (truthsD long ks).length ↔ (truthsD long ks).all (b0 · c) = true := by
    rw [List.countP_eq_length, List.all_eq_true]
  by_cases h0 : (truthsD long ks).countP (b0 · c) = 0
  · rw [if_pos h0]
    have ha := hany.1 h0
    have hna : ¬ (truthsD long ks).all (b0 · c) = true := fun h => by have := hall.2 h; omega
    rw [if_neg hna, ha]
    simp
  · rw [if_neg h0]
    have ha : (truthsD long ks).any (b0 · c) = true := by
      cases hh : (truthsD long ks).any (b0 · c) with
      | true => rfl
      | false => exact absurd (hany.2 hh) h0
    by_cases h1 : (truthsD long ks).countP (b0 · c) = (truthsD long ks).length
    · rw [if_pos h1, if_pos (hall.1 h1)]
    · rw [if_neg h1, if_neg (fun h => h1 (hall.2 h)), ha]
      simp
/-- What the specification marks of some knots. -/
def someK (long : List Int) (X : List Bool) (k : K4) (i : Nat) : List Bool := ((placesL k).take i).foldl (fun c p => orL c (trailD long p.1 p.2.toNat)) X
def someTo (long : List Int) (ks : List K4) (k : Nat) : List Bool := (ks.take k).foldl (fun c k => someK long c k (placesL k).length) (List.replicate 72 false)
theorem someK_length (long : List Int) {X : List Bool} (hX : X.length = 72) (k : K4) : ∀ i, (someK long X k i).length = 72 := by
  intro i
  unfold someK
  generalize (placesL k).take i = l
  induction l generalizing X with
  | nil => exact hX
  | cons p l ih => rw [List.foldl_cons]; exact ih (orL_length hX (trailL_length _ _ _ _))
theorem someK_zero (long : List Int) (X : List Bool) (k : K4) : someK long X k 0 = X := rfl
theorem someK_succ {long : List Int} {X : List Bool} {k : K4} {i : Nat} (h : i < (placesL k).length) : someK long X k (i + 1) = orL (someK long X k i) (trailD long (placesL k)[i].1 (placesL k)[i].2.toNat) := by
  rw [someK, List.take_succ_eq_append_getElem h, List.foldl_append]
  rfl
theorem someTo_zero (long : List Int) (ks : List K4) : someTo long ks 0 = List.replicate 72 false := rfl
theorem someTo_succ {long : List Int} {ks : List K4} {k : Nat} (h : k < ks.length) : someTo long ks (k + 1) = someK long (someTo long ks k) ks[k] (placesL ks[k]).length := by
  rw [someTo, List.take_succ_eq_append_getElem h, List.foldl_append]
  rfl
theorem someTo_length (long : List Int) (ks : List K4) (k : Nat) : (someTo long ks k).length = 72 := by
  unfold someTo
  have key : ∀ (l : List K4) (X : List Bool), X.length = 72 → (l.foldl (fun c k => someK long c k (placesL k).length) X).length = 72 := by
    intro l
    induction l with
    | nil => intro X hX; exact hX
    | cons k l ih => intro X hX; rw [List.foldl_cons]; exact ih _ (someK_length long hX k _)
  exact key _ _ (by simp)
theorem someTo_all (long : List Int) (ks : List K4) : someTo long ks ks.length = reachD long ks := by
  rw [someTo, List.take_length]
  unfold reachD reachL
  congr 1
  funext c k
  rw [someK, List.take_length]
  rfl
/-- What the specification's scan has found so far, and what is left. -/
def lastEnd (sz : Nat) (out : List Int) : Int := match out.getLast? with
  | none => 0
  | some x => x + sz
theorem scan_step {c : List Bool} {sz wide i : Nat} (h1 : 1 ≤ sz) (out : List Int) (h : i + sz ≤ wide) :
    (lastEnd sz out ≤ i → b0 c i = true → out ++ cutL c sz wide i = (out ++ [(i : Int)]) ++ cutL c sz wide (i + sz)) ∧ (b0 c i = false → out ++ cutL c sz wide i = out ++ cutL c sz wide (i + 1)) := by
  constructor
  · intro _ hb
    rw [cutL_yes h1 h hb]; simp
  · intro hb
    rw [cutL_no h1 h hb]
theorem lastEnd_nil (sz : Nat) : lastEnd sz [] = 0 := rfl
theorem lastEnd_snoc (sz : Nat) (out : List Int) (x : Int) : lastEnd sz (out ++ [x]) = x + sz := by simp [lastEnd]
end Go.Proofs.Ytnnlbbmimdohoaa
