/- The law's own helper of layer 1: is it a cutting, by its own count and by the program's? -/
import Derived.Test.YtnnlbbmimdohoaaN1
namespace Go.Proofs.Ytnnlbbmimdohoaa
open Go.RowKit Go.Maps
attribute [local go_sem] Oper.semAt_some

set_option maxRecDepth 10000 in
set_option maxHeartbeats 1600000 in
theorem cutting_any (p1 : Option Addr) (c1 : Nat) (p2 : Option Addr) (c2 : Nat) (long : List Int) (sz : Int) (ks : List K4) (w0 : World) (h : LogAt w0 p1 p2 long ks) (hb : validB long sz ks = true) (pc : Option Addr) (cc : Nat) (cut : List Int) (hc : IntsAt w0 pc cut) (hn : cut.length ≤ maxLen) :
    Calls Try.prog 43 #[.agg #[.slice p1 long.length c1, .int .i64 sz, .slice p2 ks.length c2], .slice pc cut.length cc] w0 fun e w' => e = .returned (.bool (cutOk sz (psum long long.length) 0 cut)) ∧ Below w0.heap.size w0 w' := by
  have hok := valid_ok hb
  have hw := wideN_eq hok.L
  have hs1 := hok.s1
  have hs6 := hok.s6
  have hn6 := hok.L.n6
  have hlong := total_psum hok.L long.length (Nat.le_refl _)
  rw [List.take_length] at hlong
  have HLONG := Lib.hid hlong
  have HH := Lib.hid h
  have HI := Lib.hid hc
  have hnn := hn
  unfold maxLen at hnn
  have hba := below_alloc w0 (.cells #[.slice p1 long.length c1, .int .i64 sz, .slice p2 ks.length c2] 25)
  have r0 := Row.new w0 #[.slice p1 long.length c1, .int .i64 sz, .slice p2 ks.length c2] 25
  have HC := Lib.hid (IsCut_any p1 c1 p2 c2 long sz ks _ ⟨h.l.below hba, h.k.below hba, h.b1, h.b2⟩ pc cut cc (hc.below hba) hn)
  clear hlong h hc
  go_enter Try.func43, Try.ntmps43
  go_wp2_with (first | (refine HC.out.mono ?_; rw [if_pos hb]; rintro e w2 ⟨rfl, hb3⟩; have HB := Lib.hid (hba.trans (hb3.mono (by simp))); have R2 := Lib.hid (r0.below hb3 (by simp)); clear hb3 hba HC r0))
  go_loopw [7, 8] (fun f i wr => ∃ (j : Nat) (fr : Int), j ≤ cut.length ∧ i = .int .i64 j ∧ f = .int .i64 fr ∧ 0 ≤ fr ∧ fr ≤ 100 ∧ Hid (cutOk sz (psum long long.length) fr (cut.drop j) = cutOk sz (psum long long.length) 0 cut) ∧ Row wr w0.heap.size #[.slice p1 long.length c1, .int .i64 sz, .slice p2 ks.length c2] 25 ∧ Below w0.heap.size w0 wr) (fun _ i _ => cut.length - (intOf i).toNat)
  case atStart => exact ⟨0, 0, by omega, rfl, rfl, by omega, by omega, Lib.hid rfl, R2.out, HB.out⟩
  case round =>
    obtain ⟨j, fr, hj, rfl, rfl, hf0, hf1, HA, hr0, hb0⟩ := hrel
    have GR := Lib.hid hr0
    have GB := Lib.hid hb0
    clear hr0 hb0
    by_cases hlt : j < cut.length
    · obtain ⟨b, o, rfl, hcell⟩ := (HI.out.below GB.out) j hlt
      have hst := cutOk_step (sz := sz) (wide := psum long long.length) (free := fr) hlt
      rw [HA.out] at hst
      have HST := Lib.hid hst
      clear hst
      have HT := Lib.hid (fun nq => (by have h := Total_any p1 c1 long (wr.drewN nq) (by unfold maxLen; omega) (HH.out.below GB.out).l; rw [HLONG.out] at h; exact h) : ∀ nq, Calls Try.prog 47 #[.slice p1 long.length c1] (wr.drewN nq) fun e w' => e = .returned (.int .i64 (psum long long.length)) ∧ wr.drewN nq = w')
      have k0 := GR.out.cell 0 (v := .slice p1 long.length c1) rfl
      have k1 := GR.out.cell 1 (v := .int .i64 sz) rfl
      generalize at0 cut j = f at *
      have HWR := Lib.hid (show IntKind.i64.wrap (psum long long.length - sz) = psum long long.length - sz by rw [IntKind.wrap_i64]; omega)
      go_wp2_with fail
      go_quiet ((first | (go_at_call 47; exact quiet_eq (HT.out _)) | (go_at_call 46; exact quiet_eq (Fits_any _ _ _ _))))
      by_cases hf : f < fr ∨ psum long long.length - sz < f
      · have e1 : fits f fr (psum long long.length - sz) = false := by unfold fits; simp; omega
        have e2 : cutOk sz (psum long long.length) 0 cut = false := by have := HST.out; rw [if_pos hf] at this; exact this
        rw [e1, e2]
        simp only [Bool.not_false]
        go_wp2
        go_ret
        exact ⟨by rw [e2]; rfl, below_drewN GB.out nq⟩
      · have e1 : fits f fr (psum long long.length - sz) = true := by unfold fits; simp; omega
        have HN := Lib.hid (show cutOk sz (psum long long.length) (f + sz) (cut.drop (j + 1)) = cutOk sz (psum long long.length) 0 cut by have := HST.out; rw [if_neg hf] at this; exact this.symm)
        have HW2 := Lib.hid (show IntKind.i64.wrap (f + sz) = f + sz by rw [IntKind.wrap_i64]; omega)
        have b1 : 0 ≤ f + sz := by omega
        have b2 : f + sz ≤ 100 := by omega
        rw [e1]
        simp only [Bool.not_true]
        have GR1 := Lib.hid (GR.out.drewN nq)
        have GB1 := Lib.hid (below_drewN GB.out nq)
        have hcell1 : (wr.drewN nq).cell? _ = some _ := hcell
        have k1 := GR1.out.cell 1 (v := .int .i64 sz) rfl
        clear HT HST HA hcell k0 GR GB e1 HWR
        generalize wr.drewN nq = w1 at *
        go_wp2_with fail
        go_quiet (fail)
        go_wp2
        go_roundw
        case rel => exact ⟨j + 1, f + sz, by omega, by go_num, by first | rfl | rw [HW2.out], b1, b2, Lib.hid HN.out, GR1.out.drewN _, below_drewN GB1.out _⟩
        case measure => simp [intOf]; omega
    · obtain rfl : j = cut.length := by omega
      have he : cutOk sz (psum long long.length) 0 cut = true := by rw [← HA.out, List.drop_length, cutOk]
      rw [he]
      go_wp2
      go_ret
      exact ⟨by rw [he]; rfl, GB.out⟩

end Go.Proofs.Ytnnlbbmimdohoaa
