/- The walks of layer 1: whether a list is a cutting. -/
import Derived.Test.YtnnlbbmimdohoaaP14
namespace Go.Proofs.Ytnnlbbmimdohoaa
open Go.RowKit Go.Maps
attribute [local go_sem] Oper.semAt_some

set_option maxRecDepth 10000 in
set_option maxHeartbeats 800000 in
theorem IsCut_any (p1 : Option Addr) (c1 : Nat) (p2 : Option Addr) (c2 : Nat) (long : List Int) (sz : Int) (ks : List K4) (w : World) (h : LogAt w p1 p2 long ks) (pc : Option Addr) (cut : List Int) (cc : Nat) (hc : IntsAt w pc cut) (hn : cut.length ≤ maxLen) :
    Calls Try.prog 24 #[.agg #[.slice p1 long.length c1, .int .i64 sz, .slice p2 ks.length c2], .slice pc cut.length cc] w fun e w' => e = .returned (if validB long sz ks then .tuple #[.bool (cutOk sz (psum long long.length) 0 cut), .int .i64 0] else .tuple #[.bool false, .int .i64 10]) ∧ Below w.heap.size w w' := by
  go_enter Try.func24, Try.ntmps24
  have hba := below_alloc w (.cells #[.slice p1 long.length c1, .int .i64 sz, .slice p2 ks.length c2] 25)
  have r0 := Row.new w #[.slice p1 long.length c1, .int .i64 sz, .slice p2 ks.length c2] 25
  have HC := Lib.hid (check_any p1 c1 p2 c2 long sz ks _ (h.l.below hba) (h.k.below hba) h.b1 h.b2)
  have HH := Lib.hid h
  have HI := Lib.hid hc
  clear h hc
  cases hb : validB long sz ks
  · go_wp2_with (first | (refine HC.out.mono ?_; rw [checkE, hb]; rintro e w2 ⟨rfl, hb3⟩))
    go_ret2
    exact ⟨rfl, hba.trans (hb3.mono (by simp))⟩
  · have hok := valid_ok hb
    go_wp2_with (first | (refine HC.out.mono ?_; rw [checkE, hb]; rintro e w2 ⟨rfl, hb3⟩; have HB := Lib.hid (hba.trans (hb3.mono (by simp))); have r2 := Lib.hid (r0.below hb3 (by simp)); clear hb3; have k0 := r2.out.cell 0 (v := .slice p1 long.length c1) rfl; have k1 := r2.out.cell 1 (v := .int .i64 sz) rfl; have k2 := r2.out.cell 2 (v := .slice p2 ks.length c2) rfl; have hz := r2.out.lt) | (refine (unroll_of p1 c1 p2 c2 long sz ks _ (HH.out.below HB.out) hok).mono ?_; rintro e w3 ⟨R, mb, nn, f, rfl, hR, hA, hb4⟩; have HB4 := Lib.hid (HB.out.trans (hb4.mono (by omega))); have hz3 := hb4.size; clear hb4) | (refine (isCut_of hR hok _ _ _ _ hn (HI.out.below HB4.out)).mono ?_; rintro e w4 ⟨rfl, hb6⟩))
    go_ret2
    exact ⟨rfl, HB4.out.trans (hb6.mono (by omega))⟩

end Go.Proofs.Ytnnlbbmimdohoaa
