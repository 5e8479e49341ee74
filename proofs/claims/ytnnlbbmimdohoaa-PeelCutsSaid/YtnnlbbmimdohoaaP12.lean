/- The walks of layer 1: what refuses a log. -/
import Derived.Test.YtnnlbbmimdohoaaP11
namespace Go.Proofs.Ytnnlbbmimdohoaa
open Go.RowKit Go.Maps
attribute [local go_sem] Oper.semAt_some

/-- The number that Check returns. -/
def checkE (long : List Int) (sz : Int) (ks : List K4) : Int := if validB long sz ks then 0 else 10

set_option maxRecDepth 10000 in
set_option maxHeartbeats 800000 in
theorem check_any (p1 : Option Addr) (c1 : Nat) (p2 : Option Addr) (c2 : Nat) (long : List Int) (sz : Int) (ks : List K4) (w : World) (hl : IntsAt w p1 long) (hks : KnotsAt w p2 ks) (hb1 : long.length < 2 ^ 62) (hb2 : ks.length < 2 ^ 62) :
    Calls Try.prog 17 #[.agg #[.slice p1 long.length c1, .int .i64 sz, .slice p2 ks.length c2]] w fun e w' => e = .returned (.int .i64 (checkE long sz ks)) ∧ Below w.heap.size w w' := by
  go_enter Try.func17, Try.ntmps17
  have hba := below_alloc w (.cells #[.slice p1 long.length c1, .int .i64 sz, .slice p2 ks.length c2] 25)
  have hv := valid_any p1 c1 p2 c2 long sz ks _ (hl.below hba) (hks.below hba) hb1 hb2
  have HV := Lib.hid hv
  clear hv hl hks
  cases hb : validB long sz ks
  · go_wp2_with (first | (refine HV.out.mono ?_; rw [hb]; rintro e w2 ⟨rfl, hb3⟩))
    go_ret
    exact ⟨by simp [checkE, hb], hba.trans (hb3.mono (by simp))⟩
  · go_wp2_with (first | (refine HV.out.mono ?_; rw [hb]; rintro e w2 ⟨rfl, hb3⟩))
    go_ret
    exact ⟨by simp [checkE, hb], hba.trans (hb3.mono (by simp))⟩

end Go.Proofs.Ytnnlbbmimdohoaa
