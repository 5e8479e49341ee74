/- The specification of layer 1: cuttings, and how many of their pieces have no knot. -/
import Derived.Test.YtnnlbbmimdohoaaFA
import Derived.Deep.RegionHeld3
import Derived.Deep.DeepCutAuto
import Derived.Deep.CutRange
import Derived.Test.YtnnlbbmimdohoaaP22
namespace Go.Proofs.Ytnnlbbmimdohoaa
open Go.RowKit Go.Maps
attribute [local go_sem] Oper.semAt_some

set_option maxRecDepth 10000 in
set_option maxHeartbeats 1600000 in
theorem refisCut_any (p1 : Option Addr) (c1 : Nat) (p2 : Option Addr) (c2 : Nat) (long : List Int) (sz : Int) (ks : List K4) (w0 : World) (h : LogAt w0 p1 p2 long ks) (hb : validB long sz ks = true) (pc : Option Addr) (cc : Nat) (cut : List Int) (hc : IntsAt w0 pc cut) (hn : cut.length ≤ maxLen) :
    Calls Try.prog 65 #[.agg #[.slice p1 long.length c1, .int .i64 sz, .slice p2 ks.length c2], .slice pc cut.length cc] w0 fun e w' => e = .returned (.bool (cutOk sz (psum long long.length) 0 cut)) ∧ Below w0.heap.size w0 w' := by
  have hok := valid_ok hb
  have hw := wideN_eq hok.L
  have hs1 := hok.s1
  have hs6 := hok.s6
  have hn6 := hok.L.n6
  have hlong := total_psum hok.L long.length (Nat.le_refl _)
  rw [List.take_length] at hlong
  have HLONG := Lib.hid hlong
  have HH := Lib.hid h
  have HI := Lib.hid hc
  have hnn := hn
  unfold maxLen at hnn
  have hba := below_alloc w0 (.cells #[.slice p1 long.length c1, .int .i64 sz, .slice p2 ks.length c2] 25)
  have r0 := Row.new w0 #[.slice p1 long.length c1, .int .i64 sz, .slice p2 ks.length c2] 25
  clear hlong h hc
  go_enter Try.func65, Try.ntmps65
  have HB := Lib.hid hba
  have R2 := Lib.hid r0
  clear hba r0
  go_wp2_with fail
  go_loopw [5, 6] (fun f i wr => ∃ (j : Nat) (fr : Int), j ≤ cut.length ∧ i = .int .i64 j ∧ f = .int .i64 fr ∧ 0 ≤ fr ∧ fr ≤ 100 ∧ Hid (cutOk sz (psum long long.length) fr (cut.drop j) = cutOk sz (psum long long.length) 0 cut) ∧ Row wr w0.heap.size #[.slice p1 long.length c1, .int .i64 sz, .slice p2 ks.length c2] 25 ∧ Below w0.heap.size w0 wr) (fun _ i _ => cut.length - (intOf i).toNat)
  case atStart => exact ⟨0, 0, by omega, rfl, rfl, by omega, by omega, Lib.hid rfl, R2.out, HB.out⟩
  case round =>
    obtain ⟨j, fr, hj, rfl, rfl, hf0, hf1, HA, hr0, hb0⟩ := hrel
    have GR := Lib.hid hr0
    have GB := Lib.hid hb0
    clear hr0 hb0
    by_cases hlt : j < cut.length
    · obtain ⟨b, o, rfl, hcell⟩ := (HI.out.below GB.out) j hlt
      have hst := cutOk_step (sz := sz) (wide := psum long long.length) (free := fr) hlt
      rw [HA.out] at hst
      have HST := Lib.hid hst
      clear hst
      have HT := Lib.hid (fun nq => (by have h := Total_any p1 c1 long (wr.drewN nq) (by unfold maxLen; omega) (HH.out.below GB.out).l; rw [HLONG.out] at h; exact h) : ∀ nq, Calls Try.prog 47 #[.slice p1 long.length c1] (wr.drewN nq) fun e w' => e = .returned (.int .i64 (psum long long.length)) ∧ wr.drewN nq = w')
      have k0 := GR.out.cell 0 (v := .slice p1 long.length c1) rfl
      have k1 := GR.out.cell 1 (v := .int .i64 sz) rfl
      generalize at0 cut j = f at *
      have HWR := Lib.hid (show IntKind.i64.wrap (psum long long.length - sz) = psum long long.length - sz by rw [IntKind.wrap_i64]; omega)
      go_wp2_with fail
      go_quiet ((first | (go_at_call 47; exact quiet_eq (HT.out _)) | (go_at_call 46; exact quiet_eq (Fits_any _ _ _ _))))
      by_cases hf : f < fr ∨ psum long long.length - sz < f
      · have e1 : fits f fr (psum long long.length - sz) = false := by unfold fits; simp; omega
        have e2 : cutOk sz (psum long long.length) 0 cut = false := by have := HST.out; rw [if_pos hf] at this; exact this
        rw [e1]
        simp only [Bool.not_false]
        go_wp2
        go_ret
        exact ⟨by rw [e2]; rfl, below_drewN GB.out nq⟩
      · have e1 : fits f fr (psum long long.length - sz) = true := by unfold fits; simp; omega
        have HN := Lib.hid (show cutOk sz (psum long long.length) (f + sz) (cut.drop (j + 1)) = cutOk sz (psum long long.length) 0 cut by have := HST.out; rw [if_neg hf] at this; exact this.symm)
        have HW2 := Lib.hid (show IntKind.i64.wrap (f + sz) = f + sz by rw [IntKind.wrap_i64]; omega)
        have b1 : 0 ≤ f + sz := by omega
        have b2 : f + sz ≤ 100 := by omega
        rw [e1]
        simp only [Bool.not_true]
        have GR1 := Lib.hid (GR.out.drewN nq)
        have GB1 := Lib.hid (below_drewN GB.out nq)
        have hcell1 : (wr.drewN nq).cell? _ = some _ := hcell
        have k1 := GR1.out.cell 1 (v := .int .i64 sz) rfl
        clear HT HST HA hcell k0 GR GB e1 HWR
        generalize wr.drewN nq = w1 at *
        go_wp2_with fail
        go_quiet (fail)
        go_wp2
        go_roundw
        case rel => exact ⟨j + 1, f + sz, by omega, by go_num, by first | rfl | rw [HW2.out], b1, b2, Lib.hid HN.out, GR1.out.drewN _, below_drewN GB1.out _⟩
        case measure => simp [intOf]; omega
    · obtain rfl : j = cut.length := by omega
      have he : cutOk sz (psum long long.length) 0 cut = true := by rw [← HA.out, List.drop_length, cutOk]
      rw [he]
      go_wp2
      go_ret
      exact ⟨by rw [he]; rfl, GB.out⟩

set_option maxRecDepth 10000 in
set_option maxHeartbeats 1600000 in
theorem refisCut_some (p1 : Option Addr) (c1 : Nat) (p2 : Option Addr) (c2 : Nat) (long : List Int) (sz : Int) (ks : List K4) (w0 : World) (h : LogAt w0 p1 p2 long ks) (hlm : long.length ≤ maxLen) (pc : Option Addr) (cc : Nat) (cut : List Int) (hc : IntsAt w0 pc cut) (hn : cut.length ≤ maxLen) :
    Calls Try.prog 65 #[.agg #[.slice p1 long.length c1, .int .i64 sz, .slice p2 ks.length c2], .slice pc cut.length cc] w0 fun e w' => (∃ b : Bool, e = .returned (.bool b)) ∧ Below w0.heap.size w0 w' := by
  have HH := Lib.hid h
  have HI := Lib.hid hc
  have hnn := hn
  unfold maxLen at hnn
  have hba := below_alloc w0 (.cells #[.slice p1 long.length c1, .int .i64 sz, .slice p2 ks.length c2] 25)
  have r0 := Row.new w0 #[.slice p1 long.length c1, .int .i64 sz, .slice p2 ks.length c2] 25
  clear h hc
  go_enter Try.func65, Try.ntmps65
  have HB := Lib.hid hba
  have R2 := Lib.hid r0
  clear hba r0
  go_wp2_with fail
  go_loopw [5, 6] (fun f i wr => ∃ (j : Nat) (fr : Int), j ≤ cut.length ∧ i = .int .i64 j ∧ f = .int .i64 fr ∧ Row wr w0.heap.size #[.slice p1 long.length c1, .int .i64 sz, .slice p2 ks.length c2] 25 ∧ Below w0.heap.size w0 wr) (fun _ i _ => cut.length - (intOf i).toNat)
  case atStart => exact ⟨0, 0, by omega, rfl, rfl, R2.out, HB.out⟩
  case round =>
    obtain ⟨j, fr, hj, rfl, rfl, hr0, hb0⟩ := hrel
    have GR := Lib.hid hr0
    have GB := Lib.hid hb0
    clear hr0 hb0
    by_cases hlt : j < cut.length
    · obtain ⟨b, o, rfl, hcell⟩ := (HI.out.below GB.out) j hlt
      have HT := Lib.hid (fun nq => Total_any p1 c1 long (wr.drewN nq) hlm (HH.out.below GB.out).l : ∀ nq, Calls Try.prog 47 #[.slice p1 long.length c1] (wr.drewN nq) fun e w' => e = .returned (.int .i64 (total long)) ∧ wr.drewN nq = w')
      have k0 := GR.out.cell 0 (v := .slice p1 long.length c1) rfl
      have k1 := GR.out.cell 1 (v := .int .i64 sz) rfl
      generalize at0 cut j = f at *
      generalize total long = tt at *
      go_wp2_with fail
      go_quiet ((first | (go_at_call 47; exact quiet_eq (HT.out _)) | (go_at_call 46; exact quiet_eq (Fits_any _ _ _ _))))
      have GR1 := Lib.hid (GR.out.drewN nq)
      have GB1 := Lib.hid (below_drewN GB.out nq)
      have hcell1 : (wr.drewN nq).cell? _ = some _ := hcell
      have k1 := GR1.out.cell 1 (v := .int .i64 sz) rfl
      clear HT hcell k0 GR GB
      generalize wr.drewN nq = w1 at *
      generalize fits f fr (wrap64 (tt - sz)) = bb at *
      cases bb
      · try simp only [Bool.not_false]
        go_wp2
        go_ret
        exact ⟨⟨false, rfl⟩, GB1.out⟩
      · try simp only [Bool.not_true]
        go_wp2_with fail
        go_quiet (fail)
        go_wp2
        go_roundw
        case rel => exact ⟨j + 1, _, by omega, by go_num, rfl, GR1.out.drewN _, below_drewN GB1.out _⟩
        case measure => simp [intOf]; omega
    · obtain rfl : j = cut.length := by omega
      go_wp2
      go_ret
      exact ⟨⟨true, rfl⟩, GB.out⟩

set_option maxRecDepth 10000 in
set_option maxHeartbeats 1600000 in
theorem refwhole_any (p1 : Option Addr) (c1 : Nat) (p2 : Option Addr) (c2 : Nat) (long : List Int) (m : Nat) (hm : m ≤ 6) (ks : List K4) (w0 : World) (pk : Option Addr) (ck : Nat) (kn : List Bool) (hk : BoolsAt w0 pk kn) (g : Nat) (hg : g + m ≤ kn.length) (hkl : kn.length ≤ 72) :
    Calls Try.prog 91 #[.agg #[.slice p1 long.length c1, .int .i64 (m : Int), .slice p2 ks.length c2], .slice pk kn.length ck, .int .i64 (g : Int)] w0 fun e w' => e = .returned (.bool (freeAt kn g m)) ∧ Below w0.heap.size w0 w' := by
  have HK := Lib.hid hk
  have hba := below_alloc w0 (.cells #[.slice p1 long.length c1, .int .i64 (m : Int), .slice p2 ks.length c2] 25)
  have r0 := Row.new w0 #[.slice p1 long.length c1, .int .i64 (m : Int), .slice p2 ks.length c2] 25
  have HB := Lib.hid hba
  have R0 := Lib.hid r0
  clear hk hba r0
  go_enter Try.func91, Try.ntmps91
  go_wp2
  go_loopw [7] (fun c wi => ∃ k : Nat, k ≤ m ∧ c = .int .i64 ((g + k : Nat) : Int) ∧ Hid (freeAt kn g k = true) ∧ Row wi w0.heap.size #[.slice p1 long.length c1, .int .i64 (m : Int), .slice p2 ks.length c2] 25 ∧ Below w0.heap.size w0 wi) (fun c _ => ((g : Int) + m - intOf c).toNat)
  case atStart => exact ⟨0, by omega, by simp, Lib.hid (freeAt_zero kn g), R0.out, HB.out⟩
  case round =>
    clear R0 HB
    obtain ⟨k, hkm, rfl, HF, g1, gb1⟩ := hrel
    have k1 := g1.cell 1 (v := .int .i64 m) rfl
    have G1 := Lib.hid g1
    have GB1 := Lib.hid gb1
    clear g1 gb1
    by_cases hlt : k < m
    · obtain ⟨b2, o2, rfl, hc2⟩ := (HK.out.below GB1.out) (g + k) (by omega)
      have HS := Lib.hid (freeAt_succ kn g k)
      cases hbb : b0 kn (g + k)
      · rw [hbb] at hc2
        have HBB := Lib.hid hbb
        clear hbb
        go_wp2
        go_roundw
        case rel => exact ⟨k + 1, by omega, by go_num, Lib.hid (by rw [HS.out, HF.out, HBB.out]; rfl), G1.out, GB1.out⟩
        case measure => simp [intOf]; omega
      · have hno : freeAt kn g m = false := by
          cases hh : freeAt kn g m
          · rfl
          · have := freeAt_iff.1 hh k hlt
            rw [hbb] at this; cases this
        rw [hbb] at hc2
        clear hbb
        have HNO := Lib.hid hno
        clear hno
        go_wp2
        go_ret
        exact ⟨by rw [HNO.out]; rfl, GB1.out⟩
    · obtain rfl : k = m := by omega
      go_wp2
      go_ret
      exact ⟨by rw [HF.out]; rfl, GB1.out⟩
end Go.Proofs.Ytnnlbbmimdohoaa
/- The specification of layer 1: how many pieces have no knot; which columns can have one. -/
namespace Go.Proofs.Ytnnlbbmimdohoaa
open Go.RowKit Go.Maps
attribute [local go_sem] Oper.semAt_some

/-- A block of the call's own, and all that was there before. -/
structure Kept (l : Nat) (cs : Array Value) (t : TypeId) (w0 w : World) : Prop where
  r : Row w l cs t
  hb : Below w0.heap.size w0 w
section
variable {l : Nat} {cs : Array Value} {t : TypeId} {w0 w w' : World}
theorem Kept.below (h : Kept l cs t w0 w) (hb : Below w.heap.size w w') : Kept l cs t w0 w' := ⟨h.r.below hb h.r.lt, h.hb.trans (hb.mono h.hb.size)⟩
theorem Kept.drew (h : Kept l cs t w0 w) : Kept l cs t w0 w.drew := ⟨h.r.drew, h.hb.drew⟩
theorem Kept.drewN (h : Kept l cs t w0 w) (n : Nat) : Kept l cs t w0 (w.drewN n) := ⟨h.r.drewN n, below_drewN h.hb n⟩
theorem Kept.alloc (h : Kept l cs t w0 w) (o : Obj) : Kept l cs t w0 (w.alloc o) := ⟨h.r.alloc o, h.hb.alloc h.hb.size o⟩
theorem Kept.new (w0 : World) (cs : Array Value) (t : TypeId) : Kept w0.heap.size cs t w0 (w0.alloc (.cells cs t)) := ⟨Row.new _ _ _, below_alloc _ _⟩
end

set_option maxRecDepth 10000 in
set_option maxHeartbeats 1600000 in
theorem refcount_any (p1 : Option Addr) (c1 : Nat) (p2 : Option Addr) (c2 : Nat) (long : List Int) (m : Nat) (hm : m ≤ 6) (ks : List K4) (w0 : World) (pk : Option Addr) (ck : Nat) (kn : List Bool) (hk : BoolsAt w0 pk kn) (hkl : kn.length ≤ 72) (pc : Option Addr) (cc : Nat) (cut : List Int) (hc : IntsAt w0 pc cut) (hn : cut.length ≤ maxLen) (hcut : ∀ f ∈ cut, 0 ≤ f ∧ f + m ≤ kn.length) :
    Calls Try.prog 71 #[.agg #[.slice p1 long.length c1, .int .i64 (m : Int), .slice p2 ks.length c2], .slice pk kn.length ck, .slice pc cut.length cc] w0 fun e w' => e = .returned (.int .i64 (wholeN kn m cut)) ∧ Below w0.heap.size w0 w' := by
  have HK := Lib.hid hk
  have HI := Lib.hid hc
  have HCUT := Lib.hid hcut
  have K0 := Lib.hid (Kept.new w0 #[.slice p1 long.length c1, .int .i64 (m : Int), .slice p2 ks.length c2] 25)
  have hnn := hn
  unfold maxLen at hnn
  clear hk hc hcut
  go_enter Try.func71, Try.ntmps71
  go_wp2
  go_loopw [7, 8] (fun n i wr => ∃ j : Nat, j ≤ cut.length ∧ i = .int .i64 j ∧ n = .int .i64 (wholeN kn m (cut.take j)) ∧ Kept w0.heap.size #[.slice p1 long.length c1, .int .i64 (m : Int), .slice p2 ks.length c2] 25 w0 wr) (fun _ i _ => cut.length - (intOf i).toNat)
  case atStart => exact ⟨0, by omega, rfl, rfl, K0.out⟩
  case round =>
    obtain ⟨j, hj, rfl, rfl, g0⟩ := hrel
    clear K0
    by_cases hjl : j < cut.length
    · have hfc := HCUT.out (at0 cut j) (by rw [at0_lt hjl]; exact List.getElem_mem _)
      obtain ⟨b, o, rfl, hcell⟩ := (HI.out.below g0.hb) j hjl
      have hst := wholeN_take (kn := kn) (sz := m) hjl
      obtain ⟨g, hg⟩ : ∃ g : Nat, at0 cut j = g := ⟨(at0 cut j).toNat, by omega⟩
      rw [hg] at hcell hst hfc
      have HST := Lib.hid hst
      have hwn := wholeN_le kn m (cut.take j)
      have htl : (cut.take j).length = j := by rw [List.length_take]; omega
      rw [htl] at hwn
      generalize wholeN kn m (cut.take j) = n at *
      have hlt : b < wr.heap.size := cell_block hcell
      have KI := Lib.hid g0.drew
      have hs0 : wr.cell? ⟨w0.heap.size, 0, none⟩ = some (.slice p1 long.length c1) ∧ wr.cell? ⟨w0.heap.size, 1, none⟩ = some (.int .i64 (m : Int)) ∧ wr.cell? ⟨w0.heap.size, 2, none⟩ = some (.slice p2 ks.length c2) ∧ wr.cell? ⟨b, o + j, none⟩ = some (.int .i64 (g : Int)) := ⟨g0.r.cell 0 rfl, g0.r.cell 1 rfl, g0.r.cell 2 rfl, hcell⟩
      have HS0 := Lib.hid hs0
      have HW := Lib.hid (fun w hb => refwhole_any p1 c1 p2 c2 long m hm ks w pk ck kn (HK.out.below hb) g (by omega) hkl : ∀ w, Below w0.heap.size w0 w → Calls Try.prog 91 #[.agg #[.slice p1 long.length c1, .int .i64 (m : Int), .slice p2 ks.length c2], .slice pk kn.length ck, .int .i64 (g : Int)] w fun e w' => e = .returned (.bool (freeAt kn g m)) ∧ Below w.heap.size w w')
      have i1 : (0 : Int) ≤ (j : Int) := by omega
      have i2 : (j : Int) < (cut.length : Int) := by omega
      have HSET := Lib.hid (fun w (hb : Below wr.heap.size wr w) => (⟨by rw [(bcell hb).1 _ _ g0.r.lt]; exact hs0.1, by rw [(bcell hb).1 _ _ g0.r.lt]; exact hs0.2.1, by rw [(bcell hb).1 _ _ g0.r.lt]; exact hs0.2.2.1, by rw [(bcell hb).1 _ _ hlt]; exact hs0.2.2.2⟩ : w.cell? ⟨w0.heap.size, 0, none⟩ = some (.slice p1 long.length c1) ∧ w.cell? ⟨w0.heap.size, 1, none⟩ = some (.int .i64 (m : Int)) ∧ w.cell? ⟨w0.heap.size, 2, none⟩ = some (.slice p2 ks.length c2) ∧ w.cell? ⟨b, o + j, none⟩ = some (.int .i64 (g : Int))))
      have HBU := Lib.hid ((Below.refl wr.heap.size wr).drew)
      clear hst htl hcell g0 hs0
      go_wp2_with fail
      go_region_held3 (fun w' => w'.cell? ⟨w0.heap.size, 0, none⟩ = some (.slice p1 long.length c1) ∧ w'.cell? ⟨w0.heap.size, 1, none⟩ = some (.int .i64 (m : Int)) ∧ w'.cell? ⟨w0.heap.size, 2, none⟩ = some (.slice p2 ks.length c2) ∧ w'.cell? ⟨b, o + j, none⟩ = some (.int .i64 (g : Int))) (first | exact HS0.out | exact HSET.out _ HBU.out)
        (first | (go_at_call 91; refine (HW.out _ KI.out.hb).mono ?_; rintro e u ⟨rfl, hbu⟩; have KI := Lib.hid (KI.out.below hbu); have HBU := Lib.hid (((Below.refl wr.heap.size wr).drew).trans hbu)))
      all_goals
        cases hfr : freeAt kn g m
        all_goals
          have HF := Lib.hid hfr
          clear hfr
          go_wp2
          go_roundw
          case rel => exact ⟨j + 1, by omega, by go_num, by rw [HST.out, Int.toNat_natCast, HF.out]; simp, KI.out⟩
          case measure => simp [intOf]; omega
    · obtain rfl : j = cut.length := by omega
      have he : cut.take cut.length = cut := List.take_length
      rw [he]
      go_wp2
      go_ret
      exact ⟨rfl, g0.hb⟩
end Go.Proofs.Ytnnlbbmimdohoaa
/- The specification of layer 1: which columns can have a knot; the pieces that surely have none. -/
namespace Go.Proofs.Ytnnlbbmimdohoaa
open Go.RowKit Go.Maps
attribute [local go_sem] Oper.semAt_some

theorem Kept.s3 {l : Nat} {x y z : Value} {t : TypeId} {w0 w : World} (h : Kept l #[x, y, z] t w0 w) : w.cell? ⟨l, 0, none⟩ = some x ∧ w.cell? ⟨l, 1, none⟩ = some y ∧ w.cell? ⟨l, 2, none⟩ = some z := ⟨h.r.cell 0 rfl, h.r.cell 1 rfl, h.r.cell 2 rfl⟩
/-- The call returned such truth values, as far as the ribbon goes. -/
def GaveW (long : List Int) (X : List Bool) (w : World) (e : Ending) (w' : World) : Prop := ∃ b o c, e = .returned (.slice (some ⟨b, o, none⟩) (wideN long) c) ∧ w.heap.size ≤ b ∧ BoolsAt w' (some ⟨b, o, none⟩) (X.take (wideN long)) ∧ Below w.heap.size w w'
theorem takeW_length {long : List Int} (hL : LongOk long) {X : List Bool} (hX : X.length = 72) : (X.take (wideN long)).length = wideN long := by
  have := wideN_eq hL
  rw [List.length_take]; omega
theorem refmark_W (p1 : Option Addr) (c1 : Nat) (p2 : Option Addr) (c2 : Nat) (long : List Int) (sz : Int) (ks : List K4) (hL : LongOk long) (hc1 : long.length ≤ c1) (w : World) (h : LogAt w p1 p2 long ks) (b o c : Nat) (X : List Bool) (hX : X.length = 72) (hk : BoolsAt w (some ⟨b, o, none⟩) (X.take (wideN long))) (a : Int) (ha0 : 0 ≤ a) (ha1 : a ≤ 23) (t : Nat) (ht : t ≤ 6) :
    Calls Try.prog 92 #[.agg #[.slice p1 long.length c1, .int .i64 sz, .slice p2 ks.length c2], .slice (some ⟨b, o, none⟩) (wideN long) c, .agg #[.int .i64 a, .int .i64 (t : Int)]] w (GaveW long (orL X (trailD long a t)) w) := by
  have hm := refmark_any p1 c1 p2 c2 long sz ks w h hL hc1 (some ⟨b, o, none⟩) c (X.take (wideN long)) hk (takeW_length hL hX) a ha0 ha1 t ht
  rw [takeW_length hL hX, mark_take hL ha0 ha1 t hX] at hm
  refine hm.mono ?_
  rintro e w' ⟨b', o', c', he, hnew, hbt, hb2⟩
  rw [takeW_length hL (X := orL X (trailD long a t)) (orL_length hX (trailL_length _ _ _ _))] at he
  exact ⟨b', o', c', he, hnew, hbt, hb2⟩

set_option maxRecDepth 10000 in
set_option maxHeartbeats 1600000 in
theorem refsome_any (p1 : Option Addr) (c1 : Nat) (p2 : Option Addr) (c2 : Nat) (long : List Int) (sz : Int) (ks : List K4) (w0 : World) (h : LogAt w0 p1 p2 long ks) (hok : LogOk long sz ks) (hc1 : long.length ≤ c1) :
    Calls Try.prog 72 #[.agg #[.slice p1 long.length c1, .int .i64 sz, .slice p2 ks.length c2]] w0 (GaveW long (reachD long ks) w0) := by
  have hL := hok.L
  have hw := wideN_eq hL
  have hn6 := hL.n6
  have hk3 := hok.k3
  have hlong := total_psum hL long.length (Nat.le_refl _)
  rw [List.take_length] at hlong
  have HW := Lib.hid hw.1
  have HALL := Lib.hid (someTo_all long ks)
  have H0 := Lib.hid h
  have HTOT := Lib.hid (show Calls Try.prog 47 #[.slice p1 long.length c1] (w0.alloc (.cells #[.slice p1 long.length c1, .int .i64 sz, .slice p2 ks.length c2] 25)) fun e w' => e = .returned (.int .i64 (wideN long : Int)) ∧ (w0.alloc (.cells #[.slice p1 long.length c1, .int .i64 sz, .slice p2 ks.length c2] 25)) = w' from by have h := Total_any p1 c1 long (w0.alloc (.cells #[.slice p1 long.length c1, .int .i64 sz, .slice p2 ks.length c2] 25)) (by unfold maxLen; omega) (h.below (below_alloc _ _)).l; rw [hlong, ← HW.out] at h; exact h)
  have hw1 := hw.2.1
  have hw2 := hw.2.2
  have K0 := Lib.hid ((Kept.new w0 #[.slice p1 long.length c1, .int .i64 sz, .slice p2 ks.length c2] 25).alloc (.cells (boolsA (List.replicate (wideN long) false)) 4))
  have Z1 := Lib.hid (Row.new' (n := w0.heap.size + 1) (w := w0.alloc (.cells #[.slice p1 long.length c1, .int .i64 sz, .slice p2 ks.length c2] 25)) (by simp) (boolsA (List.replicate (wideN long) false)) 4)
  have hmk := make_bools (wideN long) (by omega)
  clear hw hlong h
  have BZ := Lib.hid (show BoolsAt ((w0.alloc (.cells #[.slice p1 long.length c1, .int .i64 sz, .slice p2 ks.length c2] 25)).alloc (.cells (boolsA (List.replicate (wideN long) false)) 4)) (some ⟨w0.heap.size + 1, 0, none⟩) ((someTo long ks 0).take (wideN long)) from by
    rw [someTo_zero, List.take_replicate, show min (wideN long) 72 = wideN long by omega]
    refine bools_of_row Z1.out ?_
    simp [boolsA])
  go_enter Try.func72, Try.ntmps72
  go_wp2_with (first | (refine HTOT.out.mono ?_; rintro e u ⟨rfl, rfl⟩))
  clear hmk HTOT Z1
  go_loopw [3, 4] (fun v i wr => ∃ (k b o c : Nat), k ≤ ks.length ∧ i = .int .i64 k ∧ v = .slice (some ⟨b, o, none⟩) (wideN long) c ∧ w0.heap.size ≤ b ∧ BoolsAt wr (some ⟨b, o, none⟩) ((someTo long ks k).take (wideN long)) ∧ Kept w0.heap.size #[.slice p1 long.length c1, .int .i64 sz, .slice p2 ks.length c2] 25 w0 wr) (fun _ i _ => ks.length - (intOf i).toNat)
  case atStart => exact ⟨0, w0.heap.size + 1, 0, wideN long, by omega, rfl, by first | rfl | simp, by omega, BZ.out, K0.out⟩
  case round =>
    clear BZ K0
    obtain ⟨k, b, o, c, hk, rfl, rfl, hb, hbo, g0⟩ := hrel
    have k2 := g0.r.cell 2 (v := .slice p2 ks.length c2) rfl
    by_cases hlt : k < ks.length
    · obtain ⟨bp, op, rfl, q0, q1, q2, q3⟩ := ((H0.out.below g0.hb).k) k hlt
      have hko := hok.ok ks[k] (List.getElem_mem hlt)
      have haw := hok.aw ks[k] (List.getElem_mem hlt)
      have hfw := hok.fw ks[k] (List.getElem_mem hlt)
      have HST := Lib.hid (someTo_succ (long := long) hlt)
      have hpin := Lib.hid (fun p hp => places_in hp : ∀ p ∈ placesL ks[k], ks[k].al ≤ p.1 ∧ p.1 ≤ ks[k].ah ∧ ks[k].fl ≤ p.2 ∧ p.2 ≤ ks[k].fh)
      have hpl8 := places_few haw hfw
      have HPC := Lib.hid (fun w => refplaces_any ks[k] hko haw hfw w)
      have HSK := Lib.hid (fun i hi => someK_succ (long := long) (X := someTo long ks k) (k := ks[k]) (i := i) hi : ∀ i (hi : i < (placesL ks[k]).length), someK long (someTo long ks k) ks[k] (i + 1) = orL (someK long (someTo long ks k) ks[k] i) (trailD long (placesL ks[k])[i].1 (placesL ks[k])[i].2.toNat))
      have HSL := Lib.hid (someK_length long (someTo_length long ks k) ks[k])
      have HSZ := Lib.hid (someK_zero long (someTo long ks k) ks[k])
      have hA0 := hko.a0
      have hA1 := hko.a1
      have hF0 := hko.f0
      have hF1 := hko.f1
      have KI := Lib.hid g0
      have BO := Lib.hid hbo
      clear g0 hbo haw hfw hko
      go_wp2_with fail
      refine (HPC.out _).mono ?_
      rintro e w1 ⟨pp, cp, rfl, hpa, hb1⟩
      have KI := Lib.hid (KI.out.below hb1)
      have BO := Lib.hid (BO.out.below hb1)
      have PA := Lib.hid hpa
      clear hb1 hpa k2 q0 q1 q2 q3 HPC
      generalize placesL ks[k] = pl at *
      generalize hsk : someK long (someTo long ks k) ks[k] = sk at *
      have HSN := Lib.hid hsk
      clear hsk
      go_wp2_with fail
      go_loopw [3, 6] (fun v q wr => ∃ (i b o c : Nat), i ≤ pl.length ∧ q = .int .i64 i ∧ v = .slice (some ⟨b, o, none⟩) (wideN long) c ∧ w0.heap.size ≤ b ∧ BoolsAt wr (some ⟨b, o, none⟩) ((sk i).take (wideN long)) ∧ PlacesAt wr pp pl ∧ Kept w0.heap.size #[.slice p1 long.length c1, .int .i64 sz, .slice (some ⟨bp, op, none⟩) ks.length c2] 25 w0 wr) (fun _ q _ => pl.length - (intOf q).toNat)
      case atStart => exact ⟨0, b, o, c, by omega, rfl, rfl, hb, by rw [HSZ.out]; exact BO.out, PA.out, KI.out⟩
      case round =>
        clear BO PA KI
        obtain ⟨i, b, o, c, hi, rfl, rfl, hb, hbo, hpa, g0⟩ := hrel
        by_cases hil : i < pl.length
        · obtain ⟨pb, po, rfl, hp0, hp1⟩ := hpa i hil
          obtain ⟨m, hm⟩ : ∃ m : Nat, pl[i].2 = m := ⟨pl[i].2.toNat, by have := hpin.out pl[i] (List.getElem_mem hil); omega⟩
          have hpj := hpin.out pl[i] (List.getElem_mem hil)
          have hsk := HSK.out i hil
          rw [hm] at hpj hp1 hsk
          rw [Int.toNat_natCast] at hsk
          have HSKI := Lib.hid hsk
          have hpz := cell_block hp0
          have hs0 : wr.cell? ⟨w0.heap.size, 0, none⟩ = some (.slice p1 long.length c1) ∧ wr.cell? ⟨w0.heap.size, 1, none⟩ = some (.int .i64 sz) ∧ wr.cell? ⟨w0.heap.size, 2, none⟩ = some (.slice (some ⟨bp, op, none⟩) ks.length c2) ∧ wr.cell? ⟨pb, po + i * 2, none⟩ = some (.int .i64 pl[i].1) ∧ wr.cell? ⟨pb, po + i * 2 + 1, none⟩ = some (.int .i64 (m : Int)) := ⟨g0.r.cell 0 rfl, g0.r.cell 1 rfl, g0.r.cell 2 rfl, hp0, hp1⟩
          have HS0 := Lib.hid hs0
          have HSET := Lib.hid (fun w (hbw : Below wr.heap.size wr w) => (⟨by rw [(bcell hbw).1 _ _ g0.r.lt]; exact hs0.1, by rw [(bcell hbw).1 _ _ g0.r.lt]; exact hs0.2.1, by rw [(bcell hbw).1 _ _ g0.r.lt]; exact hs0.2.2.1, by rw [(bcell hbw).1 _ _ hpz]; exact hs0.2.2.2.1, by rw [(bcell hbw).1 _ _ hpz]; exact hs0.2.2.2.2⟩ : w.cell? ⟨w0.heap.size, 0, none⟩ = some (.slice p1 long.length c1) ∧ w.cell? ⟨w0.heap.size, 1, none⟩ = some (.int .i64 sz) ∧ w.cell? ⟨w0.heap.size, 2, none⟩ = some (.slice (some ⟨bp, op, none⟩) ks.length c2) ∧ w.cell? ⟨pb, po + i * 2, none⟩ = some (.int .i64 pl[i].1) ∧ w.cell? ⟨pb, po + i * 2 + 1, none⟩ = some (.int .i64 (m : Int))))
          have HBU := Lib.hid ((Below.refl wr.heap.size wr).drew)
          have hX := HSL.out i
          obtain ⟨pa0, pa1⟩ : 0 ≤ pl[i].1 ∧ pl[i].1 ≤ 23 := by omega
          have hm6 : m ≤ 6 := by omega
          have KI := Lib.hid g0.drew
          have BO := Lib.hid hbo
          have PA := Lib.hid (hpa.below ((Below.refl wr.heap.size wr).drew))
          have HMK := Lib.hid (fun w hbw => refmark_W p1 c1 (some ⟨bp, op, none⟩) c2 long sz ks hL hc1 w ((H0.out.below g0.hb).below hbw) b o c (sk i) hX (hbo.below hbw) pl[i].1 pa0 pa1 m hm6 : ∀ w, Below wr.heap.size wr w → Calls Try.prog 92 #[.agg #[.slice p1 long.length c1, .int .i64 sz, .slice (some ⟨bp, op, none⟩) ks.length c2], .slice (some ⟨b, o, none⟩) (wideN long) c, .agg #[.int .i64 pl[i].1, .int .i64 (m : Int)]] w fun e w' => ∃ b' o' c', e = .returned (.slice (some ⟨b', o', none⟩) (wideN long) c') ∧ w.heap.size ≤ b' ∧ BoolsAt w' (some ⟨b', o', none⟩) ((orL (sk i) (trailD long pl[i].1 m)).take (wideN long)) ∧ Below w.heap.size w w')
          have i1 : (0 : Int) ≤ (i : Int) := by omega
          have i2 : (i : Int) < (pl.length : Int) := by omega
          have hz0 := g0.r.lt
          clear g0 hbo hpa hp0 hp1 hs0 hpj hm hsk
          go_wp2_with fail
          go_region_held3 (fun w' => w'.cell? ⟨w0.heap.size, 0, none⟩ = some (.slice p1 long.length c1) ∧ w'.cell? ⟨w0.heap.size, 1, none⟩ = some (.int .i64 sz) ∧ w'.cell? ⟨w0.heap.size, 2, none⟩ = some (.slice (some ⟨bp, op, none⟩) ks.length c2) ∧ w'.cell? ⟨pb, po + i * 2, none⟩ = some (.int .i64 pl[i].1) ∧ w'.cell? ⟨pb, po + i * 2 + 1, none⟩ = some (.int .i64 (m : Int))) (first | exact HS0.out | exact HSET.out _ HBU.out)
            (first | (go_at_call 92; refine (HMK.out _ HBU.out).mono ?_; rintro e u ⟨b', o', c', rfl, hnew, hbt, hbu⟩; have KI := Lib.hid (KI.out.below hbu); have PA := Lib.hid (PA.out.below hbu); have BT := Lib.hid hbt; have hnew3 : wr.heap.size ≤ b' := hnew; have HBU := Lib.hid (((Below.refl wr.heap.size wr).drew).trans hbu); clear hbt hbu hnew))
          all_goals
            go_wp2
            go_roundw
            case rel => exact ⟨i + 1, b', o', c', by omega, by go_num, rfl, by omega, by rw [HSKI.out]; exact BT.out, PA.out, KI.out⟩
            case measure => simp [intOf]; omega
        · obtain rfl : i = pl.length := by omega
          have KI := Lib.hid g0
          have BO := Lib.hid hbo
          clear g0 hbo hpa
          go_wp2
          go_roundw
          case rel => exact ⟨k + 1, b, o, c, by omega, by go_num, rfl, hb, by rw [HST.out]; exact BO.out, KI.out⟩
          case measure => simp [intOf]; omega
    · obtain rfl : k = ks.length := by omega
      have KI := Lib.hid g0
      have BO := Lib.hid hbo
      clear g0 hbo
      go_wp2
      go_ret
      exact ⟨b, o, c, rfl, hb, by rw [← HALL.out]; exact BO.out, KI.out.hb⟩
end Go.Proofs.Ytnnlbbmimdohoaa
/- The specification of layer 1: Sure. -/
namespace Go.Proofs.Ytnnlbbmimdohoaa
open Go.RowKit Go.Maps
attribute [local go_sem] Oper.semAt_some

set_option maxRecDepth 10000 in
set_option maxHeartbeats 800000 in
theorem refasked_any (p1 : Option Addr) (c1 : Nat) (p2 : Option Addr) (c2 : Nat) (long : List Int) (sz : Int) (ks : List K4) (w0 : World) (h : LogAt w0 p1 p2 long ks) (r : Bool) :
    Calls Try.prog 70 #[.agg #[.slice p1 long.length c1, .int .i64 sz, .slice p2 ks.length c2], .bool r] w0 fun e w' => e = .returned (.int .i64 (if validB long sz ks then (if r then 0 else 11) else 10)) ∧ Below w0.heap.size w0 w' := by
  have hba := below_alloc w0 (.cells #[.slice p1 long.length c1, .int .i64 sz, .slice p2 ks.length c2] 25)
  have r0 := Row.new w0 #[.slice p1 long.length c1, .int .i64 sz, .slice p2 ks.length c2] 25
  have HC := Lib.hid (refCheck_any p1 c1 p2 c2 long sz ks _ (h.below hba))
  clear h
  cases hb : validB long sz ks
  · rw [if_neg (by simp)]
    go_enter Try.func70, Try.ntmps70
    go_wp2_with (first | (refine HC.out.mono ?_; rw [checkE, hb]; rintro e w1 ⟨rfl, hb1⟩; have HB := Lib.hid (hba.trans (hb1.mono (by simp))); clear hb1))
    go_ret
    exact ⟨rfl, HB.out⟩
  · rw [if_pos rfl]
    cases r
    · rw [if_neg (by simp)]
      go_enter Try.func70, Try.ntmps70
      go_wp2_with (first | (refine HC.out.mono ?_; rw [checkE, hb]; rintro e w1 ⟨rfl, hb1⟩; have HB := Lib.hid (hba.trans (hb1.mono (by simp))); clear hb1))
      go_ret
      exact ⟨rfl, HB.out⟩
    · rw [if_pos rfl]
      go_enter Try.func70, Try.ntmps70
      go_wp2_with (first | (refine HC.out.mono ?_; rw [checkE, hb]; rintro e w1 ⟨rfl, hb1⟩; have HB := Lib.hid (hba.trans (hb1.mono (by simp))); clear hb1))
      go_ret
      exact ⟨rfl, HB.out⟩

set_option maxRecDepth 10000 in
set_option maxHeartbeats 1600000 in
theorem refSure_any (p1 : Option Addr) (c1 : Nat) (p2 : Option Addr) (c2 : Nat) (long : List Int) (sz : Int) (ks : List K4) (w0 : World) (h : LogAt w0 p1 p2 long ks) (hc1 : long.length ≤ c1) (pc : Option Addr) (cc : Nat) (cut : List Int) (hc : IntsAt w0 pc cut) (hn : cut.length ≤ maxLen) :
    Calls Try.prog 27 #[.agg #[.slice p1 long.length c1, .int .i64 sz, .slice p2 ks.length c2], .slice pc cut.length cc] w0 fun e w' => e = .returned (.tuple #[.int .i64 (if validB long sz ks then if cutOk sz (psum long long.length) 0 cut then countL (wholesD long sz (reachD long ks)) cut else 0 else 0), .int .i64 (if validB long sz ks then if cutOk sz (psum long long.length) 0 cut then 0 else 11 else 10)]) ∧ Below w0.heap.size w0 w' := by
  have H0 := Lib.hid h
  have HI := Lib.hid hc
  have KI := Lib.hid (Kept.new w0 #[.slice p1 long.length c1, .int .i64 sz, .slice p2 ks.length c2] 25)
  have hs0 := KI.out.s3
  have HS0 := Lib.hid hs0
  have HAS := Lib.hid (fun w (hb : Below w0.heap.size w0 w) r => refasked_any p1 c1 p2 c2 long sz ks w (h.below hb) r)
  clear hs0
  cases hb : validB long sz ks
  · have HIC := Lib.hid (fun w (hb : Below w0.heap.size w0 w) => refisCut_some p1 c1 p2 c2 long sz ks w (h.below hb) (by have := h.b1; unfold maxLen; omega) pc cc cut (hc.below hb) hn)
    rw [if_neg (by simp), if_neg (by simp)]
    have HB := Lib.hid hb
    clear h hc hb
    go_enter Try.func27, Try.ntmps27
    go_wp2_with fail
    go_region_held3 (fun w' => w'.cell? ⟨w0.heap.size, 0, none⟩ = some (.slice p1 long.length c1) ∧ w'.cell? ⟨w0.heap.size, 1, none⟩ = some (.int .i64 sz) ∧ w'.cell? ⟨w0.heap.size, 2, none⟩ = some (.slice p2 ks.length c2)) (first | exact HS0.out | exact KI.out.s3)
      (first
        | (go_at_call 65; refine (HIC.out _ KI.out.drew.hb).mono ?_; rintro e u ⟨⟨bb, rfl⟩, hbu⟩; have KI := Lib.hid (KI.out.drew.below hbu); clear hbu)
        | (go_at_call 70; refine (HAS.out _ KI.out.hb _).mono ?_; rw [HB.out, if_neg (by simp)]; rintro e u2 ⟨rfl, hbu⟩; have KI := Lib.hid (KI.out.below hbu); clear hbu))
    all_goals
      go_wp2
      go_ret2
      exact ⟨rfl, KI.out.hb⟩
  · have hok := valid_ok hb
    have hL := hok.L
    have hs1 := hok.s1
    have hs6 := hok.s6
    have hw := wideN_eq hL
    have HIC := Lib.hid (fun w (hbw : Below w0.heap.size w0 w) => refisCut_any p1 c1 p2 c2 long sz ks w (h.below hbw) hb pc cc cut (hc.below hbw) hn)
    rw [if_pos rfl, if_pos rfl]
    have HB := Lib.hid hb
    cases hcut : cutOk sz (psum long long.length) 0 cut
    · rw [hcut] at HIC
      rw [if_neg (by simp), if_neg (by simp)]
      clear h hc hb hcut
      go_enter Try.func27, Try.ntmps27
      go_wp2_with fail
      go_region_held3 (fun w' => w'.cell? ⟨w0.heap.size, 0, none⟩ = some (.slice p1 long.length c1) ∧ w'.cell? ⟨w0.heap.size, 1, none⟩ = some (.int .i64 sz) ∧ w'.cell? ⟨w0.heap.size, 2, none⟩ = some (.slice p2 ks.length c2)) (first | exact HS0.out | exact KI.out.s3)
        (first
          | (go_at_call 65; refine (HIC.out _ KI.out.drew.hb).mono ?_; rintro e u ⟨rfl, hbu⟩; have KI := Lib.hid (KI.out.drew.below hbu); clear hbu)
          | (go_at_call 70; refine (HAS.out _ KI.out.hb _).mono ?_; rw [HB.out, if_pos rfl, if_neg (by simp)]; rintro e u2 ⟨rfl, hbu⟩; have KI := Lib.hid (KI.out.below hbu); clear hbu))
      all_goals
        go_wp2
        go_ret2
        exact ⟨rfl, KI.out.hb⟩
    · rw [hcut] at HIC
      rw [if_pos rfl, if_pos rfl]
      obtain ⟨m, rfl⟩ : ∃ m : Nat, sz = m := ⟨sz.toNat, by omega⟩
      have hrd := reachD_length long ks
      have hrw := takeW_length hL hrd
      have HCN := Lib.hid (fun w (hbw : Below w0.heap.size w0 w) (b o c : Nat) (hbo : BoolsAt w (some ⟨b, o, none⟩) ((reachD long ks).take (wideN long))) => (by
        have hz := refcount_any p1 c1 p2 c2 long m (by omega) ks w (some ⟨b, o, none⟩) c _ hbo (by rw [hrw]; omega) pc cc cut (hc.below hbw) hn (fun f hf => by have := cutOk_range (Int.le_refl 0) (by omega) hcut f hf; rw [hrw]; omega)
        rw [hrw, wholeN_take_eq (by omega) hL _ hcut] at hz
        exact hz) : ∀ w, Below w0.heap.size w0 w → ∀ b o c : Nat, BoolsAt w (some ⟨b, o, none⟩) ((reachD long ks).take (wideN long)) → Calls Try.prog 71 #[.agg #[.slice p1 long.length c1, .int .i64 (m : Int), .slice p2 ks.length c2], .slice (some ⟨b, o, none⟩) (wideN long) c, .slice pc cut.length cc] w fun e w' => e = .returned (.int .i64 (countL (wholesD long m (reachD long ks)) cut)) ∧ Below w.heap.size w w')
      have HSO := Lib.hid (fun w (hbw : Below w0.heap.size w0 w) => refsome_any p1 c1 p2 c2 long m ks w (h.below hbw) hok hc1)
      clear h hc hb hcut hrw
      go_enter Try.func27, Try.ntmps27
      go_wp2_with fail
      go_region_held3 (fun w' => w'.cell? ⟨w0.heap.size, 0, none⟩ = some (.slice p1 long.length c1) ∧ w'.cell? ⟨w0.heap.size, 1, none⟩ = some (.int .i64 (m : Int)) ∧ w'.cell? ⟨w0.heap.size, 2, none⟩ = some (.slice p2 ks.length c2)) (first | exact HS0.out | exact KI.out.s3)
        (first
          | (go_at_call 65; refine (HIC.out _ KI.out.drew.hb).mono ?_; rintro e u ⟨rfl, hbu⟩; have KI := Lib.hid (KI.out.drew.below hbu); clear hbu)
          | (go_at_call 70; refine (HAS.out _ KI.out.hb _).mono ?_; rw [HB.out, if_pos rfl, if_pos rfl]; rintro e u2 ⟨rfl, hbu⟩; have KI := Lib.hid (KI.out.below hbu); clear hbu))
      all_goals
        have hs1 := KI.out.s3
        have HS1 := Lib.hid hs1
        clear hs1
        go_wp2_with fail
        go_region_held3 (fun w' => w'.cell? ⟨w0.heap.size, 0, none⟩ = some (.slice p1 long.length c1) ∧ w'.cell? ⟨w0.heap.size, 1, none⟩ = some (.int .i64 (m : Int)) ∧ w'.cell? ⟨w0.heap.size, 2, none⟩ = some (.slice p2 ks.length c2)) (first | exact HS1.out | exact KI.out.s3)
          (first
            | (go_at_call 72; refine (HSO.out _ KI.out.drew.hb).mono ?_; rintro e u ⟨b', o', c', rfl, hnew, hbt, hbu⟩; have KI := Lib.hid (KI.out.drew.below hbu); have BT := Lib.hid hbt; clear hbu hbt hnew)
            | (go_at_call 71; refine (HCN.out _ KI.out.hb _ _ _ BT.out).mono ?_; rintro e u2 ⟨rfl, hbu⟩; have KI := Lib.hid (KI.out.below hbu); clear hbu))
        all_goals
          go_wp2
          go_ret2
          exact ⟨rfl, KI.out.hb⟩
end Go.Proofs.Ytnnlbbmimdohoaa
/- The specification of layer 1: the cutting of the most pieces. -/
namespace Go.Proofs.Ytnnlbbmimdohoaa
open Go.RowKit Go.Maps
attribute [local go_sem] Oper.semAt_some

/-- Where the last piece ends. -/
def LastIs (out : List Int) (m e : Nat) : Prop := (out = [] ∧ e = 0) ∨ ∃ (ini : List Int) (x : Nat), out = ini ++ [(x : Int)] ∧ e = x + m

set_option maxRecDepth 10000 in
set_option maxHeartbeats 1600000 in
theorem refbest_any (p1 : Option Addr) (c1 : Nat) (p2 : Option Addr) (c2 : Nat) (long : List Int) (m : Nat) (h1 : 1 ≤ m) (hm : m ≤ 6) (ks : List K4) (hL : LongOk long) (X : List Bool) (hX : X.length = 72) (w0 : World) (b o ck : Nat) (hk : BoolsAt w0 (some ⟨b, o, none⟩) (X.take (wideN long))) :
    Calls Try.prog 75 #[.agg #[.slice p1 long.length c1, .int .i64 (m : Int), .slice p2 ks.length c2], .slice (some ⟨b, o, none⟩) (wideN long) ck] w0 (GaveInts (cutD long m X) w0) := by
  have hw := wideN_eq hL
  have hkl := takeW_length hL hX
  have hc : cutD long m X = cutL (wholesD long m X) m (wideN long) 0 := by rw [cutD, Int.toNat_natCast]
  rw [hc]
  have HWA := Lib.hid (fun i hi => wholes_at (X := X) hL h1 hi : ∀ i, i + m ≤ wideN long → b0 (wholesD long m X) i = freeAt (X.take (wideN long)) i m)
  have HWH := Lib.hid (fun w (hbw : Below w0.heap.size w0 w) i (hi : i + m ≤ wideN long) => (by
    have hz := refwhole_any p1 c1 p2 c2 long m hm ks w (some ⟨b, o, none⟩) ck _ (hk.below hbw) i (by rw [hkl]; exact hi) (by rw [hkl]; omega)
    rw [hkl] at hz
    exact hz) : ∀ w, Below w0.heap.size w0 w → ∀ i, i + m ≤ wideN long → Calls Try.prog 91 #[.agg #[.slice p1 long.length c1, .int .i64 (m : Int), .slice p2 ks.length c2], .slice (some ⟨b, o, none⟩) (wideN long) ck, .int .i64 (i : Int)] w fun e w' => e = .returned (.bool (freeAt (X.take (wideN long)) i m)) ∧ Below w.heap.size w w')
  have hwd := hw.2.1
  clear hw hc hk hkl
  generalize X.take (wideN long) = kn at *
  generalize wholesD long m X = W at *
  generalize wideN long = wd at *
  obtain ⟨i0, hi, hi0, hi1, hi2⟩ := info_parts Try.infoInt
  have K0 := Lib.hid (Kept.new w0 #[.slice p1 long.length c1, .int .i64 (m : Int), .slice p2 ks.length c2] 25)
  go_enter Try.func75, Try.ntmps75
  go_wp2
  go_loopw [5, 6] (fun v q wr => ∃ (out : List Int) (i e : Nat), q = .int .i64 i ∧ i ≤ wd ∧ e ≤ i + m ∧ out.length ≤ i ∧ LastIs out m e ∧ Hid (out ++ cutL W m wd (max i e) = cutL W m wd 0) ∧ wr.ownsRow (w0.heap.size + 1) 3 1 v out.length (out.map (Value.int .i64)) ∧ Kept w0.heap.size #[.slice p1 long.length c1, .int .i64 (m : Int), .slice p2 ks.length c2] 25 w0 wr) (fun _ q _ => 100 - (intOf q).toNat)
  case atStart => exact ⟨[], 0, 0, rfl, by omega, by omega, by simp, .inl ⟨rfl, rfl⟩, Lib.hid rfl, World.ownsRow_nil _ _ _ _, K0.out⟩
  case round =>
    clear K0
    obtain ⟨out, i, e, rfl, hiw, hei, hol, hla, HA, hown, g0⟩ := hrel
    have k1 := g0.r.cell 1 (v := .int .i64 (m : Int)) rfl
    have hz := g0.r.lt
    have KI := Lib.hid g0
    obtain ⟨pv, cv, rfl, hints, hle, hcm, hp⟩ := ints_of_owns hown
    have HO := Lib.hid hown
    have HI := Lib.hid hints
    clear g0 hown hints
    unfold maxLen at hcm
    by_cases hlt : i + m ≤ wd
    · rcases hla with ⟨rfl, rfl⟩ | ⟨ini, x, rfl, rfl⟩
      · go_wp2_with fail
        go_quiet (fail)
        have KI := Lib.hid (KI.out.drewN nq)
        have HO := Lib.hid (show (wr.drewN nq).ownsRow (w0.heap.size + 1) 3 1 (.slice pv ([] : List Int).length cv) ([] : List Int).length (([] : List Int).map (Value.int .i64)) from HO.out)
        clear k1
        generalize wr.drewN nq = w1 at *
        obtain ⟨k0, k1, k2⟩ := KI.out.s3
        have HWA1 := Lib.hid (HWA.out i hlt)
        go_wp2_with fail
        refine (HWH.out _ KI.out.hb i hlt).mono ?_
        rintro e9 w2 ⟨rfl, hb2⟩
        have hz2 := hb2.size
        have KI := Lib.hid (KI.out.below hb2)
        have HO := Lib.hid (owns_below HO.out hb2)
        have hz3 := KI.out.r.lt
        clear hb2 k0 k1 k2
        cases hfr : freeAt kn i m
        · have HB := Lib.hid (show b0 W i = false by rw [HWA1.out, hfr])
          clear hfr HWA1
          go_wp2
          go_roundw
          case rel => exact ⟨([] : List Int), i + 1, 0, by go_num, by omega, by omega, by simp at hol ⊢ <;> omega, .inl ⟨rfl, rfl⟩, Lib.hid (by have h := HA.out; rw [show max i (0) = i by omega, cutL_no h1 hlt HB.out] at h; rw [show max (i + 1) (0) = i + 1 by omega]; exact h), by simpa using HO.out, KI.out⟩
          case measure => simp [intOf]; omega
        · have HB := Lib.hid (show b0 W i = true by rw [HWA1.out, hfr])
          clear hfr HWA1
          go_wp2_with (first | (at_builtin; (refine wpList_append_own _ rfl _ _ 22 rfl (w0.heap.size + 1) 3 i0 (.int .i64 0) 1 8 Try.underlying22 hi hi0 hi1 hi2 rfl (by decide) _ _ _ rfl (HO.out.alloc _) ⟨w2.heap.size, 0, none⟩ 1 1 [.int .i64 i] rfl rfl (cell_one_new _ _ _) (by simp [Value.oneCell']) (by unfold maxLen; omega) (by omega) (by simp; omega) ?_); intro v' w3 hown' hgrow _; have HO3 := Lib.hid hown'; have hg2 : Below (w0.heap.size + 1) w2 w3 := ((Below.refl _ _).alloc (by omega) _).grown hgrow (by simp; omega) (fun k hk => (HO.out.lt k hk).1); have KI := Lib.hid (show Kept w0.heap.size #[.slice p1 long.length c1, .int .i64 (m : Int), .slice p2 ks.length c2] 25 w0 w3 from ⟨KI.out.r.below hg2 (by omega), KI.out.hb.trans (hg2.mono (by omega))⟩); clear hown' hgrow hg2))
          go_roundw
          case rel => exact ⟨([] : List Int) ++ [(i : Int)], i + 1, i + m, by go_num, by omega, by omega, by simp at hol ⊢ <;> omega, .inr ⟨([] : List Int), i, rfl, rfl⟩, Lib.hid (by have h := HA.out; rw [show max i (0) = i by omega, cutL_yes h1 hlt HB.out] at h; rw [show max (i + 1) (i + m) = i + m by omega, List.append_assoc]; exact h), by simpa using HO3.out, KI.out⟩
          case measure => simp [intOf]; omega
      · obtain ⟨bq, oq, hpe, hcl⟩ := HI.out ini.length (by simp)
        subst hpe
        rw [show at0 (ini ++ [(x : Int)]) ini.length = x by simp [at0]] at hcl
        have hlen : (ini ++ [(x : Int)]).length = ini.length + 1 := by simp
        rw [hlen] at HO hle hol
        simp only [hlen]
        have hq0 : ((ini.length : Int) + 1 == 0) = false := by simp; omega
        have j1 : (0 : Int) ≤ (ini.length : Int) := by omega
        by_cases hxi : x + m ≤ i
        · have hge : decide ((x : Int) + (m : Int) ≤ (i : Int)) = true := by simp; omega
          go_wp2_with fail
          go_quiet (fail)
          have KI := Lib.hid (KI.out.drewN nq)
          have HO := Lib.hid (show (wr.drewN nq).ownsRow (w0.heap.size + 1) 3 1 (.slice (some ⟨bq, oq, none⟩) (ini.length + 1) cv) (ini.length + 1) ((ini ++ [(x : Int)]).map (Value.int .i64)) from HO.out)
          clear k1
          generalize wr.drewN nq = w1 at *
          obtain ⟨k0, k1, k2⟩ := KI.out.s3
          have HWA1 := Lib.hid (HWA.out i hlt)
          go_wp2_with fail
          refine (HWH.out _ KI.out.hb i hlt).mono ?_
          rintro e9 w2 ⟨rfl, hb2⟩
          have hz2 := hb2.size
          have KI := Lib.hid (KI.out.below hb2)
          have HO := Lib.hid (owns_below HO.out hb2)
          have hz3 := KI.out.r.lt
          clear hb2 k0 k1 k2
          cases hfr : freeAt kn i m
          · have HB := Lib.hid (show b0 W i = false by rw [HWA1.out, hfr])
            clear hfr HWA1
            go_wp2
            go_roundw
            case rel => exact ⟨(ini ++ [(x : Int)]), i + 1, x + m, by go_num, by omega, by omega, by simp at hol ⊢ <;> omega, .inr ⟨ini, x, rfl, rfl⟩, Lib.hid (by have h := HA.out; rw [show max i (x + m) = i by omega, cutL_no h1 hlt HB.out] at h; rw [show max (i + 1) (x + m) = i + 1 by omega]; exact h), by simpa using HO.out, KI.out⟩
            case measure => simp [intOf]; omega
          · have HB := Lib.hid (show b0 W i = true by rw [HWA1.out, hfr])
            clear hfr HWA1
            go_wp2_with (first | (at_builtin; (refine wpList_append_own _ rfl _ _ 22 rfl (w0.heap.size + 1) 3 i0 (.int .i64 0) 1 8 Try.underlying22 hi hi0 hi1 hi2 rfl (by decide) _ _ _ rfl (HO.out.alloc _) ⟨w2.heap.size, 0, none⟩ 1 1 [.int .i64 i] rfl rfl (cell_one_new _ _ _) (by simp [Value.oneCell']) (by unfold maxLen; omega) (by omega) (by simp; omega) ?_); intro v' w3 hown' hgrow _; have HO3 := Lib.hid hown'; have hg2 : Below (w0.heap.size + 1) w2 w3 := ((Below.refl _ _).alloc (by omega) _).grown hgrow (by simp; omega) (fun k hk => (HO.out.lt k hk).1); have KI := Lib.hid (show Kept w0.heap.size #[.slice p1 long.length c1, .int .i64 (m : Int), .slice p2 ks.length c2] 25 w0 w3 from ⟨KI.out.r.below hg2 (by omega), KI.out.hb.trans (hg2.mono (by omega))⟩); clear hown' hgrow hg2))
            go_roundw
            case rel => exact ⟨(ini ++ [(x : Int)]) ++ [(i : Int)], i + 1, i + m, by go_num, by omega, by omega, by simp at hol ⊢ <;> omega, .inr ⟨(ini ++ [(x : Int)]), i, rfl, rfl⟩, Lib.hid (by have h := HA.out; rw [show max i (x + m) = i by omega, cutL_yes h1 hlt HB.out] at h; rw [show max (i + 1) (i + m) = i + m by omega, List.append_assoc]; exact h), by simpa using HO3.out, KI.out⟩
            case measure => simp [intOf]; omega
        · have hge : decide ((x : Int) + (m : Int) ≤ (i : Int)) = false := by simp; omega
          go_wp2_with fail
          go_quiet (fail)
          have KI := Lib.hid (KI.out.drewN nq)
          have HO := Lib.hid (show (wr.drewN nq).ownsRow (w0.heap.size + 1) 3 1 (.slice (some ⟨bq, oq, none⟩) (ini.length + 1) cv) (ini.length + 1) ((ini ++ [(x : Int)]).map (Value.int .i64)) from HO.out)
          clear k1 hcl
          generalize wr.drewN nq = w1 at *
          go_wp2
          go_roundw
          case rel => exact ⟨(ini ++ [(x : Int)]), i + 1, x + m, by go_num, by omega, by omega, by simp at hol ⊢ <;> omega, .inr ⟨ini, x, rfl, rfl⟩, Lib.hid (by have h := HA.out; rw [show max i (x + m) = x + m by omega] at h; rw [show max (i + 1) (x + m) = x + m by omega]; exact h), by simpa using HO.out, KI.out⟩
          case measure => simp [intOf]; omega
    · have HQ := Lib.hid (show out = cutL W m wd 0 by rw [← HA.out, cutL_end (by omega), List.append_nil])
      go_wp2
      go_ret
      rw [← HQ.out]
      exact ⟨pv, cv, rfl, HI.out, KI.out.hb⟩
end Go.Proofs.Ytnnlbbmimdohoaa
/- The specification of layer 1: all truths, and what it says of a column. -/
namespace Go.Proofs.Ytnnlbbmimdohoaa
open Go.RowKit Go.Maps
attribute [local go_sem] Oper.semAt_some

/-- The truths of the specification. -/
def allW (long : List Int) (ks : List K4) : List (List Bool) := truthsW long ks (List.replicate 72 false)
theorem take_false {long : List Int} (hL : LongOk long) : (List.replicate 72 false).take (wideN long) = List.replicate (wideN long) false := by
  have := wideN_eq hL
  rw [List.take_replicate, show min (wideN long) 72 = wideN long by omega]

theorem truths_start (p1 : Option Addr) (c1 : Nat) (p2 : Option Addr) (c2 : Nat) (long : List Int) (sz : Int) (ks : List K4) (hok : LogOk long sz ks) (hc1 : long.length ≤ c1) (w1 : World) (n : Nat) (hr : Row w1 n (boolsA (List.replicate (wideN long) false)) 4) (hl : LogAt w1 p1 p2 long ks) :
    Calls Try.prog 88 #[.agg #[.slice p1 long.length c1, .int .i64 sz, .slice p2 ks.length c2], .int .i64 0, .slice (some ⟨n, 0, none⟩) (wideN long) (wideN long)] w1 (GaveRows (truthsW long ks (List.replicate 72 false)) (fun q => q = n ∨ w1.heap.size ≤ q) w1) := by
  generalize hX : List.replicate 72 false = X
  have hX72 : X.length = 72 := by rw [← hX, List.length_replicate]
  have hbo : BoolsAt w1 (some ⟨n, 0, none⟩) (X.take (wideN long)) := by
    rw [← hX, take_false hok.L]
    refine bools_of_row hr ?_
    simp [boolsA]
  clear hX hr
  have hz := reftruths_any p1 c1 p2 c2 long sz ks hok hc1 ks.length 0 (Nat.zero_add _) w1 hl n 0 (wideN long) X hX72 hbo
  rw [List.drop_zero] at hz
  exact hz

set_option maxRecDepth 10000 in
set_option maxHeartbeats 400000 in
theorem refAll_any (p1 : Option Addr) (c1 : Nat) (p2 : Option Addr) (c2 : Nat) (long : List Int) (sz : Int) (ks : List K4) (w0 : World) (h : LogAt w0 p1 p2 long ks) (hok : LogOk long sz ks) (hc1 : long.length ≤ c1) :
    Calls Try.prog 63 #[.agg #[.slice p1 long.length c1, .int .i64 sz, .slice p2 ks.length c2]] w0 (GaveRows (allW long ks) (fun _ => True) w0) := by
  unfold allW
  have hL := hok.L
  have hw := wideN_eq hL
  have hn6 := hL.n6
  have hlong := total_psum hL long.length (Nat.le_refl _)
  rw [List.take_length] at hlong
  have HTOT := Lib.hid (fun w hb => (by have h := Total_any p1 c1 long w (by unfold maxLen; omega) (h.below hb).l; rw [hlong, ← hw.1] at h; exact h) : ∀ w, Below w0.heap.size w0 w → Calls Try.prog 47 #[.slice p1 long.length c1] w fun e w' => e = .returned (.int .i64 (wideN long : Int)) ∧ w = w')
  have HTR := Lib.hid (fun w n hr hb => truths_start p1 c1 p2 c2 long sz ks hok hc1 w n hr (h.below hb) : ∀ w n, Row w n (boolsA (List.replicate (wideN long) false)) 4 → Below w0.heap.size w0 w → Calls Try.prog 88 #[.agg #[.slice p1 long.length c1, .int .i64 sz, .slice p2 ks.length c2], .int .i64 0, .slice (some ⟨n, 0, none⟩) (wideN long) (wideN long)] w (GaveRows (truthsW long ks (List.replicate 72 false)) (fun q => q = n ∨ w.heap.size ≤ q) w))
  have hmk := make_bools (wideN long) (by omega)
  have KI := Lib.hid (Kept.new w0 #[.slice p1 long.length c1, .int .i64 sz, .slice p2 ks.length c2] 25)
  have hs0 := KI.out.s3
  have HS0 := Lib.hid hs0
  clear hs0 hlong hw h
  go_enter Try.func63, Try.ntmps63
  go_wp2_with fail
  go_region_held3 (fun w' => w'.cell? ⟨w0.heap.size, 0, none⟩ = some (.slice p1 long.length c1) ∧ w'.cell? ⟨w0.heap.size, 1, none⟩ = some (.int .i64 sz) ∧ w'.cell? ⟨w0.heap.size, 2, none⟩ = some (.slice p2 ks.length c2)) (first | with_reducible exact KI.out.s3 | with_reducible exact KI.out.drew.s3 | with_reducible exact (KI.out.alloc _).drew.s3)
    (first
      | (go_at_call 47; refine (HTOT.out _ KI.out.drew.hb).mono ?_; rintro e u ⟨rfl, rfl⟩)
      | (go_at_call 88; refine (HTR.out _ _ (Row.new' (by simp) _ _).drew (KI.out.alloc _).drew.hb).mono ?_; rintro e u ⟨b3, o3, c3, vals3, rfl, hc3, hr3, hbu⟩; have KI := Lib.hid ((KI.out.alloc _).drew.below hbu); have HC3 := Lib.hid hc3; have HR3 := Lib.hid (hr3.imp fun q _ _ => trivial); clear hbu hc3 hr3))
  all_goals
    clear hmk
    go_wp2
    go_ret
    exact ⟨_, _, _, _, rfl, HC3.out, HR3.out, KI.out.hb⟩
end Go.Proofs.Ytnnlbbmimdohoaa
/- The specification of layer 1: what it says of a column. -/
namespace Go.Proofs.Ytnnlbbmimdohoaa
open Go.RowKit Go.Maps
attribute [local go_sem] Oper.semAt_some

theorem allW_length {long : List Int} (hL : LongOk long) {ks : List K4} {x : List Bool} (h : x ∈ allW long ks) : x.length = wideN long := by
  obtain ⟨kn, hk, rfl⟩ := List.mem_map.1 h
  exact takeW_length hL (truthsL_length _ _ _ _ (by simp) kn hk)
theorem allW_few {long : List Int} {sz : Int} {ks : List K4} (hok : LogOk long sz ks) : (allW long ks).length ≤ 512 := by
  have h := truthsW_few (long := long) (ks := ks) hok.aw hok.fw (List.replicate 72 false)
  have h3 := hok.k3
  exact Nat.le_trans h (Nat.pow_le_pow_right (by decide) h3)

set_option maxRecDepth 10000 in
set_option maxHeartbeats 800000 in
theorem refKnotty_any (p1 : Option Addr) (c1 : Nat) (p2 : Option Addr) (c2 : Nat) (long : List Int) (sz : Int) (ks : List K4) (w0 : World) (h : LogAt w0 p1 p2 long ks) (hc1 : long.length ≤ c1) (c : Int) :
    Calls Try.prog 22 #[.agg #[.slice p1 long.length c1, .int .i64 sz, .slice p2 ks.length c2], .int .i64 c] w0 fun e w' => e = .returned (.tuple #[.int .i64 (if validB long sz ks then if 0 ≤ c ∧ c < psum long long.length then knotD long ks c.toNat else 0 else 0), .int .i64 (if validB long sz ks then if 0 ≤ c ∧ c < psum long long.length then 0 else 11 else 10)]) ∧ Below w0.heap.size w0 w' := by
  have KI := Lib.hid (Kept.new w0 #[.slice p1 long.length c1, .int .i64 sz, .slice p2 ks.length c2] 25)
  have H0 := Lib.hid h
  have HC := Lib.hid (refCheck_any p1 c1 p2 c2 long sz ks _ (h.below KI.out.hb))
  have k0 := KI.out.s3.1
  clear h
  cases hb : validB long sz ks
  · rw [if_neg (by simp), if_neg (by simp)]
    go_enter Try.func22, Try.ntmps22
    go_wp2_with (first | (refine HC.out.mono ?_; rw [checkE, hb]; rintro e w1 ⟨rfl, hb1⟩; have KI := Lib.hid (KI.out.below hb1); clear hb1))
    go_ret2
    exact ⟨rfl, KI.out.hb⟩
  · have hok := valid_ok hb
    have hL := hok.L
    have hw := wideN_eq hL
    have hn6 := hL.n6
    have hlong := total_psum hL long.length (Nat.le_refl _)
    rw [List.take_length] at hlong
    have HB := Lib.hid hb
    have HTOT := Lib.hid (fun w hb => (by have h := Total_any p1 c1 long w (by unfold maxLen; omega) (H0.out.below hb).l; rw [hlong] at h; exact h) : ∀ w, Below w0.heap.size w0 w → Calls Try.prog 47 #[.slice p1 long.length c1] w fun e w' => e = .returned (.int .i64 (psum long long.length)) ∧ w = w')
    have HALL := Lib.hid (fun w hb => refAll_any p1 c1 p2 c2 long sz ks w (H0.out.below hb) hok hc1 : ∀ w, Below w0.heap.size w0 w → Calls Try.prog 63 #[.agg #[.slice p1 long.length c1, .int .i64 sz, .slice p2 ks.length c2]] w (GaveRows (allW long ks) (fun _ => True) w))
    rw [if_pos rfl, if_pos rfl]
    clear hlong
    by_cases hin : 0 ≤ c ∧ c < psum long long.length
    · obtain ⟨m, rfl⟩ : ∃ m : Nat, c = m := ⟨c.toNat, by omega⟩
      rw [if_pos hin, if_pos hin, Int.toNat_natCast]
      have hmw : m < wideN long := by omega
      have hkd := knotD_many (long := long) hok.ok hmw
      have HKD := Lib.hid (show knotD long ks m = if manyN (allW long ks) m = 0 then 0 else if manyN (allW long ks) m = (allW long ks).length then 2 else 1 from hkd)
      have hfew := allW_few hok
      have HLN := Lib.hid (fun x hx => allW_length hL hx : ∀ x ∈ allW long ks, x.length = wideN long)
      have HMT := Lib.hid (fun k hk => manyN_take (xss := allW long ks) (c := m) (k := k) hk : ∀ k (hk : k < (allW long ks).length), manyN ((allW long ks).take (k + 1)) m = manyN ((allW long ks).take k) m + if b0 (allW long ks)[k] m then 1 else 0)
      have HMA := Lib.hid (fun k => Nat.le_trans (manyN_le ((allW long ks).take k) m) (by rw [List.length_take]; omega) : ∀ k, manyN ((allW long ks).take k) m ≤ 512)
      clear hkd hb
      generalize knotD long ks m = kd at *
      generalize allW long ks = xss at *
      generalize psum long long.length = ps at *
      go_enter Try.func22, Try.ntmps22
      go_wp2_with fail
      refine HC.out.mono ?_
      rw [checkE, HB.out]
      rintro e w1 ⟨rfl, hb1⟩
      have KI := Lib.hid (KI.out.below hb1)
      clear hb1 k0 HC
      have k0 := KI.out.s3.1
      go_wp2_with (first | (refine (HTOT.out _ KI.out.hb).mono ?_; rintro e u ⟨rfl, rfl⟩) | (refine (Fits_yes _ _ _ _ (by omega) (by omega)).mono ?_; rintro e u ⟨rfl, rfl⟩) | (refine load_row rfl 25 _ rfl _ rfl 25 _ _ KI.out.r Try.underlying25 rfl (by kernel_rfl) ?_))
      refine (HALL.out _ KI.out.hb).mono ?_
      rintro e w2 ⟨b3, o3, c3, vals, rfl, hcs, hrs, hb2⟩
      have KI := Lib.hid (KI.out.below hb2)
      have HCS := Lib.hid hcs
      have HRS := Lib.hid hrs
      clear hb2 hcs hrs k0 HALL HTOT
      go_wp2_with fail
      go_loop [8, 9] (fun n q => ∃ i : Nat, i ≤ xss.length ∧ q = .int .i64 i ∧ n = .int .i64 ((manyN (xss.take i) m : Nat) : Int)) (fun _ q => 1000 - (intOf q).toNat)
      case atStart => exact ⟨0, by omega, rfl, rfl⟩
      case round =>
        obtain ⟨i, hi, rfl, rfl⟩ := hrel
        by_cases hlt : i < xss.length
        · obtain ⟨q, o, cq, hv, hbo, _, _⟩ := HRS.out.2 i hlt
          have hcell := HCS.out i _ hv
          have hln := HLN.out xss[i] (List.getElem_mem hlt)
          rw [hln] at hcell
          obtain ⟨b', o', e', hbc⟩ := hbo m (by omega)
          cases e'
          have HST := Lib.hid (HMT.out i hlt)
          have hle := HMA.out i
          generalize xss[i] = xi at *
          generalize manyN (xss.take i) m = n at *
          clear hbo hv hln
          cases hbb : b0 xi m
          all_goals
            rw [hbb] at hbc
            have HF := Lib.hid hbb
            clear hbb
            go_wp2
            go_round
            case rel => exact ⟨i + 1, by omega, by go_num, by rw [HST.out, HF.out]; first | rfl | (congr 1; simp)⟩
            case measure => simp [intOf]; omega
        · obtain rfl : i = xss.length := by omega
          have hle := HMA.out xss.length
          have HTL := Lib.hid (show xss.take xss.length = xss from List.take_length)
          rw [HTL.out] at hle ⊢
          generalize manyN xss m = y at *
          by_cases h0 : y = 0
          · subst h0
            have hkd : kd = 0 := by rw [HKD.out, if_pos rfl]
            subst hkd
            go_wp2
            go_ret2
            exact ⟨rfl, KI.out.hb⟩
          · have hy0 : ((y : Int) == 0) = false := by simp; omega
            by_cases h1 : y = xss.length
            · have hy1 : ((y : Int) == (xss.length : Int)) = true := by simp; omega
              have hkd : kd = 2 := by rw [HKD.out, if_neg h0, if_pos h1]
              subst hkd
              clear HKD h1
              go_wp2
              go_ret2
              exact ⟨rfl, KI.out.hb⟩
            · have hy1 : ((y : Int) == (xss.length : Int)) = false := by simp; omega
              have hkd : kd = 1 := by rw [HKD.out, if_neg h0, if_neg h1]
              subst hkd
              clear HKD h1
              go_wp2
              go_ret2
              exact ⟨rfl, KI.out.hb⟩
    · rw [if_neg hin, if_neg hin]
      clear hb HALL
      generalize psum long long.length = ps at *
      go_enter Try.func22, Try.ntmps22
      go_wp2_with fail
      refine HC.out.mono ?_
      rw [checkE, HB.out]
      rintro e w1 ⟨rfl, hb1⟩
      have KI := Lib.hid (KI.out.below hb1)
      clear hb1 k0 HC
      have k0 := KI.out.s3.1
      go_wp2_with (first | (refine (HTOT.out _ KI.out.hb).mono ?_; rintro e u ⟨rfl, rfl⟩) | (refine (Fits_no _ _ _ _ (by omega)).mono ?_; rintro e u ⟨rfl, rfl⟩))
      go_ret2
      exact ⟨rfl, KI.out.hb⟩
end Go.Proofs.Ytnnlbbmimdohoaa
/- The specification of layer 1: the best cutting, and what it leaves. -/
namespace Go.Proofs.Ytnnlbbmimdohoaa
open Go.RowKit Go.Maps
attribute [local go_sem] Oper.semAt_some

set_option maxRecDepth 10000 in
set_option maxHeartbeats 800000 in
theorem refBest_bad (p1 : Option Addr) (c1 : Nat) (p2 : Option Addr) (c2 : Nat) (long : List Int) (sz : Int) (ks : List K4) (w0 : World) (h : LogAt w0 p1 p2 long ks) (hb : validB long sz ks = false) :
    Calls Try.prog 31 #[.agg #[.slice p1 long.length c1, .int .i64 sz, .slice p2 ks.length c2]] w0 fun e w' => e = .returned (.tuple #[.slice none 0 0, .int .i64 10]) ∧ Below w0.heap.size w0 w' := by
  have KI := Lib.hid (Kept.new w0 #[.slice p1 long.length c1, .int .i64 sz, .slice p2 ks.length c2] 25)
  have HC := Lib.hid (refCheck_any p1 c1 p2 c2 long sz ks _ (h.below KI.out.hb))
  go_enter Try.func31, Try.ntmps31
  go_wp2_with (first | (refine HC.out.mono ?_; rw [checkE, hb]; rintro e w1 ⟨rfl, hb1⟩; have KI := Lib.hid (KI.out.below hb1); clear hb1))
  go_ret2
  exact ⟨rfl, KI.out.hb⟩

set_option maxRecDepth 10000 in
set_option maxHeartbeats 800000 in
theorem refBest_good (p1 : Option Addr) (c1 : Nat) (p2 : Option Addr) (c2 : Nat) (long : List Int) (sz : Int) (ks : List K4) (w0 : World) (h : LogAt w0 p1 p2 long ks) (hc1 : long.length ≤ c1) (hb : validB long sz ks = true) :
    Calls Try.prog 31 #[.agg #[.slice p1 long.length c1, .int .i64 sz, .slice p2 ks.length c2]] w0 fun e w' => ∃ p c, e = .returned (.tuple #[.slice p (bestD long sz ks).length c, .int .i64 0]) ∧ IntsAt w' p (bestD long sz ks) ∧ Below w0.heap.size w0 w' := by
  have KI := Lib.hid (Kept.new w0 #[.slice p1 long.length c1, .int .i64 sz, .slice p2 ks.length c2] 25)
  have HC := Lib.hid (refCheck_any p1 c1 p2 c2 long sz ks _ (h.below KI.out.hb))
  have hok := valid_ok hb
  have hs1 := hok.s1
  have hs6 := hok.s6
  obtain ⟨m, rfl⟩ : ∃ m : Nat, sz = m := ⟨sz.toNat, by omega⟩
  have HSO := Lib.hid (fun w hbw => refsome_any p1 c1 p2 c2 long m ks w (h.below hbw) hok hc1 : ∀ w, Below w0.heap.size w0 w → Calls Try.prog 72 #[.agg #[.slice p1 long.length c1, .int .i64 (m : Int), .slice p2 ks.length c2]] w (GaveW long (reachD long ks) w))
  have HBE := Lib.hid (fun w b o c hbo => refbest_any p1 c1 p2 c2 long m (by omega) (by omega) ks hok.L (reachD long ks) (reachD_length _ _) w b o c hbo : ∀ (w : World) (b o c : Nat), BoolsAt w (some ⟨b, o, none⟩) ((reachD long ks).take (wideN long)) → Calls Try.prog 75 #[.agg #[.slice p1 long.length c1, .int .i64 (m : Int), .slice p2 ks.length c2], .slice (some ⟨b, o, none⟩) (wideN long) c] w (GaveInts (cutD long m (reachD long ks)) w))
  clear h
  unfold bestD
  generalize cutD long m (reachD long ks) = bd at *
  generalize reachD long ks = rd at *
  go_enter Try.func31, Try.ntmps31
  go_wp2_with fail
  refine HC.out.mono ?_
  rw [checkE, hb]
  rintro e w1 ⟨rfl, hb1⟩
  have KI := Lib.hid (KI.out.below hb1)
  have hs1 := KI.out.s3
  have HS1 := Lib.hid hs1
  clear hb1 hs1 hb HC
  go_wp2_with fail
  go_region_held3 (fun w' => w'.cell? ⟨w0.heap.size, 0, none⟩ = some (.slice p1 long.length c1) ∧ w'.cell? ⟨w0.heap.size, 1, none⟩ = some (.int .i64 (m : Int)) ∧ w'.cell? ⟨w0.heap.size, 2, none⟩ = some (.slice p2 ks.length c2)) (first | with_reducible exact KI.out.s3 | with_reducible exact KI.out.drew.s3)
    (first
      | (go_at_call 72; refine (HSO.out _ KI.out.drew.hb).mono ?_; rintro e u ⟨b', o', c', rfl, hnew, hbt, hbu⟩; have KI := Lib.hid (KI.out.drew.below hbu); have BT := Lib.hid hbt; clear hbu hbt hnew)
      | (go_at_call 75; refine (HBE.out _ _ _ _ BT.out).mono ?_; rintro e u2 ⟨p9, c9, rfl, hi9, hbu⟩; have KI := Lib.hid (KI.out.below hbu); have HI9 := Lib.hid hi9; clear hbu hi9))
  all_goals
    go_wp2
    go_ret2
    exact ⟨_, _, rfl, HI9.out, KI.out.hb⟩

set_option maxRecDepth 10000 in
set_option maxHeartbeats 800000 in
theorem refWaste_bad (p1 : Option Addr) (c1 : Nat) (p2 : Option Addr) (c2 : Nat) (long : List Int) (sz : Int) (ks : List K4) (w0 : World) (h : LogAt w0 p1 p2 long ks) (hb : validB long sz ks = false) :
    Calls Try.prog 34 #[.agg #[.slice p1 long.length c1, .int .i64 sz, .slice p2 ks.length c2]] w0 fun e w' => e = .returned (.tuple #[.int .i64 0, .int .i64 10]) ∧ Below w0.heap.size w0 w' := by
  have KI := Lib.hid (Kept.new w0 #[.slice p1 long.length c1, .int .i64 sz, .slice p2 ks.length c2] 25)
  have HC := Lib.hid (refCheck_any p1 c1 p2 c2 long sz ks _ (h.below KI.out.hb))
  go_enter Try.func34, Try.ntmps34
  go_wp2_with (first | (refine HC.out.mono ?_; rw [checkE, hb]; rintro e w1 ⟨rfl, hb1⟩; have KI := Lib.hid (KI.out.below hb1); clear hb1))
  go_ret2
  exact ⟨rfl, KI.out.hb⟩

set_option maxRecDepth 10000 in
set_option maxHeartbeats 800000 in
theorem refWaste_good (p1 : Option Addr) (c1 : Nat) (p2 : Option Addr) (c2 : Nat) (long : List Int) (sz : Int) (ks : List K4) (w0 : World) (h : LogAt w0 p1 p2 long ks) (hc1 : long.length ≤ c1) (hb : validB long sz ks = true) :
    Calls Try.prog 34 #[.agg #[.slice p1 long.length c1, .int .i64 sz, .slice p2 ks.length c2]] w0 fun e w' => e = .returned (.tuple #[.int .i64 (psum long long.length - sz * ((cutD long sz (reachD long ks)).length : Int)), .int .i64 0]) ∧ Below w0.heap.size w0 w' := by
  have KI := Lib.hid (Kept.new w0 #[.slice p1 long.length c1, .int .i64 sz, .slice p2 ks.length c2] 25)
  have HC := Lib.hid (refCheck_any p1 c1 p2 c2 long sz ks _ (h.below KI.out.hb))
  have hok := valid_ok hb
  have hL := hok.L
  have hs1 := hok.s1
  have hs6 := hok.s6
  have hw := wideN_eq hL
  have hn6 := hL.n6
  have hsh := cutD_short hok (reachD long ks)
  have hbp := best_psum hok (reachD long ks)
  have hlong := total_psum hL long.length (Nat.le_refl _)
  rw [List.take_length] at hlong
  obtain ⟨m, rfl⟩ : ∃ m : Nat, sz = m := ⟨sz.toNat, by omega⟩
  have HTOT := Lib.hid (fun w hb => (by have hz := Total_any p1 c1 long w (by unfold maxLen; omega) (h.below hb).l; rw [hlong] at hz; exact hz) : ∀ w, Below w0.heap.size w0 w → Calls Try.prog 47 #[.slice p1 long.length c1] w fun e w' => e = .returned (.int .i64 (psum long long.length)) ∧ w = w')
  have HSO := Lib.hid (fun w hbw => refsome_any p1 c1 p2 c2 long m ks w (h.below hbw) hok hc1 : ∀ w, Below w0.heap.size w0 w → Calls Try.prog 72 #[.agg #[.slice p1 long.length c1, .int .i64 (m : Int), .slice p2 ks.length c2]] w (GaveW long (reachD long ks) w))
  have HBE := Lib.hid (fun w b o c hbo => refbest_any p1 c1 p2 c2 long m (by omega) (by omega) ks hok.L (reachD long ks) (reachD_length _ _) w b o c hbo : ∀ (w : World) (b o c : Nat), BoolsAt w (some ⟨b, o, none⟩) ((reachD long ks).take (wideN long)) → Calls Try.prog 75 #[.agg #[.slice p1 long.length c1, .int .i64 (m : Int), .slice p2 ks.length c2], .slice (some ⟨b, o, none⟩) (wideN long) c] w (GaveInts (cutD long m (reachD long ks)) w))
  have m0 : (0 : Int) ≤ (m : Int) * ((cutD long m (reachD long ks)).length : Int) := Int.mul_nonneg (by omega) (by omega)
  have m1 : (m : Int) * ((cutD long m (reachD long ks)).length : Int) ≤ 6 * ((cutD long m (reachD long ks)).length : Int) := Int.mul_le_mul_of_nonneg_right hs6 (by omega)
  clear h hlong
  generalize cutD long m (reachD long ks) = bd at *
  generalize reachD long ks = rd at *
  generalize psum long long.length = ps at *
  go_enter Try.func34, Try.ntmps34
  go_wp2_with fail
  refine HC.out.mono ?_
  rw [checkE, hb]
  rintro e w1 ⟨rfl, hb1⟩
  have KI := Lib.hid (KI.out.below hb1)
  clear hb1 hb HC
  have e1 : IntKind.i64.wrap ((m : Int) * (bd.length : Int)) = (m : Int) * (bd.length : Int) := IntWalk.i64_in _ (by omega)
  have e2 : IntKind.i64.wrap (ps - (m : Int) * (bd.length : Int)) = ps - (m : Int) * (bd.length : Int) := IntWalk.i64_in _ (by omega)
  go_wp2_with fail
  go_region_held3 (fun w' => w'.cell? ⟨w0.heap.size, 0, none⟩ = some (.slice p1 long.length c1) ∧ w'.cell? ⟨w0.heap.size, 1, none⟩ = some (.int .i64 (m : Int)) ∧ w'.cell? ⟨w0.heap.size, 2, none⟩ = some (.slice p2 ks.length c2)) (first | with_reducible exact KI.out.s3 | with_reducible exact KI.out.drew.s3)
    (first
      | (go_at_call 47; refine (HTOT.out _ (by first | exact KI.out.drew.hb | exact KI.out.hb)).mono ?_; rintro e u ⟨rfl, rfl⟩)
      | (go_at_call 72; refine (HSO.out _ (by first | with_reducible exact KI.out.drew.hb | with_reducible exact KI.out.hb)).mono ?_; rintro e u ⟨b', o', c', rfl, hnew, hbt, hbu⟩; have KI := Lib.hid (KI.out.drew.below hbu); have BT := Lib.hid hbt; clear hbu hbt hnew)
      | (go_at_call 75; refine (HBE.out _ _ _ _ BT.out).mono ?_; rintro e u2 ⟨p9, c9, rfl, hi9, hbu⟩; have KI := Lib.hid (KI.out.below hbu); clear hbu hi9))
  all_goals
    clear e1 e2
    go_wp2
    go_ret2
    exact ⟨rfl, KI.out.hb⟩
end Go.Proofs.Ytnnlbbmimdohoaa
/- The specification of layer 1: between which numbers the whole pieces lie. -/
namespace Go.Proofs.Ytnnlbbmimdohoaa
open Go.RowKit Go.Maps
attribute [local go_sem] Oper.semAt_some

/-- Rows of truth values lie in memory. -/
structure RowsAt (w : World) (b o : Nat) (vals : List Value) (xss : List (List Bool)) : Prop where
  c : ∀ j u, vals[j]? = some u → w.cell? ⟨b, o + j, none⟩ = some u
  r : RowsIn w vals xss (fun _ => True)
theorem RowsAt.below {w w' : World} {b o : Nat} {vals : List Value} {xss : List (List Bool)} (h : RowsAt w b o vals xss) (hb : Below w.heap.size w w') : RowsAt w' b o vals xss :=
  ⟨fun j u hj => by have hc := h.c j u hj; rw [(bcell hb).1 b _ (cell_block hc)]; exact hc, h.r.below hb⟩
theorem ne_ints {w : World} {g b o : Nat} {x y : Int} {t : TypeId} {v : Value} (hr : Row w g #[.int .i64 x, .int .i64 y] t) (hc : w.cell? ⟨b, o, none⟩ = some v) (hv : ∀ n : Int, v ≠ .int .i64 n) : b ≠ g := by
  rintro rfl
  rw [cell_of_row w b o _ _ (0, 0) hr] at hc
  match o, hc with
  | 0, hc => exact hv x (by simpa using hc.symm)
  | 1, hc => exact hv y (by simpa using hc.symm)
  | o + 2, hc => simp at hc
theorem RowsAt.setRow {w : World} {b o g : Nat} {vals : List Value} {xss : List (List Bool)} {x y : Int} {t : TypeId} (h : RowsAt w b o vals xss) (hr : Row w g #[.int .i64 x, .int .i64 y] t) (cs : Array Value) : RowsAt (w.setRow g cs) b o vals xss := by
  have hsl : ∀ (j : Nat) (u : Value), vals[j]? = some u → ∃ q n c, u = Value.slice q n c := by
    intro j u hj
    have hjl : j < xss.length := by have := (List.getElem?_eq_some_iff.1 hj).1; rwa [h.r.1] at this
    obtain ⟨q, o', c, hv, _⟩ := h.r.2 j hjl
    rw [hv] at hj
    exact ⟨_, _, _, (Option.some.inj hj).symm⟩
  refine ⟨fun j u hj => ?_, h.r.1, fun i hi => ?_⟩
  · have hc := h.c j u hj
    have hne : b ≠ g := ne_ints hr hc (by
      intro n e
      obtain ⟨_, _, _, e2⟩ := hsl j u hj
      rw [e] at e2; cases e2)
    rw [cell_setRow_other w g cs _ hne]
    exact hc
  · obtain ⟨q, o', c, hv, hb, hlt, _⟩ := h.r.2 i hi
    refine ⟨q, o', c, hv, fun j hj => ?_, by simpa using hlt, trivial⟩
    obtain ⟨b', o2, e, hc⟩ := hb j hj
    cases e
    refine ⟨q, o', rfl, ?_⟩
    rw [cell_setRow_other w g cs _ (ne_ints hr hc (by intro n e; cases e))]
    exact hc
/-- What the loop keeps. -/
structure SInv (cs : Array Value) (l rb ob : Nat) (lo hi : Int) (b o : Nat) (vals : List Value) (xss : List (List Bool)) (w0 w : World) : Prop where
  kp : Kept l cs 25 w0 w
  rr : Row w rb #[.int .i64 0, .int .i64 0] 39
  ro : Row w ob #[.int .i64 lo, .int .i64 hi] 39
  ra : RowsAt w b o vals xss
  n1 : l ≠ ob
  n2 : rb ≠ ob
  n3 : w0.heap.size ≤ ob
section
variable {cs : Array Value} {l rb ob : Nat} {lo hi : Int} {b o : Nat} {vals : List Value} {xss : List (List Bool)} {w0 w w' : World}
theorem SInv.below (h : SInv cs l rb ob lo hi b o vals xss w0 w) (hb : Below w.heap.size w w') : SInv cs l rb ob lo hi b o vals xss w0 w' :=
  ⟨h.kp.below hb, h.rr.below hb h.rr.lt, h.ro.below hb h.ro.lt, h.ra.below hb, h.n1, h.n2, h.n3⟩
theorem SInv.drew (h : SInv cs l rb ob lo hi b o vals xss w0 w) : SInv cs l rb ob lo hi b o vals xss w0 w.drew := h.below ((Below.refl _ _).drew)
theorem SInv.set (h : SInv cs l rb ob lo hi b o vals xss w0 w) (lo' hi' : Int) : SInv cs l rb ob lo' hi' b o vals xss w0 (w.setRow ob #[.int .i64 lo', .int .i64 hi']) :=
  ⟨⟨h.kp.r.setRow_other _ h.n1, below_setRow h.kp.hb h.n3 _⟩, h.rr.setRow_other _ h.n2, h.ro.setRow _, h.ra.setRow h.ro _, h.n1, h.n2, h.n3⟩
end

set_option maxRecDepth 10000 in
set_option maxHeartbeats 1600000 in
theorem refWhole_bad (p1 : Option Addr) (c1 : Nat) (p2 : Option Addr) (c2 : Nat) (long : List Int) (sz : Int) (ks : List K4) (w0 : World) (h : LogAt w0 p1 p2 long ks) (pc : Option Addr) (cc : Nat) (cut : List Int) (hc : IntsAt w0 pc cut) (hn : cut.length ≤ maxLen) (x : Int) (hx : validB long sz ks = false ∧ x = 10 ∨ (validB long sz ks = true ∧ cutOk sz (psum long long.length) 0 cut = false ∧ x = 11)) :
    Calls Try.prog 29 #[.agg #[.slice p1 long.length c1, .int .i64 sz, .slice p2 ks.length c2], .slice pc cut.length cc] w0 fun e w' => e = .returned (.tuple #[.agg #[.int .i64 0, .int .i64 0], .int .i64 x]) ∧ Below w0.heap.size w0 w' := by
  have KI := Lib.hid ((Kept.new w0 #[.slice p1 long.length c1, .int .i64 sz, .slice p2 ks.length c2] 25).alloc (.cells #[.int .i64 0, .int .i64 0] 39))
  have RR := Lib.hid (Row.new' (n := w0.heap.size + 1) (w := w0.alloc (.cells #[.slice p1 long.length c1, .int .i64 sz, .slice p2 ks.length c2] 25)) (by simp) #[.int .i64 0, .int .i64 0] 39)
  have HX : ∃ bb : Bool, (∀ w, Below w0.heap.size w0 w → Calls Try.prog 65 #[.agg #[.slice p1 long.length c1, .int .i64 sz, .slice p2 ks.length c2], .slice pc cut.length cc] w fun e w' => (∃ b : Bool, e = .returned (.bool b) ∧ (if validB long sz ks then (if b then (0 : Int) else 11) else 10) = x) ∧ Below w.heap.size w w') := by
    refine ⟨true, fun w hbw => ?_⟩
    rcases hx with ⟨hv, rfl⟩ | ⟨hv, hcut, rfl⟩
    · refine (refisCut_some p1 c1 p2 c2 long sz ks w (h.below hbw) (by have := h.b1; unfold maxLen; omega) pc cc cut (hc.below hbw) hn).mono ?_
      rintro e w' ⟨⟨b, rfl⟩, hb'⟩
      exact ⟨⟨b, rfl, by rw [hv]; rfl⟩, hb'⟩
    · refine (refisCut_any p1 c1 p2 c2 long sz ks w (h.below hbw) hv pc cc cut (hc.below hbw) hn).mono ?_
      rintro e w' ⟨rfl, hb'⟩
      exact ⟨⟨false, by rw [hcut], by rw [hv]; rfl⟩, hb'⟩
  obtain ⟨_, hic⟩ := HX
  have HIC := Lib.hid hic
  have hx1 : x = 10 ∨ x = 11 := by rcases hx with ⟨_, h⟩ | ⟨_, _, h⟩ <;> simp [h]
  have HAS := Lib.hid (fun w (hb : Below w0.heap.size w0 w) r => refasked_any p1 c1 p2 c2 long sz ks w (h.below hb) r)
  clear hic hx h hc
  go_enter Try.func29, Try.ntmps29
  go_wp2_with fail
  go_region_held3 (fun w' => w'.cell? ⟨w0.heap.size, 0, none⟩ = some (.slice p1 long.length c1) ∧ w'.cell? ⟨w0.heap.size, 1, none⟩ = some (.int .i64 sz) ∧ w'.cell? ⟨w0.heap.size, 2, none⟩ = some (.slice p2 ks.length c2)) (first | with_reducible exact KI.out.s3 | with_reducible exact KI.out.drew.s3)
    (first
      | (go_at_call 65; refine (HIC.out _ KI.out.drew.hb).mono ?_; rintro e u ⟨⟨bb, rfl, hbb⟩, hbu⟩; have HBB := Lib.hid hbb; have RR := Lib.hid (RR.out.drew.below hbu RR.out.drew.lt); have KI := Lib.hid (KI.out.drew.below hbu); clear hbu hbb)
      | (go_at_call 70; refine (HAS.out _ KI.out.hb _).mono ?_; rw [HBB.out]; rintro e u2 ⟨rfl, hbu⟩; have RR := Lib.hid (RR.out.below hbu RR.out.lt); have KI := Lib.hid (KI.out.below hbu); clear hbu))
  all_goals
    rcases hx1 with rfl | rfl
    all_goals
      have hlt := KI.out.hb.size
      go_wp2_with (first | (refine store_row rfl 39 _ _ rfl _ #[.int .i64 0, .int .i64 0] #[.int .i64 0, .int .i64 0] 39 rfl rfl RR.out (by kernel_rfl) rfl (by simp [Value.oneCell']) ?_))
      have hr2 := RR.out.setRow #[.int .i64 0, .int .i64 0]
      exact bodyPost_ret (v := .tuple #[.agg #[.int .i64 0, .int .i64 0], .int .i64 _]) (results_cell_two Try.results29 _ _ _ _ _ _ _ _ rfl rfl hr2 Try.underlying39 rfl (by kernel_rfl)) rfl ⟨rfl, below_setRow KI.out.hb (by omega) _⟩

theorem allW_at {long : List Int} {ks : List K4} {i : Nat} (h : i < (allW long ks).length) : ∃ kn, (truthsD long ks)[i]? = some kn ∧ (allW long ks)[i] = kn.take (wideN long) ∧ kn.length = 72 := by
  have hl : (allW long ks).length = (truthsD long ks).length := by rw [allW, truthsW, List.length_map]; rfl
  refine ⟨(truthsD long ks)[i]'(by omega), List.getElem?_eq_getElem (by omega), ?_, truthsD_length (List.getElem_mem _)⟩
  have : (allW long ks)[i]? = some (((truthsD long ks)[i]'(by omega)).take (wideN long)) := by
    show ((truthsD long ks).map (·.take (wideN long)))[i]? = _
    rw [List.getElem?_map, List.getElem?_eq_getElem (by omega)]
    rfl
  rw [List.getElem?_eq_getElem h] at this
  exact Option.some.inj this
theorem loTo_range (long : List Int) (sz : Int) (ks : List K4) (cut : List Int) (j : Nat) : 0 ≤ loTo long sz ks cut j ∧ loTo long sz ks cut j ≤ cut.length := by
  obtain ⟨a, _, c⟩ := minF (fun kn => countL (wholesD long sz kn) cut) ((truthsD long ks).take j) cut.length
  exact ⟨c 0 (by omega) fun x _ => by unfold countL; omega, a⟩

set_option maxRecDepth 10000 in
set_option maxHeartbeats 1600000 in
theorem refWhole_good (p1 : Option Addr) (c1 : Nat) (p2 : Option Addr) (c2 : Nat) (long : List Int) (sz : Int) (ks : List K4) (w0 : World) (h : LogAt w0 p1 p2 long ks) (hc1 : long.length ≤ c1) (pc : Option Addr) (cc : Nat) (cut : List Int) (hc : IntsAt w0 pc cut) (hn : cut.length ≤ maxLen) (hb : validB long sz ks = true) (hcut : cutOk sz (psum long long.length) 0 cut = true) :
    Calls Try.prog 29 #[.agg #[.slice p1 long.length c1, .int .i64 sz, .slice p2 ks.length c2], .slice pc cut.length cc] w0 fun e w' => e = .returned (.tuple #[.agg #[.int .i64 (loD long sz ks cut), .int .i64 (hiD long sz ks cut)], .int .i64 0]) ∧ Below w0.heap.size w0 w' := by
  have hok := valid_ok hb
  have hL := hok.L
  have hs1 := hok.s1
  have hs6 := hok.s6
  have hw := wideN_eq hL
  obtain ⟨m, rfl⟩ : ∃ m : Nat, sz = m := ⟨sz.toNat, by omega⟩
  have hfew := allW_few hok
  have KI := Lib.hid ((Kept.new w0 #[.slice p1 long.length c1, .int .i64 (m : Int), .slice p2 ks.length c2] 25).alloc (.cells #[.int .i64 0, .int .i64 0] 39))
  have RR := Lib.hid (Row.new' (n := w0.heap.size + 1) (w := w0.alloc (.cells #[.slice p1 long.length c1, .int .i64 (m : Int), .slice p2 ks.length c2] 25)) (by simp) #[.int .i64 0, .int .i64 0] 39)
  have HIC := Lib.hid (fun w (hbw : Below w0.heap.size w0 w) => (by have hz := refisCut_any p1 c1 p2 c2 long m ks w (h.below hbw) hb pc cc cut (hc.below hbw) hn; rw [hcut] at hz; exact hz) : ∀ w, Below w0.heap.size w0 w → Calls Try.prog 65 #[.agg #[.slice p1 long.length c1, .int .i64 (m : Int), .slice p2 ks.length c2], .slice pc cut.length cc] w fun e w' => e = .returned (.bool true) ∧ Below w.heap.size w w')
  have HAS := Lib.hid (fun w (hbw : Below w0.heap.size w0 w) => (by have hz := refasked_any p1 c1 p2 c2 long m ks w (h.below hbw) true; rw [hb] at hz; exact hz) : ∀ w, Below w0.heap.size w0 w → Calls Try.prog 70 #[.agg #[.slice p1 long.length c1, .int .i64 (m : Int), .slice p2 ks.length c2], .bool true] w fun e w' => e = .returned (.int .i64 0) ∧ Below w.heap.size w w')
  have HALL := Lib.hid (fun w hb => refAll_any p1 c1 p2 c2 long m ks w (h.below hb) hok hc1 : ∀ w, Below w0.heap.size w0 w → Calls Try.prog 63 #[.agg #[.slice p1 long.length c1, .int .i64 (m : Int), .slice p2 ks.length c2]] w (GaveRows (allW long ks) (fun _ => True) w))
  have HLO := Lib.hid (fun i => loTo_range long m ks cut i)
  have HST := Lib.hid (fun i hi => (by
    obtain ⟨kn, hkn, hta, hk72⟩ := allW_at (long := long) (ks := ks) hi
    refine ⟨countL (wholesD long m kn) cut, loTo_step hkn, hiTo_step hkn, by unfold countL; omega, by have := List.countP_le_length (p := fun f : Int => b0 (wholesD long m kn) f.toNat) (l := cut); unfold countL; omega, ?_⟩
    intro w hbw q o c hbo
    rw [hta] at hbo
    have hrw := takeW_length hL hk72
    have hz := refcount_any p1 c1 p2 c2 long m (by omega) ks w (some ⟨q, o, none⟩) c _ hbo (by rw [hrw]; omega) pc cc cut (hc.below hbw) hn (fun f hf => by have := cutOk_range (Int.le_refl 0) (by omega) hcut f hf; rw [hrw]; omega)
    rw [hrw, wholeN_take_eq (by omega) hL _ hcut] at hz
    exact hz) : ∀ i (hi : i < (allW long ks).length), ∃ y : Int, loTo long m ks cut (i + 1) = min (loTo long m ks cut i) y ∧ hiTo long m ks cut (i + 1) = max (hiTo long m ks cut i) y ∧ 0 ≤ y ∧ y ≤ cut.length ∧ ∀ w, Below w0.heap.size w0 w → ∀ q o c : Nat, BoolsAt w (some ⟨q, o, none⟩) (allW long ks)[i] → Calls Try.prog 71 #[.agg #[.slice p1 long.length c1, .int .i64 (m : Int), .slice p2 ks.length c2], .slice (some ⟨q, o, none⟩) (wideN long) c, .slice pc cut.length cc] w fun e w' => e = .returned (.int .i64 y) ∧ Below w.heap.size w w')
  have HLN := Lib.hid (fun x hx => allW_length hL hx : ∀ x ∈ allW long ks, x.length = wideN long)
  have hal : (allW long ks).length = (truthsD long ks).length := by rw [allW, truthsW, List.length_map]; rfl
  have HL0 := Lib.hid (show loTo long m ks cut 0 = cut.length by simp [loTo])
  have HH0 := Lib.hid (show hiTo long m ks cut 0 = 0 by simp [hiTo])
  have HLE := Lib.hid (show loTo long m ks cut (allW long ks).length = loD long m ks cut by rw [hal]; simp [loTo, loD])
  have HHE := Lib.hid (show hiTo long m ks cut (allW long ks).length = hiD long m ks cut by rw [hal]; simp [hiTo, hiD])
  have hnn := hn
  unfold maxLen at hnn
  clear h hc hb hcut hal
  generalize allW long ks = xss at *
  generalize loTo long m ks cut = lo at *
  generalize hiTo long m ks cut = hi at *
  generalize loD long m ks cut = loE at *
  generalize hiD long m ks cut = hiE at *
  go_enter Try.func29, Try.ntmps29
  go_wp2_with fail
  go_region_held3 (fun w' => w'.cell? ⟨w0.heap.size, 0, none⟩ = some (.slice p1 long.length c1) ∧ w'.cell? ⟨w0.heap.size, 1, none⟩ = some (.int .i64 (m : Int)) ∧ w'.cell? ⟨w0.heap.size, 2, none⟩ = some (.slice p2 ks.length c2)) (first | with_reducible exact KI.out.s3 | with_reducible exact KI.out.drew.s3)
    (first
      | (go_at_call 65; refine (HIC.out _ KI.out.drew.hb).mono ?_; rintro e u ⟨rfl, hbu⟩; have RR := Lib.hid (RR.out.drew.below hbu RR.out.drew.lt); have KI := Lib.hid (KI.out.drew.below hbu); clear hbu)
      | (go_at_call 70; refine (HAS.out _ KI.out.hb).mono ?_; rintro e u2 ⟨rfl, hbu⟩; have RR := Lib.hid (RR.out.below hbu RR.out.lt); have KI := Lib.hid (KI.out.below hbu); clear hbu))
  all_goals
    go_wp2_with fail
    refine (Sp_any _ _ _).mono ?_
    rintro e w3 ⟨rfl, hb3⟩
    have RR := Lib.hid (RR.out.below hb3 RR.out.lt)
    have KI := Lib.hid (KI.out.below hb3)
    clear hb3 HIC HAS
    have HZ2 := Lib.hid RR.out.lt
    have RO := Lib.hid (Row.new w3 #[.int .i64 (cut.length : Int), .int .i64 0] 39)
    have RR := Lib.hid (RR.out.alloc (.cells #[.int .i64 (cut.length : Int), .int .i64 0] 39))
    have hz1 := KI.out.r.lt
    have hz2 : w0.heap.size + 1 < w3.heap.size := HZ2.out
    have KI := Lib.hid (KI.out.alloc (.cells #[.int .i64 (cut.length : Int), .int .i64 0] 39))
    go_wp2_with (first | (refine load_row rfl 25 _ rfl _ rfl 25 _ _ KI.out.r Try.underlying25 rfl (by kernel_rfl) ?_))
    refine (HALL.out _ KI.out.hb).mono ?_
    rintro e w4 ⟨b3, o3, c3, vals, rfl, hcs, hrs, hb4⟩
    have SI := Lib.hid (show SInv #[.slice p1 long.length c1, .int .i64 (m : Int), .slice p2 ks.length c2] w0.heap.size (w0.heap.size + 1) w3.heap.size (cut.length : Int) 0 b3 o3 vals xss w0 w4 from ⟨KI.out.below hb4, RR.out.below hb4 RR.out.lt, RO.out.below hb4 RO.out.lt, ⟨hcs, hrs⟩, by omega, by omega, by omega⟩)
    clear hb4 hcs hrs KI RR RO HALL
    generalize w3.heap.size = ob at *
    go_wp2_with fail
    go_loopw [9] (fun q wr => ∃ i : Nat, i ≤ xss.length ∧ q = .int .i64 i ∧ SInv #[.slice p1 long.length c1, .int .i64 (m : Int), .slice p2 ks.length c2] w0.heap.size (w0.heap.size + 1) ob (lo i) (hi i) b3 o3 vals xss w0 wr) (fun q _ => 1000 - (intOf q).toNat)
    case atStart => exact ⟨0, by omega, rfl, by rw [HL0.out, HH0.out]; exact SI.out⟩
    case round =>
      clear SI
      obtain ⟨i, hi1, rfl, si⟩ := hrel
      have hlor := HLO.out i
      by_cases hlt : i < xss.length
      · obtain ⟨y, hlo, hhi, hy0, hy1, hcn⟩ := HST.out i hlt
        obtain ⟨q, o, cq, hv, _, _, _⟩ := si.ra.r.2 i hlt
        have hln := HLN.out xss[i] (List.getElem_mem hlt)
        rw [hln] at hv
        have HSF := Lib.hid (fun w si => ⟨si.kp.s3.1, si.kp.s3.2.1, si.kp.s3.2.2, si.ra.c i _ hv⟩ : ∀ w, SInv #[.slice p1 long.length c1, .int .i64 (m : Int), .slice p2 ks.length c2] w0.heap.size (w0.heap.size + 1) ob (lo i) (hi i) b3 o3 vals xss w0 w → w.cell? ⟨w0.heap.size, 0, none⟩ = some (.slice p1 long.length c1) ∧ w.cell? ⟨w0.heap.size, 1, none⟩ = some (.int .i64 (m : Int)) ∧ w.cell? ⟨w0.heap.size, 2, none⟩ = some (.slice p2 ks.length c2) ∧ w.cell? ⟨b3, o3 + i, none⟩ = some (.slice (some ⟨q, o, none⟩) (wideN long) cq))
        have HBO := Lib.hid (fun w si => (by
          obtain ⟨q', o', c', hv', hbo, _, _⟩ := si.ra.r.2 i hlt
          rw [hv] at hv'
          simp only [Option.some.injEq, Value.slice.injEq, Addr.mk.injEq] at hv'
          obtain ⟨⟨rfl, rfl, _⟩, _, _⟩ := hv'
          exact hbo) : ∀ w, SInv #[.slice p1 long.length c1, .int .i64 (m : Int), .slice p2 ks.length c2] w0.heap.size (w0.heap.size + 1) ob (lo i) (hi i) b3 o3 vals xss w0 w → BoolsAt w (some ⟨q, o, none⟩) xss[i])
        have HLO1 := Lib.hid hlo
        have HHI1 := Lib.hid hhi
        have HCN := Lib.hid hcn
        have SI := Lib.hid si.drew
        have i1 : (0 : Int) ≤ (i : Int) := by omega
        have i2 : (i : Int) < (xss.length : Int) := by omega
        clear hlo hhi hcn si hv hln
        generalize lo i = loi at *
        generalize hi i = hii at *
        go_wp2_with fail
        go_region_held3 (fun w' => w'.cell? ⟨w0.heap.size, 0, none⟩ = some (.slice p1 long.length c1) ∧ w'.cell? ⟨w0.heap.size, 1, none⟩ = some (.int .i64 (m : Int)) ∧ w'.cell? ⟨w0.heap.size, 2, none⟩ = some (.slice p2 ks.length c2) ∧ w'.cell? ⟨b3, o3 + i, none⟩ = some (.slice (some ⟨q, o, none⟩) (wideN long) cq)) (exact HSF.out _ SI.out)
          (first | (go_at_call 71; refine (HCN.out _ SI.out.kp.hb _ _ _ (HBO.out _ SI.out)).mono ?_; rintro e u ⟨rfl, hbu⟩; have SI := Lib.hid (SI.out.below hbu); clear hbu))
        all_goals
          have x0 := SI.out.ro.cell 0 (v := .int .i64 loi) rfl
          have x1 := SI.out.ro.cell 1 (v := .int .i64 hii) rfl
          go_wp2_with fail
          all_goals
            refine (Sp_any _ _ _).mono ?_
            rintro e w5 ⟨rfl, hb5⟩
            have SI := Lib.hid (SI.out.below hb5)
            clear hb5 x0 x1
            go_wp2_with (first | (refine store_row rfl 39 _ _ rfl _ _ #[.int .i64 loi, .int .i64 hii] 39 rfl rfl SI.out.ro (by kernel_rfl) rfl (by simp [Value.oneCell']) ?_))
            go_roundw
            case rel => first
              | exact ⟨i + 1, by omega, by go_num, by rw [HLO1.out, HHI1.out, show min loi y = loi by omega, show max hii y = hii by omega]; exact SI.out.set _ _⟩
              | exact ⟨i + 1, by omega, by go_num, by rw [HLO1.out, HHI1.out, show min loi y = loi by omega, show max hii y = y by omega]; exact SI.out.set _ _⟩
              | exact ⟨i + 1, by omega, by go_num, by rw [HLO1.out, HHI1.out, show min loi y = y by omega, show max hii y = hii by omega]; exact SI.out.set _ _⟩
              | exact ⟨i + 1, by omega, by go_num, by rw [HLO1.out, HHI1.out, show min loi y = y by omega, show max hii y = y by omega]; exact SI.out.set _ _⟩
            case measure => simp [intOf]; omega
      · obtain rfl : i = xss.length := by omega
        rw [HLE.out, HHE.out] at si
        have SI := Lib.hid si
        clear si
        go_wp2_with (first | (refine load_row rfl 39 _ rfl _ rfl 39 _ _ SI.out.ro Try.underlying39 rfl (by kernel_rfl) ?_) | (refine store_row rfl 39 _ _ rfl _ _ #[.int .i64 0, .int .i64 0] 39 rfl rfl SI.out.rr (by kernel_rfl) rfl (by simp [Value.oneCell']) ?_))
        have hr2 := SI.out.rr.setRow #[.int .i64 loE, .int .i64 hiE]
        exact bodyPost_ret (v := .tuple #[.agg #[.int .i64 loE, .int .i64 hiE], .int .i64 0]) (results_cell_two Try.results29 _ _ _ _ _ _ _ _ rfl rfl hr2 Try.underlying39 rfl (by kernel_rfl)) rfl ⟨rfl, below_setRow SI.out.kp.hb (by omega) _⟩
end Go.Proofs.Ytnnlbbmimdohoaa
/- The specification of layer 1: how many pieces can be hoped for. -/
namespace Go.Proofs.Ytnnlbbmimdohoaa
open Go.RowKit Go.Maps
attribute [local go_sem] Oper.semAt_some

/-- The most pieces in some truth, as far as some truths go. -/
def hopeTo (long : List Int) (sz : Int) (ks : List K4) (j : Nat) : Int := (((truthsD long ks).take j).map fun kn => ((cutD long sz kn).length : Int)).foldl max 0
theorem hopeTo_step {long : List Int} {sz : Int} {ks : List K4} {j : Nat} {kn : List Bool} (h : (truthsD long ks)[j]? = some kn) : hopeTo long sz ks (j + 1) = max (hopeTo long sz ks j) ((cutD long sz kn).length : Int) := by
  unfold hopeTo; rw [List.take_add_one, h]; simp
theorem hopeTo_range {long : List Int} {sz : Int} {ks : List K4} (hok : LogOk long sz ks) (j : Nat) : 0 ≤ hopeTo long sz ks j ∧ hopeTo long sz ks j ≤ 72 := by
  unfold hopeTo
  generalize (truthsD long ks).take j = l
  obtain ⟨a, b, c⟩ := maxF (l.map fun kn => ((cutD long sz kn).length : Int)) 0
  refine ⟨a, ?_⟩
  rcases c with h | h
  · rw [h]; omega
  · obtain ⟨kn, _, e⟩ := List.mem_map.1 h
    rw [← e]
    exact cutD_short hok kn

/-- What the loop keeps. -/
structure HInv (cs : Array Value) (l b o : Nat) (vals : List Value) (xss : List (List Bool)) (w0 w : World) : Prop where
  kp : Kept l cs 25 w0 w
  ra : RowsAt w b o vals xss
section
variable {cs : Array Value} {l b o : Nat} {vals : List Value} {xss : List (List Bool)} {w0 w w' : World}
theorem HInv.below (h : HInv cs l b o vals xss w0 w) (hb : Below w.heap.size w w') : HInv cs l b o vals xss w0 w' := ⟨h.kp.below hb, h.ra.below hb⟩
theorem HInv.drew (h : HInv cs l b o vals xss w0 w) : HInv cs l b o vals xss w0 w.drew := h.below ((Below.refl _ _).drew)
end

set_option maxRecDepth 10000 in
set_option maxHeartbeats 800000 in
theorem refHope_bad (p1 : Option Addr) (c1 : Nat) (p2 : Option Addr) (c2 : Nat) (long : List Int) (sz : Int) (ks : List K4) (w0 : World) (h : LogAt w0 p1 p2 long ks) (hb : validB long sz ks = false) :
    Calls Try.prog 36 #[.agg #[.slice p1 long.length c1, .int .i64 sz, .slice p2 ks.length c2]] w0 fun e w' => e = .returned (.tuple #[.int .i64 0, .int .i64 10]) ∧ Below w0.heap.size w0 w' := by
  have KI := Lib.hid (Kept.new w0 #[.slice p1 long.length c1, .int .i64 sz, .slice p2 ks.length c2] 25)
  have HC := Lib.hid (refCheck_any p1 c1 p2 c2 long sz ks _ (h.below KI.out.hb))
  go_enter Try.func36, Try.ntmps36
  go_wp2_with (first | (refine HC.out.mono ?_; rw [checkE, hb]; rintro e w1 ⟨rfl, hb1⟩; have KI := Lib.hid (KI.out.below hb1); clear hb1))
  go_ret2
  exact ⟨rfl, KI.out.hb⟩

set_option maxRecDepth 10000 in
set_option maxHeartbeats 1600000 in
theorem refHope_good (p1 : Option Addr) (c1 : Nat) (p2 : Option Addr) (c2 : Nat) (long : List Int) (sz : Int) (ks : List K4) (w0 : World) (h : LogAt w0 p1 p2 long ks) (hc1 : long.length ≤ c1) (hb : validB long sz ks = true) :
    Calls Try.prog 36 #[.agg #[.slice p1 long.length c1, .int .i64 sz, .slice p2 ks.length c2]] w0 fun e w' => e = .returned (.tuple #[.int .i64 (hopeD long sz ks), .int .i64 0]) ∧ Below w0.heap.size w0 w' := by
  have hok := valid_ok hb
  have hL := hok.L
  have hs1 := hok.s1
  have hs6 := hok.s6
  have hw := wideN_eq hL
  obtain ⟨m, rfl⟩ : ∃ m : Nat, sz = m := ⟨sz.toNat, by omega⟩
  have hfew := allW_few hok
  have KI := Lib.hid (Kept.new w0 #[.slice p1 long.length c1, .int .i64 (m : Int), .slice p2 ks.length c2] 25)
  have HC := Lib.hid (refCheck_any p1 c1 p2 c2 long m ks _ (h.below KI.out.hb))
  have HALL := Lib.hid (fun w hb => refAll_any p1 c1 p2 c2 long m ks w (h.below hb) hok hc1 : ∀ w, Below w0.heap.size w0 w → Calls Try.prog 63 #[.agg #[.slice p1 long.length c1, .int .i64 (m : Int), .slice p2 ks.length c2]] w (GaveRows (allW long ks) (fun _ => True) w))
  have HRG := Lib.hid (fun i => hopeTo_range hok i)
  have HST := Lib.hid (fun i hi => (by
    obtain ⟨kn, hkn, hta, hk72⟩ := allW_at (long := long) (ks := ks) hi
    refine ⟨cutD long m kn, hopeTo_step hkn, cutD_short hok kn, ?_⟩
    intro w q o c hbo
    rw [hta] at hbo
    exact refbest_any p1 c1 p2 c2 long m (by omega) (by omega) ks hL kn hk72 w q o c hbo) : ∀ i (hi : i < (allW long ks).length), ∃ cut : List Int, hopeTo long m ks (i + 1) = max (hopeTo long m ks i) (cut.length : Int) ∧ (cut.length : Int) ≤ 72 ∧ ∀ (w : World) (q o c : Nat), BoolsAt w (some ⟨q, o, none⟩) (allW long ks)[i] → Calls Try.prog 75 #[.agg #[.slice p1 long.length c1, .int .i64 (m : Int), .slice p2 ks.length c2], .slice (some ⟨q, o, none⟩) (wideN long) c] w (GaveInts cut w))
  have HLN := Lib.hid (fun x hx => allW_length hL hx : ∀ x ∈ allW long ks, x.length = wideN long)
  have hal : (allW long ks).length = (truthsD long ks).length := by rw [allW, truthsW, List.length_map]; rfl
  have HL0 := Lib.hid (show hopeTo long m ks 0 = 0 by simp [hopeTo])
  have HLE := Lib.hid (show hopeTo long m ks (allW long ks).length = hopeD long m ks by rw [hal]; simp [hopeTo, hopeD])
  have HB := Lib.hid hb
  clear h hb hal
  generalize allW long ks = xss at *
  generalize hopeTo long m ks = lo at *
  generalize hopeD long m ks = loE at *
  go_enter Try.func36, Try.ntmps36
  go_wp2_with fail
  refine HC.out.mono ?_
  rw [checkE, HB.out]
  rintro e w1 ⟨rfl, hb1⟩
  have KI := Lib.hid (KI.out.below hb1)
  clear hb1 HC
  go_wp2_with (first | (refine load_row rfl 25 _ rfl _ rfl 25 _ _ KI.out.r Try.underlying25 rfl (by kernel_rfl) ?_))
  refine (HALL.out _ KI.out.hb).mono ?_
  rintro e w2 ⟨b3, o3, c3, vals, rfl, hcs, hrs, hb2⟩
  have SI := Lib.hid (show HInv #[.slice p1 long.length c1, .int .i64 (m : Int), .slice p2 ks.length c2] w0.heap.size b3 o3 vals xss w0 w2 from ⟨KI.out.below hb2, ⟨hcs, hrs⟩⟩)
  clear hb2 hcs hrs KI HALL
  go_wp2_with fail
  go_loopw [5, 7] (fun n q wr => ∃ i : Nat, i ≤ xss.length ∧ q = .int .i64 i ∧ n = .int .i64 (lo i) ∧ HInv #[.slice p1 long.length c1, .int .i64 (m : Int), .slice p2 ks.length c2] w0.heap.size b3 o3 vals xss w0 wr) (fun _ q _ => 1000 - (intOf q).toNat)
  case atStart => exact ⟨0, by omega, rfl, by rw [HL0.out], SI.out⟩
  case round =>
    clear SI
    obtain ⟨i, hi1, rfl, rfl, si⟩ := hrel
    have hlor := HRG.out i
    by_cases hlt : i < xss.length
    · obtain ⟨cut, hlo, hcl, hcn⟩ := HST.out i hlt
      obtain ⟨q, o, cq, hv, _, _, _⟩ := si.ra.r.2 i hlt
      have hln := HLN.out xss[i] (List.getElem_mem hlt)
      rw [hln] at hv
      have HSF := Lib.hid (fun w si => ⟨si.kp.s3.1, si.kp.s3.2.1, si.kp.s3.2.2, si.ra.c i _ hv⟩ : ∀ w, HInv #[.slice p1 long.length c1, .int .i64 (m : Int), .slice p2 ks.length c2] w0.heap.size b3 o3 vals xss w0 w → w.cell? ⟨w0.heap.size, 0, none⟩ = some (.slice p1 long.length c1) ∧ w.cell? ⟨w0.heap.size, 1, none⟩ = some (.int .i64 (m : Int)) ∧ w.cell? ⟨w0.heap.size, 2, none⟩ = some (.slice p2 ks.length c2) ∧ w.cell? ⟨b3, o3 + i, none⟩ = some (.slice (some ⟨q, o, none⟩) (wideN long) cq))
      have HBO := Lib.hid (fun w si => (by
        obtain ⟨q', o', c', hv', hbo, _, _⟩ := si.ra.r.2 i hlt
        rw [hv] at hv'
        simp only [Option.some.injEq, Value.slice.injEq, Addr.mk.injEq] at hv'
        obtain ⟨⟨rfl, rfl, _⟩, _, _⟩ := hv'
        exact hbo) : ∀ w, HInv #[.slice p1 long.length c1, .int .i64 (m : Int), .slice p2 ks.length c2] w0.heap.size b3 o3 vals xss w0 w → BoolsAt w (some ⟨q, o, none⟩) xss[i])
      have HLO1 := Lib.hid hlo
      have HCN := Lib.hid hcn
      have SI := Lib.hid si.drew
      have i1 : (0 : Int) ≤ (i : Int) := by omega
      have i2 : (i : Int) < (xss.length : Int) := by omega
      clear hlo hcn si hv hln
      generalize lo i = loi at *
      go_wp2_with fail
      go_region_held3 (fun w' => w'.cell? ⟨w0.heap.size, 0, none⟩ = some (.slice p1 long.length c1) ∧ w'.cell? ⟨w0.heap.size, 1, none⟩ = some (.int .i64 (m : Int)) ∧ w'.cell? ⟨w0.heap.size, 2, none⟩ = some (.slice p2 ks.length c2) ∧ w'.cell? ⟨b3, o3 + i, none⟩ = some (.slice (some ⟨q, o, none⟩) (wideN long) cq)) (exact HSF.out _ SI.out)
        (first | (go_at_call 75; refine (HCN.out _ _ _ _ (HBO.out _ SI.out)).mono ?_; rintro e u ⟨p9, c9, rfl, _, hbu⟩; have SI := Lib.hid (SI.out.below hbu); clear hbu))
      all_goals
        go_wp2
        go_roundw
        case rel => first
          | exact ⟨i + 1, by omega, by go_num, by rw [HLO1.out]; congr 1; omega, SI.out⟩
        case measure => simp [intOf]; omega
    · obtain rfl : i = xss.length := by omega
      rw [HLE.out]
      have SI := Lib.hid si
      clear si
      go_wp2
      go_ret2
      exact ⟨rfl, SI.out.kp.hb⟩
end Go.Proofs.Ytnnlbbmimdohoaa
/- The specification of layer 1: a log of which a knot is found. -/
namespace Go.Proofs.Ytnnlbbmimdohoaa
open Go.RowKit Go.Maps
attribute [local go_sem] Oper.semAt_some

set_option maxRecDepth 10000 in
set_option maxHeartbeats 1600000 in
theorem refFound_any (p1 : Option Addr) (c1 : Nat) (b o c2 : Nat) (long : List Int) (sz : Int) (ks : List K4) (w0 : World) (h : LogAt w0 p1 (some ⟨b, o, none⟩) long ks) (hk3 : ks.length ≤ 3) (k : Nat) (hk : k < ks.length) (a f : Int) :
    Calls Try.prog 80 #[.agg #[.slice p1 long.length c1, .int .i64 sz, .slice (some ⟨b, o, none⟩) ks.length c2], .int .i64 k, .int .i64 a, .int .i64 f] w0 fun e w' => ∃ g cap, e = .returned (.agg #[.slice p1 long.length c1, .int .i64 sz, .slice (some ⟨g, 0, none⟩) ks.length cap]) ∧ KnotsAt w' (some ⟨g, 0, none⟩) (ks.set k (ptK (a, f))) ∧ Below w0.heap.size w0 w' := by
  have H0 := Lib.hid h
  have KI := Lib.hid (((((Kept.new w0 #[.slice p1 long.length c1, .int .i64 sz, .slice (some ⟨b, o, none⟩) ks.length c2] 25).alloc (.cells #[.slice none 0 0, .int .i64 0, .slice none 0 0] 25)).alloc (.cells #[.slice p1 long.length c1, .int .i64 sz, .slice (some ⟨b, o, none⟩) ks.length c2] 25))).alloc (.cells #[] 61))
  have R8 := Lib.hid (((Row.new' (n := w0.heap.size + 1) (w := w0.alloc (.cells #[.slice p1 long.length c1, .int .i64 sz, .slice (some ⟨b, o, none⟩) ks.length c2] 25)) (by simp) #[.slice none 0 0, .int .i64 0, .slice none 0 0] 25).alloc (.cells #[.slice p1 long.length c1, .int .i64 sz, .slice (some ⟨b, o, none⟩) ks.length c2] 25)).alloc (.cells #[] 61))
  have X1 := Lib.hid ((Row.new' (n := w0.heap.size + 1 + 1) (w := (w0.alloc (.cells #[.slice p1 long.length c1, .int .i64 sz, .slice (some ⟨b, o, none⟩) ks.length c2] 25)).alloc (.cells #[.slice none 0 0, .int .i64 0, .slice none 0 0] 25)) (by simp) #[.slice p1 long.length c1, .int .i64 sz, .slice (some ⟨b, o, none⟩) ks.length c2] 25).alloc (.cells #[] 61))
  have hl := (H0.out.below KI.out.hb).k
  obtain ⟨g, cap, cur, w3, hr, hrow, hg0, htake, hcap, hb3⟩ := copy_knots _ ks b o c2 hl (by omega) hk3 23 (w0.heap.size + 1 + 1 + 1)
  have HR := Lib.hid hr
  have HT := Lib.hid htake
  have KG := Lib.hid hrow
  simp at hg0
  have hz := KI.out.r.lt
  have KI3 := Lib.hid (KI.out.below hb3)
  have R83 := Lib.hid (R8.out.below hb3 R8.out.lt)
  have X3 := Lib.hid (X1.out.below hb3 X1.out.lt)
  have x2 := X3.out.cell 2 (v := .slice (some ⟨b, o, none⟩) ks.length c2) rfl
  have x2f := X3.out.free 2
  have k2 := KI.out.s3.2.2
  clear hr htake hrow hb3 hl h
  have KI2 := Lib.hid ((Kept.new w0 #[.slice p1 long.length c1, .int .i64 sz, .slice (some ⟨b, o, none⟩) ks.length c2] 25).alloc (.cells #[.slice none 0 0, .int .i64 0, .slice none 0 0] 25))
  go_enter Try.func80, Try.ntmps80
  go_wp2_with (first | (refine load_row rfl 25 _ rfl _ rfl 25 _ _ KI2.out.r Try.underlying25 rfl (by kernel_rfl) ?_) | (at_builtin; refine wpList_append_run rfl _ _ _ _ rfl _ _ _ rfl rfl HR.out ?_))
  have hWI : WInv p1 c1 long sz ks b o c2 g cap w0.heap.size (w0.heap.size + 1 + 1) cur w0 (w3.setCell ⟨w0.heap.size + 1 + 1, 2, none⟩ (.slice (some ⟨g, 0, none⟩) ks.length cap)) :=
    ⟨KI3.out.r.set_other _ _ (by dsimp only; omega), X3.out.set 2 _, KG.out.set_other _ _ (by dsimp only; omega), H0.out, KI3.out.hb.setCell (by dsimp only; omega) _, by omega, by omega, by omega⟩
  have WI := Lib.hid hWI.drew
  have R84 := Lib.hid (R83.out.set_other ⟨w0.heap.size + 1 + 1, 2, none⟩ (.slice (some ⟨g, 0, none⟩) ks.length cap) (by dsimp only; omega)).drew
  have hs0 := (hWI.s hk).1
  have HN8 := Lib.hid (show w0.heap.size + 1 ≠ g by omega)
  have HB8 := Lib.hid (show w0.heap.size ≤ g by omega)
  clear hWI KI3 R83 X3 KG KI KI2 R8 X1 x2 x2f HR k2 hz
  generalize w3.setCell ⟨w0.heap.size + 1 + 1, 2, none⟩ (.slice (some ⟨g, 0, none⟩) ks.length cap) = w4 at *
  have j1 : (0 : Int) ≤ (k : Int) := by omega
  have j2 : (k : Int) < (ks.length : Int) := by omega
  go_region_held3 (fun w' => w'.cell? ⟨w0.heap.size + 1 + 1, 2, none⟩ = some (.slice (some ⟨g, 0, none⟩) ks.length cap)) (first | exact hs0 | exact (WI.out.s hk).1 | exact (((((WI.out.set _ _).set _ _).set _ _).set _ _).s hk).1)
    (first | (go_at_call 55; refine (Only_any _ _).mono ?_; rintro e u ⟨rfl, hbu⟩; have R84 := Lib.hid (R84.out.below hbu R84.out.lt); have WI := Lib.hid (WI.out.below hbu); obtain ⟨t0, t1, t2, t3, t4, t5, t6, t7⟩ := WI.out.t HT.out hk; clear hbu))
  all_goals
    have WF := Lib.hid ((((WI.out.set (k * 4) (.int .i64 a)).set (k * 4 + 1) (.int .i64 a)).set (k * 4 + 2) (.int .i64 f)).set (k * 4 + 3) (.int .i64 f))
    have R85 := Lib.hid ((((R84.out.set_other ⟨g, k * 4, none⟩ (.int .i64 a) HN8.out).set_other ⟨g, k * 4 + 1, none⟩ (.int .i64 a) HN8.out).set_other ⟨g, k * 4 + 2, none⟩ (.int .i64 f) HN8.out).set_other ⟨g, k * 4 + 3, none⟩ (.int .i64 f) HN8.out)
    clear t0 t1 t2 t3 t4 t5 t6 t7 hs0
    go_wp2_with (first | (refine load_row rfl 25 _ rfl _ rfl 25 _ _ WF.out.rx Try.underlying25 rfl (by kernel_rfl) ?_) | (refine store_row rfl 25 _ _ rfl _ _ #[.slice none 0 0, .int .i64 0, .slice none 0 0] 25 rfl rfl R85.out (by kernel_rfl) rfl (by simp [Value.oneCell']) ?_))
    have hr2 := R85.out.setRow #[.slice p1 long.length c1, .int .i64 sz, .slice (some ⟨g, 0, none⟩) ks.length cap]
    refine bodyPost_ret (v := .agg #[.slice p1 long.length c1, .int .i64 sz, .slice (some ⟨g, 0, none⟩) ks.length cap]) (results_cell_row Try.results80 _ _ _ _ _ _ _ rfl hr2 Try.underlying25 rfl (by kernel_rfl)) rfl ⟨g, cap, rfl, ?_, below_setRow WF.out.hb (by omega) _⟩
    exact knots_set (q := ptK (a, f)) (WF.out.rg.setRow_other _ (fun e => HN8.out e.symm)) HT.out
end Go.Proofs.Ytnnlbbmimdohoaa
/- The specification of layer 1: the knot to ask for. -/
namespace Go.Proofs.Ytnnlbbmimdohoaa
open Go.RowKit Go.Maps
attribute [local go_sem] Oper.semAt_some

/-- The first one of the greatest, so far. -/
def AskSt (f : Nat → Int) (k : Nat) (wi mi : Int) : Prop := (k = 0 ∧ wi = -1 ∧ mi = -1) ∨ ∃ w : Nat, w < k ∧ wi = w ∧ mi = f w ∧ (∀ j, j < k → f j ≤ f w) ∧ ∀ j, j < w → f j < f w
theorem AskSt.yes {f : Nat → Int} {k : Nat} {wi mi : Int} (h : AskSt f k wi mi) (hgt : mi < f k) : AskSt f (k + 1) k (f k) := by
  rcases h with ⟨rfl, rfl, rfl⟩ | ⟨w, hw, rfl, rfl, ha, hb⟩
  · exact .inr ⟨0, by omega, rfl, rfl, fun j hj => by obtain rfl : j = 0 := by omega
                                                      exact Int.le_refl _, fun j hj => by omega⟩
  · refine .inr ⟨k, by omega, rfl, rfl, fun j hj => ?_, fun j hj => ?_⟩
    · by_cases e : j = k
      · subst e; exact Int.le_refl _
      · have := ha j (by omega); omega
    · have := ha j hj; omega
theorem AskSt.no {f : Nat → Int} {k : Nat} {wi mi : Int} (h : AskSt f k wi mi) (h0 : 0 ≤ f k) (hle : f k ≤ mi) : AskSt f (k + 1) wi mi := by
  rcases h with ⟨rfl, rfl, rfl⟩ | ⟨w, hw, rfl, rfl, ha, hb⟩
  · omega
  · refine .inr ⟨w, by omega, rfl, rfl, fun j hj => ?_, hb⟩
    by_cases e : j = k
    · subst e; exact hle
    · exact ha j (by omega)
theorem AskSt.fin {f : Nat → Int} {n a : Nat} {wi mi : Int} (h : AskSt f n wi mi) (ha : a < n) (h1 : ∀ k, k < n → f k ≤ f a) (h2 : ∀ k, k < a → f k < f a) : wi = a := by
  rcases h with ⟨rfl, _, _⟩ | ⟨w, hw, rfl, _, hc, hd⟩
  · omega
  · by_cases e : w < a
    · have := h2 w e; have := hc a ha; omega
    · by_cases e2 : a < w
      · have := hd a e2; have := h1 w hw; omega
      · omega
/-- How few pieces, as far as some places go. -/
def leastTo (long : List Int) (sz : Int) (ks : List K4) (k : Nat) (x : K4) (i : Nat) : Int := ((placesL x).take i).foldl (fun m q => min m (placeN long sz ks k q)) (psum long long.length)
theorem leastTo_step {long : List Int} {sz : Int} {ks : List K4} {k : Nat} {x : K4} {i : Nat} (h : i < (placesL x).length) : leastTo long sz ks k x (i + 1) = min (leastTo long sz ks k x i) (placeN long sz ks k (placesL x)[i]) := by
  unfold leastTo; rw [List.take_succ_eq_append_getElem h, List.foldl_append]; rfl
theorem leastTo_range {long : List Int} {sz : Int} {ks : List K4} (hL : LongOk long) (k : Nat) (x : K4) (i : Nat) : 0 ≤ leastTo long sz ks k x i ∧ leastTo long sz ks k x i ≤ 72 := by
  have hw := wideN_eq hL
  obtain ⟨a, _, c⟩ := minF (placeN long sz ks k) ((placesL x).take i) (psum long long.length)
  exact ⟨c 0 (by omega) fun q _ => by unfold placeN; omega, Int.le_trans a (by omega)⟩
theorem leastTo_all {long : List Int} {sz : Int} {ks : List K4} {k : Nat} (hk : k < ks.length) : leastTo long sz ks k ks[k] (placesL ks[k]).length = worstD long sz ks k := by
  rw [worst_eq hk, leastTo, List.take_length]
theorem place_valid {long : List Int} {sz : Int} {ks : List K4} (hb : validB long sz ks = true) {k : Nat} (hk : k < ks.length) {p : Int × Int} (hp : p ∈ placesL ks[k]) : validB long sz (ks.set k (ptK p)) = true := by
  have hok := valid_ok hb
  obtain ⟨j, _, hj⟩ := found_all (hok.ok _ (List.getElem_mem hk)) (hok.aw _ (List.getElem_mem hk)) (hok.fw _ (List.getElem_mem hk)) hp
  have h := found_valid hb k j
  rw [foundK, List.getElem?_eq_getElem hk] at h
  simp only [hj] at h
  exact h

theorem knots_far {w : World} {g x : Nat} {ys : List K4} (h : KnotsAt w (some ⟨g, 0, none⟩) ys) (hne : g ≠ x) (i : Nat) (v : Value) : KnotsAt (w.setCell ⟨x, i, none⟩ v) (some ⟨g, 0, none⟩) ys := by
  intro j hj
  obtain ⟨b', o', e, h0, h1, h2, h3⟩ := h j hj
  cases e
  have key : ∀ o2, (w.setCell ⟨x, i, none⟩ v).cell? ⟨g, o2, none⟩ = w.cell? ⟨g, o2, none⟩ := fun o2 => World.cell?_setCell_far w _ _ v (fun e2 => hne e2.symm)
  exact ⟨g, 0, rfl, by rw [key]; exact h0, by rw [key]; exact h1, by rw [key]; exact h2, by rw [key]; exact h3⟩
theorem knots_ne {w : World} {g x : Nat} {ys : List K4} {b c : Value} {t : TypeId} (hr : Row w x #[.slice none 0 0, b, c] t) (h : KnotsAt w (some ⟨g, 0, none⟩) ys) (hl : 0 < ys.length) : g ≠ x := by
  rintro rfl
  obtain ⟨b', o', e, h0, _⟩ := h 0 hl
  cases e
  rw [cell_of_row w g _ _ _ (0, 0) hr] at h0
  simp at h0

/-- What the loop keeps. -/
structure AInv (cs : Array Value) (l : Nat) (pp : Option Addr) (pl : List (Int × Int)) (w0 w : World) : Prop where
  kp : Kept l cs 25 w0 w
  pa : PlacesAt w pp pl
section
variable {cs : Array Value} {l : Nat} {pp : Option Addr} {pl : List (Int × Int)} {w0 w w' : World}
theorem AInv.below (h : AInv cs l pp pl w0 w) (hb : Below w.heap.size w w') : AInv cs l pp pl w0 w' := ⟨h.kp.below hb, h.pa.below hb⟩
theorem AInv.drew (h : AInv cs l pp pl w0 w) : AInv cs l pp pl w0 w.drew := h.below ((Below.refl _ _).drew)
theorem AInv.alloc (h : AInv cs l pp pl w0 w) (o : Obj) : AInv cs l pp pl w0 (w.alloc o) := h.below (below_alloc _ _)
theorem AInv.set (h : AInv cs l pp pl w0 w) (a : Addr) (v : Value) (h1 : l < a.block) (h2 : ∀ b o, pp = some ⟨b, o, none⟩ → b ≠ a.block) (h3 : w0.heap.size ≤ a.block) : AInv cs l pp pl w0 (w.setCell a v) :=
  ⟨⟨h.kp.r.set_other _ _ (by omega), h.kp.hb.setCell h3 _⟩, fun i hi => by
    obtain ⟨b, o, e, h0, h1⟩ := h.pa i hi
    have hne := h2 b o e
    exact ⟨b, o, e, by rw [World.cell?_setCell_far w a _ v (fun e2 => hne e2.symm)]; exact h0, by rw [World.cell?_setCell_far w a _ v (fun e2 => hne e2.symm)]; exact h1⟩⟩
end

set_option maxRecDepth 10000 in
set_option maxHeartbeats 800000 in
theorem refAsk_bad (p1 : Option Addr) (c1 : Nat) (p2 : Option Addr) (c2 : Nat) (long : List Int) (sz : Int) (ks : List K4) (w0 : World) (h : LogAt w0 p1 p2 long ks) (hb : validB long sz ks = false) :
    Calls Try.prog 38 #[.agg #[.slice p1 long.length c1, .int .i64 sz, .slice p2 ks.length c2]] w0 fun e w' => e = .returned (.tuple #[.int .i64 0, .int .i64 10]) ∧ Below w0.heap.size w0 w' := by
  have KI := Lib.hid (Kept.new w0 #[.slice p1 long.length c1, .int .i64 sz, .slice p2 ks.length c2] 25)
  have HC := Lib.hid (refCheck_any p1 c1 p2 c2 long sz ks _ (h.below KI.out.hb))
  go_enter Try.func38, Try.ntmps38
  go_wp2_with (first | (refine HC.out.mono ?_; rw [checkE, hb]; rintro e w1 ⟨rfl, hb1⟩; have KI := Lib.hid (KI.out.below hb1); clear hb1))
  go_ret2
  exact ⟨rfl, KI.out.hb⟩
set_option maxRecDepth 10000 in
set_option maxHeartbeats 800000 in
theorem refAsk_none (p1 : Option Addr) (c1 : Nat) (p2 : Option Addr) (c2 : Nat) (long : List Int) (sz : Int) (ks : List K4) (w0 : World) (h : LogAt w0 p1 p2 long ks) (hb : validB long sz ks = true) (hk0 : ks.length = 0) :
    Calls Try.prog 38 #[.agg #[.slice p1 long.length c1, .int .i64 sz, .slice p2 ks.length c2]] w0 fun e w' => e = .returned (.tuple #[.int .i64 0, .int .i64 4]) ∧ Below w0.heap.size w0 w' := by
  obtain rfl := List.length_eq_zero_iff.1 hk0
  clear hk0
  have KI := Lib.hid (Kept.new w0 #[.slice p1 long.length c1, .int .i64 sz, .slice p2 0 c2] 25)
  have HC := Lib.hid (refCheck_any p1 c1 p2 c2 long sz [] _ (h.below KI.out.hb))
  go_enter Try.func38, Try.ntmps38
  go_wp2_with (first | (refine HC.out.mono ?_; rw [checkE, hb]; rintro e w1 ⟨rfl, hb1⟩; have KI := Lib.hid (KI.out.below hb1); clear hb1; have k2 := KI.out.s3.2.2))
  go_ret2
  exact ⟨rfl, KI.out.hb⟩

set_option maxRecDepth 10000 in
set_option maxHeartbeats 1600000 in
theorem refAsk_good (p1 : Option Addr) (c1 : Nat) (p2 : Option Addr) (c2 : Nat) (long : List Int) (sz : Int) (ks : List K4) (w0 : World) (h : LogAt w0 p1 p2 long ks) (hc1 : long.length ≤ c1) (hb : validB long sz ks = true) (hk0 : 0 < ks.length) :
    Calls Try.prog 38 #[.agg #[.slice p1 long.length c1, .int .i64 sz, .slice p2 ks.length c2]] w0 fun e w' => e = .returned (.tuple #[.int .i64 (askD long sz ks), .int .i64 0]) ∧ Below w0.heap.size w0 w' := by
  have hok := valid_ok hb
  have hL := hok.L
  have hs1 := hok.s1
  have hs6 := hok.s6
  have hk3 := hok.k3
  have hn6 := hL.n6
  have hw := wideN_eq hL
  obtain ⟨m, rfl⟩ : ∃ m : Nat, sz = m := ⟨sz.toNat, by omega⟩
  obtain ⟨b, o, rfl, _⟩ := h.k 0 hk0
  have hlong := total_psum hL long.length (Nat.le_refl _)
  rw [List.take_length] at hlong
  obtain ⟨a, hae, han, ha1, ha2⟩ := ask_ok (long := long) (sz := m) hk0
  have HA1 := Lib.hid ha1
  have HA2 := Lib.hid ha2
  rw [hae]
  have KI := Lib.hid (Kept.new w0 #[.slice p1 long.length c1, .int .i64 (m : Int), .slice (some ⟨b, o, none⟩) ks.length c2] 25)
  have HC := Lib.hid (refCheck_any p1 c1 (some ⟨b, o, none⟩) c2 long m ks _ (h.below KI.out.hb))
  have H0 := Lib.hid h
  have HTOT := Lib.hid (fun w hb => (by have hz := Total_any p1 c1 long w (by unfold maxLen; omega) (h.below hb).l; rw [hlong] at hz; exact hz) : ∀ w, Below w0.heap.size w0 w → Calls Try.prog 47 #[.slice p1 long.length c1] w fun e w' => e = .returned (.int .i64 (psum long long.length)) ∧ w = w')
  have HB := Lib.hid hb
  have hk00 : ((ks.length : Int) == 0) = false := by rw [beq_eq_false_iff_ne]; omega
  clear h hae ha1 ha2 hlong
  go_enter Try.func38, Try.ntmps38
  go_wp2_with fail
  refine HC.out.mono ?_
  rw [checkE, HB.out]
  rintro e w1 ⟨rfl, hb1⟩
  have KI := Lib.hid (KI.out.below hb1)
  clear hb1 HC
  have k2 := KI.out.s3.2.2
  go_wp2_with fail
  clear k2
  go_loopw [5, 6, 7] (fun wh mo q wr => ∃ (k : Nat) (wi mi : Int), k ≤ ks.length ∧ q = .int .i64 k ∧ wh = .int .i64 wi ∧ mo = .int .i64 mi ∧ AskSt (worstD long m ks) k wi mi ∧ Kept w0.heap.size #[.slice p1 long.length c1, .int .i64 (m : Int), .slice (some ⟨b, o, none⟩) ks.length c2] 25 w0 wr) (fun _ _ q _ => 10 - (intOf q).toNat)
  case atStart => exact ⟨0, -1, -1, by omega, rfl, rfl, rfl, .inl ⟨rfl, rfl, rfl⟩, KI.out⟩
  case round =>
    clear KI
    obtain ⟨k, wi, mi, hk, rfl, rfl, rfl, hst, g0⟩ := hrel
    have HST := Lib.hid hst
    clear hst
    have k2 := g0.s3.2.2
    by_cases hlt : k < ks.length
    · obtain ⟨b', o', e', q0, q1, q2, q3⟩ := ((H0.out.below g0.hb).k) k hlt
      cases e'
      have hko := hok.ok ks[k] (List.getElem_mem hlt)
      have haw := hok.aw ks[k] (List.getElem_mem hlt)
      have hfw := hok.fw ks[k] (List.getElem_mem hlt)
      have hpl8 := places_few haw hfw
      have HPC := Lib.hid (fun w => refplaces_any ks[k] hko haw hfw w)
      have HLS := Lib.hid (fun i hi => leastTo_step (long := long) (sz := m) (ks := ks) (k := k) (x := ks[k]) (i := i) hi : ∀ i (hi : i < (placesL ks[k]).length), leastTo long m ks k ks[k] (i + 1) = min (leastTo long m ks k ks[k] i) (placeN long m ks k (placesL ks[k])[i]))
      have HLR := Lib.hid (fun i => leastTo_range (sz := m) (ks := ks) hL k ks[k] i)
      have HLA := Lib.hid (leastTo_all (long := long) (sz := m) hlt)
      have HL0 := Lib.hid (show leastTo long m ks k ks[k] 0 = psum long long.length from rfl)
      have HPV := Lib.hid (fun p hp => place_valid HB.out hlt (p := p) hp : ∀ p ∈ placesL ks[k], validB long m (ks.set k (ptK p)) = true)
      have KI := Lib.hid g0
      have c0 := g0.s3.1
      clear g0 haw hfw hko
      go_wp2_with fail
      refine (HPC.out _).mono ?_
      rintro e w2 ⟨pp, cp, rfl, hpa, hb2⟩
      have AI := Lib.hid (show AInv #[.slice p1 long.length c1, .int .i64 (m : Int), .slice (some ⟨b, o, none⟩) ks.length c2] w0.heap.size pp (placesL ks[k]) w0 w2 from ⟨KI.out.below hb2, hpa⟩)
      clear hb2 hpa KI q0 q1 q2 q3 HPC k2 c0
      generalize placesL ks[k] = pl at *
      generalize leastTo long m ks k ks[k] = lt at *
      have c0 := AI.out.kp.s3.1
      go_wp2_with (first | (refine (HTOT.out _ AI.out.kp.hb).mono ?_; rintro e u ⟨rfl, rfl⟩))
      clear c0
      go_loopw [9, 10] (fun le q wr => ∃ i : Nat, i ≤ pl.length ∧ q = .int .i64 i ∧ le = .int .i64 (lt i) ∧ AInv #[.slice p1 long.length c1, .int .i64 (m : Int), .slice (some ⟨b, o, none⟩) ks.length c2] w0.heap.size pp pl w0 wr) (fun _ q _ => 20 - (intOf q).toNat)
      case atStart => exact ⟨0, by omega, rfl, by rw [HL0.out], AI.out⟩
      case round =>
        clear AI
        obtain ⟨i, hi, rfl, rfl, si⟩ := hrel
        by_cases hil : i < pl.length
        · obtain ⟨pb, po, rfl, hp0, hp1⟩ := si.pa i hil
          have HSF := Lib.hid (fun w si => (by
            obtain ⟨b', o', e', h0, h1⟩ := si.pa i hil
            cases e'
            exact ⟨si.kp.s3.1, si.kp.s3.2.1, si.kp.s3.2.2, h0, h1⟩) : ∀ w, AInv #[.slice p1 long.length c1, .int .i64 (m : Int), .slice (some ⟨b, o, none⟩) ks.length c2] w0.heap.size (some ⟨pb, po, none⟩) pl w0 w → w.cell? ⟨w0.heap.size, 0, none⟩ = some (.slice p1 long.length c1) ∧ w.cell? ⟨w0.heap.size, 1, none⟩ = some (.int .i64 (m : Int)) ∧ w.cell? ⟨w0.heap.size, 2, none⟩ = some (.slice (some ⟨b, o, none⟩) ks.length c2) ∧ w.cell? ⟨pb, po + i * 2, none⟩ = some (.int .i64 pl[i].1) ∧ w.cell? ⟨pb, po + i * 2 + 1, none⟩ = some (.int .i64 pl[i].2))
          have hpv := HPV.out pl[i] (List.getElem_mem hil)
          have hrs := reach_set (long := long) hlt pl[i]
          have HLS1 := Lib.hid (HLS.out i hil)
          have hpn : placeN long m ks k pl[i] = ((cutD long m (reachD long (ks.set k (ptK pl[i])))).length : Int) := by rw [hrs]; rfl
          rw [hpn] at HLS1
          have hcs := cutD_short hok (reachD long (ks.set k (ptK pl[i])))
          have hsl : (ks.set k (ptK pl[i])).length = ks.length := List.length_set
          have HFO := Lib.hid (fun w hbw => refFound_any p1 c1 b o c2 long m ks w (H0.out.below hbw) hk3 k hlt pl[i].1 pl[i].2 : ∀ w, Below w0.heap.size w0 w → Calls Try.prog 80 #[.agg #[.slice p1 long.length c1, .int .i64 (m : Int), .slice (some ⟨b, o, none⟩) ks.length c2], .int .i64 k, .int .i64 pl[i].1, .int .i64 pl[i].2] w fun e w' => ∃ g cap, e = .returned (.agg #[.slice p1 long.length c1, .int .i64 (m : Int), .slice (some ⟨g, 0, none⟩) ks.length cap]) ∧ KnotsAt w' (some ⟨g, 0, none⟩) (ks.set k (ptK (pl[i].1, pl[i].2))) ∧ Below w.heap.size w w')
          have HSO := Lib.hid (fun w hbw g cap hkn => (by
            have hz := refsome_any p1 c1 (some ⟨g, 0, none⟩) cap long m (ks.set k (ptK pl[i])) w ⟨(H0.out.below hbw).l, hkn, H0.out.b1, by rw [hsl]; exact H0.out.b2⟩ (valid_ok hpv) hc1
            rw [hsl] at hz
            exact hz) : ∀ w, Below w0.heap.size w0 w → ∀ g cap : Nat, KnotsAt w (some ⟨g, 0, none⟩) (ks.set k (ptK pl[i])) → Calls Try.prog 72 #[.agg #[.slice p1 long.length c1, .int .i64 (m : Int), .slice (some ⟨g, 0, none⟩) ks.length cap]] w (GaveW long (reachD long (ks.set k (ptK pl[i]))) w))
          have HBE := Lib.hid (fun w g cap q r c hbo => (by
            have hz := refbest_any p1 c1 (some ⟨g, 0, none⟩) cap long m (by omega) (by omega) (ks.set k (ptK pl[i])) hL (reachD long (ks.set k (ptK pl[i]))) (reachD_length _ _) w q r c hbo
            rw [hsl] at hz
            exact hz) : ∀ (w : World) (g cap q r c : Nat), BoolsAt w (some ⟨q, r, none⟩) ((reachD long (ks.set k (ptK pl[i]))).take (wideN long)) → Calls Try.prog 75 #[.agg #[.slice p1 long.length c1, .int .i64 (m : Int), .slice (some ⟨g, 0, none⟩) ks.length cap], .slice (some ⟨q, r, none⟩) (wideN long) c] w (GaveInts (cutD long m (reachD long (ks.set k (ptK pl[i])))) w))
          have hlr := HLR.out i
          have AI := Lib.hid si
          have hpz : pb < wr.heap.size := cell_block hp0
          have hlz := si.kp.r.lt
          have hwz := si.kp.hb.size
          have HSET := Lib.hid (fun w (ai : AInv #[.slice p1 long.length c1, .int .i64 (m : Int), .slice (some ⟨b, o, none⟩) ks.length c2] w0.heap.size (some ⟨pb, po, none⟩) pl w0 w) (j : Nat) (v : Value) => ai.set ⟨wr.heap.size, j, none⟩ v hlz (by rintro b o e; cases e; dsimp only; omega) hwz)
          have i1 : (0 : Int) ≤ (i : Int) := by omega
          have i2 : (i : Int) < (pl.length : Int) := by omega
          clear hp0 hp1 si hpv hrs hpn hsl
          generalize cutD long m (reachD long (ks.set k (ptK pl[i]))) = cut at *
          generalize reachD long (ks.set k (ptK pl[i])) = rd at *
          generalize lt i = lti at *
          go_wp2_with fail
          go_region_held3 (fun w' => w'.cell? ⟨w0.heap.size, 0, none⟩ = some (.slice p1 long.length c1) ∧ w'.cell? ⟨w0.heap.size, 1, none⟩ = some (.int .i64 (m : Int)) ∧ w'.cell? ⟨w0.heap.size, 2, none⟩ = some (.slice (some ⟨b, o, none⟩) ks.length c2) ∧ w'.cell? ⟨pb, po + i * 2, none⟩ = some (.int .i64 pl[i].1) ∧ w'.cell? ⟨pb, po + i * 2 + 1, none⟩ = some (.int .i64 pl[i].2)) (first | with_reducible exact HSF.out _ AI.out.drew | with_reducible exact HSF.out _ (AI.out.alloc _).drew | with_reducible exact HSF.out _ AI.out | with_reducible exact HSF.out _ (AI.out.alloc _) | with_reducible exact HSF.out _ (HSET.out _ (HSET.out _ (HSET.out _ AI.out _ _) _ _) _ _))
            (first
              | (go_at_call 80; with_reducible refine (HFO.out _ AI.out.drew.kp.hb).mono ?_; rintro e u ⟨g, cap, rfl, hkn, hbu⟩; have AI := Lib.hid (AI.out.drew.below hbu); have KN := Lib.hid hkn; clear hbu hkn)
              | (go_at_call 80; with_reducible refine (HFO.out _ (AI.out.alloc _).drew.kp.hb).mono ?_; rintro e u ⟨g, cap, rfl, hkn, hbu⟩; have RX := Lib.hid ((Row.new wr #[.slice none 0 0, .int .i64 0, .slice none 0 0] 25).drew.below hbu (by simp)); have AI := Lib.hid ((AI.out.alloc _).drew.below hbu); have KN := Lib.hid hkn; clear hbu hkn; have t0 := RX.out.cell 0 (v := .slice none 0 0) rfl; have t1 := RX.out.cell 1 (v := .int .i64 0) rfl; have t2 := RX.out.cell 2 (v := .slice none 0 0) rfl; have t3 := RX.out.free 0; have t4 := RX.out.free 1; have t5 := RX.out.free 2))
          all_goals
            first
              | (have KNF := Lib.hid (knots_far (knots_far (knots_far KN.out (knots_ne RX.out KN.out (by rw [List.length_set]; omega)) 0 (.slice p1 long.length c1)) (knots_ne RX.out KN.out (by rw [List.length_set]; omega)) 1 (.int .i64 (m : Int))) (knots_ne RX.out KN.out (by rw [List.length_set]; omega)) 2 (.slice (some ⟨g, 0, none⟩) ks.length cap)); have RXF := Lib.hid (show Row (((u.setCell ⟨wr.heap.size, 0, none⟩ (.slice p1 long.length c1)).setCell ⟨wr.heap.size, 1, none⟩ (.int .i64 (m : Int))).setCell ⟨wr.heap.size, 2, none⟩ (.slice (some ⟨g, 0, none⟩) ks.length cap)) wr.heap.size #[.slice p1 long.length c1, .int .i64 (m : Int), .slice (some ⟨g, 0, none⟩) ks.length cap] 25 from ((RX.out.set 0 _).set 1 _).set 2 _); have AIF := Lib.hid (HSET.out _ (HSET.out _ (HSET.out _ AI.out 0 (.slice p1 long.length c1)) 1 (.int .i64 (m : Int))) 2 (.slice (some ⟨g, 0, none⟩) ks.length cap)); clear t0 t1 t2 t3 t4 t5 RX KN AI)
              | (have KNF := Lib.hid (KN.out.below (below_alloc u (.cells #[.slice p1 long.length c1, .int .i64 (m : Int), .slice (some ⟨g, 0, none⟩) ks.length cap] 25))); have RXF := Lib.hid (Row.new u #[.slice p1 long.length c1, .int .i64 (m : Int), .slice (some ⟨g, 0, none⟩) ks.length cap] 25); have AIF := Lib.hid (AI.out.alloc (.cells #[.slice p1 long.length c1, .int .i64 (m : Int), .slice (some ⟨g, 0, none⟩) ks.length cap] 25)); clear KN AI)
          all_goals
            have AID := Lib.hid AIF.out.drew
            have RXD := Lib.hid RXF.out.drew
            have KND := Lib.hid (KNF.out.below ((Below.refl _ _).drew))
            clear AIF RXF KNF
            go_wp2_with fail
            first
              | (go_region_held3 (fun w' => w'.cell? ⟨wr.heap.size, 0, none⟩ = some (.slice p1 long.length c1) ∧ w'.cell? ⟨wr.heap.size, 1, none⟩ = some (.int .i64 (m : Int)) ∧ w'.cell? ⟨wr.heap.size, 2, none⟩ = some (.slice (some ⟨g, 0, none⟩) ks.length cap)) (exact ⟨RXD.out.cell 0 rfl, RXD.out.cell 1 rfl, RXD.out.cell 2 rfl⟩) (first | (go_at_call 72; refine (HSO.out _ AID.out.kp.hb g cap KND.out).mono ?_; rintro e u5 ⟨b', o', c', rfl, hnew, hbt, hbu⟩; have AID := Lib.hid (AID.out.below hbu); have RXD := Lib.hid (RXD.out.below hbu RXD.out.lt); have BT := Lib.hid hbt; clear hbu hbt hnew) | (go_at_call 75; refine (HBE.out _ _ _ _ _ _ BT.out).mono ?_; rintro e u6 ⟨p9, c9, rfl, _, hbu⟩; have AID := Lib.hid (AID.out.below hbu); have RXD := Lib.hid (RXD.out.below hbu RXD.out.lt); clear hbu)))
              | (go_region_held3 (fun w' => w'.cell? ⟨u.heap.size, 0, none⟩ = some (.slice p1 long.length c1) ∧ w'.cell? ⟨u.heap.size, 1, none⟩ = some (.int .i64 (m : Int)) ∧ w'.cell? ⟨u.heap.size, 2, none⟩ = some (.slice (some ⟨g, 0, none⟩) ks.length cap)) (exact ⟨RXD.out.cell 0 rfl, RXD.out.cell 1 rfl, RXD.out.cell 2 rfl⟩) (first | (go_at_call 72; refine (HSO.out _ AID.out.kp.hb g cap KND.out).mono ?_; rintro e u5 ⟨b', o', c', rfl, hnew, hbt, hbu⟩; have AID := Lib.hid (AID.out.below hbu); have RXD := Lib.hid (RXD.out.below hbu RXD.out.lt); have BT := Lib.hid hbt; clear hbu hbt hnew) | (go_at_call 75; refine (HBE.out _ _ _ _ _ _ BT.out).mono ?_; rintro e u6 ⟨p9, c9, rfl, _, hbu⟩; have AID := Lib.hid (AID.out.below hbu); have RXD := Lib.hid (RXD.out.below hbu RXD.out.lt); clear hbu)))
            all_goals
              go_wp2
              go_roundw
              case rel => first
                | exact ⟨i + 1, by omega, by go_num, by rw [HLS1.out]; congr 1; omega, AID.out⟩
              case measure => simp [intOf]; omega
        · obtain rfl : i = pl.length := by omega
          rw [HLA.out]
          have hw0 : 0 ≤ worstD long m ks k ∧ worstD long m ks k ≤ 72 := by have := HLR.out pl.length; rw [HLA.out] at this; exact this
          have AI := Lib.hid si
          clear si
          generalize hwk : worstD long m ks k = wk at *
          have HWK := Lib.hid hwk
          clear hwk
          by_cases hgt : mi < wk
          · go_wp2
            go_roundw
            case rel => exact ⟨k + 1, k, wk, by omega, by go_num, rfl, rfl, by have h := HST.out.yes (by rw [HWK.out]; exact hgt); rw [HWK.out] at h; exact h, AI.out.kp⟩
            case measure => simp [intOf]; omega
          · go_wp2
            go_roundw
            case rel => exact ⟨k + 1, wi, mi, by omega, by go_num, rfl, rfl, HST.out.no (by rw [HWK.out]; exact hw0.1) (by rw [HWK.out]; omega), AI.out.kp⟩
            case measure => simp [intOf]; omega
    · obtain rfl : k = ks.length := by omega
      have KI := Lib.hid g0
      have hwi := HST.out.fin han HA1.out HA2.out
      clear g0 HST HA1 HA2
      subst hwi
      go_wp2
      go_ret2
      exact ⟨rfl, KI.out.hb⟩
end Go.Proofs.Ytnnlbbmimdohoaa
