/- The law's own helpers of layer 5: is a list a plan, as the program says, and as it is? -/
import Derived.Test.YtgdidhbomdfcpaaF38
namespace Go.Proofs.Ytgdidhbomdfcpaa
open Go.RowKit Go.Maps
attribute [local go_sem] Oper.semAt_some

theorem plan_nums_all {b : Bf} {l : List Int} (hok : BfOk b) (hp : planB b l = true) : ∀ i, i < l.length → I64 (at0 l i) := by
  intro i hi
  unfold planB at hp
  rw [Bool.and_eq_true] at hp
  have h := planTo_all hp.1 hi
  have hn := hok.n8
  unfold boxI boxB at h
  simp only [decide_eq_true_eq] at h
  unfold I64
  omega
set_option maxRecDepth 10000 in
set_option maxHeartbeats 1600000 in
theorem plan_yes (b : Bf) (p : Option Addr) (c : Nat) (q : Option Addr) (cq : Nat) (l : List Int) (w : World) (hB : BfAt w p c b) (hb : bookB b = true) (hl : IntsAt w q l) (hp : planB b l = true) :
    Calls Try.prog 40 #[.agg (bfA b p c), .slice q l.length cq] w fun e w' => e = .returned (.bool true) ∧ Below w.heap.size w w' := by
  have hok := bookB_iff.1 hb
  have hn8 := hok.n8
  have hpl := plan_len hp
  obtain ⟨W0, hW0⟩ : ∃ W, W = w.alloc (.cells (bfA b p c) 24) := ⟨_, rfl⟩
  have HW0 := Lib.hid hW0
  have HE := Lib.hid (show Below w.heap.size w W0 by rw [hW0]; exact below_alloc _ _)
  have HR := Lib.hid (show Row W0 w.heap.size (bfA b p c) 24 by rw [hW0]; exact Row.new w _ _)
  have HL := Lib.hid (hl.below HE.out)
  have HC := Lib.hid (by have h := IsPlan_yes b p c q cq l W0 (hB.below HE.out) hb HL.out (by omega) (plan_nums_all hok hp); rw [hp] at h; exact h)
  have HP := Lib.hid hp
  have g0 := HR.out.cell 0 (v := .int .i64 b.pr) rfl
  have g1 := HR.out.cell 1 (v := .int .i64 b.le) rfl
  have g2 := HR.out.cell 2 (v := .int .i64 b.mo) rfl
  have g3 := HR.out.cell 3 (v := .int .i64 b.gr) rfl
  have g4 := HR.out.cell 4 (v := .slice p b.hs.length c) rfl
  have h7 := hok.g1
  have h9 := hok.g2
  clear hW0 hB hb hok hl hp
  go_enter Try.func40, Try.ntmps40
  go_wp2_with fail
  rw [← HW0.out]
  refine HC.out.mono ?_
  rintro e u ⟨rfl, hbu⟩
  obtain ⟨z, rfl⟩ := later_of hbu
  clear hbu
  go_wp2_with fail
  go_loopw [7, 8] (fun f i wr => ∃ (k : Nat) (x : Later W0), k ≤ l.length ∧ f = .int .i64 (bgn l k) ∧ i = .int .i64 k ∧ wr = x.w) (fun _ i _ => l.length - (intOf i).toNat)
  case atStart => exact ⟨0, z, by omega, rfl, rfl, rfl⟩
  case round =>
    obtain ⟨k, x, hk, rfl, rfl, rfl⟩ := hrel
    by_cases hlt : k < l.length
    · obtain ⟨bb, o, rfl, hc⟩ := HL.out k hlt
      have hbx := planTo_all ((Bool.and_eq_true _ _ ▸ (show (planTo b l l.length && decide (bgn l l.length = b.hs.length)) = true from HP.out)).1) hlt
      unfold boxI boxB at hbx
      simp only [decide_eq_true_eq] at hbx
      obtain ⟨hx0, hx1, hx2, hx3⟩ := hbx
      have HS := Lib.hid (bgn_succ l k)
      obtain ⟨a, ha⟩ : ∃ a, bgn l k = a := ⟨_, rfl⟩
      obtain ⟨y, hy⟩ : ∃ y, at0 l k = y := ⟨_, rfl⟩
      rw [ha] at hx0 hx1 hx3 ⊢
      rw [hy] at hx1 hx2 hx3 HS hc
      clear ha hy
      have HF := Lib.hid (fun w' => Fits_yes y (a + 1) (min (a + b.gr) (b.hs.length : Int)) w' (by omega) (by omega))
      have e1 : IntKind.i64.wrap (a + 1) = a + 1 := IntWalk.i64_in _ (by omega)
      have e2 : IntKind.i64.wrap (a + b.gr) = a + b.gr := IntWalk.i64_in _ (by omega)
      have i1 : (0 : Int) ≤ (k : Int) := by omega
      have i2 : (k : Int) < (l.length : Int) := by omega
      go_upto_region 6 with (fail)
      refine wp_region_later (by kernel_rfl) (by kernel_rfl) ?_
      repeat (go_big_quiet_step (first
        | (go_at_call 55; with_reducible exact Calls.later_same (HF.out _))))
      refine wpQuiet_nil ?_
      intro _ hw'
      obtain ⟨y', hw''⟩ := hw'
      subst hw''
      obtain ⟨x2, hx2'⟩ := x.up y'
      rw [hx2']
      clear e1 e2 hx2'
      go_wp2_with fail
      go_roundw
      case rel => exact ⟨k + 1, x2, by omega, by rw [HS.out], by go_num, rfl⟩
      case measure => simp [intOf]; omega
    · obtain rfl : k = l.length := by omega
      have HEN := Lib.hid (show bgn l l.length = (b.hs.length : Int) by
        have h := HP.out
        unfold planB at h
        rw [Bool.and_eq_true] at h
        simpa using h.2)
      rw [HEN.out]
      go_wp2_with fail
      go_ret
      exact ⟨rfl, x.base HE.out⟩
end Go.Proofs.Ytgdidhbomdfcpaa
