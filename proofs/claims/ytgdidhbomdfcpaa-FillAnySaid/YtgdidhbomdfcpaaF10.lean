/- The walks of layer 5: the iterator of a plan's boxes. -/
import Derived.Test.YtgdidhbomdfcpaaF9
import Derived.Test.YtgdidhbomdfcpaaG4
import Derived.Laws.EntriesVeiled
namespace Go.Proofs.Ytgdidhbomdfcpaa
open Go.RowKit Go.Maps
attribute [local go_sem] Oper.semAt_some

theorem boxes_any (p : Option Addr) (c : Nat) (l : List Int) (w : World) :
    Calls Try.prog 97 #[.slice p l.length c] w fun e w' => e = .returned (.func (.func 108) #[] #[.pointer (some ⟨w.heap.size, 0, none⟩)]) ∧ w' = w.alloc (.cells #[.slice p l.length c] 38) := by
  go_enter Try.func97, Try.ntmps97
  go_wp2
  go_ret
  exact ⟨rfl, rfl⟩
set_option maxRecDepth 10000 in
set_option maxHeartbeats 1600000 in
theorem boxes_iter (p : Option Addr) (c : Nat) (l : List Int) (nb : Nat) (hl : l.length < 2 ^ 62) (W : World) (hW : Row W nb #[.slice p l.length c] 38) (hI : IntsAt W p l) :
    IterO Try.prog 108 #[.pointer (some ⟨nb, 0, none⟩)] (fun m => m = nb ∨ (0 < l.length ∧ ∃ o, p = some ⟨m, o, none⟩)) l.length (fun k x O A => x = #[.int .i64 k, .agg #[.int .i64 (bgn l k), .int .i64 (at0 l k)]]) W := by
  intro li M J Jx hM hJ hJx hY h0
  show Calls _ _ #[.func (.yield li) #[] #[], .pointer (some ⟨nb, 0, none⟩)] _ _
  have HW := Lib.hid hW
  have HI := Lib.hid hI
  have HM := Lib.hid hM
  have HJ := Lib.hid hJ
  have HY := Lib.hid hY
  have H0 := Lib.hid h0
  have c0 := hW.cell 0 (v := .slice p l.length c) rfl
  clear hW hI hM hJ hJx hY h0
  go_enter Try.func108, Try.ntmps108
  go_wp2_with fail
  clear c0
  go_loopw [3, 8] (fun f i wr => ∃ k : Nat, k ≤ l.length ∧ f = .int .i64 (bgn l k) ∧ i = .int .i64 k ∧ J k (fun _ => False) wr ∧ KeepsBut M W wr) (fun _ i _ => l.length - (intOf i).toNat)
  case atStart => exact ⟨0, by omega, rfl, rfl, H0.out, KeepsBut.refl _ _⟩
  case round =>
    obtain ⟨k, hk, rfl, rfl, hj, hkp⟩ := hrel
    by_cases hlt : k < l.length
    · obtain ⟨b, o, rfl, hc⟩ := HI.out k hlt
      have hnm : ¬ M b := fun h => (HM.out b h).2 (.inr ⟨by omega, o, rfl⟩)
      have cc : wr.cell? ⟨b, o + k, none⟩ = some (.int .i64 (at0 l k)) := by rw [World.cell?_of_block (hkp.block b (cell_block hc) hnm)]; exact hc
      obtain ⟨fn, tmps, assign, body, hy, hR⟩ := HY.out k #[.int .i64 k, .agg #[.int .i64 (bgn l k), .int .i64 (at0 l k)]] (fun _ => False) wr hlt rfl (fun _ h => h.elim) hj hkp
      have hy : (Instr.yield li #[.int .i64 k, .agg #[.int .i64 (bgn l k), .int .i64 (at0 l k)]]).run Try.prog _ = _ := hy
      have HR := Lib.hid hR
      have HKP := Lib.hid hkp
      have HBS := Lib.hid (bgn_succ l k)
      have i1 : (0 : Int) ≤ (k : Int) := by omega
      have i2 : (k : Int) < (l.length : Int) := by omega
      clear hR hkp hj hc hnm
      go_upto_region 4 with (fail)
      refine (wpIn_wide (n := 1)).1 ?_
      gi_wp2_with fail
      refine HR.out.mono ?_
      rintro e B ⟨hkB, (⟨rfl, hJ1⟩ | ⟨rfl, hJx1⟩)⟩
      · have HJ1 := Lib.hid hJ1
        have HK1 := Lib.hid (HKP.out.trans hkB)
        clear hkB hJ1 hy cc
        gi_wp2
        go_wp2
        go_roundw
        case rel => exact ⟨k + 1, by omega, by rw [HBS.out], by go_num, HJ1.out, HK1.out⟩
        case measure => simp [intOf]; omega
      · have HJ1 := Lib.hid hJx1
        have HK1 := Lib.hid (HKP.out.trans hkB)
        clear hkB hJx1 hy cc
        gi_wp2
        go_wp2
        refine bodyPost_ret (results_none rfl _ _ _) rfl ?_
        exact ⟨⟨_, rfl⟩, HK1.out, _, fun _ h => h.elim, .inr HJ1.out⟩
    · obtain rfl : k = l.length := by omega
      have HJ1 := Lib.hid hj
      have HK1 := Lib.hid hkp
      clear hj hkp
      go_wp2
      go_end0
      exact ⟨⟨_, rfl⟩, HK1.out, _, fun _ h => h.elim, .inl HJ1.out⟩
end Go.Proofs.Ytgdidhbomdfcpaa
