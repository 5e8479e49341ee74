/- The law's own helpers of layer 3: a setting that numbers choose. -/
import Derived.Test.YtfppcmechfjpoaaVE
namespace Go.Proofs.Ytfppcmechfjpoaa
open Go.RowKit Go.Maps
attribute [local go_sem] Oper.semAt_some

/-- The setting that numbers choose. -/
def settingL (bits : List Int) (n : Nat) : List Int := (List.range n).map fun (p : Nat) => spin (item bits (p : Int)) 4
theorem settingL_length (bits : List Int) (n : Nat) : (settingL bits n).length = n := by simp [settingL]
theorem settingL_succ (bits : List Int) (n : Nat) : settingL bits (n + 1) = settingL bits n ++ [spin (item bits (n : Int)) 4] := by simp [settingL, List.range_succ]
theorem settingL_mem (bits : List Int) (n : Nat) : ∀ x ∈ settingL bits n, 0 ≤ x ∧ x ≤ 3 := by
  intro x hx
  obtain ⟨p, _, rfl⟩ := List.mem_map.1 hx
  have := spin_range (item bits (p : Int)) 4 (by omega)
  omega
theorem settingL_set (bits : List Int) (n : Nat) : isSetB n (settingL bits n) = true := by
  simp only [isSetB, setB, Bool.and_eq_true, decide_eq_true_eq, List.all_eq_true]
  exact ⟨settingL_length bits n, settingL_mem bits n⟩

set_option maxRecDepth 10000 in
set_option maxHeartbeats 1600000 in
theorem setting_any (pp : Option Addr) (np cp : Nat) (hn : np ≤ 10) (pf : Option Addr) (nf cf : Nat) (pb : Option Addr) (cb : Nat) (bits : List Int) (w : World) (hb : IntsAt w pb bits) (hbn : bits.length ≤ maxLen) :
    Calls Try.prog 41 #[.agg #[.slice pp np cp, .slice pf nf cf], .slice pb bits.length cb] w (GaveInts (settingL bits np) w) := by
  obtain ⟨i0, hi, hi0, hi1, hi2⟩ := info_parts Try.infoInt
  have HBI := Lib.hid hb
  have HBN := Lib.hid hbn
  have HW0 := Lib.hid (Row.new w #[.slice pp np cp, .slice pf nf cf] 25)
  have HE0 := Lib.hid (below_alloc w (.cells #[.slice pp np cp, .slice pf nf cf] 25))
  clear hb hbn
  go_enter Try.func41, Try.ntmps41
  go_wp2
  go_loopw [5, 6] (fun ls i wr => ∃ k : Nat, k ≤ np ∧ i = .int .i64 k ∧ wr.ownsRow (w.heap.size + 1) 3 1 ls (settingL bits k).length ((settingL bits k).map (Value.int .i64)) ∧ Row wr w.heap.size #[.slice pp np cp, .slice pf nf cf] 25 ∧ Below w.heap.size w wr) (fun _ i _ => np - (intOf i).toNat)
  case atStart => exact ⟨0, by omega, rfl, World.ownsRow_nil _ _ _ _, HW0.out, HE0.out⟩
  case round =>
    clear HW0 HE0
    obtain ⟨k, hk, rfl, hown, hrow, hbw⟩ := hrel
    have HO1 := Lib.hid hown
    have HW := Lib.hid hrow
    have HB := Lib.hid hbw
    have hz := hrow.lt
    have hpl := settingL_length bits k
    have c0 := hrow.cell 0 (v := .slice pp np cp) rfl
    clear hown hrow hbw
    by_cases hlt : k < np
    · have HS := Lib.hid (settingL_succ bits k)
      generalize hv : spin (item bits (k : Int)) 4 = v at *
      have HV := Lib.hid hv
      clear hv
      go_wp2_with (first
        | (go_at_call 90; (with_reducible refine (Item_any _ _ _ _ _ HBN.out (HBI.out.below HB.out)).mono ?_); rintro e u ⟨rfl, rfl⟩)
        | (go_at_call 48; (with_reducible refine (Spin_any _ _ _ (by unfold I64; omega)).mono ?_); rintro e u ⟨rfl, rfl⟩; rw [HV.out])
        | (at_builtin; (refine wpList_append_own _ rfl _ _ 26 rfl (w.heap.size + 1) 3 i0 (.int .i64 0) 1 8 Try.underlying26 hi hi0 hi1 hi2 rfl (by decide) _ _ _ rfl (HO1.out.alloc _) ⟨wr.heap.size, 0, none⟩ 1 1 [.int .i64 v] rfl rfl (cell_one_new _ _ _) (by simp [Value.oneCell']) (by unfold maxLen; omega) (by omega) (by simp; omega) ?_); intro v' w2 hown' hgrow _; have HO := Lib.hid hown'; have hg2 : Below (w.heap.size + 1) wr w2 := ((Below.refl _ _).alloc (by omega) _).grown hgrow (by simp; omega) (fun k hk => (HO1.out.lt k hk).1); have HW := Lib.hid (HW.out.below hg2 (by omega)); have HB := Lib.hid (HB.out.trans (hg2.mono (by omega))); clear hg2 hown' hgrow))
      go_roundw
      case rel => exact ⟨k + 1, by omega, by go_num, by rw [HS.out]; simpa using HO.out, HW.out, HB.out⟩
      case measure => simp [intOf]; omega
    · obtain rfl : k = np := by omega
      obtain ⟨p, c, rfl, hints, hle, hcm, hp⟩ := ints_of_owns2 HO1.out
      have HI := Lib.hid hints
      clear hints
      unfold maxLen at hcm
      rcases hp with rfl | ⟨g, rfl, hg⟩
      · go_wp2
        go_ret
        exact ⟨_, _, rfl, HI.out, HB.out⟩
      · go_wp2
        go_ret
        exact ⟨_, _, rfl, HI.out, HB.out⟩
end Go.Proofs.Ytfppcmechfjpoaa
