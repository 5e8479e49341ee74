/- The walks of layer 6: lists compared; which store is better. -/
import Derived.Test.YtajkgfeockcbpaaY12
namespace Go.Proofs.Ytajkgfeockcbpaa
open Go.RowKit Go.Maps
attribute [local go_sem] Oper.semAt_some

theorem isNaN_any (x : Int) (w : World) : Calls Try.prog 132 #[.int .i64 x] w fun e w' => e = .returned (.bool false) ∧ w = w' := by
  go_enter Try.func132, Try.ntmps132
  go_wp2
  go_ret
  exact ⟨ret_bool (by simp), rfl⟩
set_option maxRecDepth 10000 in
set_option maxHeartbeats 1600000 in
theorem cmpInt_any (a c : Int) (w : World) : Calls Try.prog 131 #[.int .i64 a, .int .i64 c] w fun e w' => e = .returned (.int .i64 (if a < c then -1 else if c < a then 1 else 0)) ∧ w = w' := by
  by_cases h1 : a < c
  · rw [if_pos h1]
    go_enter Try.func131, Try.ntmps131
    go_wp2_with (first | (go_at_call 132; (with_reducible refine (isNaN_any _ _).mono ?_); rintro e u ⟨rfl, rfl⟩))
    go_ret
    exact ⟨rfl, rfl⟩
  · rw [if_neg h1]
    by_cases h2 : c < a
    · rw [if_pos h2]
      go_enter Try.func131, Try.ntmps131
      go_wp2_with (first | (go_at_call 132; (with_reducible refine (isNaN_any _ _).mono ?_); rintro e u ⟨rfl, rfl⟩))
      go_ret
      exact ⟨rfl, rfl⟩
    · rw [if_neg h2]
      go_enter Try.func131, Try.ntmps131
      go_wp2_with (first | (go_at_call 132; (with_reducible refine (isNaN_any _ _).mono ?_); rintro e u ⟨rfl, rfl⟩))
      go_ret
      exact ⟨rfl, rfl⟩
/-- How two lists compare. -/
def cmpL (l m : List Int) : Int := if earlier l m then -1 else if earlier m l then 1 else 0
theorem cmpL_at {l m : List Int} {k : Nat} (h1 : k < l.length) (h2 : k < m.length) (h3 : l.take k = m.take k) (h : at0 l k ≠ at0 m k) : cmpL l m = if at0 l k < at0 m k then -1 else 1 := by
  unfold cmpL
  rw [earlier_ne h1 h2 h3 h, earlier_ne h2 h1 h3.symm (Ne.symm h)]
  by_cases hlt : at0 l k < at0 m k
  · simp [hlt]
  · simp [hlt, show at0 m k < at0 l k by omega]
theorem cmpL_end {l m : List Int} {k : Nat} (h1 : k ≤ l.length) (h2 : k ≤ m.length) (h3 : l.take k = m.take k) (h : k = l.length ∨ k = m.length) : cmpL l m = if l.length < m.length then -1 else if m.length < l.length then 1 else 0 := by
  unfold cmpL
  rw [earlier_end h1 h2 h3 h, earlier_end h2 h1 h3.symm h.symm]
  by_cases a : l.length < m.length
  · simp [a]
  · by_cases b : m.length < l.length <;> simp [a, b]
theorem cmpL_neg (l m : List Int) : decide (cmpL l m < 0) = earlier l m := by
  unfold cmpL
  cases earlier l m <;> cases earlier m l <;> simp
set_option maxRecDepth 10000 in
set_option maxHeartbeats 1600000 in
theorem compare_any (p : Option Addr) (c : Nat) (l : List Int) (q : Option Addr) (d : Nat) (m : List Int) (hl : l.length ≤ 1000) (hm : m.length ≤ 1000) (w : World) (hI : IntsAt w p l) (hJ : IntsAt w q m) :
    Calls Try.prog 128 #[.slice p l.length c, .slice q m.length d] w fun e w' => e = .returned (.int .i64 (cmpL l m)) ∧ w = w' := by
  have HI := Lib.hid hI
  have HJ := Lib.hid hJ
  clear hI hJ
  go_enter Try.func128, Try.ntmps128
  go_wp2
  go_loop [11] (fun ix => ∃ k : Nat, k ≤ l.length ∧ k ≤ m.length ∧ ix = .int .i64 k ∧ l.take k = m.take k) (fun ix => l.length - (intOf ix).toNat)
  case atStart => exact ⟨0, by omega, by omega, rfl, by simp⟩
  case round =>
    obtain ⟨k, hk, hk2, rfl, hpre⟩ := hrel
    have HP := Lib.hid hpre
    clear hpre
    by_cases hlt : k < l.length
    · obtain ⟨b, o, hp, h0⟩ := HI.out k hlt
      subst hp
      have i1 : (0 : Int) ≤ (k : Int) := by omega
      have i2 : (k : Int) < (l.length : Int) := by omega
      by_cases hlm : k < m.length
      · obtain ⟨b2, o2, hp2, h2⟩ := HJ.out k hlm
        subst hp2
        have i3 : (k : Int) < (m.length : Int) := by omega
        have HA := Lib.hid (take_snoc hlt)
        have HB := Lib.hid (take_snoc hlm)
        have HC := Lib.hid (fun h => cmpL_at hlt hlm HP.out h)
        generalize at0 l k = x at *
        generalize at0 m k = y at *
        by_cases hxy : x = y
        · have HXY := Lib.hid hxy
          have HCM := Lib.hid (fun w' => (by have h := cmpInt_any x y w'; rw [if_neg (by omega), if_neg (by omega)] at h; exact h : Calls Try.prog 131 #[.int .i64 x, .int .i64 y] w' fun e w'' => e = .returned (.int .i64 0) ∧ w' = w''))
          clear hxy
          go_wp2_with (first | (go_at_call 131; (refine (HCM.out _).mono ?_); rintro e u ⟨rfl, rfl⟩))
          go_round
          case rel => exact ⟨k + 1, by omega, by omega, by go_num, by rw [HA.out, HB.out, HP.out, HXY.out]⟩
          case measure => simp [intOf]; omega
        · have HCC := Lib.hid (HC.out hxy)
          by_cases hlt2 : x < y
          · have HCM := Lib.hid (fun w' => (by have h := cmpInt_any x y w'; rw [if_pos hlt2] at h; exact h : Calls Try.prog 131 #[.int .i64 x, .int .i64 y] w' fun e w'' => e = .returned (.int .i64 (-1)) ∧ w' = w''))
            have HR := Lib.hid (show cmpL l m = -1 by rw [HCC.out, if_pos hlt2])
            clear hxy hlt2 HCC
            go_wp2_with (first | (go_at_call 131; (refine (HCM.out _).mono ?_); rintro e u ⟨rfl, rfl⟩))
            go_ret
            exact ⟨ret_int HR.out.symm, rfl⟩
          · have HCM := Lib.hid (fun w' => (by have h := cmpInt_any x y w'; rw [if_neg hlt2, if_pos (by omega)] at h; exact h : Calls Try.prog 131 #[.int .i64 x, .int .i64 y] w' fun e w'' => e = .returned (.int .i64 1) ∧ w' = w''))
            have HR := Lib.hid (show cmpL l m = 1 by rw [HCC.out, if_neg hlt2])
            clear hxy hlt2 HCC
            go_wp2_with (first | (go_at_call 131; (refine (HCM.out _).mono ?_); rintro e u ⟨rfl, rfl⟩))
            go_ret
            exact ⟨ret_int HR.out.symm, rfl⟩
      · have i3 : ¬ (k : Int) < (m.length : Int) := by omega
        have HR := Lib.hid (show cmpL l m = 1 by rw [cmpL_end (by omega) (by omega) HP.out (.inr (by omega)), if_neg (by omega), if_pos (by omega)])
        go_wp2_with fail
        go_ret
        exact ⟨ret_int HR.out.symm, rfl⟩
    · have i2 : ¬ (k : Int) < (l.length : Int) := by omega
      have HEN := Lib.hid (cmpL_end hk hk2 HP.out (.inl (by omega)))
      by_cases hlm : l.length < m.length
      · have i3 : (l.length : Int) < (m.length : Int) := by omega
        have HR := Lib.hid (show cmpL l m = -1 by rw [HEN.out, if_pos hlm])
        go_wp2_with fail
        go_ret
        exact ⟨ret_int HR.out.symm, rfl⟩
      · have i3 : ¬ (l.length : Int) < (m.length : Int) := by omega
        have HR := Lib.hid (show cmpL l m = 0 by rw [HEN.out, if_neg hlm, if_neg (by omega)])
        go_wp2_with fail
        go_ret
        exact ⟨ret_int HR.out.symm, rfl⟩
set_option maxRecDepth 10000 in
set_option maxHeartbeats 1600000 in
theorem before_any (p : Option Addr) (c : Nat) (l : List Int) (q : Option Addr) (d : Nat) (m : List Int) (hl : l.length ≤ 1000) (hm : m.length ≤ 1000) (w : World) (hI : IntsAt w p l) (hJ : IntsAt w q m) :
    Calls Try.prog 117 #[.slice p l.length c, .slice q m.length d] w fun e w' => e = .returned (.bool (befB l m)) ∧ w = w' := by
  have HC := Lib.hid (compare_any p c l q d m hl hm w hI hJ)
  have HN := Lib.hid (cmpL_neg l m)
  clear hI hJ
  by_cases h : l.length = m.length
  · have HR := Lib.hid (show befB l m = earlier l m by unfold befB; rw [if_pos h])
    have h2 : ((l.length : Int) != (m.length : Int)) = false := by rw [h]; simp
    clear h
    go_enter Try.func117, Try.ntmps117
    go_wp2_with (first | (go_at_call 128; (refine HC.out.mono ?_); rintro e u ⟨rfl, rfl⟩))
    go_ret
    exact ⟨ret_bool (by rw [HR.out, HN.out]), rfl⟩
  · have HR := Lib.hid (show befB l m = decide (l.length < m.length) by unfold befB; rw [if_neg h])
    have h2 : ((l.length : Int) != (m.length : Int)) = true := by simp; omega
    clear h
    go_enter Try.func117, Try.ntmps117
    go_wp2_with fail
    go_ret
    exact ⟨ret_bool (by rw [HR.out]), rfl⟩
set_option maxRecDepth 10000 in
set_option maxHeartbeats 1600000 in
theorem better_any (p : Option Addr) (c : Nat) (l : List Int) (g : Int) (q : Option Addr) (d : Nat) (m : List Int) (h : Int) (hl : l.length ≤ 1000) (hm : m.length ≤ 1000) (w : World) (hI : IntsAt w p l) (hJ : IntsAt w q m) :
    Calls Try.prog 107 #[.agg #[.slice p l.length c, .int .i64 g], .agg #[.slice q m.length d, .int .i64 h]] w fun e w' => e = .returned (.bool (betB l g m h)) ∧ Below w.heap.size w w' := by
  have HE := Lib.hid (below_alloc2 w (.cells #[.slice p l.length c, .int .i64 g] 106) (.cells #[.slice q m.length d, .int .i64 h] 106))
  have HC := Lib.hid (before_any p c l q d m hl hm _ (hI.below HE.out) (hJ.below HE.out))
  clear hI hJ
  by_cases e : g = h
  · subst e
    have HR := Lib.hid (show betB l g m g = befB l m by unfold betB; rw [if_pos rfl])
    have h2 : (g != g) = false := by simp
    go_enter Try.func107, Try.ntmps107
    go_wp2_with (first | (go_at_call 117; (refine HC.out.mono ?_); rintro e u ⟨rfl, rfl⟩))
    go_ret
    exact ⟨ret_bool (by rw [HR.out]), HE.out⟩
  · have HR := Lib.hid (show betB l g m h = decide (h < g) by unfold betB; rw [if_neg e])
    have h2 : (g != h) = true := by simp [e]
    go_enter Try.func107, Try.ntmps107
    go_wp2_with fail
    go_ret
    exact ⟨ret_bool (by rw [HR.out]), HE.out⟩
end Go.Proofs.Ytajkgfeockcbpaa
