/- The walks of the shared package that the laws of layer 5 want: where a number stands in a list; does a list grow? The boxes that are by hand. -/
import Derived.Test.YticfcdbfplfmlaaGreatFDX
import Derived.Test.YticfcdbfplfmlaaGreatF33
namespace Go.Proofs.YticfcdbfplfmlaaGreat
open Go.RowKit Go.Maps
attribute [local go_sem] Oper.semAt_some

theorem fits_yes {n lo hi : Int} (h : lo ≤ n ∧ n ≤ hi) : fits n lo hi = true := by simp [fits, h.1, h.2]
set_option maxRecDepth 10000 in
set_option maxHeartbeats 1600000 in
theorem Index_any (p : Option Addr) (c : Nat) (l : List Int) (x : Int) (hn : l.length ≤ 1000) (w : World) (hI : IntsAt w p l) :
    Calls Tryz.prog 42 #[.slice p l.length c, .int .i64 x] w fun e w' => e = .returned (.int .i64 (idxN l x)) ∧ w' = w := by
  have HI := Lib.hid hI
  clear hI
  go_enter Tryz.func42, Tryz.ntmps42
  go_wp2
  go_loopw [5] (fun i wr => wr = w ∧ ∃ k : Nat, k ≤ l.length ∧ i = .int .i64 k ∧ Hid (∀ i, i < k → x ≠ at0 l i)) (fun i _ => l.length - (intOf i).toNat)
  case atStart => exact ⟨rfl, 0, by omega, rfl, Lib.hid (by intro i hi; omega)⟩
  case round =>
    obtain ⟨rfl, k, hk, rfl, HN⟩ := hrel
    by_cases hlt : k < l.length
    · obtain ⟨g, o, rfl, hc⟩ := HI.out k hlt
      have i1 : (0 : Int) ≤ (k : Int) := by omega
      have i2 : (k : Int) < (l.length : Int) := by omega
      by_cases hx : x = at0 l k
      · have HX := Lib.hid hx
        have HV := Lib.hid (idx_some hlt hx HN.out)
        have hx2 : (at0 l k == x) = true := by simp [hx]
        clear hx
        go_wp2
        go_ret
        exact ⟨ret_int HV.out.symm, rfl⟩
      · have HX := Lib.hid hx
        have hx2 : (at0 l k == x) = false := by simp; exact fun h => hx h.symm
        clear hx
        go_wp2
        go_roundw
        case rel => exact ⟨trivial, k + 1, by omega, by go_num, Lib.hid fun j hj => by
          by_cases e : j = k
          · subst e; exact HX.out
          · exact HN.out j (by omega)⟩
        case measure => simp [intOf]; omega
    · obtain rfl : k = l.length := by omega
      have HV := Lib.hid (idx_none HN.out)
      go_wp2
      go_ret
      exact ⟨ret_int HV.out.symm, rfl⟩
theorem idx_range (l : List Int) (x : Int) : -1 ≤ idxN l x := by
  unfold idxN
  split <;> omega
theorem idx_mem {l : List Int} {x : Int} : 0 ≤ idxN l x ↔ x ∈ l := by
  constructor
  · intro h
    unfold idxN at h
    split at h
    · rename_i i e
      have := List.find?_range_eq_some.1 e
      have h1 := this.1
      have h2 := List.mem_range.1 this.2.1
      simp only [decide_eq_true_eq] at h1
      rw [h1]; exact at0_mem h2
    · omega
  · intro h
    by_cases e : 0 ≤ idxN l x
    · exact e
    · exfalso
      have e2 : idxN l x = -1 := by have := idx_range l x; omega
      unfold idxN at e2
      split at e2
      · omega
      · rename_i e3
        obtain ⟨i, hi, rfl⟩ := List.mem_iff_getElem.1 h
        have := List.find?_range_eq_none.1 e3 i hi
        simp [at0_lt hi] at this
/-- A list that grows, of numbers from 0 to below a number. -/
def Grown (l : List Int) (n : Int) : Prop := (∀ i, i < l.length → 0 ≤ at0 l i ∧ at0 l i ≤ n - 1) ∧ ∀ i, i + 1 < l.length → at0 l i < at0 l (i + 1)
set_option maxRecDepth 10000 in
set_option maxHeartbeats 1600000 in
theorem Grows_any (p : Option Addr) (c : Nat) (l : List Int) (n : Nat) (hn : l.length ≤ 1000) (h1 : n ≤ 1000) (w : World) (hI : IntsAt w p l) (hG : Grown l n) :
    Calls Tryz.prog 40 #[.slice p l.length c, .int .i64 n] w fun e w' => e = .returned (.bool true) ∧ Below w.heap.size w w' := by
  have HI := Lib.hid hI
  have HG := Lib.hid hG
  clear hI hG
  go_enter Tryz.func40, Tryz.ntmps40
  go_wp2
  go_loopw [5] (fun i wr => ∃ k : Nat, k ≤ l.length ∧ i = .int .i64 k ∧ IntsAt wr p l ∧ Below w.heap.size w wr) (fun i _ => l.length - (intOf i).toNat)
  case atStart => exact ⟨0, by omega, rfl, HI.out, Below.refl _ _⟩
  case round =>
    clear HI
    obtain ⟨k, hk, rfl, hi, hb⟩ := hrel
    have HI := Lib.hid hi
    have HB := Lib.hid hb
    clear hi hb
    by_cases hlt : k < l.length
    · obtain ⟨g, o, rfl, hc⟩ := HI.out k hlt
      have i1 : (0 : Int) ≤ (k : Int) := by omega
      have i2 : (k : Int) < (l.length : Int) := by omega
      have hg := HG.out.1 k hlt
      have HF := Lib.hid (fits_yes hg)
      have e1 : IntKind.i64.wrap ((n : Int) - 1) = (n : Int) - 1 := IntWalk.i64_in _ (by omega)
      by_cases h0 : k = 0
      · subst h0
        rw [Nat.add_zero] at hc
        go_wp2
        go_quiet ((go_at_call 6; exact quiet_eq (Fits_yes _ _ _ _ hg.1 hg.2)))
        go_wp2
        go_roundw
        case rel => exact ⟨1, by omega, by go_num, HI.out, below_drewN HB.out _⟩
        case measure => simp [intOf]; omega
      · have hg2 := HG.out.2 (k - 1) (by omega)
        rw [show k - 1 + 1 = k by omega] at hg2
        obtain ⟨g', o', e', hc'⟩ := HI.out (k - 1) (by omega)
        cases e'
        have i3 : 0 < k := by omega
        have i4 : (0 : Int) ≤ (k : Int) - 1 := by omega
        have i5 : (k : Int) - 1 < (l.length : Int) := by omega
        have e2 : IntKind.i64.wrap ((k : Int) - 1) = (k : Int) - 1 := IntWalk.i64_in _ (by omega)
        have e6 : ((k : Int) - 1).toNat = k - 1 := by omega
        have e7 : decide (at0 l k ≤ at0 l (k - 1)) = false := by simp; omega
        go_wp2
        go_quiet ((go_at_call 6; exact quiet_eq (Fits_yes _ _ _ _ hg.1 hg.2)))
        go_wp2
        go_roundw
        case rel => exact ⟨k + 1, by omega, by go_num, HI.out, below_drewN HB.out _⟩
        case measure => simp [intOf]; omega
    · obtain rfl : k = l.length := by omega
      go_wp2
      go_ret
      exact ⟨rfl, HB.out⟩
theorem hand_mem {b : Bf} {l : List Int} {k : Nat} : ∀ {n : Nat}, ((k : Int) ∈ handTo b l n ↔ k < n ∧ rightI b l k = false) := by
  intro n
  unfold handTo
  rw [List.mem_map]
  constructor
  · rintro ⟨i, hi, e⟩
    have h1 := List.mem_filter.1 hi
    have h2 := List.mem_range.1 h1.1
    obtain rfl : i = k := by omega
    exact ⟨h2, by simpa using h1.2⟩
  · rintro ⟨h1, h2⟩
    exact ⟨k, List.mem_filter.2 ⟨List.mem_range.2 h1, by simp [h2]⟩, rfl⟩
/-- A box is right just if it is not in the list of those by hand. -/
theorem hand_index {b : Bf} {l : List Int} {k : Nat} (hk : k < l.length) : decide (idxN (handL b l) k < 0) = rightI b l k := by
  have h1 := idx_mem (l := handL b l) (x := (k : Int))
  have h2 := hand_mem (b := b) (l := l) (k := k) (n := l.length)
  cases h : rightI b l k
  · have h3 := h1.2 (h2.2 ⟨hk, h⟩)
    simp; omega
  · have h3 : ¬ 0 ≤ idxN (handL b l) k := fun h4 => by
      have := (h2.1 (h1.1 h4)).2
      rw [h] at this
      cases this
    simp; omega
theorem grown_hand (b : Bf) (l : List Int) (n : Nat) : Grown (handTo b l n) n := by
  induction n with
  | zero => exact ⟨fun i hi => by simp [handTo] at hi, fun i hi => by simp [handTo] at hi⟩
  | succ n ih =>
    rw [handTo_succ]
    split
    · exact ⟨fun i hi => by have := ih.1 i hi; push_cast; omega, ih.2⟩
    · refine ⟨fun i hi => ?_, fun i hi => ?_⟩
      · rw [List.length_append] at hi
        by_cases e : i < (handTo b l n).length
        · have := ih.1 i e
          rw [at0_lt (l := handTo b l n ++ [(n : Int)]) (i := i) (by simp; omega), List.getElem_append_left e, ← at0_lt e]
          push_cast; omega
        · have e2 : i = (handTo b l n).length := by simp at hi; omega
          subst e2
          rw [at0_lt (l := handTo b l n ++ [(n : Int)]) (by simp)]
          simp
      · rw [List.length_append] at hi
        have e1 : i < (handTo b l n).length := by simp at hi; omega
        rw [at0_lt (l := handTo b l n ++ [(n : Int)]) (i := i) (by simp; omega), List.getElem_append_left e1, ← at0_lt e1]
        by_cases e : i + 1 < (handTo b l n).length
        · rw [at0_lt (l := handTo b l n ++ [(n : Int)]) (i := i + 1) (by simp; omega), List.getElem_append_left e, ← at0_lt e]
          exact ih.2 i e
        · have e2 : i + 1 = (handTo b l n).length := by simp at hi; omega
          have := ih.1 i e1
          rw [at0_lt (l := handTo b l n ++ [(n : Int)]) (i := i + 1) (by simp; omega), List.getElem_append_right (by omega)]
          simp
          omega
end Go.Proofs.YticfcdbfplfmlaaGreat
