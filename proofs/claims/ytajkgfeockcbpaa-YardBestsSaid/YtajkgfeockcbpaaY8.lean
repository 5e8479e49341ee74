/- The walks of layer 6: sums, sets of lots and their lists. -/
import Derived.Test.YtajkgfeockcbpaaY7
import Derived.Maps.AppendAt
namespace Go.Proofs.Ytajkgfeockcbpaa
open Go.RowKit Go.Maps
attribute [local go_sem] Oper.semAt_some

theorem at0_mem {l : List Int} {i : Nat} (h : i < l.length) : at0 l i ∈ l := by rw [at0_lt h]; exact List.getElem_mem _
theorem sum_take_range {l : List Int} {B : Int} (hB : 0 ≤ B) (h : ∀ x ∈ l, 0 ≤ x ∧ x ≤ B) : ∀ k, k ≤ l.length → 0 ≤ (l.take k).sum ∧ (l.take k).sum ≤ k * B
  | 0, _ => by simp
  | k + 1, hk => by
    have h1 := sum_take_range hB h k (by omega)
    have h2 := h _ (at0_mem (l := l) (i := k) (by omega))
    rw [take_snoc (by omega), List.sum_append]
    simp only [List.sum_cons, List.sum_nil]
    have : ((k + 1 : Nat) : Int) * B = k * B + B := by push_cast; rw [Int.add_mul]; omega
    rw [this]
    omega
theorem sum_take_succ {l : List Int} {k : Nat} (h : k < l.length) : (l.take (k + 1)).sum = (l.take k).sum + at0 l k := by
  rw [take_snoc h, List.sum_append]; simp
set_option maxRecDepth 10000 in
set_option maxHeartbeats 1600000 in
theorem sum_any (p : Option Addr) (c : Nat) (xs : List Int) (w : World) (h : IntsAt w p xs) (hn : xs.length ≤ 100) (hr : ∀ x ∈ xs, 0 ≤ x ∧ x ≤ 100000) :
    Calls Try.prog 126 #[.slice p xs.length c] w fun e w' => e = .returned (.int .i64 xs.sum) ∧ w = w' := by
  have H := Lib.hid h
  have HR := Lib.hid (sum_take_range (by decide : (0 : Int) ≤ 100000) hr)
  have HX := Lib.hid hr
  clear h hr
  go_enter Try.func126, Try.ntmps126
  go_wp2
  go_loop [3, 8] (fun a i => ∃ k : Nat, k ≤ xs.length ∧ i = .int .i64 k ∧ a = .int .i64 (xs.take k).sum) (fun _ i => xs.length - (intOf i).toNat)
  case atStart => exact ⟨0, by omega, rfl, rfl⟩
  case round =>
    obtain ⟨k, hk, rfl, rfl⟩ := hrel
    by_cases hlt : k < xs.length
    · obtain ⟨b, o, hp, hc⟩ := H.out k hlt
      subst hp
      have h1 := HR.out k hk
      have h2 := HX.out _ (at0_mem hlt)
      have HS := Lib.hid (sum_take_succ hlt)
      have h3 : (k : Int) * 100000 ≤ 10000000 := by omega
      have i1 : (0 : Int) ≤ (k : Int) := by omega
      have i2 : (k : Int) < (xs.length : Int) := by omega
      generalize (xs.take k).sum = s at *
      generalize at0 xs k = v at *
      go_wp2
      go_round
      case rel => exact ⟨k + 1, by omega, by go_num, by rw [HS.out]⟩
      case measure => simp [intOf]; omega
    · obtain rfl : k = xs.length := by omega
      go_wp2
      go_ret
      exact ⟨ret_int (by simp), rfl⟩
theorem ints_of_owns2 {w : World} {base e : Nat} {v : Value} {xs : List Int} (h : w.ownsRow base e 1 v xs.length (xs.map (Value.int .i64))) :
    ∃ p c, v = .slice p xs.length c ∧ IntsAt w p xs ∧ xs.length ≤ c ∧ c ≤ maxLen ∧ (∀ m o, p = some ⟨m, o, none⟩ → base ≤ m ∧ m < w.heap.size) ∧ (p = none → xs = []) ∧ (p = none ∨ ∃ g, p = some ⟨g, 0, none⟩) := by
  rcases h.2 with ⟨hv, h0⟩ | ⟨g, cap, cur, hv, hg, hh, h1, h2, h3, h4⟩
  · exact ⟨none, 0, by rw [hv, h0], fun i hi => by omega, by omega, by unfold maxLen; omega, fun _ _ h => (by cases h), fun _ => List.eq_nil_of_length_eq_zero h0, .inl rfl⟩
  · obtain ⟨p, c, e1, e2, e3, e4, e5⟩ := ints_of_owns h
    refine ⟨p, c, e1, e2, e3, e4, ?_⟩
    rw [hv] at e1
    cases e1
    refine ⟨fun m o h => ?_, fun h => (by cases h), .inr ⟨g, rfl⟩⟩
    cases h
    exact ⟨hg, (Array.getElem?_eq_some_iff.1 hh).1⟩
/-- The call returned a list of numbers in new memory, with no room behind it. -/
def GaveNew (l : List Int) (w : World) (e : Ending) (w' : World) : Prop :=
  ∃ p, e = .returned (.slice p l.length l.length) ∧ IntsAt w' p l ∧ (∀ m o, p = some ⟨m, o, none⟩ → w.heap.size ≤ m ∧ m < w'.heap.size) ∧ (p = none → l = []) ∧ Below w.heap.size w w'

/-- Which lots are chosen, in memory. -/
abbrev lotF (c : Nat → Bool) : Array Value := #[.bool (c 0), .bool (c 1), .bool (c 2), .bool (c 3), .bool (c 4), .bool (c 5), .bool (c 6)]
abbrev noneA : Array Value := #[.bool false, .bool false, .bool false, .bool false, .bool false, .bool false, .bool false]
theorem lotF_set (c : Nat → Bool) {k : Nat} (hk : k < 7) (v : Bool) : (lotF c).setIfInBounds k (.bool v) = lotF (fun i => if i = k then v else c i) := by
  obtain rfl | rfl | rfl | rfl | rfl | rfl | rfl : k = 0 ∨ k = 1 ∨ k = 2 ∨ k = 3 ∨ k = 4 ∨ k = 5 ∨ k = 6 := by omega
  all_goals simp [lotF]
theorem lotF_at (c : Nat → Bool) {k : Nat} (hk : k < 7) : (lotF c)[k]? = some (.bool (c k)) := by
  obtain rfl | rfl | rfl | rfl | rfl | rfl | rfl : k = 0 ∨ k = 1 ∨ k = 2 ∨ k = 3 ∨ k = 4 ∨ k = 5 ∨ k = 6 := by omega
  all_goals simp [lotF]
theorem lotF_congr {c e : Nat → Bool} (h : ∀ i, i < 7 → c i = e i) : lotF c = lotF e := by
  simp [lotF, h 0, h 1, h 2, h 3, h 4, h 5, h 6]
theorem lots_index (c : Nat → Bool) {k : Nat} (hk : k < 7) (w : World) : (Instr.index 99 (.agg (lotF c)) (.int .i64 (k : Int))).run Try.prog w = .ok (.bool (c k)) w := by
  obtain rfl | rfl | rfl | rfl | rfl | rfl | rfl : k = 0 ∨ k = 1 ∨ k = 2 ∨ k = 3 ∨ k = 4 ∨ k = 5 ∨ k = 6 := by omega
  all_goals simp [Instr.index, go_sem]
theorem intsN_append (l m : List Nat) : intsN (l ++ m) = intsN l ++ intsN m := by simp [intsN]
theorem intsN_length (l : List Nat) : (intsN l).length = l.length := by simp [intsN]
/-- Those of the first lots that are chosen. -/
def preL (c : Nat → Bool) (k : Nat) : List Nat := (List.range k).filter c
theorem preL_succ (c : Nat → Bool) (k : Nat) : preL c (k + 1) = if c k then preL c k ++ [k] else preL c k := by
  unfold preL
  rw [List.range_succ, List.filter_append]
  cases h : c k <;> simp [h]
theorem intsN_succ (c : Nat → Bool) (k : Nat) : intsN (preL c (k + 1)) = if c k then intsN (preL c k) ++ [(k : Int)] else intsN (preL c k) := by
  rw [preL_succ]
  split
  · rw [intsN_append]; rfl
  · rfl
theorem preL_le (c : Nat → Bool) (k : Nat) : (preL c k).length ≤ k := by
  have := List.length_filter_le c (List.range k)
  simpa [preL] using this
set_option maxRecDepth 10000 in
set_option maxHeartbeats 1600000 in
theorem list_any (c : Nat → Bool) (w : World) : Calls Try.prog 81 #[.agg (lotF c)] w (GaveNew (intsN (lotsL c)) w) := by
  obtain ⟨i0, hi, hi0, hi1, hi2⟩ := info_parts Try.infoInt
  obtain ⟨W0, hW0⟩ : ∃ W, W = w.alloc (.cells (lotF c) 99) := ⟨_, rfl⟩
  have HW0 := Lib.hid hW0
  have HE := Lib.hid (show Below w.heap.size w W0 by rw [hW0]; exact below_alloc _ _)
  have HR := Lib.hid (show Row W0 w.heap.size (lotF c) 99 by rw [hW0]; exact Row.new w _ _)
  have hz0 : W0.heap.size = w.heap.size + 1 := by rw [hW0]; simp
  clear hW0
  have c0 := HR.out.cell 0 (v := .bool (c 0)) rfl
  have c1 := HR.out.cell 1 (v := .bool (c 1)) rfl
  have c2 := HR.out.cell 2 (v := .bool (c 2)) rfl
  have c3 := HR.out.cell 3 (v := .bool (c 3)) rfl
  have c4 := HR.out.cell 4 (v := .bool (c 4)) rfl
  have c5 := HR.out.cell 5 (v := .bool (c 5)) rfl
  have c6 := HR.out.cell 6 (v := .bool (c 6)) rfl
  go_enter Try.func81, Try.ntmps81
  go_wp2_with fail
  rw [← HW0.out]
  clear c0 c1 c2 c3 c4 c5 c6
  go_loopw [3, 7] (fun ls ix wr => ∃ k : Nat, k ≤ 7 ∧ ix = .int .i64 k ∧ wr.ownsRow W0.heap.size 3 1 ls (intsN (preL c k)).length ((intsN (preL c k)).map (Value.int .i64)) ∧ ∃ x : Later W0, wr = x.w) (fun _ ix _ => 7 - (intOf ix).toNat)
  case atStart => exact ⟨0, by omega, rfl, World.ownsRow_nil _ _ _ _, ⟨W0, Below.refl _ _⟩, rfl⟩
  case round =>
    obtain ⟨k, hk, rfl, hown, x, rfl⟩ := hrel
    have HO := Lib.hid hown
    clear hown
    by_cases hlt : k < 7
    · have HS := Lib.hid (intsN_succ c k)
      have hpl : (intsN (preL c k)).length ≤ 7 := by rw [intsN_length]; have := preL_le c k; omega
      have HI := Lib.hid (fun w' => lots_index c hlt w')
      have i1 : (0 : Int) ≤ (k : Int) := by omega
      have i2 : (k : Int) < 7 := by omega
      obtain ⟨d, hd⟩ : ∃ d, c k = d := ⟨_, rfl⟩
      rw [hd] at HI HS
      generalize intsN (preL c k) = pk at *
      cases d
      · rw [if_neg (by decide)] at HS
        go_wp2_with (first | (refine index_op rfl 99 _ _ rfl (lotF c) _ rfl rfl _ (HI.out _) ?_))
        go_roundw
        case rel => exact ⟨k + 1, by omega, by go_num, by rw [HS.out]; exact HO.out, x, rfl⟩
        case measure => simp [intOf]; omega
      · rw [if_pos rfl] at HS
        have hz2 := x.b.size
        have HO3 := Lib.hid HO.out
        go_wp2_with (first
          | (refine index_op rfl 99 _ _ rfl (lotF c) _ rfl rfl _ (HI.out _) ?_)
          | (at_builtin; (refine wpList_append_own _ rfl _ _ 27 rfl W0.heap.size 3 i0 (.int .i64 0) 1 8 Try.underlying27 hi hi0 hi1 hi2 rfl (by decide) _ _ _ rfl (HO.out.alloc _) ⟨x.w.heap.size, 0, none⟩ 1 1 [.int .i64 (k : Int)] rfl rfl (cell_one_new _ _ _) (by simp [Value.oneCell']) (by unfold maxLen; omega) (by omega) (by simp; omega) ?_); intro v' w2 hown' hgrow _; have HO := Lib.hid hown'; have hg2 : Below W0.heap.size x.w w2 := ((Below.refl _ _).alloc (by omega) _).grown hgrow (by simp; omega) (fun k hk => (HO3.out.lt k hk).1); obtain ⟨z, hz⟩ := later_of (x.b.trans hg2); clear hg2 hown' hgrow))
        subst hz
        go_roundw
        case rel => exact ⟨k + 1, by omega, by go_num, by rw [HS.out]; simpa using HO.out, z, rfl⟩
        case measure => simp [intOf]; omega
    · obtain rfl : k = 7 := by omega
      obtain ⟨p', c', rfl, hints, hle, hcm, hp, hpn, hp3⟩ := ints_of_owns2 HO.out
      have HT := Lib.hid (show preL c 7 = lotsL c from rfl)
      rw [HT.out] at hints hle hpn ⊢
      have hl7 := lotsL_le c
      rw [← intsN_length] at hl7
      have HIN := Lib.hid hints
      have HP := Lib.hid hp
      have HPN := Lib.hid hpn
      have HEX := Lib.hid (x.base HE.out)
      have hzx := x.b.size
      clear hints hp hpn
      generalize intsN (lotsL c) = L at *
      have i1 : (L.length : Int) ≤ (c' : Int) := by omega
      have i3 : (0 : Int) ≤ (L.length : Int) := by omega
      rcases hp3 with rfl | ⟨g, rfl⟩
      · go_wp2
        go_ret
        exact ⟨none, by simp, HIN.out, fun m o h => (by cases h), fun _ => HPN.out (by trivial), HEX.out⟩
      · go_wp2
        go_ret
        exact ⟨some ⟨g, 0, none⟩, by simp, HIN.out, fun m o h => ⟨by have := (HP.out m o h).1; omega, (HP.out m o h).2⟩, fun h => (by cases h), HEX.out⟩
end Go.Proofs.Ytajkgfeockcbpaa
