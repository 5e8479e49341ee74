/- The walks of the shared package that the laws of layer 6 want. -/
import Derived.Test.YtajkgfeockcbpaaYWA
import Derived.Test.YtajkgfeockcbpaaY27
import Derived.Test.YtajkgfeockcbpaaKMC
import Derived.Laws.AppendOwn
namespace Go.Proofs.Ytajkgfeockcbpaa
open Go.RowKit Go.Maps
attribute [local go_sem] Oper.semAt_some

set_option maxRecDepth 10000 in
theorem In8_any (s i : Nat) (w : World) (_hs : s < 256) (hi : i < 8) :
    Calls Try.prog 85 #[.int .i64 s, .int .i64 i] w fun e w' => e = .returned (.bool (inS s i)) ∧ w = w' := by
  go_enter Try.func85, Try.ntmps85
  go_wp2_with fail
  go_ret
  exact ⟨rfl, rfl⟩
theorem owns_slice {w : World} {base e size n : Nat} {v : Value} {xs : List Value} (h : w.ownsRow base e size v n xs) : ∃ p c, v = .slice p n c := by
  rcases h.2 with ⟨hv, h0⟩ | ⟨g, cap, cur, hv, r⟩
  · exact ⟨none, 0, by rw [hv, h0]⟩
  · exact ⟨_, cap, hv⟩
set_option maxRecDepth 10000 in
set_option maxHeartbeats 1600000 in
theorem Marks_any (s n : Nat) (w : World) (hs : s < 256) (hn : n ≤ 8) :
    Calls Try.prog 49 #[.int .i64 (s : Int), .int .i64 (n : Int)] w fun e w' => ∃ q cq, e = .returned (.slice q (marksL s n).length cq) ∧ IntsAt w' q (marksL s n) ∧ Below w.heap.size w w' := by
  obtain ⟨i0, hi, hi0, hi1, hi2⟩ := info_parts Try.infoInt
  obtain ⟨z0, hz0⟩ : ∃ z : Later w, w = z.w := ⟨⟨w, Below.refl _ _⟩, rfl⟩
  have HZ0 := Lib.hid hz0
  clear hz0
  go_enter Try.func49, Try.ntmps49
  go_wp2_with fail
  go_loopw [5, 6] (fun ls i wr => ∃ (k : Nat) (x : Later w), k ≤ n ∧ i = .int .i64 (k : Int) ∧ wr.ownsRow w.heap.size 3 1 ls (marksL s k).length ((marksL s k).map (Value.int .i64)) ∧ wr = x.w) (fun _ i _ => n - (intOf i).toNat)
  case atStart => exact ⟨0, ⟨w, Below.refl _ _⟩, by omega, rfl, World.ownsRow_nil _ _ _ _, rfl⟩
  case round =>
    obtain ⟨k, x, hk, rfl, hown, rfl⟩ := hrel
    obtain ⟨pl, cl, rfl⟩ := owns_slice hown
    have HO2 := Lib.hid hown
    clear hown
    have hzx := x.b.size
    by_cases hlt : k < n
    · have HIN := Lib.hid (fun w' => In8_any s k w' hs (by omega))
      have hml : (marksL s k).length ≤ 8 := by have := marksL_length s k; omega
      have HS := Lib.hid (show marksL s (k + 1) = if inS s k then marksL s k ++ [(k : Int)] else marksL s k from marksL_succ s k)
      have i2 : (k : Int) < (n : Int) := by omega
      cases hin : inS s k
      · rw [hin] at HIN HS
        clear hin
        go_wp2_with fail
        refine (HIN.out _).mono ?_
        rintro e u ⟨rfl, hu⟩
        subst hu
        go_wp2_with fail
        go_roundw
        case rel => exact ⟨k + 1, x, by omega, by go_num, by rw [HS.out]; exact HO2.out, rfl⟩
        case measure => simp [intOf]; omega
      · rw [hin] at HIN HS
        clear hin
        go_wp2_with fail
        refine (HIN.out _).mono ?_
        rintro e u ⟨rfl, hu⟩
        subst hu
        go_wp2_with (first
          | (at_builtin; (refine wpList_append_own _ rfl _ _ 27 rfl w.heap.size 3 i0 (.int .i64 0) 1 8 Try.underlying27 hi hi0 hi1 hi2 rfl (by decide) _ _ _ rfl (HO2.out.alloc _) ⟨x.w.heap.size, 0, none⟩ 1 1 [.int .i64 (k : Int)] rfl rfl (cell_one_new _ _ _) (by simp [Value.oneCell']) (by unfold maxLen; omega) (by omega) (by simp; omega) ?_); intro v' w2 hown' hgrow _; have HO3 := Lib.hid hown'; have hg2 : Below w.heap.size x.w w2 := ((Below.refl _ _).alloc (by omega) _).grown hgrow (by simp; omega) (fun k hk => (HO2.out.lt k hk).1); obtain ⟨x3, hx3⟩ := later_of (x.b.trans hg2); clear hg2 hown' hgrow))
        subst hx3
        go_roundw
        case rel => exact ⟨k + 1, x3, by omega, by go_num, by rw [HS.out]; simpa using HO3.out, rfl⟩
        case measure => simp [intOf]; omega
    · obtain rfl : k = n := by omega
      obtain ⟨p', c', hv, hints, _⟩ := ints_of_owns2 HO2.out
      cases hv
      have HIN := Lib.hid hints
      clear hints
      go_wp2_with fail
      go_ret
      exact ⟨_, _, rfl, HIN.out, x.b⟩
/-- Where a number stands first in a list. -/
def idxN (l : List Int) (x : Int) : Int := match (List.range l.length).find? (fun i => decide (x = at0 l i)) with
  | some i => (i : Int)
  | none => -1
theorem find_first {n k : Nat} {f : Nat → Bool} (hk : k < n) (hf : f k = true) (h : ∀ i, i < k → f i = false) : (List.range n).find? f = some k := by
  rw [List.find?_range_eq_some]
  exact ⟨hf, by simpa using hk, fun j hj => by simp [h j hj]⟩
theorem find_none {n : Nat} {f : Nat → Bool} (h : ∀ i, i < n → f i = false) : (List.range n).find? f = none := by
  rw [List.find?_range_eq_none]
  exact fun i hi => by simp [h i hi]
theorem idx_some {l : List Int} {x : Int} {k : Nat} (hk : k < l.length) (hx : x = at0 l k) (h : ∀ i, i < k → x ≠ at0 l i) : idxN l x = k := by
  unfold idxN
  rw [find_first hk (by simpa using hx) (fun i hi => by simpa using h i hi)]
theorem idx_none {l : List Int} {x : Int} (h : ∀ i, i < l.length → x ≠ at0 l i) : idxN l x = -1 := by
  unfold idxN
  rw [find_none (fun i hi => by simpa using h i hi)]

set_option maxRecDepth 10000 in
set_option maxHeartbeats 1600000 in
theorem Index_any (p : Option Addr) (c : Nat) (l : List Int) (x : Int) (hn : l.length ≤ 1000) (w : World) (hI : IntsAt w p l) :
    Calls Try.prog 48 #[.slice p l.length c, .int .i64 x] w fun e w' => e = .returned (.int .i64 (idxN l x)) ∧ w' = w := by
  have HI := Lib.hid hI
  clear hI
  go_enter Try.func48, Try.ntmps48
  go_wp2
  go_loopw [5] (fun i wr => wr = w ∧ ∃ k : Nat, k ≤ l.length ∧ i = .int .i64 k ∧ Hid (∀ i, i < k → x ≠ at0 l i)) (fun i _ => l.length - (intOf i).toNat)
  case atStart => exact ⟨rfl, 0, by omega, rfl, Lib.hid (by intro i hi; omega)⟩
  case round =>
    obtain ⟨rfl, k, hk, rfl, HN⟩ := hrel
    by_cases hlt : k < l.length
    · obtain ⟨g, o, rfl, hc⟩ := HI.out k hlt
      have i1 : (0 : Int) ≤ (k : Int) := by omega
      have i2 : (k : Int) < (l.length : Int) := by omega
      by_cases hx : x = at0 l k
      · have HX := Lib.hid hx
        have HV := Lib.hid (idx_some hlt hx HN.out)
        have hx2 : (at0 l k == x) = true := by simp [hx]
        clear hx
        go_wp2
        go_ret
        exact ⟨ret_int HV.out.symm, rfl⟩
      · have HX := Lib.hid hx
        have hx2 : (at0 l k == x) = false := by simp; exact fun h => hx h.symm
        clear hx
        go_wp2
        go_roundw
        case rel => exact ⟨trivial, k + 1, by omega, by go_num, Lib.hid fun j hj => by
          by_cases e : j = k
          · subst e; exact HX.out
          · exact HN.out j (by omega)⟩
        case measure => simp [intOf]; omega
    · obtain rfl : k = l.length := by omega
      have HV := Lib.hid (idx_none HN.out)
      go_wp2
      go_ret
      exact ⟨ret_int HV.out.symm, rfl⟩
theorem idx_range (l : List Int) (x : Int) : -1 ≤ idxN l x := by
  unfold idxN
  split <;> omega
theorem idx_mem {l : List Int} {x : Int} : 0 ≤ idxN l x ↔ x ∈ l := by
  constructor
  · intro h
    unfold idxN at h
    split at h
    · rename_i i e
      have := List.find?_range_eq_some.1 e
      have h1 := this.1
      have h2 := List.mem_range.1 this.2.1
      simp only [decide_eq_true_eq] at h1
      rw [h1]; exact at0_mem h2
    · omega
  · intro h
    by_cases e : 0 ≤ idxN l x
    · exact e
    · exfalso
      have e2 : idxN l x = -1 := by have := idx_range l x; omega
      unfold idxN at e2
      split at e2
      · omega
      · rename_i e3
        obtain ⟨i, hi, rfl⟩ := List.mem_iff_getElem.1 h
        have := List.find?_range_eq_none.1 e3 i hi
        simp [at0_lt hi] at this
/-- A list that grows, of numbers from 0 to below a number. -/
def Grown (l : List Int) (n : Int) : Prop := (∀ i, i < l.length → 0 ≤ at0 l i ∧ at0 l i ≤ n - 1) ∧ ∀ i, i + 1 < l.length → at0 l i < at0 l (i + 1)
theorem grown_lots {f : Nat → Bool} {n : Nat} (hf : ∀ i, f i = true → i < n) : Grown (intsN (lotsL f)) n := by
  refine ⟨fun i hi => ?_, fun i hi => ?_⟩
  · have hi' : i < (lotsL f).length := by simpa [intsN] using hi
    rw [intsN_get hi']
    have := hf _ (lotsL_mem.1 (List.getElem_mem hi')).2
    omega
  · have hi' : i + 1 < (lotsL f).length := by simpa [intsN] using hi
    rw [intsN_get hi', intsN_get (i := i) (by omega)]
    have := List.pairwise_iff_getElem.1 (lotsL_sorted f) i (i + 1) (by omega) hi' (by omega)
    omega
set_option maxRecDepth 10000 in
set_option maxHeartbeats 1600000 in
theorem Grows_any (p : Option Addr) (c : Nat) (l : List Int) (n : Nat) (hn : l.length ≤ 1000) (h1 : n ≤ 1000) (w : World) (hI : IntsAt w p l) (hG : Grown l n) :
    Calls Try.prog 38 #[.slice p l.length c, .int .i64 n] w fun e w' => e = .returned (.bool true) ∧ Below w.heap.size w w' := by
  have HI := Lib.hid hI
  have HG := Lib.hid hG
  clear hI hG
  go_enter Try.func38, Try.ntmps38
  go_wp2
  go_loopw [5] (fun i wr => ∃ k : Nat, k ≤ l.length ∧ i = .int .i64 k ∧ IntsAt wr p l ∧ Below w.heap.size w wr) (fun i _ => l.length - (intOf i).toNat)
  case atStart => exact ⟨0, by omega, rfl, HI.out, Below.refl _ _⟩
  case round =>
    clear HI
    obtain ⟨k, hk, rfl, hi, hb⟩ := hrel
    have HI := Lib.hid hi
    have HB := Lib.hid hb
    clear hi hb
    by_cases hlt : k < l.length
    · obtain ⟨g, o, rfl, hc⟩ := HI.out k hlt
      have i1 : (0 : Int) ≤ (k : Int) := by omega
      have i2 : (k : Int) < (l.length : Int) := by omega
      have hg := HG.out.1 k hlt
      have HF := Lib.hid (fits_yes hg.1 hg.2)
      have e1 : IntKind.i64.wrap ((n : Int) - 1) = (n : Int) - 1 := IntWalk.i64_in _ (by omega)
      by_cases h0 : k = 0
      · subst h0
        rw [Nat.add_zero] at hc
        go_wp2
        go_quiet ((go_at_call 43; exact quiet_eq (Fits_yes _ _ _ _ hg.1 hg.2)))
        go_wp2
        go_roundw
        case rel => exact ⟨1, by omega, by go_num, HI.out, below_drewN HB.out _⟩
        case measure => simp [intOf]; omega
      · have hg2 := HG.out.2 (k - 1) (by omega)
        rw [show k - 1 + 1 = k by omega] at hg2
        obtain ⟨g', o', e', hc'⟩ := HI.out (k - 1) (by omega)
        cases e'
        have i3 : 0 < k := by omega
        have i4 : (0 : Int) ≤ (k : Int) - 1 := by omega
        have i5 : (k : Int) - 1 < (l.length : Int) := by omega
        have e2 : IntKind.i64.wrap ((k : Int) - 1) = (k : Int) - 1 := IntWalk.i64_in _ (by omega)
        have e6 : ((k : Int) - 1).toNat = k - 1 := by omega
        have e7 : decide (at0 l k ≤ at0 l (k - 1)) = false := by simp; omega
        go_wp2
        go_quiet ((go_at_call 43; exact quiet_eq (Fits_yes _ _ _ _ hg.1 hg.2)))
        go_wp2
        go_roundw
        case rel => exact ⟨k + 1, by omega, by go_num, HI.out, below_drewN HB.out _⟩
        case measure => simp [intOf]; omega
    · obtain rfl : k = l.length := by omega
      go_wp2
      go_ret
      exact ⟨rfl, HB.out⟩
/-- Does a span have no number? -/
theorem Void_any (a b : Int) (w : World) :
    Calls Try.prog 39 #[.agg #[.int .i64 a, .int .i64 b]] w fun e w' => e = .returned (.bool (decide (b < a))) ∧ Below w.heap.size w w' := by
  go_enter Try.func39, Try.ntmps39
  go_wp2_with fail
  go_ret
  exact ⟨rfl, below_alloc _ _⟩
end Go.Proofs.Ytajkgfeockcbpaa
