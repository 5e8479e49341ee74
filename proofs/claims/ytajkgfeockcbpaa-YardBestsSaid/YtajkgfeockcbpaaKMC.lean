/- Plain words that all walks share: readings of slices, 'Below' as facts on cells, numbers of the kind int. -/
import Derived.Test.YtajkgfeockcbpaaRows
import Derived.WalkKit
import Derived.WalkSpells
import Derived.WalkLawsBesides
import Derived.Deep.QuietTactic
import Derived.BigQuiet
import Derived.Lib.Hide
import Derived.Deep.WholeRow
import Derived.Laws.CopyOwn
import Derived.Maps.AppendAt
import Derived.Deep.OwnRows
import Derived.Deep.RegionHeld3
import Derived.Deep.DeepCutAuto
import Derived.Deep.CutRange
namespace Go.Proofs.Ytajkgfeockcbpaa
open Go.RowKit

theorem ret_int {k : IntKind} {a b : Int} (h : a = b) : Ending.returned (.int k a) = .returned (.int k b) := by rw [h]
theorem ret_bool {a b : Bool} (h : a = b) : Ending.returned (.bool a) = .returned (.bool b) := by rw [h]

theorem bcell {B : Nat} {W w1 : World} (hb : Below B W w1) : (∀ b o, b < B → w1.cell? ⟨b, o, none⟩ = W.cell? ⟨b, o, none⟩) ∧ (∀ b o, b < B → w1.frozen? ⟨b, o, none⟩ = W.frozen? ⟨b, o, none⟩) :=
  ⟨fun b o h => hb.cell (p := ⟨b, o, none⟩) h, fun b o h => hb.frozen (p := ⟨b, o, none⟩) h⟩

/-- The number at a place of a list, 0 behind its end. -/
def at0 (l : List Int) (i : Nat) : Int := l.getD i 0
theorem at0_lt {l : List Int} {i : Nat} (h : i < l.length) : at0 l i = l[i] := by simp [at0, h]
/-- A number of the kind int. -/
def I64 (n : Int) : Prop := -9223372036854775808 ≤ n ∧ n ≤ 9223372036854775807

/-- The cells behind a slice read as ints. -/
def IntsAt (w : World) (p : Option Addr) (xs : List Int) : Prop :=
  ∀ i, i < xs.length → ∃ b o, p = some ⟨b, o, none⟩ ∧ w.cell? ⟨b, o + i, none⟩ = some (.int .i64 (at0 xs i))

theorem cell_block {w : World} {a : Addr} {v : Value} (h : w.cell? a = some v) : a.block < w.heap.size := by
  unfold World.cell? at h
  rcases Nat.lt_or_ge a.block w.heap.size with h' | h'
  · exact h'
  · rw [Array.getElem?_eq_none h'] at h; simp at h

theorem IntsAt.below {w w' : World} {p : Option Addr} {xs : List Int} (h : IntsAt w p xs) (hb : Below w.heap.size w w') : IntsAt w' p xs := by
  intro i hi
  obtain ⟨b, o, hp, hc⟩ := h i hi
  exact ⟨b, o, hp, by rw [(bcell hb).1 b _ (by have := cell_block hc; exact this)]; exact hc⟩

theorem below_alloc (w : World) (o : Obj) : Below w.heap.size w (w.alloc o) := (Below.refl _ _).alloc (Nat.le_refl _) _

theorem below_drewN {B : Nat} {w w' : World} (h : Below B w w') (n : Nat) : Below B w (w'.drewN n) := ⟨h.os, h.tape, h.output, h.size, h.block⟩

/-- A callee that leaves the world alone, within a region that only reads. -/
theorem quiet_eq {P : Program} {f : FuncId} {args : Array Value} {w : World} {n : Nat} {v : Value}
    (h : Calls P f args (w.drewN n) fun e w' => e = .returned v ∧ w.drewN n = w') : Calls P f args (w.drewN n) fun e w'' => e = .returned v ∧ ∃ m, w'' = w.drewN m :=
  h.mono fun _ _ ⟨he, hm⟩ => ⟨he, n, hm.symm⟩

def fits (n lo hi : Int) : Bool := decide (lo ≤ n) && decide (n ≤ hi)

def total (l : List Int) : Int := l.foldl (fun a x => wrap64 (a + x)) 0

theorem take_snoc {l : List Int} {k : Nat} (h : k < l.length) : l.take (k + 1) = l.take k ++ [at0 l k] := by
  rw [List.take_succ_eq_append_getElem h, at0_lt h]

theorem total_take (l : List Int) (k : Nat) (h : k < l.length) : total (l.take (k+1)) = wrap64 (total (l.take k) + at0 l k) := by
  rw [List.take_succ_eq_append_getElem h, at0_lt h]
  simp only [total, List.foldl_append, List.foldl_cons, List.foldl_nil]

def spin (n many : Int) : Int := if many < 1 then 0 else n % many
def item (l : List Int) (n : Int) : Int := if l.length = 0 then 0 else at0 l (spin n l.length).toNat
def drawn (lo hi n : Int) : Int := wrap64 (lo + spin n (wrap64 (wrap64 (hi - lo) + 1)))

/-- Does a list come before another one? -/
def earlier : List Int → List Int → Bool
  | [], [] => false
  | [], _ :: _ => true
  | _ :: _, [] => false
  | a :: l, b :: m => if a = b then earlier l m else decide (a < b)

theorem earlier_pre : ∀ (k : Nat) (a b : List Int), k ≤ a.length → k ≤ b.length → a.take k = b.take k → earlier a b = earlier (a.drop k) (b.drop k)
  | 0, _, _, _, _, _ => rfl
  | k + 1, [], _, h, _, _ => by simp at h
  | k + 1, _ :: _, [], _, h, _ => by simp at h
  | k + 1, x :: a, y :: b, h1, h2, h3 => by
    simp at h1 h2 h3
    obtain ⟨rfl, h3⟩ := h3
    simp only [earlier, if_pos, List.drop_succ_cons]
    exact earlier_pre k a b h1 h2 h3
theorem earlier_ne {k : Nat} {a b : List Int} (h1 : k < a.length) (h2 : k < b.length) (h3 : a.take k = b.take k) (h : at0 a k ≠ at0 b k) : earlier a b = decide (at0 a k < at0 b k) := by
  rw [earlier_pre k a b (by omega) (by omega) h3, List.drop_eq_getElem_cons h1, List.drop_eq_getElem_cons h2]
  rw [at0_lt h1, at0_lt h2] at *
  simp [earlier, h]
theorem earlier_end {k : Nat} {a b : List Int} (h1 : k ≤ a.length) (h2 : k ≤ b.length) (h3 : a.take k = b.take k) (h : k = a.length ∨ k = b.length) : earlier a b = decide (a.length < b.length) := by
  rw [earlier_pre k a b h1 h2 h3]
  have e1 : (a.drop k).length = a.length - k := List.length_drop
  have e2 : (b.drop k).length = b.length - k := List.length_drop
  generalize a.drop k = u at *
  generalize b.drop k = v at *
  cases u <;> cases v <;> simp [earlier] at * <;> omega

theorem tmod_fix (n m : Int) (hm : 0 < m) : (if n.tmod m < 0 then n.tmod m + m else n.tmod m) = n % m := by
  have h1 := Int.emod_nonneg n (by omega : m ≠ 0)
  have h2 := Int.emod_lt_of_pos n hm
  have h3 : (m.natAbs : Int) = m := by omega
  have h4 := Int.tmod_eq_emod (a := n) (b := m)
  by_cases h : 0 ≤ n ∨ m ∣ n
  · rw [if_pos h] at h4
    rw [if_neg (by omega)]; omega
  · rw [if_neg h] at h4
    rw [if_pos (by omega)]; omega
theorem tmod_bound (n m : Int) (hm : 0 < m) : -m < n.tmod m ∧ n.tmod m < m := by
  have h1 := Int.emod_nonneg n (by omega : m ≠ 0)
  have h2 := Int.emod_lt_of_pos n hm
  have h3 : (m.natAbs : Int) = m := by omega
  have h4 := Int.tmod_eq_emod (a := n) (b := m)
  by_cases h : 0 ≤ n ∨ m ∣ n
  · rw [if_pos h] at h4; omega
  · rw [if_neg h] at h4; omega
theorem spin_range (n m : Int) (hm : 1 ≤ m) : 0 ≤ spin n m ∧ spin n m < m := by
  unfold spin
  rw [if_neg (by omega)]
  exact ⟨Int.emod_nonneg n (by omega), Int.emod_lt_of_pos n (by omega)⟩

end Go.Proofs.Ytajkgfeockcbpaa
/- The walks of the shared package: each call returns what the plain function of the same name says; no memory that was there changes. -/
namespace Go.Proofs.Ytajkgfeockcbpaa
open Go.RowKit

set_option maxHeartbeats 400000 in
theorem Fits_any (n lo hi : Int) (w : World) :
    Calls Try.prog 43 #[.int .i64 n, .int .i64 lo, .int .i64 hi] w fun e w' => e = .returned (.bool (fits n lo hi)) ∧ w = w' := by
  unfold fits
  by_cases h1 : lo ≤ n
  · go_enter Try.func43, Try.ntmps43
    go_wp2
    go_ret
    exact ⟨ret_bool (by simp [h1]), rfl⟩
  · have h1' : decide (lo ≤ n) = false := by simpa using h1
    go_enter Try.func43, Try.ntmps43
    go_wp2
    go_ret
    exact ⟨ret_bool (by simp), rfl⟩

set_option maxHeartbeats 400000 in
theorem Sp_any (a b : Int) (w : World) :
    Calls Try.prog 54 #[.int .i64 a, .int .i64 b] w fun e w' => e = .returned (.agg #[.int .i64 a, .int .i64 b]) ∧ Below w.heap.size w w' := by
  go_enter Try.func54, Try.ntmps54
  go_wp2
  exact bodyPost_ret (v := .agg #[.int .i64 a, .int .i64 b]) (by simp [results, Try.results54, go_sem]) rfl ⟨rfl, below_alloc _ _⟩

set_option maxHeartbeats 400000 in
theorem Only_any (a : Int) (w : World) :
    Calls Try.prog 92 #[.int .i64 a] w fun e w' => e = .returned (.agg #[.int .i64 a, .int .i64 a]) ∧ Below w.heap.size w w' := by
  go_enter Try.func92, Try.ntmps92
  go_wp2_with fail
  refine (Sp_any _ _ _).mono ?_
  rintro e w' ⟨rfl, hb⟩
  obtain ⟨hc, hf⟩ := bcell hb
  have hb' := hb.size
  simp at hb'
  have hz : w.heap.size < w'.heap.size := by omega
  clear hb'
  have H := Lib.hid hb
  clear hb
  go_wp2
  exact bodyPost_ret (v := .agg #[.int .i64 a, .int .i64 a]) (by simp [results, Try.results92, go_sem, hc]) rfl ⟨rfl, (((below_alloc _ _).trans (H.out.mono (by simp))).setCell (by simp) _).setCell (by simp) _⟩

set_option maxHeartbeats 400000 in
theorem Spin_any (n m : Int) (w : World) (hm : I64 m) :
    Calls Try.prog 44 #[.int .i64 n, .int .i64 m] w fun e w' => e = .returned (.int .i64 (spin n m)) ∧ w = w' := by
  unfold I64 at hm
  by_cases h1 : m < 1
  · go_enter Try.func44, Try.ntmps44
    go_wp2
    go_ret
    exact ⟨ret_int (by rw [spin, if_pos h1]), rfl⟩
  · have hb := tmod_bound n m (by omega)
    have hf := tmod_fix n m (by omega)
    have HF := Lib.hid hf
    clear hf
    by_cases h2 : n.tmod m < 0
    · go_enter Try.func44, Try.ntmps44
      go_wp2
      go_ret
      exact ⟨ret_int (by have := HF.out; rw [if_pos (by omega)] at this; rw [spin, if_neg (by omega), ← this]), rfl⟩
    · go_enter Try.func44, Try.ntmps44
      go_wp2
      go_ret
      exact ⟨ret_int (by have := HF.out; rw [if_neg (by omega)] at this; rw [spin, if_neg (by omega), ← this]), rfl⟩

set_option maxHeartbeats 400000 in
theorem Item_any (p : Option Addr) (c : Nat) (xs : List Int) (n : Int) (w : World) (hn : xs.length ≤ maxLen) (hc : IntsAt w p xs) :
    Calls Try.prog 90 #[.slice p xs.length c, .int .i64 n] w fun e w' => e = .returned (.int .i64 (item xs n)) ∧ w = w' := by
  unfold maxLen at hn
  by_cases h0 : xs.length = 0
  · have h0' : xs = [] := List.length_eq_zero_iff.1 h0
    subst h0'
    clear h0 hc
    go_enter Try.func90, Try.ntmps90
    go_wp2
    go_ret
    exact ⟨ret_int (by simp [item]), rfl⟩
  · have hr := spin_range n xs.length (by omega)
    obtain ⟨b, o, rfl, hcell⟩ := hc (spin n xs.length).toNat (by omega)
    clear hc
    have h0b : ((xs.length : Int) == 0) = false := by simp; intro h; apply h0; simp [h]
    go_enter Try.func90, Try.ntmps90
    go_wp2_with (go_at_call 44; refine (Spin_any _ _ _ ⟨by omega, by omega⟩).mono ?_; rintro e w' ⟨rfl, rfl⟩)
    go_ret
    exact ⟨ret_int (by rw [item, if_neg h0]), rfl⟩

set_option maxHeartbeats 400000 in
theorem Right_any (a b lo hi : Int) (w : World) :
    Calls Try.prog 64 #[.agg #[.int .i64 a, .int .i64 b], .int .i64 lo, .int .i64 hi] w fun e w' => e = .returned (.bool (decide (lo ≤ a) && decide (a ≤ b) && decide (b ≤ hi))) ∧ Below w.heap.size w w' := by
  by_cases h1 : lo ≤ a
  · by_cases h2 : a ≤ b
    · go_enter Try.func64, Try.ntmps64
      go_wp2
      go_ret
      exact ⟨ret_bool (by simp [h1, h2]), below_alloc _ _⟩
    · have h2' : decide (a ≤ b) = false := by simpa using h2
      go_enter Try.func64, Try.ntmps64
      go_wp2
      go_ret
      exact ⟨ret_bool (by simp), below_alloc _ _⟩
  · have h1' : decide (lo ≤ a) = false := by simpa using h1
    go_enter Try.func64, Try.ntmps64
    go_wp2
    go_ret
    exact ⟨ret_bool (by simp), below_alloc _ _⟩

set_option maxHeartbeats 400000 in
theorem Drawn_any (a b n : Int) (w : World) (h1 : -1000000000 ≤ a) (h2 : a ≤ b) (h3 : b ≤ 1000000000) :
    Calls Try.prog 89 #[.agg #[.int .i64 a, .int .i64 b], .int .i64 n] w fun e w' => e = .returned (.int .i64 (drawn a b n)) ∧ Below w.heap.size w w' := by
  have hs := spin_range n (b - a + 1) (by omega)
  have hI : I64 (b - a + 1) := ⟨by omega, by omega⟩
  have hd : drawn a b n = a + spin n (b - a + 1) := by
    rw [drawn, IntWalk.wrap64_in (b - a) (by omega), IntWalk.wrap64_in (b - a + 1) (by omega), IntWalk.wrap64_in _ (by omega)]
  have HD := Lib.hid hd
  clear hd
  obtain ⟨e1, e2, e3⟩ : IntKind.i64.wrap (b - a) = b - a ∧ IntKind.i64.wrap (b - a + 1) = b - a + 1 ∧ IntKind.i64.wrap (a + spin n (b - a + 1)) = a + spin n (b - a + 1) :=
    ⟨IntWalk.i64_in _ (by omega), IntWalk.i64_in _ (by omega), IntWalk.i64_in _ (by omega)⟩
  go_enter Try.func89, Try.ntmps89
  go_wp2
  go_quiet ((go_at_call 44; exact quiet_eq (Spin_any _ _ _ hI)))
  clear e1 e2 e3
  go_wp2
  go_ret
  exact ⟨ret_int HD.out.symm, by exact below_drewN (below_alloc _ _) _⟩

set_option maxHeartbeats 400000 in
theorem Alike_any (p q : Option Addr) (c d : Nat) (xs ys : List Int) (w : World) (hn : xs.length ≤ maxLen) (hc : IntsAt w p xs) (hd : IntsAt w q ys) :
    Calls Try.prog 25 #[.slice p xs.length c, .slice q ys.length d] w fun e w' => e = .returned (.bool (decide (xs = ys))) ∧ Below w.heap.size w w' := by
  unfold maxLen at hn
  by_cases he : xs.length = ys.length
  · have he' : ((xs.length : Int) != (ys.length : Int)) = false := by rw [he]; simp
    have HE := Lib.hid he
    go_enter Try.func25, Try.ntmps25
    clear he
    go_wp2
    clear he'
    go_loopw [5] (fun i wr => ∃ k : Nat, k ≤ xs.length ∧ i = .int .i64 k ∧ xs.take k = ys.take k ∧ ∃ n, wr = w.drewN n) (fun i _ => xs.length - (intOf i).toNat)
    case atStart => exact ⟨0, Nat.zero_le _, rfl, rfl, 0, rfl⟩
    case round =>
      obtain ⟨k, hk, rfl, hpre, n, rfl⟩ := hrel
      have HP := Lib.hid hpre
      clear hpre
      by_cases hlt : k < xs.length
      · have hlt2 : k < ys.length := by have := HE.out; omega
        obtain ⟨b, o, rfl, hcell⟩ := hc k hlt
        obtain ⟨b2, o2, rfl, hcell2⟩ := hd k hlt2
        clear hc hd
        by_cases hx : at0 xs k = at0 ys k
        · have hx' : (at0 xs k != at0 ys k) = false := by rw [hx]; simp
          have HX := Lib.hid hx
          clear hx
          go_wp2
          go_quiet (fail)
          go_wp2
          go_roundw
          case rel => exact ⟨k + 1, by omega, by go_num, by rw [take_snoc hlt, take_snoc hlt2, HP.out, HX.out], _, rfl⟩
          case measure => simp [intOf]; omega
        · have hx' : (at0 xs k != at0 ys k) = true := by rw [bne_iff_ne]; exact hx
          go_wp2
          go_quiet (fail)
          go_wp2
          go_ret
          exact ⟨ret_bool (by simp; intro h; exact hx (by rw [h])), by exact below_drewN (below_drewN (Below.refl _ _) _) _⟩
      · clear hc hd
        go_wp2
        go_ret
        exact ⟨ret_bool (by have h1 := HP.out; have h2 := HE.out; rw [List.take_of_length_le (by omega), List.take_of_length_le (by omega)] at h1; simp [h1]), by exact below_drewN (Below.refl _ _) _⟩
  · have he' : ((xs.length : Int) != (ys.length : Int)) = true := by rw [bne_iff_ne]; omega
    go_enter Try.func25, Try.ntmps25
    go_wp2
    go_ret
    exact ⟨ret_bool (by simp; intro h; exact he (by rw [h])), Below.refl _ _⟩

set_option maxHeartbeats 800000 in
theorem Earlier_any (p q : Option Addr) (c d : Nat) (xs ys : List Int) (w : World) (hn : xs.length ≤ maxLen) (hc : IntsAt w p xs) (hd : IntsAt w q ys) :
    Calls Try.prog 46 #[.slice p xs.length c, .slice q ys.length d] w fun e w' => e = .returned (.bool (earlier xs ys)) ∧ Below w.heap.size w w' := by
  unfold maxLen at hn
  go_enter Try.func46, Try.ntmps46
  go_wp2
  go_loopw [5] (fun i wr => ∃ k : Nat, k ≤ xs.length ∧ k ≤ ys.length ∧ i = .int .i64 k ∧ xs.take k = ys.take k ∧ ∃ n, wr = w.drewN n) (fun i _ => xs.length - (intOf i).toNat)
  case atStart => exact ⟨0, Nat.zero_le _, Nat.zero_le _, rfl, rfl, 0, rfl⟩
  case round =>
    obtain ⟨k, hk, hk2, rfl, hpre, n, rfl⟩ := hrel
    have HP := Lib.hid hpre
    clear hpre
    by_cases hlt : k < xs.length
    · by_cases hlt2 : k < ys.length
      · obtain ⟨b, o, rfl, hcell⟩ := hc k hlt
        obtain ⟨b2, o2, rfl, hcell2⟩ := hd k hlt2
        clear hc hd
        by_cases hx : at0 xs k = at0 ys k
        · have hx' : (at0 xs k != at0 ys k) = false := by rw [hx]; simp
          have HX := Lib.hid hx
          clear hx
          go_wp2
          go_quiet (fail)
          go_wp2
          go_roundw
          case rel => exact ⟨k + 1, by omega, by omega, by go_num, by rw [take_snoc hlt, take_snoc hlt2, HP.out, HX.out], _, rfl⟩
          case measure => simp [intOf]; omega
        · have hx' : (at0 xs k != at0 ys k) = true := by rw [bne_iff_ne]; exact hx
          have HX := Lib.hid hx
          clear hx
          go_wp2
          go_quiet (fail)
          go_wp2
          go_quiet (fail)
          go_wp2
          go_ret
          exact ⟨ret_bool (earlier_ne hlt hlt2 HP.out HX.out).symm, by exact below_drewN (below_drewN (below_drewN (Below.refl _ _) _) _) _⟩
      · have hl2 : decide (k < ys.length) = false := by simpa using hlt2
        clear hc hd
        go_wp2
        go_ret
        exact ⟨ret_bool (by rw [earlier_end hk hk2 HP.out (by omega)]), by exact below_drewN (Below.refl _ _) _⟩
    · have hl1 : decide (k < xs.length) = false := by simpa using hlt
      clear hc hd
      go_wp2
      go_ret
      exact ⟨ret_bool (by rw [earlier_end hk hk2 HP.out (by omega)]), by exact below_drewN (Below.refl _ _) _⟩

end Go.Proofs.Ytajkgfeockcbpaa
/- Blocks of the call's own, known whole: reading, writing, keeping. -/
namespace Go.Proofs.Ytajkgfeockcbpaa
open Go.RowKit

/-- A block known whole, nothing of it frozen. -/
def Row (w : World) (b : Nat) (cs : Array Value) (t : TypeId) : Prop := w.heap[b]? = some (.cells cs t (0, 0))

theorem Row.lt {w : World} {b : Nat} {cs : Array Value} {t : TypeId} (h : Row w b cs t) : b < w.heap.size := (Array.getElem?_eq_some_iff.1 h).1
theorem Row.cell {w : World} {b : Nat} {cs : Array Value} {t : TypeId} (h : Row w b cs t) (i : Nat) {v : Value} (hv : cs[i]? = some v) : w.cell? ⟨b, i, none⟩ = some v := by
  rw [cell_of_row w b i cs t (0, 0) h, hv]
theorem Row.free {w : World} {b : Nat} {cs : Array Value} {t : TypeId} (h : Row w b cs t) (i : Nat) : w.frozen? ⟨b, i, none⟩ = false := frozen_of_row w b i cs t h
theorem Row.new (w : World) (cs : Array Value) (t : TypeId) : Row (w.alloc (.cells cs t)) w.heap.size cs t := heap_alloc_new w _
theorem Row.new' {w : World} {n : Nat} (hn : n = w.heap.size) (cs : Array Value) (t : TypeId) : Row (w.alloc (.cells cs t)) n cs t := by subst hn; exact Row.new w cs t
theorem Row.alloc {w : World} {b : Nat} {cs : Array Value} {t : TypeId} (h : Row w b cs t) (o : Obj) : Row (w.alloc o) b cs t := by
  unfold Row; rw [Below.heap_alloc w o b h.lt]; exact h
theorem Row.drewN {w : World} {b : Nat} {cs : Array Value} {t : TypeId} (h : Row w b cs t) (n : Nat) : Row (w.drewN n) b cs t := h
theorem Row.drew {w : World} {b : Nat} {cs : Array Value} {t : TypeId} (h : Row w b cs t) : Row w.drew b cs t := h
theorem Row.below {w w' : World} {B b : Nat} {cs : Array Value} {t : TypeId} (h : Row w b cs t) (hb : Below B w w') (hB : b < B) : Row w' b cs t := by
  unfold Row; rw [hb.block b hB]; exact h
theorem Row.set {w : World} {b : Nat} {cs : Array Value} {t : TypeId} (h : Row w b cs t) (i : Nat) (v : Value) : Row (w.setCell ⟨b, i, none⟩ v) b (cs.setIfInBounds i v) t := heap_setCell_same w b i cs t v h
theorem Row.set_other {w : World} {b : Nat} {cs : Array Value} {t : TypeId} (h : Row w b cs t) (a : Addr) (v : Value) (hne : b ≠ a.block) : Row (w.setCell a v) b cs t := by
  unfold Row; rw [heap_setCell_other w a b v hne]; exact h
theorem Row.setRow {w : World} {b : Nat} {cs : Array Value} {t : TypeId} (h : Row w b cs t) (ds : Array Value) : Row (w.setRow b ds) b ds t := setRow_heap w b cs ds t _ h
theorem Row.setRow_other {w : World} {b g : Nat} {cs : Array Value} {t : TypeId} (h : Row w b cs t) (ds : Array Value) (hne : b ≠ g) : Row (w.setRow g ds) b cs t := by
  unfold Row; rw [_root_.Go.setRow_other w g b ds hne]; exact h

section
variable {P : Program} {ops : Array Oper} {rest : List Oper} {op : Oper} {a : Act} {w : World} {Q : Exit → Act → World → Prop}
/-- A whole variable out of its block. -/
theorem load_row (hgd : op.guard = none) (ty : TypeId) (x : Operand) (ho : op.op = .load ty x)
    (g : Nat) (hx : a.eval x = .pointer (some ⟨g, 0, none⟩)) (t : TypeId) (cs : Array Value) (d : TypeDesc) (hg : Row w g cs t)
    (hu : P.underlying ty = some d) (hd : (match d with | .struct _ | .array _ _ => true | _ => false) = true) (hi : (P.info? ty).map (·.size) = some cs.size)
    (h : wpList P ops Q rest (a.put op.dst (.agg cs)) w) : wpList P ops Q (op :: rest) a w :=
  wpList_load_row hgd ty x ho g hx t cs (0, 0) d hg hu hd hi h
/-- A whole variable into its block. -/
theorem store_row (hgd : op.guard = none) (ty : TypeId) (x y : Operand) (ho : op.op = .store ty x y)
    (g : Nat) (cs old : Array Value) (t : TypeId) (hx : a.eval x = .pointer (some ⟨g, 0, none⟩)) (hy : a.eval y = .agg cs)
    (hg : Row w g old t) (hi : (P.info? ty).map (·.size) = some cs.size) (hold : old.size = cs.size) (h1 : cs.all (·.oneCell') = true)
    (h : wpList P ops Q rest (a.put op.dst undef) (w.setRow g cs)) : wpList P ops Q (op :: rest) a w :=
  wpList_plain hgd fun _ hK => by
    unfold Oper.wp execOp
    simp only [ho, hx, hy, Instr.storeAt, Instr.sureAddr, Sem.run_bind, Sem.run_pure, Result.andThen_ok, run_storeVar_row w g t ty old cs hg hi hold h1]
    exact hK _ _ h
theorem wp_store_row' {o : Oper} {K : Act → World → Prop} (ty : TypeId) (x y : Operand) (ho : o.op = .store ty x y)
    (g : Nat) (cs old : Array Value) (t : TypeId) (hx : a.eval x = .pointer (some ⟨g, 0, none⟩)) (hy : a.eval y = .agg cs)
    (hg : Row w g old t) (hi : (P.info? ty).map (·.size) = some cs.size) (hold : old.size = cs.size) (h1 : cs.all (·.oneCell') = true)
    (h : K (a.put o.dst undef) (w.setRow g cs)) : o.wp P a w K Q := by
  unfold Oper.wp execOp
  simp only [ho, hx, hy, Instr.storeAt, Instr.sureAddr, Sem.run_bind, Sem.run_pure, Result.andThen_ok, run_storeVar_row w g t ty old cs hg hi hold h1]
  exact h
/-- One operation whose value is known, the world as it was. -/
theorem index_op (hgd : op.guard = none) (ty : TypeId) (x y : Operand) (ho : op.op = .index ty x y) (cs : Array Value) (k : Int) (hx : a.eval x = .agg cs) (hy : a.eval y = .int .i64 k) (v : Value)
    (hr : (Instr.index ty (.agg cs) (.int .i64 k)).run P w = .ok v w) (h : wpList P ops Q rest (a.put op.dst v) w) : wpList P ops Q (op :: rest) a w :=
  wpList_plain hgd fun _ hK => by
    unfold Oper.wp execOp
    simp only [ho, hx, hy, Sem.run_bind, Sem.run_pure, hr, Result.andThen_ok]
    exact hK _ _ h
end
end Go.Proofs.Ytajkgfeockcbpaa
/- What all layers share: blocks of the call's own, lists of numbers in memory, append. -/
namespace Go.Proofs.Ytajkgfeockcbpaa
open Go.RowKit Go.Maps
attribute [local go_sem] Oper.semAt_some

/-- A block of the call's own, and all that was there before. -/
structure Kept (l : Nat) (cs : Array Value) (t : TypeId) (w0 w : World) : Prop where
  r : Row w l cs t
  hb : Below w0.heap.size w0 w
section
variable {l : Nat} {cs : Array Value} {t : TypeId} {w0 w w' : World}
theorem Kept.below (h : Kept l cs t w0 w) (hb : Below w.heap.size w w') : Kept l cs t w0 w' := ⟨h.r.below hb h.r.lt, h.hb.trans (hb.mono h.hb.size)⟩
theorem Kept.drew (h : Kept l cs t w0 w) : Kept l cs t w0 w.drew := ⟨h.r.drew, h.hb.drew⟩
theorem Kept.drewN (h : Kept l cs t w0 w) (n : Nat) : Kept l cs t w0 (w.drewN n) := ⟨h.r.drewN n, below_drewN h.hb n⟩
theorem Kept.alloc (h : Kept l cs t w0 w) (o : Obj) : Kept l cs t w0 (w.alloc o) := ⟨h.r.alloc o, h.hb.alloc h.hb.size o⟩
theorem Kept.new (w0 : World) (cs : Array Value) (t : TypeId) : Kept w0.heap.size cs t w0 (w0.alloc (.cells cs t)) := ⟨Row.new _ _ _, below_alloc _ _⟩
theorem Kept.set (h : Kept l cs t w0 w) (hl : w0.heap.size ≤ l) (i : Nat) (v : Value) : Kept l (cs.setIfInBounds i v) t w0 (w.setCell ⟨l, i, none⟩ v) := ⟨h.r.set i v, h.hb.setCell hl v⟩
theorem Kept.s3 {x y z : Value} (h : Kept l #[x, y, z] t w0 w) : w.cell? ⟨l, 0, none⟩ = some x ∧ w.cell? ⟨l, 1, none⟩ = some y ∧ w.cell? ⟨l, 2, none⟩ = some z := ⟨h.r.cell 0 rfl, h.r.cell 1 rfl, h.r.cell 2 rfl⟩
theorem Kept.s2 {x y : Value} (h : Kept l #[x, y] t w0 w) : w.cell? ⟨l, 0, none⟩ = some x ∧ w.cell? ⟨l, 1, none⟩ = some y := ⟨h.r.cell 0 rfl, h.r.cell 1 rfl⟩
end
theorem owns_below {w w1 : World} {base e size : Nat} {v : Value} {n : Nat} {xs : List Value} (h : w.ownsRow base e size v n xs) (hb : Below w.heap.size w w1) : w1.ownsRow base e size v n xs := by
  refine ⟨h.1, ?_⟩
  rcases h.2 with h2 | ⟨g, cap, cur, hv, hg, hh, r⟩
  · exact .inl h2
  · exact .inr ⟨g, cap, cur, hv, hg, by rw [hb.block g (Array.getElem?_eq_some_iff.1 hh).1]; exact hh, r⟩
theorem ints_of_owns {w : World} {base e : Nat} {v : Value} {xs : List Int} (h : w.ownsRow base e 1 v xs.length (xs.map (Value.int .i64))) :
    ∃ p c, v = .slice p xs.length c ∧ IntsAt w p xs ∧ xs.length ≤ c ∧ c ≤ maxLen ∧ (p = none ∨ ∃ g, p = some ⟨g, 0, none⟩) := by
  rcases h.2 with ⟨hv, h0⟩ | ⟨g, cap, cur, hv, hg, hh, h1, h2, h3, h4⟩
  · exact ⟨none, 0, by rw [hv, h0], fun i hi => by omega, by omega, by unfold maxLen; omega, .inl rfl⟩
  · refine ⟨_, cap, hv, fun i hi => ⟨g, 0, rfl, ?_⟩, h1, h2, .inr ⟨g, rfl⟩⟩
    rw [cell_of_row w g (0 + i) cur e (0, 0) hh, Nat.zero_add]
    have : (cur.toList.take (xs.length * 1))[i]? = (xs.map (Value.int .i64))[i]? := by rw [h4]
    rw [List.getElem?_take_of_lt (by omega)] at this
    simp only [Array.getElem?_toList] at this
    rw [this]
    simp [hi, at0]
/-- The call returned a slice that reads as a list; what was there is as it was. -/
def GaveInts (xs : List Int) (w : World) (e : Ending) (w' : World) : Prop := ∃ p c, e = .returned (.slice p xs.length c) ∧ IntsAt w' p xs ∧ Below w.heap.size w w'
theorem Try.infoInt : (Try.prog.info? 3).map (fun i => (i.zero, i.size, i.bytes)) = some (some (.int .i64 0), 1, 8) := by kernel_rfl
/-- The cells of a list of numbers. -/
def intsA (l : List Int) : Array Value := (l.map (Value.int .i64)).toArray
theorem intsA_at {l : List Int} {k : Nat} (h : k < l.length) : (intsA l)[k]? = some (.int .i64 (at0 l k)) := by simp [intsA, h, at0]
theorem intsA_set (l : List Int) (k : Nat) (v : Int) : (intsA l).setIfInBounds k (.int .i64 v) = intsA (l.set k v) := by simp [intsA, List.map_set]
theorem ints_row {w : World} {b : Nat} {l : List Int} {t : TypeId} (h : Row w b (intsA l) t) : IntsAt w (some ⟨b, 0, none⟩) l := by
  intro i hi
  exact ⟨b, 0, rfl, by rw [Nat.zero_add]; exact h.cell i (intsA_at hi)⟩
theorem make_ints (n : Nat) (hn : n ≤ 1000) (w : World) : (Instr.makeSlice 27 (.int .i64 (n : Int)) (.int .i64 (n : Int))).run Try.prog w = .ok (.slice (some ⟨w.heap.size, 0, none⟩) n n) (w.alloc (.cells (intsA (List.replicate n 0)) 3)) := by
  have e : madeCells #[.int .i64 0] n = intsA (List.replicate n 0) := by
    apply Array.ext
    · simp [madeCells, intsA]
    · intro i h1 h2
      simp [madeCells, intsA, Nat.mod_one]
  rw [run_make_row' 27 3 (.int .i64 0) 8 Try.underlying27 Try.infoInt rfl .i64 .i64 n (by omega) (by omega) w, e]
theorem wp_append_run {P : Program} {o : Oper} {a : Act} {w w' : World} {Q : Exit → Act → World → Prop} {K : Act → World → Prop} (s x : Operand) (t t' : TypeId) (ho : o.op = Op.call { callee := Callee.builtin Builtin.append, args := #[s, x], argTypes := #[t, t'] }) (vs vx v : Value) (hs : a.eval s = vs) (hx : a.eval x = vx)
    (hr : (Builtin.append_ #[t, t'] o.type #[vs, vx]).run P w = .ok v w') (h : K (a.put o.dst v) w') : o.wp P a w K Q := by
  unfold Oper.wp
  simp [execOp, ho, resolve, invoke, builtin, hs, hx, hr, Result.andThen]
  exact h
theorem wpList_append_run {P : Program} {ops : Array Oper} {rest : List Oper} {o : Oper} {a : Act} {w w' : World} {Q : Exit → Act → World → Prop} (hgd : o.guard = none) (s x : Operand) (t t' : TypeId) (ho : o.op = Op.call { callee := Callee.builtin Builtin.append, args := #[s, x], argTypes := #[t, t'] }) (vs vx v : Value) (hs : a.eval s = vs) (hx : a.eval x = vx)
    (hr : (Builtin.append_ #[t, t'] o.type #[vs, vx]).run P w = .ok v w') (h : wpList P ops Q rest (a.put o.dst v) w') : wpList P ops Q (o :: rest) a w :=
  wpList_plain hgd fun _ hK => wp_append_run s x t t' ho vs vx v hs hx hr (hK _ _ h)
/-- append, as one step of a region that draws. -/
theorem step_append_ex {P : Program} {ops : Array Oper} {o : Oper} {a : Act} {w : World} {K : Act → World → Prop} {Q : Exit → Act → World → Prop} {E : Prop}
    (hg : o.guard = none) (s x : Operand) (tys : Array TypeId) (hop : o.op = Op.call { callee := Callee.builtin Builtin.append, args := #[s, x], argTypes := tys })
    (vs vx : Value) (hs : a.eval s = vs) (hx : a.eval x = vx) (R : Value → World → Prop) (hrun : ∃ v' w', (Builtin.append_ tys o.type #[vs, vx]).run P w = .ok v' w' ∧ R v' w')
    (hK : ∀ v' w', R v' w' → K (a.put o.dst v') w') :
    if Region.wanted o (yielded ops a.tmps) = true then Oper.wp P o a w K Q else E := by
  have hw : Region.wanted o (yielded ops a.tmps) = true := by simp [Region.wanted, hg]
  rw [if_pos hw]
  obtain ⟨v', w', hrun, hR⟩ := hrun
  unfold Oper.wp
  simp [execOp, hop, resolve, invoke, builtin, hs, hx, hrun, Result.andThen]
  exact hK v' w' hR
theorem Fits_yes (n lo hi : Int) (w : World) (h1 : lo ≤ n) (h2 : n ≤ hi) : Calls Try.prog 43 #[.int .i64 n, .int .i64 lo, .int .i64 hi] w fun e w' => e = .returned (.bool true) ∧ w = w' := by
  have h := Fits_any n lo hi w
  rw [show fits n lo hi = true by unfold fits; simp; omega] at h
  exact h
theorem Fits_no (n lo hi : Int) (w : World) (h : n < lo ∨ hi < n) : Calls Try.prog 43 #[.int .i64 n, .int .i64 lo, .int .i64 hi] w fun e w' => e = .returned (.bool false) ∧ w = w' := by
  have h2 := Fits_any n lo hi w
  rw [show fits n lo hi = false by unfold fits; simp; omega] at h2
  exact h2
end Go.Proofs.Ytajkgfeockcbpaa
