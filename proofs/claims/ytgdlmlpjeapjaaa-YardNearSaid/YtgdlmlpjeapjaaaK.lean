/- Plain words that all walks share: readings of slices, 'Below' as facts on cells, numbers of the kind int. -/
import Derived.Test.YtgdlmlpjeapjaaaRows
import Derived.WalkKit
import Derived.WalkSpells
import Derived.WalkLawsBesides
import Derived.Deep.QuietTactic
import Derived.BigQuiet
import Derived.Lib.Hide
namespace Go.Proofs.Ytgdlmlpjeapjaaa
open Go.RowKit

theorem ret_int {k : IntKind} {a b : Int} (h : a = b) : Ending.returned (.int k a) = .returned (.int k b) := by rw [h]
theorem ret_bool {a b : Bool} (h : a = b) : Ending.returned (.bool a) = .returned (.bool b) := by rw [h]

theorem bcell {B : Nat} {W w1 : World} (hb : Below B W w1) : (∀ b o, b < B → w1.cell? ⟨b, o, none⟩ = W.cell? ⟨b, o, none⟩) ∧ (∀ b o, b < B → w1.frozen? ⟨b, o, none⟩ = W.frozen? ⟨b, o, none⟩) :=
  ⟨fun b o h => hb.cell (p := ⟨b, o, none⟩) h, fun b o h => hb.frozen (p := ⟨b, o, none⟩) h⟩

/-- The number at a place of a list, 0 behind its end. -/
def at0 (l : List Int) (i : Nat) : Int := l.getD i 0
theorem at0_lt {l : List Int} {i : Nat} (h : i < l.length) : at0 l i = l[i] := by simp [at0, h]
/-- A number of the kind int. -/
def I64 (n : Int) : Prop := -9223372036854775808 ≤ n ∧ n ≤ 9223372036854775807

/-- The cells behind a slice read as ints. -/
def IntsAt (w : World) (p : Option Addr) (xs : List Int) : Prop :=
  ∀ i, i < xs.length → ∃ b o, p = some ⟨b, o, none⟩ ∧ w.cell? ⟨b, o + i, none⟩ = some (.int .i64 (at0 xs i))

theorem cell_block {w : World} {a : Addr} {v : Value} (h : w.cell? a = some v) : a.block < w.heap.size := by
  unfold World.cell? at h
  rcases Nat.lt_or_ge a.block w.heap.size with h' | h'
  · exact h'
  · rw [Array.getElem?_eq_none h'] at h; simp at h

theorem IntsAt.below {w w' : World} {p : Option Addr} {xs : List Int} (h : IntsAt w p xs) (hb : Below w.heap.size w w') : IntsAt w' p xs := by
  intro i hi
  obtain ⟨b, o, hp, hc⟩ := h i hi
  exact ⟨b, o, hp, by rw [(bcell hb).1 b _ (by have := cell_block hc; exact this)]; exact hc⟩

theorem below_alloc (w : World) (o : Obj) : Below w.heap.size w (w.alloc o) := (Below.refl _ _).alloc (Nat.le_refl _) _

theorem below_drewN {B : Nat} {w w' : World} (h : Below B w w') (n : Nat) : Below B w (w'.drewN n) := ⟨h.os, h.tape, h.output, h.size, h.block⟩

/-- A callee that leaves the world alone, within a region that only reads. -/
theorem quiet_eq {P : Program} {f : FuncId} {args : Array Value} {w : World} {n : Nat} {v : Value}
    (h : Calls P f args (w.drewN n) fun e w' => e = .returned v ∧ w.drewN n = w') : Calls P f args (w.drewN n) fun e w'' => e = .returned v ∧ ∃ m, w'' = w.drewN m :=
  h.mono fun _ _ ⟨he, hm⟩ => ⟨he, n, hm.symm⟩

def fits (n lo hi : Int) : Bool := decide (lo ≤ n) && decide (n ≤ hi)

def total (l : List Int) : Int := l.foldl (fun a x => wrap64 (a + x)) 0

theorem take_snoc {l : List Int} {k : Nat} (h : k < l.length) : l.take (k + 1) = l.take k ++ [at0 l k] := by
  rw [List.take_succ_eq_append_getElem h, at0_lt h]

theorem total_take (l : List Int) (k : Nat) (h : k < l.length) : total (l.take (k+1)) = wrap64 (total (l.take k) + at0 l k) := by
  rw [List.take_succ_eq_append_getElem h, at0_lt h]
  simp only [total, List.foldl_append, List.foldl_cons, List.foldl_nil]

def spin (n many : Int) : Int := if many < 1 then 0 else n % many
def item (l : List Int) (n : Int) : Int := if l.length = 0 then 0 else at0 l (spin n l.length).toNat
def drawn (lo hi n : Int) : Int := wrap64 (lo + spin n (wrap64 (wrap64 (hi - lo) + 1)))

/-- Does a list come before another one? -/
def earlier : List Int → List Int → Bool
  | [], [] => false
  | [], _ :: _ => true
  | _ :: _, [] => false
  | a :: l, b :: m => if a = b then earlier l m else decide (a < b)

theorem earlier_pre : ∀ (k : Nat) (a b : List Int), k ≤ a.length → k ≤ b.length → a.take k = b.take k → earlier a b = earlier (a.drop k) (b.drop k)
  | 0, _, _, _, _, _ => rfl
  | k + 1, [], _, h, _, _ => by simp at h
  | k + 1, _ :: _, [], _, h, _ => by simp at h
  | k + 1, x :: a, y :: b, h1, h2, h3 => by
    simp at h1 h2 h3
    obtain ⟨rfl, h3⟩ := h3
    simp only [earlier, if_pos, List.drop_succ_cons]
    exact earlier_pre k a b h1 h2 h3
theorem earlier_ne {k : Nat} {a b : List Int} (h1 : k < a.length) (h2 : k < b.length) (h3 : a.take k = b.take k) (h : at0 a k ≠ at0 b k) : earlier a b = decide (at0 a k < at0 b k) := by
  rw [earlier_pre k a b (by omega) (by omega) h3, List.drop_eq_getElem_cons h1, List.drop_eq_getElem_cons h2]
  rw [at0_lt h1, at0_lt h2] at *
  simp [earlier, h]
theorem earlier_end {k : Nat} {a b : List Int} (h1 : k ≤ a.length) (h2 : k ≤ b.length) (h3 : a.take k = b.take k) (h : k = a.length ∨ k = b.length) : earlier a b = decide (a.length < b.length) := by
  rw [earlier_pre k a b h1 h2 h3]
  have e1 : (a.drop k).length = a.length - k := List.length_drop
  have e2 : (b.drop k).length = b.length - k := List.length_drop
  generalize a.drop k = u at *
  generalize b.drop k = v at *
  cases u <;> cases v <;> simp [earlier] at * <;> omega

theorem tmod_fix (n m : Int) (hm : 0 < m) : (if n.tmod m < 0 then n.tmod m + m else n.tmod m) = n % m := by
  have h1 := Int.emod_nonneg n (by omega : m ≠ 0)
  have h2 := Int.emod_lt_of_pos n hm
  have h3 : (m.natAbs : Int) = m := by omega
  have h4 := Int.tmod_eq_emod (a := n) (b := m)
  by_cases h : 0 ≤ n ∨ m ∣ n
  · rw [if_pos h] at h4
    rw [if_neg (by omega)]; omega
  · rw [if_neg h] at h4
    rw [if_pos (by omega)]; omega
theorem tmod_bound (n m : Int) (hm : 0 < m) : -m < n.tmod m ∧ n.tmod m < m := by
  have h1 := Int.emod_nonneg n (by omega : m ≠ 0)
  have h2 := Int.emod_lt_of_pos n hm
  have h3 : (m.natAbs : Int) = m := by omega
  have h4 := Int.tmod_eq_emod (a := n) (b := m)
  by_cases h : 0 ≤ n ∨ m ∣ n
  · rw [if_pos h] at h4; omega
  · rw [if_neg h] at h4; omega
theorem spin_range (n m : Int) (hm : 1 ≤ m) : 0 ≤ spin n m ∧ spin n m < m := by
  unfold spin
  rw [if_neg (by omega)]
  exact ⟨Int.emod_nonneg n (by omega), Int.emod_lt_of_pos n (by omega)⟩

end Go.Proofs.Ytgdlmlpjeapjaaa
