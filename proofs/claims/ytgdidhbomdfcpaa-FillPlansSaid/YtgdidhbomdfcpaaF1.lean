/- Layer 5, in plain lists: handfuls, boxes, plans. -/
import Derived.Test.YtgdidhbomdfcpaaC
namespace Go.Proofs.Ytgdidhbomdfcpaa
open Go.RowKit

/-- A handful: between what lies how many splints it has. -/
structure Hd where
  lo : Int
  hi : Int
/-- What the label promises, how many less and more are allowed, how many handfuls go into a box, the handfuls. -/
structure Bf where
  pr : Int
  le : Int
  mo : Int
  gr : Int
  hs : List Hd
structure HdOk (h : Hd) : Prop where
  l0 : 0 ≤ h.lo
  l1 : h.lo ≤ h.hi
  l2 : h.hi ≤ 200
  l3 : h.hi - h.lo ≤ 10
def hdB (h : Hd) : Bool := decide (0 ≤ h.lo ∧ h.lo ≤ h.hi ∧ h.hi ≤ 200 ∧ h.hi - h.lo ≤ 10)
def numB (b : Bf) : Bool := decide (1 ≤ b.pr ∧ b.pr ≤ 500 ∧ 0 ≤ b.le ∧ b.le ≤ 50 ∧ b.le ≤ b.pr - 1 ∧ 0 ≤ b.mo ∧ b.mo ≤ 50 ∧ 1 ≤ b.gr ∧ b.gr ≤ 4 ∧ b.hs.length ≤ 8)
def bookB (b : Bf) : Bool := numB b && b.hs.all hdB
def bookE (b : Bf) : Int := if bookB b then 0 else 50
structure BfOk (b : Bf) : Prop where
  p1 : 1 ≤ b.pr
  p2 : b.pr ≤ 500
  l1 : 0 ≤ b.le
  l2 : b.le ≤ 50
  l3 : b.le ≤ b.pr - 1
  m1 : 0 ≤ b.mo
  m2 : b.mo ≤ 50
  g1 : 1 ≤ b.gr
  g2 : b.gr ≤ 4
  n8 : b.hs.length ≤ 8
  h : ∀ h ∈ b.hs, HdOk h
theorem hdB_iff {h : Hd} : hdB h = true ↔ HdOk h := by
  simp only [hdB, decide_eq_true_eq]
  exact ⟨fun ⟨a, b, c, d⟩ => ⟨a, b, c, d⟩, fun ⟨a, b, c, d⟩ => ⟨a, b, c, d⟩⟩
theorem bookB_iff {b : Bf} : bookB b = true ↔ BfOk b := by
  simp only [bookB, numB, Bool.and_eq_true, decide_eq_true_eq, List.all_eq_true, hdB_iff]
  exact ⟨fun ⟨⟨a1, a2, a3, a4, a5, a6, a7, a8, a9, a10⟩, h⟩ => ⟨a1, a2, a3, a4, a5, a6, a7, a8, a9, a10, h⟩, fun ⟨a1, a2, a3, a4, a5, a6, a7, a8, a9, a10, h⟩ => ⟨⟨a1, a2, a3, a4, a5, a6, a7, a8, a9, a10⟩, h⟩⟩
theorem bookE_ok {b : Bf} (h : bookB b = true) : bookE b = 0 := by simp [bookE, h]
theorem bookE_bad {b : Bf} (h : bookB b = false) : bookE b = 50 := by simp [bookE, h]

/-- The handfuls from one on to the one before another. -/
def partL (hs : List Hd) (a b : Nat) : List Hd := (hs.drop a).take (b - a)
/-- What several handfuls have at an end, together. -/
def sumF (f : Hd → Int) (hs : List Hd) : Int := (hs.map f).sum
theorem sumF_nil (f : Hd → Int) : sumF f [] = 0 := rfl
theorem sumF_append (f : Hd → Int) (a b : List Hd) : sumF f (a ++ b) = sumF f a + sumF f b := by simp [sumF]
theorem sumF_snoc (f : Hd → Int) (a : List Hd) (h : Hd) : sumF f (a ++ [h]) = sumF f a + f h := by simp [sumF]
theorem sumF_range {f : Hd → Int} {hs : List Hd} {B : Int} (hB : 0 ≤ B) (h : ∀ x ∈ hs, 0 ≤ f x ∧ f x ≤ B) : 0 ≤ sumF f hs ∧ sumF f hs ≤ hs.length * B := by
  induction hs with
  | nil => simp [sumF]
  | cons x hs ih =>
    have h1 := h x (by simp)
    have h2 := ih fun y hy => h y (by simp [hy])
    have e : sumF f (x :: hs) = f x + sumF f hs := by simp [sumF]
    have e2 : (((x :: hs).length : Nat) : Int) * B = B + (hs.length : Int) * B := by
      rw [List.length_cons]; push_cast; rw [Int.add_mul]; omega
    rw [e, e2]
    omega
theorem partL_length {hs : List Hd} {a b : Nat} (h : a ≤ b) (hb : b ≤ hs.length) : (partL hs a b).length = b - a := by simp [partL]; omega
theorem partL_mem {hs : List Hd} {a b : Nat} {x : Hd} (h : x ∈ partL hs a b) : x ∈ hs := List.mem_of_mem_drop (List.mem_of_mem_take h)
theorem part_succ {hs : List Hd} {a b : Nat} (h : a ≤ b) (hb : b < hs.length) : partL hs a (b + 1) = partL hs a b ++ [hs[b]] := by
  unfold partL
  rw [show b + 1 - a = (b - a) + 1 by omega, List.take_succ_eq_append_getElem (by simp; omega)]
  congr 2
  simp
  congr 1
  omega
theorem part_self (hs : List Hd) (a : Nat) : partL hs a a = [] := by simp [partL]
theorem part_join {hs : List Hd} {a b c : Nat} (h1 : a ≤ b) (h2 : b ≤ c) : partL hs a b ++ partL hs b c = partL hs a c := by
  unfold partL
  rw [show c - a = (b - a) + (c - b) by omega, List.take_add, List.drop_drop]
  congr 3
  omega
theorem part_all (hs : List Hd) : partL hs 0 hs.length = hs := by simp [partL]
/-- How many splints a box has, at least and at most. -/
def loB (b : Bf) (x y : Nat) : Int := sumF Hd.lo (partL b.hs x y)
def hiB (b : Bf) (x y : Nat) : Int := sumF Hd.hi (partL b.hs x y)
/-- Can the handfuls from one on to the one before another be a box? -/
def boxB (b : Bf) (x y : Int) : Bool := decide (0 ≤ x ∧ x < y ∧ y ≤ b.hs.length ∧ y - x ≤ b.gr)
/-- What a box of so many splints is: 1 it may have too few, 2 too many. -/
def fewB (b : Bf) (lo : Int) : Bool := decide (lo < b.pr - b.le)
def manyB (b : Bf) (hi : Int) : Bool := decide (hi > b.pr + b.mo)
def kindS (b : Bf) (lo hi : Int) : Int := (if fewB b lo then 1 else 0) + (if manyB b hi then 2 else 0)
def kindB (b : Bf) (x y : Nat) : Int := kindS b (loB b x y) (hiB b x y)
def rightB (b : Bf) (x y : Nat) : Bool := decide (kindB b x y = 0)
theorem kindS_zero {b : Bf} {lo hi : Int} : kindS b lo hi = 0 ↔ b.pr - b.le ≤ lo ∧ hi ≤ b.pr + b.mo := by
  unfold kindS fewB manyB
  constructor
  · intro h
    split at h <;> split at h <;> simp_all
  · rintro ⟨h1, h2⟩
    rw [if_neg (by simp; omega), if_neg (by simp; omega)]; rfl

/-- All plans of the handfuls behind one, in their order. -/
def plansF (gr n : Nat) : Nat → Nat → List (List Int)
  | 0, x => if x = n then [[]] else []
  | f + 1, x => if x = n then [[]] else (List.range gr).flatMap fun i => if x + i + 1 ≤ n then (plansF gr n f (x + i + 1)).map (((x + i + 1 : Nat) : Int) :: ·) else []
theorem plansF_end (gr n f : Nat) : plansF gr n f n = [[]] := by cases f <;> simp [plansF]
theorem plansF_more {gr n : Nat} : ∀ {f x : Nat}, n - x ≤ f → x ≤ n → plansF gr n (f + 1) x = plansF gr n f x
  | 0, x, h, hx => by
    have : x = n := by omega
    subst this
    rw [plansF_end, plansF_end]
  | f + 1, x, h, hx => by
    by_cases e : x = n
    · subst e; rw [plansF_end, plansF_end]
    · rw [plansF, if_neg e, plansF, if_neg e]
      congr 1
      funext i
      by_cases h2 : x + i + 1 ≤ n
      · rw [if_pos h2, if_pos h2, plansF_more (by omega) h2]
      · rw [if_neg h2, if_neg h2]
theorem plansF_fuel {gr n x : Nat} (hx : x ≤ n) : ∀ {f : Nat}, n - x ≤ f → plansF gr n f x = plansF gr n (n - x) x := by
  intro f h
  obtain ⟨d, rfl⟩ : ∃ d, f = n - x + d := ⟨f - (n - x), by omega⟩
  clear h
  induction d with
  | zero => rfl
  | succ d ih => rw [← Nat.add_assoc, plansF_more (by omega) hx, ih]
def plansL (gr n x : Nat) : List (List Int) := plansF gr n (n - x) x
theorem plansL_end (gr n : Nat) : plansL gr n n = [[]] := plansF_end _ _ _
theorem plansL_step {gr n x : Nat} (hx : x < n) : plansL gr n x = (List.range gr).flatMap fun i => if x + i + 1 ≤ n then (plansL gr n (x + i + 1)).map (((x + i + 1 : Nat) : Int) :: ·) else [] := by
  unfold plansL
  obtain ⟨f, hf⟩ : ∃ f, n - x = f + 1 := ⟨n - x - 1, by omega⟩
  rw [hf, plansF, if_neg (by omega)]
  congr 1
  funext i
  by_cases h2 : x + i + 1 ≤ n
  · rw [if_pos h2, if_pos h2, plansF_fuel h2 (by omega)]
  · rw [if_neg h2, if_neg h2]
/-- Those of the boxes up to so many handfuls. -/
def plansTo (gr n x k : Nat) : List (List Int) := (List.range k).flatMap fun i => if x + i + 1 ≤ n then (plansL gr n (x + i + 1)).map (((x + i + 1 : Nat) : Int) :: ·) else []
theorem plansTo_succ (gr n x k : Nat) : plansTo gr n x (k + 1) = plansTo gr n x k ++ (if x + k + 1 ≤ n then (plansL gr n (x + k + 1)).map (((x + k + 1 : Nat) : Int) :: ·) else []) := by
  simp [plansTo, List.range_succ]
theorem plansTo_all {gr n x : Nat} (hx : x < n) : plansTo gr n x gr = plansL gr n x := (plansL_step hx).symm
end Go.Proofs.Ytgdidhbomdfcpaa
