/- Layer 5, in plain lists: handfuls, boxes, plans. -/
import Derived.Test.YtgdidhbomdfcpaaC
namespace Go.Proofs.Ytgdidhbomdfcpaa
open Go.RowKit

/-- A handful: between what lies how many splints it has. -/
structure Hd where
  lo : Int
  hi : Int
/-- What the label promises, how many less and more are allowed, how many handfuls go into a box, the handfuls. -/
structure Bf where
  pr : Int
  le : Int
  mo : Int
  gr : Int
  hs : List Hd
structure HdOk (h : Hd) : Prop where
  l0 : 0 ≤ h.lo
  l1 : h.lo ≤ h.hi
  l2 : h.hi ≤ 200
  l3 : h.hi - h.lo ≤ 10
def hdB (h : Hd) : Bool := decide (0 ≤ h.lo ∧ h.lo ≤ h.hi ∧ h.hi ≤ 200 ∧ h.hi - h.lo ≤ 10)
def numB (b : Bf) : Bool := decide (1 ≤ b.pr ∧ b.pr ≤ 500 ∧ 0 ≤ b.le ∧ b.le ≤ 50 ∧ b.le ≤ b.pr - 1 ∧ 0 ≤ b.mo ∧ b.mo ≤ 50 ∧ 1 ≤ b.gr ∧ b.gr ≤ 4 ∧ b.hs.length ≤ 8)
def bookB (b : Bf) : Bool := numB b && b.hs.all hdB
def bookE (b : Bf) : Int := if bookB b then 0 else 50
structure BfOk (b : Bf) : Prop where
  p1 : 1 ≤ b.pr
  p2 : b.pr ≤ 500
  l1 : 0 ≤ b.le
  l2 : b.le ≤ 50
  l3 : b.le ≤ b.pr - 1
  m1 : 0 ≤ b.mo
  m2 : b.mo ≤ 50
  g1 : 1 ≤ b.gr
  g2 : b.gr ≤ 4
  n8 : b.hs.length ≤ 8
  h : ∀ h ∈ b.hs, HdOk h
theorem hdB_iff {h : Hd} : hdB h = true ↔ HdOk h := by
  simp only [hdB, decide_eq_true_eq]
  exact ⟨fun ⟨a, b, c, d⟩ => ⟨a, b, c, d⟩, fun ⟨a, b, c, d⟩ => ⟨a, b, c, d⟩⟩
theorem bookB_iff {b : Bf} : bookB b = true ↔ BfOk b := by
  simp only [bookB, numB, Bool.and_eq_true, decide_eq_true_eq, List.all_eq_true, hdB_iff]
  exact ⟨fun ⟨⟨a1, a2, a3, a4, a5, a6, a7, a8, a9, a10⟩, h⟩ => ⟨a1, a2, a3, a4, a5, a6, a7, a8, a9, a10, h⟩, fun ⟨a1, a2, a3, a4, a5, a6, a7, a8, a9, a10, h⟩ => ⟨⟨a1, a2, a3, a4, a5, a6, a7, a8, a9, a10⟩, h⟩⟩
theorem bookE_ok {b : Bf} (h : bookB b = true) : bookE b = 0 := by simp [bookE, h]
theorem bookE_bad {b : Bf} (h : bookB b = false) : bookE b = 50 := by simp [bookE, h]

/-- The handfuls from one on to the one before another. -/
def partL (hs : List Hd) (a b : Nat) : List Hd := (hs.drop a).take (b - a)
/-- What several handfuls have at an end, together. -/
def sumF (f : Hd → Int) (hs : List Hd) : Int := (hs.map f).sum
theorem sumF_nil (f : Hd → Int) : sumF f [] = 0 := rfl
theorem sumF_append (f : Hd → Int) (a b : List Hd) : sumF f (a ++ b) = sumF f a + sumF f b := by simp [sumF]
theorem sumF_snoc (f : Hd → Int) (a : List Hd) (h : Hd) : sumF f (a ++ [h]) = sumF f a + f h := by simp [sumF]
theorem sumF_range {f : Hd → Int} {hs : List Hd} {B : Int} (hB : 0 ≤ B) (h : ∀ x ∈ hs, 0 ≤ f x ∧ f x ≤ B) : 0 ≤ sumF f hs ∧ sumF f hs ≤ hs.length * B := by
  induction hs with
  | nil => simp [sumF]
  | cons x hs ih =>
    have h1 := h x (by simp)
    have h2 := ih fun y hy => h y (by simp [hy])
    have e : sumF f (x :: hs) = f x + sumF f hs := by simp [sumF]
    have e2 : (((x :: hs).length : Nat) : Int) * B = B + (hs.length : Int) * B := by
      rw [List.length_cons]; push_cast; rw [Int.add_mul]; omega
    rw [e, e2]
    omega
theorem partL_length {hs : List Hd} {a b : Nat} (h : a ≤ b) (hb : b ≤ hs.length) : (partL hs a b).length = b - a := by simp [partL]; omega
theorem partL_mem {hs : List Hd} {a b : Nat} {x : Hd} (h : x ∈ partL hs a b) : x ∈ hs := List.mem_of_mem_drop (List.mem_of_mem_take h)
theorem part_succ {hs : List Hd} {a b : Nat} (h : a ≤ b) (hb : b < hs.length) : partL hs a (b + 1) = partL hs a b ++ [hs[b]] := by
  unfold partL
  rw [show b + 1 - a = (b - a) + 1 by omega, List.take_succ_eq_append_getElem (by simp; omega)]
  congr 2
  simp
  congr 1
  omega
theorem part_self (hs : List Hd) (a : Nat) : partL hs a a = [] := by simp [partL]
theorem part_join {hs : List Hd} {a b c : Nat} (h1 : a ≤ b) (h2 : b ≤ c) : partL hs a b ++ partL hs b c = partL hs a c := by
  unfold partL
  rw [show c - a = (b - a) + (c - b) by omega, List.take_add, List.drop_drop]
  congr 3
  omega
theorem part_all (hs : List Hd) : partL hs 0 hs.length = hs := by simp [partL]
/-- How many splints a box has, at least and at most. -/
def loB (b : Bf) (x y : Nat) : Int := sumF Hd.lo (partL b.hs x y)
def hiB (b : Bf) (x y : Nat) : Int := sumF Hd.hi (partL b.hs x y)
/-- Can the handfuls from one on to the one before another be a box? -/
def boxB (b : Bf) (x y : Int) : Bool := decide (0 ≤ x ∧ x < y ∧ y ≤ b.hs.length ∧ y - x ≤ b.gr)
/-- What a box of so many splints is: 1 it may have too few, 2 too many. -/
def fewB (b : Bf) (lo : Int) : Bool := decide (lo < b.pr - b.le)
def manyB (b : Bf) (hi : Int) : Bool := decide (hi > b.pr + b.mo)
def kindS (b : Bf) (lo hi : Int) : Int := (if fewB b lo then 1 else 0) + (if manyB b hi then 2 else 0)
def kindB (b : Bf) (x y : Nat) : Int := kindS b (loB b x y) (hiB b x y)
def rightB (b : Bf) (x y : Nat) : Bool := decide (kindB b x y = 0)
theorem kindS_zero {b : Bf} {lo hi : Int} : kindS b lo hi = 0 ↔ b.pr - b.le ≤ lo ∧ hi ≤ b.pr + b.mo := by
  unfold kindS fewB manyB
  constructor
  · intro h
    split at h <;> split at h <;> simp_all
  · rintro ⟨h1, h2⟩
    rw [if_neg (by simp; omega), if_neg (by simp; omega)]; rfl

/-- All plans of the handfuls behind one, in their order. -/
def plansF (gr n : Nat) : Nat → Nat → List (List Int)
  | 0, x => if x = n then [[]] else []
  | f + 1, x => if x = n then [[]] else (List.range gr).flatMap fun i => if x + i + 1 ≤ n then (plansF gr n f (x + i + 1)).map (((x + i + 1 : Nat) : Int) :: ·) else []
theorem plansF_end (gr n f : Nat) : plansF gr n f n = [[]] := by cases f <;> simp [plansF]
theorem plansF_more {gr n : Nat} : ∀ {f x : Nat}, n - x ≤ f → x ≤ n → plansF gr n (f + 1) x = plansF gr n f x
  | 0, x, h, hx => by
    have : x = n := by omega
    subst this
    rw [plansF_end, plansF_end]
  | f + 1, x, h, hx => by
    by_cases e : x = n
    · subst e; rw [plansF_end, plansF_end]
    · rw [plansF, if_neg e, plansF, if_neg e]
      congr 1
      funext i
      by_cases h2 : x + i + 1 ≤ n
      · rw [if_pos h2, if_pos h2, plansF_more (by omega) h2]
      · rw [if_neg h2, if_neg h2]
theorem plansF_fuel {gr n x : Nat} (hx : x ≤ n) : ∀ {f : Nat}, n - x ≤ f → plansF gr n f x = plansF gr n (n - x) x := by
  intro f h
  obtain ⟨d, rfl⟩ : ∃ d, f = n - x + d := ⟨f - (n - x), by omega⟩
  clear h
  induction d with
  | zero => rfl
  | succ d ih => rw [← Nat.add_assoc, plansF_more (by omega) hx, ih]
def plansL (gr n x : Nat) : List (List Int) := plansF gr n (n - x) x
theorem plansL_end (gr n : Nat) : plansL gr n n = [[]] := plansF_end _ _ _
theorem plansL_step {gr n x : Nat} (hx : x < n) : plansL gr n x = (List.range gr).flatMap fun i => if x + i + 1 ≤ n then (plansL gr n (x + i + 1)).map (((x + i + 1 : Nat) : Int) :: ·) else [] := by
  unfold plansL
  obtain ⟨f, hf⟩ : ∃ f, n - x = f + 1 := ⟨n - x - 1, by omega⟩
  rw [hf, plansF, if_neg (by omega)]
  congr 1
  funext i
  by_cases h2 : x + i + 1 ≤ n
  · rw [if_pos h2, if_pos h2, plansF_fuel h2 (by omega)]
  · rw [if_neg h2, if_neg h2]
/-- Those of the boxes up to so many handfuls. -/
def plansTo (gr n x k : Nat) : List (List Int) := (List.range k).flatMap fun i => if x + i + 1 ≤ n then (plansL gr n (x + i + 1)).map (((x + i + 1 : Nat) : Int) :: ·) else []
theorem plansTo_succ (gr n x k : Nat) : plansTo gr n x (k + 1) = plansTo gr n x k ++ (if x + k + 1 ≤ n then (plansL gr n (x + k + 1)).map (((x + k + 1 : Nat) : Int) :: ·) else []) := by
  simp [plansTo, List.range_succ]
theorem plansTo_all {gr n x : Nat} (hx : x < n) : plansTo gr n x gr = plansL gr n x := (plansL_step hx).symm
end Go.Proofs.Ytgdidhbomdfcpaa
/- Layer 5, in plain lists: what becomes of a plan; the best one of all. -/
namespace Go.Proofs.Ytgdidhbomdfcpaa
open Go.RowKit

/-- With which handful a box of a plan begins. -/
def bgn (l : List Int) (i : Nat) : Int := if i = 0 then 0 else at0 l (i - 1)
theorem bgn_zero (l : List Int) : bgn l 0 = 0 := rfl
theorem bgn_succ (l : List Int) (i : Nat) : bgn l (i + 1) = at0 l i := by simp [bgn]
def boxI (b : Bf) (l : List Int) (i : Nat) : Bool := boxB b (bgn l i) (at0 l i)
def loI (b : Bf) (l : List Int) (i : Nat) : Int := loB b (bgn l i).toNat (at0 l i).toNat
def hiI (b : Bf) (l : List Int) (i : Nat) : Int := hiB b (bgn l i).toNat (at0 l i).toNat
def rightI (b : Bf) (l : List Int) (i : Nat) : Bool := decide (kindS b (loI b l i) (hiI b l i) = 0)
/-- Is it a plan? -/
def planTo (b : Bf) (l : List Int) (k : Nat) : Bool := (List.range k).all (boxI b l)
def planB (b : Bf) (l : List Int) : Bool := planTo b l l.length && decide (bgn l l.length = b.hs.length)
theorem planTo_succ (b : Bf) (l : List Int) (k : Nat) : planTo b l (k + 1) = (planTo b l k && boxI b l k) := by simp [planTo, List.range_succ]
theorem planTo_all {b : Bf} {l : List Int} {k : Nat} (h : planTo b l k = true) {i : Nat} (hi : i < k) : boxI b l i = true := by
  unfold planTo at h
  rw [List.all_eq_true] at h
  exact h i (List.mem_range.2 hi)
/-- Behind so many boxes of a plan no number is greater than that of the last one, and each box lies within the handfuls. -/
theorem plan_nums {b : Bf} {l : List Int} : ∀ {k : Nat}, planTo b l k = true → k ≤ l.length → 0 ≤ bgn l k ∧ bgn l k ≤ b.hs.length ∧ (k : Int) ≤ bgn l k
  | 0, _, _ => by simp [bgn]
  | k + 1, h, hk => by
    rw [planTo_succ, Bool.and_eq_true] at h
    obtain ⟨h0, h1, h2⟩ := plan_nums h.1 (by omega)
    have hb := h.2
    unfold boxI boxB at hb
    simp only [decide_eq_true_eq] at hb
    rw [bgn_succ]
    omega
/-- The boxes that are to be filled by hand, of the first so many; the right ones, at an end. -/
def handTo (b : Bf) (l : List Int) (k : Nat) : List Int := ((List.range k).filter fun i => !rightI b l i).map fun (i : Nat) => (i : Int)
def rightTo (b : Bf) (l : List Int) (k : Nat) : List Hd := ((List.range k).filter fun i => rightI b l i).map fun i => ⟨loI b l i, hiI b l i⟩
theorem handTo_succ (b : Bf) (l : List Int) (k : Nat) : handTo b l (k + 1) = if rightI b l k then handTo b l k else handTo b l k ++ [(k : Int)] := by
  unfold handTo
  rw [List.range_succ, List.filter_append, List.map_append]
  cases h : rightI b l k <;> simp [h]
theorem rightTo_succ (b : Bf) (l : List Int) (k : Nat) : rightTo b l (k + 1) = if rightI b l k then rightTo b l k ++ [⟨loI b l k, hiI b l k⟩] else rightTo b l k := by
  unfold rightTo
  rw [List.range_succ, List.filter_append, List.map_append]
  cases h : rightI b l k <;> simp [h]
theorem count_to (b : Bf) (l : List Int) : ∀ k, (handTo b l k).length + (rightTo b l k).length = k
  | 0 => rfl
  | k + 1 => by
    have := count_to b l k
    rw [handTo_succ, rightTo_succ]
    cases h : rightI b l k <;> simp <;> omega
def handL (b : Bf) (l : List Int) : List Int := handTo b l l.length
def rightL (b : Bf) (l : List Int) : List Hd := rightTo b l l.length
/-- How good a plan is: fewer boxes by hand, then more boxes. -/
def rankQ (b : Bf) (l : List Int) : Int := 100 * ((handL b l).length : Int) - (l.length : Int)
def rankR (b : Bf) (l : List Int) : Int := -((rightL b l).length : Int)
def grN (b : Bf) : Nat := b.gr.toNat
def plansB (b : Bf) : List (List Int) := plansL (grN b) b.hs.length 0
end Go.Proofs.Ytgdidhbomdfcpaa
