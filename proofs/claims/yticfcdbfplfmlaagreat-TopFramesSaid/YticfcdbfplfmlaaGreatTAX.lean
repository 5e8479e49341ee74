/- Layer 3, in plain lists: parts, frames, what is known of a valid book, how dry frames are. -/
import Derived.Test.YticfcdbfplfmlaaGreatKM
import Derived.Test.YticfcdbfplfmlaaGreatRGX
import Derived.Maps.Keyed
import Derived.Maps.Own
import Derived.Maps.OwnOps
import Derived.Maps.Views
import Derived.DeepKeys4
namespace Go.Proofs.YticfcdbfplfmlaaGreat.Tu
open Go.RowKit

/-- A part of the tunnel. -/
structure Pt where
  h0 : Int
  h1 : Int
  h2 : Int
  h3 : Int
  lo : Int
  hi : Int
/-- A frame. -/
structure Fr where
  stay : List Int
  lo : Int
  hi : Int
def Pt.h (p : Pt) (s : Int) : Int := if s = 0 then p.h0 else if s = 1 then p.h1 else if s = 2 then p.h2 else p.h3
def Pt.A (p : Pt) : Array Value := #[.int .i64 p.h0, .int .i64 p.h1, .int .i64 p.h2, .int .i64 p.h3, .int .i64 p.lo, .int .i64 p.hi]
/-- May a tunnel have the part, the frame? -/
def ptB (p : Pt) : Bool := decide (0 ≤ p.h0 ∧ p.h0 ≤ p.h1 ∧ p.h1 ≤ p.h2 ∧ p.h2 ≤ p.h3 ∧ p.h3 ≤ 20 ∧ 0 ≤ p.lo ∧ p.lo ≤ p.hi ∧ p.hi ≤ 20 ∧ p.hi - p.lo ≤ 3)
def frB (n : Nat) (f : Fr) : Bool := f.stay.all (fun s => decide (0 ≤ s ∧ s ≤ 20)) && decide (f.stay.length = n) && decide (0 ≤ f.lo ∧ f.lo ≤ f.hi ∧ f.hi ≤ 999)
def bookB (ps : List Pt) (fs : List Fr) : Bool := decide (1 ≤ ps.length) && decide (ps.length ≤ 4) && decide (fs.length ≤ 5) && ps.all ptB && fs.all (frB ps.length)
def bookE (ps : List Pt) (fs : List Fr) : Int := if bookB ps fs then 0 else 30
structure PtOk (p : Pt) : Prop where
  a0 : 0 ≤ p.h0
  a1 : p.h0 ≤ p.h1
  a2 : p.h1 ≤ p.h2
  a3 : p.h2 ≤ p.h3
  a4 : p.h3 ≤ 20
  l0 : 0 ≤ p.lo
  l1 : p.lo ≤ p.hi
  l2 : p.hi ≤ 20
  l3 : p.hi - p.lo ≤ 3
structure FrOk (n : Nat) (f : Fr) : Prop where
  s : ∀ s ∈ f.stay, 0 ≤ s ∧ s ≤ 20
  n : f.stay.length = n
  l0 : 0 ≤ f.lo
  l1 : f.lo ≤ f.hi
  l2 : f.hi ≤ 999
structure BookOk (ps : List Pt) (fs : List Fr) : Prop where
  p1 : 1 ≤ ps.length
  p4 : ps.length ≤ 4
  f5 : fs.length ≤ 5
  p : ∀ p ∈ ps, PtOk p
  f : ∀ f ∈ fs, FrOk ps.length f
theorem ptB_iff {p : Pt} : ptB p = true ↔ PtOk p := by
  simp only [ptB, decide_eq_true_eq]
  exact ⟨fun ⟨a, b, c, d, e, f, g, h, i⟩ => ⟨a, b, c, d, e, f, g, h, i⟩, fun ⟨a, b, c, d, e, f, g, h, i⟩ => ⟨a, b, c, d, e, f, g, h, i⟩⟩
theorem frB_iff {n : Nat} {f : Fr} : frB n f = true ↔ FrOk n f := by
  simp only [frB, Bool.and_eq_true, List.all_eq_true, decide_eq_true_eq]
  exact ⟨fun ⟨⟨a, b⟩, c, d, e⟩ => ⟨a, b, c, d, e⟩, fun ⟨a, b, c, d, e⟩ => ⟨⟨a, b⟩, c, d, e⟩⟩
theorem bookB_iff {ps : List Pt} {fs : List Fr} : bookB ps fs = true ↔ BookOk ps fs := by
  simp only [bookB, Bool.and_eq_true, List.all_eq_true, decide_eq_true_eq, ptB_iff, frB_iff]
  exact ⟨fun ⟨⟨⟨⟨a, b⟩, c⟩, d⟩, e⟩ => ⟨a, b, c, d, e⟩, fun ⟨a, b, c, d, e⟩ => ⟨⟨⟨⟨a, b⟩, c⟩, d⟩, e⟩⟩
theorem Pt.h_range {p : Pt} (h : PtOk p) (s : Int) : 0 ≤ p.h s ∧ p.h s ≤ 20 := by
  obtain ⟨a, b, c, d, e, _, _, _, _⟩ := h
  unfold Pt.h
  split
  · omega
  · split
    · omega
    · split <;> omega
theorem Pt.h_mono {p : Pt} (h : PtOk p) {s t : Int} (hst : s ≤ t) (h0 : 0 ≤ s) : p.h s ≤ p.h t := by
  obtain ⟨a, b, c, d, e, _, _, _, _⟩ := h
  unfold Pt.h
  (repeat' split) <;> omega
/-- What a part dries of a frame, with some damp; how dry a frame is, as far as some parts go. -/
def dryAt (p : Pt) (s stay damp : Int) : Int := stay * max 0 (p.h s - damp)
def dryTo (d : Pt → Int) (ps : List Pt) (s stay : List Int) (n : Nat) : Int := ((List.range n).map fun i => match ps[i]? with
  | some p => dryAt p (at0 s i) (at0 stay i) (d p)
  | none => 0).sum
def dryD (d : Pt → Int) (ps : List Pt) (s stay : List Int) : Int := dryTo d ps s stay ps.length
def heatTo (ps : List Pt) (s : List Int) (n : Nat) : Int := ((List.range n).map fun i => match ps[i]? with
  | some p => p.h (at0 s i)
  | none => 0).sum
def heatD (ps : List Pt) (s : List Int) : Int := heatTo ps s ps.length
theorem dryTo_succ {d : Pt → Int} {ps : List Pt} {s stay : List Int} {n : Nat} (h : n < ps.length) : dryTo d ps s stay (n + 1) = dryTo d ps s stay n + dryAt ps[n] (at0 s n) (at0 stay n) (d ps[n]) := by
  simp [dryTo, List.range_succ, List.map_append, List.sum_append, List.getElem?_eq_getElem h]
theorem heatTo_succ {ps : List Pt} {s : List Int} {n : Nat} (h : n < ps.length) : heatTo ps s (n + 1) = heatTo ps s n + ps[n].h (at0 s n) := by
  simp [heatTo, List.range_succ, List.map_append, List.sum_append, List.getElem?_eq_getElem h]
theorem at0_mem {l : List Int} {i : Nat} (h : i < l.length) : at0 l i ∈ l := by rw [at0_lt h]; exact List.getElem_mem _
theorem dryAt_range {p : Pt} (hp : PtOk p) {s stay damp : Int} (h0 : 0 ≤ stay) (h1 : stay ≤ 20) (hd : 0 ≤ damp) : 0 ≤ dryAt p s stay damp ∧ dryAt p s stay damp ≤ 400 := by
  have := Pt.h_range hp s
  unfold dryAt
  have hm : 0 ≤ max 0 (p.h s - damp) ∧ max 0 (p.h s - damp) ≤ 20 := by omega
  constructor
  · exact Int.mul_nonneg h0 hm.1
  · have h2 : stay * max 0 (p.h s - damp) ≤ stay * 20 := Int.mul_le_mul_of_nonneg_left hm.2 h0
    omega
theorem dryTo_range {d : Pt → Int} {ps : List Pt} {s stay : List Int} (hp : ∀ p ∈ ps, PtOk p) (hs : ∀ x ∈ stay, 0 ≤ x ∧ x ≤ 20) (hl : stay.length = ps.length) (hd : ∀ p ∈ ps, 0 ≤ d p) : ∀ n, n ≤ ps.length → 0 ≤ dryTo d ps s stay n ∧ dryTo d ps s stay n ≤ 400 * n
  | 0, _ => by simp [dryTo]
  | n + 1, h => by
    have ih := dryTo_range (s := s) hp hs hl hd n (by omega)
    have hx := hs _ (at0_mem (l := stay) (i := n) (by omega))
    have := dryAt_range (hp ps[n] (List.getElem_mem _)) (s := at0 s n) hx.1 hx.2 (hd ps[n] (List.getElem_mem _))
    rw [dryTo_succ (by omega)]
    push_cast
    omega
theorem heatTo_range {ps : List Pt} {s : List Int} (hp : ∀ p ∈ ps, PtOk p) : ∀ n, n ≤ ps.length → 0 ≤ heatTo ps s n ∧ heatTo ps s n ≤ 20 * n
  | 0, _ => by simp [heatTo]
  | n + 1, h => by
    have ih := heatTo_range (s := s) hp n (by omega)
    have := Pt.h_range (hp ps[n] (List.getElem_mem _)) (at0 s n)
    rw [heatTo_succ (by omega)]
    push_cast
    omega
/-- What becomes of a frame: 1, if it may be too wet, and 2, if it may be too dry. -/
def kindD (ps : List Pt) (s : List Int) (f : Fr) : Int := (if dryD Pt.hi ps s f.stay < f.lo then 1 else 0) + (if dryD Pt.lo ps s f.stay > f.hi then 2 else 0)
end Go.Proofs.YticfcdbfplfmlaaGreat.Tu
/- Layer 3, in plain lists: settings, the best one of several, the frames that are dry in time. -/
namespace Go.Proofs.YticfcdbfplfmlaaGreat.Tu
open Go.RowKit

/-- All settings of so many parts, in their order. -/
def setsL : Nat → List (List Int)
  | 0 => [[]]
  | n + 1 => (List.range 4).flatMap fun (d : Nat) => (setsL n).map fun s => (d : Int) :: s
theorem setsL_succ (n : Nat) : setsL (n + 1) = (setsL n).map (0 :: ·) ++ ((setsL n).map (1 :: ·) ++ ((setsL n).map (2 :: ·) ++ (setsL n).map (3 :: ·))) := by
  simp [setsL, List.range_succ]
theorem setsL_length : ∀ n, (setsL n).length = 4 ^ n
  | 0 => rfl
  | n + 1 => by rw [setsL_succ]; simp [setsL_length n, Nat.pow_succ]; omega
theorem setsL_at {n d j : Nat} {x : List Int} (hd : d < 4) (h : (setsL n)[j]? = some x) : (setsL (n + 1))[d * 4 ^ n + j]? = some ((d : Int) :: x) := by
  have hj : j < 4 ^ n := by rw [← setsL_length n]; exact (List.getElem?_eq_some_iff.1 h).1
  have hl := setsL_length n
  rw [setsL_succ]
  obtain rfl | rfl | rfl | rfl : d = 0 ∨ d = 1 ∨ d = 2 ∨ d = 3 := by omega
  · rw [List.getElem?_append_left (by simp; omega)]; simp [h]
  · rw [List.getElem?_append_right (by simp; omega), List.getElem?_append_left (by simp; omega)]
    simp [hl, h]
  · rw [List.getElem?_append_right (by simp; omega), List.getElem?_append_right (by simp; omega), List.getElem?_append_left (by simp; omega)]
    simp [hl, show 2 * 4 ^ n + j - 4 ^ n - 4 ^ n = j by omega, h]
  · rw [List.getElem?_append_right (by simp; omega), List.getElem?_append_right (by simp; omega), List.getElem?_append_right (by simp; omega)]
    simp [hl, show 3 * 4 ^ n + j - 4 ^ n - 4 ^ n - 4 ^ n = j by omega, h]
theorem mem_setsL : ∀ {n : Nat} {s : List Int}, s ∈ setsL n ↔ s.length = n ∧ ∀ x ∈ s, 0 ≤ x ∧ x ≤ 3
  | 0, s => by
    simp only [setsL, List.mem_singleton]
    constructor
    · rintro rfl; simp
    · rintro ⟨h, _⟩; exact List.length_eq_zero_iff.1 h
  | n + 1, [] => by rw [setsL_succ]; simp
  | n + 1, x :: s => by
    rw [setsL_succ]
    simp only [List.mem_append, List.mem_map, List.cons.injEq, exists_eq_right_right, mem_setsL (n := n) (s := s), List.length_cons, List.mem_cons, forall_eq_or_imp]
    constructor
    · rintro (h | h | h | h) <;> obtain ⟨⟨h1, h2⟩, rfl⟩ := h <;> exact ⟨by omega, by omega, h2⟩
    · rintro ⟨h1, h2, h3⟩
      have h1' : s.length = n := by omega
      obtain e | e | e | e : x = 0 ∨ x = 1 ∨ x = 2 ∨ x = 3 := by omega
      · exact .inl ⟨⟨h1', h3⟩, e.symm⟩
      · exact .inr (.inl ⟨⟨h1', h3⟩, e.symm⟩)
      · exact .inr (.inr (.inl ⟨⟨h1', h3⟩, e.symm⟩))
      · exact .inr (.inr (.inr ⟨⟨h1', h3⟩, e.symm⟩))
theorem earlier_cons (a : Int) (s t : List Int) : earlier (a :: s) (a :: t) = earlier s t := by simp [earlier]
theorem earlier_lt {a b : Int} (h : a < b) (s t : List Int) : earlier (a :: s) (b :: t) = true := by
  have : ¬ a = b := by omega
  simp [earlier, this, h]
theorem setsL_sorted : ∀ n, (setsL n).Pairwise (fun a b => earlier a b = true)
  | 0 => by simp [setsL]
  | n + 1 => by
    have ih := setsL_sorted n
    have hm : ∀ d : Int, ((setsL n).map (d :: ·)).Pairwise (fun a b => earlier a b = true) := fun d => by
      rw [List.pairwise_map]; exact ih.imp fun h => by rw [earlier_cons]; exact h
    rw [setsL_succ]
    have hx : ∀ (a b : Int), a < b → ∀ x ∈ (setsL n).map (a :: ·), ∀ y ∈ (setsL n).map (b :: ·), earlier x y = true := by
      intro a b h x hx y hy
      simp only [List.mem_map] at hx hy
      obtain ⟨_, _, rfl⟩ := hx
      obtain ⟨_, _, rfl⟩ := hy
      exact earlier_lt h _ _
    refine List.pairwise_append.2 ⟨hm 0, List.pairwise_append.2 ⟨hm 1, List.pairwise_append.2 ⟨hm 2, hm 3, hx 2 3 (by decide)⟩, ?_⟩, ?_⟩
    · intro x h y hy
      rcases List.mem_append.1 hy with hy | hy
      · exact hx 1 2 (by decide) x h y hy
      · exact hx 1 3 (by decide) x h y hy
    · intro x h y hy
      rcases List.mem_append.1 hy with hy | hy
      · exact hx 0 1 (by decide) x h y hy
      · rcases List.mem_append.1 hy with hy | hy
        · exact hx 0 2 (by decide) x h y hy
        · exact hx 0 3 (by decide) x h y hy
theorem earlier_irrefl : ∀ s : List Int, earlier s s = false
  | [] => rfl
  | a :: s => by rw [earlier_cons]; exact earlier_irrefl s
theorem earlier_asymm : ∀ {s t : List Int}, earlier s t = true → earlier t s = false
  | [], [], _ => rfl
  | [], _ :: _, _ => rfl
  | _ :: _, [], h => by simp [earlier] at h
  | a :: s, b :: t, h => by
    by_cases e : a = b
    · subst e; rw [earlier_cons] at h ⊢; exact earlier_asymm h
    · have e2 : ¬ b = a := fun h => e h.symm
      simp [earlier, e] at h
      simp [earlier, e2]; omega
/-- The first setting: all dampers closed. -/
theorem setsL_zero : ∀ n, (setsL n)[0]? = some (List.replicate n 0)
  | 0 => rfl
  | n + 1 => by
    have := setsL_at (d := 0) (j := 0) (n := n) (by decide) (setsL_zero n)
    simpa [List.replicate_succ] using this

/-- The best one of several, the one of the least rank; of equal ones the first one. -/
def better {α : Type} (r : α → Int) (c : Option α) (o : α) : Option α := match c with
  | none => some o
  | some x => if r o < r x then some o else some x
def bestOf {α : Type} (r : α → Int) (xs : List α) : Option α := xs.foldl (better r) none
theorem bestOf_snoc {α : Type} (r : α → Int) (xs : List α) (o : α) : bestOf r (xs ++ [o]) = better r (bestOf r xs) o := by simp [bestOf]
theorem best_split {α : Type} (r : α → Int) : ∀ (ys : List α) (l1 l2 : List α) (x : α), (∀ y ∈ l1, r x < r y) → (∀ y ∈ l2, r x ≤ r y) →
    ∃ m1 x' m2, ys.foldl (better r) (some x) = some x' ∧ l1 ++ x :: l2 ++ ys = m1 ++ x' :: m2 ∧ (∀ y ∈ m1, r x' < r y) ∧ (∀ y ∈ m2, r x' ≤ r y)
  | [], l1, l2, x, h1, h2 => ⟨l1, x, l2, rfl, by simp, h1, h2⟩
  | y :: ys, l1, l2, x, h1, h2 => by
    simp only [List.foldl_cons, better]
    by_cases h : r y < r x
    · rw [if_pos h]
      obtain ⟨m1, x', m2, e, e2, a, b⟩ := best_split r ys (l1 ++ x :: l2) [] y (by
        intro z hz
        rcases List.mem_append.1 hz with hz | hz
        · have := h1 z hz; omega
        · rcases List.mem_cons.1 hz with rfl | hz
          · exact h
          · have := h2 z hz; omega) (by simp)
      exact ⟨m1, x', m2, e, by rw [← e2]; simp, a, b⟩
    · rw [if_neg h]
      obtain ⟨m1, x', m2, e, e2, a, b⟩ := best_split r ys l1 (l2 ++ [y]) x h1 (by
        intro z hz
        rcases List.mem_append.1 hz with hz | hz
        · exact h2 z hz
        · have : z = y := by simpa using hz
          subst this; omega)
      exact ⟨m1, x', m2, e, by rw [← e2]; simp, a, b⟩
theorem best_cons {α : Type} (r : α → Int) (y : α) (ys : List α) : ∃ m1 x m2, bestOf r (y :: ys) = some x ∧ y :: ys = m1 ++ x :: m2 ∧ (∀ z ∈ m1, r x < r z) ∧ (∀ z ∈ m2, r x ≤ r z) := by
  obtain ⟨m1, x, m2, e, e2, a, b⟩ := best_split r ys [] [] y (by simp) (by simp)
  exact ⟨m1, x, m2, e, by simpa using e2, a, b⟩
theorem best_some {α : Type} {r : α → Int} {xs : List α} {x : α} (h : bestOf r xs = some x) : ∃ m1 m2, xs = m1 ++ x :: m2 ∧ (∀ z ∈ m1, r x < r z) ∧ (∀ z ∈ m2, r x ≤ r z) := by
  cases xs with
  | nil => cases h
  | cons y ys =>
    obtain ⟨m1, x', m2, e, e2, a, b⟩ := best_cons r y ys
    rw [h] at e
    cases e
    exact ⟨m1, m2, e2, a, b⟩
theorem best_none {α : Type} {r : α → Int} {xs : List α} : bestOf r xs = none ↔ xs = [] := by
  cases xs with
  | nil => simp [bestOf]
  | cons y ys =>
    obtain ⟨m1, x', m2, e, _⟩ := best_cons r y ys
    simp [e]
theorem best_mem {α : Type} {r : α → Int} {xs : List α} {x : α} (h : bestOf r xs = some x) : x ∈ xs := by
  obtain ⟨m1, m2, rfl, _⟩ := best_some h
  simp
theorem best_le {α : Type} {r : α → Int} {xs : List α} {x : α} (h : bestOf r xs = some x) {y : α} (hy : y ∈ xs) : r x ≤ r y := by
  obtain ⟨m1, m2, rfl, a, b⟩ := best_some h
  rcases List.mem_append.1 hy with hy | hy
  · have := a y hy; omega
  · rcases List.mem_cons.1 hy with rfl | hy
    · omega
    · exact b y hy
/-- Of a sorted list: an earlier one of the same rank is not in the list. -/
theorem best_first {r : List Int → Int} {xs : List (List Int)} (hs : xs.Pairwise (fun a b => earlier a b = true)) {x : List Int} (h : bestOf r xs = some x) {y : List Int} (hy : y ∈ xs) (hr : r y ≤ r x) : earlier y x = false := by
  obtain ⟨m1, m2, rfl, a, b⟩ := best_some h
  rcases List.mem_append.1 hy with hy | hy
  · have := a y hy; omega
  · rcases List.mem_cons.1 hy with rfl | hy
    · exact earlier_irrefl _
    · have := (List.pairwise_append.1 hs).2.1
      exact earlier_asymm ((List.pairwise_cons.1 this).1 y hy)
theorem best_unique {α : Type} {r : α → Int} {xs m1 m2 : List α} {x : α} (h : xs = m1 ++ x :: m2) (h1 : ∀ z ∈ m1, r x < r z) (h2 : ∀ z ∈ m2, r x ≤ r z) : bestOf r xs = some x := by
  subst h
  have key : ∀ l : List α, (∀ z ∈ l, r x < r z) → bestOf r l = none ∨ ∃ q, bestOf r l = some q ∧ r x < r q := by
    intro l hl
    rcases hq : bestOf r l with _ | q
    · exact .inl rfl
    · exact .inr ⟨q, rfl, hl q (best_mem hq)⟩
  have k1 : bestOf r (m1 ++ [x]) = some x := by
    rw [bestOf_snoc]
    rcases key m1 h1 with h | ⟨q, h, hq⟩
    · rw [h]; rfl
    · rw [h]; simp [better, hq]
  have k2 : ∀ l : List α, (∀ z ∈ l, r x ≤ r z) → l.foldl (better r) (some x) = some x := by
    intro l
    induction l with
    | nil => intro _; rfl
    | cons y l ih =>
      intro hl
      have := hl y (by simp)
      rw [List.foldl_cons, show better r (some x) y = some x by simp only [better]; rw [if_neg (by omega)]]
      exact ih fun z hz => hl z (by simp [hz])
  rw [show m1 ++ x :: m2 = (m1 ++ [x]) ++ m2 by simp, bestOf, List.foldl_append]
  have k1' : (m1 ++ [x]).foldl (better r) none = some x := k1
  rw [k1', k2 m2 h2]

/-- What is so of the numbers below another one, increasing. -/
def pickL (F : Nat → Bool) (n : Nat) : List Int := ((List.range n).filter F).map fun (i : Nat) => (i : Int)
theorem pickL_succ (F : Nat → Bool) (n : Nat) : pickL F (n + 1) = if F n then pickL F n ++ [(n : Int)] else pickL F n := by
  unfold pickL
  rw [List.range_succ, List.filter_append, List.map_append]
  cases h : F n <;> simp [h]
theorem pickL_length (F : Nat → Bool) (n : Nat) : (pickL F n).length ≤ n := by
  unfold pickL
  rw [List.length_map]
  exact Nat.le_trans (List.length_filter_le _ _) (by simp)
theorem mem_pickL {F : Nat → Bool} {n : Nat} {x : Int} : x ∈ pickL F n ↔ ∃ i : Nat, x = i ∧ i < n ∧ F i = true := by
  simp only [pickL, List.mem_map, List.mem_filter, List.mem_range]
  constructor
  · rintro ⟨i, ⟨h1, h2⟩, rfl⟩; exact ⟨i, rfl, h1, h2⟩
  · rintro ⟨i, rfl, h1, h2⟩; exact ⟨i, ⟨h1, h2⟩, rfl⟩
theorem pickL_full {F : Nat → Bool} {n : Nat} : (pickL F n).length = n ↔ ∀ i, i < n → F i = true := by
  induction n with
  | zero => simp [pickL]
  | succ n ih =>
    rw [pickL_succ]
    have := pickL_length F n
    cases h : F n
    · simp only [Bool.false_eq_true, if_false]
      constructor
      · intro h2; omega
      · intro h2; have := h2 n (by omega); rw [h] at this; cases this
    · simp only [if_true, List.length_append, List.length_cons, List.length_nil]
      constructor
      · intro h2 i hi
        rcases Nat.lt_or_ge i n with h3 | h3
        · exact ih.1 (by omega) i h3
        · rw [show i = n by omega]; exact h
      · intro h2
        have := ih.2 fun i hi => h2 i (by omega)
        omega

/-- The frames that surely are dry in time; ranks of settings. -/
def dryI (ps : List Pt) (fs : List Fr) (s : List Int) (i : Nat) : Bool := match fs[i]? with
  | some f => decide (kindD ps s f = 0)
  | none => false
def goodD (ps : List Pt) (fs : List Fr) (s : List Int) : List Int := pickL (dryI ps fs s) fs.length
def rankD (ps : List Pt) (fs : List Fr) (s : List Int) : Int := heatD ps s - 1000 * ((goodD ps fs s).length : Int)
/-- The setting of the most frames. -/
def mostD (ps : List Pt) (fs : List Fr) : List Int := (bestOf (rankD ps fs) (setsL ps.length)).getD []
/-- The settings by which some frames are dry in time, and the coolest one. -/
def doesL (ps : List Pt) (fs : List Fr) (l : List Nat) : List (List Int) := (setsL ps.length).filter fun s => l.all (dryI ps fs s)
def coolD (ps : List Pt) (fs : List Fr) (l : List Nat) : Option (List Int) := bestOf (heatD ps) (doesL ps fs l)
theorem most_eq (ps : List Pt) (fs : List Fr) : bestOf (rankD ps fs) (setsL ps.length) = some (mostD ps fs) := by
  unfold mostD
  rcases h : bestOf (rankD ps fs) (setsL ps.length) with _ | x
  · rw [best_none] at h
    have := setsL_length ps.length
    rw [h] at this
    have h2 : 0 < 4 ^ ps.length := Nat.pow_pos (by decide)
    rw [List.length_nil] at this
    omega
  · rfl
theorem most_mem (ps : List Pt) (fs : List Fr) : mostD ps fs ∈ setsL ps.length := best_mem (most_eq ps fs)
end Go.Proofs.YticfcdbfplfmlaaGreat.Tu
/- Layer 3: the map of what was found out of frames and settings. -/
namespace Go.Proofs.YticfcdbfplfmlaaGreat.Tu
open Go.RowKit Go.Maps

/-- A setting as the program keeps it. -/
abbrev setA (s : List Int) : Array Value := #[.int .i64 (at0 s 0), .int .i64 (at0 s 1), .int .i64 (at0 s 2), .int .i64 (at0 s 3)]
abbrev runA (i : Nat) (s : List Int) : Array Value := #[.int .i64 i, .int .i64 (at0 s 0), .int .i64 (at0 s 1), .int .i64 (at0 s 2), .int .i64 (at0 s 3)]
/-- A setting: at most four numbers from 0 to 3. -/
structure SetOk (s : List Int) : Prop where
  n : s.length ≤ 4
  r : ∀ x ∈ s, 0 ≤ x ∧ x ≤ 3
theorem SetOk.at {s : List Int} (h : SetOk s) (i : Nat) : 0 ≤ at0 s i ∧ at0 s i ≤ 3 := by
  by_cases hi : i < s.length
  · exact h.r _ (at0_mem hi)
  · simp [at0, List.getD, List.getElem?_eq_none (by omega : s.length ≤ i)]
theorem set_ok {n : Nat} {s : List Int} (h : s ∈ setsL n) (hn : n ≤ 4) : SetOk s := by
  have := mem_setsL.1 h
  exact ⟨by omega, this.2⟩
theorem Tryz.laidOut' : laidOutB Tryz.prog = true := by kernel_rfl
theorem runKeyed : Keyed Tryz.prog 165 :=
  Keyed.of_law (deep_law_laid Tryz.laidOut' (m := 5) (by decide) (by decide +kernel) (by kernel_rfl) (by kernel_rfl))
def klit (i : Nat) (s : List Int) : Lit := .string (keyBytes [.int .i64 i, .int .i64 (at0 s 0), .int .i64 (at0 s 1), .int .i64 (at0 s 2), .int .i64 (at0 s 3)])
theorem types_some3 : ∃ m, Tryz.prog.types.size + 1 = m + 1 + 1 + 1 + 1 := ⟨Tryz.prog.types.size - 3, by
  have : 3 ≤ Tryz.prog.types.size := by decide +kernel
  omega⟩
theorem Tryz.underlyingSet : Tryz.prog.underlying 75 = some (.array 4 3) := by kernel_rfl
theorem keyLits_arr {P : Program} {t : TypeId} {n : Nat} {e : TypeId} (hu : P.underlying t = some (.array n e)) (d : Nat) (cs : List Value) (hl : cs.length = P.cellsOf t) : P.keyLits (d + 1) t cs = ((List.range n).mapM fun i => P.keyLits d e ((cs.drop (i * P.cellsOf e)).take (P.cellsOf e))).map List.flatten := by
  simp only [Program.keyLits, hu, if_pos hl]
theorem keyLits_int {P : Program} {t : TypeId} (hu : P.underlying t = some (.int .i64)) (d : Nat) (a : Int) (h : (Lit.int .i64 a).wf = true) : P.keyLits (d + 1) t [.int .i64 a] = some [.int .i64 a] := by
  simp [Program.keyLits, hu, h]
theorem lits_run (m : Nat) {a b c d e : Int} (h1 : (Lit.int .i64 a).wf = true) (h2 : (Lit.int .i64 b).wf = true) (h3 : (Lit.int .i64 c).wf = true) (h4 : (Lit.int .i64 d).wf = true) (h5 : (Lit.int .i64 e).wf = true) : Tryz.prog.keyLits (m + 1 + 1 + 1 + 1) 165 [.int .i64 a, .int .i64 b, .int .i64 c, .int .i64 d, .int .i64 e] = some [.int .i64 a, .int .i64 b, .int .i64 c, .int .i64 d, .int .i64 e] := by
  have c80 : Tryz.prog.cellsOf 75 = 4 := by kernel_rfl
  have c3 : Tryz.prog.cellsOf 3 = 1 := by kernel_rfl
  have c5 : Tryz.prog.cellsOf 165 = 5 := by kernel_rfl
  have i1 : ∀ (m : Nat) (n : Int), (Lit.int .i64 n).wf = true → Tryz.prog.keyLits (m + 1) 3 [.int .i64 n] = some [.int .i64 n] := fun m n h => keyLits_int Tryz.underlying3 m n h
  have arr : ∀ m : Nat, Tryz.prog.keyLits (m + 1 + 1) 75 [.int .i64 b, .int .i64 c, .int .i64 d, .int .i64 e] = some [.int .i64 b, .int .i64 c, .int .i64 d, .int .i64 e] := fun m => by
    rw [keyLits_arr Tryz.underlyingSet (m + 1) _ (by rw [c80]; rfl)]
    simp [List.range_succ, c3, i1 m b h2, i1 m c h3, i1 m d h4, i1 m e h5]
  generalize hq : m + 1 + 1 + 1 = q
  have i2 := i1 (m + 1 + 1) a h1
  have arr2 := arr (m + 1)
  rw [hq] at i2 arr2
  simp [Program.keyLits, Tryz.underlying165, c80, c3, c5, i2, arr2]
theorem form_run (a b c d e : Int) : Value.formed Tryz.prog 165 (.agg #[.int .i64 a, .int .i64 b, .int .i64 c, .int .i64 d, .int .i64 e]) = true := by
  have c80 : Tryz.prog.cellsOf 165 = 5 := by kernel_rfl
  simp [Value.formed, c80, Tryz.underlying165]
theorem type_run : Tryz.prog.keyType 165 = true := by kernel_rfl
theorem key_run {i : Nat} {s : List Int} (hi : i ≤ 5) (hs : SetOk s) : keyOf Tryz.prog 165 (.agg (runA i s)) = some (klit i s) := by
  have w : ∀ n : Int, 0 ≤ n → n ≤ 5 → (Lit.int .i64 n).wf = true := fun n h1 h2 => WalkArith.wf_i64 (by omega)
  have h0 := hs.at 0
  have h1 := hs.at 1
  have h2 := hs.at 2
  have h3 := hs.at 3
  obtain ⟨m, hm⟩ := types_some3
  unfold keyOf runA klit
  rw [hm]
  simp only [Tryz.underlying165, type_run, form_run, Bool.and_self, if_true, Value.cells, lits_run m (w i (by omega) (by omega)) (w _ h0.1 (by omega)) (w _ h1.1 (by omega)) (w _ h2.1 (by omega)) (w _ h3.1 (by omega)), Option.map_some]
theorem klit_inj {i j : Nat} {s t : List Int} (hi : i ≤ 5) (hs : SetOk s) (hj : j ≤ 5) (ht : SetOk t) (h : klit i s = klit j t) : i = j ∧ at0 s 0 = at0 t 0 ∧ at0 s 1 = at0 t 1 ∧ at0 s 2 = at0 t 2 ∧ at0 s 3 = at0 t 3 := by
  have := runKeyed.inj (key_run hi hs) (by rw [h]; exact key_run hj ht)
  simp [runA] at this
  exact ⟨by omega, this.2⟩

/-- The map holds, of frames and settings of so many parts, what is so, or nothing. -/
def DriedAt (w : World) (mb n np : Nat) (F : List Int → Nat → Bool) : Prop :=
  ∃ D : DataW Value, w.ownsMap Tryz.prog 165 (plainElem Tryz.prog 4) mb n D ∧ IsMap D ∧ ∀ i s, i ≤ 5 → s.length = np → SetOk s → (∀ z, D.atKey (klit i s) z = z) ∨ ∀ z, D.atKey (klit i s) z = .lit (.bool (F s i))
section
variable {w w' : World} {mb n np : Nat} {F : List Int → Nat → Bool}
theorem DriedAt.made (w : World) (np : Nat) (F : List Int → Nat → Bool) : DriedAt (w.alloc (.map #[] 0)) w.heap.size 0 np F :=
  ⟨.map [], World.ownsMap_made _ _ _ _, isMap_empty, fun _ _ _ _ _ => .inl fun z => by simp [DataW.atKey]⟩
theorem DriedAt.lt (h : DriedAt w mb n np F) : mb < w.heap.size := let ⟨_, h, _⟩ := h; h.lt
theorem DriedAt.mono (h : DriedAt w mb n np F) {n' : Nat} (hn : n ≤ n') : DriedAt w mb n' np F := let ⟨D, h1, h2, h3⟩ := h; ⟨D, h1.mono hn, h2, h3⟩
theorem DriedAt.of_same (h : DriedAt w mb n np F) (hs : w'.heap[mb]? = w.heap[mb]?) : DriedAt w' mb n np F := by
  obtain ⟨D, ⟨es, clock, hb, F, hn, hD⟩, r⟩ := h
  exact ⟨D, ⟨es, clock, hs.trans hb, F, hn, hD⟩, r⟩
theorem DriedAt.below (h : DriedAt w mb n np F) (hb : Below w.heap.size w w') : DriedAt w' mb n np F := h.of_same (hb.block _ h.lt)
theorem DriedAt.look (h : DriedAt w mb n np F) {i : Nat} {s : List Int} (hi : i ≤ 5) (hl : s.length = np) (hs : SetOk s) :
    ∃ found : Bool, (Instr.lookup 68 (.map (some mb)) (.agg (runA i s)) true).run Tryz.prog w = .ok (.tuple #[.bool (found && F s i), .bool found]) w := by
  obtain ⟨D, ⟨es, clock, hb, FF, hn, rfl⟩, hm, hat⟩ := h
  have hz : (zeroValue 4).run Tryz.prog w = .ok (.bool false) w := Tryz.zeroValue4 w
  rcases fit_look true runKeyed Tryz.underlying68 hz hb FF (key_run hi hs) with ⟨hrun, _, _⟩ | ⟨e0, y, _, _, hrun, hy, hat2, _⟩
  · exact ⟨false, by rw [hrun]; rfl⟩
  · refine ⟨true, ?_⟩
    rcases hat i s hi hl hs with h | h
    · have h1 := h (.lit (.bool true))
      have h2 := h (.lit (.bool false))
      rw [hat2] at h1 h2
      rw [h1] at h2
      simp at h2
    · have h1 := h (.lit (.bool true))
      rw [hat2] at h1
      rw [hrun, if_pos rfl]
      have hu : Tryz.prog.underlying 4 = some .bool := Tryz.underlying4
      unfold plainElem at hy
      rw [hu] at hy
      cases hv : e0.val <;> rw [hv] at hy <;> simp at hy
      subst hy
      simp at h1
      simp [h1]
theorem DriedAt.put (h : DriedAt w mb n np F) (hn : n < maxLen) {i : Nat} {s : List Int} (hF : ∀ t, t.length = np → SetOk t → at0 t 0 = at0 s 0 → at0 t 1 = at0 s 1 → at0 t 2 = at0 s 2 → at0 t 3 = at0 s 3 → F t i = F s i) (hi : i ≤ 5) (hs : SetOk s) :
    ∃ w', (Instr.mapUpdate 68 (.map (some mb)) (.agg (runA i s)) (.bool (F s i))).run Tryz.prog w = .ok () w' ∧ DriedAt w' mb (n + 1) np F ∧ w.grownBy w' (some mb) := by
  obtain ⟨D, hown, hm, hat⟩ := h
  obtain ⟨w', hrun, hown', hg⟩ := hown.update runKeyed Tryz.underlying68 hn (key_run hi hs) (plainElem_bool Tryz.underlying4 (F s i))
  refine ⟨w', hrun, ⟨_, hown', hm.put _ _, ?_⟩, hg⟩
  intro j t hj hl ht
  by_cases he : klit j t = klit i s
  · obtain ⟨rfl, e0, e1, e2, e3⟩ := klit_inj hj ht hi hs he
    right
    intro z
    rw [he, hF t hl ht e0 e1 e2 e3]
    exact atKey_put_same hm (runKeyed.key (key_run hi hs)) _ _
  · rcases hat j t hj hl ht with h | h
    · exact .inl fun z => by rw [atKey_put_other he]; exact h z
    · exact .inr fun z => by rw [atKey_put_other he]; exact h z
end
theorem set_ext {s t : List Int} (hs : s.length ≤ 4) (hl : s.length = t.length) (h0 : at0 s 0 = at0 t 0) (h1 : at0 s 1 = at0 t 1) (h2 : at0 s 2 = at0 t 2) (h3 : at0 s 3 = at0 t 3) : s = t := by
  apply List.ext_getElem hl
  intro i hi hj
  rw [← at0_lt hi, ← at0_lt hj]
  obtain rfl | rfl | rfl | rfl : i = 0 ∨ i = 1 ∨ i = 2 ∨ i = 3 := by omega
  all_goals assumption
end Go.Proofs.YticfcdbfplfmlaaGreat.Tu
/- Layer 3: a book in memory. -/
namespace Go.Proofs.YticfcdbfplfmlaaGreat.Tu
open Go.RowKit

/-- Such parts lie in memory. -/
def PtsAt (w : World) (p : Option Addr) (ps : List Pt) : Prop :=
  ∀ i (h : i < ps.length), ∃ b o, p = some ⟨b, o, none⟩ ∧ w.cell? ⟨b, o + i * 6, none⟩ = some (.int .i64 ps[i].h0) ∧ w.cell? ⟨b, o + i * 6 + 1, none⟩ = some (.int .i64 ps[i].h1) ∧ w.cell? ⟨b, o + i * 6 + 2, none⟩ = some (.int .i64 ps[i].h2) ∧ w.cell? ⟨b, o + i * 6 + 3, none⟩ = some (.int .i64 ps[i].h3) ∧ w.cell? ⟨b, o + i * 6 + 4, none⟩ = some (.int .i64 ps[i].lo) ∧ w.cell? ⟨b, o + i * 6 + 5, none⟩ = some (.int .i64 ps[i].hi)
theorem PtsAt.below {w w' : World} {p : Option Addr} {ps : List Pt} (h : PtsAt w p ps) (hb : Below w.heap.size w w') : PtsAt w' p ps := by
  intro i hi
  obtain ⟨b, o, hp, h0, h1, h2, h3, h4, h5⟩ := h i hi
  have hlt : b < w.heap.size := cell_block h0
  have key : ∀ k, w'.cell? ⟨b, k, none⟩ = w.cell? ⟨b, k, none⟩ := fun k => (bcell hb).1 b _ hlt
  exact ⟨b, o, hp, by rw [key]; exact h0, by rw [key]; exact h1, by rw [key]; exact h2, by rw [key]; exact h3, by rw [key]; exact h4, by rw [key]; exact h5⟩
/-- A frame, and where its minutes lie. -/
structure FrM where
  p : Option Addr
  c : Nat
  f : Fr
def FrM.A (m : FrM) : Array Value := #[.slice m.p m.f.stay.length m.c, .int .i64 m.f.lo, .int .i64 m.f.hi]
/-- Such frames lie in memory. -/
def FrsAt (w : World) (p : Option Addr) (ms : List FrM) : Prop :=
  ∀ i (h : i < ms.length), ∃ b o, p = some ⟨b, o, none⟩ ∧ w.cell? ⟨b, o + i * 3, none⟩ = some (.slice ms[i].p ms[i].f.stay.length ms[i].c) ∧ w.cell? ⟨b, o + i * 3 + 1, none⟩ = some (.int .i64 ms[i].f.lo) ∧ w.cell? ⟨b, o + i * 3 + 2, none⟩ = some (.int .i64 ms[i].f.hi) ∧ IntsAt w ms[i].p ms[i].f.stay
theorem FrsAt.below {w w' : World} {p : Option Addr} {ms : List FrM} (h : FrsAt w p ms) (hb : Below w.heap.size w w') : FrsAt w' p ms := by
  intro i hi
  obtain ⟨b, o, hp, h0, h1, h2, h3⟩ := h i hi
  have hlt : b < w.heap.size := cell_block h0
  have key : ∀ k, w'.cell? ⟨b, k, none⟩ = w.cell? ⟨b, k, none⟩ := fun k => (bcell hb).1 b _ hlt
  exact ⟨b, o, hp, by rw [key]; exact h0, by rw [key]; exact h1, by rw [key]; exact h2, h3.below hb⟩
/-- A book. -/
structure BkAt (w : World) (pp pf : Option Addr) (ps : List Pt) (ms : List FrM) : Prop where
  p : PtsAt w pp ps
  f : FrsAt w pf ms
  b1 : ps.length < 2 ^ 62
  b2 : ms.length < 2 ^ 62
  b3 : ∀ m ∈ ms, m.f.stay.length < 2 ^ 62
theorem BkAt.below {w w' : World} {pp pf : Option Addr} {ps : List Pt} {ms : List FrM} (h : BkAt w pp pf ps ms) (hb : Below w.heap.size w w') : BkAt w' pp pf ps ms := ⟨h.p.below hb, h.f.below hb, h.b1, h.b2, h.b3⟩
/-- The frames of a book. -/
def frsM (ms : List FrM) : List Fr := ms.map (·.f)
theorem frsM_length (ms : List FrM) : (frsM ms).length = ms.length := by simp [frsM]
end Go.Proofs.YticfcdbfplfmlaaGreat.Tu
/- The walks of layer 3: small functions. -/
namespace Go.Proofs.YticfcdbfplfmlaaGreat.Tu
open Go.RowKit Go.Maps
attribute [local go_sem] Oper.semAt_some

theorem alloc_setRow (w : World) (old cs : Array Value) (t : TypeId) : (w.alloc (.cells old t)).setRow w.heap.size cs = w.alloc (.cells cs t) := by
  have e : (w.heap.push (Obj.cells old t)).modify w.heap.size (fun x => match x with | Obj.cells c elem frozen => Obj.cells cs elem frozen | o => o) = w.heap.push (Obj.cells cs t) := by
    apply Array.ext
    · simp
    · intro i h1 h2
      rw [Array.getElem_modify]
      simp only [Array.size_push] at h2
      by_cases hi : i = w.heap.size
      · subst hi; simp
      · rw [if_neg (Ne.symm hi), Array.getElem_push_lt (by omega), Array.getElem_push_lt (by omega)]
  show ({ heap := _, tape := w.tape, drawn := w.drawn, os := w.os, output := w.output } : World) = { heap := _, tape := w.tape, drawn := w.drawn, os := w.os, output := w.output }
  congr 1
/-- A new variable gets its value. -/
theorem store_new {P : Program} {ops : Array Oper} {rest : List Oper} {op : Oper} {a : Act} {w : World} {Q : Exit → Act → World → Prop} (hgd : op.guard = none) (ty : TypeId) (x y : Operand) (ho : op.op = .store ty x y)
    (cs old : Array Value) (t : TypeId) (hx : a.eval x = .pointer (some ⟨w.heap.size, 0, none⟩)) (hy : a.eval y = .agg cs)
    (hi : (P.info? ty).map (·.size) = some cs.size) (hold : old.size = cs.size) (h1 : cs.all (·.oneCell') = true)
    (h : wpList P ops Q rest (a.put op.dst undef) (w.alloc (.cells cs t))) : wpList P ops Q (op :: rest) a (w.alloc (.cells old t)) :=
  store_row hgd ty x y ho w.heap.size cs old t hx hy (Row.new _ _ _) hi hold h1 (by rw [alloc_setRow]; exact h)
/-- The same in a round. -/
theorem store_newIn {F : Fence} {n : Nat} {P : Program} {ops : Array Oper} {rest : List Oper} {op : Oper} {a : Act} {w : World} {Q : Exit → Act → World → Prop} (hgd : op.guard = none) (ty : TypeId) (x y : Operand) (ho : op.op = .store ty x y)
    (cs old : Array Value) (t : TypeId) (hx : a.eval x = .pointer (some ⟨w.heap.size, 0, none⟩)) (hy : a.eval y = .agg cs)
    (hi : (P.info? ty).map (·.size) = some cs.size) (hold : old.size = cs.size) (h1 : cs.all (·.oneCell') = true)
    (h : wpListIn F n P ops Q rest (a.put op.dst undef) (w.alloc (.cells cs t))) : wpListIn F n P ops Q (op :: rest) a (w.alloc (.cells old t)) :=
  wpListIn_plain hgd fun K hK => by
    refine ⟨fun f hf => by simp [Oper.about, ho] at hf, ?_⟩
    rw [Oper.semAt_eq _ _ _ (by intro c hc; rw [ho] at hc; cases hc)]
    unfold execOp
    simp only [ho, hx, hy, Instr.storeAt, Instr.sureAddr, Sem.run_bind, Sem.run_pure, Result.andThen_ok, run_storeVar_row (w.alloc (.cells old t)) w.heap.size t ty old cs (Row.new _ _ _) hi hold h1]
    rw [alloc_setRow]
    exact hK _ _ h

theorem Row.new1 (w : World) (o : Obj) (cs : Array Value) (t : TypeId) : Row ((w.alloc o).alloc (.cells cs t)) (w.heap.size + 1) cs t := Row.new' (by simp) _ _
theorem Row.new2 (w : World) (o o' : Obj) (cs : Array Value) (t : TypeId) : Row (((w.alloc o).alloc o').alloc (.cells cs t)) (w.heap.size + 1 + 1) cs t := Row.new' (by simp) _ _
theorem below_alloc2 (w : World) (o o' : Obj) : Below w.heap.size w ((w.alloc o).alloc o') := (below_alloc _ _).alloc (by simp) _
theorem below_alloc3 (w : World) (o o' o'' : Obj) : Below w.heap.size w (((w.alloc o).alloc o').alloc o'') := (below_alloc2 _ _ _).alloc (by simp; omega) _
def frA (m : FrM) : Array Value := #[.slice m.p m.f.stay.length m.c, .int .i64 m.f.lo, .int .i64 m.f.hi]

theorem least_any (p : Pt) (w : World) : Calls Tryz.prog 90 #[.agg p.A] w fun e w' => e = .returned (.int .i64 p.lo) ∧ Below w.heap.size w w' := by
  unfold Pt.A
  go_enter Tryz.func90, Tryz.ntmps90
  go_wp2
  go_ret
  exact ⟨rfl, below_alloc _ _⟩
theorem mostDamp_any (p : Pt) (w : World) : Calls Tryz.prog 88 #[.agg p.A] w fun e w' => e = .returned (.int .i64 p.hi) ∧ Below w.heap.size w w' := by
  unfold Pt.A
  go_enter Tryz.func88, Tryz.ntmps88
  go_wp2
  go_ret
  exact ⟨rfl, below_alloc _ _⟩
theorem wet_any (m : FrM) (n : Int) (w : World) : Calls Tryz.prog 89 #[.agg m.A, .int .i64 n] w fun e w' => e = .returned (.bool (decide (n < m.f.lo))) ∧ Below w.heap.size w w' := by
  unfold FrM.A
  go_enter Tryz.func89, Tryz.ntmps89
  go_wp2
  go_ret
  exact ⟨rfl, below_alloc _ _⟩
theorem dryF_any (m : FrM) (n : Int) (w : World) : Calls Tryz.prog 91 #[.agg m.A, .int .i64 n] w fun e w' => e = .returned (.bool (decide (m.f.hi < n))) ∧ Below w.heap.size w w' := by
  unfold FrM.A
  go_enter Tryz.func91, Tryz.ntmps91
  go_wp2
  go_ret
  exact ⟨rfl, below_alloc _ _⟩
def endsA : Array Value := #[.func (.func 88) #[] #[], .func (.func 89) #[] #[], .int .i64 1, .func (.func 90) #[] #[], .func (.func 91) #[] #[], .int .i64 2]
set_option maxRecDepth 10000 in
theorem ends_any (w : World) : Calls Tryz.prog 66 #[] w fun e w' => e = .returned (.agg endsA) ∧ Below w.heap.size w w' := by
  go_enter Tryz.func66, Tryz.ntmps66
  go_wp2_with (first | (refine store_new rfl 144 _ _ rfl endsA #[.nilFunc, .nilFunc, .int .i64 0, .nilFunc, .nilFunc, .int .i64 0] 144 rfl rfl (by kernel_rfl) rfl (by simp [endsA, Value.oneCell']) ?_))
  exact bodyPost_ret (v := .agg endsA) (by simp [results, Tryz.results66, endsA, go_sem]) rfl ⟨rfl, below_alloc _ _⟩
theorem sum_any (p : Option Addr) (n c : Nat) (xs : List Int) (w : World) (hn : xs.length = n) (h4 : n ≤ 4) (hc : IntsAt w p xs) :
    Calls Tryz.prog 92 #[.slice p n c] w fun e w' => e = .returned (.int .i64 (total xs)) ∧ w = w' := by
  subst hn
  go_enter Tryz.func92, Tryz.ntmps92
  go_wp2
  go_loop [3, 8] (fun t i => ∃ k : Nat, k ≤ xs.length ∧ i = .int .i64 k ∧ t = .int .i64 (total (xs.take k))) (fun _ i => xs.length - (intOf i).toNat)
  case atStart => exact ⟨0, Nat.zero_le _, rfl, rfl⟩
  case round =>
    obtain ⟨k, hk, rfl, rfl⟩ := hrel
    by_cases hlt : k < xs.length
    · obtain ⟨b, o, rfl, hcell⟩ := hc k hlt
      clear hc
      go_wp2
      go_round
      case rel => exact ⟨k + 1, by omega, by go_num, by rw [total_take _ _ hlt]⟩
      case measure => simp [intOf]; omega
    · clear hc
      go_wp2
      go_ret
      exact ⟨ret_int (by rw [List.take_of_length_le (by omega)]), rfl⟩
/-- A book, and a passage, as the program keeps them. -/
abbrev bookA (pp : Option Addr) (np cp : Nat) (pf : Option Addr) (nf cf mb : Nat) : Array Value := #[.slice pp np cp, .slice pf nf cf, .map (some mb)]
abbrev pasA (pp : Option Addr) (np cp : Nat) (pf : Option Addr) (nf cf mb : Nat) (s : List Int) : Array Value := #[.slice pp np cp, .slice pf nf cf, .map (some mb), .int .i64 (at0 s 0), .int .i64 (at0 s 1), .int .i64 (at0 s 2), .int .i64 (at0 s 3)]
theorem pasA_at (pp : Option Addr) (np cp : Nat) (pf : Option Addr) (nf cf mb : Nat) (s : List Int) {i : Nat} (hi : i < 4) : (pasA pp np cp pf nf cf mb s)[3 + i]? = some (.int .i64 (at0 s i)) := by
  obtain rfl | rfl | rfl | rfl : i = 0 ∨ i = 1 ∨ i = 2 ∨ i = 3 := by omega
  all_goals rfl
theorem PtsAt.heat {w : World} {p : Option Addr} {ps : List Pt} (h : PtsAt w p ps) {i : Nat} (hi : i < ps.length) {d : Nat} (hd : d ≤ 3) : ∃ b o, p = some ⟨b, o, none⟩ ∧ w.cell? ⟨b, o + i * 6 + d, none⟩ = some (.int .i64 (ps[i].h d)) := by
  obtain ⟨b, o, hp, h0, h1, h2, h3, _, _⟩ := h i hi
  refine ⟨b, o, hp, ?_⟩
  obtain rfl | rfl | rfl | rfl : d = 0 ∨ d = 1 ∨ d = 2 ∨ d = 3 := by omega
  · exact h0
  · exact h1
  · exact h2
  · exact h3
/-- Numbers of the first parts; the others are 0. -/
def firstL (f : Nat → Int) (k : Nat) : List Int := (List.range 4).map fun i => if i < k then f i else 0
theorem firstL_length (f : Nat → Int) (k : Nat) : (firstL f k).length = 4 := by simp [firstL]
theorem firstL_zero (f : Nat → Int) : firstL f 0 = [0, 0, 0, 0] := by simp [firstL, List.range_succ]
theorem firstL_set (f : Nat → Int) {k : Nat} (hk : k < 4) : (firstL f k).set k (f k) = firstL f (k + 1) := by
  apply List.ext_getElem?
  intro j
  rw [List.getElem?_set]
  by_cases hj : j < 4
  · by_cases h : k = j
    · subst h; simp [firstL, hk]
    · have h2 : (j < k + 1) ↔ (j < k) := by omega
      simp [firstL, h, hj, h2]
  · simp [firstL, hj]; omega
theorem firstL_total (f : Nat → Int) {k : Nat} (hk : k ≤ 4) (hf : ∀ i, i < k → -1000000 ≤ f i ∧ f i ≤ 1000000) : total (firstL f k) = ((List.range k).map f).sum := by
  have e : ∀ a b c d : Int, total [a, b, c, d] = wrap64 (wrap64 (wrap64 (wrap64 (0 + a) + b) + c) + d) := fun _ _ _ _ => rfl
  obtain rfl | rfl | rfl | rfl | rfl : k = 0 ∨ k = 1 ∨ k = 2 ∨ k = 3 ∨ k = 4 := by omega
  · rw [firstL_zero, e]
    simp only [List.range_zero, List.map_nil, List.sum_nil, Int.add_zero]
    rw [IntWalk.wrap64_in 0 (by omega), IntWalk.wrap64_in 0 (by omega), IntWalk.wrap64_in 0 (by omega), IntWalk.wrap64_in 0 (by omega)]
  · have := hf 0 (by omega)
    rw [show firstL f 1 = [f 0, 0, 0, 0] from rfl, e]
    simp only [List.range_succ, List.range_zero, List.map_cons, List.map_nil, List.nil_append, List.sum_cons, List.sum_nil, Int.add_zero, Int.zero_add]
    rw [IntWalk.wrap64_in (f 0) (by omega), IntWalk.wrap64_in (f 0) (by omega), IntWalk.wrap64_in (f 0) (by omega), IntWalk.wrap64_in (f 0) (by omega)]
  · have := hf 0 (by omega)
    have := hf 1 (by omega)
    rw [show firstL f 2 = [f 0, f 1, 0, 0] from rfl, e]
    simp only [List.range_succ, List.range_zero, List.map_cons, List.map_nil, List.nil_append, List.cons_append, List.sum_cons, List.sum_nil, Int.add_zero, Int.zero_add]
    rw [IntWalk.wrap64_in (f 0) (by omega), IntWalk.wrap64_in (f 0 + f 1) (by omega), IntWalk.wrap64_in (f 0 + f 1) (by omega), IntWalk.wrap64_in (f 0 + f 1) (by omega)]
  · have := hf 0 (by omega)
    have := hf 1 (by omega)
    have := hf 2 (by omega)
    rw [show firstL f 3 = [f 0, f 1, f 2, 0] from rfl, e]
    simp only [List.range_succ, List.range_zero, List.map_cons, List.map_nil, List.nil_append, List.cons_append, List.sum_cons, List.sum_nil, Int.add_zero, Int.zero_add]
    rw [IntWalk.wrap64_in (f 0) (by omega), IntWalk.wrap64_in (f 0 + f 1) (by omega), IntWalk.wrap64_in (f 0 + f 1 + f 2) (by omega), IntWalk.wrap64_in (f 0 + f 1 + f 2) (by omega)]
    omega
  · have := hf 0 (by omega)
    have := hf 1 (by omega)
    have := hf 2 (by omega)
    have := hf 3 (by omega)
    rw [show firstL f 4 = [f 0, f 1, f 2, f 3] from rfl, e]
    simp only [List.range_succ, List.range_zero, List.map_cons, List.map_nil, List.nil_append, List.cons_append, List.sum_cons, List.sum_nil, Int.add_zero, Int.zero_add]
    rw [IntWalk.wrap64_in (f 0) (by omega), IntWalk.wrap64_in (f 0 + f 1) (by omega), IntWalk.wrap64_in (f 0 + f 1 + f 2) (by omega), IntWalk.wrap64_in (f 0 + f 1 + f 2 + f 3) (by omega)]
    omega
end Go.Proofs.YticfcdbfplfmlaaGreat.Tu
/- The walks of layer 3: the heat of a setting, how dry a frame is. -/
namespace Go.Proofs.YticfcdbfplfmlaaGreat.Tu
open Go.RowKit Go.Maps
attribute [local go_sem] Oper.semAt_some

theorem intsA_at4 {l : List Int} (hl : l.length = 4) {i : Nat} (hi : i < 4) : (intsA l)[i]? = some (.int .i64 (at0 l i)) := intsA_at (by omega)
theorem zeros4 : (#[.int .i64 0, .int .i64 0, .int .i64 0, .int .i64 0] : Array Value) = intsA [0, 0, 0, 0] := rfl
theorem row_free {w : World} {b : Nat} {cs : Array Value} {t : TypeId} (h : Row w b cs t) (i : Nat) : w.frozen? ⟨b, i, none⟩ = false := h.free i

def heatF (ps : List Pt) (s : List Int) (i : Nat) : Int := match ps[i]? with
  | some p => p.h (at0 s i)
  | none => 0
theorem heatF_at {ps : List Pt} {s : List Int} {i : Nat} (h : i < ps.length) : heatF ps s i = ps[i].h (at0 s i) := by simp [heatF, h]
theorem heatD_sum {ps : List Pt} (s : List Int) (hok : ∀ p ∈ ps, PtOk p) (h4 : ps.length ≤ 4) : total (firstL (heatF ps s) ps.length) = heatD ps s := by
  rw [firstL_total _ h4]
  · rfl
  · intro i hi
    rw [heatF_at hi]
    have := Pt.h_range (hok ps[i] (List.getElem_mem _)) (at0 s i)
    omega

set_option maxRecDepth 10000 in
set_option maxHeartbeats 800000 in
theorem heat_any (pp : Option Addr) (cp : Nat) (pf : Option Addr) (nf cf mb : Nat) (s : List Int) (ps : List Pt) (w : World) (hp : PtsAt w pp ps) (hok : ∀ p ∈ ps, PtOk p) (h4 : ps.length ≤ 4) (hs : SetOk s) :
    Calls Tryz.prog 87 #[.agg (pasA pp ps.length cp pf nf cf mb s)] w fun e w' => e = .returned (.int .i64 (heatD ps s)) ∧ Below w.heap.size w w' := by
  have HP := Lib.hid hp
  clear hp
  unfold pasA
  go_enter Tryz.func87, Tryz.ntmps87
  go_wp2
  go_loopw [10] (fun i wr => ∃ k : Nat, k ≤ ps.length ∧ i = .int .i64 k ∧ Row wr w.heap.size (pasA pp ps.length cp pf nf cf mb s) 83 ∧ Row wr (w.heap.size + 1) (intsA (firstL (heatF ps s) k)) 74 ∧ Below w.heap.size w wr) (fun i _ => ps.length - (intOf i).toNat)
  case atStart => exact ⟨0, by omega, rfl, (Row.new _ _ _).alloc _, by rw [firstL_zero]; exact Row.new1 _ _ _ _, below_alloc2 _ _ _⟩
  case round =>
    obtain ⟨k, hk, rfl, r0, r1, hb⟩ := hrel
    by_cases hlt : k < ps.length
    · obtain ⟨d, hd⟩ : ∃ d : Nat, at0 s k = d := ⟨(at0 s k).toNat, by have := hs.at k; omega⟩
      have hd3 : d ≤ 3 := by have := hs.at k; omega
      obtain ⟨b, o, rfl, hcell⟩ := (HP.out.below hb).heat hlt hd3
      have c0 := r0.cell 0 (v := .slice (some ⟨b, o, none⟩) ps.length cp) rfl
      have c3 := r0.cell (3 + k) (pasA_at _ _ _ _ _ _ _ s (by omega : k < 4))
      rw [hd] at c3
      have c4 := r1.cell k (intsA_at4 (firstL_length _ _) (by omega))
      have f4 := r1.free k
      have HR := Lib.hid r0
      have HQ := Lib.hid r1
      have HB := Lib.hid hb
      have HD := Lib.hid hd
      have hz := r1.lt
      clear r0 r1 hb hd
      go_wp2
      go_region
      all_goals
        go_wp2
        go_roundw
        case rel =>
          refine ⟨k + 1, by omega, by go_num, (HR.out.set_other _ _ (by dsimp only; omega)).drew, ?_, (HB.out.setCell (by dsimp only; omega) _).drew⟩
          have h := (HQ.out.set k (.int .i64 (ps[k].h d))).drew
          rw [intsA_set, show ps[k].h (d : Int) = heatF ps s k by rw [heatF_at hlt, HD.out], firstL_set _ (by omega)] at h
          rw [show ps[k].h (d : Int) = heatF ps s k by rw [heatF_at hlt, HD.out]]
          exact h
        case measure => simp [intOf]; omega
    · have e : k = ps.length := by omega
      subst e
      have HI := Lib.hid (ints_row r1)
      have HS := Lib.hid (heatD_sum s hok h4)
      go_wp2_with (first | (refine (sum_any _ _ _ _ _ (firstL_length _ _) (by decide) HI.out).mono ?_; rintro e w1 ⟨rfl, rfl⟩))
      go_ret
      exact ⟨ret_int HS.out, hb⟩
end Go.Proofs.YticfcdbfplfmlaaGreat.Tu
