/- Layer 3, in plain lists: parts, frames, what is known of a valid book, how dry frames are. -/
import Derived.Test.YtfppcmechfjpoaaC
namespace Go.Proofs.Ytfppcmechfjpoaa
open Go.RowKit

/-- A part of the tunnel. -/
structure Pt where
  h0 : Int
  h1 : Int
  h2 : Int
  h3 : Int
  lo : Int
  hi : Int
/-- A frame. -/
structure Fr where
  stay : List Int
  lo : Int
  hi : Int
def Pt.h (p : Pt) (s : Int) : Int := if s = 0 then p.h0 else if s = 1 then p.h1 else if s = 2 then p.h2 else p.h3
def Pt.A (p : Pt) : Array Value := #[.int .i64 p.h0, .int .i64 p.h1, .int .i64 p.h2, .int .i64 p.h3, .int .i64 p.lo, .int .i64 p.hi]
/-- May a tunnel have the part, the frame? -/
def ptB (p : Pt) : Bool := decide (0 ≤ p.h0 ∧ p.h0 ≤ p.h1 ∧ p.h1 ≤ p.h2 ∧ p.h2 ≤ p.h3 ∧ p.h3 ≤ 20 ∧ 0 ≤ p.lo ∧ p.lo ≤ p.hi ∧ p.hi ≤ 20 ∧ p.hi - p.lo ≤ 3)
def frB (n : Nat) (f : Fr) : Bool := f.stay.all (fun s => decide (0 ≤ s ∧ s ≤ 20)) && decide (f.stay.length = n) && decide (0 ≤ f.lo ∧ f.lo ≤ f.hi ∧ f.hi ≤ 999)
def bookB (ps : List Pt) (fs : List Fr) : Bool := decide (1 ≤ ps.length) && decide (ps.length ≤ 4) && decide (fs.length ≤ 5) && ps.all ptB && fs.all (frB ps.length)
def bookE (ps : List Pt) (fs : List Fr) : Int := if bookB ps fs then 0 else 30
structure PtOk (p : Pt) : Prop where
  a0 : 0 ≤ p.h0
  a1 : p.h0 ≤ p.h1
  a2 : p.h1 ≤ p.h2
  a3 : p.h2 ≤ p.h3
  a4 : p.h3 ≤ 20
  l0 : 0 ≤ p.lo
  l1 : p.lo ≤ p.hi
  l2 : p.hi ≤ 20
  l3 : p.hi - p.lo ≤ 3
structure FrOk (n : Nat) (f : Fr) : Prop where
  s : ∀ s ∈ f.stay, 0 ≤ s ∧ s ≤ 20
  n : f.stay.length = n
  l0 : 0 ≤ f.lo
  l1 : f.lo ≤ f.hi
  l2 : f.hi ≤ 999
structure BookOk (ps : List Pt) (fs : List Fr) : Prop where
  p1 : 1 ≤ ps.length
  p4 : ps.length ≤ 4
  f5 : fs.length ≤ 5
  p : ∀ p ∈ ps, PtOk p
  f : ∀ f ∈ fs, FrOk ps.length f
theorem ptB_iff {p : Pt} : ptB p = true ↔ PtOk p := by
  simp only [ptB, decide_eq_true_eq]
  exact ⟨fun ⟨a, b, c, d, e, f, g, h, i⟩ => ⟨a, b, c, d, e, f, g, h, i⟩, fun ⟨a, b, c, d, e, f, g, h, i⟩ => ⟨a, b, c, d, e, f, g, h, i⟩⟩
theorem frB_iff {n : Nat} {f : Fr} : frB n f = true ↔ FrOk n f := by
  simp only [frB, Bool.and_eq_true, List.all_eq_true, decide_eq_true_eq]
  exact ⟨fun ⟨⟨a, b⟩, c, d, e⟩ => ⟨a, b, c, d, e⟩, fun ⟨a, b, c, d, e⟩ => ⟨⟨a, b⟩, c, d, e⟩⟩
theorem bookB_iff {ps : List Pt} {fs : List Fr} : bookB ps fs = true ↔ BookOk ps fs := by
  simp only [bookB, Bool.and_eq_true, List.all_eq_true, decide_eq_true_eq, ptB_iff, frB_iff]
  exact ⟨fun ⟨⟨⟨⟨a, b⟩, c⟩, d⟩, e⟩ => ⟨a, b, c, d, e⟩, fun ⟨a, b, c, d, e⟩ => ⟨⟨⟨⟨a, b⟩, c⟩, d⟩, e⟩⟩
theorem Pt.h_range {p : Pt} (h : PtOk p) (s : Int) : 0 ≤ p.h s ∧ p.h s ≤ 20 := by
  obtain ⟨a, b, c, d, e, _, _, _, _⟩ := h
  unfold Pt.h
  split
  · omega
  · split
    · omega
    · split <;> omega
theorem Pt.h_mono {p : Pt} (h : PtOk p) {s t : Int} (hst : s ≤ t) (h0 : 0 ≤ s) : p.h s ≤ p.h t := by
  obtain ⟨a, b, c, d, e, _, _, _, _⟩ := h
  unfold Pt.h
  (repeat' split) <;> omega
/-- What a part dries of a frame, with some damp; how dry a frame is, as far as some parts go. -/
def dryAt (p : Pt) (s stay damp : Int) : Int := stay * max 0 (p.h s - damp)
def dryTo (d : Pt → Int) (ps : List Pt) (s stay : List Int) (n : Nat) : Int := ((List.range n).map fun i => match ps[i]? with
  | some p => dryAt p (at0 s i) (at0 stay i) (d p)
  | none => 0).sum
def dryD (d : Pt → Int) (ps : List Pt) (s stay : List Int) : Int := dryTo d ps s stay ps.length
def heatTo (ps : List Pt) (s : List Int) (n : Nat) : Int := ((List.range n).map fun i => match ps[i]? with
  | some p => p.h (at0 s i)
  | none => 0).sum
def heatD (ps : List Pt) (s : List Int) : Int := heatTo ps s ps.length
theorem dryTo_succ {d : Pt → Int} {ps : List Pt} {s stay : List Int} {n : Nat} (h : n < ps.length) : dryTo d ps s stay (n + 1) = dryTo d ps s stay n + dryAt ps[n] (at0 s n) (at0 stay n) (d ps[n]) := by
  simp [dryTo, List.range_succ, List.map_append, List.sum_append, List.getElem?_eq_getElem h]
theorem heatTo_succ {ps : List Pt} {s : List Int} {n : Nat} (h : n < ps.length) : heatTo ps s (n + 1) = heatTo ps s n + ps[n].h (at0 s n) := by
  simp [heatTo, List.range_succ, List.map_append, List.sum_append, List.getElem?_eq_getElem h]
theorem at0_mem {l : List Int} {i : Nat} (h : i < l.length) : at0 l i ∈ l := by rw [at0_lt h]; exact List.getElem_mem _
theorem dryAt_range {p : Pt} (hp : PtOk p) {s stay damp : Int} (h0 : 0 ≤ stay) (h1 : stay ≤ 20) (hd : 0 ≤ damp) : 0 ≤ dryAt p s stay damp ∧ dryAt p s stay damp ≤ 400 := by
  have := Pt.h_range hp s
  unfold dryAt
  have hm : 0 ≤ max 0 (p.h s - damp) ∧ max 0 (p.h s - damp) ≤ 20 := by omega
  constructor
  · exact Int.mul_nonneg h0 hm.1
  · have h2 : stay * max 0 (p.h s - damp) ≤ stay * 20 := Int.mul_le_mul_of_nonneg_left hm.2 h0
    omega
theorem dryTo_range {d : Pt → Int} {ps : List Pt} {s stay : List Int} (hp : ∀ p ∈ ps, PtOk p) (hs : ∀ x ∈ stay, 0 ≤ x ∧ x ≤ 20) (hl : stay.length = ps.length) (hd : ∀ p ∈ ps, 0 ≤ d p) : ∀ n, n ≤ ps.length → 0 ≤ dryTo d ps s stay n ∧ dryTo d ps s stay n ≤ 400 * n
  | 0, _ => by simp [dryTo]
  | n + 1, h => by
    have ih := dryTo_range (s := s) hp hs hl hd n (by omega)
    have hx := hs _ (at0_mem (l := stay) (i := n) (by omega))
    have := dryAt_range (hp ps[n] (List.getElem_mem _)) (s := at0 s n) hx.1 hx.2 (hd ps[n] (List.getElem_mem _))
    rw [dryTo_succ (by omega)]
    push_cast
    omega
theorem heatTo_range {ps : List Pt} {s : List Int} (hp : ∀ p ∈ ps, PtOk p) : ∀ n, n ≤ ps.length → 0 ≤ heatTo ps s n ∧ heatTo ps s n ≤ 20 * n
  | 0, _ => by simp [heatTo]
  | n + 1, h => by
    have ih := heatTo_range (s := s) hp n (by omega)
    have := Pt.h_range (hp ps[n] (List.getElem_mem _)) (at0 s n)
    rw [heatTo_succ (by omega)]
    push_cast
    omega
/-- What becomes of a frame: 1, if it may be too wet, and 2, if it may be too dry. -/
def kindD (ps : List Pt) (s : List Int) (f : Fr) : Int := (if dryD Pt.hi ps s f.stay < f.lo then 1 else 0) + (if dryD Pt.lo ps s f.stay > f.hi then 2 else 0)
end Go.Proofs.Ytfppcmechfjpoaa
/- Layer 3, in plain lists: settings, the best one of several, the frames that are dry in time. -/
namespace Go.Proofs.Ytfppcmechfjpoaa
open Go.RowKit

/-- All settings of so many parts, in their order. -/
def setsL : Nat → List (List Int)
  | 0 => [[]]
  | n + 1 => (List.range 4).flatMap fun (d : Nat) => (setsL n).map fun s => (d : Int) :: s
theorem setsL_succ (n : Nat) : setsL (n + 1) = (setsL n).map (0 :: ·) ++ ((setsL n).map (1 :: ·) ++ ((setsL n).map (2 :: ·) ++ (setsL n).map (3 :: ·))) := by
  simp [setsL, List.range_succ]
theorem setsL_length : ∀ n, (setsL n).length = 4 ^ n
  | 0 => rfl
  | n + 1 => by rw [setsL_succ]; simp [setsL_length n, Nat.pow_succ]; omega
theorem setsL_at {n d j : Nat} {x : List Int} (hd : d < 4) (h : (setsL n)[j]? = some x) : (setsL (n + 1))[d * 4 ^ n + j]? = some ((d : Int) :: x) := by
  have hj : j < 4 ^ n := by rw [← setsL_length n]; exact (List.getElem?_eq_some_iff.1 h).1
  have hl := setsL_length n
  rw [setsL_succ]
  obtain rfl | rfl | rfl | rfl : d = 0 ∨ d = 1 ∨ d = 2 ∨ d = 3 := by omega
  · rw [List.getElem?_append_left (by simp; omega)]; simp [h]
  · rw [List.getElem?_append_right (by simp; omega), List.getElem?_append_left (by simp; omega)]
    simp [hl, h]
  · rw [List.getElem?_append_right (by simp; omega), List.getElem?_append_right (by simp; omega), List.getElem?_append_left (by simp; omega)]
    simp [hl, show 2 * 4 ^ n + j - 4 ^ n - 4 ^ n = j by omega, h]
  · rw [List.getElem?_append_right (by simp; omega), List.getElem?_append_right (by simp; omega), List.getElem?_append_right (by simp; omega)]
    simp [hl, show 3 * 4 ^ n + j - 4 ^ n - 4 ^ n - 4 ^ n = j by omega, h]
theorem mem_setsL : ∀ {n : Nat} {s : List Int}, s ∈ setsL n ↔ s.length = n ∧ ∀ x ∈ s, 0 ≤ x ∧ x ≤ 3
  | 0, s => by
    simp only [setsL, List.mem_singleton]
    constructor
    · rintro rfl; simp
    · rintro ⟨h, _⟩; exact List.length_eq_zero_iff.1 h
  | n + 1, [] => by rw [setsL_succ]; simp
  | n + 1, x :: s => by
    rw [setsL_succ]
    simp only [List.mem_append, List.mem_map, List.cons.injEq, exists_eq_right_right, mem_setsL (n := n) (s := s), List.length_cons, List.mem_cons, forall_eq_or_imp]
    constructor
    · rintro (h | h | h | h) <;> obtain ⟨⟨h1, h2⟩, rfl⟩ := h <;> exact ⟨by omega, by omega, h2⟩
    · rintro ⟨h1, h2, h3⟩
      have h1' : s.length = n := by omega
      obtain e | e | e | e : x = 0 ∨ x = 1 ∨ x = 2 ∨ x = 3 := by omega
      · exact .inl ⟨⟨h1', h3⟩, e.symm⟩
      · exact .inr (.inl ⟨⟨h1', h3⟩, e.symm⟩)
      · exact .inr (.inr (.inl ⟨⟨h1', h3⟩, e.symm⟩))
      · exact .inr (.inr (.inr ⟨⟨h1', h3⟩, e.symm⟩))
theorem earlier_cons (a : Int) (s t : List Int) : earlier (a :: s) (a :: t) = earlier s t := by simp [earlier]
theorem earlier_lt {a b : Int} (h : a < b) (s t : List Int) : earlier (a :: s) (b :: t) = true := by
  have : ¬ a = b := by omega
  simp [earlier, this, h]
theorem setsL_sorted : ∀ n, (setsL n).Pairwise (fun a b => earlier a b = true)
  | 0 => by simp [setsL]
  | n + 1 => by
    have ih := setsL_sorted n
    have hm : ∀ d : Int, ((setsL n).map (d :: ·)).Pairwise (fun a b => earlier a b = true) := fun d => by
      rw [List.pairwise_map]; exact ih.imp fun h => by rw [earlier_cons]; exact h
    rw [setsL_succ]
    have hx : ∀ (a b : Int), a < b → ∀ x ∈ (setsL n).map (a :: ·), ∀ y ∈ (setsL n).map (b :: ·), earlier x y = true := by
      intro a b h x hx y hy
      simp only [List.mem_map] at hx hy
      obtain ⟨_, _, rfl⟩ := hx
      obtain ⟨_, _, rfl⟩ := hy
      exact earlier_lt h _ _
    refine List.pairwise_append.2 ⟨hm 0, List.pairwise_append.2 ⟨hm 1, List.pairwise_append.2 ⟨hm 2, hm 3, hx 2 3 (by decide)⟩, ?_⟩, ?_⟩
    · intro x h y hy
      rcases List.mem_append.1 hy with hy | hy
      · exact hx 1 2 (by decide) x h y hy
      · exact hx 1 3 (by decide) x h y hy
    · intro x h y hy
      rcases List.mem_append.1 hy with hy | hy
      · exact hx 0 1 (by decide) x h y hy
      · rcases List.mem_append.1 hy with hy | hy
        · exact hx 0 2 (by decide) x h y hy
        · exact hx 0 3 (by decide) x h y hy
theorem earlier_irrefl : ∀ s : List Int, earlier s s = false
  | [] => rfl
  | a :: s => by rw [earlier_cons]; exact earlier_irrefl s
theorem earlier_asymm : ∀ {s t : List Int}, earlier s t = true → earlier t s = false
  | [], [], _ => rfl
  | [], _ :: _, _ => rfl
  | _ :: _, [], h => by simp [earlier] at h
  | a :: s, b :: t, h => by
    by_cases e : a = b
    · subst e; rw [earlier_cons] at h ⊢; exact earlier_asymm h
    · have e2 : ¬ b = a := fun h => e h.symm
      simp [earlier, e] at h
      simp [earlier, e2]; omega
/-- The first setting: all dampers closed. -/
theorem setsL_zero : ∀ n, (setsL n)[0]? = some (List.replicate n 0)
  | 0 => rfl
  | n + 1 => by
    have := setsL_at (d := 0) (j := 0) (n := n) (by decide) (setsL_zero n)
    simpa [List.replicate_succ] using this

/-- The best one of several, the one of the least rank; of equal ones the first one. -/
def better {α : Type} (r : α → Int) (c : Option α) (o : α) : Option α := match c with
  | none => some o
  | some x => if r o < r x then some o else some x
def bestOf {α : Type} (r : α → Int) (xs : List α) : Option α := xs.foldl (better r) none
theorem bestOf_snoc {α : Type} (r : α → Int) (xs : List α) (o : α) : bestOf r (xs ++ [o]) = better r (bestOf r xs) o := by simp [bestOf]
theorem best_split {α : Type} (r : α → Int) : ∀ (ys : List α) (l1 l2 : List α) (x : α), (∀ y ∈ l1, r x < r y) → (∀ y ∈ l2, r x ≤ r y) →
    ∃ m1 x' m2, ys.foldl (better r) (some x) = some x' ∧ l1 ++ x :: l2 ++ ys = m1 ++ x' :: m2 ∧ (∀ y ∈ m1, r x' < r y) ∧ (∀ y ∈ m2, r x' ≤ r y)
  | [], l1, l2, x, h1, h2 => ⟨l1, x, l2, rfl, by simp, h1, h2⟩
  | y :: ys, l1, l2, x, h1, h2 => by
    simp only [List.foldl_cons, better]
    by_cases h : r y < r x
    · rw [if_pos h]
      obtain ⟨m1, x', m2, e, e2, a, b⟩ := best_split r ys (l1 ++ x :: l2) [] y (by
        intro z hz
        rcases List.mem_append.1 hz with hz | hz
        · have := h1 z hz; omega
        · rcases List.mem_cons.1 hz with rfl | hz
          · exact h
          · have := h2 z hz; omega) (by simp)
      exact ⟨m1, x', m2, e, by rw [← e2]; simp, a, b⟩
    · rw [if_neg h]
      obtain ⟨m1, x', m2, e, e2, a, b⟩ := best_split r ys l1 (l2 ++ [y]) x h1 (by
        intro z hz
        rcases List.mem_append.1 hz with hz | hz
        · exact h2 z hz
        · have : z = y := by simpa using hz
          subst this; omega)
      exact ⟨m1, x', m2, e, by rw [← e2]; simp, a, b⟩
theorem best_cons {α : Type} (r : α → Int) (y : α) (ys : List α) : ∃ m1 x m2, bestOf r (y :: ys) = some x ∧ y :: ys = m1 ++ x :: m2 ∧ (∀ z ∈ m1, r x < r z) ∧ (∀ z ∈ m2, r x ≤ r z) := by
  obtain ⟨m1, x, m2, e, e2, a, b⟩ := best_split r ys [] [] y (by simp) (by simp)
  exact ⟨m1, x, m2, e, by simpa using e2, a, b⟩
theorem best_some {α : Type} {r : α → Int} {xs : List α} {x : α} (h : bestOf r xs = some x) : ∃ m1 m2, xs = m1 ++ x :: m2 ∧ (∀ z ∈ m1, r x < r z) ∧ (∀ z ∈ m2, r x ≤ r z) := by
  cases xs with
  | nil => cases h
  | cons y ys =>
    obtain ⟨m1, x', m2, e, e2, a, b⟩ := best_cons r y ys
    rw [h] at e
    cases e
    exact ⟨m1, m2, e2, a, b⟩
theorem best_none {α : Type} {r : α → Int} {xs : List α} : bestOf r xs = none ↔ xs = [] := by
  cases xs with
  | nil => simp [bestOf]
  | cons y ys =>
    obtain ⟨m1, x', m2, e, _⟩ := best_cons r y ys
    simp [e]
theorem best_mem {α : Type} {r : α → Int} {xs : List α} {x : α} (h : bestOf r xs = some x) : x ∈ xs := by
  obtain ⟨m1, m2, rfl, _⟩ := best_some h
  simp
theorem best_le {α : Type} {r : α → Int} {xs : List α} {x : α} (h : bestOf r xs = some x) {y : α} (hy : y ∈ xs) : r x ≤ r y := by
  obtain ⟨m1, m2, rfl, a, b⟩ := best_some h
  rcases List.mem_append.1 hy with hy | hy
  · have := a y hy; omega
  · rcases List.mem_cons.1 hy with rfl | hy
    · omega
    · exact b y hy
/-- Of a sorted list: an earlier one of the same rank is not in the list. -/
theorem best_first {r : List Int → Int} {xs : List (List Int)} (hs : xs.Pairwise (fun a b => earlier a b = true)) {x : List Int} (h : bestOf r xs = some x) {y : List Int} (hy : y ∈ xs) (hr : r y ≤ r x) : earlier y x = false := by
  obtain ⟨m1, m2, rfl, a, b⟩ := best_some h
  rcases List.mem_append.1 hy with hy | hy
  · have := a y hy; omega
  · rcases List.mem_cons.1 hy with rfl | hy
    · exact earlier_irrefl _
    · have := (List.pairwise_append.1 hs).2.1
      exact earlier_asymm ((List.pairwise_cons.1 this).1 y hy)
theorem best_unique {α : Type} {r : α → Int} {xs m1 m2 : List α} {x : α} (h : xs = m1 ++ x :: m2) (h1 : ∀ z ∈ m1, r x < r z) (h2 : ∀ z ∈ m2, r x ≤ r z) : bestOf r xs = some x := by
  subst h
  have key : ∀ l : List α, (∀ z ∈ l, r x < r z) → bestOf r l = none ∨ ∃ q, bestOf r l = some q ∧ r x < r q := by
    intro l hl
    rcases hq : bestOf r l with _ | q
    · exact .inl rfl
    · exact .inr ⟨q, rfl, hl q (best_mem hq)⟩
  have k1 : bestOf r (m1 ++ [x]) = some x := by
    rw [bestOf_snoc]
    rcases key m1 h1 with h | ⟨q, h, hq⟩
    · rw [h]; rfl
    · rw [h]; simp [better, hq]
  have k2 : ∀ l : List α, (∀ z ∈ l, r x ≤ r z) → l.foldl (better r) (some x) = some x := by
    intro l
    induction l with
    | nil => intro _; rfl
    | cons y l ih =>
      intro hl
      have := hl y (by simp)
      rw [List.foldl_cons, show better r (some x) y = some x by simp only [better]; rw [if_neg (by omega)]]
      exact ih fun z hz => hl z (by simp [hz])
  rw [show m1 ++ x :: m2 = (m1 ++ [x]) ++ m2 by simp, bestOf, List.foldl_append]
  have k1' : (m1 ++ [x]).foldl (better r) none = some x := k1
  rw [k1', k2 m2 h2]

/-- What is so of the numbers below another one, increasing. -/
def pickL (F : Nat → Bool) (n : Nat) : List Int := ((List.range n).filter F).map fun (i : Nat) => (i : Int)
theorem pickL_succ (F : Nat → Bool) (n : Nat) : pickL F (n + 1) = if F n then pickL F n ++ [(n : Int)] else pickL F n := by
  unfold pickL
  rw [List.range_succ, List.filter_append, List.map_append]
  cases h : F n <;> simp [h]
theorem pickL_length (F : Nat → Bool) (n : Nat) : (pickL F n).length ≤ n := by
  unfold pickL
  rw [List.length_map]
  exact Nat.le_trans (List.length_filter_le _ _) (by simp)
theorem mem_pickL {F : Nat → Bool} {n : Nat} {x : Int} : x ∈ pickL F n ↔ ∃ i : Nat, x = i ∧ i < n ∧ F i = true := by
  simp only [pickL, List.mem_map, List.mem_filter, List.mem_range]
  constructor
  · rintro ⟨i, ⟨h1, h2⟩, rfl⟩; exact ⟨i, rfl, h1, h2⟩
  · rintro ⟨i, rfl, h1, h2⟩; exact ⟨i, ⟨h1, h2⟩, rfl⟩
theorem pickL_full {F : Nat → Bool} {n : Nat} : (pickL F n).length = n ↔ ∀ i, i < n → F i = true := by
  induction n with
  | zero => simp [pickL]
  | succ n ih =>
    rw [pickL_succ]
    have := pickL_length F n
    cases h : F n
    · simp only [Bool.false_eq_true, if_false]
      constructor
      · intro h2; omega
      · intro h2; have := h2 n (by omega); rw [h] at this; cases this
    · simp only [if_true, List.length_append, List.length_cons, List.length_nil]
      constructor
      · intro h2 i hi
        rcases Nat.lt_or_ge i n with h3 | h3
        · exact ih.1 (by omega) i h3
        · rw [show i = n by omega]; exact h
      · intro h2
        have := ih.2 fun i hi => h2 i (by omega)
        omega

/-- The frames that surely are dry in time; ranks of settings. -/
def dryI (ps : List Pt) (fs : List Fr) (s : List Int) (i : Nat) : Bool := match fs[i]? with
  | some f => decide (kindD ps s f = 0)
  | none => false
def goodD (ps : List Pt) (fs : List Fr) (s : List Int) : List Int := pickL (dryI ps fs s) fs.length
def rankD (ps : List Pt) (fs : List Fr) (s : List Int) : Int := heatD ps s - 1000 * ((goodD ps fs s).length : Int)
/-- The setting of the most frames. -/
def mostD (ps : List Pt) (fs : List Fr) : List Int := (bestOf (rankD ps fs) (setsL ps.length)).getD []
/-- The settings by which some frames are dry in time, and the coolest one. -/
def doesL (ps : List Pt) (fs : List Fr) (l : List Nat) : List (List Int) := (setsL ps.length).filter fun s => l.all (dryI ps fs s)
def coolD (ps : List Pt) (fs : List Fr) (l : List Nat) : Option (List Int) := bestOf (heatD ps) (doesL ps fs l)
theorem most_eq (ps : List Pt) (fs : List Fr) : bestOf (rankD ps fs) (setsL ps.length) = some (mostD ps fs) := by
  unfold mostD
  rcases h : bestOf (rankD ps fs) (setsL ps.length) with _ | x
  · rw [best_none] at h
    have := setsL_length ps.length
    rw [h] at this
    have h2 : 0 < 4 ^ ps.length := Nat.pow_pos (by decide)
    rw [List.length_nil] at this
    omega
  · rfl
theorem most_mem (ps : List Pt) (fs : List Fr) : mostD ps fs ∈ setsL ps.length := best_mem (most_eq ps fs)
end Go.Proofs.Ytfppcmechfjpoaa
