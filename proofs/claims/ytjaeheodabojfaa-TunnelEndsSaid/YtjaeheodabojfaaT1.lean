/- Layer 3, in plain lists: parts, frames, what is known of a valid book, how dry frames are. -/
import Derived.Test.YtjaeheodabojfaaC
namespace Go.Proofs.Ytjaeheodabojfaa
open Go.RowKit

/-- A part of the tunnel. -/
structure Pt where
  h0 : Int
  h1 : Int
  h2 : Int
  h3 : Int
  lo : Int
  hi : Int
/-- A frame. -/
structure Fr where
  stay : List Int
  lo : Int
  hi : Int
def Pt.h (p : Pt) (s : Int) : Int := if s = 0 then p.h0 else if s = 1 then p.h1 else if s = 2 then p.h2 else p.h3
def Pt.A (p : Pt) : Array Value := #[.int .i64 p.h0, .int .i64 p.h1, .int .i64 p.h2, .int .i64 p.h3, .int .i64 p.lo, .int .i64 p.hi]
/-- May a tunnel have the part, the frame? -/
def ptB (p : Pt) : Bool := decide (0 ≤ p.h0 ∧ p.h0 ≤ p.h1 ∧ p.h1 ≤ p.h2 ∧ p.h2 ≤ p.h3 ∧ p.h3 ≤ 20 ∧ 0 ≤ p.lo ∧ p.lo ≤ p.hi ∧ p.hi ≤ 20 ∧ p.hi - p.lo ≤ 3)
def frB (n : Nat) (f : Fr) : Bool := f.stay.all (fun s => decide (0 ≤ s ∧ s ≤ 20)) && decide (f.stay.length = n) && decide (0 ≤ f.lo ∧ f.lo ≤ f.hi ∧ f.hi ≤ 999)
def bookB (ps : List Pt) (fs : List Fr) : Bool := decide (1 ≤ ps.length) && decide (ps.length ≤ 4) && decide (fs.length ≤ 5) && ps.all ptB && fs.all (frB ps.length)
def bookE (ps : List Pt) (fs : List Fr) : Int := if bookB ps fs then 0 else 30
structure PtOk (p : Pt) : Prop where
  a0 : 0 ≤ p.h0
  a1 : p.h0 ≤ p.h1
  a2 : p.h1 ≤ p.h2
  a3 : p.h2 ≤ p.h3
  a4 : p.h3 ≤ 20
  l0 : 0 ≤ p.lo
  l1 : p.lo ≤ p.hi
  l2 : p.hi ≤ 20
  l3 : p.hi - p.lo ≤ 3
structure FrOk (n : Nat) (f : Fr) : Prop where
  s : ∀ s ∈ f.stay, 0 ≤ s ∧ s ≤ 20
  n : f.stay.length = n
  l0 : 0 ≤ f.lo
  l1 : f.lo ≤ f.hi
  l2 : f.hi ≤ 999
structure BookOk (ps : List Pt) (fs : List Fr) : Prop where
  p1 : 1 ≤ ps.length
  p4 : ps.length ≤ 4
  f5 : fs.length ≤ 5
  p : ∀ p ∈ ps, PtOk p
  f : ∀ f ∈ fs, FrOk ps.length f
theorem ptB_iff {p : Pt} : ptB p = true ↔ PtOk p := by
  simp only [ptB, decide_eq_true_eq]
  exact ⟨fun ⟨a, b, c, d, e, f, g, h, i⟩ => ⟨a, b, c, d, e, f, g, h, i⟩, fun ⟨a, b, c, d, e, f, g, h, i⟩ => ⟨a, b, c, d, e, f, g, h, i⟩⟩
theorem frB_iff {n : Nat} {f : Fr} : frB n f = true ↔ FrOk n f := by
  simp only [frB, Bool.and_eq_true, List.all_eq_true, decide_eq_true_eq]
  exact ⟨fun ⟨⟨a, b⟩, c, d, e⟩ => ⟨a, b, c, d, e⟩, fun ⟨a, b, c, d, e⟩ => ⟨⟨a, b⟩, c, d, e⟩⟩
theorem bookB_iff {ps : List Pt} {fs : List Fr} : bookB ps fs = true ↔ BookOk ps fs := by
  simp only [bookB, Bool.and_eq_true, List.all_eq_true, decide_eq_true_eq, ptB_iff, frB_iff]
  exact ⟨fun ⟨⟨⟨⟨a, b⟩, c⟩, d⟩, e⟩ => ⟨a, b, c, d, e⟩, fun ⟨a, b, c, d, e⟩ => ⟨⟨⟨⟨a, b⟩, c⟩, d⟩, e⟩⟩
theorem Pt.h_range {p : Pt} (h : PtOk p) (s : Int) : 0 ≤ p.h s ∧ p.h s ≤ 20 := by
  obtain ⟨a, b, c, d, e, _, _, _, _⟩ := h
  unfold Pt.h
  split
  · omega
  · split
    · omega
    · split <;> omega
theorem Pt.h_mono {p : Pt} (h : PtOk p) {s t : Int} (hst : s ≤ t) (h0 : 0 ≤ s) : p.h s ≤ p.h t := by
  obtain ⟨a, b, c, d, e, _, _, _, _⟩ := h
  unfold Pt.h
  (repeat' split) <;> omega
/-- What a part dries of a frame, with some damp; how dry a frame is, as far as some parts go. -/
def dryAt (p : Pt) (s stay damp : Int) : Int := stay * max 0 (p.h s - damp)
def dryTo (d : Pt → Int) (ps : List Pt) (s stay : List Int) (n : Nat) : Int := ((List.range n).map fun i => match ps[i]? with
  | some p => dryAt p (at0 s i) (at0 stay i) (d p)
  | none => 0).sum
def dryD (d : Pt → Int) (ps : List Pt) (s stay : List Int) : Int := dryTo d ps s stay ps.length
def heatTo (ps : List Pt) (s : List Int) (n : Nat) : Int := ((List.range n).map fun i => match ps[i]? with
  | some p => p.h (at0 s i)
  | none => 0).sum
def heatD (ps : List Pt) (s : List Int) : Int := heatTo ps s ps.length
theorem dryTo_succ {d : Pt → Int} {ps : List Pt} {s stay : List Int} {n : Nat} (h : n < ps.length) : dryTo d ps s stay (n + 1) = dryTo d ps s stay n + dryAt ps[n] (at0 s n) (at0 stay n) (d ps[n]) := by
  simp [dryTo, List.range_succ, List.map_append, List.sum_append, List.getElem?_eq_getElem h]
theorem heatTo_succ {ps : List Pt} {s : List Int} {n : Nat} (h : n < ps.length) : heatTo ps s (n + 1) = heatTo ps s n + ps[n].h (at0 s n) := by
  simp [heatTo, List.range_succ, List.map_append, List.sum_append, List.getElem?_eq_getElem h]
theorem at0_mem {l : List Int} {i : Nat} (h : i < l.length) : at0 l i ∈ l := by rw [at0_lt h]; exact List.getElem_mem _
theorem dryAt_range {p : Pt} (hp : PtOk p) {s stay damp : Int} (h0 : 0 ≤ stay) (h1 : stay ≤ 20) (hd : 0 ≤ damp) : 0 ≤ dryAt p s stay damp ∧ dryAt p s stay damp ≤ 400 := by
  have := Pt.h_range hp s
  unfold dryAt
  have hm : 0 ≤ max 0 (p.h s - damp) ∧ max 0 (p.h s - damp) ≤ 20 := by omega
  constructor
  · exact Int.mul_nonneg h0 hm.1
  · have h2 : stay * max 0 (p.h s - damp) ≤ stay * 20 := Int.mul_le_mul_of_nonneg_left hm.2 h0
    omega
theorem dryTo_range {d : Pt → Int} {ps : List Pt} {s stay : List Int} (hp : ∀ p ∈ ps, PtOk p) (hs : ∀ x ∈ stay, 0 ≤ x ∧ x ≤ 20) (hl : stay.length = ps.length) (hd : ∀ p ∈ ps, 0 ≤ d p) : ∀ n, n ≤ ps.length → 0 ≤ dryTo d ps s stay n ∧ dryTo d ps s stay n ≤ 400 * n
  | 0, _ => by simp [dryTo]
  | n + 1, h => by
    have ih := dryTo_range (s := s) hp hs hl hd n (by omega)
    have hx := hs _ (at0_mem (l := stay) (i := n) (by omega))
    have := dryAt_range (hp ps[n] (List.getElem_mem _)) (s := at0 s n) hx.1 hx.2 (hd ps[n] (List.getElem_mem _))
    rw [dryTo_succ (by omega)]
    push_cast
    omega
theorem heatTo_range {ps : List Pt} {s : List Int} (hp : ∀ p ∈ ps, PtOk p) : ∀ n, n ≤ ps.length → 0 ≤ heatTo ps s n ∧ heatTo ps s n ≤ 20 * n
  | 0, _ => by simp [heatTo]
  | n + 1, h => by
    have ih := heatTo_range (s := s) hp n (by omega)
    have := Pt.h_range (hp ps[n] (List.getElem_mem _)) (at0 s n)
    rw [heatTo_succ (by omega)]
    push_cast
    omega
/-- What becomes of a frame: 1, if it may be too wet, and 2, if it may be too dry. -/
def kindD (ps : List Pt) (s : List Int) (f : Fr) : Int := (if dryD Pt.hi ps s f.stay < f.lo then 1 else 0) + (if dryD Pt.lo ps s f.stay > f.hi then 2 else 0)
end Go.Proofs.Ytjaeheodabojfaa
