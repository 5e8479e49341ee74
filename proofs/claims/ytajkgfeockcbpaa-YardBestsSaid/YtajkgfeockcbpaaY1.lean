/- Layer 6, in plain lists: yards, distances, what is near and served. -/
import Derived.Test.YtajkgfeockcbpaaKMC
namespace Go.Proofs.Ytajkgfeockcbpaa
open Go.RowKit

/-- A lot: where it is, and how many goods it has, at least and at most. -/
structure Lot where
  sp : Int × Int
  lo : Int
  hi : Int
/-- A yard. -/
structure Yb where
  lots : List Lot
  doors : List (Int × Int)
  buckets : List (Int × Int)
  spare : List (Int × Int)
  apart : Int
  door : Int
  bucket : Int
  err : Int
def spB (s : Int × Int) : Bool := decide (0 ≤ s.1 ∧ s.1 ≤ 99 ∧ 0 ≤ s.2 ∧ s.2 ≤ 99)
def roomB (l : Lot) : Bool := decide (0 ≤ l.lo ∧ l.lo ≤ l.hi ∧ l.hi ≤ 99)
def lotB (l : Lot) : Bool := spB l.sp && roomB l
def ynumB (b : Yb) : Bool := decide (1 ≤ b.lots.length ∧ b.lots.length ≤ 7 ∧ 1 ≤ b.doors.length ∧ b.doors.length ≤ 3 ∧ b.buckets.length ≤ 3 ∧ b.spare.length ≤ 3 ∧ 0 ≤ b.apart ∧ b.apart ≤ 200 ∧ 0 ≤ b.door ∧ b.door ≤ 200 ∧ 0 ≤ b.bucket ∧ b.bucket ≤ 200 ∧ 0 ≤ b.err ∧ b.err ≤ 20)
def spotsL (b : Yb) : List (Int × Int) := b.doors ++ b.buckets ++ b.spare
def yardB (b : Yb) : Bool := ynumB b && b.lots.all lotB && (spotsL b).all spB
def yardE (b : Yb) : Int := if yardB b then 0 else 60
/-- A yard that can be reckoned with: it is valid, or has one bucket more than that. -/
structure YbOk (b : Yb) : Prop where
  n1 : 1 ≤ b.lots.length
  n7 : b.lots.length ≤ 7
  d1 : 1 ≤ b.doors.length
  d3 : b.doors.length ≤ 3
  b4 : b.buckets.length ≤ 4
  s3 : b.spare.length ≤ 3
  a0 : 0 ≤ b.apart
  a1 : b.apart ≤ 200
  o0 : 0 ≤ b.door
  o1 : b.door ≤ 200
  u0 : 0 ≤ b.bucket
  u1 : b.bucket ≤ 200
  e0 : 0 ≤ b.err
  e1 : b.err ≤ 20
  l : ∀ l ∈ b.lots, lotB l = true
  sd : ∀ s ∈ b.doors, spB s = true
  sb : ∀ s ∈ b.buckets, spB s = true
  ss : ∀ s ∈ b.spare, spB s = true
theorem yardB_iff {b : Yb} : yardB b = true ↔ YbOk b ∧ b.buckets.length ≤ 3 := by
  simp only [yardB, ynumB, spotsL, Bool.and_eq_true, decide_eq_true_eq, List.all_eq_true, List.mem_append]
  constructor
  · rintro ⟨⟨⟨a1, a2, a3, a4, a5, a6, a7, a8, a9, a10, a11, a12, a13, a14⟩, hl⟩, hs⟩
    exact ⟨⟨a1, a2, a3, a4, by omega, a6, a7, a8, a9, a10, a11, a12, a13, a14, hl, fun s h => hs s (.inl (.inl h)), fun s h => hs s (.inl (.inr h)), fun s h => hs s (.inr h)⟩, a5⟩
  · rintro ⟨h, h3⟩
    exact ⟨⟨⟨h.n1, h.n7, h.d1, h.d3, h3, h.s3, h.a0, h.a1, h.o0, h.o1, h.u0, h.u1, h.e0, h.e1⟩, h.l⟩, fun s hs => hs.elim (fun hs => hs.elim (h.sd s) (h.sb s)) (h.ss s)⟩
theorem yardB_ok {b : Yb} (h : yardB b = true) : YbOk b := (yardB_iff.1 h).1
theorem yardE_ok {b : Yb} (h : yardB b = true) : yardE b = 0 := by simp [yardE, h]
theorem yardE_bad {b : Yb} (h : yardB b = false) : yardE b = 60 := by simp [yardE, h]
theorem spB_iff {s : Int × Int} : spB s = true ↔ (0 ≤ s.1 ∧ s.1 ≤ 99) ∧ (0 ≤ s.2 ∧ s.2 ≤ 99) := by
  simp only [spB, decide_eq_true_eq]
  omega
theorem lotB_iff {l : Lot} : lotB l = true ↔ spB l.sp = true ∧ 0 ≤ l.lo ∧ l.lo ≤ l.hi ∧ l.hi ≤ 99 := by
  simp only [lotB, roomB, Bool.and_eq_true, decide_eq_true_eq]

def dif (a c : Int) : Int := max (a - c) (c - a)
/-- The told distance of two spots; between what the true one lies. -/
def told (s t : Int × Int) : Int := dif s.1 t.1 + dif s.2 t.2
def farLo (e : Int) (s t : Int × Int) : Int := max 0 (told s t - e)
def farHi (e : Int) (s t : Int × Int) : Int := told s t + e
theorem dif_nn (a c : Int) : 0 ≤ dif a c := by unfold dif; omega
theorem dif_comm (a c : Int) : dif a c = dif c a := by unfold dif; omega
theorem told_nn (s t : Int × Int) : 0 ≤ told s t := by
  have := dif_nn s.1 t.1
  have := dif_nn s.2 t.2
  unfold told; omega
theorem told_comm (s t : Int × Int) : told s t = told t s := by unfold told; rw [dif_comm s.1, dif_comm s.2]
theorem told_le {s t : Int × Int} (hs : spB s = true) (ht : spB t = true) : told s t ≤ 198 := by
  rw [spB_iff] at hs ht
  unfold told dif
  omega
/-- The lot of a number. -/
def lotAt (b : Yb) (i : Nat) : Lot := b.lots.getD i ⟨(0, 0), 0, 0⟩
theorem lotAt_lt {b : Yb} {i : Nat} (h : i < b.lots.length) : lotAt b i = b.lots[i] := by simp [lotAt, h]
theorem lotAt_mem {b : Yb} {i : Nat} (h : i < b.lots.length) : lotAt b i ∈ b.lots := by rw [lotAt_lt h]; exact List.getElem_mem _
theorem lotAt_ok {b : Yb} (hb : YbOk b) {i : Nat} (h : i < b.lots.length) : lotB (lotAt b i) = true := hb.l _ (lotAt_mem h)
/-- The distance of two lots, and of a lot from a spot that counts: at its worst (false), or at its kindest (true). -/
def betw (e : Int) (k : Bool) (s t : Int × Int) : Int := if k then farHi e s t else farLo e s t
def away (e : Int) (k : Bool) (s t : Int × Int) : Int := if k then farLo e s t else farHi e s t
def nearK (b : Yb) (k : Bool) (i j : Nat) : Bool := decide (betw b.err k (lotAt b i).sp (lotAt b j).sp < b.apart)
def reachK (b : Yb) (k : Bool) (i : Nat) (l : List (Int × Int)) (most : Int) : Bool := l.any fun s => decide (away b.err k (lotAt b i).sp s ≤ most)
def servK (b : Yb) (k : Bool) (i : Nat) : Bool := reachK b k i b.doors b.door && reachK b k i b.buckets b.bucket
def roomK (k : Bool) (l : Lot) : Int := if k then l.hi else l.lo
theorem betw_comm (e : Int) (k : Bool) (s t : Int × Int) : betw e k s t = betw e k t s := by
  unfold betw farHi farLo; rw [told_comm s t]
theorem nearK_comm (b : Yb) (k : Bool) (i j : Nat) : nearK b k i j = nearK b k j i := by
  unfold nearK; rw [betw_comm]
/-- 2 in each truth, 1 in some, 0 in none. -/
def kindN (f : Bool → Bool) : Int := (if f false then 1 else 0) + (if f true then 1 else 0)

/-- Which lots are chosen. -/
def lotsL (c : Nat → Bool) : List Nat := (List.range 7).filter c
def intsN (l : List Nat) : List Int := l.map (fun (i : Nat) => (i : Int))
def withF (c : Nat → Bool) (k : Nat) : Nat → Bool := fun i => if i = k then true else c i
def noneF : Nat → Bool := fun _ => false
theorem lotsL_mem {c : Nat → Bool} {i : Nat} : i ∈ lotsL c ↔ i < 7 ∧ c i = true := by simp [lotsL, List.mem_filter]
theorem lotsL_le (c : Nat → Bool) : (lotsL c).length ≤ 7 := by
  have := List.length_filter_le c (List.range 7)
  simpa [lotsL] using this
/-- All pairs of a list of which something is so. -/
def pairsL (f : Nat → Nat → Bool) : List Nat → List (Nat × Nat)
  | [] => []
  | x :: l => ((l.filter (f x)).map fun y => (x, y)) ++ pairsL f l
def unservF (b : Yb) (k : Bool) (c : Nat → Bool) : Nat → Bool := fun i => c i && !servK b k i
def allowK (b : Yb) (k : Bool) (c : Nat → Bool) : Bool := (pairsL (nearK b k) (lotsL c)).isEmpty && (List.range 7).all fun i => !unservF b k c i
def goodsK (b : Yb) (k : Bool) (c : Nat → Bool) : Int := ((lotsL c).map fun i => roomK k (lotAt b i)).sum
/-- The choices behind one, from a lot on, that add some of those that are left. -/
def rnd (ng : Nat → (Nat → Bool) → Bool) (l : Nat → Bool) : Nat → Nat → (Nat → Bool) → List (Nat → Bool)
  | 0, _, _ => []
  | d + 1, x, c => (if l x && !ng x c then withF c x :: rnd ng l d (x + 1) (withF c x) else []) ++ rnd ng l d (x + 1) c
def ngK (b : Yb) (k : Bool) (x : Nat) (c : Nat → Bool) : Bool := (lotsL c).any fun j => nearK b k x j
def choK (b : Yb) (k : Bool) (of : Nat → Bool) : List (Nat → Bool) := noneF :: rnd (ngK b k) (fun i => of i && servK b k i) b.lots.length 0 noneF
def allF (b : Yb) : Nat → Bool := fun i => decide (i < b.lots.length)
/-- Has a list fewer elements, or as many and comes first? -/
def befB (l m : List Int) : Bool := if l.length = m.length then earlier l m else decide (l.length < m.length)
def betB (l : List Int) (g : Int) (m : List Int) (h : Int) : Bool := if g = h then befB l m else decide (h < g)
def betK (b : Yb) (k : Bool) (c e : Nat → Bool) : Bool := betB (intsN (lotsL c)) (goodsK b k c) (intsN (lotsL e)) (goodsK b k e)
def pickK (b : Yb) (k : Bool) (o c : Nat → Bool) : Nat → Bool := if betK b k c o then c else o
def bestK (b : Yb) (k : Bool) : Nat → Bool := (choK b k (allF b)).foldl (pickK b k) noneF
/-- The lots that can be added. -/
def moreF (b : Yb) (c : Nat → Bool) : Nat → Bool := fun i => allF b i && (!c i && allowK b false (withF c i))
/-- Those of a choice that are not kept. -/
def restF (c e : Nat → Bool) : Nat → Bool := fun i => c i && !e i
def pickC (c o e : Nat → Bool) : Nat → Bool := if befB (intsN (lotsL (restF c e))) (intsN (lotsL o)) then restF c e else o
def clearF (b : Yb) (c : Nat → Bool) : Nat → Bool := (choK b false c).foldl (pickC c) c
def withB (b : Yb) (s : Int × Int) : Yb := { b with buckets := b.buckets ++ [s] }
def topK (b : Yb) (k : Bool) : Int := goodsK b k (bestK b k)
/-- The spare spot behind some: the place, whether there is one, and how many goods there are then. -/
def placeS (b : Yb) (o : Int × Bool × Int) (i : Nat) : Int × Bool × Int :=
  if b.buckets.contains (b.spare.getD i (0, 0)) then o else if o.2.2 < topK (withB b (b.spare.getD i (0, 0))) false then ((i : Int), true, topK (withB b (b.spare.getD i (0, 0))) false) else o
def placeO (b : Yb) : Int × Bool × Int := (List.range b.spare.length).foldl (placeS b) (0, false, topK b false)
/-- Which ones a list chooses, if it is a choice of so many lots. -/
def readL (many : Nat) : List Int → Int → (Nat → Bool) → Option (Nat → Bool)
  | [], _, c => some c
  | x :: l, next, c => if next ≤ x ∧ x < many then readL many l (x + 1) (withF c x.toNat) else none
end Go.Proofs.Ytajkgfeockcbpaa
