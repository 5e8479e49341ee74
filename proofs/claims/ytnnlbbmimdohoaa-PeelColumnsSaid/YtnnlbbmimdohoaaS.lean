/- Layer 1, in plain lists: what is known of a valid log; what the calls return of it. -/
import Derived.Test.YtnnlbbmimdohoaaP13
namespace Go.Proofs.Ytnnlbbmimdohoaa
open Go.RowKit

theorem fall_all : ∀ (long : List Int) (y : Int), fallB y long = true → ∀ t, t < long.length → 1 ≤ at0 long t ∧ at0 long t ≤ y
  | [], _, _, t, h => by simp at h
  | x :: xs, y, h, t, ht => by
    simp only [fallB, Bool.and_eq_true, decide_eq_true_eq] at h
    obtain ⟨⟨h1, h2⟩, h3⟩ := h
    cases t with
    | zero => exact ⟨by simpa [at0] using h1, by simpa [at0] using h2⟩
    | succ t =>
      have := fall_all xs x h3 t (by simpa using ht)
      have e : at0 (x :: xs) (t + 1) = at0 xs t := by simp [at0]
      rw [e]; omega

/-- What is known of a valid log. -/
structure LogOk (long : List Int) (sz : Int) (ks : List K4) : Prop where
  L : LongOk long
  s1 : 1 ≤ sz
  s6 : sz ≤ 6
  k3 : ks.length ≤ 3
  ok : ∀ k ∈ ks, K4Ok k
  fh : ∀ k ∈ ks, k.fh ≤ long.length
  aw : ∀ k ∈ ks, k.ah - k.al ≤ 3
  fw : ∀ k ∈ ks, k.fh - k.fl ≤ 1
  fall : fallB 12 long = true

theorem valid_ok {long : List Int} {sz : Int} {ks : List K4} (h : validB long sz ks = true) : LogOk long sz ks := by
  simp only [validB, Bool.and_eq_true, decide_eq_true_eq] at h
  obtain ⟨⟨⟨⟨⟨⟨h1, h2⟩, h3⟩, h4⟩, h5⟩, h6⟩, h7⟩ := h
  rw [List.all_eq_true] at h7
  have hf := fall_all long 12 h6
  have hk : ∀ k ∈ ks, 0 ≤ k.al ∧ k.al ≤ k.ah ∧ k.ah ≤ 23 ∧ 0 ≤ k.fl ∧ k.fl ≤ k.fh ∧ k.fh ≤ long.length ∧ k.ah - k.al ≤ 3 ∧ k.fh - k.fl ≤ 1 := by
    intro k hk
    have := h7 k hk
    have hw : wrap64 ((long.length : Int) + 1) = long.length + 1 := IntWalk.wrap64_in _ (by omega)
    simp only [kvalidB, showsB, narrowB, hw, Bool.and_eq_true, decide_eq_true_eq] at this
    obtain ⟨⟨⟨⟨⟨⟨a1, a2⟩, a3⟩, a4⟩, ⟨⟨b1, b2⟩, b3⟩, b4⟩, c1, c2⟩, d1, d2⟩ := this
    rw [IntWalk.wrap64_in _ (by omega)] at c2
    rw [IntWalk.wrap64_in _ (by omega)] at d2
    omega
  exact ⟨⟨h1, h2, fun t ht => (hf t ht).1, fun t ht => (hf t ht).2⟩, h3, h4, h5, fun k hm => (by have := hk k hm; exact ⟨by omega, by omega, by omega, by omega, by omega, by omega⟩), fun k hm => (by have := hk k hm; omega), fun k hm => (by have := hk k hm; omega), fun k hm => (by have := hk k hm; omega), h6⟩
theorem valid_hok {long : List Int} {sz : Int} {ks : List K4} (h : validB long sz ks = true) : LongOk long ∧ (∀ k ∈ ks, K4Ok k) ∧ ks.length ≤ 3 := ⟨(valid_ok h).L, (valid_ok h).ok, (valid_ok h).k3⟩

/-- The columns of a ribbon. -/
def wideN (long : List Int) : Nat := (psum long long.length).toNat
theorem wideN_eq {long : List Int} (h : LongOk long) : (wideN long : Int) = psum long long.length ∧ wideN long ≤ 72 ∧ 1 ≤ wideN long := by
  have := psum_range h long.length (by omega)
  have := h.n6
  have := h.n1
  unfold wideN
  omega
/-- A ribbon that lies nowhere. -/
def rb (long : List Int) : Rib := ribTo none 0 none 0 long 0 0 0 long.length
theorem trailTo_s {R R' : Rib} (h : R.s = R'.s) (long : List Int) (a : Int) (t : Nat) : ∀ j, trailTo R long a t j = trailTo R' long a t j
  | 0 => rfl
  | j + 1 => by rw [trailTo, trailTo, trailTo_s h long a t j, colOf, colOf, h]
theorem trailL_s {R R' : Rib} (h : R.s = R'.s) (long : List Int) (a : Int) (t : Nat) : trailL R long a t = trailL R' long a t := trailTo_s h _ _ _ _
theorem reachK_s {R R' : Rib} (h : R.s = R'.s) (long : List Int) : reachK R long = reachK R' long := by
  funext acc k
  unfold reachK
  congr 1
  funext c p
  rw [trailL_s h]
theorem reachL_s {R R' : Rib} (h : R.s = R'.s) (long : List Int) (ks : List K4) : reachL R long ks = reachL R' long ks := by
  unfold reachL
  rw [reachK_s h]
theorem truthsL_s {R R' : Rib} (h : R.s = R'.s) (long : List Int) : ∀ (ks : List K4) (kn : List Bool), truthsL R long ks kn = truthsL R' long ks kn
  | [], _ => rfl
  | k :: ks, kn => by
    rw [truthsL, truthsL]
    congr 1
    funext q
    rw [trailL_s h, truthsL_s h long ks]

/-- The columns of a knot at a place; those that some knots can have; those of each truth. -/
def trailD (long : List Int) (a : Int) (t : Nat) : List Bool := trailL (rb long) long a t
def reachD (long : List Int) (ks : List K4) : List Bool := reachL (rb long) long ks
def truthsD (long : List Int) (ks : List K4) : List (List Bool) := truthsL (rb long) long ks (List.replicate 72 false)
theorem reachD_length (long : List Int) (ks : List K4) : (reachD long ks).length = 72 := reachF_length _ _ _ _ (by simp)

section
variable {p1 : Option Addr} {c1 : Nat} {p2 : Option Addr} {c2 : Nat} {long : List Int} {sz : Int} {nk mb : Nat}
theorem trail_rib (a : Int) (t : Nat) : trailL (ribTo p1 c1 p2 c2 long sz nk mb long.length) long a t = trailD long a t := trailL_s (R := ribTo p1 c1 p2 c2 long sz nk mb long.length) (R' := rb long) rfl _ _ _
theorem reach_rib (ks : List K4) : reachL (ribTo p1 c1 p2 c2 long sz nk mb long.length) long ks = reachD long ks := reachL_s (R := ribTo p1 c1 p2 c2 long sz nk mb long.length) (R' := rb long) rfl _ _
theorem truths_rib (ks : List K4) : truthsOf (ribTo p1 c1 p2 c2 long sz nk mb long.length) long ks = truthsD long ks := truthsL_s (R := ribTo p1 c1 p2 c2 long sz nk mb long.length) (R' := rb long) rfl _ _ _
end

/-- The pieces that can be cut where some columns have a knot. -/
def wholesD (long : List Int) (sz : Int) (kn : List Bool) : List Bool := wholeL kn sz.toNat (psum long long.length)
def cutD (long : List Int) (sz : Int) (kn : List Bool) : List Int := cutL (wholesD long sz kn) sz.toNat (wideN long) 0
/-- The cutting that is returned. -/
def bestD (long : List Int) (sz : Int) (ks : List K4) : List Int := cutD long sz (reachD long ks)
/-- How many pieces, at the worst, if it is known where a knot is. -/
def worstD (long : List Int) (sz : Int) (ks : List K4) (k : Nat) : Int :=
  match ks[k]? with
  | none => 0
  | some x => (placesL x).foldl (fun m q => min m ((cutD long sz (orL (reachD long (ks.eraseIdx k)) (trailD long q.1 q.2.toNat))).length : Int)) (psum long long.length)
/-- The knot to ask for. -/
def askD (long : List Int) (sz : Int) (ks : List K4) : Int :=
  let l := (List.range ks.length).map (worstD long sz ks)
  indexL l (maxL (at0 l 0) l.tail)
/-- The most pieces in some truth. -/
def hopeD (long : List Int) (sz : Int) (ks : List K4) : Int := ((truthsD long ks).map fun kn => ((cutD long sz kn).length : Int)).foldl max 0
/-- Between which numbers the whole pieces of a cutting lie. -/
def loD (long : List Int) (sz : Int) (ks : List K4) (cut : List Int) : Int := (truthsD long ks).foldl (fun m kn => min m (countL (wholesD long sz kn) cut)) cut.length
def hiD (long : List Int) (sz : Int) (ks : List K4) (cut : List Int) : Int := (truthsD long ks).foldl (fun m kn => max m (countL (wholesD long sz kn) cut)) 0
/-- Has a column a knot? -/
def knotD (long : List Int) (ks : List K4) (c : Nat) : Int :=
  if (truthsD long ks).all (b0 · c) then 2 else if (truthsD long ks).any (b0 · c) then 1 else 0

/-- The chapter's log. -/
def exL : List Int := [10, 9, 8]
def exK : List K4 := [⟨5, 7, 1, 1⟩, ⟨20, 20, 0, 1⟩]
theorem ex_valid : validB exL 3 exK = true := by kernel_rfl
theorem ex_best : bestD exL 3 exK = [0, 3, 13, 22] := by kernel_rfl
theorem ex_hope : hopeD exL 3 exK = 7 := by kernel_rfl
theorem ex_ask : askD exL 3 exK = 0 := by kernel_rfl
theorem ex_knot : knotD exL exK 17 = 2 := by kernel_rfl
theorem ex_lo : loD exL 3 exK [0, 3, 6, 9] = 2 := by kernel_rfl
theorem ex_hi : hiD exL 3 exK [0, 3, 6, 9] = 4 := by kernel_rfl
theorem ex_sure : countL (wholesD exL 3 (reachD exL exK)) [0, 3, 6, 9] = 2 := by kernel_rfl
theorem ex_col : colOf (rb exL) exL 7 1 = 12 := by kernel_rfl
theorem ex_wide : psum exL exL.length = 27 := by kernel_rfl

end Go.Proofs.Ytnnlbbmimdohoaa
