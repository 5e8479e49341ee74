/- Layer 1, in plain lists: what is counted of a cutting, and what is so. -/
import Derived.Test.YtnnlbbmimdohoaaT5
import Derived.Test.YtnnlbbmimdohoaaN3
namespace Go.Proofs.Ytnnlbbmimdohoaa
open Go.RowKit

theorem minF {α : Type} (f : α → Int) : ∀ (l : List α) (m : Int), l.foldl (fun m x => min m (f x)) m ≤ m ∧ (∀ x ∈ l, l.foldl (fun m x => min m (f x)) m ≤ f x) ∧ ∀ y, y ≤ m → (∀ x ∈ l, y ≤ f x) → y ≤ l.foldl (fun m x => min m (f x)) m
  | [], m => by simp
  | a :: l, m => by
    obtain ⟨h1, h2, h3⟩ := minF f l (min m (f a))
    rw [List.foldl_cons]
    refine ⟨by omega, ?_, fun y h4 h5 => h3 y (by have := h5 a (by simp); omega) fun x hx => h5 x (by simp [hx])⟩
    intro x hx
    rcases List.mem_cons.1 hx with rfl | hx
    · omega
    · exact h2 x hx
theorem maxG {α : Type} (f : α → Int) : ∀ (l : List α) (m : Int), m ≤ l.foldl (fun m x => max m (f x)) m ∧ (∀ x ∈ l, f x ≤ l.foldl (fun m x => max m (f x)) m) ∧ ∀ y, m ≤ y → (∀ x ∈ l, f x ≤ y) → l.foldl (fun m x => max m (f x)) m ≤ y
  | [], m => by simp
  | a :: l, m => by
    obtain ⟨h1, h2, h3⟩ := maxG f l (max m (f a))
    rw [List.foldl_cons]
    refine ⟨by omega, ?_, fun y h4 h5 => h3 y (by have := h5 a (by simp); omega) fun x hx => h5 x (by simp [hx])⟩
    intro x hx
    rcases List.mem_cons.1 hx with rfl | hx
    · omega
    · exact h2 x hx
/-- As many pieces are whole in a truth as lie between what is told. -/
theorem lo_hi {long : List Int} {sz : Int} {ks : List K4} {kn : List Bool} (hm : kn ∈ truthsD long ks) (cut : List Int) : loD long sz ks cut ≤ countL (wholesD long sz kn) cut ∧ countL (wholesD long sz kn) cut ≤ hiD long sz ks cut :=
  ⟨(minF (fun kn => countL (wholesD long sz kn) cut) _ _).2.1 kn hm, (maxG (fun kn => countL (wholesD long sz kn) cut) _ _).2.1 kn hm⟩
theorem hi_le (long : List Int) (sz : Int) (ks : List K4) (cut : List Int) : hiD long sz ks cut ≤ cut.length :=
  (maxG (fun kn => countL (wholesD long sz kn) cut) _ _).2.2 _ (by omega) fun kn _ => (countL_le _ _).2
theorem wholes_truth {long : List Int} {sz : Int} {ks : List K4} {kn : List Bool} (hm : kn ∈ truthsD long ks) (cut : List Int) : countL (wholesD long sz (reachD long ks)) cut ≤ countL (wholesD long sz kn) cut :=
  countL_mono fun _ _ h => wholesD_mono (fun i => truth_reach hm i) _ h
theorem sure_lo (long : List Int) (sz : Int) (ks : List K4) (cut : List Int) : countL (wholesD long sz (reachD long ks)) cut ≤ loD long sz ks cut :=
  (minF (fun kn => countL (wholesD long sz kn) cut) _ _).2.2 _ (countL_le _ _).2 fun _ hm => wholes_truth hm cut
theorem hope_ge {long : List Int} {sz : Int} {ks : List K4} {kn : List Bool} (hm : kn ∈ truthsD long ks) : ((cutD long sz kn).length : Int) ≤ hopeD long sz ks :=
  (maxF _ 0).2.1 _ (List.mem_map.2 ⟨kn, hm, rfl⟩)
theorem most_any {long : List Int} {sz : Int} {ks : List K4} (hv : LogOk long sz ks) (kn : List Bool) {cut : List Int} (h : cutOk sz (psum long long.length) 0 cut = true) : countL (wholesD long sz kn) cut ≤ ((cutD long sz kn).length : Int) := by
  have h1 := hv.s1
  have hw := wideN_eq hv.L
  have e : ((sz.toNat : Nat) : Int) = sz := by omega
  exact greedy_most (c := wholesD long sz kn) (sz := sz.toNat) (wide := wideN long) (by omega) (wideN long + 1) 0 cut (by omega) (by rw [e, hw.1]; exact h)
theorem best_hope {long : List Int} {sz : Int} {ks : List K4} (hv : LogOk long sz ks) : ((bestD long sz ks).length : Int) ≤ hopeD long sz ks := by
  obtain ⟨kn, hm⟩ : ∃ kn, kn ∈ truthsD long ks := truthsL_ne ks _ hv.ok
  have h1 := cutD_mono (long := long) hv.s1 (kn := reachD long ks) (kn' := kn) (fun i h => truth_reach hm i h)
  have h2 := hope_ge (sz := sz) hm
  unfold bestD
  omega
/-- Each piece of the best cutting is whole in each truth. -/
theorem best_true {long : List Int} {sz : Int} {ks : List K4} (hv : LogOk long sz ks) {kn : List Bool} (hm : kn ∈ truthsD long ks) : countL (wholesD long sz kn) (bestD long sz ks) = (bestD long sz ks).length := by
  have h1 := (best_ok hv).2
  have h2 := wholes_truth (sz := sz) hm (bestD long sz ks)
  have h3 := countL_le (wholesD long sz kn) (bestD long sz ks)
  omega
end Go.Proofs.Ytnnlbbmimdohoaa
/- Layer 1, in plain lists: all logs of which all knots are found, counted by one number. -/
namespace Go.Proofs.Ytnnlbbmimdohoaa
open Go.RowKit

/-- Numbers that choose where each knot is, out of one number. -/
def bitsI (j : Nat) : List Int := [(j : Int) % 4, (j : Int) / 4 % 2, (j : Int) / 8 % 4, (j : Int) / 32 % 2, (j : Int) / 64 % 4, (j : Int) / 256]
theorem item0 (j : Nat) : item (bitsI j) (2 * ((0 : Nat) : Int)) = (j : Int) % 4 := by simp [item, bitsI, spin, at0]
theorem item1 (j : Nat) : item (bitsI j) (2 * ((0 : Nat) : Int) + 1) = (j : Int) / 4 % 2 := by simp [item, bitsI, spin, at0]
theorem item2 (j : Nat) : item (bitsI j) (2 * ((0 + 1 : Nat) : Int)) = (j : Int) / 8 % 4 := by simp [item, bitsI, spin, at0]
theorem item3 (j : Nat) : item (bitsI j) (2 * ((0 + 1 : Nat) : Int) + 1) = (j : Int) / 32 % 2 := by simp [item, bitsI, spin, at0]
theorem item4 (j : Nat) : item (bitsI j) (2 * ((0 + 1 + 1 : Nat) : Int)) = (j : Int) / 64 % 4 := by simp [item, bitsI, spin, at0]
theorem item5 (j : Nat) : item (bitsI j) (2 * ((0 + 1 + 1 : Nat) : Int) + 1) = (j : Int) / 256 := by simp [item, bitsI, spin, at0]
theorem spin_in {n m : Int} (h0 : 0 ≤ n) (h1 : n < m) : spin n m = n := by
  unfold spin
  rw [if_neg (by omega), Int.emod_eq_of_lt h0 h1]
/-- A knot that is found at a place. -/
def ptK (p : Int × Int) : K4 := ⟨p.1, p.1, p.2, p.2⟩
theorem drawnK_at {k : K4} (h : K4Ok k) {bits : List Int} {i : Nat} {p : Int × Int} (hp : p ∈ placesL k) (h1 : item bits (2 * (i : Int)) = p.1 - k.al) (h2 : item bits (2 * (i : Int) + 1) = p.2 - k.fl) : drawnK bits i k = ptK p := by
  obtain ⟨a1, a2, a3, a4⟩ := places_in hp
  have := h.a0
  have := h.a1
  have := h.f0
  have := h.f1
  have e1 := (drawn_in (n := item bits (2 * (i : Int))) h.a0 h.a (by omega)).2.2
  have e2 := (drawn_in (n := item bits (2 * (i : Int) + 1)) h.f0 h.f (by omega)).2.2
  rw [h1, spin_in (by omega) (by omega)] at e1
  rw [h2, spin_in (by omega) (by omega)] at e2
  simp only [drawnK, ptK, h1, h2, K4.mk.injEq]
  omega
theorem reach_pt (R : Rib) (long : List Int) (acc : List Bool) (p : Int × Int) : reachK R long acc (ptK p) = orL acc (trailL R long p.1 p.2.toNat) := by
  simp [reachK, placesL, ptK]
/-- Each truth is that of such a number. -/
theorem bits_truth {long : List Int} {sz : Int} {ks : List K4} (hv : LogOk long sz ks) {kn : List Bool} (hm : kn ∈ truthsD long ks) : ∃ i, i < 8 ^ ks.length ∧ reachD long (trulyK (bitsI i) 0 ks) = kn := by
  have hk3 := hv.k3
  match ks, hv, hm, hk3 with
  | [], _, hm, _ =>
    rw [truthsD, truthsL, List.mem_singleton] at hm
    exact ⟨0, by simp, by rw [hm]; rfl⟩
  | [k0], hv, hm, _ =>
    simp only [truthsD, truthsL, List.mem_flatMap, List.mem_singleton] at hm
    obtain ⟨p0, hp0, rfl⟩ := hm
    have w0 := hv.aw k0 (by simp)
    have v0 := hv.fw k0 (by simp)
    obtain ⟨a1, a2, a3, a4⟩ := places_in hp0
    refine ⟨((p0.1 - k0.al) + 4 * (p0.2 - k0.fl)).toNat, by simp only [List.length_cons, List.length_nil]; omega, ?_⟩
    rw [trulyK, trulyK, drawnK_at (hv.ok k0 (by simp)) hp0 (by rw [item0]; omega) (by rw [item1]; omega)]
    simp only [reachD, reachL, List.foldl_cons, List.foldl_nil, reach_pt]
  | [k0, k1], hv, hm, _ =>
    simp only [truthsD, truthsL, List.mem_flatMap, List.mem_singleton] at hm
    obtain ⟨p0, hp0, p1, hp1, rfl⟩ := hm
    have w0 := hv.aw k0 (by simp)
    have v0 := hv.fw k0 (by simp)
    have w1 := hv.aw k1 (by simp)
    have v1 := hv.fw k1 (by simp)
    obtain ⟨a1, a2, a3, a4⟩ := places_in hp0
    obtain ⟨b1, b2, b3, b4⟩ := places_in hp1
    refine ⟨((p0.1 - k0.al) + 4 * (p0.2 - k0.fl) + 8 * ((p1.1 - k1.al) + 4 * (p1.2 - k1.fl))).toNat, by simp only [List.length_cons, List.length_nil]; omega, ?_⟩
    rw [trulyK, trulyK, trulyK, drawnK_at (hv.ok k0 (by simp)) hp0 (by rw [item0]; omega) (by rw [item1]; omega), drawnK_at (hv.ok k1 (by simp)) hp1 (by rw [item2]; omega) (by rw [item3]; omega)]
    simp only [reachD, reachL, List.foldl_cons, List.foldl_nil, reach_pt]
  | [k0, k1, k2], hv, hm, _ =>
    simp only [truthsD, truthsL, List.mem_flatMap, List.mem_singleton] at hm
    obtain ⟨p0, hp0, p1, hp1, p2, hp2, rfl⟩ := hm
    have w0 := hv.aw k0 (by simp)
    have v0 := hv.fw k0 (by simp)
    have w1 := hv.aw k1 (by simp)
    have v1 := hv.fw k1 (by simp)
    have w2 := hv.aw k2 (by simp)
    have v2 := hv.fw k2 (by simp)
    obtain ⟨a1, a2, a3, a4⟩ := places_in hp0
    obtain ⟨b1, b2, b3, b4⟩ := places_in hp1
    obtain ⟨c1, c2, c3, c4⟩ := places_in hp2
    refine ⟨((p0.1 - k0.al) + 4 * (p0.2 - k0.fl) + 8 * ((p1.1 - k1.al) + 4 * (p1.2 - k1.fl)) + 64 * ((p2.1 - k2.al) + 4 * (p2.2 - k2.fl))).toNat, by simp only [List.length_cons, List.length_nil]; omega, ?_⟩
    rw [trulyK, trulyK, trulyK, trulyK, drawnK_at (hv.ok k0 (by simp)) hp0 (by rw [item0]; omega) (by rw [item1]; omega), drawnK_at (hv.ok k1 (by simp)) hp1 (by rw [item2]; omega) (by rw [item3]; omega), drawnK_at (hv.ok k2 (by simp)) hp2 (by rw [item4]; omega) (by rw [item5]; omega)]
    simp only [reachD, reachL, List.foldl_cons, List.foldl_nil, reach_pt]
  | _ :: _ :: _ :: _ :: _, _, _, h => simp at h

/-- The most pieces, of the first such logs. -/
def mostI (long : List Int) (sz : Int) (ks : List K4) : Nat → Int
  | 0 => 0
  | j + 1 => max (mostI long sz ks j) ((bestD long sz (trulyK (bitsI j) 0 ks)).length : Int)
theorem mostI_le {long : List Int} {sz : Int} {ks : List K4} (hv : LogOk long sz ks) : ∀ j, 0 ≤ mostI long sz ks j ∧ mostI long sz ks j ≤ hopeD long sz ks
  | 0 => ⟨Int.le_refl _, by have := best_hope hv; rw [mostI]; omega⟩
  | j + 1 => by
    have := mostI_le hv j
    have := hope_ge (sz := sz) (truly_truth hv (bitsI j))
    rw [mostI, bestD]
    omega
theorem mostI_ge {long : List Int} {sz : Int} {ks : List K4} {i : Nat} : ∀ j, i < j → ((bestD long sz (trulyK (bitsI i) 0 ks)).length : Int) ≤ mostI long sz ks j
  | 0, h => by omega
  | j + 1, h => by
    rw [mostI]
    by_cases e : i = j
    · subst e; omega
    · have := mostI_ge (long := long) (sz := sz) (ks := ks) (i := i) j (by omega)
      omega
theorem mostI_all {long : List Int} {sz : Int} {ks : List K4} (hv : LogOk long sz ks) : mostI long sz ks (8 ^ ks.length) = hopeD long sz ks := by
  have h1 := mostI_le hv (8 ^ ks.length)
  rcases (maxF ((truthsD long ks).map fun kn => ((cutD long sz kn).length : Int)) 0).2.2 with h | h
  · have : hopeD long sz ks = 0 := h
    omega
  · obtain ⟨kn, hm, e⟩ := List.mem_map.1 h
    obtain ⟨i, hi, hr⟩ := bits_truth hv hm
    have h2 := mostI_ge (long := long) (sz := sz) (ks := ks) (i := i) _ hi
    rw [bestD, hr] at h2
    have : hopeD long sz ks = ((cutD long sz kn).length : Int) := e.symm
    omega
theorem hopeD_range {long : List Int} {sz : Int} {ks : List K4} (hv : LogOk long sz ks) : 0 ≤ hopeD long sz ks ∧ hopeD long sz ks ≤ 72 := by
  have h := hope_range hv (hopesD long sz ks).length
  rw [List.take_length] at h
  exact h
theorem pow_len {n : Nat} (h : n ≤ 3) : wrap64 (2 ^ (3 * n)) = ((8 ^ n : Nat) : Int) ∧ 8 ^ n ≤ 512 := by
  match n, h with
  | 0, _ => exact ⟨by kernel_rfl, by decide⟩
  | 1, _ => exact ⟨by kernel_rfl, by decide⟩
  | 2, _ => exact ⟨by kernel_rfl, by decide⟩
  | 3, _ => exact ⟨by kernel_rfl, by decide⟩
end Go.Proofs.Ytnnlbbmimdohoaa
