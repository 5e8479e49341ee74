/- Layer 1, in plain lists: all logs of which all knots are found, counted by one number. -/
import Derived.Test.YtnnlbbmimdohoaaT6
namespace Go.Proofs.Ytnnlbbmimdohoaa
open Go.RowKit

/-- Numbers that choose where each knot is, out of one number. -/
def bitsI (j : Nat) : List Int := [(j : Int) % 4, (j : Int) / 4 % 2, (j : Int) / 8 % 4, (j : Int) / 32 % 2, (j : Int) / 64 % 4, (j : Int) / 256]
theorem item0 (j : Nat) : item (bitsI j) (2 * ((0 : Nat) : Int)) = (j : Int) % 4 := by simp [item, bitsI, spin, at0]
theorem item1 (j : Nat) : item (bitsI j) (2 * ((0 : Nat) : Int) + 1) = (j : Int) / 4 % 2 := by simp [item, bitsI, spin, at0]
theorem item2 (j : Nat) : item (bitsI j) (2 * ((0 + 1 : Nat) : Int)) = (j : Int) / 8 % 4 := by simp [item, bitsI, spin, at0]
theorem item3 (j : Nat) : item (bitsI j) (2 * ((0 + 1 : Nat) : Int) + 1) = (j : Int) / 32 % 2 := by simp [item, bitsI, spin, at0]
theorem item4 (j : Nat) : item (bitsI j) (2 * ((0 + 1 + 1 : Nat) : Int)) = (j : Int) / 64 % 4 := by simp [item, bitsI, spin, at0]
theorem item5 (j : Nat) : item (bitsI j) (2 * ((0 + 1 + 1 : Nat) : Int) + 1) = (j : Int) / 256 := by simp [item, bitsI, spin, at0]
theorem spin_in {n m : Int} (h0 : 0 ≤ n) (h1 : n < m) : spin n m = n := by
  unfold spin
  rw [if_neg (by omega), Int.emod_eq_of_lt h0 h1]
/-- A knot that is found at a place. -/
def ptK (p : Int × Int) : K4 := ⟨p.1, p.1, p.2, p.2⟩
theorem drawnK_at {k : K4} (h : K4Ok k) {bits : List Int} {i : Nat} {p : Int × Int} (hp : p ∈ placesL k) (h1 : item bits (2 * (i : Int)) = p.1 - k.al) (h2 : item bits (2 * (i : Int) + 1) = p.2 - k.fl) : drawnK bits i k = ptK p := by
  obtain ⟨a1, a2, a3, a4⟩ := places_in hp
  have := h.a0
  have := h.a1
  have := h.f0
  have := h.f1
  have e1 := (drawn_in (n := item bits (2 * (i : Int))) h.a0 h.a (by omega)).2.2
  have e2 := (drawn_in (n := item bits (2 * (i : Int) + 1)) h.f0 h.f (by omega)).2.2
  rw [h1, spin_in (by omega) (by omega)] at e1
  rw [h2, spin_in (by omega) (by omega)] at e2
  simp only [drawnK, ptK, h1, h2, K4.mk.injEq]
  omega
theorem reach_pt (R : Rib) (long : List Int) (acc : List Bool) (p : Int × Int) : reachK R long acc (ptK p) = orL acc (trailL R long p.1 p.2.toNat) := by
  simp [reachK, placesL, ptK]
/-- Each truth is that of such a number. -/
theorem bits_truth {long : List Int} {sz : Int} {ks : List K4} (hv : LogOk long sz ks) {kn : List Bool} (hm : kn ∈ truthsD long ks) : ∃ i, i < 8 ^ ks.length ∧ reachD long (trulyK (bitsI i) 0 ks) = kn := by
  have hk3 := hv.k3
  match ks, hv, hm, hk3 with
  | [], _, hm, _ =>
    rw [truthsD, truthsL, List.mem_singleton] at hm
    exact ⟨0, by simp, by rw [hm]; rfl⟩
  | [k0], hv, hm, _ =>
    simp only [truthsD, truthsL, List.mem_flatMap, List.mem_singleton] at hm
    obtain ⟨p0, hp0, rfl⟩ := hm
    have w0 := hv.aw k0 (by simp)
    have v0 := hv.fw k0 (by simp)
    obtain ⟨a1, a2, a3, a4⟩ := places_in hp0
    refine ⟨((p0.1 - k0.al) + 4 * (p0.2 - k0.fl)).toNat, by simp only [List.length_cons, List.length_nil]; omega, ?_⟩
    rw [trulyK, trulyK, drawnK_at (hv.ok k0 (by simp)) hp0 (by rw [item0]; omega) (by rw [item1]; omega)]
    simp only [reachD, reachL, List.foldl_cons, List.foldl_nil, reach_pt]
  | [k0, k1], hv, hm, _ =>
    simp only [truthsD, truthsL, List.mem_flatMap, List.mem_singleton] at hm
    obtain ⟨p0, hp0, p1, hp1, rfl⟩ := hm
    have w0 := hv.aw k0 (by simp)
    have v0 := hv.fw k0 (by simp)
    have w1 := hv.aw k1 (by simp)
    have v1 := hv.fw k1 (by simp)
    obtain ⟨a1, a2, a3, a4⟩ := places_in hp0
    obtain ⟨b1, b2, b3, b4⟩ := places_in hp1
    refine ⟨((p0.1 - k0.al) + 4 * (p0.2 - k0.fl) + 8 * ((p1.1 - k1.al) + 4 * (p1.2 - k1.fl))).toNat, by simp only [List.length_cons, List.length_nil]; omega, ?_⟩
    rw [trulyK, trulyK, trulyK, drawnK_at (hv.ok k0 (by simp)) hp0 (by rw [item0]; omega) (by rw [item1]; omega), drawnK_at (hv.ok k1 (by simp)) hp1 (by rw [item2]; omega) (by rw [item3]; omega)]
    simp only [reachD, reachL, List.foldl_cons, List.foldl_nil, reach_pt]
  | [k0, k1, k2], hv, hm, _ =>
    simp only [truthsD, truthsL, List.mem_flatMap, List.mem_singleton] at hm
    obtain ⟨p0, hp0, p1, hp1, p2, hp2, rfl⟩ := hm
    have w0 := hv.aw k0 (by simp)
    have v0 := hv.fw k0 (by simp)
    have w1 := hv.aw k1 (by simp)
    have v1 := hv.fw k1 (by simp)
    have w2 := hv.aw k2 (by simp)
    have v2 := hv.fw k2 (by simp)
    obtain ⟨a1, a2, a3, a4⟩ := places_in hp0
    obtain ⟨b1, b2, b3, b4⟩ := places_in hp1
    obtain ⟨c1, c2, c3, c4⟩ := places_in hp2
    refine ⟨((p0.1 - k0.al) + 4 * (p0.2 - k0.fl) + 8 * ((p1.1 - k1.al) + 4 * (p1.2 - k1.fl)) + 64 * ((p2.1 - k2.al) + 4 * (p2.2 - k2.fl))).toNat, by simp only [List.length_cons, List.length_nil]; omega, ?_⟩
    rw [trulyK, trulyK, trulyK, trulyK, drawnK_at (hv.ok k0 (by simp)) hp0 (by rw [item0]; omega) (by rw [item1]; omega), drawnK_at (hv.ok k1 (by simp)) hp1 (by rw [item2]; omega) (by rw [item3]; omega), drawnK_at (hv.ok k2 (by simp)) hp2 (by rw [item4]; omega) (by rw [item5]; omega)]
    simp only [reachD, reachL, List.foldl_cons, List.foldl_nil, reach_pt]
  | _ :: _ :: _ :: _ :: _, _, _, h => simp at h

/-- The most pieces, of the first such logs. -/
def mostI (long : List Int) (sz : Int) (ks : List K4) : Nat → Int
  | 0 => 0
  | j + 1 => max (mostI long sz ks j) ((bestD long sz (trulyK (bitsI j) 0 ks)).length : Int)
theorem mostI_le {long : List Int} {sz : Int} {ks : List K4} (hv : LogOk long sz ks) : ∀ j, 0 ≤ mostI long sz ks j ∧ mostI long sz ks j ≤ hopeD long sz ks
  | 0 => ⟨Int.le_refl _, by have := best_hope hv; rw [mostI]; omega⟩
  | j + 1 => by
    have := mostI_le hv j
    have := hope_ge (sz := sz) (truly_truth hv (bitsI j))
    rw [mostI, bestD]
    omega
theorem mostI_ge {long : List Int} {sz : Int} {ks : List K4} {i : Nat} : ∀ j, i < j → ((bestD long sz (trulyK (bitsI i) 0 ks)).length : Int) ≤ mostI long sz ks j
  | 0, h => by omega
  | j + 1, h => by
    rw [mostI]
    by_cases e : i = j
    · subst e; omega
    · have := mostI_ge (long := long) (sz := sz) (ks := ks) (i := i) j (by omega)
      omega
theorem mostI_all {long : List Int} {sz : Int} {ks : List K4} (hv : LogOk long sz ks) : mostI long sz ks (8 ^ ks.length) = hopeD long sz ks := by
  have h1 := mostI_le hv (8 ^ ks.length)
  rcases (maxF ((truthsD long ks).map fun kn => ((cutD long sz kn).length : Int)) 0).2.2 with h | h
  · have : hopeD long sz ks = 0 := h
    omega
  · obtain ⟨kn, hm, e⟩ := List.mem_map.1 h
    obtain ⟨i, hi, hr⟩ := bits_truth hv hm
    have h2 := mostI_ge (long := long) (sz := sz) (ks := ks) (i := i) _ hi
    rw [bestD, hr] at h2
    have : hopeD long sz ks = ((cutD long sz kn).length : Int) := e.symm
    omega
theorem hopeD_range {long : List Int} {sz : Int} {ks : List K4} (hv : LogOk long sz ks) : 0 ≤ hopeD long sz ks ∧ hopeD long sz ks ≤ 72 := by
  have h := hope_range hv (hopesD long sz ks).length
  rw [List.take_length] at h
  exact h
theorem pow_len {n : Nat} (h : n ≤ 3) : wrap64 (2 ^ (3 * n)) = ((8 ^ n : Nat) : Int) ∧ 8 ^ n ≤ 512 := by
  match n, h with
  | 0, _ => exact ⟨by kernel_rfl, by decide⟩
  | 1, _ => exact ⟨by kernel_rfl, by decide⟩
  | 2, _ => exact ⟨by kernel_rfl, by decide⟩
  | 3, _ => exact ⟨by kernel_rfl, by decide⟩
end Go.Proofs.Ytnnlbbmimdohoaa
