/- Layer 1, in plain lists: the knot to ask for. -/
import Derived.Test.YtnnlbbmimdohoaaL9
namespace Go.Proofs.Ytnnlbbmimdohoaa
open Go.RowKit

theorem b0_ext {l m : List Bool} (hl : l.length = 72) (hm : m.length = 72) (h : ∀ i, b0 l i = b0 m i) : l = m := by
  apply List.ext_getElem (by omega)
  intro i h1 h2
  have := h i
  rwa [b0_lt h1, b0_lt h2] at this
theorem mem_set_erase {α : Type} {l : List α} {k : Nat} (hk : k < l.length) {x y : α} : y ∈ l.set k x ↔ y = x ∨ y ∈ l.eraseIdx k := by
  rw [List.set_eq_take_append_cons_drop, if_pos hk, List.eraseIdx_eq_take_drop_succ]
  simp only [List.mem_append, List.mem_cons]
  constructor
  · rintro (h | h | h)
    · exact .inr (.inl h)
    · exact .inl h
    · exact .inr (.inr h)
  · rintro (h | h | h)
    · exact .inr (.inl h)
    · exact .inl h
    · exact .inr (.inr h)
/-- The columns, where one knot is found. -/
theorem reach_set {long : List Int} {ks : List K4} {k : Nat} (hk : k < ks.length) (p : Int × Int) : reachD long (ks.set k (ptK p)) = orL (reachD long (ks.eraseIdx k)) (trailD long p.1 p.2.toNat) := by
  have h1 := reachD_length long (ks.eraseIdx k)
  have h2 : (trailD long p.1 p.2.toNat).length = 72 := trailL_length _ _ _ _
  apply b0_ext (reachD_length _ _) (orL_length h1 h2)
  intro i
  rw [Bool.eq_iff_iff, reachD_iff, b0_orL h1 h2, Bool.or_eq_true, reachD_iff]
  constructor
  · rintro ⟨x, hx, q, hq, hb⟩
    rcases (mem_set_erase hk).1 hx with rfl | hx
    · have : placesL (ptK p) = [p] := by simp [placesL, ptK]
      rw [this, List.mem_singleton] at hq
      subst hq
      exact .inr hb
    · exact .inl ⟨x, hx, q, hq, hb⟩
  · rintro (⟨x, hx, q, hq, hb⟩ | hb)
    · exact ⟨x, (mem_set_erase hk).2 (.inr hx), q, hq, hb⟩
    · exact ⟨ptK p, (mem_set_erase hk).2 (.inl rfl), p, by simp [placesL, ptK], hb⟩
/-- How many pieces, where one knot is found at a place. -/
def placeN (long : List Int) (sz : Int) (ks : List K4) (k : Nat) (p : Int × Int) : Int := ((cutD long sz (orL (reachD long (ks.eraseIdx k)) (trailD long p.1 p.2.toNat))).length : Int)
theorem found_best {long : List Int} {sz : Int} {ks : List K4} {k : Nat} (hk : k < ks.length) (j : Nat) : ((bestD long sz (foundK ks k j)).length : Int) = placeN long sz ks k (foundP ks[k] j) := by
  unfold foundK placeN bestD
  rw [List.getElem?_eq_getElem hk]
  simp only
  rw [reach_set hk]
theorem worst_eq {long : List Int} {sz : Int} {ks : List K4} {k : Nat} (hk : k < ks.length) : worstD long sz ks k = (placesL ks[k]).foldl (fun m q => min m (placeN long sz ks k q)) (psum long long.length) := by
  unfold worstD
  rw [List.getElem?_eq_getElem hk]
  rfl
theorem found_all {x : K4} (h : K4Ok x) (hw : x.ah - x.al ≤ 3) (hf : x.fh - x.fl ≤ 1) {p : Int × Int} (hp : p ∈ placesL x) : ∃ j, j < 8 ∧ foundP x j = p := by
  obtain ⟨a1, a2, a3, a4⟩ := places_in hp
  refine ⟨((p.1 - x.al) + 4 * (p.2 - x.fl)).toNat, by omega, ?_⟩
  have e1 : (((p.1 - x.al) + 4 * (p.2 - x.fl)).toNat : Int) % 4 = p.1 - x.al := by omega
  have e2 : (((p.1 - x.al) + 4 * (p.2 - x.fl)).toNat : Int) / 4 = p.2 - x.fl := by omega
  have h1 := (drawn_in (n := p.1 - x.al) h.a0 h.a (by have := h.a1; omega)).2.2
  have h2 := (drawn_in (n := p.2 - x.fl) h.f0 h.f (by have := h.f1; omega)).2.2
  rw [spin_in (by omega) (by omega)] at h1 h2
  unfold foundP
  rw [e1, e2, h1, h2]
  exact Prod.ext (by simp only; omega) (by simp only; omega)
theorem leastI_le {long : List Int} {sz : Int} {ks : List K4} {k : Nat} : ∀ j, leastI long sz ks k j ≤ psum long long.length ∧ (∀ i, i < j → leastI long sz ks k j ≤ ((bestD long sz (foundK ks k i)).length : Int)) ∧ ∀ y, y ≤ psum long long.length → (∀ i, i < j → y ≤ ((bestD long sz (foundK ks k i)).length : Int)) → y ≤ leastI long sz ks k j
  | 0 => ⟨Int.le_refl _, fun i hi => by omega, fun y hy _ => hy⟩
  | j + 1 => by
    obtain ⟨h1, h2, h3⟩ := leastI_le (long := long) (sz := sz) (ks := ks) (k := k) j
    rw [leastI]
    refine ⟨by omega, fun i hi => ?_, fun y hy hb => ?_⟩
    · by_cases e : i = j
      · subst e; omega
      · have := h2 i (by omega); omega
    · have := h3 y hy fun i hi => hb i (by omega)
      have := hb j (by omega)
      omega
theorem leastI_worst {long : List Int} {sz : Int} {ks : List K4} (hv : LogOk long sz ks) {k : Nat} (hk : k < ks.length) : leastI long sz ks k 8 = worstD long sz ks k := by
  have hx := hv.ok ks[k] (List.getElem_mem hk)
  have hw := hv.aw ks[k] (List.getElem_mem hk)
  have hf := hv.fw ks[k] (List.getElem_mem hk)
  obtain ⟨a1, a2, a3⟩ := leastI_le (long := long) (sz := sz) (ks := ks) (k := k) 8
  obtain ⟨b1, b2, b3⟩ := minF (placeN long sz ks k) (placesL ks[k]) (psum long long.length)
  rw [← worst_eq hk] at b1 b2 b3
  apply Int.le_antisymm
  · refine b3 _ a1 fun p hp => ?_
    obtain ⟨j, hj, rfl⟩ := found_all hx hw hf hp
    rw [← found_best hk]
    exact a2 j hj
  · refine a3 _ b1 fun j hj => ?_
    rw [found_best hk]
    exact b2 _ (found_places hx j)
theorem best_psum {long : List Int} {sz : Int} {ks : List K4} (hv : LogOk long sz ks) (kn : List Bool) : ((cutD long sz kn).length : Int) ≤ psum long long.length := by
  have h1 := hv.s1
  have hw := wideN_eq hv.L
  have := cutL_length (c := wholesD long sz kn) (sz := sz.toNat) (wide := wideN long) (by omega) (wideN long + 1) 0 (by omega)
  unfold cutD
  omega
/-- Whatever is found of a knot, there are no fewer pieces. -/
theorem best_worst {long : List Int} {sz : Int} {ks : List K4} (hv : LogOk long sz ks) {k : Nat} (hk : k < ks.length) : ((bestD long sz ks).length : Int) ≤ worstD long sz ks k := by
  obtain ⟨b1, b2, b3⟩ := minF (placeN long sz ks k) (placesL ks[k]) (psum long long.length)
  rw [worst_eq hk]
  refine b3 _ (best_psum hv _) fun p hp => ?_
  unfold placeN
  rw [← reach_set hk]
  have := cutD_mono (long := long) hv.s1 (kn := reachD long ks) (kn' := reachD long (ks.set k (ptK p))) fun i hi => reachD_mono (ks := ks.set k (ptK p)) (ks' := ks) (fun y hy q hq => by
    rcases List.mem_or_eq_of_mem_set hy with hy | rfl
    · exact ⟨y, hy, hq⟩
    · have : placesL (ptK p) = [p] := by simp [placesL, ptK]
      rw [this, List.mem_singleton] at hq
      subst hq
      exact ⟨ks[k], List.getElem_mem hk, hp⟩) i hi
  unfold bestD
  omega
/-- The knot that is asked for is the first one of the most. -/
theorem ask_ok {long : List Int} {sz : Int} {ks : List K4} (h0 : 0 < ks.length) : ∃ a : Nat, askD long sz ks = a ∧ a < ks.length ∧ (∀ k, k < ks.length → worstD long sz ks k ≤ worstD long sz ks a) ∧ ∀ k, k < a → worstD long sz ks k < worstD long sz ks a := by
  have hat : ∀ k, k < ks.length → at0 ((List.range ks.length).map (worstD long sz ks)) k = worstD long sz ks k := fun k h => by rw [at0_lt (by simpa using h)]; simp
  have hlen : ((List.range ks.length).map (worstD long sz ks)).length = ks.length := by simp
  have he : askD long sz ks = indexL ((List.range ks.length).map (worstD long sz ks)) (maxL (at0 ((List.range ks.length).map (worstD long sz ks)) 0) ((List.range ks.length).map (worstD long sz ks)).tail) := rfl
  generalize (List.range ks.length).map (worstD long sz ks) = l at *
  obtain ⟨x, t, rfl⟩ : ∃ x t, l = x :: t := by
    cases l with
    | nil => simp at hlen; omega
    | cons x t => exact ⟨x, t, rfl⟩
  have hx : at0 (x :: t) 0 = x := rfl
  rw [hx, List.tail_cons] at he
  obtain ⟨m1, m2, m3⟩ := maxF t x
  have hm : maxL x t ∈ x :: t := by
    rcases m3 with e | e
    · rw [show maxL x t = x from e]; simp
    · exact List.mem_cons_of_mem _ e
  have hall : ∀ y ∈ x :: t, y ≤ maxL x t := by
    intro y hy
    rcases List.mem_cons.1 hy with rfl | hy
    · exact m1
    · exact m2 y hy
  generalize maxL x t = mx at *
  have hi := List.idxOf_lt_length_of_mem hm
  have hg : (x :: t)[(x :: t).idxOf mx] = mx := List.getElem_idxOf hi
  rw [indexL, if_pos hm] at he
  refine ⟨(x :: t).idxOf mx, he, by omega, ?_, ?_⟩
  · intro k hk
    rw [← hat k hk, ← hat ((x :: t).idxOf mx) (by omega), at0_lt (by omega), at0_lt hi, hg]
    exact hall _ (List.getElem_mem _)
  · intro k hk
    rw [← hat k (by omega), ← hat ((x :: t).idxOf mx) (by omega), at0_lt (by omega), at0_lt hi, hg]
    have h1 := hall _ (List.getElem_mem (h := show k < (x :: t).length by omega))
    have h2 := List.not_of_lt_findIdx (p := (· == mx)) (xs := x :: t) (show k < (x :: t).findIdx (· == mx) from hk)
    have h3 : (x :: t)[k] ≠ mx := by simpa using h2
    omega
end Go.Proofs.Ytnnlbbmimdohoaa
