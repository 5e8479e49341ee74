/- Layer 1, in plain lists: the columns that knots have, where it is known where each lies, are those of one truth. -/
import Derived.Test.YtnnlbbmimdohoaaT4
import Derived.Test.YtnnlbbmimdohoaaL8
namespace Go.Proofs.Ytnnlbbmimdohoaa
open Go.RowKit

theorem at0_starts {long : List Int} {n t : Nat} (h : t < n) (h6 : t < 6) : at0 (startsTo long n) t = psum long t := by
  rw [at0_lt (by rw [startsTo_length]; exact h6)]
  simp [startsTo, h]
theorem colOf_rb {long : List Int} (hL : LongOk long) (a : Int) {t : Nat} (h : t < long.length) : colOf (rb long) long a t = psum long t + a * at0 long t / 24 := by
  have := hL.n6
  rw [colOf, show (rb long).s = startsTo long long.length from rfl, at0_starts h (by omega)]
theorem b0_set {l : List Bool} {c i : Nat} : b0 (l.set c true) i = (b0 l i || (decide (c = i) && decide (i < l.length))) := by
  unfold b0
  rw [List.getD_eq_getElem?_getD, List.getD_eq_getElem?_getD, List.getElem?_set]
  by_cases h : c = i
  · subst h
    by_cases h2 : c < l.length <;> simp [h2]
  · simp [h]
theorem b0_len {l : List Bool} {i : Nat} (h : b0 l i = true) : i < l.length := by
  by_cases h2 : i < l.length
  · exact h2
  · simp [b0, List.getD_eq_getElem?_getD, List.getElem?_eq_none (show l.length ≤ i by omega)] at h
theorem b0_app {l m : List Bool} {i : Nat} : b0 (l ++ m) i = if i < l.length then b0 l i else b0 m (i - l.length) := by
  unfold b0
  rw [List.getD_eq_getElem?_getD, List.getElem?_append]
  split <;> simp [List.getD_eq_getElem?_getD]
theorem b0_trailTo {R : Rib} {long : List Int} {a : Int} {t i : Nat} : ∀ n, b0 (trailTo R long a t n) i = true ↔ i < 72 ∧ ∃ j, j < n ∧ i = (colOf R long a (t + j)).toNat
  | 0 => by rw [trailTo, b0_false]; simp
  | n + 1 => by
    rw [trailTo, b0_set, Bool.or_eq_true, Bool.and_eq_true, b0_trailTo n, trailTo_length]
    simp only [decide_eq_true_eq]
    constructor
    · rintro (⟨h, j, hj, e⟩ | ⟨e, h⟩)
      · exact ⟨h, j, by omega, e⟩
      · exact ⟨h, n, by omega, e.symm⟩
    · rintro ⟨h, j, hj, e⟩
      by_cases hjn : j = n
      · subst hjn; exact .inr ⟨e.symm, h⟩
      · exact .inl ⟨h, j, by omega, e⟩

/-- The column of an angle lies in its turn. -/
theorem col_in {long : List Int} (hL : LongOk long) {a : Int} (h0 : 0 ≤ a) (h1 : a ≤ 23) {t : Nat} (h : t < long.length) : 0 ≤ a * at0 long t / 24 ∧ a * at0 long t / 24 < at0 long t := by
  have l1 := hL.lo t h
  have m0 : 0 ≤ a * at0 long t := Int.mul_nonneg h0 (by omega)
  have m1 : a * at0 long t ≤ 23 * at0 long t := Int.mul_le_mul_of_nonneg_right h1 (by omega)
  omega
theorem b0_trailD {long : List Int} (hL : LongOk long) {a : Int} (h0 : 0 ≤ a) (h1 : a ≤ 23) {t i : Nat} : b0 (trailD long a t) i = true ↔ ∃ j, t ≤ j ∧ j < long.length ∧ (i : Int) = psum long j + a * at0 long j / 24 := by
  have hw := wideN_eq hL
  rw [trailD, trailL, b0_trailTo]
  constructor
  · rintro ⟨h, j, hj, e⟩
    have hc := col_in hL h0 h1 (t := t + j) (by omega)
    have hp := psum_range hL (t + j) (by omega)
    rw [colOf_rb hL a (by omega)] at e
    exact ⟨t + j, by omega, by omega, by omega⟩
  · rintro ⟨j, h1', h2, e⟩
    have hc := col_in hL h0 h1 h2
    have hp := psum_range hL j (by omega)
    have hm := psum_mono hL (i := j + 1) (j := long.length) (by omega) (Nat.le_refl _)
    rw [psum_succ h2] at hm
    refine ⟨by omega, j - t, by omega, ?_⟩
    rw [show t + (j - t) = j by omega, colOf_rb hL a h2]
    omega
theorem b0_markF {len : Int} {t i : Nat} : ∀ (ks : List K4) (row : List Bool), b0 (ks.foldl (markK len t) row) i = true ↔ b0 row i = true ∨ (i < row.length ∧ ∃ k ∈ ks, k.fl ≤ t ∧ i = (k.al * len / 24).toNat)
  | [], row => by simp
  | k :: ks, row => by
    rw [List.foldl_cons, b0_markF ks, markK_length, markK]
    by_cases h : k.fl ≤ t
    · rw [if_pos h, b0_set, Bool.or_eq_true, Bool.and_eq_true]
      simp only [decide_eq_true_eq, List.mem_cons]
      constructor
      · rintro ((h1 | ⟨h1, h2⟩) | ⟨h1, k', hk, h2⟩)
        · exact .inl h1
        · exact .inr ⟨h2, k, .inl rfl, h, h1.symm⟩
        · exact .inr ⟨h1, k', .inr hk, h2⟩
      · rintro (h1 | ⟨h1, k', rfl | hk, h2, h3⟩)
        · exact .inl (.inl h1)
        · exact .inl (.inr ⟨h3.symm, h1⟩)
        · exact .inr ⟨h1, k', hk, h2, h3⟩
    · rw [if_neg h]
      simp only [List.mem_cons]
      constructor
      · rintro (h1 | ⟨h1, k', hk, h2⟩)
        · exact .inl h1
        · exact .inr ⟨h1, k', .inr hk, h2⟩
      · rintro (h1 | ⟨h1, k', rfl | hk, h2, h3⟩)
        · exact .inl h1
        · exact absurd h2 h
        · exact .inr ⟨h1, k', hk, h2, h3⟩
theorem b0_knotsTo {long : List Int} (hL : LongOk long) {ks : List K4} (hk : ∀ k ∈ ks, 0 ≤ k.al ∧ k.al ≤ 23) {i : Nat} : ∀ n, n ≤ long.length → (b0 (knotsTo long ks n) i = true ↔ ∃ j, j < n ∧ ∃ k ∈ ks, k.fl ≤ j ∧ (i : Int) = psum long j + k.al * at0 long j / 24)
  | 0, _ => by simp [knotsTo, b0]
  | n + 1, hn => by
    have ih := b0_knotsTo hL hk n (by omega) (i := i)
    have hl := knotsTo_length ks hL n (by omega)
    have hlo := hL.lo n (by omega)
    have hp := psum_range hL n (by omega)
    rw [knotsTo_succ, b0_app]
    by_cases hi : i < (knotsTo long ks n).length
    · rw [if_pos hi, ih]
      constructor
      · rintro ⟨j, hj, h⟩; exact ⟨j, by omega, h⟩
      · rintro ⟨j, hj, k, hkm, h1, h2⟩
        refine ⟨j, ?_, k, hkm, h1, h2⟩
        by_cases hjn : j = n
        · subst hjn
          have := col_in hL (hk k hkm).1 (hk k hkm).2 (t := j) (by omega)
          omega
        · omega
    · rw [if_neg hi, rowK, b0_markF, b0_false, List.length_replicate]
      constructor
      · rintro (h | ⟨h1, k, hkm, h2, h3⟩)
        · cases h
        · have := col_in hL (hk k hkm).1 (hk k hkm).2 (t := n) (by omega)
          exact ⟨n, by omega, k, hkm, h2, by omega⟩
      · rintro ⟨j, hj, k, hkm, h1, h2⟩
        by_cases hjn : j = n
        · subst hjn
          have := col_in hL (hk k hkm).1 (hk k hkm).2 (t := j) (by omega)
          exact .inr ⟨by omega, k, hkm, h1, by omega⟩
        · have := col_in hL (hk k hkm).1 (hk k hkm).2 (t := j) (by omega)
          have hm := psum_mono hL (i := j + 1) (j := n) (by omega) (by omega)
          rw [psum_succ (by omega)] at hm
          omega

/-- A knot that is found. -/
structure Point (k : K4) (turns : Nat) : Prop where
  a : k.ah = k.al
  f : k.fh = k.fl
  a0 : 0 ≤ k.al
  a1 : k.al ≤ 23
  f0 : 0 ≤ k.fl
  f1 : k.fl ≤ turns
theorem Point.places {k : K4} {turns : Nat} (h : Point k turns) : placesL k = [(k.al, k.fl)] := by
  have e1 : (k.ah - k.al + 1).toNat = 1 := by have := h.a; omega
  have e2 : (k.fh - k.fl + 1).toNat = 1 := by have := h.f; omega
  simp [placesL, e1, e2]
theorem knots_reach {long : List Int} (hL : LongOk long) {ks : List K4} (hk : ∀ k ∈ ks, Point k long.length) (i : Nat) : b0 (knotsTo long ks long.length) i = b0 (reachD long ks) i := by
  rw [Bool.eq_iff_iff, b0_knotsTo hL (fun k h => ⟨(hk k h).a0, (hk k h).a1⟩) _ (Nat.le_refl _), reachD_iff]
  constructor
  · rintro ⟨j, hj, k, hkm, h1, h2⟩
    have hp := hk k hkm
    have := hp.f0
    exact ⟨k, hkm, (k.al, k.fl), by rw [hp.places]; simp, (b0_trailD hL hp.a0 hp.a1).2 ⟨j, by simp only; omega, hj, h2⟩⟩
  · rintro ⟨k, hkm, p, hpm, h⟩
    have hp := hk k hkm
    rw [hp.places, List.mem_singleton] at hpm
    subst hpm
    obtain ⟨j, h1, h2, h3⟩ := (b0_trailD hL hp.a0 hp.a1).1 h
    have := hp.f0
    exact ⟨j, h2, k, hkm, by simp only at h1; omega, h3⟩

theorem drawn_in {a b n : Int} (h1 : 0 ≤ a) (h2 : a ≤ b) (h3 : b ≤ 1000) : a ≤ drawn a b n ∧ drawn a b n ≤ b ∧ drawn a b n = a + spin n (b - a + 1) := by
  have hs := spin_range n (b - a + 1) (by omega)
  have e : drawn a b n = a + spin n (b - a + 1) := by
    rw [drawn, IntWalk.wrap64_in (b - a) (by omega), IntWalk.wrap64_in (b - a + 1) (by omega), IntWalk.wrap64_in _ (by omega)]
  omega
theorem drawnK_point {turns : Nat} {k : K4} (h : K4Ok k) (hf : k.fh ≤ turns) (bits : List Int) (i : Nat) : Point (drawnK bits i k) turns ∧ (drawnK bits i k).al - k.al ≤ k.ah - k.al ∧ k.al ≤ (drawnK bits i k).al ∧ k.fl ≤ (drawnK bits i k).fl ∧ (drawnK bits i k).fl ≤ k.fh := by
  have := h.a0
  have := h.a1
  have := h.f0
  have := h.f1
  have hd1 := drawn_in (n := item bits (2 * i)) h.a0 h.a (by omega)
  have hd2 := drawn_in (n := item bits (2 * i + 1)) h.f0 h.f (by omega)
  exact ⟨⟨rfl, rfl, by simp only [drawnK]; omega, by simp only [drawnK]; omega, by simp only [drawnK]; omega, by simp only [drawnK]; omega⟩, by simp only [drawnK]; omega, by simp only [drawnK]; omega, by simp only [drawnK]; omega, by simp only [drawnK]; omega⟩
theorem trulyK_point {turns : Nat} (bits : List Int) : ∀ (i : Nat) (ks : List K4), (∀ k ∈ ks, K4Ok k) → (∀ k ∈ ks, k.fh ≤ turns) → ∀ k ∈ trulyK bits i ks, Point k turns
  | _, [], _, _ => by simp [trulyK]
  | i, k :: ks, h1, h2 => by
    intro k' hk'
    rw [trulyK, List.mem_cons] at hk'
    rcases hk' with rfl | hk'
    · exact (drawnK_point (h1 k (by simp)) (h2 k (by simp)) bits i).1
    · exact trulyK_point bits (i + 1) ks (fun k h => h1 k (by simp [h])) (fun k h => h2 k (by simp [h])) k' hk'
theorem mem_places {k : K4} {a f : Int} (h1 : k.al ≤ a) (h2 : a ≤ k.ah) (h3 : k.fl ≤ f) (h4 : f ≤ k.fh) : (a, f) ∈ placesL k := by
  simp only [placesL, List.mem_flatMap, List.mem_map, List.mem_range]
  exact ⟨(a - k.al).toNat, by omega, (f - k.fl).toNat, by omega, by rw [Prod.mk.injEq]; omega⟩
theorem places_in {k : K4} {p : Int × Int} (h : p ∈ placesL k) : k.al ≤ p.1 ∧ p.1 ≤ k.ah ∧ k.fl ≤ p.2 ∧ p.2 ≤ k.fh := by
  simp only [placesL, List.mem_flatMap, List.mem_map, List.mem_range] at h
  obtain ⟨i, hi, j, hj, rfl⟩ := h
  simp only
  omega
theorem points_truths {R : Rib} {long : List Int} {turns : Nat} : ∀ (ks : List K4) (acc : List Bool), (∀ k ∈ ks, Point k turns) → truthsL R long ks acc = [ks.foldl (reachK R long) acc]
  | [], acc, _ => rfl
  | k :: ks, acc, h => by
    rw [truthsL, (h k (by simp)).places, List.flatMap_cons, List.flatMap_nil, List.append_nil, points_truths ks _ (fun k hk => h k (by simp [hk])), List.foldl_cons]
    congr 2
    rw [reachK, (h k (by simp)).places]
    rfl
/-- Where all knots are found, there is one truth. -/
theorem point_truth {long : List Int} {ks : List K4} (h : ∀ k ∈ ks, Point k long.length) : truthsD long ks = [reachD long ks] := points_truths ks _ h
theorem point_hope {long : List Int} {sz : Int} {ks : List K4} (h : ∀ k ∈ ks, Point k long.length) : hopeD long sz ks = ((bestD long sz ks).length : Int) := by
  rw [hopeD, point_truth h]
  simp [bestD]
/-- Where numbers choose what is true: one of the truths. -/
theorem truly_truth {long : List Int} {sz : Int} {ks : List K4} (hv : LogOk long sz ks) (bits : List Int) : reachD long (trulyK bits 0 ks) ∈ truthsD long ks := by
  have h := point_truth (trulyK_point bits 0 ks hv.ok hv.fh)
  have hm : reachD long (trulyK bits 0 ks) ∈ truthsD long (trulyK bits 0 ks) := by rw [h]; simp
  refine truthsL_mono _ _ _ (trulyK_length bits 0 ks) ?_ _ hm
  have key : ∀ (ks : List K4) (i : Nat), (∀ k ∈ ks, K4Ok k) → (∀ k ∈ ks, k.fh ≤ long.length) → ∀ j (h : j < (trulyK bits i ks).length) (h' : j < ks.length), ∀ p ∈ placesL (trulyK bits i ks)[j], p ∈ placesL ks[j] := by
    intro ks
    induction ks with
    | nil => intro i _ _ j _ h'; simp at h'
    | cons k ks ih =>
      intro i h1 h2 j hj hj' p hp
      cases j with
      | zero =>
        simp only [trulyK, List.getElem_cons_zero] at hp ⊢
        obtain ⟨q, a1, a2, a3, a4⟩ := drawnK_point (h1 k (by simp)) (h2 k (by simp)) bits i
        rw [q.places, List.mem_singleton] at hp
        rw [hp]
        exact mem_places a2 (by omega) a3 a4
      | succ j =>
        simp only [trulyK, List.getElem_cons_succ] at hp ⊢
        exact ih (i + 1) (fun k h => h1 k (by simp [h])) (fun k h => h2 k (by simp [h])) j (by simp [trulyK] at hj; omega) (by simp at hj'; omega) p hp
  exact key ks 0 hv.ok hv.fh

/-- What is told of a column, and what is so. -/
theorem knot_iff {long : List Int} {ks : List K4} (ho : ∀ k ∈ ks, K4Ok k) (c : Nat) : knotD long ks c = 0 ↔ b0 (reachD long ks) c = false := by
  have hne : ∃ kn, kn ∈ truthsD long ks := truthsL_ne ks _ ho
  have key : (truthsD long ks).any (b0 · c) = b0 (reachD long ks) c := by
    rw [Bool.eq_iff_iff, List.any_eq_true]
    constructor
    · rintro ⟨kn, hm, h⟩; exact truth_reach hm c h
    · intro h
      obtain ⟨kn, hm, hb⟩ := reach_truth (R := rb long) (acc := List.replicate 72 false) ks (by simp) ho c (reachD_iff c |>.1 h)
      exact ⟨kn, hm, hb⟩
  unfold knotD
  rw [key]
  cases hb : b0 (reachD long ks) c
  · have h2 : (truthsD long ks).all (b0 · c) = false := by
      rw [List.all_eq_false]
      obtain ⟨kn, hm⟩ := hne
      refine ⟨kn, hm, ?_⟩
      intro hh
      rw [truth_reach hm c hh] at hb
      cases hb
    simp [h2]
  · simp
    split <;> omega
theorem knot_true {long : List Int} {ks : List K4} {kn : List Bool} (hm : kn ∈ truthsD long ks) {c : Nat} (h : knotD long ks c = 2) : b0 kn c = true := by
  unfold knotD at h
  split at h
  · rename_i h2; exact List.all_eq_true.1 h2 kn hm
  · split at h <;> omega
theorem knot_false {long : List Int} {ks : List K4} {kn : List Bool} (hm : kn ∈ truthsD long ks) {c : Nat} (h : knotD long ks c = 0) : b0 kn c = false := by
  unfold knotD at h
  split at h
  · omega
  · split at h
    · omega
    · rename_i h1 h2
      cases hb : b0 kn c
      · rfl
      · exact absurd (List.any_eq_true.2 ⟨kn, hm, hb⟩) h2
theorem knot_range (long : List Int) (ks : List K4) (c : Nat) : 0 ≤ knotD long ks c ∧ knotD long ks c ≤ 2 := by
  unfold knotD
  split
  · omega
  · split <;> omega
/-- As many pieces are whole as are counted, of a cutting. -/
theorem wholeN_eq {long : List Int} {sz : Int} {m : Nat} (hm : sz = m) (h1 : 1 ≤ sz) {kn kn' : List Bool} (h : ∀ i, b0 kn i = b0 kn' i) {cut : List Int} (hcut : cutOk sz (psum long long.length) 0 cut = true) (hw : psum long long.length ≤ 72) : wholeN kn m cut = countL (wholesD long sz kn') cut := by
  unfold wholeN countL
  congr 1
  apply List.countP_congr
  intro f hf
  have hr := cutOk_range (Int.le_refl 0) (by omega) hcut f hf
  rw [b0_wholesD, freeAt_iff]
  subst hm
  simp only [h, Int.toNat_natCast]
  constructor
  · intro h; exact ⟨by omega, by omega, h⟩
  · intro h; exact h.2.2
theorem point_kvalid {k : K4} {turns : Nat} (h : Point k turns) (ht : turns ≤ 6) : kvalidB k turns = true := by
  obtain ⟨a, f, a0, a1, f0, f1⟩ := h
  have e : wrap64 ((turns : Int) + 1) = turns + 1 := IntWalk.wrap64_in _ (by omega)
  have e1 : wrap64 (k.ah - k.al) = 0 := by rw [a]; rw [Int.sub_self]; exact IntWalk.wrap64_in _ (by omega)
  have e2 : wrap64 (k.fh - k.fl) = 0 := by rw [f]; rw [Int.sub_self]; exact IntWalk.wrap64_in _ (by omega)
  simp only [kvalidB, showsB, narrowB, e, e1, e2, Bool.and_eq_true, decide_eq_true_eq]
  omega
theorem points_valid {long : List Int} {sz : Int} {ks ks' : List K4} (h : validB long sz ks = true) (hl : ks'.length ≤ 3) (hp : ∀ k ∈ ks', Point k long.length) : validB long sz ks' = true := by
  have hv := valid_ok h
  simp only [validB, Bool.and_eq_true, decide_eq_true_eq] at h ⊢
  obtain ⟨⟨⟨⟨⟨⟨a, b⟩, c⟩, d⟩, _⟩, f⟩, _⟩ := h
  exact ⟨⟨⟨⟨⟨⟨a, b⟩, c⟩, d⟩, hl⟩, f⟩, List.all_eq_true.2 fun k hk => point_kvalid (hp k hk) hv.L.n6⟩
theorem truly_valid {long : List Int} {sz : Int} {ks : List K4} (h : validB long sz ks = true) (bits : List Int) : validB long sz (trulyK bits 0 ks) = true := by
  have hv := valid_ok h
  exact points_valid h (by rw [trulyK_length]; exact hv.k3) (trulyK_point bits 0 ks hv.ok hv.fh)
end Go.Proofs.Ytnnlbbmimdohoaa
