/- Layer 1, in plain lists: a knot is found: fewer truths, so the whole pieces of a cutting lie between closer numbers; a cutting that numbers choose. -/
import Derived.Test.YticfcdbfplfmlaaPDX
namespace Go.Proofs.Yticfcdbfplfmlaa.Pe
open Go.RowKit

theorem minF3 {α : Type} (f : α → Int) : ∀ (l : List α) (m : Int), l.foldl (fun m x => min m (f x)) m ≤ m ∧ (∀ x ∈ l, l.foldl (fun m x => min m (f x)) m ≤ f x) ∧ ∀ y, y ≤ m → (∀ x ∈ l, y ≤ f x) → y ≤ l.foldl (fun m x => min m (f x)) m
  | [], m => by simp
  | a :: l, m => by
    obtain ⟨h1, h2, h3⟩ := minF3 f l (min m (f a))
    rw [List.foldl_cons]
    refine ⟨by omega, ?_, fun y h4 h5 => h3 y (by have := h5 a (by simp); omega) fun x hx => h5 x (by simp [hx])⟩
    intro x hx
    rcases List.mem_cons.1 hx with rfl | hx
    · omega
    · exact h2 x hx
theorem maxG3 {α : Type} (f : α → Int) : ∀ (l : List α) (m : Int), m ≤ l.foldl (fun m x => max m (f x)) m ∧ (∀ x ∈ l, f x ≤ l.foldl (fun m x => max m (f x)) m) ∧ ∀ y, m ≤ y → (∀ x ∈ l, f x ≤ y) → l.foldl (fun m x => max m (f x)) m ≤ y
  | [], m => by simp
  | a :: l, m => by
    obtain ⟨h1, h2, h3⟩ := maxG3 f l (max m (f a))
    rw [List.foldl_cons]
    refine ⟨by omega, ?_, fun y h4 h5 => h3 y (by have := h5 a (by simp); omega) fun x hx => h5 x (by simp [hx])⟩
    intro x hx
    rcases List.mem_cons.1 hx with rfl | hx
    · omega
    · exact h2 x hx
theorem drawn_in3 {a b n : Int} (h1 : 0 ≤ a) (h2 : a ≤ b) (h3 : b ≤ 1000) : a ≤ drawn a b n ∧ drawn a b n ≤ b := by
  have hs := spin_range n (b - a + 1) (by omega)
  have e : drawn a b n = a + spin n (b - a + 1) := by
    rw [drawn, IntWalk.wrap64_in (b - a) (by omega), IntWalk.wrap64_in (b - a + 1) (by omega), IntWalk.wrap64_in _ (by omega)]
  omega
theorem mem_places3 {k : K4} {a f : Int} (h1 : k.al ≤ a) (h2 : a ≤ k.ah) (h3 : k.fl ≤ f) (h4 : f ≤ k.fh) : (a, f) ∈ placesL k := by
  simp only [placesL, List.mem_flatMap, List.mem_map, List.mem_range]
  exact ⟨(a - k.al).toNat, by omega, (f - k.fl).toNat, by omega, by rw [Prod.mk.injEq]; omega⟩
theorem places_in3 {k : K4} {p : Int × Int} (h : p ∈ placesL k) : k.al ≤ p.1 ∧ p.1 ≤ k.ah ∧ k.fl ≤ p.2 ∧ p.2 ≤ k.fh := by
  simp only [placesL, List.mem_flatMap, List.mem_map, List.mem_range] at h
  obtain ⟨i, hi, j, hj, rfl⟩ := h
  simp only
  omega
/-- A knot that is found. -/
def seenK (k : K4) (n1 n2 : Int) : K4 := ⟨drawn k.al k.ah n1, drawn k.al k.ah n1, drawn k.fl k.fh n2, drawn k.fl k.fh n2⟩
theorem seenK_in {k : K4} (h : K4Ok k) (n1 n2 : Int) : k.al ≤ drawn k.al k.ah n1 ∧ drawn k.al k.ah n1 ≤ k.ah ∧ k.fl ≤ drawn k.fl k.fh n2 ∧ drawn k.fl k.fh n2 ≤ k.fh := by
  have h1 := drawn_in3 (n := n1) h.a0 h.a (by have := h.a1; omega)
  have h2 := drawn_in3 (n := n2) h.f0 h.f (by have := h.f1; omega)
  omega
theorem seen_places {k : K4} (h : K4Ok k) (n1 n2 : Int) {p : Int × Int} (hp : p ∈ placesL (seenK k n1 n2)) : p ∈ placesL k := by
  obtain ⟨a1, a2, a3, a4⟩ := places_in3 hp
  have := seenK_in h n1 n2
  simp only [seenK] at a1 a2 a3 a4
  exact mem_places3 (by omega) (by omega) (by omega) (by omega)
theorem seen_valid {long : List Int} {sz : Int} {ks : List K4} (h : validB long sz ks = true) {k : Nat} (hk : k < ks.length) (n1 n2 : Int) : validB long sz (ks.set k (seenK ks[k] n1 n2)) = true := by
  have hv := valid_ok h
  simp only [validB, Bool.and_eq_true, decide_eq_true_eq] at h ⊢
  obtain ⟨⟨⟨⟨⟨⟨a, b⟩, c⟩, d⟩, e⟩, f⟩, g⟩ := h
  refine ⟨⟨⟨⟨⟨⟨a, b⟩, c⟩, d⟩, by rw [List.length_set]; exact e⟩, f⟩, ?_⟩
  rw [List.all_eq_true] at g ⊢
  intro y hy
  rcases List.mem_or_eq_of_mem_set hy with hy | rfl
  · exact g y hy
  · have hm := List.getElem_mem hk
    have hi := seenK_in (hv.ok _ hm) n1 n2
    have h1 := hv.ok _ hm
    have h2 := hv.fh _ hm
    obtain ⟨x1, x2, x3, x4, x5, x6⟩ := h1
    have e0 : wrap64 ((long.length : Int) + 1) = long.length + 1 := IntWalk.wrap64_in _ (by omega)
    have e1 : ∀ z : Int, wrap64 (z - z) = 0 := fun z => by rw [Int.sub_self]; exact IntWalk.wrap64_in _ (by omega)
    simp only [seenK, kvalidB, showsB, narrowB, e0, e1, Bool.and_eq_true, decide_eq_true_eq]
    clear e0 e1
    (repeat' apply And.intro) <;> first | omega | (apply decide_eq_true; omega)
theorem seen_truths {long : List Int} {sz : Int} {ks : List K4} (hv : LogOk long sz ks) {k : Nat} (hk : k < ks.length) (n1 n2 : Int) : ∀ kn ∈ truthsD long (ks.set k (seenK ks[k] n1 n2)), kn ∈ truthsD long ks := fun kn hm =>
  truthsL_mono _ _ _ List.length_set (fun j hj hj' p hp => by
      rw [List.getElem_set] at hp
      split at hp
      · rename_i he
        subst he
        exact seen_places (hv.ok _ (List.getElem_mem hk)) n1 n2 hp
      · exact hp) kn hm
/-- Once a knot is found the whole pieces of a cutting lie between closer numbers. -/
theorem seen_lo_hi {long : List Int} {sz : Int} {ks : List K4} (hv : LogOk long sz ks) {k : Nat} (hk : k < ks.length) (n1 n2 : Int) (cut : List Int) :
    loD long sz ks cut ≤ loD long sz (ks.set k (seenK ks[k] n1 n2)) cut ∧ hiD long sz (ks.set k (seenK ks[k] n1 n2)) cut ≤ hiD long sz ks cut := by
  have hs := seen_truths hv hk n1 n2
  refine ⟨?_, ?_⟩
  · refine (minF3 (fun kn => countL (wholesD long sz kn) cut) _ _).2.2 _ ?_ fun kn hm => ?_
    · exact (minF3 (fun kn => countL (wholesD long sz kn) cut) _ _).1
    · exact (minF3 (fun kn => countL (wholesD long sz kn) cut) _ _).2.1 kn (hs kn hm)
  · refine (maxG3 (fun kn => countL (wholesD long sz kn) cut) _ _).2.2 _ ?_ fun kn hm => ?_
    · exact (maxG3 (fun kn => countL (wholesD long sz kn) cut) _ _).1
    · exact (maxG3 (fun kn => countL (wholesD long sz kn) cut) _ _).2.1 kn (hs kn hm)
theorem lo_hi_range {long : List Int} {sz : Int} {ks : List K4} (hv : LogOk long sz ks) (cut : List Int) : 0 ≤ loD long sz ks cut ∧ loD long sz ks cut ≤ hiD long sz ks cut ∧ hiD long sz ks cut ≤ cut.length := by
  obtain ⟨kn, hm⟩ := truthsL_ne (R := rb long) (long := long) ks (List.replicate 72 false) hv.ok
  have h1 := (minF3 (fun kn => countL (wholesD long sz kn) cut) (truthsD long ks) cut.length)
  have h2 := (maxG3 (fun kn => countL (wholesD long sz kn) cut) (truthsD long ks) 0)
  have h3 := h1.2.1 kn hm
  have h4 := h2.2.1 kn hm
  have h5 := countL_le (wholesD long sz kn) cut
  refine ⟨h1.2.2 0 (by omega) fun kn _ => (countL_le _ _).1, Int.le_trans h3 h4, h2.2.2 _ (by omega) fun kn _ => (countL_le _ _).2⟩
/-- A cutting that numbers choose: how many columns are left ahead of each piece. -/
def slicedL (sz wide : Int) : List Int → Int → List Int
  | [], _ => []
  | x :: xs, c => if wide < c + spin x 3 + sz then [] else (c + spin x 3) :: slicedL sz wide xs (c + spin x 3 + sz)
theorem cutOk_cons3 {sz wide i f : Int} {l : List Int} (h1 : i ≤ f) (h2 : f + sz ≤ wide) (h : cutOk sz wide (f + sz) l = true) : cutOk sz wide i (f :: l) = true := by
  rw [cutOk, if_neg (by omega)]; exact h
theorem slicedL_ok {sz wide : Int} : ∀ (l : List Int) (c : Int), cutOk sz wide c (slicedL sz wide l c) = true
  | [], _ => by rw [slicedL, cutOk]
  | x :: xs, c => by
    have hs := spin_range x 3 (by omega)
    rw [slicedL]
    by_cases h : wide < c + spin x 3 + sz
    · rw [if_pos h, cutOk]
    · rw [if_neg h]
      exact cutOk_cons3 (by omega) (by omega) (slicedL_ok xs _)
theorem slicedL_length {sz wide : Int} : ∀ (l : List Int) (c : Int), (slicedL sz wide l c).length ≤ l.length
  | [], _ => by rw [slicedL]; simp
  | x :: xs, c => by
    rw [slicedL]
    by_cases h : wide < c + spin x 3 + sz
    · rw [if_pos h]; simp
    · rw [if_neg h]
      have := slicedL_length (sz := sz) (wide := wide) xs (c + spin x 3 + sz)
      simp; omega
theorem slicedL_at {sz wide c : Int} {l : List Int} {j : Nat} (h : j < l.length) : slicedL sz wide (l.drop j) c = if wide < c + spin (at0 l j) 3 + sz then [] else (c + spin (at0 l j) 3) :: slicedL sz wide (l.drop (j + 1)) (c + spin (at0 l j) 3 + sz) := by
  rw [List.drop_eq_getElem_cons h, slicedL, at0_lt h]
end Go.Proofs.Yticfcdbfplfmlaa.Pe
