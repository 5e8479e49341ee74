/- Layer 1, in plain lists: what is counted of a cutting, and what is so. -/
import Derived.Test.YtnnlbbmimdohoaaT5
import Derived.Test.YtnnlbbmimdohoaaN3
namespace Go.Proofs.Ytnnlbbmimdohoaa
open Go.RowKit

theorem minF {α : Type} (f : α → Int) : ∀ (l : List α) (m : Int), l.foldl (fun m x => min m (f x)) m ≤ m ∧ (∀ x ∈ l, l.foldl (fun m x => min m (f x)) m ≤ f x) ∧ ∀ y, y ≤ m → (∀ x ∈ l, y ≤ f x) → y ≤ l.foldl (fun m x => min m (f x)) m
  | [], m => by simp
  | a :: l, m => by
    obtain ⟨h1, h2, h3⟩ := minF f l (min m (f a))
    rw [List.foldl_cons]
    refine ⟨by omega, ?_, fun y h4 h5 => h3 y (by have := h5 a (by simp); omega) fun x hx => h5 x (by simp [hx])⟩
    intro x hx
    rcases List.mem_cons.1 hx with rfl | hx
    · omega
    · exact h2 x hx
theorem maxG {α : Type} (f : α → Int) : ∀ (l : List α) (m : Int), m ≤ l.foldl (fun m x => max m (f x)) m ∧ (∀ x ∈ l, f x ≤ l.foldl (fun m x => max m (f x)) m) ∧ ∀ y, m ≤ y → (∀ x ∈ l, f x ≤ y) → l.foldl (fun m x => max m (f x)) m ≤ y
  | [], m => by simp
  | a :: l, m => by
    obtain ⟨h1, h2, h3⟩ := maxG f l (max m (f a))
    rw [List.foldl_cons]
    refine ⟨by omega, ?_, fun y h4 h5 => h3 y (by have := h5 a (by simp); omega) fun x hx => h5 x (by simp [hx])⟩
    intro x hx
    rcases List.mem_cons.1 hx with rfl | hx
    · omega
    · exact h2 x hx
/-- As many pieces are whole in a truth as lie between what is told. -/
theorem lo_hi {long : List Int} {sz : Int} {ks : List K4} {kn : List Bool} (hm : kn ∈ truthsD long ks) (cut : List Int) : loD long sz ks cut ≤ countL (wholesD long sz kn) cut ∧ countL (wholesD long sz kn) cut ≤ hiD long sz ks cut :=
  ⟨(minF (fun kn => countL (wholesD long sz kn) cut) _ _).2.1 kn hm, (maxG (fun kn => countL (wholesD long sz kn) cut) _ _).2.1 kn hm⟩
theorem hi_le (long : List Int) (sz : Int) (ks : List K4) (cut : List Int) : hiD long sz ks cut ≤ cut.length :=
  (maxG (fun kn => countL (wholesD long sz kn) cut) _ _).2.2 _ (by omega) fun kn _ => (countL_le _ _).2
theorem wholes_truth {long : List Int} {sz : Int} {ks : List K4} {kn : List Bool} (hm : kn ∈ truthsD long ks) (cut : List Int) : countL (wholesD long sz (reachD long ks)) cut ≤ countL (wholesD long sz kn) cut :=
  countL_mono fun _ _ h => wholesD_mono (fun i => truth_reach hm i) _ h
theorem sure_lo (long : List Int) (sz : Int) (ks : List K4) (cut : List Int) : countL (wholesD long sz (reachD long ks)) cut ≤ loD long sz ks cut :=
  (minF (fun kn => countL (wholesD long sz kn) cut) _ _).2.2 _ (countL_le _ _).2 fun _ hm => wholes_truth hm cut
theorem hope_ge {long : List Int} {sz : Int} {ks : List K4} {kn : List Bool} (hm : kn ∈ truthsD long ks) : ((cutD long sz kn).length : Int) ≤ hopeD long sz ks :=
  (maxF _ 0).2.1 _ (List.mem_map.2 ⟨kn, hm, rfl⟩)
theorem most_any {long : List Int} {sz : Int} {ks : List K4} (hv : LogOk long sz ks) (kn : List Bool) {cut : List Int} (h : cutOk sz (psum long long.length) 0 cut = true) : countL (wholesD long sz kn) cut ≤ ((cutD long sz kn).length : Int) := by
  have h1 := hv.s1
  have hw := wideN_eq hv.L
  have e : ((sz.toNat : Nat) : Int) = sz := by omega
  exact greedy_most (c := wholesD long sz kn) (sz := sz.toNat) (wide := wideN long) (by omega) (wideN long + 1) 0 cut (by omega) (by rw [e, hw.1]; exact h)
theorem best_hope {long : List Int} {sz : Int} {ks : List K4} (hv : LogOk long sz ks) : ((bestD long sz ks).length : Int) ≤ hopeD long sz ks := by
  obtain ⟨kn, hm⟩ : ∃ kn, kn ∈ truthsD long ks := truthsL_ne ks _ hv.ok
  have h1 := cutD_mono (long := long) hv.s1 (kn := reachD long ks) (kn' := kn) (fun i h => truth_reach hm i h)
  have h2 := hope_ge (sz := sz) hm
  unfold bestD
  omega
/-- Each piece of the best cutting is whole in each truth. -/
theorem best_true {long : List Int} {sz : Int} {ks : List K4} (hv : LogOk long sz ks) {kn : List Bool} (hm : kn ∈ truthsD long ks) : countL (wholesD long sz kn) (bestD long sz ks) = (bestD long sz ks).length := by
  have h1 := (best_ok hv).2
  have h2 := wholes_truth (sz := sz) hm (bestD long sz ks)
  have h3 := countL_le (wholesD long sz kn) (bestD long sz ks)
  omega
end Go.Proofs.Ytnnlbbmimdohoaa
