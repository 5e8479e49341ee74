/- Layer 1, in plain lists: cutting each piece as early as can be gives the most pieces, and the first such cutting. -/
import Derived.Test.YtnnlbbmimdohoaaS
namespace Go.Proofs.Ytnnlbbmimdohoaa
open Go.RowKit

theorem cutOk_less {sz wide : Int} : ∀ {cut : List Int} {i j : Int}, j ≤ i → cutOk sz wide i cut = true → cutOk sz wide j cut = true
  | [], _, _, _, _ => by rw [cutOk]
  | f :: l, i, j, hj, h => by
    rw [cutOk] at h ⊢
    by_cases hc : f < i ∨ wide - sz < f
    · rw [if_pos hc] at h; cases h
    · rw [if_neg hc] at h
      rw [if_neg (by omega)]
      exact h
theorem cutOk_cons {sz wide i f : Int} {l : List Int} (h : cutOk sz wide i (f :: l) = true) : i ≤ f ∧ f + sz ≤ wide ∧ cutOk sz wide (f + sz) l = true := by
  rw [cutOk] at h
  by_cases hc : f < i ∨ wide - sz < f
  · rw [if_pos hc] at h; cases h
  · rw [if_neg hc] at h
    exact ⟨by omega, by omega, h⟩
theorem cutOk_mk {sz wide i f : Int} {l : List Int} (h1 : i ≤ f) (h2 : f + sz ≤ wide) (h : cutOk sz wide (f + sz) l = true) : cutOk sz wide i (f :: l) = true := by
  rw [cutOk, if_neg (by omega)]; exact h
theorem countL_nil (c : List Bool) : countL c [] = 0 := rfl
theorem countL_cons (c : List Bool) (f : Int) (l : List Int) : countL c (f :: l) = countL c l + if b0 c f.toNat then 1 else 0 := by
  unfold countL
  rw [List.countP_cons]
  split <;> simp_all

/-- No cutting has more pieces that are counted. -/
theorem greedy_most {c : List Bool} {sz wide : Nat} (h1 : 1 ≤ sz) : ∀ (n i : Nat) (cut : List Int), wide < n + i → cutOk sz wide i cut = true → countL c cut ≤ ((cutL c sz wide i).length : Int)
  | _, _, [], _, _ => by rw [countL_nil]; omega
  | 0, i, f :: l, hn, h => by
    obtain ⟨a, b, _⟩ := cutOk_cons h
    omega
  | n + 1, i, f :: l, hn, h => by
    obtain ⟨a, b, hl⟩ := cutOk_cons h
    have hi : i + sz ≤ wide := by omega
    cases hb : b0 c i
    · rw [cutL_no h1 hi hb]
      by_cases he : f = i
      · rw [countL_cons, he, Int.toNat_natCast, hb]
        have := greedy_most (c := c) h1 n (i + 1) l (by omega) (cutOk_less (by omega) hl)
        simpa using this
      · exact greedy_most h1 n (i + 1) (f :: l) (by omega) (cutOk_mk (by omega) b hl)
    · rw [cutL_yes h1 hi hb, countL_cons]
      have := greedy_most (c := c) h1 n (i + sz) l (by omega) (cutOk_less (by omega) hl)
      rw [List.length_cons]
      split <;> omega
/-- No cutting of as many pieces that all are counted comes before it. -/
theorem greedy_first {c : List Bool} {sz wide : Nat} (h1 : 1 ≤ sz) : ∀ (n i : Nat) (cut : List Int), wide < n + i → cutOk sz wide i cut = true → (∀ f ∈ cut, b0 c f.toNat = true) → earlier cut (cutL c sz wide i) = true → cut.length < (cutL c sz wide i).length
  | n, i, [], _, _, _, he => by
    cases hc : cutL c sz wide i with
    | nil => rw [hc] at he; cases he
    | cons => simp
  | 0, i, f :: l, hn, h, _, _ => by
    obtain ⟨a, b, _⟩ := cutOk_cons h
    omega
  | n + 1, i, f :: l, hn, h, hall, he => by
    obtain ⟨a, b, hl⟩ := cutOk_cons h
    have hi : i + sz ≤ wide := by omega
    have hf := hall f (by simp)
    cases hb : b0 c i
    · rw [cutL_no h1 hi hb] at he ⊢
      have hne : f ≠ i := fun e => by rw [e, Int.toNat_natCast, hb] at hf; cases hf
      exact greedy_first h1 n (i + 1) (f :: l) (by omega) (cutOk_mk (by omega) b hl) hall he
    · rw [cutL_yes h1 hi hb] at he ⊢
      rw [earlier] at he
      by_cases e : f = i
      · rw [if_pos e] at he
        have := greedy_first (c := c) h1 n (i + sz) l (by omega) (cutOk_less (by omega) hl) (fun x hx => hall x (by simp [hx])) he
        simpa using this
      · rw [if_neg e] at he
        simp at he
        omega
/-- It is a cutting, and all of its pieces are counted. -/
theorem greedy_ok {c : List Bool} {sz wide : Nat} (h1 : 1 ≤ sz) : ∀ (n i : Nat), wide < n + i → cutOk sz wide i (cutL c sz wide i) = true ∧ ∀ f ∈ cutL c sz wide i, b0 c f.toNat = true
  | 0, i, hn => by rw [cutL_end (by omega)]; exact ⟨by rw [cutOk], by simp⟩
  | n + 1, i, hn => by
    by_cases hi : i + sz ≤ wide
    · cases hb : b0 c i
      · rw [cutL_no h1 hi hb]
        obtain ⟨a, b⟩ := greedy_ok (c := c) (sz := sz) (wide := wide) h1 n (i + 1) (by omega)
        exact ⟨cutOk_less (i := ((i + 1 : Nat) : Int)) (by omega) a, b⟩
      · rw [cutL_yes h1 hi hb]
        obtain ⟨a, b⟩ := greedy_ok (c := c) (sz := sz) (wide := wide) h1 n (i + sz) (by omega)
        refine ⟨cutOk_mk (by omega) (by omega) (by simpa using a), ?_⟩
        intro f hf
        rcases List.mem_cons.1 hf with rfl | hf
        · simpa using hb
        · exact b f hf
    · rw [cutL_end hi]; exact ⟨by rw [cutOk], by simp⟩
theorem countL_all {c : List Bool} {cut : List Int} (h : ∀ f ∈ cut, b0 c f.toNat = true) : countL c cut = cut.length := by
  unfold countL
  congr 1
  rw [List.countP_eq_length]
  exact h
theorem countL_mono {c d : List Bool} {cut : List Int} (h : ∀ f ∈ cut, b0 c f.toNat = true → b0 d f.toNat = true) : countL c cut ≤ countL d cut := by
  unfold countL
  have := List.countP_mono_left (l := cut) (p := fun f => b0 c f.toNat) (q := fun f => b0 d f.toNat) h
  omega
theorem cutOk_range {sz wide : Int} : ∀ {cut : List Int} {i : Int}, 0 ≤ i → 0 ≤ sz → cutOk sz wide i cut = true → ∀ f ∈ cut, i ≤ f ∧ f + sz ≤ wide
  | [], _, _, _, _, _, h => by cases h
  | f :: l, i, hi, hs, h, x, hx => by
    obtain ⟨a, b, hl⟩ := cutOk_cons h
    rcases List.mem_cons.1 hx with rfl | hx
    · exact ⟨a, b⟩
    · have := cutOk_range (by omega) hs hl x hx
      omega
theorem cutOk_at {sz wide : Int} {cut : List Int} (h0 : 0 ≤ sz) (h : cutOk sz wide 0 cut = true) (hw : wide ≤ 72) (h1 : 1 ≤ sz) : ∀ k, k < cut.length → 0 ≤ at0 cut k ∧ at0 cut k < 72 := by
  intro k hk
  have := cutOk_range (Int.le_refl 0) h0 h (at0 cut k) (by rw [at0_lt hk]; exact List.getElem_mem _)
  omega
/-- Smaller pieces, and more that are counted: no fewer pieces. -/
theorem cutOk_size {sz sz' wide : Int} (h : sz' ≤ sz) : ∀ {cut : List Int} {i : Int}, cutOk sz wide i cut = true → cutOk sz' wide i cut = true
  | [], _, _ => by rw [cutOk]
  | f :: l, i, hc => by
    obtain ⟨a, b, hl⟩ := cutOk_cons hc
    exact cutOk_mk a (by omega) (cutOk_less (by omega) (cutOk_size h hl))
theorem greedy_mono {c d : List Bool} {sz sz' wide : Nat} (h1 : 1 ≤ sz') (hs : sz' ≤ sz) (h : ∀ i, b0 c i = true → b0 d i = true) : (cutL c sz wide 0).length ≤ (cutL d sz' wide 0).length := by
  obtain ⟨a, b⟩ := greedy_ok (c := c) (sz := sz) (wide := wide) (by omega) (wide + 1) 0 (by omega)
  have hm := greedy_most (c := d) (sz := sz') (wide := wide) h1 (wide + 1) 0 (cutL c sz wide 0) (by omega) (cutOk_size (by omega) a)
  rw [countL_all (fun f hf => h _ (b f hf))] at hm
  omega

end Go.Proofs.Ytnnlbbmimdohoaa
