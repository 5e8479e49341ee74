/- Plain theorems of layer 3: what is easier, what is asked for, which frames clash. -/
import Derived.Test.YtjaeheodabojfaaWA
namespace Go.Proofs.Ytjaeheodabojfaa

theorem kind_zero {ps : List Pt} {s : List Int} {f : Fr} : kindD ps s f = 0 ↔ f.lo ≤ dryD Pt.hi ps s f.stay ∧ dryD Pt.lo ps s f.stay ≤ f.hi := by
  unfold kindD
  constructor
  · intro h
    split at h <;> split at h <;> omega
  · rintro ⟨h1, h2⟩
    rw [if_neg (by omega), if_neg (by omega)]; rfl
theorem pickL_congr {F G : Nat → Bool} : ∀ {n : Nat}, (∀ i, i < n → F i = G i) → pickL F n = pickL G n
  | 0, _ => rfl
  | n + 1, h => by rw [pickL_succ, pickL_succ, pickL_congr fun i hi => h i (by omega), h n (by omega)]
theorem pickL_le {F G : Nat → Bool} : ∀ {n : Nat}, (∀ i, i < n → F i = true → G i = true) → (pickL F n).length ≤ (pickL G n).length
  | 0, _ => by simp [pickL]
  | n + 1, h => by
    have ih := pickL_le (F := F) (G := G) (n := n) fun i hi => h i (by omega)
    rw [pickL_succ, pickL_succ]
    cases e : F n
    · cases e2 : G n <;> simp <;> omega
    · rw [h n (by omega) e]; simp; omega
theorem goodD_count (ps : List Pt) (s : List Int) (fs : List Fr) : (goodD ps fs s).length = fs.countP (fun f => decide (kindD ps s f = 0)) := by
  have key : ∀ n, n ≤ fs.length → (pickL (dryI ps fs s) n).length = (fs.take n).countP (fun f => decide (kindD ps s f = 0)) := by
    intro n
    induction n with
    | zero => intro _; simp [pickL]
    | succ n ih =>
      intro hn
      have h1 := ih (by omega)
      rw [pickL_succ, List.take_add_one, List.countP_append, ← h1, List.getElem?_eq_getElem (by omega), dryI_of (by omega)]
      by_cases e : kindD ps s fs[n] = 0
      · simp [e]
      · simp [e]
  have := key fs.length (Nat.le_refl _)
  rw [List.take_length] at this
  exact this
theorem all_dry {ps : List Pt} {fs : List Fr} {s : List Int} : (List.range fs.length).all (dryI ps fs s) = true ↔ ∀ f ∈ fs, kindD ps s f = 0 := by
  rw [← good_full, goodD_count, List.countP_eq_length]
  simp
/-- No fewer frames are dry in time by one setting, but for some. -/
theorem most_mono {ps qs : List Pt} {fs gs : List Fr} {m : Nat} (hb : BookOk qs gs) (hl : qs.length = ps.length) (h : ∀ s, s ∈ setsL ps.length → (goodD ps fs s).length ≤ (goodD qs gs s).length + m) : (goodD ps fs (mostD ps fs)).length ≤ (goodD qs gs (mostD qs gs)).length + m := by
  have h1 := h _ (most_mem ps fs)
  have h2 := most_good hb (s := mostD ps fs) (by rw [hl]; exact most_mem ps fs)
  omega
theorem cool_mono {ps qs : List Pt} {fs gs : List Fr} {x : List Int} (hl : qs.length = ps.length) (hh : ∀ s, heatD qs s = heatD ps s) (h : ∀ s, s ∈ setsL ps.length → (∀ f ∈ fs, kindD ps s f = 0) → ∀ f ∈ gs, kindD qs s f = 0) (hx : coolD ps fs (List.range fs.length) = some x) : ∃ y, coolD qs gs (List.range gs.length) = some y ∧ heatD qs y ≤ heatD ps x := by
  have hm := List.mem_filter.1 (best_mem hx)
  have hx2 : x ∈ doesL qs gs (List.range gs.length) := List.mem_filter.2 ⟨by rw [hl]; exact hm.1, all_dry.2 (h x hm.1 (all_dry.1 hm.2))⟩
  rcases e : coolD qs gs (List.range gs.length) with _ | y
  · exfalso
    have e2 := best_none.1 e
    rw [e2] at hx2; cases hx2
  · exact ⟨y, rfl, by rw [← hh x]; exact best_le e hx2⟩
theorem heatTo_eq {ps qs : List Pt} {s : List Int} (hl : qs.length = ps.length) (h : ∀ i (h : i < ps.length) (h' : i < qs.length) d, qs[i].h d = ps[i].h d) : ∀ n, n ≤ ps.length → heatTo qs s n = heatTo ps s n
  | 0, _ => by simp [heatTo]
  | n + 1, hn => by rw [heatTo_succ (by omega), heatTo_succ (by omega), heatTo_eq hl h n (by omega), h n (by omega) (by omega)]
/-- Parts of whose damp more is known. -/
structure Narrow (ps qs : List Pt) : Prop where
  l : qs.length = ps.length
  h : ∀ i (h : i < ps.length) (h' : i < qs.length), (∀ d, qs[i].h d = ps[i].h d) ∧ ps[i].lo ≤ qs[i].lo ∧ qs[i].hi ≤ ps[i].hi
theorem narrow_heat {ps qs : List Pt} (h : Narrow ps qs) (s : List Int) : heatD qs s = heatD ps s := by
  unfold heatD
  rw [h.l]
  exact heatTo_eq h.l (fun i hi hi' d => (h.h i hi hi').1 d) _ (Nat.le_refl _)
theorem narrow_kind {ps qs : List Pt} (h : Narrow ps qs) {s : List Int} {f : Fr} (hst : ∀ x ∈ f.stay, 0 ≤ x) (hk : kindD ps s f = 0) : kindD qs s f = 0 := by
  rw [kind_zero] at hk ⊢
  have h1 : dryD Pt.hi ps s f.stay ≤ dryD Pt.hi qs s f.stay := by
    unfold dryD
    rw [h.l]
    refine dryTo_le _ (Nat.le_refl _) (by rw [h.l]; exact Nat.le_refl _) fun i hi hi' _ => ?_
    have := h.h i hi hi'
    exact Int.mul_le_mul_of_nonneg_left (by rw [this.1]; omega) (at0_nonneg hst i)
  have h2 : dryD Pt.lo qs s f.stay ≤ dryD Pt.lo ps s f.stay := by
    unfold dryD
    rw [h.l]
    refine dryTo_le _ (by rw [h.l]; exact Nat.le_refl _) (Nat.le_refl _) fun i hi' hi _ => ?_
    have := h.h i hi hi'
    exact Int.mul_le_mul_of_nonneg_left (by rw [this.1]; omega) (at0_nonneg hst i)
  omega
theorem narrow_damp {ps : List Pt} {k : Nat} (hk : k < ps.length) {lo hi : Int} (h0 : ps[k].lo ≤ lo) (h1 : hi ≤ ps[k].hi) : Narrow ps (dampP ps k lo hi) := by
  refine ⟨dampP_length _ _ _ _, fun i hi' hi2 => ?_⟩
  simp only [dampP_at hk, List.getElem_set]
  by_cases e : k = i
  · subst e
    simp only [if_true]
    exact ⟨fun d => rfl, h0, h1⟩
  · simp only [if_neg e]
    exact ⟨fun d => trivial, Int.le_refl _, Int.le_refl _⟩
theorem narrow_good {ps qs : List Pt} {fs : List Fr} (h : Narrow ps qs) (hf : ∀ f ∈ fs, ∀ x ∈ f.stay, 0 ≤ x) (s : List Int) : (goodD ps fs s).length ≤ (goodD qs fs s).length := by
  rw [goodD_count, goodD_count]
  refine List.countP_mono_left fun f hm hk => ?_
  simp only [decide_eq_true_eq] at hk ⊢
  exact narrow_kind h (hf f hm) hk
theorem ok_stay {ps : List Pt} {fs : List Fr} (h : BookOk ps fs) : ∀ f ∈ fs, ∀ x ∈ f.stay, 0 ≤ x := fun f hf x hx => ((h.f f hf).s x hx).1
theorem narrow_most {ps qs : List Pt} {fs : List Fr} (h : Narrow ps qs) (hb : BookOk ps fs) (hb2 : BookOk qs fs) : (goodD ps fs (mostD ps fs)).length ≤ (goodD qs fs (mostD qs fs)).length :=
  most_mono (m := 0) hb2 h.l fun s _ => narrow_good h (ok_stay hb) s
/-- What is asked for is worth no less than what is known. -/
theorem worst_ge {ps : List Pt} {fs : List Fr} (hb : BookOk ps fs) {k : Nat} (hk : k < ps.length) : ((goodD ps fs (mostD ps fs)).length : Int) ≤ worstD ps fs k := by
  have key : ∀ j : Nat, ps[k].lo + (j : Int) ≤ ps[k].hi + 1 → ((goodD ps fs (mostD ps fs)).length : Int) ≤ worstTo ps fs k ps[k].lo j := by
    intro j
    induction j with
    | zero =>
      intro _
      have := goodD_length ps fs (mostD ps fs)
      simp only [worstTo]; omega
    | succ j ih =>
      intro hj
      have h1 := ih (by omega)
      have h2 := narrow_most (narrow_damp hk (lo := ps[k].lo + (j : Int)) (hi := ps[k].lo + (j : Int)) (by omega) (by omega)) hb (damp_ok hb hk (by omega) (by omega) (by omega))
      simp only [worstTo, knownN]
      omega
  have hp := hb.p ps[k] (List.getElem_mem _)
  have := key (ps[k].hi - ps[k].lo + 1).toNat (by have := hp.l1; omega)
  unfold worstD
  rw [List.getElem?_eq_getElem hk]
  exact this
theorem maxN_ge (l : List Int) : ∀ k i, i < k → at0 l i ≤ maxN l k
  | 0, i, h => by omega
  | k + 1, i, h => by
    rw [maxN]
    by_cases e : i = k
    · subst e; omega
    · have := maxN_ge l k i (by omega)
      omega
theorem maxN_mem (l : List Int) : ∀ k, 0 < k → ∃ i, i < k ∧ maxN l k = at0 l i
  | 0, h => by omega
  | k + 1, _ => by
    rw [maxN]
    by_cases e : k = 0
    · subst e
      exact ⟨0, by omega, by simp [maxN]⟩
    · obtain ⟨i, hi, h⟩ := maxN_mem l k (by omega)
      by_cases e2 : at0 l k ≤ maxN l k
      · exact ⟨i, by omega, by omega⟩
      · exact ⟨k, by omega, by omega⟩
theorem asks_at {ps : List Pt} {fs : List Fr} {i : Nat} (h : i < ps.length) : at0 (asksN ps fs ps.length) i = worstD ps fs i := by
  simp [at0, asksN, h]
/-- The part that is asked for: at the worst none is worth more; of equal ones it is the first one. -/
theorem ask_is {ps : List Pt} {fs : List Fr} (hb : bookB ps fs = true) : ∃ a : Nat, askV ps fs = (a : Int) ∧ a < ps.length ∧ ∀ p, p < ps.length → worstD ps fs p ≤ worstD ps fs a ∧ (worstD ps fs p = worstD ps fs a → a ≤ p) := by
  have hok := bookB_iff.1 hb
  have h1 := hok.p1
  have hl := asksN_length ps fs ps.length
  obtain ⟨i, hi, e⟩ := maxN_mem (asksN ps fs ps.length) ps.length (by omega)
  have hne : idxN (asksN ps fs ps.length) (maxN (asksN ps fs ps.length) ps.length) ≠ -1 := by
    intro h
    unfold idxN at h
    split at h
    · omega
    · rename_i e3
      have := List.find?_range_eq_none.1 e3 i (by omega)
      simp [e] at this
  obtain ⟨a, ha, ha2, ha3, ha4⟩ : ∃ a : Nat, idxN (asksN ps fs ps.length) (maxN (asksN ps fs ps.length) ps.length) = a ∧ a < ps.length ∧ maxN (asksN ps fs ps.length) ps.length = at0 (asksN ps fs ps.length) a ∧ ∀ j, j < a → maxN (asksN ps fs ps.length) ps.length ≠ at0 (asksN ps fs ps.length) j := by
    unfold idxN at hne ⊢
    split
    · rename_i a e2
      have h2 := List.find?_range_eq_some.1 e2
      refine ⟨a, rfl, by have := List.mem_range.1 h2.2.1; omega, by simpa using h2.1, fun j hj => by have := h2.2.2 j hj; simpa using this⟩
    · rename_i e2
      rw [e2] at hne
      exact absurd rfl hne
  refine ⟨a, by rw [askV, if_pos hb]; exact ha, ha2, fun p hp => ⟨?_, fun h => ?_⟩⟩
  · have := maxN_ge (asksN ps fs ps.length) ps.length p hp
    rw [ha3, asks_at hp, asks_at ha2] at this
    exact this
  · rcases Nat.lt_or_ge p a with h2 | h2
    · exfalso
      refine ha4 p h2 ?_
      rw [ha3, asks_at ha2, asks_at hp, h]
    · exact h2
/-- Lost frames, frames that clash. -/
theorem lost_dry {ps : List Pt} {fs : List Fr} {i : Nat} (h : lostI ps fs i = true) {s : List Int} (hs : s ∈ setsL ps.length) : dryI ps fs s i = false := by
  by_cases e : dryI ps fs s i = true
  · exfalso
    unfold lostI coolD at h
    rw [Option.isNone_iff_eq_none, best_none] at h
    have : s ∈ doesL ps fs [i] := List.mem_filter.2 ⟨hs, by simp [e]⟩
    rw [h] at this; cases this
  · simpa using e
theorem lost_not {ps : List Pt} {fs : List Fr} {i : Nat} (h : lostI ps fs i = false) : ∃ s, s ∈ setsL ps.length ∧ dryI ps fs s i = true := by
  unfold lostI coolD at h
  rcases e : bestOf (heatD ps) (doesL ps fs [i]) with _ | s
  · rw [e] at h; simp at h
  · have := List.mem_filter.1 (best_mem e)
    exact ⟨s, this.1, by simpa using this.2⟩
theorem pair_none {ps : List Pt} {fs : List Fr} {a o : Nat} : (coolD ps fs [a, o]).isNone = true ↔ ∀ s, s ∈ setsL ps.length → ¬ (dryI ps fs s a = true ∧ dryI ps fs s o = true) := by
  rw [Option.isNone_iff_eq_none, coolD, best_none]
  constructor
  · intro h s hs ⟨h1, h2⟩
    have : s ∈ doesL ps fs [a, o] := List.mem_filter.2 ⟨hs, by simp [h1, h2]⟩
    rw [h] at this; cases this
  · intro h
    rcases e : doesL ps fs [a, o] with _ | ⟨s, l⟩
    · rfl
    · exfalso
      have : s ∈ doesL ps fs [a, o] := by rw [e]; simp
      have h2 := List.mem_filter.1 this
      refine h s h2.1 ?_
      simpa using h2.2
/-- Two frames alone. -/
theorem two_dry {ps : List Pt} {fs : List Fr} {p q : Nat} (hp : p < fs.length) (hq : q < fs.length) (s : List Int) : (goodD ps [fs[p], fs[q]] s).length = (if dryI ps fs s p then 1 else 0) + (if dryI ps fs s q then 1 else 0) := by
  rw [goodD_count, dryI_of hp, dryI_of hq]
  simp only [List.countP_cons, List.countP_nil]
  omega
end Go.Proofs.Ytjaeheodabojfaa
