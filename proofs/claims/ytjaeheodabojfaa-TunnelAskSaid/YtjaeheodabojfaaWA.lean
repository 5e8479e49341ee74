/- Plain theorems of layer 3: parts whose damp is known, longer stays, the best settings. -/
import Derived.Test.YtjaeheodabojfaaVG
namespace Go.Proofs.Ytjaeheodabojfaa

theorem longN_le (B : Nat → Bool) : ∀ m, longN B m ≤ m
  | 0 => Nat.le_refl _
  | n + 1 => by
    have := longN_le B n
    rw [longN]; split <;> omega
theorem longN_true {B : Nat → Bool} (h : B 0 = true) : ∀ m, B (longN B m) = true
  | 0 => h
  | n + 1 => by
    rw [longN]
    by_cases e : B (n + 1) = true
    · rw [if_pos e]; exact e
    · rw [if_neg e]; exact longN_true h n
theorem longN_next {B : Nat → Bool} : ∀ m, longN B m < m → B (longN B m + 1) = false
  | 0, h => by omega
  | n + 1, h => by
    rw [longN] at h ⊢
    by_cases e : B (n + 1) = true
    · rw [if_pos e] at h; omega
    · rw [if_neg e] at h ⊢
      rcases Nat.lt_or_ge (longN B n) n with h2 | h2
      · exact longN_next n h2
      · have := longN_le B n
        rw [show longN B n = n by omega]
        simpa using e
theorem longFr_zero {f : Fr} {k : Nat} (hk : k < f.stay.length) : longFr f k 0 = f := by
  simp [longFr, at0_lt hk]

/-- Parts of which the damp of the first n is known. -/
def knowP (g : Nat → Int) (n : Nat) (ps : List Pt) : List Pt := ps.mapIdx fun i p => if i < n then { p with lo := g i, hi := g i } else p
theorem knowP_length (g : Nat → Int) (n : Nat) (ps : List Pt) : (knowP g n ps).length = ps.length := by simp [knowP]
theorem knowP_at {g : Nat → Int} {n : Nat} {ps : List Pt} {i : Nat} (h : i < (knowP g n ps).length) : (knowP g n ps)[i] = if i < n then { ps[i]'(by rwa [knowP_length] at h) with lo := g i, hi := g i } else ps[i]'(by rwa [knowP_length] at h) := by simp [knowP]
theorem knowP_zero (g : Nat → Int) (ps : List Pt) : knowP g 0 ps = ps := by
  apply List.ext_getElem
  · simp [knowP]
  · intro i h1 h2
    rw [knowP_at h1, if_neg (by omega)]
theorem knowP_succ {g : Nat → Int} {n : Nat} {ps : List Pt} (hn : n < ps.length) : knowP g (n + 1) ps = dampP (knowP g n ps) n (g n) (g n) := by
  have hn' : n < (knowP g n ps).length := by rw [knowP_length]; exact hn
  rw [dampP_at hn']
  apply List.ext_getElem
  · simp [knowP]
  · intro i h1 h2
    rw [knowP_at h1, List.getElem_set]
    by_cases e : n = i
    · subst e
      rw [if_pos (by omega), if_pos rfl, knowP_at hn', if_neg (by omega)]
    · rw [if_neg e]
      rw [knowP_at (by rw [knowP_length] at h1 ⊢; exact h1)]
      by_cases e2 : i < n
      · rw [if_pos (by omega), if_pos e2]
      · rw [if_neg (by omega), if_neg e2]
theorem dryTo_le {d e : Pt → Int} {ps qs : List Pt} {s t stay : List Int} : ∀ (n : Nat), n ≤ ps.length → n ≤ qs.length → (∀ i (h : i < ps.length) (h' : i < qs.length), i < n → dryAt ps[i] (at0 s i) (at0 stay i) (d ps[i]) ≤ dryAt qs[i] (at0 t i) (at0 stay i) (e qs[i])) → dryTo d ps s stay n ≤ dryTo e qs t stay n
  | 0, _, _, _ => by simp [dryTo]
  | n + 1, hn, hq, h => by
    rw [dryTo_succ (by omega), dryTo_succ (by omega)]
    have h1 := dryTo_le n (by omega) (by omega) fun i hi hi' hin => h i hi hi' (by omega)
    have h2 := h n (by omega) (by omega) (by omega)
    omega
theorem at0_nonneg {l : List Int} (h : ∀ x ∈ l, 0 ≤ x) (i : Nat) : 0 ≤ at0 l i := by
  by_cases hi : i < l.length
  · exact h _ (at0_mem hi)
  · simp [at0, show l[i]? = none by simp; omega]
/-- What dries with a damp that is known lies between the ends. -/
theorem know_dry_le {d : Pt → Int} {ps : List Pt} {s stay : List Int} {g : Nat → Int} (hst : ∀ x ∈ stay, 0 ≤ x) (h : ∀ i (h : i < ps.length), g i ≤ d ps[i]) : dryD d ps s stay ≤ dryD Pt.lo (knowP g ps.length ps) s stay := by
  unfold dryD
  rw [knowP_length]
  refine dryTo_le _ (Nat.le_refl _) (by rw [knowP_length]; exact Nat.le_refl _) fun i hi hi' hin => ?_
  rw [knowP_at hi', if_pos hin]
  exact Int.mul_le_mul_of_nonneg_left (by have := h i hi; simp only [Pt.h]; omega) (at0_nonneg hst i)
theorem know_dry_ge {d : Pt → Int} {ps : List Pt} {s stay : List Int} {g : Nat → Int} (hst : ∀ x ∈ stay, 0 ≤ x) (h : ∀ i (h : i < ps.length), d ps[i] ≤ g i) : dryD Pt.lo (knowP g ps.length ps) s stay ≤ dryD d ps s stay := by
  unfold dryD
  rw [knowP_length]
  refine dryTo_le _ (by rw [knowP_length]; exact Nat.le_refl _) (Nat.le_refl _) fun i hi' hi hin => ?_
  rw [knowP_at hi', if_pos hin]
  exact Int.mul_le_mul_of_nonneg_left (by have := h i hi; simp only [Pt.h]; omega) (at0_nonneg hst i)
theorem know_dry {d : Pt → Int} {ps : List Pt} {s stay : List Int} {g : Nat → Int} (hst : ∀ x ∈ stay, 0 ≤ x) (h : ∀ i (h : i < ps.length), g i = d ps[i]) : dryD Pt.lo (knowP g ps.length ps) s stay = dryD d ps s stay :=
  Int.le_antisymm (know_dry_ge hst fun i hi => by rw [h i hi]; exact Int.le_refl _) (know_dry_le hst fun i hi => by rw [h i hi]; exact Int.le_refl _)
/-- Of parts, the damp at its ends. -/
def hiAt (ps : List Pt) (i : Nat) : Int := (ps.map Pt.hi).getD i 0
def loAt (ps : List Pt) (i : Nat) : Int := (ps.map Pt.lo).getD i 0
theorem hiAt_at {ps : List Pt} {i : Nat} (h : i < ps.length) : hiAt ps i = ps[i].hi := by simp [hiAt, h]
theorem loAt_at {ps : List Pt} {i : Nat} (h : i < ps.length) : loAt ps i = ps[i].lo := by simp [loAt, h]

/-- Which setting is best. -/
theorem set_mem {ps : List Pt} {s : List Int} (h : isSetB ps.length s = true) : s ∈ setsL ps.length := by
  simp only [isSetB, setB, Bool.and_eq_true, decide_eq_true_eq, List.all_eq_true] at h
  exact mem_setsL.2 h
theorem set_of_mem {n : Nat} {s : List Int} (h : s ∈ setsL n) : isSetB n s = true := by
  simp only [isSetB, setB, Bool.and_eq_true, decide_eq_true_eq, List.all_eq_true]
  exact mem_setsL.1 h
theorem heatD_range {ps : List Pt} (hp : ∀ p ∈ ps, PtOk p) (h4 : ps.length ≤ 4) (s : List Int) : 0 ≤ heatD ps s ∧ heatD ps s ≤ 80 := by
  have := heatTo_range (s := s) hp ps.length (Nat.le_refl _)
  unfold heatD
  omega
theorem goodD_length (ps : List Pt) (fs : List Fr) (s : List Int) : (goodD ps fs s).length ≤ fs.length := pickL_length _ _
theorem most_good {ps : List Pt} {fs : List Fr} (hb : BookOk ps fs) {s : List Int} (hs : s ∈ setsL ps.length) : (goodD ps fs s).length ≤ (goodD ps fs (mostD ps fs)).length := by
  have h := best_le (most_eq ps fs) hs
  have h1 := heatD_range hb.p hb.p4 s
  have h2 := heatD_range hb.p hb.p4 (mostD ps fs)
  unfold rankD at h
  omega
theorem most_heat {ps : List Pt} {fs : List Fr} {s : List Int} (hs : s ∈ setsL ps.length) (hl : (goodD ps fs s).length = (goodD ps fs (mostD ps fs)).length) : heatD ps (mostD ps fs) ≤ heatD ps s := by
  have h := best_le (most_eq ps fs) hs
  unfold rankD at h
  omega
theorem most_first {ps : List Pt} {fs : List Fr} {s : List Int} (hs : s ∈ setsL ps.length) (hl : (goodD ps fs s).length = (goodD ps fs (mostD ps fs)).length) (hh : heatD ps s = heatD ps (mostD ps fs)) : earlier s (mostD ps fs) = false :=
  best_first (setsL_sorted _) (most_eq ps fs) hs (by unfold rankD; omega)
theorem good_full {ps : List Pt} {fs : List Fr} {s : List Int} : (goodD ps fs s).length = fs.length ↔ (List.range fs.length).all (dryI ps fs s) = true := by
  rw [goodD, pickL_full, List.all_eq_true]
  exact ⟨fun h i hi => h i (List.mem_range.1 hi), fun h i hi => h i (List.mem_range.2 hi)⟩
theorem cool_most {ps : List Pt} {fs : List Fr} (h : (goodD ps fs (mostD ps fs)).length = fs.length) : coolD ps fs (List.range fs.length) = some (mostD ps fs) := by
  obtain ⟨m1, m2, e, h1, h2⟩ := best_some (most_eq ps fs)
  have hd := good_full.1 h
  unfold coolD doesL
  refine best_unique (m1 := m1.filter fun s => (List.range fs.length).all (dryI ps fs s)) (m2 := m2.filter fun s => (List.range fs.length).all (dryI ps fs s)) ?_ ?_ ?_
  · conv => lhs; rw [e]
    rw [List.filter_append, List.filter_cons, if_pos hd]
  · intro z hz
    obtain ⟨hz1, hz2⟩ := List.mem_filter.1 hz
    have := h1 z hz1
    have h3 := good_full.2 hz2
    unfold rankD at this
    omega
  · intro z hz
    obtain ⟨hz1, hz2⟩ := List.mem_filter.1 hz
    have := h2 z hz1
    have h3 := good_full.2 hz2
    unfold rankD at this
    omega
theorem cool_none {ps : List Pt} {fs : List Fr} (hb : BookOk ps fs) (h : (goodD ps fs (mostD ps fs)).length ≠ fs.length) : coolD ps fs (List.range fs.length) = none := by
  rcases e : coolD ps fs (List.range fs.length) with _ | x
  · rfl
  · exfalso
    have hm := List.mem_filter.1 (best_mem e)
    have h1 := good_full.2 hm.2
    have h2 := most_good hb hm.1
    have h3 := goodD_length ps fs (mostD ps fs)
    omega
theorem dryI_of {ps : List Pt} {fs : List Fr} {s : List Int} {i : Nat} (h : i < fs.length) : dryI ps fs s i = decide (kindD ps s fs[i] = 0) := by simp [dryI, h]
theorem good_mem {ps : List Pt} {fs : List Fr} {s : List Int} {i : Nat} (h : i < fs.length) : (i : Int) ∈ goodD ps fs s ↔ kindD ps s fs[i] = 0 := by
  rw [goodD, mem_pickL]
  constructor
  · rintro ⟨j, e, hj, hd⟩
    have : i = j := by omega
    subst this
    rw [dryI_of h] at hd; simpa using hd
  · intro hk
    exact ⟨i, rfl, h, by rw [dryI_of h]; simpa using hk⟩
/-- Wetter, drier: what the kind says of how dry a frame is. -/
theorem kind_wet {ps : List Pt} {s : List Int} {f : Fr} {n : Int} (h1 : dryD Pt.hi ps s f.stay ≤ n) (h2 : n < f.lo) : kindD ps s f % 2 = 1 := by
  unfold kindD
  rw [if_pos (by omega)]
  split <;> decide
theorem kind_dry {ps : List Pt} {s : List Int} {f : Fr} {n : Int} (h1 : n ≤ dryD Pt.lo ps s f.stay) (h2 : f.hi < n) : 2 ≤ kindD ps s f := by
  unfold kindD
  rw [if_pos (show dryD Pt.lo ps s f.stay > f.hi by omega)]
  split <;> omega
theorem kind_in {ps : List Pt} {s : List Int} {f : Fr} {n : Int} (h1 : dryD Pt.hi ps s f.stay ≤ n) (h2 : n ≤ dryD Pt.lo ps s f.stay) (hk : kindD ps s f = 0) : f.lo ≤ n ∧ n ≤ f.hi := by
  unfold kindD at hk
  split at hk <;> split at hk <;> omega
theorem kind_range (ps : List Pt) (s : List Int) (f : Fr) : 0 ≤ kindD ps s f ∧ kindD ps s f ≤ 3 := by
  unfold kindD
  split <;> split <;> omega
end Go.Proofs.Ytjaeheodabojfaa
