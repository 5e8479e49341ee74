/- Plain theorems of layer 3: hotter is drier and warmer; damper is less dry. -/
import Derived.Test.YtfppcmechfjpoaaVF
namespace Go.Proofs.Ytfppcmechfjpoaa

theorem dryAt_mono {p : Pt} {s t m d e : Int} (h : p.h s ≤ p.h t) (hm : 0 ≤ m) (hd : e ≤ d) : dryAt p s m d ≤ dryAt p t m e := by
  exact Int.mul_le_mul_of_nonneg_left (by omega) hm
theorem dryTo_mono {d e : Pt → Int} {ps : List Pt} {s t stay : List Int} : ∀ (n : Nat), n ≤ ps.length → (∀ i (h : i < ps.length), i < n → dryAt ps[i] (at0 s i) (at0 stay i) (d ps[i]) ≤ dryAt ps[i] (at0 t i) (at0 stay i) (e ps[i])) → dryTo d ps s stay n ≤ dryTo e ps t stay n
  | 0, _, _ => by simp [dryTo]
  | n + 1, hn, h => by
    rw [dryTo_succ (by omega), dryTo_succ (by omega)]
    have h1 := dryTo_mono n (by omega) fun i hi hin => h i hi (by omega)
    have h2 := h n (by omega) (by omega)
    omega
theorem heatTo_mono {ps : List Pt} {s t : List Int} : ∀ (n : Nat), n ≤ ps.length → (∀ i (h : i < ps.length), i < n → ps[i].h (at0 s i) ≤ ps[i].h (at0 t i)) → heatTo ps s n ≤ heatTo ps t n
  | 0, _, _ => by simp [heatTo]
  | n + 1, hn, h => by
    rw [heatTo_succ (by omega), heatTo_succ (by omega)]
    have h1 := heatTo_mono n (by omega) fun i hi hin => h i hi (by omega)
    have h2 := h n (by omega) (by omega)
    omega
/-- A setting with one damper hotter. -/
def hotL (s : List Int) (p : Nat) : List Int := s.set p (min 3 (at0 s p + 1))
theorem hotL_length (s : List Int) (p : Nat) : (hotL s p).length = s.length := by simp [hotL]
theorem hotL_at {s : List Int} {p : Nat} (i : Nat) (_hp : p < s.length) (hs : ∀ x ∈ s, 0 ≤ x ∧ x ≤ 3) (hi : i < s.length) : 0 ≤ at0 s i ∧ at0 s i ≤ at0 (hotL s p) i ∧ at0 (hotL s p) i ≤ 3 := by
  have h1 := hs _ (List.getElem_mem hi)
  rw [at0_lt hi, at0_lt (by rw [hotL_length]; exact hi)]
  simp only [hotL, List.getElem_set]
  split
  · rename_i e
    subst e
    rw [at0_lt hi]
    omega
  · omega
theorem hotL_set {n : Nat} {s : List Int} {p : Nat} (h : isSetB n s = true) : isSetB n (hotL s p) = true := by
  simp only [isSetB, setB, Bool.and_eq_true, decide_eq_true_eq, List.all_eq_true] at h ⊢
  refine ⟨by rw [hotL_length]; exact h.1, fun x hx => ?_⟩
  by_cases hp : p < s.length
  · obtain ⟨i, hi, rfl⟩ := List.mem_iff_getElem.1 hx
    have hi' : i < s.length := by rwa [hotL_length] at hi
    have := hotL_at i hp h.2 hi'
    rw [at0_lt hi] at this
    omega
  · rw [hotL, List.set_eq_of_length_le (by omega)] at hx
    exact h.2 x hx
theorem hot_dry {ps : List Pt} {s stay : List Int} {p : Nat} (d : Pt → Int) (hok : ∀ q ∈ ps, PtOk q) (hl : s.length = ps.length) (hs : ∀ x ∈ s, 0 ≤ x ∧ x ≤ 3) (hp : p < s.length) (hst : ∀ x ∈ stay, 0 ≤ x) : dryD d ps s stay ≤ dryD d ps (hotL s p) stay :=
  dryTo_mono _ (Nat.le_refl _) fun i hi _ => dryAt_mono (by
    have := hotL_at i hp hs (by omega)
    exact Pt.h_mono (hok _ (List.getElem_mem _)) this.2.1 this.1) (by
    by_cases h : i < stay.length
    · exact hst _ (at0_mem h)
    · simp [at0, show stay[i]? = none by simp; omega]) (Int.le_refl _)
theorem hot_heat {ps : List Pt} {s : List Int} {p : Nat} (hok : ∀ q ∈ ps, PtOk q) (hl : s.length = ps.length) (hs : ∀ x ∈ s, 0 ≤ x ∧ x ≤ 3) (hp : p < s.length) : heatD ps s ≤ heatD ps (hotL s p) :=
  heatTo_mono _ (Nat.le_refl _) fun i hi _ => by
    have := hotL_at i hp hs (by omega)
    exact Pt.h_mono (hok _ (List.getElem_mem _)) this.2.1 this.1
end Go.Proofs.Ytfppcmechfjpoaa
