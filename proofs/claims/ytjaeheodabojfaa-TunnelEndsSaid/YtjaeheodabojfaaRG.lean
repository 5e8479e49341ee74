/- A region that draws its order and holds guarded operations, by one invariant. -/
import Derived.Test.YtjaeheodabojfaaR
namespace Go.Proofs.Ytjaeheodabojfaa
open Go.RowKit

/-- Each edge leads to an operation in front. -/
def edgesOkG : List Oper → Nat → Bool
  | [], _ => true
  | o :: l, k => o.after.toList.all (fun e => !Region.binds .any e || decide (e.on < k)) && edgesOkG l (k + 1)
theorem edgesOkG_at : ∀ (l : List Oper) (k i : Nat) (o : Oper), edgesOkG l k = true → l[i]? = some o → ∀ e ∈ o.after.toList, Region.binds .any e = true → e.on < k + i
  | [], _, _, _, _, h => by simp at h
  | x :: l, k, 0, o, hs, h => by
    simp at h; subst h
    simp only [edgesOkG, Bool.and_eq_true, List.all_eq_true, Bool.or_eq_true, Bool.not_eq_true', decide_eq_true_eq] at hs
    intro e he hb
    rcases hs.1 e he with h | h
    · rw [hb] at h; cases h
    · omega
  | x :: l, k, i + 1, o, hs, h => by
    simp only [edgesOkG, Bool.and_eq_true] at hs
    have := edgesOkG_at l (k + 1) i o hs.2 (by simpa using h)
    rwa [show k + (i + 1) = k + 1 + i by omega]
theorem ready_allG {ops : Array Oper} (hok : edgesOkG ops.toList 0 = true) {listed : Array Bool} (hs : listed.size = ops.size) (hr : Region.ready .any ops listed = []) : ∀ i, i < ops.size → listed.getD i false = true := by
  intro i
  induction i using Nat.strongRecOn with
  | _ i ih =>
    intro hi
    rcases hb : listed.getD i false with _ | _
    · exfalso
      have ho : ops[i]? = some ops[i] := Array.getElem?_eq_getElem hi
      have he := edgesOkG_at ops.toList 0 i ops[i] hok (by simp)
      have hm : i ∈ Region.ready .any ops listed := by
        rw [mem_ready]
        have h2 : i < listed.size := by omega
        refine ⟨by simp [Array.getD, h2] at hb ⊢; exact hb, ops[i], ho, ?_⟩
        · intro e hm hbind
          have h3 := he e (by simpa using hm) hbind
          exact ih e.on (by omega) (by omega)
      rw [hr] at hm; simp at hm
    · rfl

section
variable {P : Program} {ops : Array Oper} {Q : Exit → Act → World → Prop}
theorem wpAnyX_invG (hok : edgesOkG ops.toList 0 = true) (I : (Nat → Bool) → Act → World → Prop)
    (steps : stepsOf (fun k o => ∀ L a w, (∀ e ∈ o.after.toList, Region.binds .any e = true → L e.on = true) → L k = false → I L a w → ∀ K : Act → World → Prop, (∀ a w, I (upd L k) a w → K a w) → Region.wanted o (yielded ops a.tmps) = true ∧ o.wp P a w K Q) ops.toList 0)
    (hd : ∀ L a w, (∀ i, i < ops.size → L i = true) → I L a w → Q .normal a w) :
    ∀ (fuel : Nat) (listed : Array Bool) (a : Act) (w : World), listed.size = ops.size → (listed.toList.countP (fun b => !b) ≤ fuel) → I (fun i => listed.getD i false) a w → wpAnyX P ops Q fuel listed a w := by
  intro fuel
  induction fuel with
  | zero =>
    intro listed a w hs hc hI
    have hall : ∀ i, i < ops.size → listed.getD i false = true := by
      intro i hi
      have h0 : listed.toList.countP (fun b => !b) = 0 := by omega
      rw [List.countP_eq_zero] at h0
      have hi2 : i < listed.size := by omega
      have := h0 listed[i] (by simp)
      simpa [Array.getD, hi2] using this
    have hr : Region.ready .any ops listed = [] := by
      apply List.eq_nil_iff_forall_not_mem.2
      intro i hi
      rw [mem_ready] at hi
      obtain ⟨h2, o, ho, _⟩ := hi
      have h1 := (Array.getElem?_eq_some_iff.1 ho).1
      have := hall i h1
      have hi2 : i < listed.size := by omega
      simp [Array.getD, hi2] at this h2
      rw [this] at h2; cases h2
    exact ⟨hr, hd _ a w hall hI⟩
  | succ fuel ih =>
    intro listed a w hs hc hI
    refine ⟨fun hr => hd _ a w (ready_allG hok hs hr) hI, ?_⟩
    intro i hi
    rw [mem_ready] at hi
    obtain ⟨h2, o, ho, h3⟩ := hi
    have h1 := (Array.getElem?_eq_some_iff.1 ho).1
    have hi2 : i < listed.size := by omega
    have hLi : listed.getD i false = false := by simp [Array.getD, hi2] at h2 ⊢; exact h2
    have hst := stepsOf_at ops.toList 0 i o steps (by simpa using ho)
    rw [Nat.zero_add] at hst
    unfold wpOpX
    rw [ho]
    suffices hh : ∀ a' w', I (upd (fun j => listed.getD j false) i) a' w' → wpAnyX P ops Q fuel (listed.setIfInBounds i true) a' w' by
      obtain ⟨hw, hst⟩ := hst _ a w (fun e he hb => h3 e (by simpa using he) hb) hLi hI _ hh
      simp only [hw, if_true]
      exact hst
    intro a' w' hI'
    refine ih _ a' w' (by simpa using hs) ?_ ?_
    · have hset : (listed.setIfInBounds i true).toList = listed.toList.set i true := by simp
      rw [hset]
      have hb : listed.toList[i]'(by simpa using hi2) = false := by
        simp [Array.getD, hi2] at hLi; simpa using hLi
      have hcs := List.countP_set (p := fun b : Bool => !b) (l := listed.toList) (i := i) (a := true) (by simpa using hi2)
      rw [hb] at hcs
      have hpos : 0 < listed.toList.countP (fun b => !b) := by
        rw [List.countP_pos_iff]; exact ⟨false, by rw [← hb]; exact List.getElem_mem _, rfl⟩
      simp at hcs
      simp at hc hpos ⊢
      omega
    · have : (fun j => (listed.setIfInBounds i true).getD j false) = upd (fun j => listed.getD j false) i := by
        funext j
        by_cases hj : j = i
        · subst hj; simp [upd, Array.getD, hi2]
        · rw [upd_other _ hj]; exact getD_set_ne false (fun h => hj h.symm)
      rw [this]; exact hI'
/-- THE RULE, WITH GUARDS. -/
theorem region_invG {id : Nat} {a : Act} {w : World} (hm : P.follows .mixedOrders = true) (hok : edgesOkG ops.toList 0 = true) (I : (Nat → Bool) → Act → World → Prop)
    (h0 : I (fun _ => false) a w.drew)
    (steps : stepsOf (fun k o => ∀ L a w, (∀ e ∈ o.after.toList, Region.binds .any e = true → L e.on = true) → L k = false → I L a w → ∀ K : Act → World → Prop, (∀ a w, I (upd L k) a w → K a w) → Region.wanted o (yielded ops a.tmps) = true ∧ o.wp P a w K Q) ops.toList 0)
    (hd : ∀ L a w, (∀ i, i < ops.size → L i = true) → I L a w → Q .normal a w) : (Code.region id ops true).wp P Q a w := by
  refine wp_region_any hm (wpAny_ofX _ _ _ _ (wpAnyX_invG hok I steps hd ops.size _ a _ (by simp) ?_ ?_))
  · exact Nat.le_trans List.countP_le_length (by simp)
  · have : (fun i => (Array.replicate ops.size false).getD i false) = fun _ => false := by
      funext i
      simp [Array.getD]
    rw [this]; exact h0
/-- One operation is ready alone. -/
theorem anyX_one {fuel : Nat} {listed : Array Bool} {a : Act} {w : World} (i : Nat) (h : Region.ready .any ops listed = [i]) (o : Oper) (ho : ops[i]? = some o) (hw : Region.wanted o (yielded ops a.tmps) = true)
    (hs : ∀ K : Act → World → Prop, (∀ a w, wpAnyX P ops Q fuel (listed.setIfInBounds i true) a w → K a w) → o.wp P a w K Q) : wpAnyX P ops Q (fuel + 1) listed a w := by
  refine ⟨fun h0 => (by rw [h] at h0; cases h0), fun j hj => ?_⟩
  rw [h] at hj
  obtain rfl : j = i := by simpa using hj
  unfold wpOpX
  rw [ho]
  simp only [hw, if_true]
  exact hs _ (fun _ _ h => h)
/-- Two are ready. -/
theorem anyX_two {fuel : Nat} {listed : Array Bool} {a : Act} {w : World} (i k : Nat) (h : Region.ready .any ops listed = [i, k]) (o o' : Oper) (ho : ops[i]? = some o) (ho' : ops[k]? = some o') (hw : Region.wanted o (yielded ops a.tmps) = true) (hw' : Region.wanted o' (yielded ops a.tmps) = true)
    (hs : ∀ K : Act → World → Prop, (∀ a w, wpAnyX P ops Q fuel (listed.setIfInBounds i true) a w → K a w) → o.wp P a w K Q)
    (hs' : ∀ K : Act → World → Prop, (∀ a w, wpAnyX P ops Q fuel (listed.setIfInBounds k true) a w → K a w) → o'.wp P a w K Q) : wpAnyX P ops Q (fuel + 1) listed a w := by
  refine ⟨fun h0 => (by rw [h] at h0; cases h0), fun j hj => ?_⟩
  rw [h] at hj
  rcases (show j = i ∨ j = k by simpa using hj) with rfl | rfl
  · unfold wpOpX
    rw [ho]
    simp only [hw, if_true]
    exact hs _ (fun _ _ h => h)
  · unfold wpOpX
    rw [ho']
    simp only [hw', if_true]
    exact hs' _ (fun _ _ h => h)
theorem region_draws {id : Nat} {a : Act} {w : World} (hm : P.follows .mixedOrders = true) (n : Nat) (hn : ops.size = n) (h : wpAnyX P ops Q n (Array.replicate n false) a w.drew) : (Code.region id ops true).wp P Q a w := by
  subst hn
  exact wp_region_any hm (wpAny_ofX _ _ _ _ h)
end
end Go.Proofs.Ytjaeheodabojfaa
