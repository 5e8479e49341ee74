/- A region that draws its order, by one invariant: each operation is carried out once all that it must stand behind is done; no order is looked at. -/
import Derived.Test.YtgdlmlpjeapjaaaM
import Derived.Orders
namespace Go.Proofs.Ytgdlmlpjeapjaaa
open Go.RowKit

/-- Each edge leads to an operation in front; no operation is guarded. -/
def edgesOk : List Oper → Nat → Bool
  | [], _ => true
  | o :: l, k => o.guard.isNone && o.after.toList.all (fun e => !Region.binds .any e || decide (e.on < k)) && edgesOk l (k + 1)
def upd (L : Nat → Bool) (i : Nat) : Nat → Bool := fun j => if j = i then true else L j
theorem upd_same (L : Nat → Bool) (i : Nat) : upd L i i = true := by simp [upd]
theorem upd_other (L : Nat → Bool) {i j : Nat} (h : j ≠ i) : upd L i j = L j := by simp [upd, h]
/-- One goal for each operation. -/
def stepsOf (F : Nat → Oper → Prop) : List Oper → Nat → Prop
  | [], _ => True
  | o :: l, k => F k o ∧ stepsOf F l (k + 1)
theorem stepsOf_at {F : Nat → Oper → Prop} : ∀ (l : List Oper) (k i : Nat) (o : Oper), stepsOf F l k → l[i]? = some o → F (k + i) o
  | [], _, _, _, _, h => by simp at h
  | x :: l, k, 0, o, hs, h => by simp at h; subst h; exact hs.1
  | x :: l, k, i + 1, o, hs, h => by
    have := stepsOf_at l (k + 1) i o hs.2 (by simpa using h)
    rwa [show k + (i + 1) = k + 1 + i by omega]
theorem edgesOk_at : ∀ (l : List Oper) (k i : Nat) (o : Oper), edgesOk l k = true → l[i]? = some o → o.guard = none ∧ ∀ e ∈ o.after.toList, Region.binds .any e = true → e.on < k + i
  | [], _, _, _, _, h => by simp at h
  | x :: l, k, 0, o, hs, h => by
    simp at h; subst h
    simp only [edgesOk, Bool.and_eq_true, List.all_eq_true, Bool.or_eq_true, Bool.not_eq_true', decide_eq_true_eq, Option.isNone_iff_eq_none] at hs
    refine ⟨hs.1.1, fun e he hb => ?_⟩
    rcases hs.1.2 e he with h | h
    · rw [hb] at h; cases h
    · omega
  | x :: l, k, i + 1, o, hs, h => by
    simp only [edgesOk, Bool.and_eq_true] at hs
    have := edgesOk_at l (k + 1) i o hs.2 (by simpa using h)
    rwa [show k + (i + 1) = k + 1 + i by omega]

theorem after_on {l : List Edge} {L : Nat → Bool} (h : ∀ e ∈ l, Region.binds .any e = true → L e.on = true) (d : Nat) (hd : l.any (fun e => Region.binds .any e && e.on == d) = true) : L d = true := by
  obtain ⟨e, he, hb⟩ := List.any_eq_true.1 hd
  rw [Bool.and_eq_true] at hb
  have := h e he hb.1
  rwa [show e.on = d from by simpa using hb.2] at this

theorem ready_all {ops : Array Oper} (hok : edgesOk ops.toList 0 = true) {listed : Array Bool} (hs : listed.size = ops.size) (hr : Region.ready .any ops listed = []) : ∀ i, i < ops.size → listed.getD i false = true := by
  intro i
  induction i using Nat.strongRecOn with
  | _ i ih =>
    intro hi
    rcases hb : listed.getD i false with _ | _
    · exfalso
      have ho : ops[i]? = some ops[i] := Array.getElem?_eq_getElem hi
      have he := edgesOk_at ops.toList 0 i ops[i] hok (by simp)
      have hm : i ∈ Region.ready .any ops listed := by
        rw [mem_ready]
        have h2 : i < listed.size := by omega
        refine ⟨by simp [Array.getD, h2] at hb ⊢; exact hb, ops[i], ho, ?_⟩
        · intro e hm hbind
          have h3 := he.2 e (by simpa using hm) hbind
          exact ih e.on (by omega) (by omega)
      rw [hr] at hm; simp at hm
    · rfl

section
variable {P : Program} {ops : Array Oper} {Q : Exit → Act → World → Prop}
/-- 'wpAny' without the way out for want of room. -/
def wpOpX (P : Program) (ops : Array Oper) (Q : Exit → Act → World → Prop) (i : Nat) (K : Act → World → Prop) (a : Act) (w : World) : Prop :=
  match ops[i]? with
  | none => K a w
  | some o => if Region.wanted o (yielded ops a.tmps) then o.wp P a w K Q else K (a.put o.dst undef) w
def wpAnyX (P : Program) (ops : Array Oper) (Q : Exit → Act → World → Prop) : Nat → Array Bool → Act → World → Prop
  | 0, listed, a, w => Region.ready .any ops listed = [] ∧ Q .normal a w
  | fuel + 1, listed, a, w =>
    (Region.ready .any ops listed = [] → Q .normal a w) ∧
    ∀ i ∈ Region.ready .any ops listed, wpOpX P ops Q i (wpAnyX P ops Q fuel (listed.setIfInBounds i true)) a w
theorem wpAny_ofX : ∀ (fuel : Nat) (listed : Array Bool) (a : Act) (w : World), wpAnyX P ops Q fuel listed a w → wpAny P .any ops Q fuel listed a w
  | 0, _, _, _, h => h
  | fuel + 1, listed, a, w, h => ⟨h.1, fun i hi => by
    have h2 := h.2 i hi
    unfold wpOpX at h2
    unfold wpOp
    cases ho : ops[i]? with
    | none => rw [ho] at h2; exact wpAny_ofX fuel _ a w h2
    | some o =>
      rw [ho] at h2
      simp only at h2 ⊢
      split
      · rename_i hw; rw [if_pos hw] at h2; exact .inl (Oper.wp_mono (fun a w h => wpAny_ofX fuel _ a w h) h2)
      · rename_i hw; rw [if_neg hw] at h2; exact wpAny_ofX fuel _ _ w h2⟩
theorem wpAnyX_inv (hok : edgesOk ops.toList 0 = true) (I : (Nat → Bool) → Act → World → Prop)
    (steps : stepsOf (fun k o => ∀ L a w, (∀ e ∈ o.after.toList, Region.binds .any e = true → L e.on = true) → L k = false → I L a w → ∀ K : Act → World → Prop, (∀ a w, I (upd L k) a w → K a w) → o.wp P a w K Q) ops.toList 0)
    (hd : ∀ L a w, (∀ i, i < ops.size → L i = true) → I L a w → Q .normal a w) :
    ∀ (fuel : Nat) (listed : Array Bool) (a : Act) (w : World), listed.size = ops.size → (listed.toList.countP (fun b => !b) ≤ fuel) → I (fun i => listed.getD i false) a w → wpAnyX P ops Q fuel listed a w := by
  intro fuel
  induction fuel with
  | zero =>
    intro listed a w hs hc hI
    have hall : ∀ i, i < ops.size → listed.getD i false = true := by
      intro i hi
      have h0 : listed.toList.countP (fun b => !b) = 0 := by omega
      rw [List.countP_eq_zero] at h0
      have hi2 : i < listed.size := by omega
      have := h0 listed[i] (by simp)
      simpa [Array.getD, hi2] using this
    have hr : Region.ready .any ops listed = [] := by
      apply List.eq_nil_iff_forall_not_mem.2
      intro i hi
      rw [mem_ready] at hi
      obtain ⟨h2, o, ho, _⟩ := hi
      have h1 := (Array.getElem?_eq_some_iff.1 ho).1
      have := hall i h1
      have hi2 : i < listed.size := by omega
      simp [Array.getD, hi2] at this h2
      rw [this] at h2; cases h2
    exact ⟨hr, hd _ a w hall hI⟩
  | succ fuel ih =>
    intro listed a w hs hc hI
    refine ⟨fun hr => hd _ a w (ready_all hok hs hr) hI, ?_⟩
    intro i hi
    rw [mem_ready] at hi
    obtain ⟨h2, o, ho, h3⟩ := hi
    have h1 := (Array.getElem?_eq_some_iff.1 ho).1
    have hg := edgesOk_at ops.toList 0 i o hok (by simpa using ho)
    have hi2 : i < listed.size := by omega
    have hLi : listed.getD i false = false := by simp [Array.getD, hi2] at h2 ⊢; exact h2
    have hst := stepsOf_at ops.toList 0 i o steps (by simpa using ho)
    rw [Nat.zero_add] at hst
    unfold wpOpX
    rw [ho]
    simp only [Region.wanted, hg.1, if_true]
    refine (hst _ a w (fun e he hb => h3 e (by simpa using he) hb) hLi hI _ ?_)
    intro a' w' hI'
    refine ih _ a' w' (by simpa using hs) ?_ ?_
    · have hset : (listed.setIfInBounds i true).toList = listed.toList.set i true := by simp
      rw [hset]
      have hb : listed.toList[i]'(by simpa using hi2) = false := by
        simp [Array.getD, hi2] at hLi; simpa using hLi
      have hcs := List.countP_set (p := fun b : Bool => !b) (l := listed.toList) (i := i) (a := true) (by simpa using hi2)
      rw [hb] at hcs
      have hpos : 0 < listed.toList.countP (fun b => !b) := by
        rw [List.countP_pos_iff]; exact ⟨false, by rw [← hb]; exact List.getElem_mem _, rfl⟩
      simp at hcs
      simp at hc hpos ⊢
      omega
    · have : (fun j => (listed.setIfInBounds i true).getD j false) = upd (fun j => listed.getD j false) i := by
        funext j
        by_cases hj : j = i
        · subst hj; simp [upd, Array.getD, hi2]
        · rw [upd_other _ hj]; exact getD_set_ne false (fun h => hj h.symm)
      rw [this]; exact hI'
/-- THE RULE. -/
theorem region_inv {id : Nat} {a : Act} {w : World} (hm : P.follows .mixedOrders = true) (hok : edgesOk ops.toList 0 = true) (I : (Nat → Bool) → Act → World → Prop)
    (h0 : I (fun _ => false) a w.drew)
    (steps : stepsOf (fun k o => ∀ L a w, (∀ e ∈ o.after.toList, Region.binds .any e = true → L e.on = true) → L k = false → I L a w → ∀ K : Act → World → Prop, (∀ a w, I (upd L k) a w → K a w) → o.wp P a w K Q) ops.toList 0)
    (hd : ∀ L a w, (∀ i, i < ops.size → L i = true) → I L a w → Q .normal a w) : (Code.region id ops true).wp P Q a w := by
  refine wp_region_any hm (wpAny_ofX _ _ _ _ (wpAnyX_inv hok I steps hd ops.size _ a _ (by simp) ?_ ?_))
  · exact Nat.le_trans List.countP_le_length (by simp)
  · have : (fun i => (Array.replicate ops.size false).getD i false) = fun _ => false := by
      funext i
      simp [Array.getD]
    rw [this]; exact h0
end
end Go.Proofs.Ytgdlmlpjeapjaaa
