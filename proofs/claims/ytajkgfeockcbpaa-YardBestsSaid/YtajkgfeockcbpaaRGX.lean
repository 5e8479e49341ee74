/- A region that draws its order, by one invariant: each operation is carried out once all that it must stand behind is done; no order is looked at. -/
import Derived.Test.YtajkgfeockcbpaaKMC
import Derived.Orders
import Derived.RangeFuncNested
import Derived.RangeFuncBound
import Derived.RangeFuncCalls
import Derived.RangeFuncLeaves
import Derived.OwnWalkIn
import Derived.TacticsInMore
import Derived.LoopNIn
import Derived.LoopIn
import Derived.OrdersIn
namespace Go.Proofs.Ytajkgfeockcbpaa
open Go.RowKit

/-- Each edge leads to an operation in front; no operation is guarded. -/
def edgesOk : List Oper → Nat → Bool
  | [], _ => true
  | o :: l, k => o.guard.isNone && o.after.toList.all (fun e => !Region.binds .any e || decide (e.on < k)) && edgesOk l (k + 1)
def upd (L : Nat → Bool) (i : Nat) : Nat → Bool := fun j => if j = i then true else L j
theorem upd_same (L : Nat → Bool) (i : Nat) : upd L i i = true := by simp [upd]
theorem upd_other (L : Nat → Bool) {i j : Nat} (h : j ≠ i) : upd L i j = L j := by simp [upd, h]
/-- One goal for each operation. -/
def stepsOf (F : Nat → Oper → Prop) : List Oper → Nat → Prop
  | [], _ => True
  | o :: l, k => F k o ∧ stepsOf F l (k + 1)
theorem stepsOf_at {F : Nat → Oper → Prop} : ∀ (l : List Oper) (k i : Nat) (o : Oper), stepsOf F l k → l[i]? = some o → F (k + i) o
  | [], _, _, _, _, h => by simp at h
  | x :: l, k, 0, o, hs, h => by simp at h; subst h; exact hs.1
  | x :: l, k, i + 1, o, hs, h => by
    have := stepsOf_at l (k + 1) i o hs.2 (by simpa using h)
    rwa [show k + (i + 1) = k + 1 + i by omega]
theorem edgesOk_at : ∀ (l : List Oper) (k i : Nat) (o : Oper), edgesOk l k = true → l[i]? = some o → o.guard = none ∧ ∀ e ∈ o.after.toList, Region.binds .any e = true → e.on < k + i
  | [], _, _, _, _, h => by simp at h
  | x :: l, k, 0, o, hs, h => by
    simp at h; subst h
    simp only [edgesOk, Bool.and_eq_true, List.all_eq_true, Bool.or_eq_true, Bool.not_eq_true', decide_eq_true_eq, Option.isNone_iff_eq_none] at hs
    refine ⟨hs.1.1, fun e he hb => ?_⟩
    rcases hs.1.2 e he with h | h
    · rw [hb] at h; cases h
    · omega
  | x :: l, k, i + 1, o, hs, h => by
    simp only [edgesOk, Bool.and_eq_true] at hs
    have := edgesOk_at l (k + 1) i o hs.2 (by simpa using h)
    rwa [show k + (i + 1) = k + 1 + i by omega]

theorem after_on {l : List Edge} {L : Nat → Bool} (h : ∀ e ∈ l, Region.binds .any e = true → L e.on = true) (d : Nat) (hd : l.any (fun e => Region.binds .any e && e.on == d) = true) : L d = true := by
  obtain ⟨e, he, hb⟩ := List.any_eq_true.1 hd
  rw [Bool.and_eq_true] at hb
  have := h e he hb.1
  rwa [show e.on = d from by simpa using hb.2] at this

theorem ready_all {ops : Array Oper} (hok : edgesOk ops.toList 0 = true) {listed : Array Bool} (hs : listed.size = ops.size) (hr : Region.ready .any ops listed = []) : ∀ i, i < ops.size → listed.getD i false = true := by
  intro i
  induction i using Nat.strongRecOn with
  | _ i ih =>
    intro hi
    rcases hb : listed.getD i false with _ | _
    · exfalso
      have ho : ops[i]? = some ops[i] := Array.getElem?_eq_getElem hi
      have he := edgesOk_at ops.toList 0 i ops[i] hok (by simp)
      have hm : i ∈ Region.ready .any ops listed := by
        rw [mem_ready]
        have h2 : i < listed.size := by omega
        refine ⟨by simp [Array.getD, h2] at hb ⊢; exact hb, ops[i], ho, ?_⟩
        · intro e hm hbind
          have h3 := he.2 e (by simpa using hm) hbind
          exact ih e.on (by omega) (by omega)
      rw [hr] at hm; simp at hm
    · rfl

section
variable {P : Program} {ops : Array Oper} {Q : Exit → Act → World → Prop}
/-- 'wpAny' without the way out for want of room. -/
def wpOpX (P : Program) (ops : Array Oper) (Q : Exit → Act → World → Prop) (i : Nat) (K : Act → World → Prop) (a : Act) (w : World) : Prop :=
  match ops[i]? with
  | none => K a w
  | some o => if Region.wanted o (yielded ops a.tmps) then o.wp P a w K Q else K (a.put o.dst undef) w
def wpAnyX (P : Program) (ops : Array Oper) (Q : Exit → Act → World → Prop) : Nat → Array Bool → Act → World → Prop
  | 0, listed, a, w => Region.ready .any ops listed = [] ∧ Q .normal a w
  | fuel + 1, listed, a, w =>
    (Region.ready .any ops listed = [] → Q .normal a w) ∧
    ∀ i ∈ Region.ready .any ops listed, wpOpX P ops Q i (wpAnyX P ops Q fuel (listed.setIfInBounds i true)) a w
theorem wpAny_ofX : ∀ (fuel : Nat) (listed : Array Bool) (a : Act) (w : World), wpAnyX P ops Q fuel listed a w → wpAny P .any ops Q fuel listed a w
  | 0, _, _, _, h => h
  | fuel + 1, listed, a, w, h => ⟨h.1, fun i hi => by
    have h2 := h.2 i hi
    unfold wpOpX at h2
    unfold wpOp
    cases ho : ops[i]? with
    | none => rw [ho] at h2; exact wpAny_ofX fuel _ a w h2
    | some o =>
      rw [ho] at h2
      simp only at h2 ⊢
      split
      · rename_i hw; rw [if_pos hw] at h2; exact .inl (Oper.wp_mono (fun a w h => wpAny_ofX fuel _ a w h) h2)
      · rename_i hw; rw [if_neg hw] at h2; exact wpAny_ofX fuel _ _ w h2⟩
theorem wpAnyX_inv (hok : edgesOk ops.toList 0 = true) (I : (Nat → Bool) → Act → World → Prop)
    (steps : stepsOf (fun k o => ∀ L a w, (∀ e ∈ o.after.toList, Region.binds .any e = true → L e.on = true) → L k = false → I L a w → ∀ K : Act → World → Prop, (∀ a w, I (upd L k) a w → K a w) → o.wp P a w K Q) ops.toList 0)
    (hd : ∀ L a w, (∀ i, i < ops.size → L i = true) → I L a w → Q .normal a w) :
    ∀ (fuel : Nat) (listed : Array Bool) (a : Act) (w : World), listed.size = ops.size → (listed.toList.countP (fun b => !b) ≤ fuel) → I (fun i => listed.getD i false) a w → wpAnyX P ops Q fuel listed a w := by
  intro fuel
  induction fuel with
  | zero =>
    intro listed a w hs hc hI
    have hall : ∀ i, i < ops.size → listed.getD i false = true := by
      intro i hi
      have h0 : listed.toList.countP (fun b => !b) = 0 := by omega
      rw [List.countP_eq_zero] at h0
      have hi2 : i < listed.size := by omega
      have := h0 listed[i] (by simp)
      simpa [Array.getD, hi2] using this
    have hr : Region.ready .any ops listed = [] := by
      apply List.eq_nil_iff_forall_not_mem.2
      intro i hi
      rw [mem_ready] at hi
      obtain ⟨h2, o, ho, _⟩ := hi
      have h1 := (Array.getElem?_eq_some_iff.1 ho).1
      have := hall i h1
      have hi2 : i < listed.size := by omega
      simp [Array.getD, hi2] at this h2
      rw [this] at h2; cases h2
    exact ⟨hr, hd _ a w hall hI⟩
  | succ fuel ih =>
    intro listed a w hs hc hI
    refine ⟨fun hr => hd _ a w (ready_all hok hs hr) hI, ?_⟩
    intro i hi
    rw [mem_ready] at hi
    obtain ⟨h2, o, ho, h3⟩ := hi
    have h1 := (Array.getElem?_eq_some_iff.1 ho).1
    have hg := edgesOk_at ops.toList 0 i o hok (by simpa using ho)
    have hi2 : i < listed.size := by omega
    have hLi : listed.getD i false = false := by simp [Array.getD, hi2] at h2 ⊢; exact h2
    have hst := stepsOf_at ops.toList 0 i o steps (by simpa using ho)
    rw [Nat.zero_add] at hst
    unfold wpOpX
    rw [ho]
    simp only [Region.wanted, hg.1, if_true]
    refine (hst _ a w (fun e he hb => h3 e (by simpa using he) hb) hLi hI _ ?_)
    intro a' w' hI'
    refine ih _ a' w' (by simpa using hs) ?_ ?_
    · have hset : (listed.setIfInBounds i true).toList = listed.toList.set i true := by simp
      rw [hset]
      have hb : listed.toList[i]'(by simpa using hi2) = false := by
        simp [Array.getD, hi2] at hLi; simpa using hLi
      have hcs := List.countP_set (p := fun b : Bool => !b) (l := listed.toList) (i := i) (a := true) (by simpa using hi2)
      rw [hb] at hcs
      have hpos : 0 < listed.toList.countP (fun b => !b) := by
        rw [List.countP_pos_iff]; exact ⟨false, by rw [← hb]; exact List.getElem_mem _, rfl⟩
      simp at hcs
      simp at hc hpos ⊢
      omega
    · have : (fun j => (listed.setIfInBounds i true).getD j false) = upd (fun j => listed.getD j false) i := by
        funext j
        by_cases hj : j = i
        · subst hj; simp [upd, Array.getD, hi2]
        · rw [upd_other _ hj]; exact getD_set_ne false (fun h => hj h.symm)
      rw [this]; exact hI'
/-- THE RULE. -/
theorem region_inv {id : Nat} {a : Act} {w : World} (hm : P.follows .mixedOrders = true) (hok : edgesOk ops.toList 0 = true) (I : (Nat → Bool) → Act → World → Prop)
    (h0 : I (fun _ => false) a w.drew)
    (steps : stepsOf (fun k o => ∀ L a w, (∀ e ∈ o.after.toList, Region.binds .any e = true → L e.on = true) → L k = false → I L a w → ∀ K : Act → World → Prop, (∀ a w, I (upd L k) a w → K a w) → o.wp P a w K Q) ops.toList 0)
    (hd : ∀ L a w, (∀ i, i < ops.size → L i = true) → I L a w → Q .normal a w) : (Code.region id ops true).wp P Q a w := by
  refine wp_region_any hm (wpAny_ofX _ _ _ _ (wpAnyX_inv hok I steps hd ops.size _ a _ (by simp) ?_ ?_))
  · exact Nat.le_trans List.countP_le_length (by simp)
  · have : (fun i => (Array.replicate ops.size false).getD i false) = fun _ => false := by
      funext i
      simp [Array.getD]
    rw [this]; exact h0
end
end Go.Proofs.Ytajkgfeockcbpaa
/- A region that draws its order and holds guarded operations, by one invariant. -/
namespace Go.Proofs.Ytajkgfeockcbpaa
open Go.RowKit

/-- Each edge leads to an operation in front. -/
def edgesOkG : List Oper → Nat → Bool
  | [], _ => true
  | o :: l, k => o.after.toList.all (fun e => !Region.binds .any e || decide (e.on < k)) && edgesOkG l (k + 1)
theorem edgesOkG_at : ∀ (l : List Oper) (k i : Nat) (o : Oper), edgesOkG l k = true → l[i]? = some o → ∀ e ∈ o.after.toList, Region.binds .any e = true → e.on < k + i
  | [], _, _, _, _, h => by simp at h
  | x :: l, k, 0, o, hs, h => by
    simp at h; subst h
    simp only [edgesOkG, Bool.and_eq_true, List.all_eq_true, Bool.or_eq_true, Bool.not_eq_true', decide_eq_true_eq] at hs
    intro e he hb
    rcases hs.1 e he with h | h
    · rw [hb] at h; cases h
    · omega
  | x :: l, k, i + 1, o, hs, h => by
    simp only [edgesOkG, Bool.and_eq_true] at hs
    have := edgesOkG_at l (k + 1) i o hs.2 (by simpa using h)
    rwa [show k + (i + 1) = k + 1 + i by omega]
theorem ready_allG {ops : Array Oper} (hok : edgesOkG ops.toList 0 = true) {listed : Array Bool} (hs : listed.size = ops.size) (hr : Region.ready .any ops listed = []) : ∀ i, i < ops.size → listed.getD i false = true := by
  intro i
  induction i using Nat.strongRecOn with
  | _ i ih =>
    intro hi
    rcases hb : listed.getD i false with _ | _
    · exfalso
      have ho : ops[i]? = some ops[i] := Array.getElem?_eq_getElem hi
      have he := edgesOkG_at ops.toList 0 i ops[i] hok (by simp)
      have hm : i ∈ Region.ready .any ops listed := by
        rw [mem_ready]
        have h2 : i < listed.size := by omega
        refine ⟨by simp [Array.getD, h2] at hb ⊢; exact hb, ops[i], ho, ?_⟩
        · intro e hm hbind
          have h3 := he e (by simpa using hm) hbind
          exact ih e.on (by omega) (by omega)
      rw [hr] at hm; simp at hm
    · rfl

section
variable {P : Program} {ops : Array Oper} {Q : Exit → Act → World → Prop}
theorem wpAnyX_invG (hok : edgesOkG ops.toList 0 = true) (I : (Nat → Bool) → Act → World → Prop)
    (steps : stepsOf (fun k o => ∀ L a w, (∀ e ∈ o.after.toList, Region.binds .any e = true → L e.on = true) → L k = false → I L a w → ∀ K : Act → World → Prop, (∀ a w, I (upd L k) a w → K a w) → Region.wanted o (yielded ops a.tmps) = true ∧ o.wp P a w K Q) ops.toList 0)
    (hd : ∀ L a w, (∀ i, i < ops.size → L i = true) → I L a w → Q .normal a w) :
    ∀ (fuel : Nat) (listed : Array Bool) (a : Act) (w : World), listed.size = ops.size → (listed.toList.countP (fun b => !b) ≤ fuel) → I (fun i => listed.getD i false) a w → wpAnyX P ops Q fuel listed a w := by
  intro fuel
  induction fuel with
  | zero =>
    intro listed a w hs hc hI
    have hall : ∀ i, i < ops.size → listed.getD i false = true := by
      intro i hi
      have h0 : listed.toList.countP (fun b => !b) = 0 := by omega
      rw [List.countP_eq_zero] at h0
      have hi2 : i < listed.size := by omega
      have := h0 listed[i] (by simp)
      simpa [Array.getD, hi2] using this
    have hr : Region.ready .any ops listed = [] := by
      apply List.eq_nil_iff_forall_not_mem.2
      intro i hi
      rw [mem_ready] at hi
      obtain ⟨h2, o, ho, _⟩ := hi
      have h1 := (Array.getElem?_eq_some_iff.1 ho).1
      have := hall i h1
      have hi2 : i < listed.size := by omega
      simp [Array.getD, hi2] at this h2
      rw [this] at h2; cases h2
    exact ⟨hr, hd _ a w hall hI⟩
  | succ fuel ih =>
    intro listed a w hs hc hI
    refine ⟨fun hr => hd _ a w (ready_allG hok hs hr) hI, ?_⟩
    intro i hi
    rw [mem_ready] at hi
    obtain ⟨h2, o, ho, h3⟩ := hi
    have h1 := (Array.getElem?_eq_some_iff.1 ho).1
    have hi2 : i < listed.size := by omega
    have hLi : listed.getD i false = false := by simp [Array.getD, hi2] at h2 ⊢; exact h2
    have hst := stepsOf_at ops.toList 0 i o steps (by simpa using ho)
    rw [Nat.zero_add] at hst
    unfold wpOpX
    rw [ho]
    suffices hh : ∀ a' w', I (upd (fun j => listed.getD j false) i) a' w' → wpAnyX P ops Q fuel (listed.setIfInBounds i true) a' w' by
      obtain ⟨hw, hst⟩ := hst _ a w (fun e he hb => h3 e (by simpa using he) hb) hLi hI _ hh
      simp only [hw, if_true]
      exact hst
    intro a' w' hI'
    refine ih _ a' w' (by simpa using hs) ?_ ?_
    · have hset : (listed.setIfInBounds i true).toList = listed.toList.set i true := by simp
      rw [hset]
      have hb : listed.toList[i]'(by simpa using hi2) = false := by
        simp [Array.getD, hi2] at hLi; simpa using hLi
      have hcs := List.countP_set (p := fun b : Bool => !b) (l := listed.toList) (i := i) (a := true) (by simpa using hi2)
      rw [hb] at hcs
      have hpos : 0 < listed.toList.countP (fun b => !b) := by
        rw [List.countP_pos_iff]; exact ⟨false, by rw [← hb]; exact List.getElem_mem _, rfl⟩
      simp at hcs
      simp at hc hpos ⊢
      omega
    · have : (fun j => (listed.setIfInBounds i true).getD j false) = upd (fun j => listed.getD j false) i := by
        funext j
        by_cases hj : j = i
        · subst hj; simp [upd, Array.getD, hi2]
        · rw [upd_other _ hj]; exact getD_set_ne false (fun h => hj h.symm)
      rw [this]; exact hI'
/-- THE RULE, WITH GUARDS. -/
theorem region_invG {id : Nat} {a : Act} {w : World} (hm : P.follows .mixedOrders = true) (hok : edgesOkG ops.toList 0 = true) (I : (Nat → Bool) → Act → World → Prop)
    (h0 : I (fun _ => false) a w.drew)
    (steps : stepsOf (fun k o => ∀ L a w, (∀ e ∈ o.after.toList, Region.binds .any e = true → L e.on = true) → L k = false → I L a w → ∀ K : Act → World → Prop, (∀ a w, I (upd L k) a w → K a w) → Region.wanted o (yielded ops a.tmps) = true ∧ o.wp P a w K Q) ops.toList 0)
    (hd : ∀ L a w, (∀ i, i < ops.size → L i = true) → I L a w → Q .normal a w) : (Code.region id ops true).wp P Q a w := by
  refine wp_region_any hm (wpAny_ofX _ _ _ _ (wpAnyX_invG hok I steps hd ops.size _ a _ (by simp) ?_ ?_))
  · exact Nat.le_trans List.countP_le_length (by simp)
  · have : (fun i => (Array.replicate ops.size false).getD i false) = fun _ => false := by
      funext i
      simp [Array.getD]
    rw [this]; exact h0
/-- One operation is ready alone. -/
theorem anyX_one {fuel : Nat} {listed : Array Bool} {a : Act} {w : World} (i : Nat) (h : Region.ready .any ops listed = [i]) (o : Oper) (ho : ops[i]? = some o) (hw : Region.wanted o (yielded ops a.tmps) = true)
    (hs : ∀ K : Act → World → Prop, (∀ a w, wpAnyX P ops Q fuel (listed.setIfInBounds i true) a w → K a w) → o.wp P a w K Q) : wpAnyX P ops Q (fuel + 1) listed a w := by
  refine ⟨fun h0 => (by rw [h] at h0; cases h0), fun j hj => ?_⟩
  rw [h] at hj
  obtain rfl : j = i := by simpa using hj
  unfold wpOpX
  rw [ho]
  simp only [hw, if_true]
  exact hs _ (fun _ _ h => h)
/-- Two are ready. -/
theorem anyX_two {fuel : Nat} {listed : Array Bool} {a : Act} {w : World} (i k : Nat) (h : Region.ready .any ops listed = [i, k]) (o o' : Oper) (ho : ops[i]? = some o) (ho' : ops[k]? = some o') (hw : Region.wanted o (yielded ops a.tmps) = true) (hw' : Region.wanted o' (yielded ops a.tmps) = true)
    (hs : ∀ K : Act → World → Prop, (∀ a w, wpAnyX P ops Q fuel (listed.setIfInBounds i true) a w → K a w) → o.wp P a w K Q)
    (hs' : ∀ K : Act → World → Prop, (∀ a w, wpAnyX P ops Q fuel (listed.setIfInBounds k true) a w → K a w) → o'.wp P a w K Q) : wpAnyX P ops Q (fuel + 1) listed a w := by
  refine ⟨fun h0 => (by rw [h] at h0; cases h0), fun j hj => ?_⟩
  rw [h] at hj
  rcases (show j = i ∨ j = k by simpa using hj) with rfl | rfl
  · unfold wpOpX
    rw [ho]
    simp only [hw, if_true]
    exact hs _ (fun _ _ h => h)
  · unfold wpOpX
    rw [ho']
    simp only [hw', if_true]
    exact hs' _ (fun _ _ h => h)
theorem region_draws {id : Nat} {a : Act} {w : World} (hm : P.follows .mixedOrders = true) (n : Nat) (hn : ops.size = n) (h : wpAnyX P ops Q n (Array.replicate n false) a w.drew) : (Code.region id ops true).wp P Q a w := by
  subst hn
  exact wp_region_any hm (wpAny_ofX _ _ _ _ h)
end
end Go.Proofs.Ytajkgfeockcbpaa
/- A range over a function, by what a round keeps: an iterator's contract names the blocks that it reads; a round may change the caller's own blocks alone. -/
namespace Go.Proofs.Ytajkgfeockcbpaa
open Go.RowKit

/-- All blocks but some are as they were. -/
structure KeepsBut (M : Nat → Prop) (A B : World) : Prop where
  os : B.os = A.os
  tape : B.tape = A.tape
  output : B.output = A.output
  size : A.heap.size ≤ B.heap.size
  block : ∀ k, k < A.heap.size → ¬ M k → B.heap[k]? = A.heap[k]?
theorem KeepsBut.refl (M : Nat → Prop) (A : World) : KeepsBut M A A := ⟨rfl, rfl, rfl, Nat.le_refl _, fun _ _ _ => rfl⟩
theorem KeepsBut.trans {M : Nat → Prop} {A B C : World} (h : KeepsBut M A B) (k : KeepsBut M B C) : KeepsBut M A C :=
  ⟨k.os.trans h.os, k.tape.trans h.tape, k.output.trans h.output, Nat.le_trans h.size k.size, fun i hi hm => (k.block i (Nat.lt_of_lt_of_le hi h.size) hm).trans (h.block i hi hm)⟩
theorem KeepsBut.mono {M M' : Nat → Prop} {A B : World} (h : KeepsBut M A B) (hm : ∀ k, k < A.heap.size → M k → M' k) : KeepsBut M' A B :=
  ⟨h.os, h.tape, h.output, h.size, fun k hk hn => h.block k hk (fun h2 => hn (hm k hk h2))⟩
theorem KeepsBut.of_below {M : Nat → Prop} {A B : World} (h : Below A.heap.size A B) : KeepsBut M A B := ⟨h.os, h.tape, h.output, h.size, fun k hk _ => h.block k hk⟩
theorem KeepsBut.of_below_from {M : Nat → Prop} {n : Nat} {A B : World} (h : Below n A B) (hm : ∀ k, n ≤ k → k < A.heap.size → M k) : KeepsBut M A B :=
  ⟨h.os, h.tape, h.output, h.size, fun k hk hn => h.block k (Nat.lt_of_not_le fun hle => hn (hm k hle hk))⟩
theorem KeepsBut.below {M : Nat → Prop} {n : Nat} {A B : World} (h : KeepsBut M A B) (hn : n ≤ A.heap.size) (hm : ∀ k, k < n → ¬ M k) : Below n A B :=
  ⟨h.os, h.tape, h.output, h.size, fun k hk => h.block k (Nat.lt_of_lt_of_le hk hn) (hm k hk)⟩
theorem KeepsBut.setCell {M : Nat → Prop} {A B : World} (h : KeepsBut M A B) {a : Addr} (hm : M a.block ∨ A.heap.size ≤ a.block) (v : Value) : KeepsBut M A (B.setCell a v) :=
  ⟨h.os, h.tape, h.output, by simpa [World.setCell] using h.size, fun k hk hn => by
    rw [Below.heap_setCell _ _ _ _ (by rcases hm with hm | hm; · intro e; subst e; exact hn hm
                                       · omega)]; exact h.block k hk hn⟩
theorem KeepsBut.setRow {M : Nat → Prop} {A B : World} (h : KeepsBut M A B) {g : Nat} (hm : M g ∨ A.heap.size ≤ g) (cs : Array Value) : KeepsBut M A (B.setRow g cs) :=
  ⟨h.os, h.tape, h.output, by simpa using h.size, fun k hk hn => by
    rw [_root_.Go.setRow_other _ g k cs (by rcases hm with hm | hm; · intro e; subst e; exact hn hm
                                            · omega)]; exact h.block k hk hn⟩
theorem KeepsBut.alloc {M : Nat → Prop} {A B : World} (h : KeepsBut M A B) (o : Obj) : KeepsBut M A (B.alloc o) :=
  h.trans (.of_below (below_alloc _ _))
theorem KeepsBut.drew {M : Nat → Prop} {A B : World} (h : KeepsBut M A B) : KeepsBut M A B.drew := ⟨h.os, h.tape, h.output, h.size, h.block⟩
theorem KeepsBut.after {M : Nat → Prop} {A B C : World} (h : KeepsBut M A B) (k : Below B.heap.size B C) : KeepsBut M A C := h.trans (.of_below k)
theorem Row.keeps {M : Nat → Prop} {A B : World} {b : Nat} {cs : Array Value} {t : TypeId} (h : Row A b cs t) (k : KeepsBut M A B) (hm : ¬ M b) : Row B b cs t := by
  unfold Row; rw [k.block b h.lt hm]; exact h
theorem below_putObj {n : Nat} (W : World) (l : Nat) (o : Obj) (hl : n ≤ l) : Below n W (W.putObj l o) :=
  ⟨rfl, rfl, rfl, by simp [World.putObj], fun k hk => World.putObj_heap_other (by omega)⟩
theorem KeepsBut.putObj {M : Nat → Prop} {A B : World} (h : KeepsBut M A B) {l : Nat} (hm : M l ∨ A.heap.size ≤ l) (o : Obj) : KeepsBut M A (B.putObj l o) :=
  ⟨h.os, h.tape, h.output, by simpa [World.putObj] using h.size, fun k hk hn => by
    rw [World.putObj_heap_other (by rcases hm with hm | hm; · intro e; subst e; exact hn hm
                                    · omega)]; exact h.block k hk hn⟩

/-- Of blocks from a number on nothing is said. -/
def Stable (n : Nat) (J : World → Prop) : Prop := ∀ A B, J A → Below n A B → J B

/-- AN ITERATOR's CONTRACT: so many rounds, each with its values; it reads some blocks, which the rounds leave alone. -/
def IterAt (P : Program) (gf : FuncId) (lb : Array Value) (reads : Nat → Prop) (xs : List (Array Value)) (W : World) : Prop :=
  ∀ (l : Nat) (M : Nat → Prop) (J : Nat → World → Prop) (Jx : World → Prop),
    (∀ m, M m → m < W.heap.size ∧ ¬ reads m) → (∀ k, Stable W.heap.size (J k)) → Stable W.heap.size Jx →
    (∀ k x A, xs[k]? = some x → J k A → KeepsBut M W A → YieldAt Fence.wide 0 P l x A fun e B =>
      KeepsBut M A B ∧ ((e = .returned (.bool true) ∧ J (k + 1) B) ∨ (e = .returned (.bool false) ∧ Jx B))) →
    J 0 W → Calls P gf (#[.func (.yield l) #[] #[]] ++ lb) W fun e B => (∃ v, e = .returned v) ∧ KeepsBut M W B ∧ (J xs.length B ∨ Jx B)

/-- How a round may be left. -/
def roundQ (M : Nat → Prop) (In : World → Prop) (Ix : Code → World → Prop) (A : World) : Exit → Act → World → Prop
  | .normal, _, B => KeepsBut M A B ∧ In B
  | .ret, _, B => KeepsBut M A B ∧ Ix .ret B
  | .exit id, _, B => KeepsBut M A B ∧ Ix (.exit id) B
  | .goto t, _, B => KeepsBut M A B ∧ Ix (.goto t) B
  | .panic _, _, _ => False
  | .outgrown, _, _ => False

theorem range_law {P : Program} {g : Operand} {ps : Array Tmp} {assign body : Code} {Q : Exit → Act → World → Prop} {a : Act} {w : World}
    (gf : Nat) (lb : Array Value) (reads : Nat → Prop) (xs : List (Array Value))
    (hg : a.eval g = .func (.func gf) #[] lb) (eg : ∀ args w, (callFunc gf args).run P w = .ok (.enter gf args) w)
    (hit : ∀ W1, Below w.heap.size w W1 → W1.heap.size = w.heap.size + 2 → IterAt P gf lb reads xs W1)
    (hps : ∀ x ∈ xs, x.size = ps.size) (M : Nat → Prop) (hM : ∀ m, M m → m < w.heap.size ∧ ¬ reads m) (hrl : ¬ reads (w.heap.size + 1))
    (I : Nat → World → Prop) (Ix : Code → World → Prop) (hI : ∀ k, Stable w.heap.size (I k)) (hIx : ∀ c, Stable w.heap.size (Ix c)) (h0 : I 0 w)
    (hbody : ∀ (l k : Nat) (x : Array Value) (A : World), l = w.heap.size + 1 → xs[k]? = some x → I k A → KeepsBut M w A → l < A.heap.size →
      assign.wpIn (Fence.wide.inRound l) 0 P (Exit.then (fun a1 A1 => KeepsBut M A A1 ∧ ∀ o, body.wpIn (Fence.wide.inRound l) 0 P (roundQ M (I (k + 1)) Ix (A1.putObj l o)) a1 (A1.putObj l o)) (fun _ _ _ => False))
        { tmps := (ps.zip x).foldl (fun t (p, v) => t.setIfInBounds p v) a.tmps, defers := [] } A)
    (hdone : ∀ B, I xs.length B → KeepsBut M w B → w.heap.size + 2 ≤ B.heap.size → B.heap[w.heap.size]? = some (.deferred (some [])) → Q .normal { a with defers := { target := .collected w.heap.size, args := #[] } :: a.defers } B)
    (hstop : ∀ c B, Ix c B → KeepsBut M w B → w.heap.size + 2 ≤ B.heap.size → B.heap[w.heap.size]? = some (.deferred (some [])) → c.wp P Q { a with defers := { target := .collected w.heap.size, args := #[] } :: a.defers } B) :
    (Code.rangeFunc g ps assign body).wp P Q a w := by
  refine wpIn_wide.1 (wpIn_rangeFunc (F := Fence.wide) (n := 0) ?_)
  intro fn _
  obtain ⟨rec, hrec⟩ : ∃ rec : LoopState → Option Code → Loop, rec = fun st pe => { state := st, pending := pe, fn, tmps := a.tmps, params := ps, assign, body, defers := w.heap.size } := ⟨_, rfl⟩
  obtain ⟨W1, hW1⟩ : ∃ W1, (w.alloc (.deferred (some []))).alloc (.loop (rec .ready none)) = W1 := ⟨_, rfl⟩
  have hL1 : W1.heap[w.heap.size + 1]? = some (.loop (rec .ready none)) := by
    rw [← hW1]; have := World.alloc_heap_new (w.alloc (.deferred (some []))) (.loop (rec .ready none)); rwa [World.size_alloc] at this
  have hK1 : W1.heap[w.heap.size]? = some (.deferred (some [])) := by
    rw [← hW1]; exact (Below.heap_alloc _ _ _ (by simp)).trans (World.alloc_heap_new w _)
  have hb1 : Below w.heap.size w W1 := by rw [← hW1]; exact (below_alloc _ _).alloc (by simp) _
  have hs1 : W1.heap.size = w.heap.size + 2 := by rw [← hW1]; simp
  refine ⟨w.heap.size + 1, [{ target := .collected w.heap.size, args := #[] }], W1, { target := .fn (.func gf) lb, args := #[.func (.yield (w.heap.size + 1)) #[] #[]] }, W1, gf,
    #[.func (.yield (w.heap.size + 1)) #[] #[]] ++ lb, W1, ?_, ?_, ?_, ?_, fun h => by simp [Fence.wide] at h, ?_⟩
  · rw [← hW1, hrec]; exact run_enterLoop_outer _ _ _ _ _
  · simp only [resolve, hg]; simp [go_sem]
  · intro f' _; trivial
  · simp [invoke, go_sem, eg]
  · refine callsIn_wide.2 ((hit W1 hb1 hs1 (w.heap.size + 1) (fun m => M m ∨ m = w.heap.size + 1)
      (fun k A => I k A ∧ A.heap[w.heap.size + 1]? = some (.loop (rec .ready none)) ∧ A.heap[w.heap.size]? = some (.deferred (some [])))
      (fun A => ∃ c, Ix c A ∧ A.heap[w.heap.size + 1]? = some (.loop (rec .done (some c))) ∧ A.heap[w.heap.size]? = some (.deferred (some [])))
      ?_ ?_ ?_ ?_ ⟨hI 0 _ _ h0 hb1, hL1, hK1⟩).mono ?_)
    · rintro m (hm | rfl)
      · exact ⟨by have := (hM m hm).1; omega, (hM m hm).2⟩
      · exact ⟨by omega, hrl⟩
    · rintro k A B ⟨h1, h2, h3⟩ hb
      exact ⟨hI k A B h1 (hb.mono (by omega)), by rw [hb.block _ (by omega)]; exact h2, by rw [hb.block _ (by omega)]; exact h3⟩
    · rintro A B ⟨c, h1, h2, h3⟩ hb
      exact ⟨c, hIx c A B h1 (hb.mono (by omega)), by rw [hb.block _ (by omega)]; exact h2, by rw [hb.block _ (by omega)]; exact h3⟩
    · rintro k x A hx ⟨hi, hl, hk⟩ hkeep
      have hwA : KeepsBut M w A := by
        refine ⟨hkeep.os.trans hb1.os, hkeep.tape.trans hb1.tape, hkeep.output.trans hb1.output, Nat.le_trans hb1.size hkeep.size, fun j hj hm => ?_⟩
        rw [hkeep.block j (by omega) (by rintro (h | h); exact hm h; omega), hb1.block j hj]
      have hlA : w.heap.size + 1 < A.heap.size := (Array.getElem?_eq_some_iff.1 hl).1
      have hy := run_yield (P := P) (args := x) hl (by rw [hrec]; exact hps x (List.mem_of_getElem? hx))
      rw [hrec] at hy
      refine ⟨fn, _, assign, body, hy, roundIn_of_wpIn trivial (wpIn_mono (hbody _ k x A rfl hx hi hwA hlA) ?_)⟩
      rintro e a1 A1 hp
      cases e with
      | normal =>
        obtain ⟨hk1, hb⟩ := hp
        have hl1 : A1.heap[w.heap.size + 1]? = some (.loop (rec .ready none)) := by rw [hk1.block _ hlA (fun h => by have := (hM _ h).1; omega)]; exact hl
        have hd1 : A1.heap[w.heap.size]? = some (.deferred (some [])) := by rw [hk1.block _ (by omega) (fun h => by have := (hM _ h).1; omega)]; exact hk
        have hl1' := (Array.getElem?_eq_some_iff.1 hl1).1
        refine ⟨_, run_beginRound hl1 (by rw [hrec]), wpIn_mono (hb _) ?_⟩
        generalize hA2 : A1.putObj (w.heap.size + 1) (.loop { rec .ready none with state := .busy }) = A2
        have hl2 : A2.heap[w.heap.size + 1]? = some (.loop { rec .ready none with state := .busy }) := by rw [← hA2]; exact World.putObj_heap_same hl1'
        have hd2 : A2.heap[w.heap.size]? = some (.deferred (some [])) := by rw [← hA2, World.putObj_heap_other (by omega)]; exact hd1
        have h12 : KeepsBut (fun m => M m ∨ m = w.heap.size + 1) A A2 := by
          rw [← hA2]; exact (hk1.mono (fun _ _ h => .inl h)).putObj (.inl (.inr rfl)) _
        have fin : ∀ (jump : Option Code) (B : World), KeepsBut M A2 B →
            (Instr.endRound (w.heap.size + 1) jump).run P B = .ok (.bool jump.isNone) (B.putObj (w.heap.size + 1) (.loop (rec (if jump.isNone then .ready else .done) jump))) ∧
            Below w.heap.size B (B.putObj (w.heap.size + 1) (.loop (rec (if jump.isNone then .ready else .done) jump))) ∧
            KeepsBut (fun m => M m ∨ m = w.heap.size + 1) A (B.putObj (w.heap.size + 1) (.loop (rec (if jump.isNone then .ready else .done) jump))) ∧
            (B.putObj (w.heap.size + 1) (.loop (rec (if jump.isNone then .ready else .done) jump))).heap[w.heap.size + 1]? = some (.loop (rec (if jump.isNone then .ready else .done) jump)) ∧
            (B.putObj (w.heap.size + 1) (.loop (rec (if jump.isNone then .ready else .done) jump))).heap[w.heap.size]? = some (.deferred (some [])) := fun jump B hkB => by
          have hs2 := (Array.getElem?_eq_some_iff.1 hl2).1
          have hl3 : B.heap[w.heap.size + 1]? = some (.loop { rec .ready none with state := .busy }) := by rw [hkB.block _ hs2 (fun h => by have := (hM _ h).1; omega)]; exact hl2
          have hd3 : B.heap[w.heap.size]? = some (.deferred (some [])) := by rw [hkB.block _ (by omega) (fun h => by have := (hM _ h).1; omega)]; exact hd2
          have hr := run_endRound (P := P) jump hl3
          rw [hrec] at hr ⊢
          exact ⟨hr, below_putObj _ _ _ (by omega), (h12.trans (hkB.mono (fun _ _ h => .inl h))).putObj (.inl (.inr rfl)) _, World.putObj_heap_same (Array.getElem?_eq_some_iff.1 hl3).1, (World.putObj_heap_other (by omega)).trans hd3⟩
        rintro e a3 B hq
        cases e with
        | normal =>
          obtain ⟨hkB, hiB⟩ := hq
          obtain ⟨h1, h2, h3, h4, h5⟩ := fin none B hkB
          exact ⟨_, _, h1, h3, .inl ⟨rfl, hI _ _ _ hiB h2, h4, h5⟩⟩
        | ret =>
          obtain ⟨hkB, hiB⟩ := hq
          obtain ⟨h1, h2, h3, h4, h5⟩ := fin (some .ret) B hkB
          exact ⟨_, _, h1, h3, .inr ⟨rfl, .ret, hIx _ _ _ hiB h2, h4, h5⟩⟩
        | exit id =>
          obtain ⟨hkB, hiB⟩ := hq
          obtain ⟨h1, h2, h3, h4, h5⟩ := fin (some (.exit id)) B hkB
          exact ⟨_, _, h1, h3, .inr ⟨rfl, .exit id, hIx _ _ _ hiB h2, h4, h5⟩⟩
        | goto t =>
          obtain ⟨hkB, hiB⟩ := hq
          obtain ⟨h1, h2, h3, h4, h5⟩ := fin (some (.goto t)) B hkB
          exact ⟨_, _, h1, h3, .inr ⟨rfl, .goto t, hIx _ _ _ hiB h2, h4, h5⟩⟩
        | panic ch => exact hq.elim
        | outgrown => exact hq.elim
      | ret => exact hp.elim
      | exit id => exact hp.elim
      | goto t => exact hp.elim
      | panic ch => exact hp.elim
      | outgrown => exact hp.elim
    · rintro e B ⟨⟨v, rfl⟩, hkeep, hJ⟩
      have hwB : KeepsBut M w B := by
        refine ⟨hkeep.os.trans hb1.os, hkeep.tape.trans hb1.tape, hkeep.output.trans hb1.output, Nat.le_trans hb1.size hkeep.size, fun j hj hm => ?_⟩
        rw [hkeep.block j (by omega) (by rintro (h | h); exact hm h; omega), hb1.block j hj]
      have hszB : w.heap.size + 2 ≤ B.heap.size := by have := hkeep.size; omega
      rcases hJ with ⟨hi, hl, hd⟩ | ⟨c, hi, hl, hd⟩
      · refine ⟨none, _, by have := run_endLoop (P := P) hl (by rw [hrec]; simp); rw [hrec] at this; exact this, ?_⟩
        exact hdone _ (hI _ _ _ hi (below_putObj _ _ _ (by omega))) (hwB.putObj (.inr (by omega)) _) (by simpa [World.putObj] using hszB) ((World.putObj_heap_other (by omega)).trans hd)
      · refine ⟨some c, _, by have := run_endLoop (P := P) hl (by rw [hrec]; simp); rw [hrec] at this; exact this, ?_⟩
        exact wpIn_wide.2 (hstop c _ (hIx _ _ _ hi (below_putObj _ _ _ (by omega))) (hwB.putObj (.inr (by omega)) _) (by simpa [World.putObj] using hszB) ((World.putObj_heap_other (by omega)).trans hd))

/-- A function whose body ranges over a function: its deferred calls' mark is taken up at its return. -/
theorem calls_marks {P : Program} {f : FuncId} {fn : Func} {c : Code} {args : Array Value} {w : World} {R : Ending → World → Prop}
    (hf : P.funcs[f]? = some fn) (hb : fn.body = some c)
    (h : c.wp P (bodyPostM Fence.wide 0 P fn R) { tmps := args ++ Array.replicate (fn.ntmps - args.size) undef, defers := [] } w) : Calls P f args w R :=
  callsIn_wide.1 (callsIn_of_wp_marks hf hb trivial (wpIn_wide.2 h) rfl)
/-- One operation in a round's frame, out of its walk in a plain one. -/
theorem opIn {P : Program} {o : Oper} {a : Act} {w : World} {K : Act → World → Prop} {Q : Exit → Act → World → Prop} {l n : Nat} (hd : ∀ c, o.op ≠ .defer c)
    (h : o.wp P a w K Q) : o.wpIn (Fence.wide.inRound l) n P a w K Q := by
  refine ⟨fun _ _ => trivial, ?_⟩
  have hs : o.semAt (Fence.wide.inRound l).round a.eval = execOp a.eval o := Oper.semAt_eq _ _ _ hd
  rw [hs]
  unfold Oper.wp at h
  generalize (execOp a.eval o).run P w = r at *
  have hdep : (Fence.wide.inRound l).depth.isSome = true → 1 ≤ n := fun h => by simp [Fence.wide] at h
  cases r with
  | ok x w' =>
    cases x <;> simp only [Oper.upon, Oper.uponIn] at h ⊢
    all_goals first
      | exact h
      | exact ⟨hdep, CallsIn.inRound l (callsIn_wide.2 h)⟩
      | exact ⟨hdep, fun c cs _ => let ⟨v, w'', r, s⟩ := h c cs; ⟨v, w'', r, stepsIn_wide.2 s⟩⟩
  | halt x w' => cases x <;> simp only [Oper.upon, Oper.uponIn] at h ⊢ <;> exact h

theorem wpAnyIn_of {P : Program} {ops : Array Oper} {Q : Exit → Act → World → Prop} {l n : Nat} (hd : ∀ o ∈ ops, ∀ c, o.op ≠ .defer c) :
    ∀ (fuel : Nat) (listed : Array Bool) (a : Act) (w : World), wpAnyX P ops Q fuel listed a w → wpAnyIn (Fence.wide.inRound l) n P .any ops Q fuel listed a w
  | 0, _, _, _, h => h
  | fuel + 1, listed, a, w, h => ⟨h.1, fun i hi => by
    have h2 := h.2 i hi
    unfold wpOpX at h2
    unfold wpOpIn
    cases ho : ops[i]? with
    | none => rw [ho] at h2; exact wpAnyIn_of hd fuel _ a w h2
    | some o =>
      rw [ho] at h2
      simp only at h2 ⊢
      split
      · rename_i hw; rw [if_pos hw] at h2; exact opIn (hd o (Array.mem_of_getElem? ho)) (Oper.wp_mono (fun a w h => wpAnyIn_of hd fuel _ a w h) h2)
      · rename_i hw; rw [if_neg hw] at h2; exact ⟨fun _ _ => trivial, wpAnyIn_of hd fuel _ _ w h2⟩⟩

/-- No operation of a region defers a call. -/
def noDefer (l : List Oper) : Bool := l.all fun o => match o.op with | .defer _ => false | _ => true
theorem noDefer_at {ops : Array Oper} (h : noDefer ops.toList = true) : ∀ o ∈ ops, ∀ c, o.op ≠ .defer c := by
  intro o ho c hc
  simp only [noDefer, List.all_eq_true] at h
  have := h o (by simpa using ho)
  rw [hc] at this
  cases this
/-- THE RULE FOR A REGION THAT DRAWS ITS ORDER, IN A ROUND. -/
theorem region_invIn {P : Program} {ops : Array Oper} {Q : Exit → Act → World → Prop} {l n id : Nat} {a : Act} {w : World} (hm : P.follows .mixedOrders = true) (hok : edgesOk ops.toList 0 = true) (hnd : noDefer ops.toList = true) (I : (Nat → Bool) → Act → World → Prop)
    (h0 : I (fun _ => false) a w.drew)
    (steps : stepsOf (fun k o => ∀ L a w, (∀ e ∈ o.after.toList, Region.binds .any e = true → L e.on = true) → L k = false → I L a w → ∀ K : Act → World → Prop, (∀ a w, I (upd L k) a w → K a w) → o.wp P a w K Q) ops.toList 0)
    (hd : ∀ L a w, (∀ i, i < ops.size → L i = true) → I L a w → Q .normal a w) : (Code.region id ops true).wpIn (Fence.wide.inRound l) n P Q a w := by
  refine wpIn_region_any hm (wpAnyIn_of (noDefer_at hnd) _ _ _ _ (wpAnyX_inv hok I steps hd ops.size _ a _ (by simp) ?_ ?_))
  · exact Nat.le_trans List.countP_le_length (by simp)
  · have : (fun i => (Array.replicate ops.size false).getD i false) = fun _ => false := by
      funext i
      simp [Array.getD]
    rw [this]; exact h0

/-- A whole variable out of its block, behind the wide fence or in a round. -/
theorem load_rowIn {F : Fence} {n : Nat} {P : Program} {ops : Array Oper} {rest : List Oper} {op : Oper} {a : Act} {w : World} {Q : Exit → Act → World → Prop} (hgd : op.guard = none) (ty : TypeId) (x : Operand) (ho : op.op = .load ty x)
    (g : Nat) (hx : a.eval x = .pointer (some ⟨g, 0, none⟩)) (t : TypeId) (cs : Array Value) (d : TypeDesc) (hg : Row w g cs t)
    (hu : P.underlying ty = some d) (hd : (match d with | .struct _ | .array _ _ => true | _ => false) = true) (hi : (P.info? ty).map (·.size) = some cs.size)
    (h : wpListIn F n P ops Q rest (a.put op.dst (.agg cs)) w) : wpListIn F n P ops Q (op :: rest) a w :=
  wpListIn_plain hgd fun K hK => by
    refine ⟨fun f hf => by simp [Oper.about, ho] at hf, ?_⟩
    rw [Oper.semAt_eq _ _ _ (by intro c hc; rw [ho] at hc; cases hc)]
    unfold execOp
    simp only [ho, hx, Instr.loadAt, Instr.sureAddr, Sem.run_bind, Sem.run_pure, Result.andThen_ok, run_loadVar_row w g t ty cs (0, 0) d hg hu hd hi]
    exact hK _ _ h
/-- The marks of loops that have ended: each names a block of its own, from a number on, that holds no deferred call. -/
def Marks (n : Nat) : List Deferred → World → Prop
  | [], _ => True
  | d :: ds, w => (∃ D, d = { target := .collected D, args := #[] } ∧ n ≤ D ∧ w.heap[D]? = some (.deferred (some [])) ∧ (∀ d' ∈ ds, ∀ D', d'.target = .collected D' → D' ≠ D)) ∧ Marks n ds w
theorem Marks.lt {n : Nat} {w : World} : ∀ {ds : List Deferred}, Marks n ds w → ∀ d ∈ ds, ∀ D, d.target = .collected D → D < w.heap.size
  | [], _, _, h, _, _ => by cases h
  | x :: ds, hm, d, h, D, hD => by
    rcases List.mem_cons.1 h with rfl | h
    · obtain ⟨⟨E, rfl, _, hE, _⟩, _⟩ := hm
      cases hD
      exact (Array.getElem?_eq_some_iff.1 hE).1
    · exact Marks.lt hm.2 d h D hD
theorem Marks.same {n : Nat} {A B : World} (hs : ∀ (k : Nat) o, A.heap[k]? = some (.deferred o) → B.heap[k]? = A.heap[k]?) : ∀ {ds : List Deferred}, Marks n ds A → Marks n ds B
  | [], _ => trivial
  | _ :: _, ⟨⟨D, h1, h2, h3, h4⟩, hm⟩ => ⟨⟨D, h1, h2, (hs D _ h3).trans h3, h4⟩, Marks.same hs hm⟩
theorem Marks.keeps {n : Nat} {M : Nat → Prop} {A B : World} {ds : List Deferred} (h : Marks n ds A) (hk : KeepsBut M A B) (hM : ∀ m o, M m → A.heap[m]? ≠ some (.deferred o)) : Marks n ds B :=
  h.same fun k o hd => hk.block k (Array.getElem?_eq_some_iff.1 hd).1 (fun hm => hM k o hm hd)
theorem Marks.push {n : Nat} {M : Nat → Prop} {A B : World} {ds : List Deferred} (h : Marks n ds A) (hk : KeepsBut M A B) (hM : ∀ m o, M m → A.heap[m]? ≠ some (.deferred o)) (hn : n ≤ A.heap.size) (hD : B.heap[A.heap.size]? = some (.deferred (some []))) :
    Marks n ({ target := .collected A.heap.size, args := #[] } :: ds) B :=
  ⟨⟨_, rfl, hn, hD, fun d hd D hD' => by have := h.lt d hd D hD'; omega⟩, h.keeps hk hM⟩
/-- Below a number, and wherever no calls are deferred, two worlds are the same. -/
structure SameBut (n : Nat) (A B : World) : Prop where
  below : Below n A B
  rest : ∀ (k : Nat), (∀ o, A.heap[k]? ≠ some (.deferred o)) → B.heap[k]? = A.heap[k]?
theorem marks_leave {P : Program} {fn : Func} {tmps : Array Value} {R : Ending → World → Prop} {n : Nat} : ∀ {ds : List Deferred} {w : World}, Marks n ds w →
    (∀ B, SameBut n w B → ∃ v, (results fn tmps).run P B = .ok v B ∧ R (.returned v) B) → LeavesInM Fence.wide 0 P fn tmps R ds .returning w
  | [], w, _, h => by obtain ⟨v, h1, h2⟩ := h w ⟨Below.refl _ _, fun _ _ => rfl⟩; exact ⟨v, h1, h2⟩
  | _ :: ds, w, ⟨⟨D, rfl, hn, hD, hne⟩, hm⟩, h => by
    refine ⟨by simp, .inl ⟨D, _, rfl, run_takeDeferred hD, ?_⟩⟩
    have hb : Below n w (w.putObj D (.deferred none)) := below_putObj _ _ _ hn
    have hrest : ∀ (k : Nat), (∀ o, w.heap[k]? ≠ some (.deferred o)) → (w.putObj D (.deferred none)).heap[k]? = w.heap[k]? := fun k hk => World.putObj_heap_other (fun e => hk (some []) (e ▸ hD))
    have hm' : Marks n ds (w.putObj D (.deferred none)) := by
      clear h
      induction ds with
      | nil => trivial
      | cons x ds ih =>
        obtain ⟨⟨E, hx, h1, h2, h3⟩, h4⟩ := hm
        have hED : E ≠ D := hne x (by simp) E (by rw [hx])
        exact ⟨⟨E, hx, h1, by rw [World.putObj_heap_other hED]; exact h2, h3⟩, ih (fun d' hd' => hne d' (List.mem_cons_of_mem _ hd')) h4⟩
    refine marks_leave hm' (fun B hB => h B ⟨hb.trans hB.below, fun k hk => ?_⟩)
    rw [hB.rest k (fun o => by rw [hrest k hk]; exact hk o), hrest k hk]

end Go.Proofs.Ytajkgfeockcbpaa
/- A range over a function whose rounds make memory that stays: what a round keeps may speak of blocks that earlier rounds made; the iterator's own blocks are a window of so many numbers. -/
namespace Go.Proofs.Ytajkgfeockcbpaa
open Go.RowKit

/-- Of a window of blocks nothing is said. -/
def StableW (n K : Nat) (J : World → Prop) : Prop := ∀ A B, J A → KeepsBut (fun m => n ≤ m ∧ m < n + K) A B → J B
/-- AN ITERATOR's CONTRACT, with a window of its own. -/
def IterW (P : Program) (K : Nat) (gf : FuncId) (lb : Array Value) (reads : Nat → Prop) (xs : List (Array Value)) (W : World) : Prop :=
  ∀ (l : Nat) (M : Nat → Prop) (J : Nat → World → Prop) (Jx : World → Prop),
    (∀ m, M m → m < W.heap.size ∧ ¬ reads m) → (∀ k, StableW W.heap.size K (J k)) → StableW W.heap.size K Jx →
    (∀ k x A, xs[k]? = some x → J k A → KeepsBut M W A → W.heap.size + K ≤ A.heap.size → YieldAt Fence.wide 0 P l x A fun e B =>
      KeepsBut M A B ∧ ((e = .returned (.bool true) ∧ J (k + 1) B) ∨ (e = .returned (.bool false) ∧ Jx B))) →
    J 0 W → Calls P gf (#[.func (.yield l) #[] #[]] ++ lb) W fun e B => (∃ v, e = .returned v) ∧ KeepsBut M W B ∧ (J xs.length B ∨ Jx B)

theorem range_lawW {P : Program} {KW : Nat} {g : Operand} {ps : Array Tmp} {assign body : Code} {Q : Exit → Act → World → Prop} {a : Act} {w : World}
    (gf : Nat) (lb : Array Value) (reads : Nat → Prop) (xs : List (Array Value))
    (hg : a.eval g = .func (.func gf) #[] lb) (eg : ∀ args w, (callFunc gf args).run P w = .ok (.enter gf args) w)
    (hit : ∀ W1, Below w.heap.size w W1 → W1.heap.size = w.heap.size + 2 → IterW P KW gf lb reads xs W1)
    (hps : ∀ x ∈ xs, x.size = ps.size) (M : Nat → Prop) (hM : ∀ m, M m → m < w.heap.size ∧ ¬ reads m) (hrl : ¬ reads (w.heap.size + 1))
    (I : Nat → World → Prop) (Ix : Code → World → Prop) (hI : ∀ k, StableW w.heap.size (2 + KW) (I k)) (hIx : ∀ c, StableW w.heap.size (2 + KW) (Ix c)) (h0 : I 0 w)
    (hbody : ∀ (l k : Nat) (x : Array Value) (A : World), l = w.heap.size + 1 → xs[k]? = some x → I k A → KeepsBut M w A → w.heap.size + 2 + KW ≤ A.heap.size →
      assign.wpIn (Fence.wide.inRound l) 0 P (Exit.then (fun a1 A1 => KeepsBut M A A1 ∧ ∀ o, body.wpIn (Fence.wide.inRound l) 0 P (roundQ M (I (k + 1)) Ix (A1.putObj l o)) a1 (A1.putObj l o)) (fun _ _ _ => False))
        { tmps := (ps.zip x).foldl (fun t (p, v) => t.setIfInBounds p v) a.tmps, defers := [] } A)
    (hdone : ∀ B, I xs.length B → KeepsBut M w B → w.heap.size + 2 ≤ B.heap.size → B.heap[w.heap.size]? = some (.deferred (some [])) → Q .normal { a with defers := { target := .collected w.heap.size, args := #[] } :: a.defers } B)
    (hstop : ∀ c B, Ix c B → KeepsBut M w B → w.heap.size + 2 ≤ B.heap.size → B.heap[w.heap.size]? = some (.deferred (some [])) → c.wp P Q { a with defers := { target := .collected w.heap.size, args := #[] } :: a.defers } B) :
    (Code.rangeFunc g ps assign body).wp P Q a w := by
  refine wpIn_wide.1 (wpIn_rangeFunc (F := Fence.wide) (n := 0) ?_)
  intro fn _
  obtain ⟨rec, hrec⟩ : ∃ rec : LoopState → Option Code → Loop, rec = fun st pe => { state := st, pending := pe, fn, tmps := a.tmps, params := ps, assign, body, defers := w.heap.size } := ⟨_, rfl⟩
  obtain ⟨W1, hW1⟩ : ∃ W1, (w.alloc (.deferred (some []))).alloc (.loop (rec .ready none)) = W1 := ⟨_, rfl⟩
  have hL1 : W1.heap[w.heap.size + 1]? = some (.loop (rec .ready none)) := by
    rw [← hW1]; have := World.alloc_heap_new (w.alloc (.deferred (some []))) (.loop (rec .ready none)); rwa [World.size_alloc] at this
  have hK1 : W1.heap[w.heap.size]? = some (.deferred (some [])) := by
    rw [← hW1]; exact (Below.heap_alloc _ _ _ (by simp)).trans (World.alloc_heap_new w _)
  have hb1 : Below w.heap.size w W1 := by rw [← hW1]; exact (below_alloc _ _).alloc (by simp) _
  have hs1 : W1.heap.size = w.heap.size + 2 := by rw [← hW1]; simp
  refine ⟨w.heap.size + 1, [{ target := .collected w.heap.size, args := #[] }], W1, { target := .fn (.func gf) lb, args := #[.func (.yield (w.heap.size + 1)) #[] #[]] }, W1, gf,
    #[.func (.yield (w.heap.size + 1)) #[] #[]] ++ lb, W1, ?_, ?_, ?_, ?_, fun h => by simp [Fence.wide] at h, ?_⟩
  · rw [← hW1, hrec]; exact run_enterLoop_outer _ _ _ _ _
  · simp only [resolve, hg]; simp [go_sem]
  · intro f' _; trivial
  · simp [invoke, go_sem, eg]
  · refine callsIn_wide.2 ((hit W1 hb1 hs1 (w.heap.size + 1) (fun m => M m ∨ m = w.heap.size + 1)
      (fun k A => I k A ∧ A.heap[w.heap.size + 1]? = some (.loop (rec .ready none)) ∧ A.heap[w.heap.size]? = some (.deferred (some [])))
      (fun A => ∃ c, Ix c A ∧ A.heap[w.heap.size + 1]? = some (.loop (rec .done (some c))) ∧ A.heap[w.heap.size]? = some (.deferred (some [])))
      ?_ ?_ ?_ ?_ ⟨hI 0 _ _ h0 (.of_below hb1), hL1, hK1⟩).mono ?_)
    · rintro m (hm | rfl)
      · exact ⟨by have := (hM m hm).1; omega, (hM m hm).2⟩
      · exact ⟨by omega, hrl⟩
    · rintro k A B ⟨h1, h2, h3⟩ hb
      exact ⟨hI k A B h1 (hb.mono (fun m _ hm => by omega)), by rw [hb.block _ (Array.getElem?_eq_some_iff.1 h2).1 (by omega)]; exact h2, by rw [hb.block _ (Array.getElem?_eq_some_iff.1 h3).1 (by omega)]; exact h3⟩
    · rintro A B ⟨c, h1, h2, h3⟩ hb
      exact ⟨c, hIx c A B h1 (hb.mono (fun m _ hm => by omega)), by rw [hb.block _ (Array.getElem?_eq_some_iff.1 h2).1 (by omega)]; exact h2, by rw [hb.block _ (Array.getElem?_eq_some_iff.1 h3).1 (by omega)]; exact h3⟩
    · rintro k x A hx ⟨hi, hl, hk⟩ hkeep hszA
      have hwA : KeepsBut M w A := by
        refine ⟨hkeep.os.trans hb1.os, hkeep.tape.trans hb1.tape, hkeep.output.trans hb1.output, Nat.le_trans hb1.size hkeep.size, fun j hj hm => ?_⟩
        rw [hkeep.block j (by omega) (by rintro (h | h); exact hm h; omega), hb1.block j hj]
      have hlA : w.heap.size + 1 < A.heap.size := (Array.getElem?_eq_some_iff.1 hl).1
      have hy := run_yield (P := P) (args := x) hl (by rw [hrec]; exact hps x (List.mem_of_getElem? hx))
      rw [hrec] at hy
      refine ⟨fn, _, assign, body, hy, roundIn_of_wpIn trivial (wpIn_mono (hbody _ k x A rfl hx hi hwA (by omega)) ?_)⟩
      rintro e a1 A1 hp
      cases e with
      | normal =>
        obtain ⟨hk1, hb⟩ := hp
        have hl1 : A1.heap[w.heap.size + 1]? = some (.loop (rec .ready none)) := by rw [hk1.block _ hlA (fun h => by have := (hM _ h).1; omega)]; exact hl
        have hd1 : A1.heap[w.heap.size]? = some (.deferred (some [])) := by rw [hk1.block _ (by omega) (fun h => by have := (hM _ h).1; omega)]; exact hk
        have hl1' := (Array.getElem?_eq_some_iff.1 hl1).1
        refine ⟨_, run_beginRound hl1 (by rw [hrec]), wpIn_mono (hb _) ?_⟩
        generalize hA2 : A1.putObj (w.heap.size + 1) (.loop { rec .ready none with state := .busy }) = A2
        have hl2 : A2.heap[w.heap.size + 1]? = some (.loop { rec .ready none with state := .busy }) := by rw [← hA2]; exact World.putObj_heap_same hl1'
        have hd2 : A2.heap[w.heap.size]? = some (.deferred (some [])) := by rw [← hA2, World.putObj_heap_other (by omega)]; exact hd1
        have h12 : KeepsBut (fun m => M m ∨ m = w.heap.size + 1) A A2 := by
          rw [← hA2]; exact (hk1.mono (fun _ _ h => .inl h)).putObj (.inl (.inr rfl)) _
        have fin : ∀ (jump : Option Code) (B : World), KeepsBut M A2 B →
            (Instr.endRound (w.heap.size + 1) jump).run P B = .ok (.bool jump.isNone) (B.putObj (w.heap.size + 1) (.loop (rec (if jump.isNone then .ready else .done) jump))) ∧
            KeepsBut (fun m => w.heap.size ≤ m ∧ m < w.heap.size + (2 + KW)) B (B.putObj (w.heap.size + 1) (.loop (rec (if jump.isNone then .ready else .done) jump))) ∧
            KeepsBut (fun m => M m ∨ m = w.heap.size + 1) A (B.putObj (w.heap.size + 1) (.loop (rec (if jump.isNone then .ready else .done) jump))) ∧
            (B.putObj (w.heap.size + 1) (.loop (rec (if jump.isNone then .ready else .done) jump))).heap[w.heap.size + 1]? = some (.loop (rec (if jump.isNone then .ready else .done) jump)) ∧
            (B.putObj (w.heap.size + 1) (.loop (rec (if jump.isNone then .ready else .done) jump))).heap[w.heap.size]? = some (.deferred (some [])) := fun jump B hkB => by
          have hs2 := (Array.getElem?_eq_some_iff.1 hl2).1
          have hl3 : B.heap[w.heap.size + 1]? = some (.loop { rec .ready none with state := .busy }) := by rw [hkB.block _ hs2 (fun h => by have := (hM _ h).1; omega)]; exact hl2
          have hd3 : B.heap[w.heap.size]? = some (.deferred (some [])) := by rw [hkB.block _ (by omega) (fun h => by have := (hM _ h).1; omega)]; exact hd2
          have hr := run_endRound (P := P) jump hl3
          rw [hrec] at hr ⊢
          exact ⟨hr, (KeepsBut.refl _ _).putObj (.inl ⟨by omega, by omega⟩) _, (h12.trans (hkB.mono (fun _ _ h => .inl h))).putObj (.inl (.inr rfl)) _, World.putObj_heap_same (Array.getElem?_eq_some_iff.1 hl3).1, (World.putObj_heap_other (by omega)).trans hd3⟩
        rintro e a3 B hq
        cases e with
        | normal =>
          obtain ⟨hkB, hiB⟩ := hq
          obtain ⟨h1, h2, h3, h4, h5⟩ := fin none B hkB
          exact ⟨_, _, h1, h3, .inl ⟨rfl, hI _ _ _ hiB h2, h4, h5⟩⟩
        | ret =>
          obtain ⟨hkB, hiB⟩ := hq
          obtain ⟨h1, h2, h3, h4, h5⟩ := fin (some .ret) B hkB
          exact ⟨_, _, h1, h3, .inr ⟨rfl, .ret, hIx _ _ _ hiB h2, h4, h5⟩⟩
        | exit id =>
          obtain ⟨hkB, hiB⟩ := hq
          obtain ⟨h1, h2, h3, h4, h5⟩ := fin (some (.exit id)) B hkB
          exact ⟨_, _, h1, h3, .inr ⟨rfl, .exit id, hIx _ _ _ hiB h2, h4, h5⟩⟩
        | goto t =>
          obtain ⟨hkB, hiB⟩ := hq
          obtain ⟨h1, h2, h3, h4, h5⟩ := fin (some (.goto t)) B hkB
          exact ⟨_, _, h1, h3, .inr ⟨rfl, .goto t, hIx _ _ _ hiB h2, h4, h5⟩⟩
        | panic ch => exact hq.elim
        | outgrown => exact hq.elim
      | ret => exact hp.elim
      | exit id => exact hp.elim
      | goto t => exact hp.elim
      | panic ch => exact hp.elim
      | outgrown => exact hp.elim
    · rintro e B ⟨⟨v, rfl⟩, hkeep, hJ⟩
      have hwB : KeepsBut M w B := by
        refine ⟨hkeep.os.trans hb1.os, hkeep.tape.trans hb1.tape, hkeep.output.trans hb1.output, Nat.le_trans hb1.size hkeep.size, fun j hj hm => ?_⟩
        rw [hkeep.block j (by omega) (by rintro (h | h); exact hm h; omega), hb1.block j hj]
      have hszB : w.heap.size + 2 ≤ B.heap.size := by have := hkeep.size; omega
      rcases hJ with ⟨hi, hl, hd⟩ | ⟨c, hi, hl, hd⟩
      · refine ⟨none, _, by have := run_endLoop (P := P) hl (by rw [hrec]; simp); rw [hrec] at this; exact this, ?_⟩
        exact hdone _ (hI _ _ _ hi ((KeepsBut.refl _ _).putObj (.inl ⟨by omega, by omega⟩) _)) (hwB.putObj (.inr (by omega)) _) (by simpa [World.putObj] using hszB) ((World.putObj_heap_other (by omega)).trans hd)
      · refine ⟨some c, _, by have := run_endLoop (P := P) hl (by rw [hrec]; simp); rw [hrec] at this; exact this, ?_⟩
        exact wpIn_wide.2 (hstop c _ (hIx _ _ _ hi ((KeepsBut.refl _ _).putObj (.inl ⟨by omega, by omega⟩) _)) (hwB.putObj (.inr (by omega)) _) (by simpa [World.putObj] using hszB) ((World.putObj_heap_other (by omega)).trans hd))

end Go.Proofs.Ytajkgfeockcbpaa
/- A range over a function whose values are known by what they are in memory. -/
namespace Go.Proofs.Ytajkgfeockcbpaa
open Go.RowKit

/-- AN ITERATOR's CONTRACT: so many rounds; of a round's values it says what they are in the world of that round. -/
def IterR (P : Program) (K : Nat) (gf : FuncId) (lb : Array Value) (reads : Nat → Prop) (n : Nat) (X : Nat → Array Value → World → Prop) (W : World) : Prop :=
  ∀ (l : Nat) (M : Nat → Prop) (J : Nat → World → Prop) (Jx : World → Prop),
    (∀ m, M m → m < W.heap.size ∧ ¬ reads m) → (∀ k, StableW W.heap.size K (J k)) → StableW W.heap.size K Jx →
    (∀ k x A, k < n → X k x A → J k A → KeepsBut M W A → W.heap.size + K ≤ A.heap.size → YieldAt Fence.wide 0 P l x A fun e B =>
      KeepsBut M A B ∧ ((e = .returned (.bool true) ∧ J (k + 1) B) ∨ (e = .returned (.bool false) ∧ Jx B))) →
    J 0 W → Calls P gf (#[.func (.yield l) #[] #[]] ++ lb) W fun e B => (∃ v, e = .returned v) ∧ KeepsBut M W B ∧ (J n B ∨ Jx B)

theorem range_lawR {P : Program} {KW : Nat} {g : Operand} {ps : Array Tmp} {assign body : Code} {Q : Exit → Act → World → Prop} {a : Act} {w : World}
    (gf : Nat) (lb : Array Value) (reads : Nat → Prop) (n : Nat) (X : Nat → Array Value → World → Prop)
    (hg : a.eval g = .func (.func gf) #[] lb) (eg : ∀ args w, (callFunc gf args).run P w = .ok (.enter gf args) w)
    (hit : ∀ W1, Below w.heap.size w W1 → W1.heap.size = w.heap.size + 2 → IterR P KW gf lb reads n X W1)
    (hps : ∀ k x A, X k x A → x.size = ps.size) (M : Nat → Prop) (hM : ∀ m, M m → m < w.heap.size ∧ ¬ reads m) (hrl : ¬ reads (w.heap.size + 1))
    (I : Nat → World → Prop) (Ix : Code → World → Prop) (hI : ∀ k, StableW w.heap.size (2 + KW) (I k)) (hIx : ∀ c, StableW w.heap.size (2 + KW) (Ix c)) (h0 : I 0 w)
    (hbody : ∀ (l k : Nat) (x : Array Value) (A : World), l = w.heap.size + 1 → k < n → X k x A → I k A → KeepsBut M w A → w.heap.size + 2 + KW ≤ A.heap.size →
      assign.wpIn (Fence.wide.inRound l) 0 P (Exit.then (fun a1 A1 => KeepsBut M A A1 ∧ ∀ o, body.wpIn (Fence.wide.inRound l) 0 P (roundQ M (I (k + 1)) Ix (A1.putObj l o)) a1 (A1.putObj l o)) (fun _ _ _ => False))
        { tmps := (ps.zip x).foldl (fun t (p, v) => t.setIfInBounds p v) a.tmps, defers := [] } A)
    (hdone : ∀ B, I n B → KeepsBut M w B → w.heap.size + 2 ≤ B.heap.size → B.heap[w.heap.size]? = some (.deferred (some [])) → Q .normal { a with defers := { target := .collected w.heap.size, args := #[] } :: a.defers } B)
    (hstop : ∀ c B, Ix c B → KeepsBut M w B → w.heap.size + 2 ≤ B.heap.size → B.heap[w.heap.size]? = some (.deferred (some [])) → c.wp P Q { a with defers := { target := .collected w.heap.size, args := #[] } :: a.defers } B) :
    (Code.rangeFunc g ps assign body).wp P Q a w := by
  refine wpIn_wide.1 (wpIn_rangeFunc (F := Fence.wide) (n := 0) ?_)
  intro fn _
  obtain ⟨rec, hrec⟩ : ∃ rec : LoopState → Option Code → Loop, rec = fun st pe => { state := st, pending := pe, fn, tmps := a.tmps, params := ps, assign, body, defers := w.heap.size } := ⟨_, rfl⟩
  obtain ⟨W1, hW1⟩ : ∃ W1, (w.alloc (.deferred (some []))).alloc (.loop (rec .ready none)) = W1 := ⟨_, rfl⟩
  have hL1 : W1.heap[w.heap.size + 1]? = some (.loop (rec .ready none)) := by
    rw [← hW1]; have := World.alloc_heap_new (w.alloc (.deferred (some []))) (.loop (rec .ready none)); rwa [World.size_alloc] at this
  have hK1 : W1.heap[w.heap.size]? = some (.deferred (some [])) := by
    rw [← hW1]; exact (Below.heap_alloc _ _ _ (by simp)).trans (World.alloc_heap_new w _)
  have hb1 : Below w.heap.size w W1 := by rw [← hW1]; exact (below_alloc _ _).alloc (by simp) _
  have hs1 : W1.heap.size = w.heap.size + 2 := by rw [← hW1]; simp
  refine ⟨w.heap.size + 1, [{ target := .collected w.heap.size, args := #[] }], W1, { target := .fn (.func gf) lb, args := #[.func (.yield (w.heap.size + 1)) #[] #[]] }, W1, gf,
    #[.func (.yield (w.heap.size + 1)) #[] #[]] ++ lb, W1, ?_, ?_, ?_, ?_, fun h => by simp [Fence.wide] at h, ?_⟩
  · rw [← hW1, hrec]; exact run_enterLoop_outer _ _ _ _ _
  · simp only [resolve, hg]; simp [go_sem]
  · intro f' _; trivial
  · simp [invoke, go_sem, eg]
  · refine callsIn_wide.2 ((hit W1 hb1 hs1 (w.heap.size + 1) (fun m => M m ∨ m = w.heap.size + 1)
      (fun k A => I k A ∧ A.heap[w.heap.size + 1]? = some (.loop (rec .ready none)) ∧ A.heap[w.heap.size]? = some (.deferred (some [])))
      (fun A => ∃ c, Ix c A ∧ A.heap[w.heap.size + 1]? = some (.loop (rec .done (some c))) ∧ A.heap[w.heap.size]? = some (.deferred (some [])))
      ?_ ?_ ?_ ?_ ⟨hI 0 _ _ h0 (.of_below hb1), hL1, hK1⟩).mono ?_)
    · rintro m (hm | rfl)
      · exact ⟨by have := (hM m hm).1; omega, (hM m hm).2⟩
      · exact ⟨by omega, hrl⟩
    · rintro k A B ⟨h1, h2, h3⟩ hb
      exact ⟨hI k A B h1 (hb.mono (fun m _ hm => by omega)), by rw [hb.block _ (Array.getElem?_eq_some_iff.1 h2).1 (by omega)]; exact h2, by rw [hb.block _ (Array.getElem?_eq_some_iff.1 h3).1 (by omega)]; exact h3⟩
    · rintro A B ⟨c, h1, h2, h3⟩ hb
      exact ⟨c, hIx c A B h1 (hb.mono (fun m _ hm => by omega)), by rw [hb.block _ (Array.getElem?_eq_some_iff.1 h2).1 (by omega)]; exact h2, by rw [hb.block _ (Array.getElem?_eq_some_iff.1 h3).1 (by omega)]; exact h3⟩
    · rintro k x A hkn hx ⟨hi, hl, hk⟩ hkeep hszA
      have hwA : KeepsBut M w A := by
        refine ⟨hkeep.os.trans hb1.os, hkeep.tape.trans hb1.tape, hkeep.output.trans hb1.output, Nat.le_trans hb1.size hkeep.size, fun j hj hm => ?_⟩
        rw [hkeep.block j (by omega) (by rintro (h | h); exact hm h; omega), hb1.block j hj]
      have hlA : w.heap.size + 1 < A.heap.size := (Array.getElem?_eq_some_iff.1 hl).1
      have hy := run_yield (P := P) (args := x) hl (by rw [hrec]; exact hps _ _ _ hx)
      rw [hrec] at hy
      refine ⟨fn, _, assign, body, hy, roundIn_of_wpIn trivial (wpIn_mono (hbody _ k x A rfl hkn hx hi hwA (by omega)) ?_)⟩
      rintro e a1 A1 hp
      cases e with
      | normal =>
        obtain ⟨hk1, hb⟩ := hp
        have hl1 : A1.heap[w.heap.size + 1]? = some (.loop (rec .ready none)) := by rw [hk1.block _ hlA (fun h => by have := (hM _ h).1; omega)]; exact hl
        have hd1 : A1.heap[w.heap.size]? = some (.deferred (some [])) := by rw [hk1.block _ (by omega) (fun h => by have := (hM _ h).1; omega)]; exact hk
        have hl1' := (Array.getElem?_eq_some_iff.1 hl1).1
        refine ⟨_, run_beginRound hl1 (by rw [hrec]), wpIn_mono (hb _) ?_⟩
        generalize hA2 : A1.putObj (w.heap.size + 1) (.loop { rec .ready none with state := .busy }) = A2
        have hl2 : A2.heap[w.heap.size + 1]? = some (.loop { rec .ready none with state := .busy }) := by rw [← hA2]; exact World.putObj_heap_same hl1'
        have hd2 : A2.heap[w.heap.size]? = some (.deferred (some [])) := by rw [← hA2, World.putObj_heap_other (by omega)]; exact hd1
        have h12 : KeepsBut (fun m => M m ∨ m = w.heap.size + 1) A A2 := by
          rw [← hA2]; exact (hk1.mono (fun _ _ h => .inl h)).putObj (.inl (.inr rfl)) _
        have fin : ∀ (jump : Option Code) (B : World), KeepsBut M A2 B →
            (Instr.endRound (w.heap.size + 1) jump).run P B = .ok (.bool jump.isNone) (B.putObj (w.heap.size + 1) (.loop (rec (if jump.isNone then .ready else .done) jump))) ∧
            KeepsBut (fun m => w.heap.size ≤ m ∧ m < w.heap.size + (2 + KW)) B (B.putObj (w.heap.size + 1) (.loop (rec (if jump.isNone then .ready else .done) jump))) ∧
            KeepsBut (fun m => M m ∨ m = w.heap.size + 1) A (B.putObj (w.heap.size + 1) (.loop (rec (if jump.isNone then .ready else .done) jump))) ∧
            (B.putObj (w.heap.size + 1) (.loop (rec (if jump.isNone then .ready else .done) jump))).heap[w.heap.size + 1]? = some (.loop (rec (if jump.isNone then .ready else .done) jump)) ∧
            (B.putObj (w.heap.size + 1) (.loop (rec (if jump.isNone then .ready else .done) jump))).heap[w.heap.size]? = some (.deferred (some [])) := fun jump B hkB => by
          have hs2 := (Array.getElem?_eq_some_iff.1 hl2).1
          have hl3 : B.heap[w.heap.size + 1]? = some (.loop { rec .ready none with state := .busy }) := by rw [hkB.block _ hs2 (fun h => by have := (hM _ h).1; omega)]; exact hl2
          have hd3 : B.heap[w.heap.size]? = some (.deferred (some [])) := by rw [hkB.block _ (by omega) (fun h => by have := (hM _ h).1; omega)]; exact hd2
          have hr := run_endRound (P := P) jump hl3
          rw [hrec] at hr ⊢
          exact ⟨hr, (KeepsBut.refl _ _).putObj (.inl ⟨by omega, by omega⟩) _, (h12.trans (hkB.mono (fun _ _ h => .inl h))).putObj (.inl (.inr rfl)) _, World.putObj_heap_same (Array.getElem?_eq_some_iff.1 hl3).1, (World.putObj_heap_other (by omega)).trans hd3⟩
        rintro e a3 B hq
        cases e with
        | normal =>
          obtain ⟨hkB, hiB⟩ := hq
          obtain ⟨h1, h2, h3, h4, h5⟩ := fin none B hkB
          exact ⟨_, _, h1, h3, .inl ⟨rfl, hI _ _ _ hiB h2, h4, h5⟩⟩
        | ret =>
          obtain ⟨hkB, hiB⟩ := hq
          obtain ⟨h1, h2, h3, h4, h5⟩ := fin (some .ret) B hkB
          exact ⟨_, _, h1, h3, .inr ⟨rfl, .ret, hIx _ _ _ hiB h2, h4, h5⟩⟩
        | exit id =>
          obtain ⟨hkB, hiB⟩ := hq
          obtain ⟨h1, h2, h3, h4, h5⟩ := fin (some (.exit id)) B hkB
          exact ⟨_, _, h1, h3, .inr ⟨rfl, .exit id, hIx _ _ _ hiB h2, h4, h5⟩⟩
        | goto t =>
          obtain ⟨hkB, hiB⟩ := hq
          obtain ⟨h1, h2, h3, h4, h5⟩ := fin (some (.goto t)) B hkB
          exact ⟨_, _, h1, h3, .inr ⟨rfl, .goto t, hIx _ _ _ hiB h2, h4, h5⟩⟩
        | panic ch => exact hq.elim
        | outgrown => exact hq.elim
      | ret => exact hp.elim
      | exit id => exact hp.elim
      | goto t => exact hp.elim
      | panic ch => exact hp.elim
      | outgrown => exact hp.elim
    · rintro e B ⟨⟨v, rfl⟩, hkeep, hJ⟩
      have hwB : KeepsBut M w B := by
        refine ⟨hkeep.os.trans hb1.os, hkeep.tape.trans hb1.tape, hkeep.output.trans hb1.output, Nat.le_trans hb1.size hkeep.size, fun j hj hm => ?_⟩
        rw [hkeep.block j (by omega) (by rintro (h | h); exact hm h; omega), hb1.block j hj]
      have hszB : w.heap.size + 2 ≤ B.heap.size := by have := hkeep.size; omega
      rcases hJ with ⟨hi, hl, hd⟩ | ⟨c, hi, hl, hd⟩
      · refine ⟨none, _, by have := run_endLoop (P := P) hl (by rw [hrec]; simp); rw [hrec] at this; exact this, ?_⟩
        exact hdone _ (hI _ _ _ hi ((KeepsBut.refl _ _).putObj (.inl ⟨by omega, by omega⟩) _)) (hwB.putObj (.inr (by omega)) _) (by simpa [World.putObj] using hszB) ((World.putObj_heap_other (by omega)).trans hd)
      · refine ⟨some c, _, by have := run_endLoop (P := P) hl (by rw [hrec]; simp); rw [hrec] at this; exact this, ?_⟩
        exact wpIn_wide.2 (hstop c _ (hIx _ _ _ hi ((KeepsBut.refl _ _).putObj (.inl ⟨by omega, by omega⟩) _)) (hwB.putObj (.inr (by omega)) _) (by simpa [World.putObj] using hszB) ((World.putObj_heap_other (by omega)).trans hd))

end Go.Proofs.Ytajkgfeockcbpaa
/- A range over a function whose iterator writes blocks of its own between the rounds: what a round keeps is not told by those blocks; the values of a round are known by what they are in memory. -/
namespace Go.Proofs.Ytajkgfeockcbpaa
open Go.RowKit

/-- What is so stays so while the iterator's own blocks are written, and it makes new ones. -/
def StableO (J : (Nat → Prop) → World → Prop) : Prop := ∀ O O' A B, J O A → KeepsBut O A B → (∀ m, O m → O' m) → (∀ m, O' m → O m ∨ A.heap.size ≤ m) → J O' B
theorem StableO.keep {J : (Nat → Prop) → World → Prop} (h : StableO J) {O : Nat → Prop} {A B : World} (hj : J O A) (hk : KeepsBut O A B) : J O B := h O O A B hj hk (fun _ h => h) (fun _ h => .inl h)
/-- AN ITERATOR's CONTRACT, with blocks of its own. -/
def IterO (P : Program) (gf : FuncId) (lb : Array Value) (reads : Nat → Prop) (n : Nat) (X : Nat → Array Value → (Nat → Prop) → World → Prop) (W : World) : Prop :=
  ∀ (l : Nat) (M : Nat → Prop) (J : Nat → (Nat → Prop) → World → Prop) (Jx : (Nat → Prop) → World → Prop),
    (∀ m, M m → m < W.heap.size ∧ ¬ reads m) → (∀ k, StableO (J k)) → StableO Jx →
    (∀ k x O A, k < n → X k x O A → (∀ m, O m → W.heap.size ≤ m ∧ m < A.heap.size) → J k O A → KeepsBut M W A → YieldAt Fence.wide 0 P l x A fun e B =>
      KeepsBut M A B ∧ ((e = .returned (.bool true) ∧ J (k + 1) O B) ∨ (e = .returned (.bool false) ∧ Jx O B))) →
    J 0 (fun _ => False) W → Calls P gf (#[.func (.yield l) #[] #[]] ++ lb) W fun e B => (∃ v, e = .returned v) ∧ KeepsBut M W B ∧ ∃ O, (∀ m, O m → W.heap.size ≤ m) ∧ (J n O B ∨ Jx O B)

theorem range_lawO {P : Program} {g : Operand} {ps : Array Tmp} {assign body : Code} {Q : Exit → Act → World → Prop} {a : Act} {w : World}
    (gf : Nat) (lb : Array Value) (reads : Nat → Prop) (n : Nat) (X : Nat → Array Value → (Nat → Prop) → World → Prop)
    (hg : a.eval g = .func (.func gf) #[] lb) (eg : ∀ args w, (callFunc gf args).run P w = .ok (.enter gf args) w)
    (hit : ∀ W1, Below w.heap.size w W1 → W1.heap.size = w.heap.size + 2 → IterO P gf lb reads n X W1)
    (hps : ∀ k x O A, X k x O A → x.size = ps.size) (M : Nat → Prop) (hM : ∀ m, M m → m < w.heap.size ∧ ¬ reads m) (hrl : ¬ reads (w.heap.size + 1))
    (I : Nat → (Nat → Prop) → World → Prop) (Ix : Code → (Nat → Prop) → World → Prop) (hI : ∀ k, StableO (I k)) (hIx : ∀ c, StableO (Ix c)) (h0 : I 0 (fun _ => False) w)
    (hbody : ∀ (l k : Nat) (x : Array Value) (O O' : Nat → Prop) (A : World), l = w.heap.size + 1 → k < n → X k x O' A → (∀ m, O' m → O m) → (∀ m, O m → O' m ∨ m = w.heap.size ∨ m = w.heap.size + 1) → (∀ m, O m → w.heap.size ≤ m ∧ m < A.heap.size) → O (w.heap.size + 1) → I k O A → KeepsBut M w A → l < A.heap.size →
      assign.wpIn (Fence.wide.inRound l) 0 P (Exit.then (fun a1 A1 => KeepsBut M A A1 ∧ ∀ o, body.wpIn (Fence.wide.inRound l) 0 P (roundQ M (I (k + 1) O) (fun c => Ix c O) (A1.putObj l o)) a1 (A1.putObj l o)) (fun _ _ _ => False))
        { tmps := (ps.zip x).foldl (fun t (p, v) => t.setIfInBounds p v) a.tmps, defers := [] } A)
    (hdone : ∀ O B, I n O B → (∀ m, O m → w.heap.size ≤ m) → KeepsBut M w B → w.heap.size + 2 ≤ B.heap.size → B.heap[w.heap.size]? = some (.deferred (some [])) → Q .normal { a with defers := { target := .collected w.heap.size, args := #[] } :: a.defers } B)
    (hstop : ∀ c O B, Ix c O B → (∀ m, O m → w.heap.size ≤ m) → KeepsBut M w B → w.heap.size + 2 ≤ B.heap.size → B.heap[w.heap.size]? = some (.deferred (some [])) → c.wp P Q { a with defers := { target := .collected w.heap.size, args := #[] } :: a.defers } B) :
    (Code.rangeFunc g ps assign body).wp P Q a w := by
  refine wpIn_wide.1 (wpIn_rangeFunc (F := Fence.wide) (n := 0) ?_)
  intro fn _
  obtain ⟨rec, hrec⟩ : ∃ rec : LoopState → Option Code → Loop, rec = fun st pe => { state := st, pending := pe, fn, tmps := a.tmps, params := ps, assign, body, defers := w.heap.size } := ⟨_, rfl⟩
  obtain ⟨W1, hW1⟩ : ∃ W1, (w.alloc (.deferred (some []))).alloc (.loop (rec .ready none)) = W1 := ⟨_, rfl⟩
  have hL1 : W1.heap[w.heap.size + 1]? = some (.loop (rec .ready none)) := by
    rw [← hW1]; have := World.alloc_heap_new (w.alloc (.deferred (some []))) (.loop (rec .ready none)); rwa [World.size_alloc] at this
  have hK1 : W1.heap[w.heap.size]? = some (.deferred (some [])) := by
    rw [← hW1]; exact (Below.heap_alloc _ _ _ (by simp)).trans (World.alloc_heap_new w _)
  have hb1 : Below w.heap.size w W1 := by rw [← hW1]; exact (below_alloc _ _).alloc (by simp) _
  have hs1 : W1.heap.size = w.heap.size + 2 := by rw [← hW1]; simp
  obtain ⟨E, hE⟩ : ∃ E : (Nat → Prop) → Nat → Prop, E = fun O m => O m ∨ m = w.heap.size ∨ m = w.heap.size + 1 := ⟨_, rfl⟩
  have hE0 : ∀ O m, O m → E O m := fun O m h => by rw [hE]; exact .inl h
  have hE1 : ∀ O m, E O m → O m ∨ m = w.heap.size ∨ m = w.heap.size + 1 := fun O m h => by rw [hE] at h; exact h
  have hEl : ∀ O, E O (w.heap.size + 1) := fun O => by rw [hE]; exact .inr (.inr rfl)
  have hEd : ∀ O, E O w.heap.size := fun O => by rw [hE]; exact .inr (.inl rfl)
  clear hE
  refine ⟨w.heap.size + 1, [{ target := .collected w.heap.size, args := #[] }], W1, { target := .fn (.func gf) lb, args := #[.func (.yield (w.heap.size + 1)) #[] #[]] }, W1, gf,
    #[.func (.yield (w.heap.size + 1)) #[] #[]] ++ lb, W1, ?_, ?_, ?_, ?_, fun h => by simp [Fence.wide] at h, ?_⟩
  · rw [← hW1, hrec]; exact run_enterLoop_outer _ _ _ _ _
  · simp only [resolve, hg]; simp [go_sem]
  · intro f' _; trivial
  · simp [invoke, go_sem, eg]
  · refine callsIn_wide.2 ((hit W1 hb1 hs1 (w.heap.size + 1) (fun m => M m ∨ m = w.heap.size + 1)
      (fun k O A => (∀ m, O m → w.heap.size + 2 ≤ m) ∧ I k (E O) A ∧ A.heap[w.heap.size + 1]? = some (.loop (rec .ready none)) ∧ A.heap[w.heap.size]? = some (.deferred (some [])))
      (fun O A => (∀ m, O m → w.heap.size + 2 ≤ m) ∧ ∃ c, Ix c (E O) A ∧ A.heap[w.heap.size + 1]? = some (.loop (rec .done (some c))) ∧ A.heap[w.heap.size]? = some (.deferred (some [])))
      ?_ ?_ ?_ ?_ ⟨fun m h => h.elim, (hI 0) (fun _ => False) _ _ _ h0 (.of_below hb1) (fun m h => h.elim) (fun m h => by rcases hE1 _ m h with h | h | h; exact h.elim; exact .inr (by omega); exact .inr (by omega)), hL1, hK1⟩).mono ?_)
    · rintro m (hm | rfl)
      · exact ⟨by have := (hM m hm).1; omega, (hM m hm).2⟩
      · exact ⟨by omega, hrl⟩
    · rintro k O O' A B ⟨h0, h1, h2, h3⟩ hb hOO hO
      have hl2 := (Array.getElem?_eq_some_iff.1 h2).1
      have hn1 : ¬ O (w.heap.size + 1) := fun h => by have := h0 _ h; omega
      have hn2 : ¬ O w.heap.size := fun h => by have := h0 _ h; omega
      refine ⟨fun m hm => ?_, hI k (E O) (E O') A B h1 (hb.mono fun m _ h => hE0 O m h) (fun m h => ?_) (fun m h => ?_), by rw [hb.block _ hl2 hn1]; exact h2, by rw [hb.block _ (by omega) hn2]; exact h3⟩
      · rcases hO m hm with h | h
        · exact h0 m h
        · omega
      · rcases hE1 O m h with h | rfl | rfl
        · exact hE0 O' m (hOO m h)
        · exact hEd _
        · exact hEl _
      · rcases hE1 O' m h with h | rfl | rfl
        · rcases hO m h with h | h
          · exact .inl (hE0 O m h)
          · exact .inr h
        · exact .inl (hEd _)
        · exact .inl (hEl _)
    · rintro O O' A B ⟨h0, c, h1, h2, h3⟩ hb hOO hO
      have hl2 := (Array.getElem?_eq_some_iff.1 h2).1
      have hn1 : ¬ O (w.heap.size + 1) := fun h => by have := h0 _ h; omega
      have hn2 : ¬ O w.heap.size := fun h => by have := h0 _ h; omega
      refine ⟨fun m hm => ?_, c, hIx c (E O) (E O') A B h1 (hb.mono fun m _ h => hE0 O m h) (fun m h => ?_) (fun m h => ?_), by rw [hb.block _ hl2 hn1]; exact h2, by rw [hb.block _ (by omega) hn2]; exact h3⟩
      · rcases hO m hm with h | h
        · exact h0 m h
        · omega
      · rcases hE1 O m h with h | rfl | rfl
        · exact hE0 O' m (hOO m h)
        · exact hEd _
        · exact hEl _
      · rcases hE1 O' m h with h | rfl | rfl
        · rcases hO m h with h | h
          · exact .inl (hE0 O m h)
          · exact .inr h
        · exact .inl (hEd _)
        · exact .inl (hEl _)
    · rintro k x O A hkn hx hOw ⟨hO2, hi, hl, hk⟩ hkeep
      have hwA : KeepsBut M w A := by
        refine ⟨hkeep.os.trans hb1.os, hkeep.tape.trans hb1.tape, hkeep.output.trans hb1.output, Nat.le_trans hb1.size hkeep.size, fun j hj hm => ?_⟩
        rw [hkeep.block j (by omega) (by rintro (h | h); exact hm h; omega), hb1.block j hj]
      have hlA : w.heap.size + 1 < A.heap.size := (Array.getElem?_eq_some_iff.1 hl).1
      have hy := run_yield (P := P) (args := x) hl (by rw [hrec]; exact hps _ _ _ _ hx)
      rw [hrec] at hy
      have hEO : ∀ m, E O m → w.heap.size ≤ m ∧ m < A.heap.size := fun m h => by
        rcases hE1 O m h with h | rfl | rfl
        · exact ⟨by have := hO2 m h; omega, (hOw m h).2⟩
        · omega
        · omega
      refine ⟨fn, _, assign, body, hy, roundIn_of_wpIn trivial (wpIn_mono (hbody _ k x (E O) O A rfl hkn hx (hE0 O) (hE1 O) hEO (hEl _) hi hwA hlA) ?_)⟩
      rintro e a1 A1 hp
      cases e with
      | normal =>
        obtain ⟨hk1, hb⟩ := hp
        have hl1 : A1.heap[w.heap.size + 1]? = some (.loop (rec .ready none)) := by rw [hk1.block _ hlA (fun h => by have := (hM _ h).1; omega)]; exact hl
        have hd1 : A1.heap[w.heap.size]? = some (.deferred (some [])) := by rw [hk1.block _ (by omega) (fun h => by have := (hM _ h).1; omega)]; exact hk
        have hl1' := (Array.getElem?_eq_some_iff.1 hl1).1
        refine ⟨_, run_beginRound hl1 (by rw [hrec]), wpIn_mono (hb _) ?_⟩
        generalize hA2 : A1.putObj (w.heap.size + 1) (.loop { rec .ready none with state := .busy }) = A2
        have hl2 : A2.heap[w.heap.size + 1]? = some (.loop { rec .ready none with state := .busy }) := by rw [← hA2]; exact World.putObj_heap_same hl1'
        have hd2 : A2.heap[w.heap.size]? = some (.deferred (some [])) := by rw [← hA2, World.putObj_heap_other (by omega)]; exact hd1
        have h12 : KeepsBut (fun m => M m ∨ m = w.heap.size + 1) A A2 := by
          rw [← hA2]; exact (hk1.mono (fun _ _ h => .inl h)).putObj (.inl (.inr rfl)) _
        have fin : ∀ (jump : Option Code) (B : World), KeepsBut M A2 B →
            (Instr.endRound (w.heap.size + 1) jump).run P B = .ok (.bool jump.isNone) (B.putObj (w.heap.size + 1) (.loop (rec (if jump.isNone then .ready else .done) jump))) ∧
            KeepsBut (E O) B (B.putObj (w.heap.size + 1) (.loop (rec (if jump.isNone then .ready else .done) jump))) ∧
            KeepsBut (fun m => M m ∨ m = w.heap.size + 1) A (B.putObj (w.heap.size + 1) (.loop (rec (if jump.isNone then .ready else .done) jump))) ∧
            (B.putObj (w.heap.size + 1) (.loop (rec (if jump.isNone then .ready else .done) jump))).heap[w.heap.size + 1]? = some (.loop (rec (if jump.isNone then .ready else .done) jump)) ∧
            (B.putObj (w.heap.size + 1) (.loop (rec (if jump.isNone then .ready else .done) jump))).heap[w.heap.size]? = some (.deferred (some [])) := fun jump B hkB => by
          have hs2 := (Array.getElem?_eq_some_iff.1 hl2).1
          have hl3 : B.heap[w.heap.size + 1]? = some (.loop { rec .ready none with state := .busy }) := by rw [hkB.block _ hs2 (fun h => by have := (hM _ h).1; omega)]; exact hl2
          have hd3 : B.heap[w.heap.size]? = some (.deferred (some [])) := by rw [hkB.block _ (by omega) (fun h => by have := (hM _ h).1; omega)]; exact hd2
          have hr := run_endRound (P := P) jump hl3
          rw [hrec] at hr ⊢
          exact ⟨hr, (KeepsBut.refl _ _).putObj (.inl (hEl _)) _, (h12.trans (hkB.mono (fun _ _ h => .inl h))).putObj (.inl (.inr rfl)) _, World.putObj_heap_same (Array.getElem?_eq_some_iff.1 hl3).1, (World.putObj_heap_other (by omega)).trans hd3⟩
        rintro e a3 B hq
        cases e with
        | normal =>
          obtain ⟨hkB, hiB⟩ := hq
          obtain ⟨h1, h2, h3, h4, h5⟩ := fin none B hkB
          exact ⟨_, _, h1, h3, .inl ⟨rfl, hO2, (hI _).keep hiB h2, h4, h5⟩⟩
        | ret =>
          obtain ⟨hkB, hiB⟩ := hq
          obtain ⟨h1, h2, h3, h4, h5⟩ := fin (some .ret) B hkB
          exact ⟨_, _, h1, h3, .inr ⟨rfl, hO2, .ret, (hIx _).keep hiB h2, h4, h5⟩⟩
        | exit id =>
          obtain ⟨hkB, hiB⟩ := hq
          obtain ⟨h1, h2, h3, h4, h5⟩ := fin (some (.exit id)) B hkB
          exact ⟨_, _, h1, h3, .inr ⟨rfl, hO2, .exit id, (hIx _).keep hiB h2, h4, h5⟩⟩
        | goto t =>
          obtain ⟨hkB, hiB⟩ := hq
          obtain ⟨h1, h2, h3, h4, h5⟩ := fin (some (.goto t)) B hkB
          exact ⟨_, _, h1, h3, .inr ⟨rfl, hO2, .goto t, (hIx _).keep hiB h2, h4, h5⟩⟩
        | panic ch => exact hq.elim
        | outgrown => exact hq.elim
      | ret => exact hp.elim
      | exit id => exact hp.elim
      | goto t => exact hp.elim
      | panic ch => exact hp.elim
      | outgrown => exact hp.elim
    · rintro e B ⟨⟨v, rfl⟩, hkeep, O, hOw, hJ⟩
      have hwB : KeepsBut M w B := by
        refine ⟨hkeep.os.trans hb1.os, hkeep.tape.trans hb1.tape, hkeep.output.trans hb1.output, Nat.le_trans hb1.size hkeep.size, fun j hj hm => ?_⟩
        rw [hkeep.block j (by omega) (by rintro (h | h); exact hm h; omega), hb1.block j hj]
      have hszB : w.heap.size + 2 ≤ B.heap.size := by have := hkeep.size; omega
      have hEO : ∀ m, E O m → w.heap.size ≤ m := fun m h => by
        rcases hE1 O m h with h | rfl | rfl
        · have := hOw m h; omega
        · omega
        · omega
      rcases hJ with ⟨_, hi, hl, hd⟩ | ⟨_, c, hi, hl, hd⟩
      · refine ⟨none, _, by have := run_endLoop (P := P) hl (by rw [hrec]; simp); rw [hrec] at this; exact this, ?_⟩
        exact hdone _ _ ((hI _).keep hi ((KeepsBut.refl _ _).putObj (.inl (hEl _)) _)) hEO (hwB.putObj (.inr (by omega)) _) (by simpa [World.putObj] using hszB) ((World.putObj_heap_other (by omega)).trans hd)
      · refine ⟨some c, _, by have := run_endLoop (P := P) hl (by rw [hrec]; simp); rw [hrec] at this; exact this, ?_⟩
        exact wpIn_wide.2 (hstop c _ _ ((hIx _).keep hi ((KeepsBut.refl _ _).putObj (.inl (hEl _)) _)) hEO (hwB.putObj (.inr (by omega)) _) (by simpa [World.putObj] using hszB) ((World.putObj_heap_other (by omega)).trans hd))
end Go.Proofs.Ytajkgfeockcbpaa
/- A range over a function whose rounds write what earlier rounds have made, but for the blocks of the iterator. -/
namespace Go.Proofs.Ytajkgfeockcbpaa
open Go.RowKit

/-- AN ITERATOR's CONTRACT, with blocks of its own. -/
def IterP (P : Program) (gf : FuncId) (lb : Array Value) (reads : Nat → Prop) (n : Nat) (X : Nat → Array Value → (Nat → Prop) → World → Prop) (W : World) : Prop :=
  ∀ (l : Nat) (M : Nat → Prop) (J : Nat → (Nat → Prop) → World → Prop) (Jx : (Nat → Prop) → World → Prop),
    (∀ m, M m → m < W.heap.size ∧ ¬ reads m) → (∀ k, StableO (J k)) → StableO Jx →
    (∀ k x O A, k < n → X k x O A → (∀ m, O m → W.heap.size ≤ m ∧ m < A.heap.size) → J k O A → KeepsBut M W A → YieldAt Fence.wide 0 P l x A fun e B =>
      KeepsBut (fun m => M m ∨ (W.heap.size ≤ m ∧ ¬ O m)) A B ∧ ((e = .returned (.bool true) ∧ J (k + 1) O B) ∨ (e = .returned (.bool false) ∧ Jx O B))) →
    J 0 (fun _ => False) W → Calls P gf (#[.func (.yield l) #[] #[]] ++ lb) W fun e B => (∃ v, e = .returned v) ∧ KeepsBut M W B ∧ ∃ O, (∀ m, O m → W.heap.size ≤ m) ∧ (J n O B ∨ Jx O B)

theorem range_lawP {P : Program} {g : Operand} {ps : Array Tmp} {assign body : Code} {Q : Exit → Act → World → Prop} {a : Act} {w : World}
    (gf : Nat) (lb : Array Value) (reads : Nat → Prop) (n : Nat) (X : Nat → Array Value → (Nat → Prop) → World → Prop)
    (hg : a.eval g = .func (.func gf) #[] lb) (eg : ∀ args w, (callFunc gf args).run P w = .ok (.enter gf args) w)
    (hit : ∀ W1, Below w.heap.size w W1 → W1.heap.size = w.heap.size + 2 → IterP P gf lb reads n X W1)
    (hps : ∀ k x O A, X k x O A → x.size = ps.size) (M : Nat → Prop) (hM : ∀ m, M m → m < w.heap.size ∧ ¬ reads m) (hrl : ¬ reads (w.heap.size + 1))
    (I : Nat → (Nat → Prop) → World → Prop) (Ix : Code → (Nat → Prop) → World → Prop) (hI : ∀ k, StableO (I k)) (hIx : ∀ c, StableO (Ix c)) (h0 : I 0 (fun _ => False) w)
    (hbody : ∀ (l k : Nat) (x : Array Value) (O O' : Nat → Prop) (A : World), l = w.heap.size + 1 → k < n → X k x O' A → (∀ m, O' m → O m) → (∀ m, O m → O' m ∨ m = w.heap.size ∨ m = w.heap.size + 1) → (∀ m, O m → w.heap.size ≤ m ∧ m < A.heap.size) → O (w.heap.size + 1) → I k O A → KeepsBut M w A → l < A.heap.size →
      assign.wpIn (Fence.wide.inRound l) 0 P (Exit.then (fun a1 A1 => KeepsBut M A A1 ∧ ∀ o, body.wpIn (Fence.wide.inRound l) 0 P (roundQ (fun m => M m ∨ (w.heap.size ≤ m ∧ ¬ O m)) (I (k + 1) O) (fun c => Ix c O) (A1.putObj l o)) a1 (A1.putObj l o)) (fun _ _ _ => False))
        { tmps := (ps.zip x).foldl (fun t (p, v) => t.setIfInBounds p v) a.tmps, defers := [] } A)
    (hdone : ∀ O B, I n O B → (∀ m, O m → w.heap.size ≤ m) → KeepsBut M w B → w.heap.size + 2 ≤ B.heap.size → B.heap[w.heap.size]? = some (.deferred (some [])) → Q .normal { a with defers := { target := .collected w.heap.size, args := #[] } :: a.defers } B)
    (hstop : ∀ c O B, Ix c O B → (∀ m, O m → w.heap.size ≤ m) → KeepsBut M w B → w.heap.size + 2 ≤ B.heap.size → B.heap[w.heap.size]? = some (.deferred (some [])) → c.wp P Q { a with defers := { target := .collected w.heap.size, args := #[] } :: a.defers } B) :
    (Code.rangeFunc g ps assign body).wp P Q a w := by
  refine wpIn_wide.1 (wpIn_rangeFunc (F := Fence.wide) (n := 0) ?_)
  intro fn _
  obtain ⟨rec, hrec⟩ : ∃ rec : LoopState → Option Code → Loop, rec = fun st pe => { state := st, pending := pe, fn, tmps := a.tmps, params := ps, assign, body, defers := w.heap.size } := ⟨_, rfl⟩
  obtain ⟨W1, hW1⟩ : ∃ W1, (w.alloc (.deferred (some []))).alloc (.loop (rec .ready none)) = W1 := ⟨_, rfl⟩
  have hL1 : W1.heap[w.heap.size + 1]? = some (.loop (rec .ready none)) := by
    rw [← hW1]; have := World.alloc_heap_new (w.alloc (.deferred (some []))) (.loop (rec .ready none)); rwa [World.size_alloc] at this
  have hK1 : W1.heap[w.heap.size]? = some (.deferred (some [])) := by
    rw [← hW1]; exact (Below.heap_alloc _ _ _ (by simp)).trans (World.alloc_heap_new w _)
  have hb1 : Below w.heap.size w W1 := by rw [← hW1]; exact (below_alloc _ _).alloc (by simp) _
  have hs1 : W1.heap.size = w.heap.size + 2 := by rw [← hW1]; simp
  obtain ⟨E, hE⟩ : ∃ E : (Nat → Prop) → Nat → Prop, E = fun O m => O m ∨ m = w.heap.size ∨ m = w.heap.size + 1 := ⟨_, rfl⟩
  have hE0 : ∀ O m, O m → E O m := fun O m h => by rw [hE]; exact .inl h
  have hE1 : ∀ O m, E O m → O m ∨ m = w.heap.size ∨ m = w.heap.size + 1 := fun O m h => by rw [hE] at h; exact h
  have hEl : ∀ O, E O (w.heap.size + 1) := fun O => by rw [hE]; exact .inr (.inr rfl)
  have hEd : ∀ O, E O w.heap.size := fun O => by rw [hE]; exact .inr (.inl rfl)
  clear hE
  refine ⟨w.heap.size + 1, [{ target := .collected w.heap.size, args := #[] }], W1, { target := .fn (.func gf) lb, args := #[.func (.yield (w.heap.size + 1)) #[] #[]] }, W1, gf,
    #[.func (.yield (w.heap.size + 1)) #[] #[]] ++ lb, W1, ?_, ?_, ?_, ?_, fun h => by simp [Fence.wide] at h, ?_⟩
  · rw [← hW1, hrec]; exact run_enterLoop_outer _ _ _ _ _
  · simp only [resolve, hg]; simp [go_sem]
  · intro f' _; trivial
  · simp [invoke, go_sem, eg]
  · refine callsIn_wide.2 ((hit W1 hb1 hs1 (w.heap.size + 1) (fun m => M m ∨ m = w.heap.size + 1)
      (fun k O A => (∀ m, O m → w.heap.size + 2 ≤ m) ∧ I k (E O) A ∧ A.heap[w.heap.size + 1]? = some (.loop (rec .ready none)) ∧ A.heap[w.heap.size]? = some (.deferred (some [])))
      (fun O A => (∀ m, O m → w.heap.size + 2 ≤ m) ∧ ∃ c, Ix c (E O) A ∧ A.heap[w.heap.size + 1]? = some (.loop (rec .done (some c))) ∧ A.heap[w.heap.size]? = some (.deferred (some [])))
      ?_ ?_ ?_ ?_ ⟨fun m h => h.elim, (hI 0) (fun _ => False) _ _ _ h0 (.of_below hb1) (fun m h => h.elim) (fun m h => by rcases hE1 _ m h with h | h | h; exact h.elim; exact .inr (by omega); exact .inr (by omega)), hL1, hK1⟩).mono ?_)
    · rintro m (hm | rfl)
      · exact ⟨by have := (hM m hm).1; omega, (hM m hm).2⟩
      · exact ⟨by omega, hrl⟩
    · rintro k O O' A B ⟨h0, h1, h2, h3⟩ hb hOO hO
      have hl2 := (Array.getElem?_eq_some_iff.1 h2).1
      have hn1 : ¬ O (w.heap.size + 1) := fun h => by have := h0 _ h; omega
      have hn2 : ¬ O w.heap.size := fun h => by have := h0 _ h; omega
      refine ⟨fun m hm => ?_, hI k (E O) (E O') A B h1 (hb.mono fun m _ h => hE0 O m h) (fun m h => ?_) (fun m h => ?_), by rw [hb.block _ hl2 hn1]; exact h2, by rw [hb.block _ (by omega) hn2]; exact h3⟩
      · rcases hO m hm with h | h
        · exact h0 m h
        · omega
      · rcases hE1 O m h with h | rfl | rfl
        · exact hE0 O' m (hOO m h)
        · exact hEd _
        · exact hEl _
      · rcases hE1 O' m h with h | rfl | rfl
        · rcases hO m h with h | h
          · exact .inl (hE0 O m h)
          · exact .inr h
        · exact .inl (hEd _)
        · exact .inl (hEl _)
    · rintro O O' A B ⟨h0, c, h1, h2, h3⟩ hb hOO hO
      have hl2 := (Array.getElem?_eq_some_iff.1 h2).1
      have hn1 : ¬ O (w.heap.size + 1) := fun h => by have := h0 _ h; omega
      have hn2 : ¬ O w.heap.size := fun h => by have := h0 _ h; omega
      refine ⟨fun m hm => ?_, c, hIx c (E O) (E O') A B h1 (hb.mono fun m _ h => hE0 O m h) (fun m h => ?_) (fun m h => ?_), by rw [hb.block _ hl2 hn1]; exact h2, by rw [hb.block _ (by omega) hn2]; exact h3⟩
      · rcases hO m hm with h | h
        · exact h0 m h
        · omega
      · rcases hE1 O m h with h | rfl | rfl
        · exact hE0 O' m (hOO m h)
        · exact hEd _
        · exact hEl _
      · rcases hE1 O' m h with h | rfl | rfl
        · rcases hO m h with h | h
          · exact .inl (hE0 O m h)
          · exact .inr h
        · exact .inl (hEd _)
        · exact .inl (hEl _)
    · rintro k x O A hkn hx hOw ⟨hO2, hi, hl, hk⟩ hkeep
      have hwA : KeepsBut M w A := by
        refine ⟨hkeep.os.trans hb1.os, hkeep.tape.trans hb1.tape, hkeep.output.trans hb1.output, Nat.le_trans hb1.size hkeep.size, fun j hj hm => ?_⟩
        rw [hkeep.block j (by omega) (by rintro (h | h); exact hm h; omega), hb1.block j hj]
      have hlA : w.heap.size + 1 < A.heap.size := (Array.getElem?_eq_some_iff.1 hl).1
      have hy := run_yield (P := P) (args := x) hl (by rw [hrec]; exact hps _ _ _ _ hx)
      rw [hrec] at hy
      have hEO : ∀ m, E O m → w.heap.size ≤ m ∧ m < A.heap.size := fun m h => by
        rcases hE1 O m h with h | rfl | rfl
        · exact ⟨by have := hO2 m h; omega, (hOw m h).2⟩
        · omega
        · omega
      refine ⟨fn, _, assign, body, hy, roundIn_of_wpIn trivial (wpIn_mono (hbody _ k x (E O) O A rfl hkn hx (hE0 O) (hE1 O) hEO (hEl _) hi hwA hlA) ?_)⟩
      rintro e a1 A1 hp
      cases e with
      | normal =>
        obtain ⟨hk1, hb⟩ := hp
        have hl1 : A1.heap[w.heap.size + 1]? = some (.loop (rec .ready none)) := by rw [hk1.block _ hlA (fun h => by have := (hM _ h).1; omega)]; exact hl
        have hd1 : A1.heap[w.heap.size]? = some (.deferred (some [])) := by rw [hk1.block _ (by omega) (fun h => by have := (hM _ h).1; omega)]; exact hk
        have hl1' := (Array.getElem?_eq_some_iff.1 hl1).1
        refine ⟨_, run_beginRound hl1 (by rw [hrec]), wpIn_mono (hb _) ?_⟩
        generalize hA2 : A1.putObj (w.heap.size + 1) (.loop { rec .ready none with state := .busy }) = A2
        have hl2 : A2.heap[w.heap.size + 1]? = some (.loop { rec .ready none with state := .busy }) := by rw [← hA2]; exact World.putObj_heap_same hl1'
        have hd2 : A2.heap[w.heap.size]? = some (.deferred (some [])) := by rw [← hA2, World.putObj_heap_other (by omega)]; exact hd1
        have h12 : KeepsBut (fun m => M m ∨ m = w.heap.size + 1) A A2 := by
          rw [← hA2]; exact (hk1.mono (fun _ _ h => .inl h)).putObj (.inl (.inr rfl)) _
        have hOut : ∀ m, m < A2.heap.size → (M m ∨ (w.heap.size ≤ m ∧ ¬ E O m)) → (M m ∨ m = w.heap.size + 1) ∨ (W1.heap.size ≤ m ∧ ¬ O m) := fun m _ h => by
          rcases h with h | ⟨h1, h2⟩
          · exact .inl (.inl h)
          · refine .inr ⟨?_, fun h => h2 (hE0 O m h)⟩
            have n1 : m ≠ w.heap.size := fun e => h2 (e ▸ hEd O)
            have n2 : m ≠ w.heap.size + 1 := fun e => h2 (e ▸ hEl O)
            omega
        have fin : ∀ (jump : Option Code) (B : World), KeepsBut (fun m => M m ∨ (w.heap.size ≤ m ∧ ¬ E O m)) A2 B →
            (Instr.endRound (w.heap.size + 1) jump).run P B = .ok (.bool jump.isNone) (B.putObj (w.heap.size + 1) (.loop (rec (if jump.isNone then .ready else .done) jump))) ∧
            KeepsBut (E O) B (B.putObj (w.heap.size + 1) (.loop (rec (if jump.isNone then .ready else .done) jump))) ∧
            KeepsBut (fun m => (M m ∨ m = w.heap.size + 1) ∨ (W1.heap.size ≤ m ∧ ¬ O m)) A (B.putObj (w.heap.size + 1) (.loop (rec (if jump.isNone then .ready else .done) jump))) ∧
            (B.putObj (w.heap.size + 1) (.loop (rec (if jump.isNone then .ready else .done) jump))).heap[w.heap.size + 1]? = some (.loop (rec (if jump.isNone then .ready else .done) jump)) ∧
            (B.putObj (w.heap.size + 1) (.loop (rec (if jump.isNone then .ready else .done) jump))).heap[w.heap.size]? = some (.deferred (some [])) := fun jump B hkB => by
          have hs2 := (Array.getElem?_eq_some_iff.1 hl2).1
          have hl3 : B.heap[w.heap.size + 1]? = some (.loop { rec .ready none with state := .busy }) := by rw [hkB.block _ hs2 (fun h => h.elim (fun h => by have := (hM _ h).1; omega) (fun h => h.2 (hEl O)))]; exact hl2
          have hd3 : B.heap[w.heap.size]? = some (.deferred (some [])) := by rw [hkB.block _ (by omega) (fun h => h.elim (fun h => by have := (hM _ h).1; omega) (fun h => h.2 (hEd O)))]; exact hd2
          have hr := run_endRound (P := P) jump hl3
          rw [hrec] at hr ⊢
          exact ⟨hr, (KeepsBut.refl _ _).putObj (.inl (hEl _)) _, ((h12.mono (fun _ _ h => .inl h)).trans (hkB.mono hOut)).putObj (.inl (.inl (.inr rfl))) _, World.putObj_heap_same (Array.getElem?_eq_some_iff.1 hl3).1, (World.putObj_heap_other (by omega)).trans hd3⟩
        rintro e a3 B hq
        cases e with
        | normal =>
          obtain ⟨hkB, hiB⟩ := hq
          obtain ⟨h1, h2, h3, h4, h5⟩ := fin none B hkB
          exact ⟨_, _, h1, h3, .inl ⟨rfl, hO2, (hI _).keep hiB h2, h4, h5⟩⟩
        | ret =>
          obtain ⟨hkB, hiB⟩ := hq
          obtain ⟨h1, h2, h3, h4, h5⟩ := fin (some .ret) B hkB
          exact ⟨_, _, h1, h3, .inr ⟨rfl, hO2, .ret, (hIx _).keep hiB h2, h4, h5⟩⟩
        | exit id =>
          obtain ⟨hkB, hiB⟩ := hq
          obtain ⟨h1, h2, h3, h4, h5⟩ := fin (some (.exit id)) B hkB
          exact ⟨_, _, h1, h3, .inr ⟨rfl, hO2, .exit id, (hIx _).keep hiB h2, h4, h5⟩⟩
        | goto t =>
          obtain ⟨hkB, hiB⟩ := hq
          obtain ⟨h1, h2, h3, h4, h5⟩ := fin (some (.goto t)) B hkB
          exact ⟨_, _, h1, h3, .inr ⟨rfl, hO2, .goto t, (hIx _).keep hiB h2, h4, h5⟩⟩
        | panic ch => exact hq.elim
        | outgrown => exact hq.elim
      | ret => exact hp.elim
      | exit id => exact hp.elim
      | goto t => exact hp.elim
      | panic ch => exact hp.elim
      | outgrown => exact hp.elim
    · rintro e B ⟨⟨v, rfl⟩, hkeep, O, hOw, hJ⟩
      have hwB : KeepsBut M w B := by
        refine ⟨hkeep.os.trans hb1.os, hkeep.tape.trans hb1.tape, hkeep.output.trans hb1.output, Nat.le_trans hb1.size hkeep.size, fun j hj hm => ?_⟩
        rw [hkeep.block j (by omega) (by rintro (h | h); exact hm h; omega), hb1.block j hj]
      have hszB : w.heap.size + 2 ≤ B.heap.size := by have := hkeep.size; omega
      have hEO : ∀ m, E O m → w.heap.size ≤ m := fun m h => by
        rcases hE1 O m h with h | rfl | rfl
        · have := hOw m h; omega
        · omega
        · omega
      rcases hJ with ⟨_, hi, hl, hd⟩ | ⟨_, c, hi, hl, hd⟩
      · refine ⟨none, _, by have := run_endLoop (P := P) hl (by rw [hrec]; simp); rw [hrec] at this; exact this, ?_⟩
        exact hdone _ _ ((hI _).keep hi ((KeepsBut.refl _ _).putObj (.inl (hEl _)) _)) hEO (hwB.putObj (.inr (by omega)) _) (by simpa [World.putObj] using hszB) ((World.putObj_heap_other (by omega)).trans hd)
      · refine ⟨some c, _, by have := run_endLoop (P := P) hl (by rw [hrec]; simp); rw [hrec] at this; exact this, ?_⟩
        exact wpIn_wide.2 (hstop c _ _ ((hIx _).keep hi ((KeepsBut.refl _ _).putObj (.inl (hEl _)) _)) hEO (hwB.putObj (.inr (by omega)) _) (by simpa [World.putObj] using hszB) ((World.putObj_heap_other (by omega)).trans hd))
end Go.Proofs.Ytajkgfeockcbpaa
