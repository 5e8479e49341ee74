/- A region whose last operations wait for all others: the others are walked once, in the order of the text; then the last ones. -/
import Derived.Test.YtgdidhbomdfcpaaLF
import Derived.Deep.Quiet
import Derived.OrdersHeld
import Derived.Deep.RegionHeld
import Derived.BigQuiet
import Derived.Test.YtgdidhbomdfcpaaF39
import Derived.Test.YtgdidhbomdfcpaaF37
import Derived.Test.YtgdidhbomdfcpaaF17
namespace Go.Proofs.Ytgdidhbomdfcpaa
open Go.RowKit Go.Maps

/-- The operation, but that it does nothing. -/
def idleOp (s : Oper) : Oper := { s with dst := none, op := .move (.const undef), guard := none }
def idled (l t : List Oper) : Array Oper := (l ++ t.map idleOp).toArray
/-- No guard of these operations lies behind them. -/
def guardB (l : List Oper) : Bool := l.all fun o => match o.guard with
  | none => true
  | some (j, _) => decide (j < l.length)
/-- Each operation waits for earlier ones only. -/
def lowB (ops : Array Oper) : Bool := (List.range ops.size).all fun i => match ops[i]? with
  | none => true
  | some o => o.after.all fun e => !Region.binds .any e || decide (e.on < i)
/-- From one on, each operation waits for all earlier ones. -/
def lateB (m : Nat) (ops : Array Oper) : Bool := (List.range ops.size).all fun k => decide (k < m) || (List.range k).all fun i => match ops[k]? with
  | none => true
  | some o => o.after.any fun e => Region.binds .any e && e.on == i

section
variable {P : Program} {C : World → Prop} {l t : List Oper} {listed : Array Bool}

theorem idled_size : (idled l t).size = (l ++ t).toArray.size := by simp [idled]
theorem idled_lt {i : Nat} (h : i < l.length) : (idled l t)[i]? = (l ++ t).toArray[i]? := by
  simp [idled, List.getElem?_append_left h]
theorem idled_ge {i : Nat} {o : Oper} (h : l.length ≤ i) (ho : (l ++ t).toArray[i]? = some o) : (idled l t)[i]? = some (idleOp o) := by
  simp only [List.getElem?_toArray, List.getElem?_append_right h] at ho
  simp [idled, List.getElem?_append_right h, ho]
theorem idled_after (i : Nat) : ((idled l t)[i]?).map (·.after) = ((l ++ t).toArray[i]?).map (·.after) := by
  by_cases h : i < l.length
  · rw [idled_lt h]
  · cases ho : (l ++ t).toArray[i]? with
    | none =>
      have h1 : (l ++ t).toArray.size ≤ i := Array.getElem?_eq_none_iff.1 ho
      rw [← idled_size] at h1
      rw [Array.getElem?_eq_none_iff.2 h1]
    | some o => rw [idled_ge (by omega) ho]; rfl
theorem ready_idled : Region.ready .any (idled l t) listed = Region.ready .any (l ++ t).toArray listed := by
  unfold Region.ready
  rw [idled_size]
  refine List.filter_congr fun i _ => ?_
  congr 1
  have h := idled_after (l := l) (t := t) i
  have key : ∀ x : Option Oper, (x.map fun o => o.after.all fun e => !Region.binds .any e || listed.getD e.on false) = (x.map (·.after)).map fun a => a.all fun e => !Region.binds .any e || listed.getD e.on false := fun x => by cases x <;> rfl
  rw [key, key, h]
theorem wanted_idled (hg : guardB l = true) {o : Oper} (ho : o ∈ l) (tmps : Array Value) : Region.wanted o (yielded (idled l t) tmps) = Region.wanted o (yielded (l ++ t).toArray tmps) := by
  have h := List.all_eq_true.1 hg o ho
  unfold Region.wanted
  cases hgd : o.guard with
  | none => rfl
  | some g =>
    obtain ⟨j, b⟩ := g
    rw [hgd] at h
    simp only [decide_eq_true_eq] at h
    simp only
    unfold yielded
    rw [idled_lt h]
theorem getD_size {i : Nat} (h : i < listed.size) : listed.getD i true = listed.getD i false := by simp [Array.getD, h]
theorem getD_lt {i : Nat} (h : listed.getD i true = false) : i < listed.size := by
  by_cases e : i < listed.size
  · exact e
  · simp [Array.getD, e] at h
theorem ready_some {ops : Array Oper} (hl : lowB ops = true) (hs : listed.size = ops.size) : ∀ k, listed.getD k true = false → ∃ i, i ∈ Region.ready .any ops listed := by
  intro k
  induction k using Nat.strongRecOn with
  | _ k ih =>
    intro hk
    have hlt := getD_lt hk
    have ho : ops[k]? = some ops[k] := Array.getElem?_eq_getElem (by omega)
    by_cases hall : ∀ e ∈ (ops[k]).after, Region.binds .any e = true → listed.getD e.on false = true
    · exact ⟨k, mem_ready.2 ⟨hk, _, ho, hall⟩⟩
    · obtain ⟨e, he⟩ := Classical.not_forall.1 hall
      obtain ⟨h1, he⟩ := Classical.not_imp.1 he
      obtain ⟨h2, h3⟩ := Classical.not_imp.1 he
      have h4 := List.all_eq_true.1 hl k (List.mem_range.2 (by omega))
      rw [ho] at h4
      simp only at h4
      have h5 := Array.all_eq_true_iff_forall_mem.1 h4 e h1
      rw [h2] at h5
      simp only [Bool.not_true, Bool.false_or, decide_eq_true_eq] at h5
      refine ih e.on h5 ?_
      rw [getD_size (by omega)]
      simpa using h3
theorem ready_late {ops : Array Oper} {m k i : Nat} (h : lateB m ops = true) (hk : k ∈ Region.ready .any ops listed) (hm : m ≤ k) (hi : i < k) : listed.getD i false = true := by
  obtain ⟨_, o, ho, hall⟩ := mem_ready.1 hk
  have hlt : k < ops.size := (Array.getElem?_eq_some_iff.1 ho).1
  have h1 := List.all_eq_true.1 h k (List.mem_range.2 hlt)
  rw [Bool.or_eq_true] at h1
  rcases h1 with h1 | h1
  · simp only [decide_eq_true_eq] at h1
    omega
  · have h2 := List.all_eq_true.1 h1 i (List.mem_range.2 hi)
    rw [ho] at h2
    obtain ⟨e, he, hb⟩ := Array.any_eq_true'.1 h2
    simp only [Bool.and_eq_true, beq_iff_eq] at hb
    rw [← hb.2]
    exact hall e he hb.1
/-- The first ones are listed, the others not. -/
structure Upto (k : Nat) (listed : Array Bool) : Prop where
  y : ∀ i, i < k → listed.getD i false = true
  n : ∀ i, k ≤ i → i < listed.size → listed.getD i true = false
theorem Upto.set {k : Nat} (h : Upto k listed) (hk : k < listed.size) : Upto (k + 1) (listed.setIfInBounds k true) := by
  constructor
  · intro i hi
    by_cases e : k = i
    · subst e
      simp [hk]
    · rw [getD_set_ne false e]; exact h.y i (by omega)
  · intro i hi hs
    rw [getD_set_ne true (by omega)]
    exact h.n i (by omega) (by simpa using hs)
/-- At the last operations: they alone may come up, each behind the one before. -/
theorem ready_last {ops : Array Oper} {m k i : Nat} (hl : lateB m ops = true) (hs : listed.size = ops.size) (hm : m ≤ k) (h : Upto k listed) (hi : i ∈ Region.ready .any ops listed) : i = k := by
  have h1 := (mem_ready.1 hi).1
  have hlt := getD_lt h1
  by_cases e : i < k
  · have h2 := h.y i e
    rw [getD_size hlt] at h1
    rw [h1] at h2
    cases h2
  · by_cases e2 : i = k
    · exact e2
    · have h2 := ready_late hl hi (by omega) (i := k) (by omega)
      have h3 := h.n k (Nat.le_refl _) (by omega)
      rw [getD_size (by omega)] at h3
      rw [h3] at h2
      cases h2
theorem last_walk {R : Act → Prop} {Q' : Exit → Act → World → Prop} (h1 : lowB (l ++ t).toArray = true) (h2 : lateB l.length (l ++ t).toArray = true) :
    ∀ (fuel : Nat) (r : List Oper) (k : Nat) (listed : Array Bool) (a a' : Act) (w : World), (∀ j, r[j]? = (l ++ t).toArray[k + j]?) → l.length ≤ k → k ≤ (l ++ t).toArray.size → listed.size = (l ++ t).toArray.size → Upto k listed →
      wpAnyQ P .any (idled l t) C R fuel listed a → (R a ∧ (wpList P (l ++ t).toArray Q' r a' w → wpAny P .any (l ++ t).toArray Q' fuel listed a' w))
  | 0, r, k, listed, a, a', w, hr, hk, hks, hs, hu, h => by
    refine ⟨h.2, fun hw => ⟨by rw [← ready_idled]; exact h.1, ?_⟩⟩
    cases r with
    | nil => exact hw
    | cons o r =>
      have ho : (l ++ t).toArray[k]? = some o := by simpa using (hr 0).symm
      have hlt := (Array.getElem?_eq_some_iff.1 ho).1
      obtain ⟨i, hi⟩ := ready_some h1 hs k (hu.n k (Nat.le_refl _) (by omega))
      rw [← ready_idled, h.1] at hi
      cases hi
  | fuel + 1, r, k, listed, a, a', w, hr, hk, hks, hs, hu, h => by
    cases r with
    | nil =>
      have hsz : (l ++ t).toArray.size ≤ k := by
        have := hr 0
        simp only [List.getElem?_nil, Nat.add_zero] at this
        exact Array.getElem?_eq_none_iff.1 this.symm
      have hre : Region.ready .any (l ++ t).toArray listed = [] := by
        rw [List.eq_nil_iff_forall_not_mem]
        intro i hi
        have := ready_last h2 hs hk hu hi
        have hlt := getD_lt (mem_ready.1 hi).1
        omega
      exact ⟨h.1 (by rw [ready_idled]; exact hre), fun hw => wpAny_done hre hw _⟩
    | cons o r =>
      have ho : (l ++ t).toArray[k]? = some o := by simpa using (hr 0).symm
      have hlt := (Array.getElem?_eq_some_iff.1 ho).1
      obtain ⟨i, hi⟩ := ready_some h1 hs k (hu.n k (Nat.le_refl _) (by omega))
      have hik := ready_last h2 hs hk hu hi
      subst hik
      have hq := h.2 i (by rw [ready_idled]; exact hi)
      unfold qOp at hq
      rw [idled_ge hk ho] at hq
      simp only at hq
      rw [if_pos (by rfl)] at hq
      obtain ⟨v, _, hq⟩ := hq
      have hr' : ∀ j, r[j]? = (l ++ t).toArray[i + 1 + j]? := fun j => by
        have := hr (j + 1)
        simpa [Nat.add_assoc, Nat.add_comm 1 j] using this
      have ih := fun a'' w'' => last_walk (Q' := Q') h1 h2 fuel r (i + 1) (listed.setIfInBounds i true) a a'' w'' hr' (by omega) (by omega) (by simpa using hs) (hu.set (by omega)) hq
      refine ⟨(ih a' w).1, fun hw => ⟨fun h0 => absurd hi (by rw [h0]; exact List.not_mem_nil), fun j hj => ?_⟩⟩
      have hjk := ready_last h2 hs hk hu hj
      subst hjk
      unfold wpOp
      rw [ho]
      simp only
      unfold wpList at hw
      split at hw
      · rename_i hwt
        rw [if_pos hwt]
        rcases hw with hw | hw
        · exact .inl (Oper.wp_mono (fun a'' w'' h'' => (ih a'' w'').2 h'') hw)
        · exact .inr hw
      · rename_i hwt
        rw [if_neg hwt]
        exact (ih _ _).2 hw
theorem first_walk {R : Act → Prop} {Q' : Exit → Act → World → Prop} (hg : guardB l = true) (h1 : lowB (l ++ t).toArray = true) (h2 : lateB l.length (l ++ t).toArray = true)
    (hR : ∀ a w, C w → R a → wpList P (l ++ t).toArray Q' t a w) :
    ∀ (fuel : Nat) (listed : Array Bool) (a : Act) (w : World), listed.size = (l ++ t).toArray.size → (∀ i, l.length ≤ i → i < listed.size → listed.getD i true = false) → C w →
      wpAnyQ P .any (idled l t) C R fuel listed a → wpAny P .any (l ++ t).toArray Q' fuel listed a w := by
  intro fuel
  have hlast : ∀ fuel (listed : Array Bool) (a : Act) (w : World), listed.size = (l ++ t).toArray.size → (∀ i, l.length ≤ i → i < listed.size → listed.getD i true = false) → (∀ i, i < l.length → listed.getD i false = true) → C w →
      wpAnyQ P .any (idled l t) C R fuel listed a → wpAny P .any (l ++ t).toArray Q' fuel listed a w := fun fuel listed a w hs hun hall hC h => by
    have := last_walk (Q' := Q') h1 h2 fuel t l.length listed a a w (fun j => by rw [List.getElem?_toArray, List.getElem?_append_right (by omega)]; simp) (Nat.le_refl _) (by simp) hs ⟨hall, hun⟩ h
    exact this.2 (hR a w hC this.1)
  induction fuel with
  | zero =>
    intro listed a w hs hun hC h
    by_cases hall : ∀ i, i < l.length → listed.getD i false = true
    · exact hlast 0 listed a w hs hun hall hC h
    · obtain ⟨i, hi⟩ := Classical.not_forall.1 hall
      obtain ⟨hi1, hi2⟩ := Classical.not_imp.1 hi
      have hsz : listed.size = l.length + t.length := by rw [hs]; simp
      obtain ⟨j, hj⟩ := ready_some h1 hs i (by rw [getD_size (by omega)]; simpa using hi2)
      rw [← ready_idled, h.1] at hj
      cases hj
  | succ fuel ih =>
    intro listed a w hs hun hC h
    by_cases hall : ∀ i, i < l.length → listed.getD i false = true
    · exact hlast _ listed a w hs hun hall hC h
    · obtain ⟨i, hi⟩ := Classical.not_forall.1 hall
      obtain ⟨hi1, hi2⟩ := Classical.not_imp.1 hi
      have hsz : listed.size = l.length + t.length := by rw [hs]; simp
      obtain ⟨j, hj⟩ := ready_some h1 hs i (by rw [getD_size (by omega)]; simpa using hi2)
      refine ⟨fun h0 => absurd hj (by rw [h0]; exact List.not_mem_nil), fun k hk => ?_⟩
      have hkl : k < l.length := by
        by_cases e : k < l.length
        · exact e
        · exact absurd (fun i hi => ready_late h2 hk (by omega) (by omega)) hall
      obtain ⟨_, o, ho, _⟩ := mem_ready.1 hk
      have hq := h.2 k (by rw [ready_idled]; exact hk)
      have hol : o ∈ l := by
        have : l[k]? = some o := by
          have := ho
          simp only [List.getElem?_toArray, List.getElem?_append_left hkl] at this
          exact this
        exact List.mem_of_getElem? this
      have hq2 : qOp P (l ++ t).toArray C k (wpAnyQ P .any (idled l t) C R fuel (listed.setIfInBounds k true)) a := by
        unfold qOp at hq ⊢
        rw [idled_lt hkl] at hq
        rw [ho] at hq ⊢
        simp only at hq ⊢
        rw [wanted_idled hg hol] at hq
        exact hq
      exact wpOp_of_qOp hC (fun a' w' hw' hh => ih (listed.setIfInBounds k true) a' w' (by simpa using hs) (fun i' hi1' hi2' => by
        rw [getD_set_ne true (by omega)]
        exact hun i' hi1' (by simpa using hi2')) hw' hh) hq2
theorem wpQuiet_app {ops ops' : Array Oper} {R : Act → Prop} (hw : ∀ o ∈ l, ∀ tmps, Region.wanted o (yielded ops' tmps) = Region.wanted o (yielded ops tmps)) : ∀ (r : List Oper) (_ : ∀ o ∈ r, o ∈ l) (a : Act), wpQuiet P ops C R r a → wpQuiet P ops' C R (r ++ t.map idleOp) a
  | [], _, a, h => by
    have key : ∀ (t : List Oper) (a : Act), R a → wpQuiet P ops' C R (t.map idleOp) a := by
      intro t
      induction t with
      | nil => exact fun a h => h
      | cons s t ih =>
        intro a h
        show if Region.wanted (idleOp s) (yielded ops' a.tmps) = true then (idleOp s).quiet P a C (wpQuiet P ops' C R (t.map idleOp)) else _
        rw [if_pos (by rfl)]
        exact ⟨undef, fun w _ => by unfold Oper.quietAt; rw [show (execOp a.eval (idleOp s)) = _ from rfl]; exact ⟨rfl, rfl⟩, ih a h⟩
    exact key t a h
  | o :: r, hr, a, h => by
    have h' : if Region.wanted o (yielded ops a.tmps) = true then o.quiet P a C (wpQuiet P ops C R r) else wpQuiet P ops C R r (a.put o.dst undef) := h
    show if Region.wanted o (yielded ops' a.tmps) = true then o.quiet P a C (wpQuiet P ops' C R (r ++ t.map idleOp)) else wpQuiet P ops' C R (r ++ t.map idleOp) (a.put o.dst undef)
    rw [hw o (hr o (by simp))]
    split at h'
    · rename_i e
      rw [if_pos e]
      exact Oper.quiet_mono (fun a' h'' => wpQuiet_app hw r (fun o' ho' => hr o' (by simp [ho'])) a' h'') h'
    · rename_i e
      rw [if_neg e]
      exact wpQuiet_app hw r (fun o' ho' => hr o' (by simp [ho'])) _ h'
/-- **A region whose last operations wait for all others**: the first ones are walked once, each of them quiet; behind them, in each world of the class, the last ones in their order. -/
theorem wp_region_last {id : Nat} {Q : Exit → Act → World → Prop} {a : Act} {w : World} (l t : List Oper) (hm : P.follows .mixedOrders = true) (hB : Region.lexB .any (idled l t) = true) (hg : guardB l = true) (h1 : lowB (l ++ t).toArray = true) (h2 : lateB l.length (l ++ t).toArray = true)
    (h : wpQuiet P (l ++ t).toArray (fun w' => ∃ x : Later w, w' = x.w) (fun a' => ∀ w', (∃ x : Later w, w' = x.w) → wpList P (l ++ t).toArray Q t a' w') l a) : (Code.region id (l ++ t).toArray true).wp P Q a w := by
  simp only [Region.lexB, Bool.and_eq_true] at hB
  refine wp_region_any hm ?_
  refine first_walk (C := fun w' => ∃ x : Later w, w' = x.w) (R := fun a' => ∀ w', (∃ x : Later w, w' = x.w) → wpList P (l ++ t).toArray Q t a' w') hg h1 h2 (fun a' w' hC hR => hR w' hC) _ _ _ _ (by simp) (fun i _ hi => by simp at hi; simp [hi]) ⟨⟨w.drew, (Below.refl _ _).drew⟩, rfl⟩ ?_
  have hq := wpQuiet_app (ops' := idled l t) (l := l) (t := t) (fun o ho tmps => wanted_idled hg ho tmps) l (fun o ho => ho) a h
  have := wpAnyQ_lex (C := fun w' => ∃ x : Later w, w' = x.w) (md := .any) hB.1 (l ++ t.map idleOp) 0 (Array.replicate (idled l t).size false) a (by simp [idled]) (by simpa [idled] using hB.2) hq
  simpa [idled] using this
/-- The same, the last operations counted. -/
theorem wp_region_tail {id : Nat} {Q : Exit → Act → World → Prop} {a : Act} {w : World} {L : List Oper} (m : Nat) (hm : P.follows .mixedOrders = true) (hB : Region.lexB .any (idled (L.take m) (L.drop m)) = true) (hg : guardB (L.take m) = true) (h1 : lowB L.toArray = true) (h2 : lateB m L.toArray = true) (hl : (L.take m).length = m)
    (h : wpQuiet P L.toArray (fun w' => ∃ x : Later w, w' = x.w) (fun a' => ∀ w', (∃ x : Later w, w' = x.w) → wpList P L.toArray Q (L.drop m) a' w') (L.take m) a) : (Code.region id L.toArray true).wp P Q a w := by
  have e := List.take_append_drop m L
  have key := wp_region_last (P := P) (id := id) (Q := Q) (a := a) (w := w) (L.take m) (L.drop m) hm hB hg (by rw [e]; exact h1) (by rw [e, hl]; exact h2) (by rw [e]; exact h)
  rw [e] at key
  exact key
end
end Go.Proofs.Ytgdidhbomdfcpaa
/- A region some of whose operations have come up already, under a predicate that holds throughout: the others are walked once, then the last ones, which wait for all. -/
namespace Go.Proofs.Ytgdidhbomdfcpaa
open Go.RowKit Go.Maps

/-- From one on, each operation waits for all earlier ones, but for those that have come up at the beginning. -/
def lateB0 (m : Nat) (ops : Array Oper) (listed0 : Array Bool) : Bool := (List.range ops.size).all fun k => decide (k < m) || (List.range k).all fun i => listed0.getD i false || match ops[k]? with
  | none => true
  | some o => o.after.any fun e => Region.binds .any e && e.on == i
/-- These may come up one after the other, each free of all others; then none is left. -/
def schedB (ops : Array Oper) : List Nat → Array Bool → Bool
  | [], listed => (Region.ready .any ops listed).isEmpty
  | i :: σ, listed => (Region.ready .any ops listed).contains i && Region.free .any ops listed i && schedB ops σ (listed.setIfInBounds i true)
/-- The walk of the last operations; what holds throughout holds behind each. -/
def wpListH (P : Program) (ops : Array Oper) (Q : Exit → Act → World → Prop) (S : World → Prop) : List Oper → Act → World → Prop
  | [], a, w => Q .normal a w
  | o :: rest, a, w => if Region.wanted o (yielded ops a.tmps) then o.wp P a w (fun a' w' => S w' ∧ wpListH P ops Q S rest a' w') Q else S w ∧ wpListH P ops Q S rest (a.put o.dst undef) w

section
variable {P : Program} {C S : World → Prop} {l t : List Oper} {listed listed0 : Array Bool}

theorem ready_late0 {ops : Array Oper} {m k i : Nat} (h : lateB0 m ops listed0 = true) (h0 : ∀ i, listed0.getD i false = true → listed.getD i false = true) (hk : k ∈ Region.ready .any ops listed) (hm : m ≤ k) (hi : i < k) : listed.getD i false = true := by
  obtain ⟨_, o, ho, hall⟩ := mem_ready.1 hk
  have hlt : k < ops.size := (Array.getElem?_eq_some_iff.1 ho).1
  have h1 := List.all_eq_true.1 h k (List.mem_range.2 hlt)
  rw [Bool.or_eq_true] at h1
  rcases h1 with h1 | h1
  · simp only [decide_eq_true_eq] at h1
    omega
  · have h2 := List.all_eq_true.1 h1 i (List.mem_range.2 hi)
    rw [Bool.or_eq_true] at h2
    rcases h2 with h2 | h2
    · exact h0 i h2
    · rw [ho] at h2
      obtain ⟨e, he, hb⟩ := Array.any_eq_true'.1 h2
      simp only [Bool.and_eq_true, beq_iff_eq] at hb
      rw [← hb.2]
      exact hall e he hb.1
theorem ready_last0 {ops : Array Oper} {m k i : Nat} (hl : lateB0 m ops listed0 = true) (h0 : ∀ i, listed0.getD i false = true → listed.getD i false = true) (hs : listed.size = ops.size) (hm : m ≤ k) (h : Upto k listed) (hi : i ∈ Region.ready .any ops listed) : i = k := by
  have h1 := (mem_ready.1 hi).1
  have hlt := getD_lt h1
  by_cases e : i < k
  · have h2 := h.y i e
    rw [getD_size hlt] at h1
    rw [h1] at h2
    cases h2
  · by_cases e2 : i = k
    · exact e2
    · have h2 := ready_late0 hl h0 hi (by omega) (i := k) (by omega)
      have h3 := h.n k (Nat.le_refl _) (by omega)
      rw [getD_size (by omega)] at h3
      rw [h3] at h2
      cases h2
theorem last_walkH {R : Act → Prop} {Q' : Exit → Act → World → Prop} (h1 : lowB (l ++ t).toArray = true) (h2 : lateB0 l.length (l ++ t).toArray listed0 = true) :
    ∀ (fuel : Nat) (r : List Oper) (k : Nat) (listed : Array Bool) (a a' : Act) (w : World), (∀ i, listed0.getD i false = true → listed.getD i false = true) → (∀ j, r[j]? = (l ++ t).toArray[k + j]?) → l.length ≤ k → k ≤ (l ++ t).toArray.size → listed.size = (l ++ t).toArray.size → Upto k listed →
      wpAnyQ P .any (idled l t) C R fuel listed a → (R a ∧ (wpListH P (l ++ t).toArray Q' S r a' w → wpAnyH P .any (l ++ t).toArray Q' S fuel listed a' w))
  | 0, r, k, listed, a, a', w, h0, hr, hk, hks, hs, hu, h => by
    refine ⟨h.2, fun hw => ⟨by rw [← ready_idled]; exact h.1, ?_⟩⟩
    cases r with
    | nil => exact hw
    | cons o r =>
      have ho : (l ++ t).toArray[k]? = some o := by simpa using (hr 0).symm
      have hlt := (Array.getElem?_eq_some_iff.1 ho).1
      obtain ⟨i, hi⟩ := ready_some h1 hs k (hu.n k (Nat.le_refl _) (by omega))
      rw [← ready_idled, h.1] at hi
      cases hi
  | fuel + 1, r, k, listed, a, a', w, h0, hr, hk, hks, hs, hu, h => by
    cases r with
    | nil =>
      have hsz : (l ++ t).toArray.size ≤ k := by
        have := hr 0
        simp only [List.getElem?_nil, Nat.add_zero] at this
        exact Array.getElem?_eq_none_iff.1 this.symm
      have hre : Region.ready .any (l ++ t).toArray listed = [] := by
        rw [List.eq_nil_iff_forall_not_mem]
        intro i hi
        have := ready_last0 h2 h0 hs hk hu hi
        have hlt := getD_lt (mem_ready.1 hi).1
        omega
      exact ⟨h.1 (by rw [ready_idled]; exact hre), fun hw => wpAnyH_done hre hw _⟩
    | cons o r =>
      have ho : (l ++ t).toArray[k]? = some o := by simpa using (hr 0).symm
      have hlt := (Array.getElem?_eq_some_iff.1 ho).1
      obtain ⟨i, hi⟩ := ready_some h1 hs k (hu.n k (Nat.le_refl _) (by omega))
      have hik := ready_last0 h2 h0 hs hk hu hi
      subst hik
      have hq := h.2 i (by rw [ready_idled]; exact hi)
      unfold qOp at hq
      rw [idled_ge hk ho] at hq
      simp only at hq
      rw [if_pos (by rfl)] at hq
      obtain ⟨v, _, hq⟩ := hq
      have hr' : ∀ j, r[j]? = (l ++ t).toArray[i + 1 + j]? := fun j => by
        have := hr (j + 1)
        simpa [Nat.add_assoc, Nat.add_comm 1 j] using this
      have ih := fun a'' w'' => last_walkH (Q' := Q') h1 h2 fuel r (i + 1) (listed.setIfInBounds i true) a a'' w'' (fun i' hi' => getD_set_true (h0 i' hi')) hr' (by omega) (by omega) (by simpa using hs) (hu.set (by omega)) hq
      refine ⟨(ih a' w).1, fun hw => ⟨fun h0 => absurd hi (by rw [h0]; exact List.not_mem_nil), fun j hj => ?_⟩⟩
      have hjk := ready_last0 h2 h0 hs hk hu hj
      subst hjk
      unfold wpOp
      rw [ho]
      simp only
      unfold wpListH at hw
      split at hw
      · rename_i hwt
        rw [if_pos hwt]
        exact .inl (Oper.wp_mono (fun a'' w'' h'' => ⟨h''.1, (ih a'' w'').2 h''.2⟩) hw)
      · rename_i hwt
        rw [if_neg hwt]
        exact ⟨hw.1, (ih _ _).2 hw.2⟩
theorem first_walkH {R : Act → Prop} {Q' : Exit → Act → World → Prop} (hg : guardB l = true) (h1 : lowB (l ++ t).toArray = true) (h2 : lateB0 l.length (l ++ t).toArray listed0 = true) (hCS : ∀ w, C w → S w)
    (hR : ∀ a w, C w → R a → wpListH P (l ++ t).toArray Q' S t a w) :
    ∀ (fuel : Nat) (listed : Array Bool) (a : Act) (w : World), (∀ i, listed0.getD i false = true → listed.getD i false = true) → listed.size = (l ++ t).toArray.size → (∀ i, l.length ≤ i → i < listed.size → listed.getD i true = false) → C w →
      wpAnyQ P .any (idled l t) C R fuel listed a → wpAnyH P .any (l ++ t).toArray Q' S fuel listed a w := by
  intro fuel
  have hlast : ∀ fuel (listed : Array Bool) (a : Act) (w : World), (∀ i, listed0.getD i false = true → listed.getD i false = true) → listed.size = (l ++ t).toArray.size → (∀ i, l.length ≤ i → i < listed.size → listed.getD i true = false) → (∀ i, i < l.length → listed.getD i false = true) → C w →
      wpAnyQ P .any (idled l t) C R fuel listed a → wpAnyH P .any (l ++ t).toArray Q' S fuel listed a w := fun fuel listed a w h0 hs hun hall hC h => by
    have := last_walkH (Q' := Q') (S := S) h1 h2 fuel t l.length listed a a w h0 (fun j => by rw [List.getElem?_toArray, List.getElem?_append_right (by omega)]; simp) (Nat.le_refl _) (by simp) hs ⟨hall, hun⟩ h
    exact this.2 (hR a w hC this.1)
  induction fuel with
  | zero =>
    intro listed a w h0 hs hun hC h
    by_cases hall : ∀ i, i < l.length → listed.getD i false = true
    · exact hlast 0 listed a w h0 hs hun hall hC h
    · obtain ⟨i, hi⟩ := Classical.not_forall.1 hall
      obtain ⟨hi1, hi2⟩ := Classical.not_imp.1 hi
      have hsz : listed.size = l.length + t.length := by rw [hs]; simp
      obtain ⟨j, hj⟩ := ready_some h1 hs i (by rw [getD_size (by omega)]; simpa using hi2)
      rw [← ready_idled, h.1] at hj
      cases hj
  | succ fuel ih =>
    intro listed a w h0 hs hun hC h
    by_cases hall : ∀ i, i < l.length → listed.getD i false = true
    · exact hlast _ listed a w h0 hs hun hall hC h
    · obtain ⟨i, hi⟩ := Classical.not_forall.1 hall
      obtain ⟨hi1, hi2⟩ := Classical.not_imp.1 hi
      have hsz : listed.size = l.length + t.length := by rw [hs]; simp
      obtain ⟨j, hj⟩ := ready_some h1 hs i (by rw [getD_size (by omega)]; simpa using hi2)
      refine ⟨fun h0 => absurd hj (by rw [h0]; exact List.not_mem_nil), fun k hk => ?_⟩
      have hkl : k < l.length := by
        by_cases e : k < l.length
        · exact e
        · exact absurd (fun i hi => ready_late0 h2 h0 hk (by omega) (by omega)) hall
      obtain ⟨_, o, ho, _⟩ := mem_ready.1 hk
      have hq := h.2 k (by rw [ready_idled]; exact hk)
      have hol : o ∈ l := by
        have : l[k]? = some o := by
          have := ho
          simp only [List.getElem?_toArray, List.getElem?_append_left hkl] at this
          exact this
        exact List.mem_of_getElem? this
      have hq2 : qOp P (l ++ t).toArray C k (wpAnyQ P .any (idled l t) C R fuel (listed.setIfInBounds k true)) a := by
        unfold qOp at hq ⊢
        rw [idled_lt hkl] at hq
        rw [ho] at hq ⊢
        simp only at hq ⊢
        rw [wanted_idled hg hol] at hq
        exact hq
      exact wpOp_of_qOp hC (fun a' w' hw' hh => ⟨hCS w' hw', ih (listed.setIfInBounds k true) a' w' (fun i' hi' => getD_set_true (h0 i' hi')) (by simpa using hs) (fun i' hi1' hi2' => by
        rw [getD_set_ne true (by omega)]
        exact hun i' hi1' (by simpa using hi2')) hw' hh⟩) hq2
theorem wpAnyQ_sched {ops : Array Oper} {Q : Act → Prop} (hs : Region.noSelect ops = true) : ∀ (σ : List Nat) (r : List Oper) (listed : Array Bool) (a : Act), r.map some = σ.map (ops[·]?) → schedB ops σ listed = true → wpQuiet P ops C Q r a → wpAnyQ P .any ops C Q σ.length listed a
  | [], r, listed, a, hr, hB, h => by
    have : r = [] := by simpa using hr
    subst this
    exact ⟨by simpa [schedB] using hB, h⟩
  | i :: σ, r, listed, a, hr, hB, h => by
    cases r with
    | nil => simp at hr
    | cons o r =>
      simp only [List.map_cons, List.cons.injEq] at hr
      have h0 : ops[i]? = some o := hr.1.symm
      simp only [schedB, Bool.and_eq_true] at hB
      obtain ⟨⟨hrd, hf⟩, hB'⟩ := hB
      have hst : qOp P ops C i (wpQuiet P ops C Q r) a := by unfold qOp; simp only [h0]; exact h
      obtain ⟨v, hy, hK⟩ := yieldsIn_of_qOp h0 hst
      exact wpAnyQ_first h0 (Region.noSelect_spec hs) σ.length listed a (Region.free_spec h0 hf) (by simpa using hrd) hy (wpAnyQ_sched hs σ r _ _ hr.2 hB' hK)
/-- **The rest of a region**: the first ones, but for those that have come up, are walked once; behind them the last ones. -/
theorem wpAnyH_rest {Q : Exit → Act → World → Prop} {a : Act} {w : World} {L : List Oper} (e m : Nat) (σ : List Nat) (hl : (L.take m).length = m) (hσ : ((L.take e) ++ (L.drop m).map idleOp).map some = σ.map ((idled (L.take m) (L.drop m))[·]?)) (hns : Region.noSelect (idled (L.take m) (L.drop m)) = true)
    (hB : schedB (idled (L.take m) (L.drop m)) σ listed0 = true) (hg : guardB (L.take m) = true) (h1 : lowB L.toArray = true) (h2 : lateB0 m L.toArray listed0 = true) (hsz : listed0.size = L.length) (hun : ((List.range L.length).all fun i => decide (i < m) || !listed0.getD i true) = true) (hem : e ≤ m)
    (hC : C w) (hCS : ∀ w, C w → S w)
    (h : wpQuiet P L.toArray C (fun a' => ∀ w', C w' → wpListH P L.toArray Q S (L.drop m) a' w') (L.take e) a) : wpAnyH P .any L.toArray Q S σ.length listed0 a w := by
  have eq := List.take_append_drop m L
  have hsub : ∀ o ∈ L.take e, o ∈ L.take m := fun o ho => by
    have : L.take e = (L.take m).take e := by rw [List.take_take, Nat.min_eq_left hem]
    rw [this] at ho
    exact List.mem_of_mem_take ho
  have hq := wpQuiet_app (P := P) (C := C) (ops := L.toArray) (ops' := idled (L.take m) (L.drop m)) (l := L.take m) (t := L.drop m) (fun o ho tmps => by
    have := wanted_idled (t := L.drop m) hg ho tmps
    rw [eq] at this
    exact this) (L.take e) hsub a h
  have hany := wpAnyQ_sched hns σ _ listed0 a hσ hB hq
  have key := first_walkH (P := P) (C := C) (S := S) (listed0 := listed0) (l := L.take m) (t := L.drop m) (R := fun a' => ∀ w', C w' → wpListH P L.toArray Q S (L.drop m) a' w') (Q' := Q) hg (by rw [eq]; exact h1) (by rw [eq, hl]; exact h2) hCS (fun a' w' hw' hR => by rw [eq]; exact hR w' hw') σ.length listed0 a w (fun i hi => hi) (by rw [eq]; simpa using hsz) (fun i hi hi2 => by
    have := List.all_eq_true.1 hun i (List.mem_range.2 (by omega))
    rw [hl] at hi
    rw [Bool.or_eq_true] at this
    rcases this with h | h
    · simp only [decide_eq_true_eq] at h; omega
    · simpa using h) hC hany
  rw [eq] at key
  exact key
end
section
variable {P : Program} {ops : Array Oper} {Q : Exit → Act → World → Prop} {S : World → Prop} {o : Oper} {rest : List Oper} {a : Act} {w : World}
theorem wpListH_want (hg : o.guard = none) (h : o.wp P a w (fun a' w' => S w' ∧ wpListH P ops Q S rest a' w') Q) : wpListH P ops Q S (o :: rest) a w := by
  unfold wpListH
  rw [if_pos (by unfold Region.wanted; rw [hg])]
  exact h
theorem wpListH_nil (h : Q .normal a w) : wpListH P ops Q S [] a w := h
theorem wp_assign_op {K : Act → World → Prop} (x : Operand) (ho : o.op = .assign x) (h : K (a.put o.dst (a.eval x)) w) : o.wp P a w K Q := by
  unfold Oper.wp
  rw [BigFrame.run_assign x ho]
  exact h
end
/-- An operation that may come up is taken first; its slot is named. -/
theorem wpAnyH_take_to {P : Program} {ops : Array Oper} {Q : Exit → Act → World → Prop} {S : World → Prop} {oi : Oper} (i : Nat) (d : Nat) (v : Value) {fuel : Nat} {listed : Array Bool} {a : Act} {w : World} (hi : ops[i]? = some oi) (hd : oi.dst = some d)
    (hs : Region.noSelect ops = true) (hf : Region.free .any ops listed i = true) (hr : (Region.ready .any ops listed).contains i = true)
    (hQ : ∀ c a w, Q (.panic c) (a.put oi.dst v) w → Q (.panic c) a w) (hy : YieldsIf P ops S oi v a) (hS : S w)
    (h : wpAnyH P .any ops Q S fuel (listed.setIfInBounds i true) { a with tmps := a.tmps.setIfInBounds d v } w) : wpAnyH P .any ops Q S (fuel + 1) listed a w :=
  wpAnyH_take hi hs hf hr hQ hy hS (by rw [hd]; exact h)
end Go.Proofs.Ytgdidhbomdfcpaa
/- Layer 5, in plain lists: sums of parts. -/
namespace Go.Proofs.Ytgdidhbomdfcpaa
open Go.RowKit Go.Maps

theorem lo_join (b : Bf) {x y z : Nat} (h1 : x ≤ y) (h2 : y ≤ z) : loB b x y + loB b y z = loB b x z := by unfold loB; rw [← sumF_append, part_join h1 h2]
theorem hi_join (b : Bf) {x y z : Nat} (h1 : x ≤ y) (h2 : y ≤ z) : hiB b x y + hiB b y z = hiB b x z := by unfold hiB; rw [← sumF_append, part_join h1 h2]
theorem lo_self (b : Bf) (x : Nat) : loB b x x = 0 := by unfold loB; rw [part_self]; rfl
theorem hi_self (b : Bf) (x : Nat) : hiB b x x = 0 := by unfold hiB; rw [part_self]; rfl
theorem lo_succ {b : Bf} {x y : Nat} (h : x ≤ y) (hy : y < b.hs.length) : loB b x (y + 1) = loB b x y + b.hs[y].lo := by unfold loB; rw [part_succ h hy, sumF_snoc]
theorem hi_succ {b : Bf} {x y : Nat} (h : x ≤ y) (hy : y < b.hs.length) : hiB b x (y + 1) = hiB b x y + b.hs[y].hi := by unfold hiB; rw [part_succ h hy, sumF_snoc]
theorem part_range {b : Bf} (hok : BfOk b) (x y : Nat) : (0 ≤ loB b x y ∧ loB b x y ≤ 1600) ∧ 0 ≤ hiB b x y ∧ hiB b x y ≤ 1600 := by
  have h8 := hok.n8
  have hl : (partL b.hs x y).length ≤ b.hs.length := by unfold partL; simp; omega
  have h1 := sumF_range (f := Hd.lo) (hs := partL b.hs x y) (B := 200) (by omega) (fun h hh => by have := hok.h h (partL_mem hh); have := this.l0; have := (hok.h h (partL_mem hh)).l1; have := (hok.h h (partL_mem hh)).l2; omega)
  have h2 := sumF_range (f := Hd.hi) (hs := partL b.hs x y) (B := 200) (by omega) (fun h hh => by have := hok.h h (partL_mem hh); have := this.l0; have := (hok.h h (partL_mem hh)).l1; have := (hok.h h (partL_mem hh)).l2; omega)
  unfold loB hiB
  omega
theorem below_setRow' {n : Nat} {w W : World} (h : Below n w W) {g : Nat} (hg : n ≤ g) (cs : Array Value) : Below n w (W.setRow g cs) := below_setRow h hg cs
/-- The sums of a plan's boxes. -/
theorem plan_sums {b : Bf} {l : List Int} (hok : BfOk b) (hp : planB b l = true) {k : Nat} (hk : k < l.length) :
    ∃ X Y : Nat, bgn l k = X ∧ at0 l k = Y ∧ X < Y ∧ Y ≤ b.hs.length ∧ bgn l (k + 1) = Y ∧ loB b 0 X + loB b X Y = loB b 0 Y ∧ hiB b 0 X + hiB b X Y = hiB b 0 Y := by
  have hbx := planTo_all (b := b) (l := l) (k := l.length) (by unfold planB at hp; rw [Bool.and_eq_true] at hp; exact hp.1) (i := k) hk
  unfold boxI boxB at hbx
  simp only [decide_eq_true_eq] at hbx
  refine ⟨(bgn l k).toNat, (at0 l k).toNat, by omega, by omega, by omega, by omega, by rw [bgn_succ]; omega, lo_join b (by omega) (by omega), hi_join b (by omega) (by omega)⟩
end Go.Proofs.Ytgdidhbomdfcpaa
/- The law FillSums: sums of parts are together the whole's. -/
namespace Go.Proofs.Ytgdidhbomdfcpaa
open Go.RowKit Go.Maps
attribute [local go_sem] Oper.semAt_some

/-- The numbers that are drawn. -/
theorem sums_drawn {n : Nat} (h : n ≤ 8) (x0 x1 x2 : Int) : ∃ f t m : Nat, f ≤ m ∧ m ≤ t ∧ t ≤ n ∧ spin x0 ((n : Int) + 1) = f ∧ spin x1 ((n : Int) - f + 1) = (t : Int) - f ∧ spin x2 ((t : Int) - f + 1) = (m : Int) - f := by
  have h0 := spin_range x0 ((n : Int) + 1) (by omega)
  obtain ⟨f, hf⟩ : ∃ f : Nat, spin x0 ((n : Int) + 1) = f := ⟨(spin x0 ((n : Int) + 1)).toNat, by omega⟩
  rw [hf] at h0
  have h1 := spin_range x1 ((n : Int) - f + 1) (by omega)
  obtain ⟨t, ht⟩ : ∃ t : Nat, spin x1 ((n : Int) - f + 1) = (t : Int) - f := ⟨(spin x1 ((n : Int) - f + 1) + f).toNat, by omega⟩
  rw [ht] at h1
  have h2 := spin_range x2 ((t : Int) - f + 1) (by omega)
  obtain ⟨m, hm⟩ : ∃ m : Nat, spin x2 ((t : Int) - f + 1) = (m : Int) - f := ⟨(spin x2 ((t : Int) - f + 1) + f).toNat, by omega⟩
  rw [hm] at h2
  exact ⟨f, t, m, by omega, by omega, by omega, hf, ht, hm⟩
/-- Sum of a part, by numbers that are known. -/
theorem sum_call {b : Bf} {x y : Nat} {lo hi : Int} (hb : bookB b = true) (hx : x ≤ y) (hy : y ≤ b.hs.length) (hl : loB b x y = lo) (hh : hiB b x y = hi) (p : Option Addr) (c : Nat) (w : World) (hB : BfAt w p c b) :
    Calls Try.prog 15 #[.agg (bfA b p c), .int .i64 (x : Int), .int .i64 (y : Int)] w fun e w' => e = .returned (.tuple #[.agg #[.int .i64 lo, .int .i64 hi], .int .i64 0]) ∧ Below w.heap.size w w' := by
  subst hl hh
  exact Sum_yes b p c x y w hB hb hx hy
theorem spin_call {n m r : Int} (hm : I64 m) (hr : spin n m = r) (w : World) : Calls Try.prog 48 #[.int .i64 n, .int .i64 m] w fun e w' => e = .returned (.int .i64 r) ∧ w = w' := by
  subst hr
  exact Spin_any n m w hm

set_option maxRecDepth 100000 in
set_option maxHeartbeats 3200000 in
theorem FillSums_any (b : Bf) (p : Option Addr) (c : Nat) (x0 x1 x2 : Int) (ps : Option Addr) (cs : Nat) (ss : List Int) (w : World) (hB : BfAt w p c b) (hs : IntsAt w ps ss) (hn : ss.length ≤ maxLen) :
    Calls Try.prog 12 #[.agg (bfA b p c), .agg #[.int .i64 x0, .int .i64 x1, .int .i64 x2], .slice ps ss.length cs] w fun e w' => e = .returned (.bool true) ∧ Below w.heap.size w w' := by
  obtain ⟨W0, hW0⟩ : ∃ W, W = (w.alloc (.cells (bfA b p c) 24)).alloc (.cells #[.int .i64 x0, .int .i64 x1, .int .i64 x2] 25) := ⟨_, rfl⟩
  have HW0 := Lib.hid hW0
  have HE := Lib.hid (show Below w.heap.size w W0 by rw [hW0]; exact below_alloc2 _ _ _)
  have HR := Lib.hid (show Row W0 w.heap.size (bfA b p c) 24 by rw [hW0]; exact (Row.new w _ _).alloc _)
  have HN3 := Lib.hid (show Row W0 (w.heap.size + 1) #[.int .i64 x0, .int .i64 x1, .int .i64 x2] 25 by rw [hW0]; exact Row.new1 w _ _ _)
  have HB := Lib.hid (hB.below HE.out)
  have HS := Lib.hid (hs.below HE.out)
  have HN := Lib.hid hn
  have g0 := HR.out.cell 0 (v := .int .i64 b.pr) rfl
  have g1 := HR.out.cell 1 (v := .int .i64 b.le) rfl
  have g2 := HR.out.cell 2 (v := .int .i64 b.mo) rfl
  have g3 := HR.out.cell 3 (v := .int .i64 b.gr) rfl
  have g4 := HR.out.cell 4 (v := .slice p b.hs.length c) rfl
  have n0 := HN3.out.cell 0 (v := .int .i64 x0) rfl
  have n1 := HN3.out.cell 1 (v := .int .i64 x1) rfl
  have n2 := HN3.out.cell 2 (v := .int .i64 x2) rfl
  clear hW0 hB hs hn
  obtain ⟨z0, hz0⟩ : ∃ z : Later W0, W0 = z.w := ⟨⟨W0, Below.refl _ _⟩, rfl⟩
  have HZ0 := Lib.hid hz0
  clear hz0
  cases hb : bookB b
  · have HK := Lib.hid (fun w' (k : From W0 w') => sound_no b p c w' (HB.out.below k.b) hb)
    clear hb
    go_enter Try.func12, Try.ntmps12
    go_wp2_with fail
    rw [← HW0.out, HZ0.out]
    refine (HK.out _ z0.fr).mono ?_
    rintro e u ⟨rfl, hbu⟩
    obtain ⟨z1, hz⟩ := z0.on hbu
    subst hz
    clear hbu
    go_wp2_with fail
    refine (filled_any _).mono ?_
    rintro e u ⟨rfl, hbu⟩
    obtain ⟨z2, hz⟩ := z1.on hbu
    subst hz
    clear hbu
    go_wp2_with fail
    go_ret
    exact ⟨rfl, z2.base HE.out⟩
  · have hok := bookB_iff.1 hb
    have hn8 := hok.n8
    have HOK := Lib.hid hok
    have HBO := Lib.hid hb
    obtain ⟨f, t, m, hfm, hmt, htn, hsp0, hsp1, hsp2⟩ := sums_drawn hn8 x0 x1 x2
    have HK := Lib.hid (fun w' (k : From W0 w') => sound_yes b p c w' (HB.out.below k.b) hb)
    have HSP0 := Lib.hid (fun w' => spin_call (I64_of (by omega) (by omega)) hsp0 w')
    have HSP1 := Lib.hid (fun w' => spin_call (I64_of (by omega) (by omega)) hsp1 w')
    have HSP2 := Lib.hid (fun w' => spin_call (I64_of (by omega) (by omega)) hsp2 w')
    have HDR := Lib.hid (fun w' (k : From W0 w') => drawn_any b p c ps cs ss w' HOK.out (HS.out.below k.b) HN.out)
    obtain ⟨L1, hL1⟩ : ∃ x, loB b f t = x := ⟨_, rfl⟩
    obtain ⟨H1, hH1⟩ : ∃ x, hiB b f t = x := ⟨_, rfl⟩
    obtain ⟨L2, hL2⟩ : ∃ x, loB b f m = x := ⟨_, rfl⟩
    obtain ⟨H2, hH2⟩ : ∃ x, hiB b f m = x := ⟨_, rfl⟩
    obtain ⟨L3, hL3⟩ : ∃ x, loB b m t = x := ⟨_, rfl⟩
    obtain ⟨H3, hH3⟩ : ∃ x, hiB b m t = x := ⟨_, rfl⟩
    have hLL : L2 + L3 = L1 := by rw [← hL1, ← hL2, ← hL3]; exact lo_join b hfm hmt
    have hHH : H2 + H3 = H1 := by rw [← hH1, ← hH2, ← hH3]; exact hi_join b hfm hmt
    have hr1 := part_range hok f t
    rw [hL1, hH1] at hr1
    have HS1 := Lib.hid (fun w' (k : From W0 w') => sum_call hb (Nat.le_trans hfm hmt) htn hL1 hH1 p c w' (HB.out.below k.b))
    have HS2 := Lib.hid (fun w' (k : From W0 w') => sum_call hb hfm (Nat.le_trans hmt htn) hL2 hH2 p c w' (HB.out.below k.b))
    have HS3 := Lib.hid (fun w' (k : From W0 w') => sum_call hb hmt htn hL3 hH3 p c w' (HB.out.below k.b))
    have HL1 := Lib.hid hL1
    have HH1 := Lib.hid hH1
    have e0 : IntKind.i64.wrap ((b.hs.length : Int) + 1) = (b.hs.length : Int) + 1 := IntWalk.i64_in _ (by omega)
    have e1 : IntKind.i64.wrap ((b.hs.length : Int) - (f : Int)) = (b.hs.length : Int) - (f : Int) := IntWalk.i64_in _ (by omega)
    have e2 : IntKind.i64.wrap ((b.hs.length : Int) - (f : Int) + 1) = (b.hs.length : Int) - (f : Int) + 1 := IntWalk.i64_in _ (by omega)
    have e3 : IntKind.i64.wrap ((f : Int) + ((t : Int) - (f : Int))) = (t : Int) := by rw [IntWalk.i64_in _ (by omega)]; omega
    have e4 : IntKind.i64.wrap ((t : Int) - (f : Int)) = (t : Int) - (f : Int) := IntWalk.i64_in _ (by omega)
    have e5 : IntKind.i64.wrap ((t : Int) - (f : Int) + 1) = (t : Int) - (f : Int) + 1 := IntWalk.i64_in _ (by omega)
    have e6 : IntKind.i64.wrap ((f : Int) + ((m : Int) - (f : Int))) = (m : Int) := by rw [IntWalk.i64_in _ (by omega)]; omega
    have hdl : ∀ i (h : i < b.hs.length), HdOk b.hs[i] := fun i h => hok.h _ (List.getElem_mem h)
    have HDL := Lib.hid hdl
    clear hb hok hsp0 hsp1 hsp2 hL1 hL2 hL3 hH1 hH2 hH3 hdl
    go_enter Try.func12, Try.ntmps12
    go_wp2_with fail
    rw [← HW0.out, HZ0.out]
    refine (HK.out _ z0.fr).mono ?_
    rintro e u ⟨rfl, hbu⟩
    obtain ⟨z1, hz⟩ := z0.on hbu
    subst hz
    clear hbu
    go_wp2_with fail
    refine (HSP0.out _).mono ?_
    rintro e u ⟨rfl, hu⟩
    subst hu
    go_wp2_with fail
    refine (HSP1.out _).mono ?_
    rintro e u ⟨rfl, hu⟩
    subst hu
    go_wp2_with fail
    refine (HSP2.out _).mono ?_
    rintro e u ⟨rfl, hu⟩
    subst hu
    go_wp2_with fail
    refine (HS1.out _ z1.fr).mono ?_
    rintro e u ⟨rfl, hbu⟩
    obtain ⟨z2, hz⟩ := z1.on hbu
    subst hz
    clear hbu
    go_upto_region 8 with (first | (refine store_new rfl 27 _ _ rfl #[.int .i64 L1, .int .i64 H1] #[.int .i64 0, .int .i64 0] 27 rfl rfl (by kernel_rfl) rfl (by simp [Value.oneCell']) ?_))
    obtain ⟨WN, hWN⟩ : ∃ u, z2.w.alloc (.cells #[.int .i64 L1, .int .i64 H1] 27) = u := ⟨_, rfl⟩
    have R1 := Lib.hid (show Row WN z2.w.heap.size #[.int .i64 L1, .int .i64 H1] 27 by rw [← hWN]; exact Row.new z2.w _ _)
    have hbu : Below z2.w.heap.size z2.w WN := by rw [← hWN]; exact below_alloc _ _
    rw [hWN]
    clear hWN
    obtain ⟨B1, hB1⟩ : ∃ x, z2.w.heap.size = x := ⟨_, rfl⟩
    rw [hB1] at R1 ⊢
    have hsB1 := z2.b.size
    rw [hB1] at hsB1
    clear hB1
    obtain ⟨z3, hz⟩ := z2.on hbu
    subst hz
    clear hbu
    go_wp2_with fail
    refine (HS2.out _ z3.fr).mono ?_
    rintro e u ⟨rfl, hbu⟩
    have R1 := Lib.hid (R1.out.below hbu R1.out.lt)
    obtain ⟨z4, hz⟩ := z3.on hbu
    subst hz
    clear hbu
    go_upto_region 9 with (first | (refine store_new rfl 27 _ _ rfl #[.int .i64 L2, .int .i64 H2] #[.int .i64 0, .int .i64 0] 27 rfl rfl (by kernel_rfl) rfl (by simp [Value.oneCell']) ?_))
    obtain ⟨WN, hWN⟩ : ∃ u, z4.w.alloc (.cells #[.int .i64 L2, .int .i64 H2] 27) = u := ⟨_, rfl⟩
    have R2 := Lib.hid (show Row WN z4.w.heap.size #[.int .i64 L2, .int .i64 H2] 27 by rw [← hWN]; exact Row.new z4.w _ _)
    have hbu : Below z4.w.heap.size z4.w WN := by rw [← hWN]; exact below_alloc _ _
    rw [hWN]
    clear hWN
    have R1 := Lib.hid (R1.out.below hbu R1.out.lt)
    obtain ⟨B2, hB2⟩ : ∃ x, z4.w.heap.size = x := ⟨_, rfl⟩
    rw [hB2] at R2 ⊢
    have hsB2 := z4.b.size
    rw [hB2] at hsB2
    clear hB2
    obtain ⟨z5, hz⟩ := z4.on hbu
    subst hz
    clear hbu
    go_wp2_with fail
    refine (HS3.out _ z5.fr).mono ?_
    rintro e u ⟨rfl, hbu⟩
    have R1 := Lib.hid (R1.out.below hbu R1.out.lt)
    have R2 := Lib.hid (R2.out.below hbu R2.out.lt)
    obtain ⟨z6, hz⟩ := z5.on hbu
    subst hz
    clear hbu
    go_upto_region 10 with (first | (refine store_new rfl 27 _ _ rfl #[.int .i64 L3, .int .i64 H3] #[.int .i64 0, .int .i64 0] 27 rfl rfl (by kernel_rfl) rfl (by simp [Value.oneCell']) ?_))
    obtain ⟨WN, hWN⟩ : ∃ u, z6.w.alloc (.cells #[.int .i64 L3, .int .i64 H3] 27) = u := ⟨_, rfl⟩
    have R3 := Lib.hid (show Row WN z6.w.heap.size #[.int .i64 L3, .int .i64 H3] 27 by rw [← hWN]; exact Row.new z6.w _ _)
    have hbu : Below z6.w.heap.size z6.w WN := by rw [← hWN]; exact below_alloc _ _
    rw [hWN]
    clear hWN
    have R1 := Lib.hid (R1.out.below hbu R1.out.lt)
    have R2 := Lib.hid (R2.out.below hbu R2.out.lt)
    obtain ⟨B3, hB3⟩ : ∃ x, z6.w.heap.size = x := ⟨_, rfl⟩
    rw [hB3] at R3 ⊢
    have hsB3 := z6.b.size
    rw [hB3] at hsB3
    clear hB3
    obtain ⟨z7, hz⟩ := z6.on hbu
    subst hz
    clear hbu
    go_wp2_with fail
    refine (Only_any _ _).mono ?_
    rintro e u ⟨rfl, hbu⟩
    have R1 := Lib.hid (R1.out.below hbu R1.out.lt)
    have R2 := Lib.hid (R2.out.below hbu R2.out.lt)
    have R3 := Lib.hid (R3.out.below hbu R3.out.lt)
    obtain ⟨z8, hz⟩ := z7.on hbu
    subst hz
    clear hbu
    obtain ⟨Z, hZ⟩ : ∃ u, z8.w = u := ⟨_, rfl⟩
    have KZ := Lib.hid (show From W0 Z by rw [← hZ]; exact z8.fr)
    rw [hZ] at R1 R2 R3 ⊢
    clear hZ HK HSP0 HSP1 HSP2 HS1 HS2 HS3 e0 e1 e2 e3 e4 e5 e6
    go_upto_region 11 with (first | (refine store_new rfl 27 _ _ rfl #[.int .i64 0, .int .i64 0] #[.int .i64 0, .int .i64 0] 27 rfl rfl (by kernel_rfl) rfl (by simp [Value.oneCell']) ?_))
    obtain ⟨ZA, hZA⟩ : ∃ u, Z.alloc (.cells #[.int .i64 0, .int .i64 0] 27) = u := ⟨_, rfl⟩
    have RW := Lib.hid (show Row ZA Z.heap.size #[.int .i64 0, .int .i64 0] 27 by rw [← hZA]; exact Row.new Z _ _)
    have KA := Lib.hid (show Below Z.heap.size Z ZA by rw [← hZA]; exact below_alloc _ _)
    rw [hZA]
    clear hZA
    obtain ⟨G, hG⟩ : ∃ x, Z.heap.size = x := ⟨_, rfl⟩
    have HG := Lib.hid hG
    rw [hG] at RW ⊢
    have gz0 := KZ.out.cell g0
    have gz1 := KZ.out.cell g1
    have gz2 := KZ.out.cell g2
    have gz3 := KZ.out.cell g3
    have gz4 := KZ.out.cell g4
    have HHZ := Lib.hid (HB.out.h.below KZ.out.b)
    clear g0 g1 g2 g3 g4 n0 n1 n2 hG
    obtain ⟨x0', hx0⟩ := later_of KA.out
    subst hx0
    go_wp2_with fail
    go_loopw [18] (fun i wr => ∃ (k : Nat) (x : Later Z), f ≤ k ∧ k ≤ t ∧ i = .int .i64 (k : Int) ∧ Row x.w G #[.int .i64 (loB b f k), .int .i64 (hiB b f k)] 27 ∧ wr = x.w) (fun i _ => t - (intOf i).toNat)
    case atStart => exact ⟨f, x0', Nat.le_refl _, by omega, rfl, by rw [lo_self, hi_self]; exact RW.out, rfl⟩
    case round =>
      obtain ⟨k, x, hfk, hkt, rfl, hrow, rfl⟩ := hrel
      have HRW := Lib.hid hrow
      clear hrow
      by_cases hlt : k < t
      · have hkn : k < b.hs.length := by omega
        obtain ⟨bb, o, rfl, c0, c1⟩ := HHZ.out k hkn
        have hhd := HDL.out k hkn
        have hr2 := part_range HOK.out f k
        have HLN := Lib.hid (lo_succ hfk hkn)
        have HHN := Lib.hid (hi_succ hfk hkn)
        obtain ⟨lw, hlw⟩ : ∃ x, loB b f k = x := ⟨_, rfl⟩
        obtain ⟨hw, hhw⟩ : ∃ x, hiB b f k = x := ⟨_, rfl⟩
        rw [hlw] at HLN HRW hr2
        rw [hhw] at HHN HRW hr2
        have q1 := hhd.l0
        have q2 := hhd.l1
        have q3 := hhd.l2
        obtain ⟨lo, hlo⟩ : ∃ x, b.hs[k].lo = x := ⟨_, rfl⟩
        obtain ⟨hi, hhi⟩ : ∃ x, b.hs[k].hi = x := ⟨_, rfl⟩
        rw [hlo] at HLN c0 q1 q2
        rw [hhi] at HHN c1 q2 q3
        clear hlo hhi hlw hhw hhd
        have w0 := HRW.out.cell 0 (v := .int .i64 lw) rfl
        have w1 := HRW.out.cell 1 (v := .int .i64 hw) rfl
        have i1 : (0 : Int) ≤ (k : Int) := by omega
        have i2 : (k : Int) < (b.hs.length : Int) := by omega
        have i3 : (k : Int) < (t : Int) := by omega
        have e1 : IntKind.i64.wrap (lw + lo) = lw + lo := IntWalk.i64_in _ (by omega)
        have e2 : IntKind.i64.wrap (hw + hi) = hw + hi := IntWalk.i64_in _ (by omega)
        go_upto_region 14 with (fail)
        refine wp_region_tail 19 (by kernel_rfl) (by kernel_rfl) (by kernel_rfl) (by kernel_rfl) (by kernel_rfl) (by rfl) ?_
        simp only [List.take_succ_cons, List.take_zero, List.drop_succ_cons, List.drop_zero]
        repeat (go_big_quiet_step (first
          | (go_at_call 53; with_reducible exact Calls.later_of (Sp_any _ _ _))))
        refine wpQuiet_nil ?_
        intro _ hw'
        obtain ⟨y, hw''⟩ := hw'
        subst hw''
        have RY := Lib.hid (HRW.out.below y.b HRW.out.lt)
        refine store_row rfl 27 _ _ rfl G #[.int .i64 (lw + lo), .int .i64 (hw + hi)] #[.int .i64 lw, .int .i64 hw] 27 rfl rfl RY.out (by kernel_rfl) rfl (by simp [Value.oneCell']) ?_
        have RN := Lib.hid (RY.out.setRow #[.int .i64 (lw + lo), .int .i64 (hw + hi)])
        obtain ⟨x2, hx2⟩ := later_of (below_setRow' (x.b.trans (y.b.mono x.b.size)) (g := G) (by rw [HG.out]; exact Nat.le_refl _) #[.int .i64 (lw + lo), .int .i64 (hw + hi)])
        rw [hx2] at RN ⊢
        clear hx2 e1 e2 w0 w1
        go_wp2_with fail
        go_roundw
        case rel => exact ⟨k + 1, x2, by omega, by omega, by go_num, by rw [HLN.out, HHN.out]; exact RN.out, rfl⟩
        case measure => simp [intOf]; omega
      · obtain rfl : k = t := by omega
        rw [HL1.out, HH1.out] at HRW
        have w0 := HRW.out.cell 0 (v := .int .i64 L1) rfl
        have w1 := HRW.out.cell 1 (v := .int .i64 H1) rfl
        have r10 := R1.out.cell 0 (v := .int .i64 L1) rfl
        have r11 := R1.out.cell 1 (v := .int .i64 H1) rfl
        have r20 := R2.out.cell 0 (v := .int .i64 L2) rfl
        have r21 := R2.out.cell 1 (v := .int .i64 H2) rfl
        have r30 := R3.out.cell 0 (v := .int .i64 L3) rfl
        have r31 := R3.out.cell 1 (v := .int .i64 H3) rfl
        have e7 : IntKind.i64.wrap (L2 + L3) = L1 := by rw [IntWalk.i64_in _ (by omega)]; exact hLL
        have e8 : IntKind.i64.wrap (H2 + H3) = H1 := by rw [IntWalk.i64_in _ (by omega)]; exact hHH
        go_upto_region 15 with (fail)
        refine wp_region_later (by kernel_rfl) (by kernel_rfl) ?_
        repeat (go_big_quiet_step (first
          | (go_at_call 53; with_reducible exact Calls.later_of (Sp_any _ _ _))))
        refine wpQuiet_nil ?_
        intro _ hw'
        obtain ⟨y, hw''⟩ := hw'
        subst hw''
        obtain ⟨x2, hx2⟩ := x.up y
        rw [hx2]
        clear hx2 w0 w1 r10 r11 r20 r21 r30 r31 e7 e8 HRW
        go_wp2_with fail
        refine (HDR.out _ (KZ.out.trans x2.fr)).mono ?_
        rintro e u ⟨l, ql, cl, rfl, hil, hpq, hbu⟩
        have HQ := Lib.hid hil
        have HPQ := Lib.hid hpq
        have hll := plan_len hpq
        obtain ⟨x3, hz⟩ := x2.on hbu
        subst hz
        clear hbu hil hpq HDR
        go_wp2_with fail
        refine (Only_any _ _).mono ?_
        rintro e u ⟨rfl, hbu⟩
        have HQ := Lib.hid (HQ.out.below hbu)
        obtain ⟨x4, hz⟩ := x3.on hbu
        subst hz
        clear hbu
        obtain ⟨Y, hY⟩ : ∃ u, x4.w = u := ⟨_, rfl⟩
        have KY := Lib.hid (show From Z Y by rw [← hY]; exact x4.fr)
        rw [hY] at HQ ⊢
        clear hY
        go_upto_region 19 with (first | (refine store_new rfl 27 _ _ rfl #[.int .i64 0, .int .i64 0] #[.int .i64 0, .int .i64 0] 27 rfl rfl (by kernel_rfl) rfl (by simp [Value.oneCell']) ?_))
        obtain ⟨YA, hYA⟩ : ∃ u, Y.alloc (.cells #[.int .i64 0, .int .i64 0] 27) = u := ⟨_, rfl⟩
        have RV := Lib.hid (show Row YA Y.heap.size #[.int .i64 0, .int .i64 0] 27 by rw [← hYA]; exact Row.new Y _ _)
        have KA2 := Lib.hid (show Below Y.heap.size Y YA by rw [← hYA]; exact below_alloc _ _)
        rw [hYA]
        clear hYA
        obtain ⟨G2, hG2⟩ : ∃ x, Y.heap.size = x := ⟨_, rfl⟩
        have HG2 := Lib.hid hG2
        rw [hG2] at RV ⊢
        have gy0 := KY.out.cell gz0
        have gy1 := KY.out.cell gz1
        have gy2 := KY.out.cell gz2
        have gy3 := KY.out.cell gz3
        have gy4 := KY.out.cell gz4
        have KY0 := Lib.hid (KZ.out.trans KY.out)
        have HBY := Lib.hid (HB.out.below KY0.out.b)
        clear gz0 gz1 gz2 gz3 gz4 hG2
        obtain ⟨y0, hy0⟩ := later_of KA2.out
        subst hy0
        go_wp2_with fail
        go_loopw [21, 22] (fun at' i wr => ∃ (k : Nat) (x : Later Y), k ≤ l.length ∧ at' = .int .i64 (bgn l k) ∧ i = .int .i64 (k : Int) ∧ Row x.w G2 #[.int .i64 (loB b 0 (bgn l k).toNat), .int .i64 (hiB b 0 (bgn l k).toNat)] 27 ∧ wr = x.w) (fun _ i _ => l.length - (intOf i).toNat)
        case atStart => exact ⟨0, y0, by omega, rfl, rfl, by rw [bgn_zero]; show Row _ _ #[.int .i64 (loB b 0 0), .int .i64 (hiB b 0 0)] _; rw [lo_self, hi_self]; exact RV.out, rfl⟩
        case round =>
          obtain ⟨k, x, hk, rfl, rfl, hrow, rfl⟩ := hrel
          have HRW := Lib.hid hrow
          clear hrow
          by_cases hkl : k < l.length
          · obtain ⟨X, Y', hX, hY', hXY, hYn, hbn, hlj, hhj⟩ := plan_sums HOK.out HPQ.out hkl
            obtain ⟨gl, ol, rfl, hcl⟩ := HQ.out k hkl
            have hr2 := part_range HOK.out 0 X
            have hr3 := part_range HOK.out X Y'
            have HBN := Lib.hid hbn
            rw [hX] at HRW ⊢
            rw [hY'] at hcl
            rw [Int.toNat_natCast] at HRW
            have HLN := Lib.hid hlj.symm
            have HHN := Lib.hid hhj.symm
            obtain ⟨LV, hLV⟩ : ∃ x, loB b X Y' = x := ⟨_, rfl⟩
            obtain ⟨HV, hHV⟩ : ∃ x, hiB b X Y' = x := ⟨_, rfl⟩
            obtain ⟨lc, hlc⟩ : ∃ x, loB b 0 X = x := ⟨_, rfl⟩
            obtain ⟨hc, hhc⟩ : ∃ x, hiB b 0 X = x := ⟨_, rfl⟩
            have HSV := Lib.hid (fun w' (kk : From Y w') => sum_call HBO.out (Nat.le_of_lt hXY) hYn hLV hHV p c w' (HBY.out.below kk.b))
            rw [hlc] at HRW HLN hr2
            rw [hhc] at HRW HHN hr2
            rw [hLV] at HLN hr3
            rw [hHV] at HHN hr3
            clear hLV hHV hlc hhc hlj hhj hbn hX hY'
            have i1 : (0 : Int) ≤ (k : Int) := by omega
            have i2 : (k : Int) < (l.length : Int) := by omega
            have KI := Lib.hid (From.refl x.w)
            have HSK := Lib.hid (fun w' (kk : From x.w w') => (⟨kk.cell (x.fr.cell gy0), kk.cell (x.fr.cell gy1), kk.cell (x.fr.cell gy2), kk.cell (x.fr.cell gy3), kk.cell (x.fr.cell gy4), kk.cell (x.fr.cell hcl)⟩ : w'.cell? ⟨w.heap.size, 0, none⟩ = some (.int .i64 b.pr) ∧ w'.cell? ⟨w.heap.size, 1, none⟩ = some (.int .i64 b.le) ∧ w'.cell? ⟨w.heap.size, 2, none⟩ = some (.int .i64 b.mo) ∧ w'.cell? ⟨w.heap.size, 3, none⟩ = some (.int .i64 b.gr) ∧ w'.cell? ⟨w.heap.size, 4, none⟩ = some (.slice p b.hs.length c) ∧ w'.cell? ⟨gl, ol + k, none⟩ = some (.int .i64 (Y' : Int))))
            go_upto_region 22 with (fail)
            go_cut [23, 24] from 144 to 153 (fun a b' wx => ∃ (vb : Nat) (z : Later x.w), a = .pointer (some ⟨vb, 0, none⟩) ∧ b' = .int .i64 0 ∧ Row z.w vb #[.int .i64 LV, .int .i64 HV] 27 ∧ wx = z.w)
            case first =>
              go_region_held3 (fun w' => w'.cell? ⟨w.heap.size, 0, none⟩ = some (.int .i64 b.pr) ∧ w'.cell? ⟨w.heap.size, 1, none⟩ = some (.int .i64 b.le) ∧ w'.cell? ⟨w.heap.size, 2, none⟩ = some (.int .i64 b.mo) ∧ w'.cell? ⟨w.heap.size, 3, none⟩ = some (.int .i64 b.gr) ∧ w'.cell? ⟨w.heap.size, 4, none⟩ = some (.slice p b.hs.length c) ∧ w'.cell? ⟨gl, ol + k, none⟩ = some (.int .i64 (Y' : Int)))
                (first | with_reducible exact HSK.out _ KI.out | with_reducible exact HSK.out _ KI.out.drew | with_reducible exact HSK.out _ (KI.out.below (below_alloc _ _)) | with_reducible exact HSK.out _ (KI.out.drew.below (below_alloc _ _)) | with_reducible exact HSK.out _ (KI.out.below (below_alloc _ _)).drew | exact HSK.out _ ((KI.out.setN (Nat.le_refl _) 0 _).setN (Nat.le_refl _) 1 _))
                (first
                  | (go_at_call 15; (with_reducible refine (HSV.out _ (by first | with_reducible exact x.fr.trans (KI.out.below (below_alloc _ _)).drew | with_reducible exact x.fr.trans (KI.out.drew.below (below_alloc _ _)))).mono ?_); rintro e u ⟨rfl, hbu⟩; have HZR := Lib.hid (by first | with_reducible exact (Row.new x.w #[.int .i64 0, .int .i64 0] 27).drew.below hbu (by simp) | with_reducible exact (Row.new x.w.drew #[.int .i64 0, .int .i64 0] 27).below hbu (by simp)); have KI := Lib.hid (by first | with_reducible exact (KI.out.below (below_alloc _ _)).drew.below hbu | with_reducible exact (KI.out.drew.below (below_alloc _ _)).below hbu); have q0 := HZR.out.cell 0 (v := .int .i64 0) rfl; have q1 := HZR.out.cell 1 (v := .int .i64 0) rfl; have f0 := HZR.out.free 0; have f1 := HZR.out.free 1; clear hbu)
                  | (go_at_call 15; (with_reducible refine (HSV.out _ (by first | with_reducible exact x.fr.trans KI.out.drew | with_reducible exact x.fr.trans KI.out)).mono ?_); rintro e u ⟨rfl, hbu⟩; have KI := Lib.hid (by first | with_reducible exact KI.out.drew.below hbu | with_reducible exact KI.out.below hbu); clear hbu))
              all_goals
                go_wp2_with fail
                go_meet
                first
                  | exact ⟨u.heap.size, ⟨_, (KI.out.below (below_alloc u _)).b⟩, rfl, rfl, Row.new u _ _, rfl⟩
                  | exact ⟨x.w.heap.size, ⟨_, ((KI.out.setN (Nat.le_refl _) 0 _).setN (Nat.le_refl _) 1 _).b⟩, rfl, rfl, (HZR.out.set 0 _).set 1 _, rfl⟩
            case rest =>
              obtain ⟨vb, z, rfl, rfl, hrz, rfl⟩ := hcut
              have HVR := Lib.hid hrz
              have HRW := Lib.hid (HRW.out.below z.b HRW.out.lt)
              obtain ⟨x5, hx5⟩ := x.up z
              rw [hx5] at HVR HRW ⊢
              clear hx5 hrz
              have w0 := HRW.out.cell 0 (v := .int .i64 lc) rfl
              have w1 := HRW.out.cell 1 (v := .int .i64 hc) rfl
              have v0 := HVR.out.cell 0 (v := .int .i64 LV) rfl
              have v1 := HVR.out.cell 1 (v := .int .i64 HV) rfl
              have e1 : IntKind.i64.wrap (lc + LV) = lc + LV := IntWalk.i64_in _ (by omega)
              have e2 : IntKind.i64.wrap (hc + HV) = hc + HV := IntWalk.i64_in _ (by omega)
              have hc5 := x5.fr.cell hcl
              go_upto_region 25 with (fail)
              have hne : gl ≠ G2 := by
                have := cell_block hcl
                rw [HG2.out] at this
                exact Nat.ne_of_lt this
              have hne2 : ¬ gl = G2 := hne
              have hne3 : ¬ G2 = gl := fun h => hne h.symm
              have HC5 := Lib.hid (show ∀ w', From x5.w w' → w'.cell? ⟨gl, ol + k, none⟩ = some (.int .i64 (Y' : Int)) from fun w' kk => kk.cell hc5)
              clear hc5
              refine wp_region_held_drew (S := fun w' => w'.cell? ⟨gl, ol + k, none⟩ = some (.int .i64 (Y' : Int))) (by kernel_rfl) (HC5.out _ (From.refl _).drew) ?_
              intro hS0
              refine wpAnyH_take_to 11 167 (.slice (some ⟨gl, ol, none⟩) l.length cl) rfl rfl (by kernel_rfl) (by kernel_rfl) (by kernel_rfl) (fun _ _ _ h => h) (Or.inl ⟨by rfl, fun w' _ => by rfl⟩) hS0 ?_
              refine wpAnyH_take_to 12 168 (.int .i64 (k : Int)) rfl rfl (by kernel_rfl) (by kernel_rfl) (by kernel_rfl) (fun _ _ _ h => h) (Or.inl ⟨by rfl, fun w' _ => by rfl⟩) hS0 ?_
              refine wpAnyH_take_to 13 169 (.pointer (some ⟨gl, ol + k, none⟩)) rfl rfl (by kernel_rfl) (by kernel_rfl) (by kernel_rfl) (fun _ _ _ h => h) (Or.inl ⟨by rfl, fun w' _ => by go_simp⟩) hS0 ?_
              refine wpAnyH_take_to 14 170 (.int .i64 (Y' : Int)) rfl rfl (by kernel_rfl) (by kernel_rfl) (by kernel_rfl) (fun _ _ _ h => h) (Or.inl ⟨by rfl, fun w' hS => by go_simp⟩) hS0 ?_
              refine wpAnyH_rest (C := fun w' => ∃ x : Later x5.w, w' = x.w) 11 15 [0, 1, 2, 3, 4, 5, 6, 7, 8, 9, 10, 15, 16] rfl rfl (by kernel_rfl) (by kernel_rfl) (by kernel_rfl) (by kernel_rfl) (by kernel_rfl) rfl (by kernel_rfl) (by omega) ⟨⟨x5.w.drew, (Below.refl _ _).drew⟩, rfl⟩ (fun w' hw' => by obtain ⟨y, rfl⟩ := hw'; exact HC5.out _ y.fr) ?_
              simp only [List.take_succ_cons, List.take_zero, List.drop_succ_cons, List.drop_zero, List.setIfInBounds_toArray, List.set_cons_succ, List.set_cons_zero]
              repeat (go_big_quiet_step (first
                | (go_at_call 53; with_reducible exact Calls.later_of (Sp_any _ _ _))))
              refine wpQuiet_nil ?_
              intro _ hw'
              obtain ⟨y, hw''⟩ := hw'
              subst hw''
              have RY := Lib.hid (HRW.out.below y.b HRW.out.lt)
              have RN := Lib.hid (RY.out.setRow #[.int .i64 (lc + LV), .int .i64 (hc + HV)])
              obtain ⟨x6, hx6⟩ := later_of (below_setRow' (x5.b.trans (y.b.mono x5.b.size)) (g := G2) (by rw [HG2.out]; exact Nat.le_refl _) #[.int .i64 (lc + LV), .int .i64 (hc + HV)])
              rw [hx6] at RN
              refine wpListH_want rfl (wp_store_row' 27 _ _ rfl G2 #[.int .i64 (lc + LV), .int .i64 (hc + HV)] #[.int .i64 lc, .int .i64 hc] 27 rfl rfl RY.out (by kernel_rfl) rfl (by simp [Value.oneCell']) ⟨by rw [hx6]; exact x6.fr.cell hcl, ?_⟩)
              rw [hx6]
              refine wpListH_want rfl (wp_assign_op _ rfl ⟨x6.fr.cell hcl, wpListH_nil ?_⟩)
              clear hx6 e1 e2 w0 w1 v0 v1 hS0
              simp only [Act.put, List.setIfInBounds_toArray, List.set_cons_succ, List.set_cons_zero]
              go_wp2_with fail
              go_roundw
              case rel => exact ⟨k + 1, x6, by omega, by rw [HBN.out]; rfl, by go_num, by rw [HBN.out, Int.toNat_natCast, HLN.out, HHN.out]; exact RN.out, rfl⟩
              case measure => simp [intOf]; omega
          · obtain rfl : k = l.length := by omega
            have hend : bgn l l.length = (b.hs.length : Int) := by
              have h := HPQ.out
              unfold planB at h
              rw [Bool.and_eq_true] at h
              simpa using h.2
            rw [hend, Int.toNat_natCast] at HRW
            rw [hend]
            obtain ⟨LA, hLA⟩ : ∃ x, loB b 0 b.hs.length = x := ⟨_, rfl⟩
            obtain ⟨HA, hHA⟩ : ∃ x, hiB b 0 b.hs.length = x := ⟨_, rfl⟩
            rw [hLA, hHA] at HRW
            have HSW := Lib.hid (fun w' (kk : From Y w') => (sum_call HBO.out (Nat.zero_le _) (Nat.le_refl _) hLA hHA p c w' (HBY.out.below kk.b) : Calls Try.prog 15 #[.agg (bfA b p c), .int .i64 0, .int .i64 (b.hs.length : Int)] w' fun e w'' => e = .returned (.tuple #[.agg #[.int .i64 LA, .int .i64 HA], .int .i64 0]) ∧ Below w'.heap.size w' w''))
            clear hend hLA hHA
            go_wp2_with fail
            refine (HSW.out _ x.fr).mono ?_
            rintro e u ⟨rfl, hbu⟩
            have HRW := Lib.hid (HRW.out.below hbu HRW.out.lt)
            obtain ⟨x5, hz⟩ := x.on hbu
            subst hz
            clear hbu
            go_upto_region 27 with (first | (refine store_new rfl 27 _ _ rfl #[.int .i64 LA, .int .i64 HA] #[.int .i64 0, .int .i64 0] 27 rfl rfl (by kernel_rfl) rfl (by simp [Value.oneCell']) ?_))
            obtain ⟨WN, hWN⟩ : ∃ u, x5.w.alloc (.cells #[.int .i64 LA, .int .i64 HA] 27) = u := ⟨_, rfl⟩
            have RLA := Lib.hid (show Row WN x5.w.heap.size #[.int .i64 LA, .int .i64 HA] 27 by rw [← hWN]; exact Row.new x5.w _ _)
            have hbu : Below x5.w.heap.size x5.w WN := by rw [← hWN]; exact below_alloc _ _
            rw [hWN]
            clear hWN
            have HRW := Lib.hid (HRW.out.below hbu HRW.out.lt)
            obtain ⟨BLA, hBLA⟩ : ∃ x, x5.w.heap.size = x := ⟨_, rfl⟩
            rw [hBLA] at RLA ⊢
            obtain ⟨x6, hz⟩ := x5.on hbu
            subst hz
            clear hbu
            have w0 := HRW.out.cell 0 (v := .int .i64 LA) rfl
            have w1 := HRW.out.cell 1 (v := .int .i64 HA) rfl
            have v0 := RLA.out.cell 0 (v := .int .i64 LA) rfl
            have v1 := RLA.out.cell 1 (v := .int .i64 HA) rfl
            go_wp2_with fail
            refine (filled_any _).mono ?_
            rintro e u ⟨rfl, hbu⟩
            obtain ⟨x7, hz⟩ := x6.on hbu
            subst hz
            clear hbu
            go_wp2_with fail
            go_ret
            exact ⟨rfl, HE.out.trans ((KY0.out.trans x7.fr).b.mono HE.out.size)⟩
end Go.Proofs.Ytgdidhbomdfcpaa
