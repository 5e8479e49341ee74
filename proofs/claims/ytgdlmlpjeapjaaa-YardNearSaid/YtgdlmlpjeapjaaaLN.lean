/- A region whose last operations wait for all others, by way of others too: the first ones are walked under a predicate that holds throughout, with the last ones idle; behind them, once, the last ones in their order. -/
import Derived.Test.YtgdlmlpjeapjaaaLL
import Derived.OrdersHeld
import Derived.Deep.RegionHeld
namespace Go.Proofs.Ytgdlmlpjeapjaaa
open Go.RowKit Go.Maps

/-- Does an operation wait for another one, by way of others too? -/
def waitsB (ops : Array Oper) : Nat → Nat → Nat → Bool
  | 0, _, _ => false
  | f + 1, k, i => match ops[k]? with
    | none => false
    | some o => o.after.any fun e => Region.binds .any e && (e.on == i || waitsB ops f e.on i)
/-- From one on, each operation waits for all earlier ones, by way of others too. -/
def lateT (m : Nat) (ops : Array Oper) : Bool := (List.range ops.size).all fun k => decide (k < m) || (List.range k).all fun i => waitsB ops ops.size k i
/-- Whatever has come up came up behind all that it waits for. -/
def ClosedL (ops : Array Oper) (listed : Array Bool) : Prop := ∀ k o, ops[k]? = some o → listed.getD k false = true → ∀ e ∈ o.after, Region.binds .any e = true → listed.getD e.on false = true
theorem waits_closed {ops : Array Oper} {listed : Array Bool} (hc : ClosedL ops listed) : ∀ (f k i : Nat), waitsB ops f k i = true → (∀ o, ops[k]? = some o → ∀ e ∈ o.after, Region.binds .any e = true → listed.getD e.on false = true) → listed.getD i false = true
  | 0, _, _, h, _ => by simp [waitsB] at h
  | f + 1, k, i, h, hk => by
    unfold waitsB at h
    cases ho : ops[k]? with
    | none => rw [ho] at h; cases h
    | some o =>
      rw [ho] at h
      obtain ⟨e, he, hb⟩ := Array.any_eq_true'.1 h
      simp only [Bool.and_eq_true, Bool.or_eq_true, beq_iff_eq] at hb
      have hl := hk o ho e he hb.1
      rcases hb.2 with h1 | h1
      · rw [← h1]; exact hl
      · exact waits_closed hc f e.on i h1 (fun o' ho' => hc e.on o' ho' hl)
theorem closed_start (ops : Array Oper) (n : Nat) : ClosedL ops (Array.replicate n false) := fun k _ _ h => by
  exfalso
  revert h
  simp [Array.getD]
theorem ClosedL.set {ops : Array Oper} {listed : Array Bool} (h : ClosedL ops listed) {k : Nat} (hk : k ∈ Region.ready .any ops listed) : ClosedL ops (listed.setIfInBounds k true) := fun j o ho hj e he hb => by
  have up : ∀ i, listed.getD i false = true → (listed.setIfInBounds k true).getD i false = true := fun i hi => by
    by_cases e2 : k = i
    · subst e2
      have hlt : k < listed.size := by
        rcases Nat.lt_or_ge k listed.size with h' | h'
        · exact h'
        · simp [Array.getD, Nat.not_lt.2 h'] at hi
      simp [hlt]
    · rw [getD_set_ne false e2]; exact hi
  by_cases e2 : k = j
  · subst e2
    obtain ⟨_, o', ho', hall⟩ := mem_ready.1 hk
    rw [ho] at ho'
    cases ho'
    exact up _ (hall e he hb)
  · rw [getD_set_ne false e2] at hj
    exact up _ (h j o ho hj e he hb)
theorem ready_lateT {ops : Array Oper} {listed : Array Bool} {m k i : Nat} (h : lateT m ops = true) (hc : ClosedL ops listed) (hk : k ∈ Region.ready .any ops listed) (hm : m ≤ k) (hi : i < k) : listed.getD i false = true := by
  obtain ⟨_, o, ho, hall⟩ := mem_ready.1 hk
  have hlt : k < ops.size := (Array.getElem?_eq_some_iff.1 ho).1
  have h1 := List.all_eq_true.1 h k (List.mem_range.2 hlt)
  rw [Bool.or_eq_true] at h1
  rcases h1 with h1 | h1
  · simp only [decide_eq_true_eq] at h1
    omega
  · have h2 := List.all_eq_true.1 h1 i (List.mem_range.2 hi)
    exact waits_closed hc _ k i h2 (fun o' ho' => by rw [ho] at ho'; cases ho'; exact hall)
section
variable {P : Program} {S : World → Prop} {l t : List Oper} {Q : Exit → Act → World → Prop}
/-- What is asked behind the first ones: the walk of the last ones. -/
def lastQ (P : Program) (ops : Array Oper) (t : List Oper) (Q : Exit → Act → World → Prop) : Exit → Act → World → Prop
  | .normal, a, w => wpList P ops Q t a w
  | e, a, w => Q e a w
theorem lastQ_op {o : Oper} {a : Act} {w : World} {ops : Array Oper} {K : Act → World → Prop} (h : o.wp P a w K (lastQ P ops t Q)) : o.wp P a w K Q := by
  unfold Oper.wp at *
  generalize (execOp a.eval o).run P w = r at *
  cases r with
  | ok n w' =>
    cases n with
    | value v => exact h
    | skip => exact h
    | defer d => exact h
    | enter f args =>
      refine Calls.mono h fun e w'' he => ?_
      cases e with
      | returned v => exact he
      | panicked c => exact he
      | outgrown => exact he
    | row r args => exact h
    | _ => exact h
  | halt x w' =>
    cases x with
    | panic v => exact h
    | _ => exact h
theorem idle_op {s : Oper} {a : Act} {w : World} {K : Act → World → Prop} {Q' : Exit → Act → World → Prop} (h : (idleOp s).wp P a w K Q' ∨ ((idleOp s).asks P a w ∧ LetsOut Q')) : K a w := by
  rcases h with h | ⟨h, _⟩
  · exact h
  · exfalso
    have h1 := h.1
    have e : ((execOp a.eval (idleOp s)).runT P w #[]).2 = #[] := rfl
    rw [e] at h1
    simp at h1
theorem ready_only {ops : Array Oper} {listed : Array Bool} {m k : Nat} (_h1 : lowB ops = true) (h2 : lateT m ops = true) (hc : ClosedL ops listed) (hs : listed.size = ops.size) (hm : m ≤ k) (hu : Upto k listed) {i : Nat} (hi : i ∈ Region.ready .any ops listed) : i = k := by
  have hj := (mem_ready.1 hi).1
  have hlt := getD_lt hj
  by_cases e : i < k
  · have h3 := hu.y i e
    rw [getD_size hlt] at hj
    rw [hj] at h3
    cases h3
  · by_cases e2 : i = k
    · exact e2
    · have h3 := ready_lateT h2 hc hi (by omega) (i := k) (by omega)
      have h4 := hu.n k (Nat.le_refl _) (by omega)
      rw [getD_size (by omega)] at h4
      rw [h4] at h3
      cases h3
theorem ready_none {ops : Array Oper} {listed : Array Bool} {m k : Nat} (h1 : lowB ops = true) (h2 : lateT m ops = true) (hc : ClosedL ops listed) (hs : listed.size = ops.size) (hm : m ≤ k) (hu : Upto k listed) (hk : ops.size ≤ k) : Region.ready .any ops listed = [] := by
  rw [List.eq_nil_iff_forall_not_mem]
  intro i hi
  have := ready_only h1 h2 hc hs hm hu hi
  have hlt := getD_lt (mem_ready.1 hi).1
  omega
theorem ready_this {ops : Array Oper} {listed : Array Bool} {m k : Nat} (h1 : lowB ops = true) (h2 : lateT m ops = true) (hc : ClosedL ops listed) (hs : listed.size = ops.size) (hm : m ≤ k) (hu : Upto k listed) (hk : k < ops.size) : k ∈ Region.ready .any ops listed := by
  obtain ⟨i, hi⟩ := ready_some h1 hs k (hu.n k (Nat.le_refl _) (by omega))
  have := ready_only h1 h2 hc hs hm hu hi
  rw [this] at hi
  exact hi
theorem idle_rest {Q' : Exit → Act → World → Prop} (h1 : lowB (l ++ t).toArray = true) (h2 : lateT l.length (l ++ t).toArray = true) :
    ∀ (fuel k : Nat) (listed : Array Bool) (a : Act) (w : World), l.length ≤ k → k ≤ (l ++ t).toArray.size → listed.size = (l ++ t).toArray.size → ClosedL (l ++ t).toArray listed → Upto k listed →
      wpAnyH P .any (idled l t) Q' S fuel listed a w → Q' .normal a w ∧ (l ++ t).toArray.size - k ≤ fuel := by
  intro fuel
  induction fuel with
  | zero =>
    intro k listed a w hk hks hs hc hu h
    refine ⟨h.2, ?_⟩
    by_cases e : k < (l ++ t).toArray.size
    · have := ready_this h1 h2 hc hs hk hu e
      rw [← ready_idled, h.1] at this
      cases this
    · omega
  | succ fuel ih =>
    intro k listed a w hk hks hs hc hu h
    by_cases e : k < (l ++ t).toArray.size
    · have hr := ready_this h1 h2 hc hs hk hu e
      have hq := h.2 k (by rw [ready_idled]; exact hr)
      unfold wpOp at hq
      rw [idled_ge hk (Array.getElem?_eq_getElem e)] at hq
      simp only at hq
      rw [if_pos (by rfl)] at hq
      have h3 := idle_op hq
      have h4 := ih (k + 1) (listed.setIfInBounds k true) a w (by omega) (by omega) (by simpa using hs) (hc.set hr) (hu.set (by omega)) h3.2
      exact ⟨h4.1, by omega⟩
    · exact ⟨h.1 (by rw [ready_idled]; exact ready_none h1 h2 hc hs hk hu (by omega)), by omega⟩
theorem late_walk (h1 : lowB (l ++ t).toArray = true) (h2 : lateT l.length (l ++ t).toArray = true) :
    ∀ (r : List Oper) (fuel k : Nat) (listed : Array Bool) (a : Act) (w : World), (∀ j, r[j]? = (l ++ t).toArray[k + j]?) → l.length ≤ k → k ≤ (l ++ t).toArray.size → listed.size = (l ++ t).toArray.size → ClosedL (l ++ t).toArray listed → Upto k listed →
      (l ++ t).toArray.size - k ≤ fuel → wpList P (l ++ t).toArray Q r a w → wpAny P .any (l ++ t).toArray Q fuel listed a w := by
  intro r
  induction r with
  | nil =>
    intro fuel k listed a w hr hk hks hs hc hu hf h
    have hsz : (l ++ t).toArray.size ≤ k := by
      have := hr 0
      simp only [List.getElem?_nil, Nat.add_zero] at this
      exact Array.getElem?_eq_none_iff.1 this.symm
    exact wpAny_done (ready_none h1 h2 hc hs hk hu hsz) h _
  | cons o r ih =>
    intro fuel k listed a w hr hk hks hs hc hu hf h
    have ho : (l ++ t).toArray[k]? = some o := by simpa using (hr 0).symm
    have hlt := (Array.getElem?_eq_some_iff.1 ho).1
    obtain ⟨fuel, rfl⟩ : ∃ f, fuel = f + 1 := ⟨fuel - 1, by omega⟩
    have hrk := ready_this h1 h2 hc hs hk hu hlt
    have hr' : ∀ j, r[j]? = (l ++ t).toArray[k + 1 + j]? := fun j => by
      have := hr (j + 1)
      simpa [Nat.add_assoc, Nat.add_comm 1 j] using this
    refine ⟨fun h0 => absurd hrk (by rw [h0]; exact List.not_mem_nil), fun j hj => ?_⟩
    have hjk := ready_only h1 h2 hc hs hk hu hj
    subst hjk
    have key := fun a' w' h' => ih fuel (j + 1) (listed.setIfInBounds j true) a' w' hr' (by omega) (by omega) (by simpa using hs) (hc.set hrk) (hu.set (by omega)) (by omega) h'
    unfold wpOp
    rw [ho]
    simp only
    unfold wpList at h
    split at h
    · rename_i hwt
      rw [if_pos hwt]
      rcases h with h | h
      · exact .inl (Oper.wp_mono (fun a'' w'' h'' => key a'' w'' h'') h)
      · exact .inr h
    · rename_i hwt
      rw [if_neg hwt]
      exact key _ _ h
theorem held_late (hg : guardB l = true) (h1 : lowB (l ++ t).toArray = true) (h2 : lateT l.length (l ++ t).toArray = true) :
    ∀ (fuel : Nat) (listed : Array Bool) (a : Act) (w : World), listed.size = (l ++ t).toArray.size → ClosedL (l ++ t).toArray listed → (∀ i, l.length ≤ i → i < listed.size → listed.getD i true = false) →
      wpAnyH P .any (idled l t) (lastQ P (l ++ t).toArray t Q) S fuel listed a w → wpAny P .any (l ++ t).toArray Q fuel listed a w := by
  intro fuel
  have hlast : ∀ fuel (listed : Array Bool) (a : Act) (w : World), listed.size = (l ++ t).toArray.size → ClosedL (l ++ t).toArray listed → (∀ i, l.length ≤ i → i < listed.size → listed.getD i true = false) → (∀ i, i < l.length → listed.getD i false = true) →
      wpAnyH P .any (idled l t) (lastQ P (l ++ t).toArray t Q) S fuel listed a w → wpAny P .any (l ++ t).toArray Q fuel listed a w := fun fuel listed a w hs hc hun hall h => by
    have h3 := idle_rest h1 h2 fuel l.length listed a w (Nat.le_refl _) (by simp) hs hc ⟨hall, hun⟩ h
    exact late_walk h1 h2 t fuel l.length listed a w (fun j => by rw [List.getElem?_toArray, List.getElem?_append_right (by omega)]; simp) (Nat.le_refl _) (by simp) hs hc ⟨hall, hun⟩ h3.2 h3.1
  induction fuel with
  | zero =>
    intro listed a w hs hc hun h
    by_cases hall : ∀ i, i < l.length → listed.getD i false = true
    · exact hlast 0 listed a w hs hc hun hall h
    · obtain ⟨i, hi⟩ := Classical.not_forall.1 hall
      obtain ⟨hi1, hi2⟩ := Classical.not_imp.1 hi
      have hsz : listed.size = l.length + t.length := by rw [hs]; simp
      obtain ⟨j, hj⟩ := ready_some h1 hs i (by rw [getD_size (by omega)]; simpa using hi2)
      rw [← ready_idled, h.1] at hj
      cases hj
  | succ fuel ih =>
    intro listed a w hs hc hun h
    by_cases hall : ∀ i, i < l.length → listed.getD i false = true
    · exact hlast _ listed a w hs hc hun hall h
    · obtain ⟨i, hi⟩ := Classical.not_forall.1 hall
      obtain ⟨hi1, hi2⟩ := Classical.not_imp.1 hi
      have hsz : listed.size = l.length + t.length := by rw [hs]; simp
      obtain ⟨j, hj⟩ := ready_some h1 hs i (by rw [getD_size (by omega)]; simpa using hi2)
      refine ⟨fun h0 => absurd hj (by rw [h0]; exact List.not_mem_nil), fun k hk => ?_⟩
      have hkl : k < l.length := by
        by_cases e : k < l.length
        · exact e
        · exact absurd (fun i hi => ready_lateT h2 hc hk (by omega) (by omega)) hall
      obtain ⟨_, o, ho, _⟩ := mem_ready.1 hk
      have hq := h.2 k (by rw [ready_idled]; exact hk)
      have hol : o ∈ l := by
        have : l[k]? = some o := by
          have := ho
          simp only [List.getElem?_toArray, List.getElem?_append_left hkl] at this
          exact this
        exact List.mem_of_getElem? this
      have hun' : ∀ i', l.length ≤ i' → i' < (listed.setIfInBounds k true).size → (listed.setIfInBounds k true).getD i' true = false := fun i' hi1' hi2' => by
        rw [getD_set_ne true (by omega)]
        exact hun i' hi1' (by simpa using hi2')
      unfold wpOp at hq ⊢
      rw [idled_lt hkl] at hq
      rw [ho] at hq ⊢
      simp only at hq ⊢
      rw [wanted_idled hg hol] at hq
      split at hq
      · rename_i hw
        rw [if_pos hw]
        rcases hq with hq | hq
        · exact .inl (Oper.wp_mono (fun a' w' hh => ih (listed.setIfInBounds k true) a' w' (by simpa using hs) (hc.set hk) hun' hh.2) (lastQ_op hq))
        · exact .inr hq
      · rename_i hw
        rw [if_neg hw]
        exact ih _ _ _ (by simpa using hs) (hc.set hk) hun' hq.2
/-- **A region whose last operations wait for all others.** -/
theorem wp_region_late {id : Nat} {a : Act} {w : World} {L : List Oper} (m : Nat) (hm : P.follows .mixedOrders = true) (hg : guardB (L.take m) = true) (h1 : lowB L.toArray = true) (h2 : lateT m L.toArray = true) (hl : (L.take m).length = m) (hS : S w.drew)
    (h : S w.drew → wpAnyH P .any (idled (L.take m) (L.drop m)) (lastQ P L.toArray (L.drop m) Q) S L.toArray.size (Array.replicate L.toArray.size false) a w.drew) : (Code.region id L.toArray true).wp P Q a w := by
  have e := List.take_append_drop m L
  have key := held_late (P := P) (S := S) (Q := Q) (l := L.take m) (t := L.drop m) hg (by rw [e]; exact h1) (by rw [e, hl]; exact h2) L.toArray.size (Array.replicate L.toArray.size false) a w.drew (by rw [e]; simp) (by rw [e]; exact closed_start _ _) (fun i _ hi => by simp at hi; simp [hi]) (by rw [e]; exact h hS)
  rw [e] at key
  exact wp_region_any hm key
end
end Go.Proofs.Ytgdlmlpjeapjaaa
