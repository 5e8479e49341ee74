/- A region some of whose operations have come up already, under a predicate that holds throughout: the others are walked once, then the last ones, which wait for all. -/
import Derived.Test.YtgdlmlpjeapjaaaLL
import Derived.OrdersHeld
import Derived.Deep.RegionHeld
import Derived.BigQuiet
namespace Go.Proofs.Ytgdlmlpjeapjaaa
open Go.RowKit Go.Maps

/-- From one on, each operation waits for all earlier ones, but for those that have come up at the beginning. -/
def lateB0 (m : Nat) (ops : Array Oper) (listed0 : Array Bool) : Bool := (List.range ops.size).all fun k => decide (k < m) || (List.range k).all fun i => listed0.getD i false || match ops[k]? with
  | none => true
  | some o => o.after.any fun e => Region.binds .any e && e.on == i
/-- These may come up one after the other, each free of all others; then none is left. -/
def schedB (ops : Array Oper) : List Nat → Array Bool → Bool
  | [], listed => (Region.ready .any ops listed).isEmpty
  | i :: σ, listed => (Region.ready .any ops listed).contains i && Region.free .any ops listed i && schedB ops σ (listed.setIfInBounds i true)
/-- The walk of the last operations; what holds throughout holds behind each. -/
def wpListH (P : Program) (ops : Array Oper) (Q : Exit → Act → World → Prop) (S : World → Prop) : List Oper → Act → World → Prop
  | [], a, w => Q .normal a w
  | o :: rest, a, w => if Region.wanted o (yielded ops a.tmps) then o.wp P a w (fun a' w' => S w' ∧ wpListH P ops Q S rest a' w') Q else S w ∧ wpListH P ops Q S rest (a.put o.dst undef) w

section
variable {P : Program} {C S : World → Prop} {l t : List Oper} {listed listed0 : Array Bool}

theorem ready_late0 {ops : Array Oper} {m k i : Nat} (h : lateB0 m ops listed0 = true) (h0 : ∀ i, listed0.getD i false = true → listed.getD i false = true) (hk : k ∈ Region.ready .any ops listed) (hm : m ≤ k) (hi : i < k) : listed.getD i false = true := by
  obtain ⟨_, o, ho, hall⟩ := mem_ready.1 hk
  have hlt : k < ops.size := (Array.getElem?_eq_some_iff.1 ho).1
  have h1 := List.all_eq_true.1 h k (List.mem_range.2 hlt)
  rw [Bool.or_eq_true] at h1
  rcases h1 with h1 | h1
  · simp only [decide_eq_true_eq] at h1
    omega
  · have h2 := List.all_eq_true.1 h1 i (List.mem_range.2 hi)
    rw [Bool.or_eq_true] at h2
    rcases h2 with h2 | h2
    · exact h0 i h2
    · rw [ho] at h2
      obtain ⟨e, he, hb⟩ := Array.any_eq_true'.1 h2
      simp only [Bool.and_eq_true, beq_iff_eq] at hb
      rw [← hb.2]
      exact hall e he hb.1
theorem ready_last0 {ops : Array Oper} {m k i : Nat} (hl : lateB0 m ops listed0 = true) (h0 : ∀ i, listed0.getD i false = true → listed.getD i false = true) (hs : listed.size = ops.size) (hm : m ≤ k) (h : Upto k listed) (hi : i ∈ Region.ready .any ops listed) : i = k := by
  have h1 := (mem_ready.1 hi).1
  have hlt := getD_lt h1
  by_cases e : i < k
  · have h2 := h.y i e
    rw [getD_size hlt] at h1
    rw [h1] at h2
    cases h2
  · by_cases e2 : i = k
    · exact e2
    · have h2 := ready_late0 hl h0 hi (by omega) (i := k) (by omega)
      have h3 := h.n k (Nat.le_refl _) (by omega)
      rw [getD_size (by omega)] at h3
      rw [h3] at h2
      cases h2
theorem last_walkH {R : Act → Prop} {Q' : Exit → Act → World → Prop} (h1 : lowB (l ++ t).toArray = true) (h2 : lateB0 l.length (l ++ t).toArray listed0 = true) :
    ∀ (fuel : Nat) (r : List Oper) (k : Nat) (listed : Array Bool) (a a' : Act) (w : World), (∀ i, listed0.getD i false = true → listed.getD i false = true) → (∀ j, r[j]? = (l ++ t).toArray[k + j]?) → l.length ≤ k → k ≤ (l ++ t).toArray.size → listed.size = (l ++ t).toArray.size → Upto k listed →
      wpAnyQ P .any (idled l t) C R fuel listed a → (R a ∧ (wpListH P (l ++ t).toArray Q' S r a' w → wpAnyH P .any (l ++ t).toArray Q' S fuel listed a' w))
  | 0, r, k, listed, a, a', w, h0, hr, hk, hks, hs, hu, h => by
    refine ⟨h.2, fun hw => ⟨by rw [← ready_idled]; exact h.1, ?_⟩⟩
    cases r with
    | nil => exact hw
    | cons o r =>
      have ho : (l ++ t).toArray[k]? = some o := by simpa using (hr 0).symm
      have hlt := (Array.getElem?_eq_some_iff.1 ho).1
      obtain ⟨i, hi⟩ := ready_some h1 hs k (hu.n k (Nat.le_refl _) (by omega))
      rw [← ready_idled, h.1] at hi
      cases hi
  | fuel + 1, r, k, listed, a, a', w, h0, hr, hk, hks, hs, hu, h => by
    cases r with
    | nil =>
      have hsz : (l ++ t).toArray.size ≤ k := by
        have := hr 0
        simp only [List.getElem?_nil, Nat.add_zero] at this
        exact Array.getElem?_eq_none_iff.1 this.symm
      have hre : Region.ready .any (l ++ t).toArray listed = [] := by
        rw [List.eq_nil_iff_forall_not_mem]
        intro i hi
        have := ready_last0 h2 h0 hs hk hu hi
        have hlt := getD_lt (mem_ready.1 hi).1
        omega
      exact ⟨h.1 (by rw [ready_idled]; exact hre), fun hw => wpAnyH_done hre hw _⟩
    | cons o r =>
      have ho : (l ++ t).toArray[k]? = some o := by simpa using (hr 0).symm
      have hlt := (Array.getElem?_eq_some_iff.1 ho).1
      obtain ⟨i, hi⟩ := ready_some h1 hs k (hu.n k (Nat.le_refl _) (by omega))
      have hik := ready_last0 h2 h0 hs hk hu hi
      subst hik
      have hq := h.2 i (by rw [ready_idled]; exact hi)
      unfold qOp at hq
      rw [idled_ge hk ho] at hq
      simp only at hq
      rw [if_pos (by rfl)] at hq
      obtain ⟨v, _, hq⟩ := hq
      have hr' : ∀ j, r[j]? = (l ++ t).toArray[i + 1 + j]? := fun j => by
        have := hr (j + 1)
        simpa [Nat.add_assoc, Nat.add_comm 1 j] using this
      have ih := fun a'' w'' => last_walkH (Q' := Q') h1 h2 fuel r (i + 1) (listed.setIfInBounds i true) a a'' w'' (fun i' hi' => getD_set_true (h0 i' hi')) hr' (by omega) (by omega) (by simpa using hs) (hu.set (by omega)) hq
      refine ⟨(ih a' w).1, fun hw => ⟨fun h0 => absurd hi (by rw [h0]; exact List.not_mem_nil), fun j hj => ?_⟩⟩
      have hjk := ready_last0 h2 h0 hs hk hu hj
      subst hjk
      unfold wpOp
      rw [ho]
      simp only
      unfold wpListH at hw
      split at hw
      · rename_i hwt
        rw [if_pos hwt]
        exact .inl (Oper.wp_mono (fun a'' w'' h'' => ⟨h''.1, (ih a'' w'').2 h''.2⟩) hw)
      · rename_i hwt
        rw [if_neg hwt]
        exact ⟨hw.1, (ih _ _).2 hw.2⟩
theorem first_walkH {R : Act → Prop} {Q' : Exit → Act → World → Prop} (hg : guardB l = true) (h1 : lowB (l ++ t).toArray = true) (h2 : lateB0 l.length (l ++ t).toArray listed0 = true) (hCS : ∀ w, C w → S w)
    (hR : ∀ a w, C w → R a → wpListH P (l ++ t).toArray Q' S t a w) :
    ∀ (fuel : Nat) (listed : Array Bool) (a : Act) (w : World), (∀ i, listed0.getD i false = true → listed.getD i false = true) → listed.size = (l ++ t).toArray.size → (∀ i, l.length ≤ i → i < listed.size → listed.getD i true = false) → C w →
      wpAnyQ P .any (idled l t) C R fuel listed a → wpAnyH P .any (l ++ t).toArray Q' S fuel listed a w := by
  intro fuel
  have hlast : ∀ fuel (listed : Array Bool) (a : Act) (w : World), (∀ i, listed0.getD i false = true → listed.getD i false = true) → listed.size = (l ++ t).toArray.size → (∀ i, l.length ≤ i → i < listed.size → listed.getD i true = false) → (∀ i, i < l.length → listed.getD i false = true) → C w →
      wpAnyQ P .any (idled l t) C R fuel listed a → wpAnyH P .any (l ++ t).toArray Q' S fuel listed a w := fun fuel listed a w h0 hs hun hall hC h => by
    have := last_walkH (Q' := Q') (S := S) h1 h2 fuel t l.length listed a a w h0 (fun j => by rw [List.getElem?_toArray, List.getElem?_append_right (by omega)]; simp) (Nat.le_refl _) (by simp) hs ⟨hall, hun⟩ h
    exact this.2 (hR a w hC this.1)
  induction fuel with
  | zero =>
    intro listed a w h0 hs hun hC h
    by_cases hall : ∀ i, i < l.length → listed.getD i false = true
    · exact hlast 0 listed a w h0 hs hun hall hC h
    · obtain ⟨i, hi⟩ := Classical.not_forall.1 hall
      obtain ⟨hi1, hi2⟩ := Classical.not_imp.1 hi
      have hsz : listed.size = l.length + t.length := by rw [hs]; simp
      obtain ⟨j, hj⟩ := ready_some h1 hs i (by rw [getD_size (by omega)]; simpa using hi2)
      rw [← ready_idled, h.1] at hj
      cases hj
  | succ fuel ih =>
    intro listed a w h0 hs hun hC h
    by_cases hall : ∀ i, i < l.length → listed.getD i false = true
    · exact hlast _ listed a w h0 hs hun hall hC h
    · obtain ⟨i, hi⟩ := Classical.not_forall.1 hall
      obtain ⟨hi1, hi2⟩ := Classical.not_imp.1 hi
      have hsz : listed.size = l.length + t.length := by rw [hs]; simp
      obtain ⟨j, hj⟩ := ready_some h1 hs i (by rw [getD_size (by omega)]; simpa using hi2)
      refine ⟨fun h0 => absurd hj (by rw [h0]; exact List.not_mem_nil), fun k hk => ?_⟩
      have hkl : k < l.length := by
        by_cases e : k < l.length
        · exact e
        · exact absurd (fun i hi => ready_late0 h2 h0 hk (by omega) (by omega)) hall
      obtain ⟨_, o, ho, _⟩ := mem_ready.1 hk
      have hq := h.2 k (by rw [ready_idled]; exact hk)
      have hol : o ∈ l := by
        have : l[k]? = some o := by
          have := ho
          simp only [List.getElem?_toArray, List.getElem?_append_left hkl] at this
          exact this
        exact List.mem_of_getElem? this
      have hq2 : qOp P (l ++ t).toArray C k (wpAnyQ P .any (idled l t) C R fuel (listed.setIfInBounds k true)) a := by
        unfold qOp at hq ⊢
        rw [idled_lt hkl] at hq
        rw [ho] at hq ⊢
        simp only at hq ⊢
        rw [wanted_idled hg hol] at hq
        exact hq
      exact wpOp_of_qOp hC (fun a' w' hw' hh => ⟨hCS w' hw', ih (listed.setIfInBounds k true) a' w' (fun i' hi' => getD_set_true (h0 i' hi')) (by simpa using hs) (fun i' hi1' hi2' => by
        rw [getD_set_ne true (by omega)]
        exact hun i' hi1' (by simpa using hi2')) hw' hh⟩) hq2
theorem wpAnyQ_sched {ops : Array Oper} {Q : Act → Prop} (hs : Region.noSelect ops = true) : ∀ (σ : List Nat) (r : List Oper) (listed : Array Bool) (a : Act), r.map some = σ.map (ops[·]?) → schedB ops σ listed = true → wpQuiet P ops C Q r a → wpAnyQ P .any ops C Q σ.length listed a
  | [], r, listed, a, hr, hB, h => by
    have : r = [] := by simpa using hr
    subst this
    exact ⟨by simpa [schedB] using hB, h⟩
  | i :: σ, r, listed, a, hr, hB, h => by
    cases r with
    | nil => simp at hr
    | cons o r =>
      simp only [List.map_cons, List.cons.injEq] at hr
      have h0 : ops[i]? = some o := hr.1.symm
      simp only [schedB, Bool.and_eq_true] at hB
      obtain ⟨⟨hrd, hf⟩, hB'⟩ := hB
      have hst : qOp P ops C i (wpQuiet P ops C Q r) a := by unfold qOp; simp only [h0]; exact h
      obtain ⟨v, hy, hK⟩ := yieldsIn_of_qOp h0 hst
      exact wpAnyQ_first h0 (Region.noSelect_spec hs) σ.length listed a (Region.free_spec h0 hf) (by simpa using hrd) hy (wpAnyQ_sched hs σ r _ _ hr.2 hB' hK)
/-- **The rest of a region**: the first ones, but for those that have come up, are walked once; behind them the last ones. -/
theorem wpAnyH_rest {Q : Exit → Act → World → Prop} {a : Act} {w : World} {L : List Oper} (e m : Nat) (σ : List Nat) (hl : (L.take m).length = m) (hσ : ((L.take e) ++ (L.drop m).map idleOp).map some = σ.map ((idled (L.take m) (L.drop m))[·]?)) (hns : Region.noSelect (idled (L.take m) (L.drop m)) = true)
    (hB : schedB (idled (L.take m) (L.drop m)) σ listed0 = true) (hg : guardB (L.take m) = true) (h1 : lowB L.toArray = true) (h2 : lateB0 m L.toArray listed0 = true) (hsz : listed0.size = L.length) (hun : ((List.range L.length).all fun i => decide (i < m) || !listed0.getD i true) = true) (hem : e ≤ m)
    (hC : C w) (hCS : ∀ w, C w → S w)
    (h : wpQuiet P L.toArray C (fun a' => ∀ w', C w' → wpListH P L.toArray Q S (L.drop m) a' w') (L.take e) a) : wpAnyH P .any L.toArray Q S σ.length listed0 a w := by
  have eq := List.take_append_drop m L
  have hsub : ∀ o ∈ L.take e, o ∈ L.take m := fun o ho => by
    have : L.take e = (L.take m).take e := by rw [List.take_take, Nat.min_eq_left hem]
    rw [this] at ho
    exact List.mem_of_mem_take ho
  have hq := wpQuiet_app (P := P) (C := C) (ops := L.toArray) (ops' := idled (L.take m) (L.drop m)) (l := L.take m) (t := L.drop m) (fun o ho tmps => by
    have := wanted_idled (t := L.drop m) hg ho tmps
    rw [eq] at this
    exact this) (L.take e) hsub a h
  have hany := wpAnyQ_sched hns σ _ listed0 a hσ hB hq
  have key := first_walkH (P := P) (C := C) (S := S) (listed0 := listed0) (l := L.take m) (t := L.drop m) (R := fun a' => ∀ w', C w' → wpListH P L.toArray Q S (L.drop m) a' w') (Q' := Q) hg (by rw [eq]; exact h1) (by rw [eq, hl]; exact h2) hCS (fun a' w' hw' hR => by rw [eq]; exact hR w' hw') σ.length listed0 a w (fun i hi => hi) (by rw [eq]; simpa using hsz) (fun i hi hi2 => by
    have := List.all_eq_true.1 hun i (List.mem_range.2 (by omega))
    rw [hl] at hi
    rw [Bool.or_eq_true] at this
    rcases this with h | h
    · simp only [decide_eq_true_eq] at h; omega
    · simpa using h) hC hany
  rw [eq] at key
  exact key
end
section
variable {P : Program} {ops : Array Oper} {Q : Exit → Act → World → Prop} {S : World → Prop} {o : Oper} {rest : List Oper} {a : Act} {w : World}
theorem wpListH_want (hg : o.guard = none) (h : o.wp P a w (fun a' w' => S w' ∧ wpListH P ops Q S rest a' w') Q) : wpListH P ops Q S (o :: rest) a w := by
  unfold wpListH
  rw [if_pos (by unfold Region.wanted; rw [hg])]
  exact h
theorem wpListH_nil (h : Q .normal a w) : wpListH P ops Q S [] a w := h
theorem wp_assign_op {K : Act → World → Prop} (x : Operand) (ho : o.op = .assign x) (h : K (a.put o.dst (a.eval x)) w) : o.wp P a w K Q := by
  unfold Oper.wp
  rw [BigFrame.run_assign x ho]
  exact h
end
/-- An operation that may come up is taken first; its slot is named. -/
theorem wpAnyH_take_to {P : Program} {ops : Array Oper} {Q : Exit → Act → World → Prop} {S : World → Prop} {oi : Oper} (i : Nat) (d : Nat) (v : Value) {fuel : Nat} {listed : Array Bool} {a : Act} {w : World} (hi : ops[i]? = some oi) (hd : oi.dst = some d)
    (hs : Region.noSelect ops = true) (hf : Region.free .any ops listed i = true) (hr : (Region.ready .any ops listed).contains i = true)
    (hQ : ∀ c a w, Q (.panic c) (a.put oi.dst v) w → Q (.panic c) a w) (hy : YieldsIf P ops S oi v a) (hS : S w)
    (h : wpAnyH P .any ops Q S fuel (listed.setIfInBounds i true) { a with tmps := a.tmps.setIfInBounds d v } w) : wpAnyH P .any ops Q S (fuel + 1) listed a w :=
  wpAnyH_take hi hs hf hr hQ hy hS (by rw [hd]; exact h)
end Go.Proofs.Ytgdlmlpjeapjaaa
