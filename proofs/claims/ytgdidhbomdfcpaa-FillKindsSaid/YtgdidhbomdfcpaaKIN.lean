/- A region whose last operations wait for all others: the others are walked once, in the order of the text; then the last ones. -/
import Derived.Test.YtgdidhbomdfcpaaLF
import Derived.Deep.Quiet
import Derived.Test.YtgdidhbomdfcpaaF37
import Derived.Test.YtgdidhbomdfcpaaF39
import Derived.Test.YtgdidhbomdfcpaaF17
import Derived.Deep.RegionHeld3
import Derived.Test.YtgdidhbomdfcpaaF27
import Derived.Test.YtgdidhbomdfcpaaASK
namespace Go.Proofs.Ytgdidhbomdfcpaa
open Go.RowKit Go.Maps

/-- The operation, but that it does nothing. -/
def idleOp (s : Oper) : Oper := { s with dst := none, op := .move (.const undef), guard := none }
def idled (l t : List Oper) : Array Oper := (l ++ t.map idleOp).toArray
/-- No guard of these operations lies behind them. -/
def guardB (l : List Oper) : Bool := l.all fun o => match o.guard with
  | none => true
  | some (j, _) => decide (j < l.length)
/-- Each operation waits for earlier ones only. -/
def lowB (ops : Array Oper) : Bool := (List.range ops.size).all fun i => match ops[i]? with
  | none => true
  | some o => o.after.all fun e => !Region.binds .any e || decide (e.on < i)
/-- From one on, each operation waits for all earlier ones. -/
def lateB (m : Nat) (ops : Array Oper) : Bool := (List.range ops.size).all fun k => decide (k < m) || (List.range k).all fun i => match ops[k]? with
  | none => true
  | some o => o.after.any fun e => Region.binds .any e && e.on == i

section
variable {P : Program} {C : World → Prop} {l t : List Oper} {listed : Array Bool}

theorem idled_size : (idled l t).size = (l ++ t).toArray.size := by simp [idled]
theorem idled_lt {i : Nat} (h : i < l.length) : (idled l t)[i]? = (l ++ t).toArray[i]? := by
  simp [idled, List.getElem?_append_left h]
theorem idled_ge {i : Nat} {o : Oper} (h : l.length ≤ i) (ho : (l ++ t).toArray[i]? = some o) : (idled l t)[i]? = some (idleOp o) := by
  simp only [List.getElem?_toArray, List.getElem?_append_right h] at ho
  simp [idled, List.getElem?_append_right h, ho]
theorem idled_after (i : Nat) : ((idled l t)[i]?).map (·.after) = ((l ++ t).toArray[i]?).map (·.after) := by
  by_cases h : i < l.length
  · rw [idled_lt h]
  · cases ho : (l ++ t).toArray[i]? with
    | none =>
      have h1 : (l ++ t).toArray.size ≤ i := Array.getElem?_eq_none_iff.1 ho
      rw [← idled_size] at h1
      rw [Array.getElem?_eq_none_iff.2 h1]
    | some o => rw [idled_ge (by omega) ho]; rfl
theorem ready_idled : Region.ready .any (idled l t) listed = Region.ready .any (l ++ t).toArray listed := by
  unfold Region.ready
  rw [idled_size]
  refine List.filter_congr fun i _ => ?_
  congr 1
  have h := idled_after (l := l) (t := t) i
  have key : ∀ x : Option Oper, (x.map fun o => o.after.all fun e => !Region.binds .any e || listed.getD e.on false) = (x.map (·.after)).map fun a => a.all fun e => !Region.binds .any e || listed.getD e.on false := fun x => by cases x <;> rfl
  rw [key, key, h]
theorem wanted_idled (hg : guardB l = true) {o : Oper} (ho : o ∈ l) (tmps : Array Value) : Region.wanted o (yielded (idled l t) tmps) = Region.wanted o (yielded (l ++ t).toArray tmps) := by
  have h := List.all_eq_true.1 hg o ho
  unfold Region.wanted
  cases hgd : o.guard with
  | none => rfl
  | some g =>
    obtain ⟨j, b⟩ := g
    rw [hgd] at h
    simp only [decide_eq_true_eq] at h
    simp only
    unfold yielded
    rw [idled_lt h]
theorem getD_size {i : Nat} (h : i < listed.size) : listed.getD i true = listed.getD i false := by simp [Array.getD, h]
theorem getD_lt {i : Nat} (h : listed.getD i true = false) : i < listed.size := by
  by_cases e : i < listed.size
  · exact e
  · simp [Array.getD, e] at h
theorem ready_some {ops : Array Oper} (hl : lowB ops = true) (hs : listed.size = ops.size) : ∀ k, listed.getD k true = false → ∃ i, i ∈ Region.ready .any ops listed := by
  intro k
  induction k using Nat.strongRecOn with
  | _ k ih =>
    intro hk
    have hlt := getD_lt hk
    have ho : ops[k]? = some ops[k] := Array.getElem?_eq_getElem (by omega)
    by_cases hall : ∀ e ∈ (ops[k]).after, Region.binds .any e = true → listed.getD e.on false = true
    · exact ⟨k, mem_ready.2 ⟨hk, _, ho, hall⟩⟩
    · obtain ⟨e, he⟩ := Classical.not_forall.1 hall
      obtain ⟨h1, he⟩ := Classical.not_imp.1 he
      obtain ⟨h2, h3⟩ := Classical.not_imp.1 he
      have h4 := List.all_eq_true.1 hl k (List.mem_range.2 (by omega))
      rw [ho] at h4
      simp only at h4
      have h5 := Array.all_eq_true_iff_forall_mem.1 h4 e h1
      rw [h2] at h5
      simp only [Bool.not_true, Bool.false_or, decide_eq_true_eq] at h5
      refine ih e.on h5 ?_
      rw [getD_size (by omega)]
      simpa using h3
theorem ready_late {ops : Array Oper} {m k i : Nat} (h : lateB m ops = true) (hk : k ∈ Region.ready .any ops listed) (hm : m ≤ k) (hi : i < k) : listed.getD i false = true := by
  obtain ⟨_, o, ho, hall⟩ := mem_ready.1 hk
  have hlt : k < ops.size := (Array.getElem?_eq_some_iff.1 ho).1
  have h1 := List.all_eq_true.1 h k (List.mem_range.2 hlt)
  rw [Bool.or_eq_true] at h1
  rcases h1 with h1 | h1
  · simp only [decide_eq_true_eq] at h1
    omega
  · have h2 := List.all_eq_true.1 h1 i (List.mem_range.2 hi)
    rw [ho] at h2
    obtain ⟨e, he, hb⟩ := Array.any_eq_true'.1 h2
    simp only [Bool.and_eq_true, beq_iff_eq] at hb
    rw [← hb.2]
    exact hall e he hb.1
/-- The first ones are listed, the others not. -/
structure Upto (k : Nat) (listed : Array Bool) : Prop where
  y : ∀ i, i < k → listed.getD i false = true
  n : ∀ i, k ≤ i → i < listed.size → listed.getD i true = false
theorem Upto.set {k : Nat} (h : Upto k listed) (hk : k < listed.size) : Upto (k + 1) (listed.setIfInBounds k true) := by
  constructor
  · intro i hi
    by_cases e : k = i
    · subst e
      simp [hk]
    · rw [getD_set_ne false e]; exact h.y i (by omega)
  · intro i hi hs
    rw [getD_set_ne true (by omega)]
    exact h.n i (by omega) (by simpa using hs)
/-- At the last operations: they alone may come up, each behind the one before. -/
theorem ready_last {ops : Array Oper} {m k i : Nat} (hl : lateB m ops = true) (hs : listed.size = ops.size) (hm : m ≤ k) (h : Upto k listed) (hi : i ∈ Region.ready .any ops listed) : i = k := by
  have h1 := (mem_ready.1 hi).1
  have hlt := getD_lt h1
  by_cases e : i < k
  · have h2 := h.y i e
    rw [getD_size hlt] at h1
    rw [h1] at h2
    cases h2
  · by_cases e2 : i = k
    · exact e2
    · have h2 := ready_late hl hi (by omega) (i := k) (by omega)
      have h3 := h.n k (Nat.le_refl _) (by omega)
      rw [getD_size (by omega)] at h3
      rw [h3] at h2
      cases h2
theorem last_walk {R : Act → Prop} {Q' : Exit → Act → World → Prop} (h1 : lowB (l ++ t).toArray = true) (h2 : lateB l.length (l ++ t).toArray = true) :
    ∀ (fuel : Nat) (r : List Oper) (k : Nat) (listed : Array Bool) (a a' : Act) (w : World), (∀ j, r[j]? = (l ++ t).toArray[k + j]?) → l.length ≤ k → k ≤ (l ++ t).toArray.size → listed.size = (l ++ t).toArray.size → Upto k listed →
      wpAnyQ P .any (idled l t) C R fuel listed a → (R a ∧ (wpList P (l ++ t).toArray Q' r a' w → wpAny P .any (l ++ t).toArray Q' fuel listed a' w))
  | 0, r, k, listed, a, a', w, hr, hk, hks, hs, hu, h => by
    refine ⟨h.2, fun hw => ⟨by rw [← ready_idled]; exact h.1, ?_⟩⟩
    cases r with
    | nil => exact hw
    | cons o r =>
      have ho : (l ++ t).toArray[k]? = some o := by simpa using (hr 0).symm
      have hlt := (Array.getElem?_eq_some_iff.1 ho).1
      obtain ⟨i, hi⟩ := ready_some h1 hs k (hu.n k (Nat.le_refl _) (by omega))
      rw [← ready_idled, h.1] at hi
      cases hi
  | fuel + 1, r, k, listed, a, a', w, hr, hk, hks, hs, hu, h => by
    cases r with
    | nil =>
      have hsz : (l ++ t).toArray.size ≤ k := by
        have := hr 0
        simp only [List.getElem?_nil, Nat.add_zero] at this
        exact Array.getElem?_eq_none_iff.1 this.symm
      have hre : Region.ready .any (l ++ t).toArray listed = [] := by
        rw [List.eq_nil_iff_forall_not_mem]
        intro i hi
        have := ready_last h2 hs hk hu hi
        have hlt := getD_lt (mem_ready.1 hi).1
        omega
      exact ⟨h.1 (by rw [ready_idled]; exact hre), fun hw => wpAny_done hre hw _⟩
    | cons o r =>
      have ho : (l ++ t).toArray[k]? = some o := by simpa using (hr 0).symm
      have hlt := (Array.getElem?_eq_some_iff.1 ho).1
      obtain ⟨i, hi⟩ := ready_some h1 hs k (hu.n k (Nat.le_refl _) (by omega))
      have hik := ready_last h2 hs hk hu hi
      subst hik
      have hq := h.2 i (by rw [ready_idled]; exact hi)
      unfold qOp at hq
      rw [idled_ge hk ho] at hq
      simp only at hq
      rw [if_pos (by rfl)] at hq
      obtain ⟨v, _, hq⟩ := hq
      have hr' : ∀ j, r[j]? = (l ++ t).toArray[i + 1 + j]? := fun j => by
        have := hr (j + 1)
        simpa [Nat.add_assoc, Nat.add_comm 1 j] using this
      have ih := fun a'' w'' => last_walk (Q' := Q') h1 h2 fuel r (i + 1) (listed.setIfInBounds i true) a a'' w'' hr' (by omega) (by omega) (by simpa using hs) (hu.set (by omega)) hq
      refine ⟨(ih a' w).1, fun hw => ⟨fun h0 => absurd hi (by rw [h0]; exact List.not_mem_nil), fun j hj => ?_⟩⟩
      have hjk := ready_last h2 hs hk hu hj
      subst hjk
      unfold wpOp
      rw [ho]
      simp only
      unfold wpList at hw
      split at hw
      · rename_i hwt
        rw [if_pos hwt]
        rcases hw with hw | hw
        · exact .inl (Oper.wp_mono (fun a'' w'' h'' => (ih a'' w'').2 h'') hw)
        · exact .inr hw
      · rename_i hwt
        rw [if_neg hwt]
        exact (ih _ _).2 hw
theorem first_walk {R : Act → Prop} {Q' : Exit → Act → World → Prop} (hg : guardB l = true) (h1 : lowB (l ++ t).toArray = true) (h2 : lateB l.length (l ++ t).toArray = true)
    (hR : ∀ a w, C w → R a → wpList P (l ++ t).toArray Q' t a w) :
    ∀ (fuel : Nat) (listed : Array Bool) (a : Act) (w : World), listed.size = (l ++ t).toArray.size → (∀ i, l.length ≤ i → i < listed.size → listed.getD i true = false) → C w →
      wpAnyQ P .any (idled l t) C R fuel listed a → wpAny P .any (l ++ t).toArray Q' fuel listed a w := by
  intro fuel
  have hlast : ∀ fuel (listed : Array Bool) (a : Act) (w : World), listed.size = (l ++ t).toArray.size → (∀ i, l.length ≤ i → i < listed.size → listed.getD i true = false) → (∀ i, i < l.length → listed.getD i false = true) → C w →
      wpAnyQ P .any (idled l t) C R fuel listed a → wpAny P .any (l ++ t).toArray Q' fuel listed a w := fun fuel listed a w hs hun hall hC h => by
    have := last_walk (Q' := Q') h1 h2 fuel t l.length listed a a w (fun j => by rw [List.getElem?_toArray, List.getElem?_append_right (by omega)]; simp) (Nat.le_refl _) (by simp) hs ⟨hall, hun⟩ h
    exact this.2 (hR a w hC this.1)
  induction fuel with
  | zero =>
    intro listed a w hs hun hC h
    by_cases hall : ∀ i, i < l.length → listed.getD i false = true
    · exact hlast 0 listed a w hs hun hall hC h
    · obtain ⟨i, hi⟩ := Classical.not_forall.1 hall
      obtain ⟨hi1, hi2⟩ := Classical.not_imp.1 hi
      have hsz : listed.size = l.length + t.length := by rw [hs]; simp
      obtain ⟨j, hj⟩ := ready_some h1 hs i (by rw [getD_size (by omega)]; simpa using hi2)
      rw [← ready_idled, h.1] at hj
      cases hj
  | succ fuel ih =>
    intro listed a w hs hun hC h
    by_cases hall : ∀ i, i < l.length → listed.getD i false = true
    · exact hlast _ listed a w hs hun hall hC h
    · obtain ⟨i, hi⟩ := Classical.not_forall.1 hall
      obtain ⟨hi1, hi2⟩ := Classical.not_imp.1 hi
      have hsz : listed.size = l.length + t.length := by rw [hs]; simp
      obtain ⟨j, hj⟩ := ready_some h1 hs i (by rw [getD_size (by omega)]; simpa using hi2)
      refine ⟨fun h0 => absurd hj (by rw [h0]; exact List.not_mem_nil), fun k hk => ?_⟩
      have hkl : k < l.length := by
        by_cases e : k < l.length
        · exact e
        · exact absurd (fun i hi => ready_late h2 hk (by omega) (by omega)) hall
      obtain ⟨_, o, ho, _⟩ := mem_ready.1 hk
      have hq := h.2 k (by rw [ready_idled]; exact hk)
      have hol : o ∈ l := by
        have : l[k]? = some o := by
          have := ho
          simp only [List.getElem?_toArray, List.getElem?_append_left hkl] at this
          exact this
        exact List.mem_of_getElem? this
      have hq2 : qOp P (l ++ t).toArray C k (wpAnyQ P .any (idled l t) C R fuel (listed.setIfInBounds k true)) a := by
        unfold qOp at hq ⊢
        rw [idled_lt hkl] at hq
        rw [ho] at hq ⊢
        simp only at hq ⊢
        rw [wanted_idled hg hol] at hq
        exact hq
      exact wpOp_of_qOp hC (fun a' w' hw' hh => ih (listed.setIfInBounds k true) a' w' (by simpa using hs) (fun i' hi1' hi2' => by
        rw [getD_set_ne true (by omega)]
        exact hun i' hi1' (by simpa using hi2')) hw' hh) hq2
theorem wpQuiet_app {ops ops' : Array Oper} {R : Act → Prop} (hw : ∀ o ∈ l, ∀ tmps, Region.wanted o (yielded ops' tmps) = Region.wanted o (yielded ops tmps)) : ∀ (r : List Oper) (_ : ∀ o ∈ r, o ∈ l) (a : Act), wpQuiet P ops C R r a → wpQuiet P ops' C R (r ++ t.map idleOp) a
  | [], _, a, h => by
    have key : ∀ (t : List Oper) (a : Act), R a → wpQuiet P ops' C R (t.map idleOp) a := by
      intro t
      induction t with
      | nil => exact fun a h => h
      | cons s t ih =>
        intro a h
        show if Region.wanted (idleOp s) (yielded ops' a.tmps) = true then (idleOp s).quiet P a C (wpQuiet P ops' C R (t.map idleOp)) else _
        rw [if_pos (by rfl)]
        exact ⟨undef, fun w _ => by unfold Oper.quietAt; rw [show (execOp a.eval (idleOp s)) = _ from rfl]; exact ⟨rfl, rfl⟩, ih a h⟩
    exact key t a h
  | o :: r, hr, a, h => by
    have h' : if Region.wanted o (yielded ops a.tmps) = true then o.quiet P a C (wpQuiet P ops C R r) else wpQuiet P ops C R r (a.put o.dst undef) := h
    show if Region.wanted o (yielded ops' a.tmps) = true then o.quiet P a C (wpQuiet P ops' C R (r ++ t.map idleOp)) else wpQuiet P ops' C R (r ++ t.map idleOp) (a.put o.dst undef)
    rw [hw o (hr o (by simp))]
    split at h'
    · rename_i e
      rw [if_pos e]
      exact Oper.quiet_mono (fun a' h'' => wpQuiet_app hw r (fun o' ho' => hr o' (by simp [ho'])) a' h'') h'
    · rename_i e
      rw [if_neg e]
      exact wpQuiet_app hw r (fun o' ho' => hr o' (by simp [ho'])) _ h'
/-- **A region whose last operations wait for all others**: the first ones are walked once, each of them quiet; behind them, in each world of the class, the last ones in their order. -/
theorem wp_region_last {id : Nat} {Q : Exit → Act → World → Prop} {a : Act} {w : World} (l t : List Oper) (hm : P.follows .mixedOrders = true) (hB : Region.lexB .any (idled l t) = true) (hg : guardB l = true) (h1 : lowB (l ++ t).toArray = true) (h2 : lateB l.length (l ++ t).toArray = true)
    (h : wpQuiet P (l ++ t).toArray (fun w' => ∃ x : Later w, w' = x.w) (fun a' => ∀ w', (∃ x : Later w, w' = x.w) → wpList P (l ++ t).toArray Q t a' w') l a) : (Code.region id (l ++ t).toArray true).wp P Q a w := by
  simp only [Region.lexB, Bool.and_eq_true] at hB
  refine wp_region_any hm ?_
  refine first_walk (C := fun w' => ∃ x : Later w, w' = x.w) (R := fun a' => ∀ w', (∃ x : Later w, w' = x.w) → wpList P (l ++ t).toArray Q t a' w') hg h1 h2 (fun a' w' hC hR => hR w' hC) _ _ _ _ (by simp) (fun i _ hi => by simp at hi; simp [hi]) ⟨⟨w.drew, (Below.refl _ _).drew⟩, rfl⟩ ?_
  have hq := wpQuiet_app (ops' := idled l t) (l := l) (t := t) (fun o ho tmps => wanted_idled hg ho tmps) l (fun o ho => ho) a h
  have := wpAnyQ_lex (C := fun w' => ∃ x : Later w, w' = x.w) (md := .any) hB.1 (l ++ t.map idleOp) 0 (Array.replicate (idled l t).size false) a (by simp [idled]) (by simpa [idled] using hB.2) hq
  simpa [idled] using this
/-- The same, the last operations counted. -/
theorem wp_region_tail {id : Nat} {Q : Exit → Act → World → Prop} {a : Act} {w : World} {L : List Oper} (m : Nat) (hm : P.follows .mixedOrders = true) (hB : Region.lexB .any (idled (L.take m) (L.drop m)) = true) (hg : guardB (L.take m) = true) (h1 : lowB L.toArray = true) (h2 : lateB m L.toArray = true) (hl : (L.take m).length = m)
    (h : wpQuiet P L.toArray (fun w' => ∃ x : Later w, w' = x.w) (fun a' => ∀ w', (∃ x : Later w, w' = x.w) → wpList P L.toArray Q (L.drop m) a' w') (L.take m) a) : (Code.region id L.toArray true).wp P Q a w := by
  have e := List.take_append_drop m L
  have key := wp_region_last (P := P) (id := id) (Q := Q) (a := a) (w := w) (L.take m) (L.drop m) hm hB hg (by rw [e]; exact h1) (by rw [e, hl]; exact h2) (by rw [e]; exact h)
  rw [e] at key
  exact key
end
end Go.Proofs.Ytgdidhbomdfcpaa
/- The walks of the specification of layer 5: Check, asked, isBox, label, sum, right. -/
namespace Go.Proofs.Ytgdidhbomdfcpaa
open Go.RowKit Go.Maps
attribute [local go_sem] Oper.semAt_some

theorem take_all5 {α : Type} {P : α → Bool} {l : List α} {k : Nat} (h : k < l.length) : (l.take (k + 1)).all P = ((l.take k).all P && P l[k]) := by
  rw [List.take_add_one, List.getElem?_eq_getElem h, List.all_append]
  simp
theorem take_false5 {α : Type} {P : α → Bool} {l : List α} {k : Nat} (h : (l.take k).all P = false) : l.all P = false := by
  rw [List.all_eq_false] at h ⊢
  obtain ⟨x, hx, hp⟩ := h
  exact ⟨x, List.mem_of_mem_take hx, hp⟩
theorem numB_false {b : Bf} (h : ¬ (1 ≤ b.pr ∧ b.pr ≤ 500 ∧ 0 ≤ b.le ∧ b.le ≤ 50 ∧ b.le ≤ b.pr - 1 ∧ 0 ≤ b.mo ∧ b.mo ≤ 50 ∧ 1 ≤ b.gr ∧ b.gr ≤ 4 ∧ b.hs.length ≤ 8)) : numB b = false := by
  unfold numB
  exact decide_eq_false h
theorem fits_no {n lo hi : Int} (h : ¬ (lo ≤ n ∧ n ≤ hi)) : fits n lo hi = false := by
  unfold fits
  simp
  omega
set_option maxRecDepth 10000 in
set_option maxHeartbeats 1600000 in
theorem refCheck_any (b : Bf) (p : Option Addr) (c : Nat) (w : World) (hB : BfAt w p c b) :
    Calls Try.prog 18 #[.agg (bfA b p c)] w fun e w' => e = .returned (.int .i64 (bookE b)) ∧ Below w.heap.size w w' := by
  obtain ⟨W0, hW0⟩ : ∃ W, W = w.alloc (.cells (bfA b p c) 24) := ⟨_, rfl⟩
  have HW0 := Lib.hid hW0
  have HE := Lib.hid (show Below w.heap.size w W0 by rw [hW0]; exact below_alloc _ _)
  have HR := Lib.hid (show Row W0 w.heap.size (bfA b p c) 24 by rw [hW0]; exact Row.new w _ _)
  have g0 := HR.out.cell 0 (v := .int .i64 b.pr) rfl
  have g1 := HR.out.cell 1 (v := .int .i64 b.le) rfl
  have g2 := HR.out.cell 2 (v := .int .i64 b.mo) rfl
  have g3 := HR.out.cell 3 (v := .int .i64 b.gr) rfl
  have g4 := HR.out.cell 4 (v := .slice p b.hs.length c) rfl
  clear hW0
  obtain ⟨z0, hz0⟩ : ∃ z : Later W0, W0 = z.w := ⟨⟨W0, Below.refl _ _⟩, rfl⟩
  have HZ0 := Lib.hid hz0
  clear hz0
  have HB := Lib.hid (hB.below HE.out)
  have hn := hB.n
  clear hB
  go_enter Try.func18, Try.ntmps18
  go_upto_region 1 with (fail)
  rw [← HW0.out, HZ0.out]
  go_cut [3] from 5 to 32 (fun ok wx => ok = .bool (numB b) ∧ ∃ x : Later W0, wx = x.w)
  case first =>
    by_cases h1 : 1 ≤ b.pr ∧ b.pr ≤ 500
    · obtain ⟨h1a, h1b⟩ := h1
      have e1 : IntKind.i64.wrap (b.pr - 1) = b.pr - 1 := IntWalk.i64_in _ (by omega)
      have HF1 := Lib.hid (fun w' => Fits_yes b.pr 1 500 w' h1a h1b)
      by_cases h2 : 0 ≤ b.le ∧ b.le ≤ min 50 (b.pr - 1)
      · have HF2 := Lib.hid (fun w' => Fits_yes b.le 0 (min 50 (b.pr - 1)) w' h2.1 h2.2)
        by_cases h3 : 0 ≤ b.mo ∧ b.mo ≤ 50
        · have HF3 := Lib.hid (fun w' => Fits_yes b.mo 0 50 w' h3.1 h3.2)
          by_cases h4 : 1 ≤ b.gr ∧ b.gr ≤ 4
          · have HF4 := Lib.hid (fun w' => Fits_yes b.gr 1 4 w' h4.1 h4.2)
            by_cases h5 : b.hs.length ≤ 8
            · have h5' : (b.hs.length : Int) ≤ 8 := by omega
              have HV := Lib.hid (show numB b = true by unfold numB; exact decide_eq_true (by omega))
              clear h2 h3 h4 h5
              go_wp2_with (first | (go_at_call 55; (with_reducible refine (HF1.out _).mono ?_); rintro e w1 ⟨rfl, rfl⟩) | (go_at_call 55; (with_reducible refine (HF2.out _).mono ?_); rintro e w1 ⟨rfl, rfl⟩) | (go_at_call 55; (with_reducible refine (HF3.out _).mono ?_); rintro e w1 ⟨rfl, rfl⟩) | (go_at_call 55; (with_reducible refine (HF4.out _).mono ?_); rintro e w1 ⟨rfl, rfl⟩))
              all_goals
                go_meet
                exact ⟨by rw [HV.out] <;> first | rfl | (congr 1; simp; omega), z0, rfl⟩
            · have h5' : ¬ (b.hs.length : Int) ≤ 8 := by omega
              have h5'' : (8 : Int) < (b.hs.length : Int) := by omega
              have HV := Lib.hid (numB_false (b := b) (by omega))
              clear h2 h3 h4 h5
              go_wp2_with (first | (go_at_call 55; (with_reducible refine (HF1.out _).mono ?_); rintro e w1 ⟨rfl, rfl⟩) | (go_at_call 55; (with_reducible refine (HF2.out _).mono ?_); rintro e w1 ⟨rfl, rfl⟩) | (go_at_call 55; (with_reducible refine (HF3.out _).mono ?_); rintro e w1 ⟨rfl, rfl⟩) | (go_at_call 55; (with_reducible refine (HF4.out _).mono ?_); rintro e w1 ⟨rfl, rfl⟩))
              all_goals
                go_meet
                exact ⟨by rw [HV.out] <;> first | rfl | (congr 1; simp; omega), z0, rfl⟩
          · have HF4 := Lib.hid (fun w' => Fits_no b.gr 1 4 w' (by omega))
            have HV := Lib.hid (numB_false (b := b) (by omega))
            clear h2 h3 h4
            go_wp2_with (first | (go_at_call 55; (with_reducible refine (HF1.out _).mono ?_); rintro e w1 ⟨rfl, rfl⟩) | (go_at_call 55; (with_reducible refine (HF2.out _).mono ?_); rintro e w1 ⟨rfl, rfl⟩) | (go_at_call 55; (with_reducible refine (HF3.out _).mono ?_); rintro e w1 ⟨rfl, rfl⟩) | (go_at_call 55; (with_reducible refine (HF4.out _).mono ?_); rintro e w1 ⟨rfl, rfl⟩))
            all_goals
              go_meet
              exact ⟨by rw [HV.out] <;> first | rfl | (congr 1; simp; omega), z0, rfl⟩
        · have HF3 := Lib.hid (fun w' => Fits_no b.mo 0 50 w' (by omega))
          have HV := Lib.hid (numB_false (b := b) (by omega))
          clear h2 h3
          go_wp2_with (first | (go_at_call 55; (with_reducible refine (HF1.out _).mono ?_); rintro e w1 ⟨rfl, rfl⟩) | (go_at_call 55; (with_reducible refine (HF2.out _).mono ?_); rintro e w1 ⟨rfl, rfl⟩) | (go_at_call 55; (with_reducible refine (HF3.out _).mono ?_); rintro e w1 ⟨rfl, rfl⟩))
          all_goals
            go_meet
            exact ⟨by rw [HV.out] <;> first | rfl | (congr 1; simp; omega), z0, rfl⟩
      · have HF2 := Lib.hid (fun w' => Fits_no b.le 0 (min 50 (b.pr - 1)) w' (by omega))
        have HV := Lib.hid (numB_false (b := b) (by omega))
        clear h2
        go_wp2_with (first | (go_at_call 55; (with_reducible refine (HF1.out _).mono ?_); rintro e w1 ⟨rfl, rfl⟩) | (go_at_call 55; (with_reducible refine (HF2.out _).mono ?_); rintro e w1 ⟨rfl, rfl⟩))
        all_goals
          go_meet
          exact ⟨by rw [HV.out] <;> first | rfl | (congr 1; simp; omega), z0, rfl⟩
    · have HF1 := Lib.hid (fun w' => Fits_no b.pr 1 500 w' (by omega))
      go_wp2_with (first | (go_at_call 55; (with_reducible refine (HF1.out _).mono ?_); rintro e w1 ⟨rfl, rfl⟩))
      go_meet
      exact ⟨by rw [numB_false (by omega)], z0, rfl⟩
  case rest =>
    obtain ⟨rfl, x0, rfl⟩ := hcut
    go_wp2_with fail
    go_loopw [3, 4] (fun ok i wr => ∃ (k : Nat) (x : Later W0), k ≤ b.hs.length ∧ ok = .bool (numB b && (b.hs.take k).all hdB) ∧ i = .int .i64 (k : Int) ∧ wr = x.w) (fun _ i _ => b.hs.length - (intOf i).toNat)
    case atStart => exact ⟨0, x0, by omega, by simp, rfl, rfl⟩
    case round =>
      obtain ⟨k, x, hk, rfl, rfl, rfl⟩ := hrel
      cases hok : (numB b && (b.hs.take k).all hdB)
      · have HV := Lib.hid (show bookE b = 50 from bookE_bad (by
          unfold bookB
          cases hn2 : numB b
          · rfl
          · rw [hn2, Bool.true_and] at hok
            rw [take_false5 hok]
            rfl))
        clear hok
        go_wp2_with fail
        go_ret
        exact ⟨ret_int HV.out.symm, x.base HE.out⟩
      · have HOK := Lib.hid hok
        clear hok
        by_cases hlt : k < b.hs.length
        · obtain ⟨bb, o, rfl, c0, c1⟩ := HB.out.h k hlt
          have hnx := take_all5 (P := hdB) hlt
          have HNX := Lib.hid hnx
          clear hnx
          obtain ⟨lo, hlo⟩ : ∃ x, b.hs[k].lo = x := ⟨_, rfl⟩
          obtain ⟨hi, hhi⟩ : ∃ x, b.hs[k].hi = x := ⟨_, rfl⟩
          have HD := Lib.hid (show hdB b.hs[k] = ((decide (0 ≤ lo) && decide (lo ≤ hi) && decide (hi ≤ 200)) && decide (hi - lo ≤ 10)) by
            rw [Bool.eq_iff_iff]
            unfold hdB
            rw [hlo, hhi]
            simp only [Bool.and_eq_true, decide_eq_true_eq]
            omega)
          rw [hlo] at c0
          rw [hhi] at c1
          clear hlo hhi
          have i1 : (0 : Int) ≤ (k : Int) := by omega
          have i2 : (k : Int) < (b.hs.length : Int) := by omega
          have HRI := Lib.hid (fun w' => Right_any lo hi 0 200 w')
          cases hr : (decide (0 ≤ lo) && decide (lo ≤ hi) && decide (hi ≤ 200))
          · rw [hr] at HRI HD
            clear hr
            go_upto_region 5 with (fail)
            refine wp_region_later (by kernel_rfl) (by kernel_rfl) ?_
            repeat (go_big_quiet_step (first
              | (go_at_call 66; with_reducible exact Calls.later_of (HRI.out _))))
            refine wpQuiet_nil ?_
            intro _ hw'
            obtain ⟨yy, hw''⟩ := hw'
            subst hw''
            obtain ⟨x2, hy⟩ := x.up yy
            rw [hy]
            clear hy
            go_wp2_with fail
            go_roundw
            case rel => exact ⟨k + 1, x2, by omega, by rw [HNX.out, HD.out, Bool.false_and, Bool.and_false, Bool.and_false], by go_num, rfl⟩
            case measure => simp [intOf]; omega
          · have hr2 := hr
            simp only [Bool.and_eq_true, decide_eq_true_eq] at hr2
            obtain ⟨⟨q1, q2⟩, q3⟩ := hr2
            have e1 : IntKind.i64.wrap (hi - lo) = hi - lo := IntWalk.i64_in _ (by omega)
            rw [hr] at HRI HD
            clear hr
            go_upto_region 5 with (fail)
            refine wp_region_later (by kernel_rfl) (by kernel_rfl) ?_
            repeat (go_big_quiet_step (first
              | (go_at_call 66; with_reducible exact Calls.later_of (HRI.out _))))
            refine wpQuiet_nil ?_
            intro _ hw'
            obtain ⟨yy, hw''⟩ := hw'
            subst hw''
            obtain ⟨x2, hy⟩ := x.up yy
            rw [hy]
            clear hy
            go_wp2_with fail
            go_roundw
            case rel => exact ⟨k + 1, x2, by omega, by rw [HNX.out, HD.out, Bool.true_and, ← Bool.and_assoc, HOK.out, Bool.true_and], by go_num, rfl⟩
            case measure => simp [intOf]; omega
        · obtain rfl : k = b.hs.length := by omega
          have HV := Lib.hid (show bookE b = 0 from bookE_ok (by
            have h := HOK.out
            rw [List.take_length] at h
            exact h))
          go_wp2_with fail
          go_ret
          exact ⟨ret_int HV.out.symm, x.base HE.out⟩
set_option maxRecDepth 10000 in
set_option maxHeartbeats 1600000 in
/-- The error of a book, and of a question. -/
def askE5 (b : Bf) (r : Bool) : Int := if bookB b then (if r then 0 else 51) else 50
theorem refAsked5_any (b : Bf) (p : Option Addr) (c : Nat) (r : Bool) (w : World) (hB : BfAt w p c b) :
    Calls Try.prog 63 #[.agg (bfA b p c), .bool r] w fun e w' => e = .returned (.int .i64 (askE5 b r)) ∧ Below w.heap.size w w' := by
  obtain ⟨W0, hW0⟩ : ∃ W, W = w.alloc (.cells (bfA b p c) 24) := ⟨_, rfl⟩
  have HW0 := Lib.hid hW0
  have HE := Lib.hid (show Below w.heap.size w W0 by rw [hW0]; exact below_alloc _ _)
  have HR := Lib.hid (show Row W0 w.heap.size (bfA b p c) 24 by rw [hW0]; exact Row.new w _ _)
  have g0 := HR.out.cell 0 (v := .int .i64 b.pr) rfl
  have g1 := HR.out.cell 1 (v := .int .i64 b.le) rfl
  have g2 := HR.out.cell 2 (v := .int .i64 b.mo) rfl
  have g3 := HR.out.cell 3 (v := .int .i64 b.gr) rfl
  have g4 := HR.out.cell 4 (v := .slice p b.hs.length c) rfl
  clear hW0
  obtain ⟨z0, hz0⟩ : ∃ z : Later W0, W0 = z.w := ⟨⟨W0, Below.refl _ _⟩, rfl⟩
  have HZ0 := Lib.hid hz0
  clear hz0
  have HB := Lib.hid (hB.below HE.out)
  have HC := Lib.hid (fun w' (k : From W0 w') => refCheck_any b p c w' (HB.out.below k.b))
  clear hB
  cases hb : bookB b
  · have HV := Lib.hid (show askE5 b r = 50 by unfold askE5; rw [hb]; rfl)
    have HK := Lib.hid (bookE_bad hb)
    rw [HK.out] at HC
    clear hb
    go_enter Try.func63, Try.ntmps63
    go_wp2_with fail
    rw [← HW0.out, HZ0.out]
    refine (HC.out _ z0.fr).mono ?_
    rintro e u ⟨rfl, hbu⟩
    obtain ⟨z1, hz⟩ := z0.on hbu
    subst hz
    clear hbu
    go_wp2_with fail
    go_ret
    exact ⟨ret_int HV.out.symm, z1.base HE.out⟩
  · have HK := Lib.hid (bookE_ok hb)
    rw [HK.out] at HC
    cases r
    · have HV := Lib.hid (show askE5 b false = 51 by unfold askE5; rw [hb]; rfl)
      clear hb
      go_enter Try.func63, Try.ntmps63
      go_wp2_with fail
      rw [← HW0.out, HZ0.out]
      refine (HC.out _ z0.fr).mono ?_
      rintro e u ⟨rfl, hbu⟩
      obtain ⟨z1, hz⟩ := z0.on hbu
      subst hz
      clear hbu
      go_wp2_with fail
      go_ret
      exact ⟨ret_int HV.out.symm, z1.base HE.out⟩
    · have HV := Lib.hid (show askE5 b true = 0 by unfold askE5; rw [hb]; rfl)
      clear hb
      go_enter Try.func63, Try.ntmps63
      go_wp2_with fail
      rw [← HW0.out, HZ0.out]
      refine (HC.out _ z0.fr).mono ?_
      rintro e u ⟨rfl, hbu⟩
      obtain ⟨z1, hz⟩ := z0.on hbu
      subst hz
      clear hbu
      go_wp2_with fail
      go_ret
      exact ⟨ret_int HV.out.symm, z1.base HE.out⟩
set_option maxRecDepth 10000 in
set_option maxHeartbeats 1600000 in
theorem refLabel_any (b : Bf) (p : Option Addr) (c : Nat) (w : World) (hok : BfOk b) :
    Calls Try.prog 70 #[.agg (bfA b p c)] w fun e w' => e = .returned (.agg #[.int .i64 (b.pr - b.le), .int .i64 (b.pr + b.mo)]) ∧ Below w.heap.size w w' := by
  obtain ⟨W0, hW0⟩ : ∃ W, W = (w.alloc (.cells (bfA b p c) 24)).alloc (.cells #[.int .i64 0, .int .i64 0] 27) := ⟨_, rfl⟩
  have HW0 := Lib.hid hW0
  have HE := Lib.hid (show Below w.heap.size w W0 by rw [hW0]; exact below_alloc2 _ _ _)
  have HR := Lib.hid (show Row W0 w.heap.size (bfA b p c) 24 by rw [hW0]; exact (Row.new w _ _).alloc _)
  have HQ := Lib.hid (show Row W0 (w.heap.size + 1) #[.int .i64 0, .int .i64 0] 27 by rw [hW0]; exact Row.new1 w _ _ _)
  have g0 := HR.out.cell 0 (v := .int .i64 b.pr) rfl
  have g1 := HR.out.cell 1 (v := .int .i64 b.le) rfl
  have g2 := HR.out.cell 2 (v := .int .i64 b.mo) rfl
  have g3 := HR.out.cell 3 (v := .int .i64 b.gr) rfl
  have g4 := HR.out.cell 4 (v := .slice p b.hs.length c) rfl
  clear hW0
  obtain ⟨z0, hz0⟩ : ∃ z : Later W0, W0 = z.w := ⟨⟨W0, Below.refl _ _⟩, rfl⟩
  have HZ0 := Lib.hid hz0
  clear hz0
  have e1 : IntKind.i64.wrap (b.pr - b.le) = b.pr - b.le := IntWalk.i64_in _ (by have := hok.p1; have := hok.p2; have := hok.l1; have := hok.l2; omega)
  have e2 : IntKind.i64.wrap (b.pr + b.mo) = b.pr + b.mo := IntWalk.i64_in _ (by have := hok.p1; have := hok.p2; have := hok.m1; have := hok.m2; omega)
  clear hok
  go_enter Try.func70, Try.ntmps70
  go_wp2_with fail
  rw [← HW0.out, HZ0.out]
  refine (Sp_any _ _ _).mono ?_
  rintro e u ⟨rfl, hbu⟩
  have RQ := Lib.hid ((z0.fr.row HQ.out).below hbu (z0.fr.row HQ.out).lt)
  have hzq := HQ.out.lt
  obtain ⟨z1, hz⟩ := z0.on hbu
  subst hz
  clear hbu
  go_wp2_with (first | (refine store_row rfl 27 _ _ rfl _ #[.int .i64 (b.pr - b.le), .int .i64 (b.pr + b.mo)] _ _ rfl rfl RQ.out (by kernel_rfl) rfl (by simp [Value.oneCell']) ?_))
  have qq := RQ.out.setRow #[.int .i64 (b.pr - b.le), .int .i64 (b.pr + b.mo)]
  exact bodyPost_ret (v := .agg #[.int .i64 (b.pr - b.le), .int .i64 (b.pr + b.mo)]) (results_cell_row Try.results70 _ _ _ _ _ _ _ rfl qq Try.underlying27 rfl (by kernel_rfl)) rfl ⟨rfl, below_setRow (z1.base HE.out) (by omega) _⟩
set_option maxRecDepth 10000 in
set_option maxHeartbeats 1600000 in
theorem refIsBox_any (b : Bf) (p : Option Addr) (c : Nat) (x y : Int) (w : World) (hB : BfAt w p c b) :
    Calls Try.prog 69 #[.agg (bfA b p c), .int .i64 x, .int .i64 y] w fun e w' => e = .returned (.bool (boxB b x y)) ∧ Below w.heap.size w w' := by
  obtain ⟨W0, hW0⟩ : ∃ W, W = w.alloc (.cells (bfA b p c) 24) := ⟨_, rfl⟩
  have HW0 := Lib.hid hW0
  have HE := Lib.hid (show Below w.heap.size w W0 by rw [hW0]; exact below_alloc _ _)
  have HR := Lib.hid (show Row W0 w.heap.size (bfA b p c) 24 by rw [hW0]; exact Row.new w _ _)
  have g0 := HR.out.cell 0 (v := .int .i64 b.pr) rfl
  have g1 := HR.out.cell 1 (v := .int .i64 b.le) rfl
  have g2 := HR.out.cell 2 (v := .int .i64 b.mo) rfl
  have g3 := HR.out.cell 3 (v := .int .i64 b.gr) rfl
  have g4 := HR.out.cell 4 (v := .slice p b.hs.length c) rfl
  clear hW0
  obtain ⟨z0, hz0⟩ : ∃ z : Later W0, W0 = z.w := ⟨⟨W0, Below.refl _ _⟩, rfl⟩
  have HZ0 := Lib.hid hz0
  clear hz0
  have hn := hB.n
  have HF1 := Lib.hid (fun w' => Fits_any x 0 (b.hs.length : Int) w')
  have HF2 := Lib.hid (fun w' => Fits_any y 0 (b.hs.length : Int) w')
  have HF3 := Lib.hid (fun w' => Fits_any (y - x) 1 b.gr w')
  clear hB
  cases h1 : fits x 0 (b.hs.length : Int)
  · have HV := Lib.hid (show boxB b x y = false by
      unfold fits at h1; unfold boxB
      simp at h1 ⊢; omega)
    rw [h1] at HF1
    clear h1
    go_enter Try.func69, Try.ntmps69
    go_wp2_with (first | (go_at_call 55; (with_reducible refine (HF1.out _).mono ?_); rintro e w1 ⟨rfl, rfl⟩))
    go_ret
    exact ⟨ret_bool HV.out.symm, HW0.out ▸ HE.out⟩
  · have h1' := h1
    unfold fits at h1'
    simp only [Bool.and_eq_true, decide_eq_true_eq] at h1'
    rw [h1] at HF1
    cases h2 : fits y 0 (b.hs.length : Int)
    · have HV := Lib.hid (show boxB b x y = false by
        unfold fits at h2; unfold boxB
        simp at h2 ⊢; omega)
      rw [h2] at HF2
      clear h1 h2 h1'
      go_enter Try.func69, Try.ntmps69
      go_wp2_with (first | (go_at_call 55; (with_reducible refine (HF1.out _).mono ?_); rintro e w1 ⟨rfl, rfl⟩) | (go_at_call 55; (with_reducible refine (HF2.out _).mono ?_); rintro e w1 ⟨rfl, rfl⟩))
      go_ret
      exact ⟨ret_bool HV.out.symm, HW0.out ▸ HE.out⟩
    · have h2' := h2
      unfold fits at h2'
      simp only [Bool.and_eq_true, decide_eq_true_eq] at h2'
      rw [h2] at HF2
      have e1 : IntKind.i64.wrap (y - x) = y - x := IntWalk.i64_in _ (by omega)
      have HV := Lib.hid (show boxB b x y = fits (y - x) 1 b.gr by
        rw [Bool.eq_iff_iff]
        unfold boxB fits
        simp only [Bool.and_eq_true, decide_eq_true_eq]
        omega)
      clear h1 h2 h1' h2'
      go_enter Try.func69, Try.ntmps69
      go_wp2_with (first | (go_at_call 55; (with_reducible refine (HF1.out _).mono ?_); rintro e w1 ⟨rfl, rfl⟩) | (go_at_call 55; (with_reducible refine (HF2.out _).mono ?_); rintro e w1 ⟨rfl, rfl⟩) | (go_at_call 55; (with_reducible refine (HF3.out _).mono ?_); rintro e w1 ⟨rfl, rfl⟩))
      go_ret
      exact ⟨ret_bool HV.out.symm, HW0.out ▸ HE.out⟩
end Go.Proofs.Ytgdidhbomdfcpaa
/- Layer 5, in plain lists: sums of parts. -/
namespace Go.Proofs.Ytgdidhbomdfcpaa
open Go.RowKit Go.Maps

theorem lo_join (b : Bf) {x y z : Nat} (h1 : x ≤ y) (h2 : y ≤ z) : loB b x y + loB b y z = loB b x z := by unfold loB; rw [← sumF_append, part_join h1 h2]
theorem hi_join (b : Bf) {x y z : Nat} (h1 : x ≤ y) (h2 : y ≤ z) : hiB b x y + hiB b y z = hiB b x z := by unfold hiB; rw [← sumF_append, part_join h1 h2]
theorem lo_self (b : Bf) (x : Nat) : loB b x x = 0 := by unfold loB; rw [part_self]; rfl
theorem hi_self (b : Bf) (x : Nat) : hiB b x x = 0 := by unfold hiB; rw [part_self]; rfl
theorem lo_succ {b : Bf} {x y : Nat} (h : x ≤ y) (hy : y < b.hs.length) : loB b x (y + 1) = loB b x y + b.hs[y].lo := by unfold loB; rw [part_succ h hy, sumF_snoc]
theorem hi_succ {b : Bf} {x y : Nat} (h : x ≤ y) (hy : y < b.hs.length) : hiB b x (y + 1) = hiB b x y + b.hs[y].hi := by unfold hiB; rw [part_succ h hy, sumF_snoc]
theorem part_range {b : Bf} (hok : BfOk b) (x y : Nat) : (0 ≤ loB b x y ∧ loB b x y ≤ 1600) ∧ 0 ≤ hiB b x y ∧ hiB b x y ≤ 1600 := by
  have h8 := hok.n8
  have hl : (partL b.hs x y).length ≤ b.hs.length := by unfold partL; simp; omega
  have h1 := sumF_range (f := Hd.lo) (hs := partL b.hs x y) (B := 200) (by omega) (fun h hh => by have := hok.h h (partL_mem hh); have := this.l0; have := (hok.h h (partL_mem hh)).l1; have := (hok.h h (partL_mem hh)).l2; omega)
  have h2 := sumF_range (f := Hd.hi) (hs := partL b.hs x y) (B := 200) (by omega) (fun h hh => by have := hok.h h (partL_mem hh); have := this.l0; have := (hok.h h (partL_mem hh)).l1; have := (hok.h h (partL_mem hh)).l2; omega)
  unfold loB hiB
  omega
theorem below_setRow' {n : Nat} {w W : World} (h : Below n w W) {g : Nat} (hg : n ≤ g) (cs : Array Value) : Below n w (W.setRow g cs) := below_setRow h hg cs
/-- The sums of a plan's boxes. -/
theorem plan_sums {b : Bf} {l : List Int} (hok : BfOk b) (hp : planB b l = true) {k : Nat} (hk : k < l.length) :
    ∃ X Y : Nat, bgn l k = X ∧ at0 l k = Y ∧ X < Y ∧ Y ≤ b.hs.length ∧ bgn l (k + 1) = Y ∧ loB b 0 X + loB b X Y = loB b 0 Y ∧ hiB b 0 X + hiB b X Y = hiB b 0 Y := by
  have hbx := planTo_all (b := b) (l := l) (k := l.length) (by unfold planB at hp; rw [Bool.and_eq_true] at hp; exact hp.1) (i := k) hk
  unfold boxI boxB at hbx
  simp only [decide_eq_true_eq] at hbx
  refine ⟨(bgn l k).toNat, (at0 l k).toNat, by omega, by omega, by omega, by omega, by rw [bgn_succ]; omega, lo_join b (by omega) (by omega), hi_join b (by omega) (by omega)⟩
end Go.Proofs.Ytgdidhbomdfcpaa
/- The walks of the specification of layer 5: sum, right, Sum, Kind. -/
namespace Go.Proofs.Ytgdidhbomdfcpaa
open Go.RowKit Go.Maps
attribute [local go_sem] Oper.semAt_some

set_option maxHeartbeats 400000 in
theorem Wraps_any (a b c d : Int) (w : World) :
    Calls Try.prog 73 #[.agg #[.int .i64 a, .int .i64 b], .agg #[.int .i64 c, .int .i64 d]] w fun e w' => e = .returned (.bool (decide (a ≤ c) && decide (d ≤ b))) ∧ Below w.heap.size w w' := by
  by_cases h1 : a ≤ c
  · go_enter Try.func73, Try.ntmps73
    go_wp2
    go_ret
    exact ⟨ret_bool (by simp [h1]), below_alloc2 _ _ _⟩
  · have h1' : decide (a ≤ c) = false := by simpa using h1
    go_enter Try.func73, Try.ntmps73
    go_wp2
    go_ret
    exact ⟨ret_bool (by simp), below_alloc2 _ _ _⟩
theorem right_wraps (b : Bf) (x y : Nat) : (decide (b.pr - b.le ≤ loB b x y) && decide (hiB b x y ≤ b.pr + b.mo)) = rightB b x y := by
  rw [Bool.eq_iff_iff]
  unfold rightB kindB
  simp only [Bool.and_eq_true, decide_eq_true_eq, kindS_zero]
set_option maxRecDepth 10000 in
set_option maxHeartbeats 1600000 in
theorem refSumOf5_any (b : Bf) (p : Option Addr) (c : Nat) (x y : Nat) (w : World) (hB : BfAt w p c b) (hok : BfOk b) (hxy : x ≤ y) (hyn : y ≤ b.hs.length) :
    Calls Try.prog 64 #[.agg (bfA b p c), .int .i64 (x : Int), .int .i64 (y : Int)] w fun e w' => e = .returned (.agg #[.int .i64 (loB b x y), .int .i64 (hiB b x y)]) ∧ Below w.heap.size w w' := by
  obtain ⟨W0, hW0⟩ : ∃ W, W = (w.alloc (.cells (bfA b p c) 24)).alloc (.cells #[.int .i64 0, .int .i64 0] 27) := ⟨_, rfl⟩
  have HW0 := Lib.hid hW0
  have HE := Lib.hid (show Below w.heap.size w W0 by rw [hW0]; exact below_alloc2 _ _ _)
  have HR := Lib.hid (show Row W0 w.heap.size (bfA b p c) 24 by rw [hW0]; exact (Row.new w _ _).alloc _)
  have HQ := Lib.hid (show Row W0 (w.heap.size + 1) #[.int .i64 0, .int .i64 0] 27 by rw [hW0]; exact Row.new1 w _ _ _)
  have g0 := HR.out.cell 0 (v := .int .i64 b.pr) rfl
  have g1 := HR.out.cell 1 (v := .int .i64 b.le) rfl
  have g2 := HR.out.cell 2 (v := .int .i64 b.mo) rfl
  have g3 := HR.out.cell 3 (v := .int .i64 b.gr) rfl
  have g4 := HR.out.cell 4 (v := .slice p b.hs.length c) rfl
  clear hW0
  obtain ⟨z0, hz0⟩ : ∃ z : Later W0, W0 = z.w := ⟨⟨W0, Below.refl _ _⟩, rfl⟩
  have HZ0 := Lib.hid hz0
  clear hz0
  have HB := Lib.hid (hB.below HE.out)
  have hn8 := hok.n8
  have hzq := HQ.out.lt
  have HOK := Lib.hid hok
  have HDL := Lib.hid (fun i (h : i < b.hs.length) => hok.h _ (List.getElem_mem h))
  clear hB hok
  go_enter Try.func64, Try.ntmps64
  go_wp2_with fail
  rw [← HW0.out, HZ0.out]
  refine (Only_any _ _).mono ?_
  rintro e u ⟨rfl, hbu⟩
  obtain ⟨z1, hz⟩ := z0.on hbu
  subst hz
  clear hbu
  obtain ⟨Z, hZ⟩ : ∃ u, z1.w = u := ⟨_, rfl⟩
  have KZ := Lib.hid (show From W0 Z by rw [← hZ]; exact z1.fr)
  rw [hZ]
  clear hZ
  go_upto_region 2 with (first | (refine store_new rfl 27 _ _ rfl #[.int .i64 0, .int .i64 0] #[.int .i64 0, .int .i64 0] 27 rfl rfl (by kernel_rfl) rfl (by simp [Value.oneCell']) ?_))
  obtain ⟨ZA, hZA⟩ : ∃ u, Z.alloc (.cells #[.int .i64 0, .int .i64 0] 27) = u := ⟨_, rfl⟩
  have RW := Lib.hid (show Row ZA Z.heap.size #[.int .i64 0, .int .i64 0] 27 by rw [← hZA]; exact Row.new Z _ _)
  have KA := Lib.hid (show Below Z.heap.size Z ZA by rw [← hZA]; exact below_alloc _ _)
  rw [hZA]
  clear hZA
  obtain ⟨G, hG⟩ : ∃ x, Z.heap.size = x := ⟨_, rfl⟩
  have HG := Lib.hid hG
  rw [hG] at RW ⊢
  have gz4 := KZ.out.cell g4
  have HHZ := Lib.hid (HB.out.h.below KZ.out.b)
  clear g0 g1 g2 g3 g4 hG
  obtain ⟨x0', hx0⟩ := later_of KA.out
  subst hx0
  go_wp2_with fail
  go_loopw [8] (fun i wr => ∃ (k : Nat) (v : Later Z), x ≤ k ∧ k ≤ y ∧ i = .int .i64 (k : Int) ∧ Row v.w G #[.int .i64 (loB b x k), .int .i64 (hiB b x k)] 27 ∧ wr = v.w) (fun i _ => y - (intOf i).toNat)
  case atStart => exact ⟨x, x0', Nat.le_refl _, by omega, rfl, by rw [lo_self, hi_self]; exact RW.out, rfl⟩
  case round =>
    obtain ⟨k, v, hfk, hkt, rfl, hrow, rfl⟩ := hrel
    have HRW := Lib.hid hrow
    clear hrow
    by_cases hlt : k < y
    · have hkn : k < b.hs.length := by omega
      obtain ⟨bb, o, rfl, c0, c1⟩ := HHZ.out k hkn
      have hhd := HDL.out k hkn
      have hr2 := part_range HOK.out x k
      have HLN := Lib.hid (lo_succ hfk hkn)
      have HHN := Lib.hid (hi_succ hfk hkn)
      obtain ⟨lw, hlw⟩ : ∃ n, loB b x k = n := ⟨_, rfl⟩
      obtain ⟨hw, hhw⟩ : ∃ n, hiB b x k = n := ⟨_, rfl⟩
      rw [hlw] at HLN HRW hr2
      rw [hhw] at HHN HRW hr2
      have q1 := hhd.l0
      have q2 := hhd.l1
      have q3 := hhd.l2
      obtain ⟨lo, hlo⟩ : ∃ n, b.hs[k].lo = n := ⟨_, rfl⟩
      obtain ⟨hi, hhi⟩ : ∃ n, b.hs[k].hi = n := ⟨_, rfl⟩
      rw [hlo] at HLN c0 q1 q2
      rw [hhi] at HHN c1 q2 q3
      clear hlo hhi hlw hhw hhd
      have w0 := HRW.out.cell 0 (v := .int .i64 lw) rfl
      have w1 := HRW.out.cell 1 (v := .int .i64 hw) rfl
      have i1 : (0 : Int) ≤ (k : Int) := by omega
      have i2 : (k : Int) < (b.hs.length : Int) := by omega
      have i3 : (k : Int) < (y : Int) := by omega
      have e1 : IntKind.i64.wrap (lw + lo) = lw + lo := IntWalk.i64_in _ (by omega)
      have e2 : IntKind.i64.wrap (hw + hi) = hw + hi := IntWalk.i64_in _ (by omega)
      go_upto_region 5 with (fail)
      refine wp_region_tail 19 (by kernel_rfl) (by kernel_rfl) (by kernel_rfl) (by kernel_rfl) (by kernel_rfl) (by rfl) ?_
      simp only [List.take_succ_cons, List.take_zero, List.drop_succ_cons, List.drop_zero]
      repeat (go_big_quiet_step (first
        | (go_at_call 53; with_reducible exact Calls.later_of (Sp_any _ _ _))))
      refine wpQuiet_nil ?_
      intro _ hw'
      obtain ⟨y', hw''⟩ := hw'
      subst hw''
      have RY := Lib.hid (HRW.out.below y'.b HRW.out.lt)
      refine store_row rfl 27 _ _ rfl G #[.int .i64 (lw + lo), .int .i64 (hw + hi)] #[.int .i64 lw, .int .i64 hw] 27 rfl rfl RY.out (by kernel_rfl) rfl (by simp [Value.oneCell']) ?_
      have RN := Lib.hid (RY.out.setRow #[.int .i64 (lw + lo), .int .i64 (hw + hi)])
      obtain ⟨x2, hx2⟩ := later_of (below_setRow' (v.b.trans (y'.b.mono v.b.size)) (g := G) (by rw [HG.out]; exact Nat.le_refl _) #[.int .i64 (lw + lo), .int .i64 (hw + hi)])
      rw [hx2] at RN ⊢
      clear hx2 e1 e2 w0 w1
      go_wp2_with fail
      go_roundw
      case rel => exact ⟨k + 1, x2, by omega, by omega, by go_num, by rw [HLN.out, HHN.out]; exact RN.out, rfl⟩
      case measure => simp [intOf]; omega
    · obtain rfl : k = y := by omega
      obtain ⟨LO, hLO⟩ : ∃ n, loB b x k = n := ⟨_, rfl⟩
      obtain ⟨HI, hHI⟩ : ∃ n, hiB b x k = n := ⟨_, rfl⟩
      rw [hLO, hHI] at HRW
      have HEQ := Lib.hid (show Value.agg #[.int .i64 LO, .int .i64 HI] = .agg #[.int .i64 (loB b x k), .int .i64 (hiB b x k)] by rw [hLO, hHI])
      clear hLO hHI
      have w0 := HRW.out.cell 0 (v := .int .i64 LO) rfl
      have w1 := HRW.out.cell 1 (v := .int .i64 HI) rfl
      have RQ := Lib.hid (v.fr.row (KZ.out.row HQ.out))
      have BE := Lib.hid (HE.out.trans ((KZ.out.trans v.fr).b.mono HE.out.size))
      go_wp2_with (first | (refine store_row rfl 27 _ _ rfl _ #[.int .i64 LO, .int .i64 HI] _ _ rfl rfl RQ.out (by kernel_rfl) rfl (by simp [Value.oneCell']) ?_))
      have qq := RQ.out.setRow #[.int .i64 LO, .int .i64 HI]
      exact bodyPost_ret (v := .agg #[.int .i64 LO, .int .i64 HI]) (results_cell_row Try.results64 _ _ _ _ _ _ _ rfl qq Try.underlying27 rfl (by kernel_rfl)) rfl ⟨by rw [HEQ.out], below_setRow BE.out (by omega) _⟩
set_option maxRecDepth 10000 in
set_option maxHeartbeats 1600000 in
theorem refRight5_any (b : Bf) (p : Option Addr) (c : Nat) (x y : Nat) (w : World) (hB : BfAt w p c b) (hok : BfOk b) (hxy : x ≤ y) (hyn : y ≤ b.hs.length) :
    Calls Try.prog 78 #[.agg (bfA b p c), .int .i64 (x : Int), .int .i64 (y : Int)] w fun e w' => e = .returned (.bool (rightB b x y)) ∧ Below w.heap.size w w' := by
  obtain ⟨W0, hW0⟩ : ∃ W, W = w.alloc (.cells (bfA b p c) 24) := ⟨_, rfl⟩
  have HW0 := Lib.hid hW0
  have HE := Lib.hid (show Below w.heap.size w W0 by rw [hW0]; exact below_alloc _ _)
  have HR := Lib.hid (show Row W0 w.heap.size (bfA b p c) 24 by rw [hW0]; exact Row.new w _ _)
  have g0 := HR.out.cell 0 (v := .int .i64 b.pr) rfl
  have g1 := HR.out.cell 1 (v := .int .i64 b.le) rfl
  have g2 := HR.out.cell 2 (v := .int .i64 b.mo) rfl
  have g3 := HR.out.cell 3 (v := .int .i64 b.gr) rfl
  have g4 := HR.out.cell 4 (v := .slice p b.hs.length c) rfl
  clear hW0
  obtain ⟨z0, hz0⟩ : ∃ z : Later W0, W0 = z.w := ⟨⟨W0, Below.refl _ _⟩, rfl⟩
  have HZ0 := Lib.hid hz0
  clear hz0
  have HB := Lib.hid (hB.below HE.out)
  have HL := Lib.hid (fun w' => refLabel_any b p c w' hok)
  have HS := Lib.hid (fun w' (k : From W0 w') => refSumOf5_any b p c x y w' (HB.out.below k.b) hok hxy hyn)
  have HV := Lib.hid (right_wraps b x y)
  clear hB hok
  generalize loB b x y = lo at *
  generalize hiB b x y = hi at *
  go_enter Try.func78, Try.ntmps78
  go_upto_region 1 with (fail)
  rw [← HW0.out, HZ0.out]
  refine wp_region_later (by kernel_rfl) (by kernel_rfl) ?_
  repeat (go_big_quiet_step (first
    | (go_at_call 70; with_reducible exact Calls.later_of (HL.out _))
    | (go_at_call 64; with_reducible exact Calls.later_of (HS.out _ (From.trans z0.fr (Later.fr _))))
    | (go_at_call 73; with_reducible exact Calls.later_of (Wraps_any _ _ _ _ _))))
  refine wpQuiet_nil ?_
  intro _ hw'
  obtain ⟨yy, hw''⟩ := hw'
  subst hw''
  obtain ⟨z1, hy⟩ := z0.up yy
  rw [hy]
  clear hy
  go_wp2_with fail
  go_ret
  exact ⟨ret_bool HV.out, z1.base HE.out⟩
end Go.Proofs.Ytgdidhbomdfcpaa
/- The walks of the specification of layer 5: isPlan, IsPlan, begins, byHand, ByHand. -/
namespace Go.Proofs.Ytgdidhbomdfcpaa
open Go.RowKit Go.Maps
attribute [local go_sem] Oper.semAt_some

theorem planTo_false {b : Bf} {l : List Int} {k : Nat} (hk : k < l.length) (h : boxB b (bgn l k) (at0 l k) = false) : planB b l = false := by
  unfold planB
  cases hp : planTo b l l.length
  · rfl
  · have := planTo_all hp hk
    unfold boxI at this
    rw [h] at this
    cases this
set_option maxRecDepth 10000 in
set_option maxHeartbeats 1600000 in
theorem refBegins_any (q : Option Addr) (cq : Nat) (l : List Int) (k : Nat) (w : World) (hI : IntsAt w q l) (hk : k ≤ l.length) (hl : l.length ≤ 1000) :
    Calls Try.prog 79 #[.slice q l.length cq, .int .i64 (k : Int)] w fun e w' => e = .returned (.int .i64 (bgn l k)) ∧ Below w.heap.size w w' := by
  by_cases h0 : k = 0
  · subst h0
    go_enter Try.func79, Try.ntmps79
    go_wp2_with fail
    go_ret
    exact ⟨rfl, Below.refl _ _⟩
  · obtain ⟨j, rfl⟩ : ∃ j, k = j + 1 := ⟨k - 1, by omega⟩
    obtain ⟨g, o, rfl, hc⟩ := hI j (by omega)
    have HV := Lib.hid (bgn_succ l j)
    have e1 : IntKind.i64.wrap (((j + 1 : Nat) : Int) - 1) = (j : Int) := by rw [IntWalk.i64_in _ (by omega)]; omega
    have i1 : (0 : Int) ≤ (j : Int) := by omega
    have i2 : (j : Int) < (l.length : Int) := by omega
    have h3 : ¬ ((j + 1 : Nat) : Int) = 0 := by omega
    clear hI
    go_enter Try.func79, Try.ntmps79
    go_wp2_with fail
    go_ret
    exact ⟨ret_int HV.out.symm, Below.refl _ _⟩
set_option maxRecDepth 10000 in
set_option maxHeartbeats 1600000 in
theorem refIsPlanOf_any (b : Bf) (p : Option Addr) (c : Nat) (q : Option Addr) (cq : Nat) (l : List Int) (w : World) (hB : BfAt w p c b) (hI : IntsAt w q l) (hl : l.length ≤ maxLen) :
    Calls Try.prog 75 #[.agg (bfA b p c), .slice q l.length cq] w fun e w' => e = .returned (.bool (planB b l)) ∧ Below w.heap.size w w' := by
  obtain ⟨W0, hW0⟩ : ∃ W, W = w.alloc (.cells (bfA b p c) 24) := ⟨_, rfl⟩
  have HW0 := Lib.hid hW0
  have HE := Lib.hid (show Below w.heap.size w W0 by rw [hW0]; exact below_alloc _ _)
  have HR := Lib.hid (show Row W0 w.heap.size (bfA b p c) 24 by rw [hW0]; exact Row.new w _ _)
  have g0 := HR.out.cell 0 (v := .int .i64 b.pr) rfl
  have g1 := HR.out.cell 1 (v := .int .i64 b.le) rfl
  have g2 := HR.out.cell 2 (v := .int .i64 b.mo) rfl
  have g3 := HR.out.cell 3 (v := .int .i64 b.gr) rfl
  have g4 := HR.out.cell 4 (v := .slice p b.hs.length c) rfl
  clear hW0
  obtain ⟨z0, hz0⟩ : ∃ z : Later W0, W0 = z.w := ⟨⟨W0, Below.refl _ _⟩, rfl⟩
  have HZ0 := Lib.hid hz0
  clear hz0
  have HI := Lib.hid (hI.below HE.out)
  have HIB := Lib.hid (fun x y w' (k : From W0 w') => refIsBox_any b p c x y w' ((hB.below HE.out).below k.b))
  unfold maxLen at hl
  clear hB hI
  go_enter Try.func75, Try.ntmps75
  go_wp2_with fail
  rw [← HW0.out, HZ0.out]
  go_loopw [5, 6] (fun f i wr => ∃ (k : Nat) (x : Later W0), k ≤ l.length ∧ Hid (planTo b l k = true) ∧ f = .int .i64 (bgn l k) ∧ i = .int .i64 (k : Int) ∧ wr = x.w) (fun _ i _ => l.length - (intOf i).toNat)
  case atStart => exact ⟨0, z0, by omega, Lib.hid rfl, rfl, rfl, rfl⟩
  case round =>
    obtain ⟨k, x, hk, HP, rfl, rfl, rfl⟩ := hrel
    by_cases hlt : k < l.length
    · obtain ⟨bb, o, rfl, hc⟩ := HI.out k hlt
      have HN := Lib.hid (bgn_succ l k)
      have HS := Lib.hid (planTo_succ b l k)
      have HPF := Lib.hid (planTo_false (b := b) hlt)
      have HBX := Lib.hid (show boxI b l k = boxB b (bgn l k) (at0 l k) from rfl)
      obtain ⟨a, ha⟩ : ∃ a, bgn l k = a := ⟨_, rfl⟩
      obtain ⟨y, hy⟩ : ∃ y, at0 l k = y := ⟨_, rfl⟩
      have HB1 := Lib.hid (fun w' (kk : From W0 w') => HIB.out a y w' kk)
      rw [ha] at HPF HBX ⊢
      rw [hy] at HN HPF HBX hc
      clear ha hy
      have i1 : (0 : Int) ≤ (k : Int) := by omega
      have i2 : (k : Int) < (l.length : Int) := by omega
      cases hbx : boxB b a y
      · have HV := Lib.hid (HPF.out hbx)
        rw [hbx] at HB1
        clear hbx
        go_upto_region 5 with (fail)
        refine wp_region_later (by kernel_rfl) (by kernel_rfl) ?_
        repeat (go_big_quiet_step (first
          | (go_at_call 69; with_reducible exact Calls.later_of (HB1.out _ (From.trans (Later.fr _) (Later.fr _))))))
        refine wpQuiet_nil ?_
        intro _ hw'
        obtain ⟨yy, hw''⟩ := hw'
        subst hw''
        obtain ⟨x2, hy⟩ := x.up yy
        rw [hy]
        clear hy
        go_wp2_with fail
        go_ret
        exact ⟨ret_bool HV.out.symm, x2.base HE.out⟩
      · rw [hbx] at HB1 HBX
        clear hbx
        go_upto_region 5 with (fail)
        refine wp_region_later (by kernel_rfl) (by kernel_rfl) ?_
        repeat (go_big_quiet_step (first
          | (go_at_call 69; with_reducible exact Calls.later_of (HB1.out _ (From.trans (Later.fr _) (Later.fr _))))))
        refine wpQuiet_nil ?_
        intro _ hw'
        obtain ⟨yy, hw''⟩ := hw'
        subst hw''
        obtain ⟨x2, hy⟩ := x.up yy
        rw [hy]
        clear hy
        go_wp2_with fail
        go_roundw
        case rel => exact ⟨k + 1, x2, by omega, Lib.hid (by rw [HS.out, HP.out, HBX.out]; rfl), by rw [HN.out], by go_num, rfl⟩
        case measure => simp [intOf]; omega
    · obtain rfl : k = l.length := by omega
      have HV := Lib.hid (show planB b l = decide (bgn l l.length = (b.hs.length : Int)) by unfold planB; rw [HP.out, Bool.true_and])
      obtain ⟨a, ha⟩ : ∃ a, bgn l l.length = a := ⟨_, rfl⟩
      rw [ha] at HV ⊢
      clear ha
      go_wp2_with fail
      go_ret
      exact ⟨ret_bool (by rw [HV.out]; first | rfl | (rw [Bool.eq_iff_iff]; simp)), x.base HE.out⟩
set_option maxRecDepth 10000 in
set_option maxHeartbeats 1600000 in
theorem refIsPlan_any (b : Bf) (p : Option Addr) (c : Nat) (q : Option Addr) (cq : Nat) (l : List Int) (w : World) (hB : BfAt w p c b) (hI : IntsAt w q l) (hl : l.length ≤ maxLen) :
    Calls Try.prog 25 #[.agg (bfA b p c), .slice q l.length cq] w fun e w' => e = .returned (.tuple #[.bool (bookB b && planB b l), .int .i64 (bookE b)]) ∧ Below w.heap.size w w' := by
  obtain ⟨W0, hW0⟩ : ∃ W, W = w.alloc (.cells (bfA b p c) 24) := ⟨_, rfl⟩
  have HW0 := Lib.hid hW0
  have HE := Lib.hid (show Below w.heap.size w W0 by rw [hW0]; exact below_alloc _ _)
  have HR := Lib.hid (show Row W0 w.heap.size (bfA b p c) 24 by rw [hW0]; exact Row.new w _ _)
  have g0 := HR.out.cell 0 (v := .int .i64 b.pr) rfl
  have g1 := HR.out.cell 1 (v := .int .i64 b.le) rfl
  have g2 := HR.out.cell 2 (v := .int .i64 b.mo) rfl
  have g3 := HR.out.cell 3 (v := .int .i64 b.gr) rfl
  have g4 := HR.out.cell 4 (v := .slice p b.hs.length c) rfl
  clear hW0
  obtain ⟨z0, hz0⟩ : ∃ z : Later W0, W0 = z.w := ⟨⟨W0, Below.refl _ _⟩, rfl⟩
  have HZ0 := Lib.hid hz0
  clear hz0
  have HC := Lib.hid (fun w' (k : From W0 w') => refCheck_any b p c w' ((hB.below HE.out).below k.b))
  have HP := Lib.hid (fun w' (k : From W0 w') => refIsPlanOf_any b p c q cq l w' ((hB.below HE.out).below k.b) ((hI.below HE.out).below k.b) hl)
  clear hB hI
  cases hb : bookB b
  · have HK := Lib.hid (bookE_bad hb)
    rw [HK.out] at HC
    clear hb
    go_enter Try.func25, Try.ntmps25
    go_wp2_with fail
    rw [← HW0.out, HZ0.out]
    refine (HC.out _ z0.fr).mono ?_
    rintro e u ⟨rfl, hbu⟩
    obtain ⟨z1, hz⟩ := z0.on hbu
    subst hz
    clear hbu
    go_wp2_with fail
    go_ret2
    exact ⟨by rw [HK.out]; rfl, z1.base HE.out⟩
  · have HK := Lib.hid (bookE_ok hb)
    rw [HK.out] at HC
    clear hb
    go_enter Try.func25, Try.ntmps25
    go_wp2_with fail
    rw [← HW0.out, HZ0.out]
    refine (HC.out _ z0.fr).mono ?_
    rintro e u ⟨rfl, hbu⟩
    obtain ⟨z1, hz⟩ := z0.on hbu
    subst hz
    clear hbu
    go_wp2_with fail
    refine (HP.out _ z1.fr).mono ?_
    rintro e u ⟨rfl, hbu⟩
    obtain ⟨z2, hz⟩ := z1.on hbu
    subst hz
    clear hbu
    go_wp2_with fail
    go_ret2
    exact ⟨by rw [HK.out]; rfl, z2.base HE.out⟩
set_option maxRecDepth 10000 in
set_option maxHeartbeats 1600000 in
theorem refByHandOf_any (b : Bf) (p : Option Addr) (c : Nat) (q : Option Addr) (cq : Nat) (l : List Int) (w : World) (hB : BfAt w p c b) (hok : BfOk b) (hp : planB b l = true) (hI : IntsAt w q l) :
    Calls Try.prog 77 #[.agg (bfA b p c), .slice q l.length cq] w fun e w' => ∃ ph ch, e = .returned (.slice ph (handL b l).length ch) ∧ IntsAt w' ph (handL b l) ∧ Below w.heap.size w w' := by
  obtain ⟨i0, hi, hi0, hi1, hi2⟩ := info_parts Try.infoInt
  obtain ⟨W0, hW0⟩ : ∃ W, W = w.alloc (.cells (bfA b p c) 24) := ⟨_, rfl⟩
  have HW0 := Lib.hid hW0
  have HE := Lib.hid (show Below w.heap.size w W0 by rw [hW0]; exact below_alloc _ _)
  have HR := Lib.hid (show Row W0 w.heap.size (bfA b p c) 24 by rw [hW0]; exact Row.new w _ _)
  have g0 := HR.out.cell 0 (v := .int .i64 b.pr) rfl
  have g1 := HR.out.cell 1 (v := .int .i64 b.le) rfl
  have g2 := HR.out.cell 2 (v := .int .i64 b.mo) rfl
  have g3 := HR.out.cell 3 (v := .int .i64 b.gr) rfl
  have g4 := HR.out.cell 4 (v := .slice p b.hs.length c) rfl
  clear hW0
  obtain ⟨z0, hz0⟩ : ∃ z : Later W0, W0 = z.w := ⟨⟨W0, Below.refl _ _⟩, rfl⟩
  have HZ0 := Lib.hid hz0
  clear hz0
  have HI := Lib.hid (hI.below HE.out)
  have hn8 := hok.n8
  have hll := plan_len hp
  have HPS := Lib.hid (fun k (hk : k < l.length) => plan_sums hok hp hk)
  have HRG := Lib.hid (fun k (x y : Nat) (hx : x ≤ y) (hy : y ≤ b.hs.length) (r : Bool) (_ : k < l.length) (hr : rightB b x y = r) w' (kk : From W0 w') => (by have h := refRight5_any b p c x y w' ((hB.below HE.out).below kk.b) hok hx hy; rw [hr] at h; exact h : Calls Try.prog 78 #[.agg (bfA b p c), .int .i64 (x : Int), .int .i64 (y : Int)] w' fun e w'' => e = .returned (.bool r) ∧ Below w'.heap.size w' w''))
  clear hB hok hp hI
  go_enter Try.func77, Try.ntmps77
  go_wp2_with fail
  rw [← HW0.out, HZ0.out]
  go_loopw [5, 6] (fun ls i wr => ∃ (k : Nat) (x : Later W0), k ≤ l.length ∧ i = .int .i64 (k : Int) ∧ wr.ownsRow W0.heap.size 3 1 ls (handTo b l k).length ((handTo b l k).map (Value.int .i64)) ∧ wr = x.w) (fun _ i _ => l.length - (intOf i).toNat)
  case atStart => exact ⟨0, z0, by omega, rfl, World.ownsRow_nil _ _ _ _, rfl⟩
  case round =>
    obtain ⟨k, x, hk, rfl, hown, rfl⟩ := hrel
    obtain ⟨pl, cl, rfl⟩ := owns_slice hown
    have HO := Lib.hid hown
    clear hown
    by_cases hlt : k < l.length
    · obtain ⟨X, Y, hX, hY, hXY, hYn, _, _, _⟩ := HPS.out k hlt
      obtain ⟨bb, o, rfl, hc⟩ := HI.out k hlt
      rw [hY] at hc
      have HS := Lib.hid (handTo_succ b l k)
      have hhl : (handTo b l k).length ≤ k := by have := count_to b l k; omega
      have HRR := Lib.hid (show rightI b l k = rightB b X Y by
        show decide (kindS b (loB b (bgn l k).toNat (at0 l k).toNat) (hiB b (bgn l k).toNat (at0 l k).toNat) = 0) = _
        rw [hX, hY, Int.toNat_natCast, Int.toNat_natCast]
        rfl)
      have HBG := Lib.hid (fun w' (kk : From W0 w') => (by have h := refBegins_any (some ⟨bb, o, none⟩) cq l k w' (HI.out.below kk.b) hk (by omega); rw [hX] at h; exact h : Calls Try.prog 79 #[.slice (some ⟨bb, o, none⟩) l.length cq, .int .i64 (k : Int)] w' fun e w'' => e = .returned (.int .i64 (X : Int)) ∧ Below w'.heap.size w' w''))
      have i1 : (0 : Int) ≤ (k : Int) := by omega
      have i2 : (k : Int) < (l.length : Int) := by omega
      cases hr : rightB b X Y
      · have HR1 := Lib.hid (HRG.out k X Y (Nat.le_of_lt hXY) hYn false hlt hr)
        rw [hr] at HRR
        clear hr hX hY
        go_upto_region 5 with (fail)
        refine wp_region_later (by kernel_rfl) (by kernel_rfl) ?_
        repeat (go_big_quiet_step (first
          | (go_at_call 79; with_reducible exact Calls.later_of (HBG.out _ (From.trans (Later.fr _) (Later.fr _))))
          | (go_at_call 78; with_reducible exact Calls.later_of (HR1.out _ (From.trans (Later.fr _) (Later.fr _))))))
        refine wpQuiet_nil ?_
        intro _ hw'
        obtain ⟨yy, hw''⟩ := hw'
        subst hw''
        obtain ⟨x2, hy⟩ := x.up yy
        have HO2 := Lib.hid (by have h := owns_below HO.out yy.b; rw [hy] at h; exact h)
        rw [hy]
        clear hy
        have hzx := x2.b.size
        go_wp2_with (first
          | (at_builtin; (refine wpList_append_own _ rfl _ _ 38 rfl W0.heap.size 3 i0 (.int .i64 0) 1 8 Try.underlying38 hi hi0 hi1 hi2 rfl (by decide) _ _ _ rfl (HO2.out.alloc _) ⟨x2.w.heap.size, 0, none⟩ 1 1 [.int .i64 (k : Int)] rfl rfl (cell_one_new _ _ _) (by simp [Value.oneCell']) (by unfold maxLen; omega) (by omega) (by simp; omega) ?_); intro v' w2 hown' hgrow _; have HO3 := Lib.hid hown'; have hg2 : Below W0.heap.size x2.w w2 := ((Below.refl _ _).alloc (by omega) _).grown hgrow (by simp; omega) (fun k hk => (HO2.out.lt k hk).1); obtain ⟨x3, hx3⟩ := later_of (x2.b.trans hg2); clear hg2 hown' hgrow))
        subst hx3
        go_roundw
        case rel => exact ⟨k + 1, x3, by omega, by go_num, by rw [HS.out, HRR.out]; simpa using HO3.out, rfl⟩
        case measure => simp [intOf]; omega
      · have HR1 := Lib.hid (HRG.out k X Y (Nat.le_of_lt hXY) hYn true hlt hr)
        rw [hr] at HRR
        clear hr hX hY
        go_upto_region 5 with (fail)
        refine wp_region_later (by kernel_rfl) (by kernel_rfl) ?_
        repeat (go_big_quiet_step (first
          | (go_at_call 79; with_reducible exact Calls.later_of (HBG.out _ (From.trans (Later.fr _) (Later.fr _))))
          | (go_at_call 78; with_reducible exact Calls.later_of (HR1.out _ (From.trans (Later.fr _) (Later.fr _))))))
        refine wpQuiet_nil ?_
        intro _ hw'
        obtain ⟨yy, hw''⟩ := hw'
        subst hw''
        obtain ⟨x2, hy⟩ := x.up yy
        have HO2 := Lib.hid (by have h := owns_below HO.out yy.b; rw [hy] at h; exact h)
        rw [hy]
        clear hy
        go_wp2_with fail
        go_roundw
        case rel => exact ⟨k + 1, x2, by omega, by go_num, by rw [HS.out, HRR.out]; exact HO2.out, rfl⟩
        case measure => simp [intOf]; omega
    · obtain rfl : k = l.length := by omega
      obtain ⟨p', c', hv, hints, _⟩ := ints_of_owns2 HO.out
      cases hv
      have HIN := Lib.hid hints
      clear hints
      go_wp2_with fail
      go_ret
      exact ⟨_, _, rfl, HIN.out, x.base HE.out⟩
end Go.Proofs.Ytgdidhbomdfcpaa
/- The walks of the specification of layer 5: ByHand, Over. -/
namespace Go.Proofs.Ytgdidhbomdfcpaa
open Go.RowKit Go.Maps
attribute [local go_sem] Oper.semAt_some

/-- How many splints are given away, as far as some boxes go. -/
def overK (f : Hd → Int) (b : Bf) (l : List Int) (k : Nat) : Int := sumF f (rightTo b l k) - b.pr * ((rightTo b l k).length : Int)
theorem overK_zero (f : Hd → Int) (b : Bf) (l : List Int) : overK f b l 0 = 0 := by simp [overK, rightTo, sumF]
theorem overK_succ (f : Hd → Int) (b : Bf) (l : List Int) (k : Nat) : overK f b l (k + 1) = if rightI b l k then overK f b l k + f ⟨loI b l k, hiI b l k⟩ - b.pr else overK f b l k := by
  unfold overK
  rw [rightTo_succ]
  split
  · rw [sumF_snoc, List.length_append, List.length_singleton, Int.natCast_add, Int.mul_add]
    simp
    omega
  · rfl
theorem overK_range {f : Hd → Int} {b : Bf} (hok : BfOk b) (hf : ∀ x y : Nat, 0 ≤ f ⟨loB b x y, hiB b x y⟩ ∧ f ⟨loB b x y, hiB b x y⟩ ≤ 1600) (l : List Int) : ∀ k : Nat, -(500 * (k : Int)) ≤ overK f b l k ∧ overK f b l k ≤ 1600 * (k : Int)
  | 0 => by rw [overK_zero]; simp
  | k + 1 => by
    have ih := overK_range hok hf l k
    have h1 := hok.p1
    have h2 := hok.p2
    have h3 := hf (bgn l k).toNat (at0 l k).toNat
    rw [overK_succ]
    unfold loI hiI
    push_cast
    split <;> omega
set_option maxRecDepth 10000 in
set_option maxHeartbeats 1600000 in
theorem refByHand_no (b : Bf) (p : Option Addr) (c : Nat) (q : Option Addr) (cq : Nat) (l : List Int) (w : World) (hB : BfAt w p c b) (hI : IntsAt w q l) (hl : l.length ≤ maxLen) (ha : askE5 b (planB b l) ≠ 0) :
    Calls Try.prog 27 #[.agg (bfA b p c), .slice q l.length cq] w fun e w' => e = .returned (.tuple #[.slice none 0 0, .int .i64 (askE5 b (planB b l))]) ∧ Below w.heap.size w w' := by
  obtain ⟨W0, hW0⟩ : ∃ W, W = w.alloc (.cells (bfA b p c) 24) := ⟨_, rfl⟩
  have HW0 := Lib.hid hW0
  have HE := Lib.hid (show Below w.heap.size w W0 by rw [hW0]; exact below_alloc _ _)
  have HR := Lib.hid (show Row W0 w.heap.size (bfA b p c) 24 by rw [hW0]; exact Row.new w _ _)
  have g0 := HR.out.cell 0 (v := .int .i64 b.pr) rfl
  have g1 := HR.out.cell 1 (v := .int .i64 b.le) rfl
  have g2 := HR.out.cell 2 (v := .int .i64 b.mo) rfl
  have g3 := HR.out.cell 3 (v := .int .i64 b.gr) rfl
  have g4 := HR.out.cell 4 (v := .slice p b.hs.length c) rfl
  clear hW0
  obtain ⟨z0, hz0⟩ : ∃ z : Later W0, W0 = z.w := ⟨⟨W0, Below.refl _ _⟩, rfl⟩
  have HZ0 := Lib.hid hz0
  clear hz0
  have HIP := Lib.hid (fun w' (k : From W0 w') => refIsPlanOf_any b p c q cq l w' ((hB.below HE.out).below k.b) ((hI.below HE.out).below k.b) hl)
  have HAS := Lib.hid (fun w' (k : From W0 w') => refAsked5_any b p c (planB b l) w' ((hB.below HE.out).below k.b))
  clear hB hI
  generalize askE5 b (planB b l) = E at *
  go_enter Try.func27, Try.ntmps27
  go_upto_region 1 with (fail)
  rw [← HW0.out, HZ0.out]
  refine wp_region_later (by kernel_rfl) (by kernel_rfl) ?_
  repeat (go_big_quiet_step (first
    | (go_at_call 75; with_reducible exact Calls.later_of (HIP.out _ (From.trans (Later.fr _) (Later.fr _))))
    | (go_at_call 63; with_reducible exact Calls.later_of (HAS.out _ (From.trans (Later.fr _) (Later.fr _))))))
  refine wpQuiet_nil ?_
  intro _ hw'
  obtain ⟨yy, hw''⟩ := hw'
  subst hw''
  obtain ⟨z1, hy⟩ := z0.up yy
  rw [hy]
  clear hy
  go_wp2_with fail
  go_ret2
  exact ⟨rfl, z1.base HE.out⟩
set_option maxRecDepth 10000 in
set_option maxHeartbeats 1600000 in
theorem refByHand_yes (b : Bf) (p : Option Addr) (c : Nat) (q : Option Addr) (cq : Nat) (l : List Int) (w : World) (hB : BfAt w p c b) (hb : bookB b = true) (hI : IntsAt w q l) (hp : planB b l = true) :
    Calls Try.prog 27 #[.agg (bfA b p c), .slice q l.length cq] w fun e w' => ∃ ph ch, e = .returned (.tuple #[.slice ph (handL b l).length ch, .int .i64 0]) ∧ IntsAt w' ph (handL b l) ∧ Below w.heap.size w w' := by
  have hok := bookB_iff.1 hb
  have hl : l.length ≤ maxLen := by have := plan_len hp; have := hok.n8; unfold maxLen; omega
  obtain ⟨W0, hW0⟩ : ∃ W, W = w.alloc (.cells (bfA b p c) 24) := ⟨_, rfl⟩
  have HW0 := Lib.hid hW0
  have HE := Lib.hid (show Below w.heap.size w W0 by rw [hW0]; exact below_alloc _ _)
  have HR := Lib.hid (show Row W0 w.heap.size (bfA b p c) 24 by rw [hW0]; exact Row.new w _ _)
  have g0 := HR.out.cell 0 (v := .int .i64 b.pr) rfl
  have g1 := HR.out.cell 1 (v := .int .i64 b.le) rfl
  have g2 := HR.out.cell 2 (v := .int .i64 b.mo) rfl
  have g3 := HR.out.cell 3 (v := .int .i64 b.gr) rfl
  have g4 := HR.out.cell 4 (v := .slice p b.hs.length c) rfl
  clear hW0
  obtain ⟨z0, hz0⟩ : ∃ z : Later W0, W0 = z.w := ⟨⟨W0, Below.refl _ _⟩, rfl⟩
  have HZ0 := Lib.hid hz0
  clear hz0
  have HIP := Lib.hid (fun w' (k : From W0 w') => refIsPlanOf_any b p c q cq l w' ((hB.below HE.out).below k.b) ((hI.below HE.out).below k.b) hl)
  have HAS := Lib.hid (fun w' (k : From W0 w') => refAsked5_any b p c (planB b l) w' ((hB.below HE.out).below k.b))
  have HBH := Lib.hid (fun w' (k : From W0 w') => refByHandOf_any b p c q cq l w' ((hB.below HE.out).below k.b) hok hp ((hI.below HE.out).below k.b))
  have h0 : askE5 b (planB b l) = 0 := by unfold askE5; rw [hb, hp]; rfl
  rw [h0] at HAS
  rw [hp] at HIP HAS
  clear hB hI hb hp hok hl h0
  go_enter Try.func27, Try.ntmps27
  go_upto_region 1 with (fail)
  rw [← HW0.out, HZ0.out]
  refine wp_region_later (by kernel_rfl) (by kernel_rfl) ?_
  repeat (go_big_quiet_step (first
    | (go_at_call 75; with_reducible exact Calls.later_of (HIP.out _ (From.trans (Later.fr _) (Later.fr _))))
    | (go_at_call 63; with_reducible exact Calls.later_of (HAS.out _ (From.trans (Later.fr _) (Later.fr _))))))
  refine wpQuiet_nil ?_
  intro _ hw'
  obtain ⟨yy, hw''⟩ := hw'
  subst hw''
  obtain ⟨z1, hy⟩ := z0.up yy
  rw [hy]
  clear hy
  go_wp2_with fail
  refine (HBH.out _ z1.fr).mono ?_
  rintro e u ⟨ph, ch, rfl, hi, hbu⟩
  have HH := Lib.hid hi
  obtain ⟨z2, hz⟩ := z1.on hbu
  subst hz
  clear hbu hi
  go_wp2_with fail
  go_ret2
  exact ⟨ph, ch, rfl, HH.out, z2.base HE.out⟩
set_option maxRecDepth 10000 in
set_option maxHeartbeats 1600000 in
theorem refOver_no (b : Bf) (p : Option Addr) (c : Nat) (q : Option Addr) (cq : Nat) (l : List Int) (w : World) (hB : BfAt w p c b) (hI : IntsAt w q l) (hl : l.length ≤ maxLen) (ha : askE5 b (planB b l) ≠ 0) :
    Calls Try.prog 30 #[.agg (bfA b p c), .slice q l.length cq] w fun e w' => e = .returned (.tuple #[.agg #[.int .i64 0, .int .i64 0], .int .i64 (askE5 b (planB b l))]) ∧ Below w.heap.size w w' := by
  obtain ⟨W0, hW0⟩ : ∃ W, W = (w.alloc (.cells (bfA b p c) 24)).alloc (.cells #[.int .i64 0, .int .i64 0] 27) := ⟨_, rfl⟩
  have HW0 := Lib.hid hW0
  have HE := Lib.hid (show Below w.heap.size w W0 by rw [hW0]; exact below_alloc2 _ _ _)
  have HR := Lib.hid (show Row W0 w.heap.size (bfA b p c) 24 by rw [hW0]; exact (Row.new w _ _).alloc _)
  have HQ := Lib.hid (show Row W0 (w.heap.size + 1) #[.int .i64 0, .int .i64 0] 27 by rw [hW0]; exact Row.new1 w _ _ _)
  have g0 := HR.out.cell 0 (v := .int .i64 b.pr) rfl
  have g1 := HR.out.cell 1 (v := .int .i64 b.le) rfl
  have g2 := HR.out.cell 2 (v := .int .i64 b.mo) rfl
  have g3 := HR.out.cell 3 (v := .int .i64 b.gr) rfl
  have g4 := HR.out.cell 4 (v := .slice p b.hs.length c) rfl
  clear hW0
  obtain ⟨z0, hz0⟩ : ∃ z : Later W0, W0 = z.w := ⟨⟨W0, Below.refl _ _⟩, rfl⟩
  have HZ0 := Lib.hid hz0
  clear hz0
  have hzq := HQ.out.lt
  have HIP := Lib.hid (fun w' (k : From W0 w') => refIsPlanOf_any b p c q cq l w' ((hB.below HE.out).below k.b) ((hI.below HE.out).below k.b) hl)
  have HAS := Lib.hid (fun w' (k : From W0 w') => refAsked5_any b p c (planB b l) w' ((hB.below HE.out).below k.b))
  clear hB hI
  generalize askE5 b (planB b l) = E at *
  go_enter Try.func30, Try.ntmps30
  go_upto_region 1 with (fail)
  rw [← HW0.out, HZ0.out]
  refine wp_region_later (by kernel_rfl) (by kernel_rfl) ?_
  repeat (go_big_quiet_step (first
    | (go_at_call 75; with_reducible exact Calls.later_of (HIP.out _ (From.trans (Later.fr _) (Later.fr _))))
    | (go_at_call 63; with_reducible exact Calls.later_of (HAS.out _ (From.trans (Later.fr _) (Later.fr _))))))
  refine wpQuiet_nil ?_
  intro _ hw'
  obtain ⟨yy, hw''⟩ := hw'
  subst hw''
  obtain ⟨z1, hy⟩ := z0.up yy
  rw [hy]
  clear hy
  have HQ2 := Lib.hid (z1.fr.row HQ.out)
  have BE := Lib.hid (z1.base HE.out)
  have c0 := HQ2.out.cell 0 (v := .int .i64 0) rfl
  have c1 := HQ2.out.cell 1 (v := .int .i64 0) rfl
  have f0 := HQ2.out.free 0
  have f1 := HQ2.out.free 1
  go_wp2_with fail
  clear c0 c1 f0 f1
  have q := (HQ2.out.set 0 (.int .i64 (0))).set 1 (.int .i64 (0))
  have r0 := q.cell 0 (v := .int .i64 (0)) rfl
  have r1 := q.cell 1 (v := .int .i64 (0)) rfl
  exact bodyPost_ret (v := .tuple #[.agg #[.int .i64 (0), .int .i64 (0)], .int .i64 E]) (by simp [results, Try.results30, go_sem, r0, r1]) rfl ⟨rfl, (BE.out.setCell (by dsimp only; omega) _).setCell (by dsimp only; omega) _⟩
set_option maxRecDepth 100000 in
set_option maxHeartbeats 6400000 in
theorem refOver_yes (b : Bf) (p : Option Addr) (c : Nat) (q : Option Addr) (cq : Nat) (l : List Int) (w : World) (hB : BfAt w p c b) (hb : bookB b = true) (hI : IntsAt w q l) (hp : planB b l = true) :
    Calls Try.prog 30 #[.agg (bfA b p c), .slice q l.length cq] w fun e w' => e = .returned (.tuple #[.agg #[.int .i64 (overV Hd.lo b l), .int .i64 (overV Hd.hi b l)], .int .i64 0]) ∧ Below w.heap.size w w' := by
  have hok := bookB_iff.1 hb
  have hll := plan_len hp
  have hn8 := hok.n8
  have hl : l.length ≤ maxLen := by unfold maxLen; omega
  obtain ⟨W0, hW0⟩ : ∃ W, W = (w.alloc (.cells (bfA b p c) 24)).alloc (.cells #[.int .i64 0, .int .i64 0] 27) := ⟨_, rfl⟩
  have HW0 := Lib.hid hW0
  have HE := Lib.hid (show Below w.heap.size w W0 by rw [hW0]; exact below_alloc2 _ _ _)
  have HR := Lib.hid (show Row W0 w.heap.size (bfA b p c) 24 by rw [hW0]; exact (Row.new w _ _).alloc _)
  have HQ := Lib.hid (show Row W0 (w.heap.size + 1) #[.int .i64 0, .int .i64 0] 27 by rw [hW0]; exact Row.new1 w _ _ _)
  have g0 := HR.out.cell 0 (v := .int .i64 b.pr) rfl
  have g1 := HR.out.cell 1 (v := .int .i64 b.le) rfl
  have g2 := HR.out.cell 2 (v := .int .i64 b.mo) rfl
  have g3 := HR.out.cell 3 (v := .int .i64 b.gr) rfl
  have g4 := HR.out.cell 4 (v := .slice p b.hs.length c) rfl
  clear hW0
  obtain ⟨z0, hz0⟩ : ∃ z : Later W0, W0 = z.w := ⟨⟨W0, Below.refl _ _⟩, rfl⟩
  have HZ0 := Lib.hid hz0
  clear hz0
  have hzq := HQ.out.lt
  have HB := Lib.hid (hB.below HE.out)
  have HI := Lib.hid (hI.below HE.out)
  have HIP := Lib.hid (fun w' (k : From W0 w') => refIsPlanOf_any b p c q cq l w' ((hB.below HE.out).below k.b) ((hI.below HE.out).below k.b) hl)
  have HAS := Lib.hid (fun w' (k : From W0 w') => refAsked5_any b p c (planB b l) w' ((hB.below HE.out).below k.b))
  have h0 : askE5 b (planB b l) = 0 := by unfold askE5; rw [hb, hp]; rfl
  rw [h0] at HAS
  rw [hp] at HIP HAS
  have HPS := Lib.hid (fun k (hk : k < l.length) => plan_sums hok hp hk)
  have HOK := Lib.hid hok
  have h1 := hok.p1
  have h2 := hok.p2
  clear hB hI hb hp hok hl h0
  go_enter Try.func30, Try.ntmps30
  go_upto_region 1 with (fail)
  rw [← HW0.out, HZ0.out]
  refine wp_region_later (by kernel_rfl) (by kernel_rfl) ?_
  repeat (go_big_quiet_step (first
    | (go_at_call 75; with_reducible exact Calls.later_of (HIP.out _ (From.trans (Later.fr _) (Later.fr _))))
    | (go_at_call 63; with_reducible exact Calls.later_of (HAS.out _ (From.trans (Later.fr _) (Later.fr _))))))
  refine wpQuiet_nil ?_
  intro _ hw'
  obtain ⟨yy, hw''⟩ := hw'
  subst hw''
  obtain ⟨z1, hy⟩ := z0.up yy
  rw [hy]
  clear hy
  go_wp2_with fail
  refine (Only_any _ _).mono ?_
  rintro e u ⟨rfl, hbu⟩
  obtain ⟨z2, hz⟩ := z1.on hbu
  subst hz
  clear hbu
  obtain ⟨Z, hZ⟩ : ∃ u, z2.w = u := ⟨_, rfl⟩
  have KZ := Lib.hid (show From W0 Z by rw [← hZ]; exact z2.fr)
  rw [hZ]
  clear hZ
  go_upto_region 5 with (first | (refine store_new rfl 27 _ _ rfl #[.int .i64 0, .int .i64 0] #[.int .i64 0, .int .i64 0] 27 rfl rfl (by kernel_rfl) rfl (by simp [Value.oneCell']) ?_))
  obtain ⟨ZA, hZA⟩ : ∃ u, Z.alloc (.cells #[.int .i64 0, .int .i64 0] 27) = u := ⟨_, rfl⟩
  have RW := Lib.hid (show Row ZA Z.heap.size #[.int .i64 0, .int .i64 0] 27 by rw [← hZA]; exact Row.new Z _ _)
  have KA := Lib.hid (show Below Z.heap.size Z ZA by rw [← hZA]; exact below_alloc _ _)
  rw [hZA]
  clear hZA
  obtain ⟨G, hG⟩ : ∃ x, Z.heap.size = x := ⟨_, rfl⟩
  have HG := Lib.hid hG
  rw [hG] at RW ⊢
  have gz0 := KZ.out.cell g0
  have gz1 := KZ.out.cell g1
  have gz2 := KZ.out.cell g2
  have gz3 := KZ.out.cell g3
  have gz4 := KZ.out.cell g4
  have HBZ := Lib.hid (HB.out.below KZ.out.b)
  have HIZ := Lib.hid (HI.out.below KZ.out.b)
  clear g0 g1 g2 g3 g4 hG
  obtain ⟨x0', hx0⟩ := later_of KA.out
  subst hx0
  go_wp2_with fail
  go_loopw [8] (fun i wr => ∃ (k : Nat) (v : Later Z), k ≤ l.length ∧ i = .int .i64 (k : Int) ∧ Row v.w G #[.int .i64 (overK Hd.lo b l k), .int .i64 (overK Hd.hi b l k)] 27 ∧ wr = v.w) (fun i _ => l.length - (intOf i).toNat)
  case atStart => exact ⟨0, x0', by omega, rfl, by rw [overK_zero, overK_zero]; exact RW.out, rfl⟩
  case round =>
    obtain ⟨k, v, hk, rfl, hrow, rfl⟩ := hrel
    have HRW := Lib.hid hrow
    clear hrow
    by_cases hlt : k < l.length
    · obtain ⟨X, Y', hX, hY, hXY, hYn, _, _, _⟩ := HPS.out k hlt
      obtain ⟨gl, ol, rfl, hcl⟩ := HIZ.out k hlt
      rw [hY] at hcl
      have HLN := Lib.hid (overK_succ Hd.lo b l k)
      have HHN := Lib.hid (overK_succ Hd.hi b l k)
      have HRR := Lib.hid (show rightI b l k = rightB b X Y' by
        show decide (kindS b (loB b (bgn l k).toNat (at0 l k).toNat) (hiB b (bgn l k).toNat (at0 l k).toNat) = 0) = _
        rw [hX, hY, Int.toNat_natCast, Int.toNat_natCast]
        rfl)
      have hlo : loI b l k = loB b X Y' := by unfold loI; rw [hX, hY, Int.toNat_natCast, Int.toNat_natCast]
      have hhi : hiI b l k = hiB b X Y' := by unfold hiI; rw [hX, hY, Int.toNat_natCast, Int.toNat_natCast]
      rw [hlo, hhi] at HLN HHN
      have hr2 := part_range HOK.out X Y'
      have hr3 := overK_range (f := Hd.lo) HOK.out (fun x y => (part_range HOK.out x y).1) l k
      have hr4 := overK_range (f := Hd.hi) HOK.out (fun x y => (part_range HOK.out x y).2) l k
      have HBG := Lib.hid (fun w' (kk : From Z w') => (by have h := refBegins_any (some ⟨gl, ol, none⟩) cq l k w' (HIZ.out.below kk.b) hk (by omega); rw [hX] at h; exact h : Calls Try.prog 79 #[.slice (some ⟨gl, ol, none⟩) l.length cq, .int .i64 (k : Int)] w' fun e w'' => e = .returned (.int .i64 (X : Int)) ∧ Below w'.heap.size w' w''))
      obtain ⟨lw, hlw⟩ : ∃ n, overK Hd.lo b l k = n := ⟨_, rfl⟩
      obtain ⟨hw, hhw⟩ : ∃ n, overK Hd.hi b l k = n := ⟨_, rfl⟩
      rw [hlw] at HLN HRW hr3
      rw [hhw] at HHN HRW hr4
      obtain ⟨LV, hLV⟩ : ∃ x, loB b X Y' = x := ⟨_, rfl⟩
      obtain ⟨HV, hHV⟩ : ∃ x, hiB b X Y' = x := ⟨_, rfl⟩
      have HSV := Lib.hid (fun w' (kk : From Z w') => (by have h := refSumOf5_any b p c X Y' w' (HBZ.out.below kk.b) HOK.out (Nat.le_of_lt hXY) hYn; rw [hLV, hHV] at h; exact h : Calls Try.prog 64 #[.agg (bfA b p c), .int .i64 (X : Int), .int .i64 (Y' : Int)] w' fun e w'' => e = .returned (.agg #[.int .i64 LV, .int .i64 HV]) ∧ Below w'.heap.size w' w''))
      rw [hLV] at HLN HHN hr2
      rw [hHV] at HHN HLN hr2
      have i1 : (0 : Int) ≤ (k : Int) := by omega
      have i2 : (k : Int) < (l.length : Int) := by omega
      clear hlo hhi hX hY hlw hhw hLV hHV
      cases hr : rightB b X Y'
      · have HR1 := Lib.hid (fun w' (kk : From Z w') => (by have h := refRight5_any b p c X Y' w' (HBZ.out.below kk.b) HOK.out (Nat.le_of_lt hXY) hYn; rw [hr] at h; exact h : Calls Try.prog 78 #[.agg (bfA b p c), .int .i64 (X : Int), .int .i64 (Y' : Int)] w' fun e w'' => e = .returned (.bool false) ∧ Below w'.heap.size w' w''))
        rw [hr] at HRR
        clear hr
        go_upto_region 8 with (fail)
        refine wp_region_later (by kernel_rfl) (by kernel_rfl) ?_
        repeat (go_big_quiet_step (first
          | (go_at_call 79; with_reducible exact Calls.later_of (HBG.out _ (From.trans (Later.fr _) (Later.fr _))))
          | (go_at_call 78; with_reducible exact Calls.later_of (HR1.out _ (From.trans (Later.fr _) (Later.fr _))))))
        refine wpQuiet_nil ?_
        intro _ hw'
        obtain ⟨yy, hw''⟩ := hw'
        subst hw''
        obtain ⟨x2, hy⟩ := v.up yy
        have HRW2 := Lib.hid (by have h := HRW.out.below yy.b HRW.out.lt; rw [hy] at h; exact h)
        rw [hy]
        clear hy
        go_wp2_with fail
        go_roundw
        case rel => exact ⟨k + 1, x2, by omega, by go_num, by rw [HLN.out, HHN.out, HRR.out]; exact HRW2.out, rfl⟩
        case measure => simp [intOf]; omega
      · have HR1 := Lib.hid (fun w' (kk : From Z w') => (by have h := refRight5_any b p c X Y' w' (HBZ.out.below kk.b) HOK.out (Nat.le_of_lt hXY) hYn; rw [hr] at h; exact h : Calls Try.prog 78 #[.agg (bfA b p c), .int .i64 (X : Int), .int .i64 (Y' : Int)] w' fun e w'' => e = .returned (.bool true) ∧ Below w'.heap.size w' w''))
        rw [hr] at HRR
        clear hr
        go_upto_region 8 with (fail)
        refine wp_region_later (by kernel_rfl) (by kernel_rfl) ?_
        repeat (go_big_quiet_step (first
          | (go_at_call 79; with_reducible exact Calls.later_of (HBG.out _ (From.trans (Later.fr _) (Later.fr _))))
          | (go_at_call 78; with_reducible exact Calls.later_of (HR1.out _ (From.trans (Later.fr _) (Later.fr _))))))
        refine wpQuiet_nil ?_
        intro _ hw'
        obtain ⟨yy, hw''⟩ := hw'
        subst hw''
        obtain ⟨x, hy⟩ := v.up yy
        have HRW := Lib.hid (by have h := HRW.out.below yy.b HRW.out.lt; rw [hy] at h; exact h)
        rw [hy]
        clear hy
        have KI := Lib.hid (From.refl x.w)
        have HSK := Lib.hid (fun w' (kk : From x.w w') => (⟨kk.cell (x.fr.cell gz0), kk.cell (x.fr.cell gz1), kk.cell (x.fr.cell gz2), kk.cell (x.fr.cell gz3), kk.cell (x.fr.cell gz4), kk.cell (x.fr.cell hcl)⟩ : w'.cell? ⟨w.heap.size, 0, none⟩ = some (.int .i64 b.pr) ∧ w'.cell? ⟨w.heap.size, 1, none⟩ = some (.int .i64 b.le) ∧ w'.cell? ⟨w.heap.size, 2, none⟩ = some (.int .i64 b.mo) ∧ w'.cell? ⟨w.heap.size, 3, none⟩ = some (.int .i64 b.gr) ∧ w'.cell? ⟨w.heap.size, 4, none⟩ = some (.slice p b.hs.length c) ∧ w'.cell? ⟨gl, ol + k, none⟩ = some (.int .i64 (Y' : Int))))
        go_upto_region 9 with (fail)
        go_cut [9] from 35 to 43 (fun a wx => ∃ (vb : Nat) (z : Later x.w), a = .pointer (some ⟨vb, 0, none⟩) ∧ Row z.w vb #[.int .i64 LV, .int .i64 HV] 27 ∧ wx = z.w)
        case first =>
          go_region_held3 (fun w' => w'.cell? ⟨w.heap.size, 0, none⟩ = some (.int .i64 b.pr) ∧ w'.cell? ⟨w.heap.size, 1, none⟩ = some (.int .i64 b.le) ∧ w'.cell? ⟨w.heap.size, 2, none⟩ = some (.int .i64 b.mo) ∧ w'.cell? ⟨w.heap.size, 3, none⟩ = some (.int .i64 b.gr) ∧ w'.cell? ⟨w.heap.size, 4, none⟩ = some (.slice p b.hs.length c) ∧ w'.cell? ⟨gl, ol + k, none⟩ = some (.int .i64 (Y' : Int)))
            (first | with_reducible exact HSK.out _ KI.out | with_reducible exact HSK.out _ KI.out.drew | with_reducible exact HSK.out _ (KI.out.below (below_alloc _ _)) | with_reducible exact HSK.out _ (KI.out.drew.below (below_alloc _ _)) | with_reducible exact HSK.out _ (KI.out.below (below_alloc _ _)).drew | exact HSK.out _ ((KI.out.setN HAL.out 0 _).setN HAL.out 1 _))
            (first
              | (go_at_call 79; (with_reducible refine (HBG.out _ (by first | with_reducible exact x.fr.trans (KI.out.below (below_alloc _ _)).drew | with_reducible exact x.fr.trans (KI.out.drew.below (below_alloc _ _)) | with_reducible exact x.fr.trans (KI.out.below (below_alloc _ _)))).mono ?_); rintro e u ⟨rfl, hbu⟩; have HZR := Lib.hid (by first | with_reducible exact (Row.new _ #[.int .i64 0, .int .i64 0] 27).drew.below hbu (by simp) | with_reducible exact (Row.new _ #[.int .i64 0, .int .i64 0] 27).below hbu (by simp)); have HAL := Lib.hid KI.out.b.size; have KI := Lib.hid (by first | with_reducible exact (KI.out.below (below_alloc _ _)).drew.below hbu | with_reducible exact (KI.out.drew.below (below_alloc _ _)).below hbu | with_reducible exact (KI.out.below (below_alloc _ _)).below hbu); have q0 := HZR.out.cell 0 (v := .int .i64 0) rfl; have q1 := HZR.out.cell 1 (v := .int .i64 0) rfl; have f0 := HZR.out.free 0; have f1 := HZR.out.free 1; clear hbu)
              | (go_at_call 79; (with_reducible refine (HBG.out _ (by first | with_reducible exact x.fr.trans KI.out.drew | with_reducible exact x.fr.trans KI.out)).mono ?_); rintro e u ⟨rfl, hbu⟩; have KI := Lib.hid (by first | with_reducible exact KI.out.drew.below hbu | with_reducible exact KI.out.below hbu); (try (have HZR := Lib.hid (HZR.out.below hbu HZR.out.lt); have q0 := HZR.out.cell 0 (v := .int .i64 0) rfl; have q1 := HZR.out.cell 1 (v := .int .i64 0) rfl; have f0 := HZR.out.free 0; have f1 := HZR.out.free 1)); clear hbu)
              | (go_at_call 64; (with_reducible refine (HSV.out _ (by first | with_reducible exact x.fr.trans (KI.out.below (below_alloc _ _)).drew | with_reducible exact x.fr.trans (KI.out.drew.below (below_alloc _ _)) | with_reducible exact x.fr.trans (KI.out.below (below_alloc _ _)))).mono ?_); rintro e u ⟨rfl, hbu⟩; have HZR := Lib.hid (by first | with_reducible exact (Row.new _ #[.int .i64 0, .int .i64 0] 27).drew.below hbu (by simp) | with_reducible exact (Row.new _ #[.int .i64 0, .int .i64 0] 27).below hbu (by simp)); have HAL := Lib.hid KI.out.b.size; have KI := Lib.hid (by first | with_reducible exact (KI.out.below (below_alloc _ _)).drew.below hbu | with_reducible exact (KI.out.drew.below (below_alloc _ _)).below hbu | with_reducible exact (KI.out.below (below_alloc _ _)).below hbu); have q0 := HZR.out.cell 0 (v := .int .i64 0) rfl; have q1 := HZR.out.cell 1 (v := .int .i64 0) rfl; have f0 := HZR.out.free 0; have f1 := HZR.out.free 1; clear hbu)
              | (go_at_call 64; (with_reducible refine (HSV.out _ (by first | with_reducible exact x.fr.trans KI.out.drew | with_reducible exact x.fr.trans KI.out)).mono ?_); rintro e u ⟨rfl, hbu⟩; have KI := Lib.hid (by first | with_reducible exact KI.out.drew.below hbu | with_reducible exact KI.out.below hbu); (try (have HZR := Lib.hid (HZR.out.below hbu HZR.out.lt); have q0 := HZR.out.cell 0 (v := .int .i64 0) rfl; have q1 := HZR.out.cell 1 (v := .int .i64 0) rfl; have f0 := HZR.out.free 0; have f1 := HZR.out.free 1)); clear hbu))
          all_goals
            go_wp2_with fail
            go_meet
            first
              | exact ⟨_, ⟨_, (KI.out.below (below_alloc _ _)).b⟩, rfl, Row.new _ _ _, rfl⟩
              | exact ⟨_, ⟨_, ((KI.out.setN HAL.out 0 _).setN HAL.out 1 _).b⟩, rfl, (HZR.out.set 0 _).set 1 _, rfl⟩
        case rest =>
          obtain ⟨vb, z, rfl, hrz, rfl⟩ := hcut
          have HVR := Lib.hid hrz
          have HRW := Lib.hid (HRW.out.below z.b HRW.out.lt)
          obtain ⟨x5, hx5⟩ := x.up z
          rw [hx5] at HVR HRW ⊢
          clear hx5 hrz
          have w0 := HRW.out.cell 0 (v := .int .i64 lw) rfl
          have w1 := HRW.out.cell 1 (v := .int .i64 hw) rfl
          have v0 := HVR.out.cell 0 (v := .int .i64 LV) rfl
          have v1 := HVR.out.cell 1 (v := .int .i64 HV) rfl
          have e1 : IntKind.i64.wrap (lw + LV) = lw + LV := IntWalk.i64_in _ (by omega)
          have e2 : IntKind.i64.wrap (hw + HV) = hw + HV := IntWalk.i64_in _ (by omega)
          have e3 : IntKind.i64.wrap (lw + LV - b.pr) = lw + LV - b.pr := IntWalk.i64_in _ (by omega)
          have e4 : IntKind.i64.wrap (hw + HV - b.pr) = hw + HV - b.pr := IntWalk.i64_in _ (by omega)
          go_wp2_with fail
          refine (Sp_any _ _ _).mono ?_
          rintro e u ⟨rfl, hbu⟩
          have RY := Lib.hid (HRW.out.below hbu HRW.out.lt)
          have hb7 := x5.b.trans (hbu.mono x5.b.size)
          have RN := Lib.hid (RY.out.setRow #[.int .i64 (lw + LV - b.pr), .int .i64 (hw + HV - b.pr)])
          obtain ⟨x6, hx6⟩ := later_of (below_setRow' hb7 (g := G) (by rw [HG.out]; exact Nat.le_refl _) #[.int .i64 (lw + LV - b.pr), .int .i64 (hw + HV - b.pr)])
          go_wp2_with (first | (refine store_row rfl 27 _ _ rfl G #[.int .i64 (lw + LV - b.pr), .int .i64 (hw + HV - b.pr)] #[.int .i64 lw, .int .i64 hw] 27 rfl rfl RY.out (by kernel_rfl) rfl (by simp [Value.oneCell']) ?_; rw [hx6]))
          rw [hx6] at RN
          clear hx6 e1 e2 e3 e4 w0 w1 v0 v1 hbu hb7
          go_roundw
          case rel => exact ⟨k + 1, x6, by omega, by go_num, by rw [HLN.out, HHN.out, HRR.out]; exact RN.out, rfl⟩
          case measure => simp [intOf]; omega
    · obtain rfl : k = l.length := by omega
      have HEQ1 := Lib.hid (show overK Hd.lo b l l.length = overV Hd.lo b l from rfl)
      have HEQ2 := Lib.hid (show overK Hd.hi b l l.length = overV Hd.hi b l from rfl)
      rw [HEQ1.out, HEQ2.out] at HRW
      obtain ⟨LO, hLO⟩ : ∃ n, overV Hd.lo b l = n := ⟨_, rfl⟩
      obtain ⟨HI', hHI⟩ : ∃ n, overV Hd.hi b l = n := ⟨_, rfl⟩
      rw [hLO, hHI] at HRW
      have HEQ := Lib.hid (show Value.tuple #[.agg #[.int .i64 LO, .int .i64 HI'], .int .i64 0] = .tuple #[.agg #[.int .i64 (overV Hd.lo b l), .int .i64 (overV Hd.hi b l)], .int .i64 0] by rw [hLO, hHI])
      clear hLO hHI HEQ1 HEQ2
      have w0 := HRW.out.cell 0 (v := .int .i64 LO) rfl
      have w1 := HRW.out.cell 1 (v := .int .i64 HI') rfl
      have HQ2 := Lib.hid (v.fr.row (KZ.out.row HQ.out))
      have BE := Lib.hid (HE.out.trans ((KZ.out.trans v.fr).b.mono HE.out.size))
      have c0 := HQ2.out.cell 0 (v := .int .i64 0) rfl
      have c1 := HQ2.out.cell 1 (v := .int .i64 0) rfl
      have f0 := HQ2.out.free 0
      have f1 := HQ2.out.free 1
      go_wp2_with fail
      clear c0 c1 f0 f1 w0 w1
      have q := (HQ2.out.set 0 (.int .i64 (LO))).set 1 (.int .i64 (HI'))
      have r0 := q.cell 0 (v := .int .i64 (LO)) rfl
      have r1 := q.cell 1 (v := .int .i64 (HI')) rfl
      exact bodyPost_ret (v := .tuple #[.agg #[.int .i64 (LO), .int .i64 (HI')], .int .i64 0]) (by simp [results, Try.results30, go_sem, r0, r1]) rfl ⟨by rw [HEQ.out], (BE.out.setCell (by dsimp only; omega) _).setCell (by dsimp only; omega) _⟩
end Go.Proofs.Ytgdidhbomdfcpaa
/- The law FillPlans: what is told of plans is what the chapter says. -/
namespace Go.Proofs.Ytgdidhbomdfcpaa
open Go.RowKit Go.Maps
attribute [local go_sem] Oper.semAt_some

theorem alike_same (p q : Option Addr) (c d : Nat) (xs : List Int) (w : World) (hn : xs.length ≤ 1000) (hc : IntsAt w p xs) (hd : IntsAt w q xs) :
    Calls Try.prog 28 #[.slice p xs.length c, .slice q xs.length d] w fun e w' => e = .returned (.bool true) ∧ Below w.heap.size w w' := by
  have h := Alike_any p q c d xs xs w (by unfold maxLen; omega) hc hd
  simpa using h
/-- The list and the error that a call returns. -/
def GaveLE (L : List Int) (E : Int) (w : World) (e : Ending) (w' : World) : Prop := ∃ ph ch, e = .returned (.tuple #[.slice ph L.length ch, .int .i64 E]) ∧ IntsAt w' ph L ∧ Below w.heap.size w w'
theorem GaveLE.empty {E : Int} {f : FuncId} {args : Array Value} {w : World} (h : Calls Try.prog f args w fun e w' => e = .returned (.tuple #[.slice none 0 0, .int .i64 E]) ∧ Below w.heap.size w w') : Calls Try.prog f args w (GaveLE [] E w) :=
  h.mono fun _ _ ⟨he, hb⟩ => ⟨none, 0, he, fun i hi => by simp at hi, hb⟩
theorem isplan_both (b : Bf) (p : Option Addr) (c : Nat) (q : Option Addr) (cq : Nat) (l : List Int) (W : World) (hB : BfAt W p c b) (hI : IntsAt W q l) (hl : l.length < 2 ^ 62) (h64 : ∀ i, i < l.length → I64 (at0 l i)) :
    ∃ (v : Bool) (E : Int), (∀ w, From W w → Calls Try.prog 24 #[.agg (bfA b p c), .slice q l.length cq] w fun e w' => e = .returned (.tuple #[.bool v, .int .i64 E]) ∧ Below w.heap.size w w') ∧
      ∀ w, From W w → Calls Try.prog 25 #[.agg (bfA b p c), .slice q l.length cq] w fun e w' => e = .returned (.tuple #[.bool v, .int .i64 E]) ∧ Below w.heap.size w w' := by
  have hm : l.length ≤ maxLen := by unfold maxLen; omega
  have hr := fun w (k : From W w) => refIsPlan_any b p c q cq l w (hB.below k.b) (hI.below k.b) hm
  cases hb : bookB b
  · rw [hb, bookE_bad hb] at hr
    exact ⟨false, 50, fun w k => IsPlan_bad b p c q cq l w (hB.below k.b) hb, hr⟩
  · rw [hb, bookE_ok hb, Bool.true_and] at hr
    exact ⟨_, 0, fun w k => IsPlan_yes b p c q cq l w (hB.below k.b) hb (hI.below k.b) hl h64, hr⟩
theorem byhand_both (b : Bf) (p : Option Addr) (c : Nat) (q : Option Addr) (cq : Nat) (l : List Int) (W : World) (hB : BfAt W p c b) (hI : IntsAt W q l) (hl : l.length < 2 ^ 62) (h64 : ∀ i, i < l.length → I64 (at0 l i)) :
    ∃ (L : List Int) (E : Int), L.length ≤ 1000 ∧ (∀ w, From W w → Calls Try.prog 26 #[.agg (bfA b p c), .slice q l.length cq] w (GaveLE L E w)) ∧
      ∀ w, From W w → Calls Try.prog 27 #[.agg (bfA b p c), .slice q l.length cq] w (GaveLE L E w) := by
  have hm : l.length ≤ maxLen := by unfold maxLen; omega
  cases hb : bookB b
  · have h0 : askE5 b (planB b l) = 50 := by unfold askE5; rw [hb]; rfl
    refine ⟨[], 50, by simp, fun w k => GaveLE.empty (ByHand_bad b p c q cq l w (hB.below k.b) hb), fun w k => GaveLE.empty ?_⟩
    have h := refByHand_no b p c q cq l w (hB.below k.b) (hI.below k.b) hm (by rw [h0]; decide)
    rw [h0] at h
    exact h
  · cases hp : planB b l
    · have h0 : askE5 b (planB b l) = 51 := by unfold askE5; rw [hb, hp]; rfl
      refine ⟨[], 51, by simp, fun w k => GaveLE.empty (ByHand_no b p c q cq l w (hB.below k.b) hb (hI.below k.b) hl h64 hp), fun w k => GaveLE.empty ?_⟩
      have h := refByHand_no b p c q cq l w (hB.below k.b) (hI.below k.b) hm (by rw [h0]; decide)
      rw [h0] at h
      exact h
    · refine ⟨handL b l, 0, ?_, fun w k => ByHand_yes b p c q cq l w (hB.below k.b) hb (hI.below k.b) hl h64 hp, fun w k => refByHand_yes b p c q cq l w (hB.below k.b) hb (hI.below k.b) hp⟩
      have h1 := count_to b l l.length
      have h2 := plan_len hp
      have h3 := (bookB_iff.1 hb).n8
      unfold handL
      omega
theorem over_both (b : Bf) (p : Option Addr) (c : Nat) (q : Option Addr) (cq : Nat) (l : List Int) (W : World) (hB : BfAt W p c b) (hI : IntsAt W q l) (hl : l.length < 2 ^ 62) (h64 : ∀ i, i < l.length → I64 (at0 l i)) :
    ∃ lo hi E : Int, (∀ w, From W w → Calls Try.prog 29 #[.agg (bfA b p c), .slice q l.length cq] w fun e w' => e = .returned (.tuple #[.agg #[.int .i64 lo, .int .i64 hi], .int .i64 E]) ∧ Below w.heap.size w w') ∧
      ∀ w, From W w → Calls Try.prog 30 #[.agg (bfA b p c), .slice q l.length cq] w fun e w' => e = .returned (.tuple #[.agg #[.int .i64 lo, .int .i64 hi], .int .i64 E]) ∧ Below w.heap.size w w' := by
  have hm : l.length ≤ maxLen := by unfold maxLen; omega
  cases hb : bookB b
  · have h0 : askE5 b (planB b l) = 50 := by unfold askE5; rw [hb]; rfl
    refine ⟨0, 0, 50, fun w k => Over_bad b p c q cq l w (hB.below k.b) hb, fun w k => ?_⟩
    have h := refOver_no b p c q cq l w (hB.below k.b) (hI.below k.b) hm (by rw [h0]; decide)
    rw [h0] at h
    exact h
  · cases hp : planB b l
    · have h0 : askE5 b (planB b l) = 51 := by unfold askE5; rw [hb, hp]; rfl
      refine ⟨0, 0, 51, fun w k => Over_no b p c q cq l w (hB.below k.b) hb (hI.below k.b) hl h64 hp, fun w k => ?_⟩
      have h := refOver_no b p c q cq l w (hB.below k.b) (hI.below k.b) hm (by rw [h0]; decide)
      rw [h0] at h
      exact h
    · exact ⟨_, _, 0, fun w k => Over_yes b p c q cq l w (hB.below k.b) hb (hI.below k.b) hl h64 hp, fun w k => refOver_yes b p c q cq l w (hB.below k.b) hb (hI.below k.b) hp⟩

set_option maxRecDepth 10000 in
set_option maxHeartbeats 3200000 in
theorem FillPlans_any (b : Bf) (p : Option Addr) (c : Nat) (q : Option Addr) (cq : Nat) (l : List Int) (w : World) (hB : BfAt w p c b) (hI : IntsAt w q l) (hl : l.length < 2 ^ 62) (h64 : ∀ i, i < l.length → I64 (at0 l i)) :
    Calls Try.prog 4 #[.agg (bfA b p c), .slice q l.length cq] w fun e w' => e = .returned (.bool true) ∧ Below w.heap.size w w' := by
  obtain ⟨W0, hW0⟩ : ∃ W, W = w.alloc (.cells (bfA b p c) 24) := ⟨_, rfl⟩
  have HW0 := Lib.hid hW0
  have HE := Lib.hid (show Below w.heap.size w W0 by rw [hW0]; exact below_alloc _ _)
  have HR := Lib.hid (show Row W0 w.heap.size (bfA b p c) 24 by rw [hW0]; exact Row.new w _ _)
  have g0 := HR.out.cell 0 (v := .int .i64 b.pr) rfl
  have g1 := HR.out.cell 1 (v := .int .i64 b.le) rfl
  have g2 := HR.out.cell 2 (v := .int .i64 b.mo) rfl
  have g3 := HR.out.cell 3 (v := .int .i64 b.gr) rfl
  have g4 := HR.out.cell 4 (v := .slice p b.hs.length c) rfl
  clear hW0
  obtain ⟨z0, hz0⟩ : ∃ z : Later W0, W0 = z.w := ⟨⟨W0, Below.refl _ _⟩, rfl⟩
  have HZ0 := Lib.hid hz0
  clear hz0
  obtain ⟨v1, E1, hA1, hA2⟩ := isplan_both b p c q cq l W0 (hB.below HE.out) (hI.below HE.out) hl h64
  obtain ⟨L, E2, hLn, hB1, hB2⟩ := byhand_both b p c q cq l W0 (hB.below HE.out) (hI.below HE.out) hl h64
  obtain ⟨lo, hi, E3, hC1, hC2⟩ := over_both b p c q cq l W0 (hB.below HE.out) (hI.below HE.out) hl h64
  have A1 := Lib.hid hA1
  have A2 := Lib.hid hA2
  have B1 := Lib.hid hB1
  have B2 := Lib.hid hB2
  have C1 := Lib.hid hC1
  have C2 := Lib.hid hC2
  clear hA1 hA2 hB1 hB2 hC1 hC2 hB hI h64
  go_enter Try.func4, Try.ntmps4
  go_wp2_with fail
  rw [← HW0.out, HZ0.out]
  refine (A1.out _ z0.fr).mono ?_
  rintro e u ⟨rfl, hbu⟩
  obtain ⟨z1, hz⟩ := z0.on hbu
  subst hz
  clear hbu
  go_wp2_with fail
  refine (A2.out _ z1.fr).mono ?_
  rintro e u ⟨rfl, hbu⟩
  obtain ⟨z2, hz⟩ := z1.on hbu
  subst hz
  clear hbu
  go_wp2_with fail
  refine (B1.out _ z2.fr).mono ?_
  rintro e u ⟨p1, c1, rfl, hi1, hbu⟩
  have HL1 := Lib.hid hi1
  obtain ⟨z3, hz⟩ := z2.on hbu
  subst hz
  clear hbu hi1
  go_wp2_with fail
  refine (B2.out _ z3.fr).mono ?_
  rintro e u ⟨p2, c2, rfl, hi1, hbu⟩
  have HL1 := Lib.hid (HL1.out.below hbu)
  have HL2 := Lib.hid hi1
  obtain ⟨z4, hz⟩ := z3.on hbu
  subst hz
  clear hbu hi1
  go_wp2_with fail
  refine (alike_same _ _ _ _ L _ hLn HL1.out HL2.out).mono ?_
  rintro e u ⟨rfl, hbu⟩
  obtain ⟨z5, hz⟩ := z4.on hbu
  subst hz
  clear hbu
  go_wp2_with fail
  refine (C1.out _ z5.fr).mono ?_
  rintro e u ⟨rfl, hbu⟩
  obtain ⟨z6, hz⟩ := z5.on hbu
  subst hz
  clear hbu
  go_upto_region 10 with (first | (refine store_new rfl 27 _ _ rfl #[.int .i64 lo, .int .i64 hi] #[.int .i64 0, .int .i64 0] 27 rfl rfl (by kernel_rfl) rfl (by simp [Value.oneCell']) ?_))
  obtain ⟨WN, hWN⟩ : ∃ u, z6.w.alloc (.cells #[.int .i64 lo, .int .i64 hi] 27) = u := ⟨_, rfl⟩
  have R1 := Lib.hid (show Row WN z6.w.heap.size #[.int .i64 lo, .int .i64 hi] 27 by rw [← hWN]; exact Row.new z6.w _ _)
  have hbu : Below z6.w.heap.size z6.w WN := by rw [← hWN]; exact below_alloc _ _
  rw [hWN]
  clear hWN
  obtain ⟨BR1, hBR1⟩ : ∃ x, z6.w.heap.size = x := ⟨_, rfl⟩
  rw [hBR1] at R1 ⊢
  clear hBR1
  obtain ⟨z7, hz⟩ := z6.on hbu
  subst hz
  clear hbu
  go_wp2_with fail
  refine (C2.out _ z7.fr).mono ?_
  rintro e u ⟨rfl, hbu⟩
  have R1 := Lib.hid (R1.out.below hbu R1.out.lt)
  obtain ⟨z8, hz⟩ := z7.on hbu
  subst hz
  clear hbu
  go_upto_region 11 with (first | (refine store_new rfl 27 _ _ rfl #[.int .i64 lo, .int .i64 hi] #[.int .i64 0, .int .i64 0] 27 rfl rfl (by kernel_rfl) rfl (by simp [Value.oneCell']) ?_))
  obtain ⟨WN, hWN⟩ : ∃ u, z8.w.alloc (.cells #[.int .i64 lo, .int .i64 hi] 27) = u := ⟨_, rfl⟩
  have R2 := Lib.hid (show Row WN z8.w.heap.size #[.int .i64 lo, .int .i64 hi] 27 by rw [← hWN]; exact Row.new z8.w _ _)
  have hbu : Below z8.w.heap.size z8.w WN := by rw [← hWN]; exact below_alloc _ _
  rw [hWN]
  clear hWN
  have R1 := Lib.hid (R1.out.below hbu R1.out.lt)
  obtain ⟨BR2, hBR2⟩ : ∃ x, z8.w.heap.size = x := ⟨_, rfl⟩
  rw [hBR2] at R2 ⊢
  clear hBR2
  obtain ⟨z9, hz⟩ := z8.on hbu
  subst hz
  clear hbu
  have r10 := R1.out.cell 0 (v := .int .i64 lo) rfl
  have r11 := R1.out.cell 1 (v := .int .i64 hi) rfl
  have r20 := R2.out.cell 0 (v := .int .i64 lo) rfl
  have r21 := R2.out.cell 1 (v := .int .i64 hi) rfl
  go_wp2_with fail
  refine (filled_any _).mono ?_
  rintro e u ⟨rfl, hbu⟩
  obtain ⟨z10, hz⟩ := z9.on hbu
  subst hz
  clear hbu
  go_wp2_with fail
  go_ret
  exact ⟨rfl, z10.base HE.out⟩
end Go.Proofs.Ytgdidhbomdfcpaa
/- Layer 5, in plain lists: all choices of so many handfuls; the least and the most that any of them has. -/
namespace Go.Proofs.Ytgdidhbomdfcpaa
open Go.RowKit Go.Maps
attribute [local go_sem] Oper.semAt_some

set_option maxRecDepth 10000 in
theorem In8_any (s i : Nat) (w : World) (hs : s < 256) (hi : i < 8) :
    Calls Try.prog 47 #[.int .i64 s, .int .i64 i] w fun e w' => e = .returned (.bool (inS s i)) ∧ w = w' := by
  go_enter Try.func47, Try.ntmps47
  go_wp2_with fail
  go_ret
  exact ⟨rfl, rfl⟩
/-- The members of a set below a number. -/
def marksN (s n : Nat) : List Nat := (List.range n).filter (inS s)
theorem marksN_succ (s n : Nat) : marksN s (n + 1) = if inS s n then marksN s n ++ [n] else marksN s n := by
  unfold marksN
  rw [List.range_succ, List.filter_append]
  cases h : inS s n <;> simp [h]
theorem marksN_length (s n : Nat) : (marksN s n).length ≤ n := by
  unfold marksN
  exact Nat.le_trans (List.length_filter_le _ _) (by simp)
theorem marksN_lt {s n i : Nat} (h : i ∈ marksN s n) : i < n := List.mem_range.1 (List.mem_filter.1 h).1
def marksL (s n : Nat) : List Int := (marksN s n).map fun (i : Nat) => (i : Int)
theorem bits_all : ∀ b0 b1 b2 b3 b4 b5 b6 b7 : Bool, ((List.range 256).any fun s => decide (inS s 0 = b0 ∧ inS s 1 = b1 ∧ inS s 2 = b2 ∧ inS s 3 = b3 ∧ inS s 4 = b4 ∧ inS s 5 = b5 ∧ inS s 6 = b6 ∧ inS s 7 = b7)) = true := by decide +kernel
theorem bits_low : ((List.range 9).all fun n => (List.range 256).all fun s => decide (s < 2 ^ n) || ((List.range 8).any fun i => decide (n ≤ i) && inS s i)) = true := by decide +kernel
theorem set_of (p : Nat → Bool) : ∃ s, s < 256 ∧ ∀ i, i < 8 → inS s i = p i := by
  obtain ⟨s, hs, h⟩ := List.any_eq_true.1 (bits_all (p 0) (p 1) (p 2) (p 3) (p 4) (p 5) (p 6) (p 7))
  simp only [decide_eq_true_eq] at h
  obtain ⟨h0, h1, h2, h3, h4, h5, h6, h7⟩ := h
  refine ⟨s, List.mem_range.1 hs, fun i hi => ?_⟩
  obtain rfl | rfl | rfl | rfl | rfl | rfl | rfl | rfl : i = 0 ∨ i = 1 ∨ i = 2 ∨ i = 3 ∨ i = 4 ∨ i = 5 ∨ i = 6 ∨ i = 7 := by omega
  all_goals assumption
theorem nodup_filter {n : Nat} {l : List Nat} (h : l.Sublist (List.range n)) : (List.range n).filter (fun i => decide (i ∈ l)) = l := by
  induction n generalizing l with
  | zero =>
    have : l = [] := List.sublist_nil.1 (by simpa using h)
    subst this
    rfl
  | succ n ih =>
    rw [List.range_succ] at h ⊢
    rw [List.filter_append]
    obtain ⟨a, c, rfl, ha, hc⟩ := List.sublist_append_iff.1 h
    have hn : n ∉ a := fun e => by
      have := List.mem_range.1 (ha.subset e)
      omega
    have hcn : c = [] ∨ c = [n] := by
      cases hc with
      | cons _ h2 => left; exact List.sublist_nil.1 h2
      | cons_cons _ h2 => right; rw [List.sublist_nil.1 h2]
    have e1 : (List.range n).filter (fun i => decide (i ∈ a ++ c)) = (List.range n).filter (fun i => decide (i ∈ a)) := by
      refine List.filter_congr fun i hi => ?_
      have hin := List.mem_range.1 hi
      rcases hcn with rfl | rfl
      · simp
      · simp; omega
    rw [e1, ih ha]
    congr 1
    rcases hcn with rfl | rfl
    · simp [hn]
    · simp
theorem set_of_sub {n : Nat} (hn : n ≤ 8) {l : List Nat} (h : l.Sublist (List.range n)) : ∃ s, s < 2 ^ n ∧ marksN s n = l := by
  obtain ⟨s, hs, hb⟩ := set_of fun i => decide (i ∈ l)
  have hout : ∀ i, n ≤ i → i ∉ l := fun i hi e => by
    have := List.mem_range.1 (h.subset e)
    omega
  refine ⟨s, ?_, ?_⟩
  · have h1 := List.all_eq_true.1 bits_low n (List.mem_range.2 (by omega))
    have h2 := List.all_eq_true.1 h1 s (List.mem_range.2 hs)
    rw [Bool.or_eq_true] at h2
    rcases h2 with h2 | h2
    · simpa using h2
    · obtain ⟨i, hi, h3⟩ := List.any_eq_true.1 h2
      rw [Bool.and_eq_true] at h3
      have h4 := hb i (List.mem_range.1 hi)
      rw [h3.2] at h4
      have h5 := hout i (by simpa using h3.1)
      simp [h5] at h4
  · unfold marksN
    rw [← nodup_filter h]
    refine List.filter_congr fun i hi => ?_
    rw [hb i (by have := List.mem_range.1 hi; omega)]
/-- What the handfuls of a set have. -/
def sumM (f : Hd → Int) (b : Bf) (s : Nat) : Int := ((marksN s b.hs.length).map fun i => f (handAt b i)).sum
theorem ends_range (f : Hd → Int) (b : Bf) : endL f b.hs = (List.range b.hs.length).map fun i => f (handAt b i) := by
  apply List.ext_getElem
  · simp [endL]
  · intro i h1 h2
    have hi : i < b.hs.length := by simpa [endL] using h1
    simp [endL, handAt_eq hi]
theorem marks_perm (f : Hd → Int) (b : Bf) (s : Nat) : (endL f b.hs).Perm (((marksN s b.hs.length).map fun i => f (handAt b i)) ++ ((List.range b.hs.length).filter fun i => !inS s i).map fun i => f (handAt b i)) := by
  rw [ends_range, ← List.map_append]
  exact ((List.filter_append_perm (inS s) (List.range b.hs.length)).map _).symm
theorem any_all {b : Bf} {s m : Nat} (h : (marksN s b.hs.length).length = m) : lowAny b m ≤ sumM Hd.lo b s ∧ sumM Hd.hi b s ≤ highAny b m := by
  refine ⟨?_, ?_⟩
  · have := least_sum _ _ _ (sortL_sorted _) ((sortL_perm _).trans (marks_perm Hd.lo b s))
    rw [List.length_map, h] at this
    exact this
  · have := most_sum (sortL_sorted _) ((sortL_perm _).trans (marks_perm Hd.hi b s))
    rw [List.length_map, h, sortL_length] at this
    unfold highAny
    have e : (endL Hd.hi b.hs).length = b.hs.length := by simp [endL]
    rw [e] at this
    exact this
theorem any_reach {f : Hd → Int} {b : Bf} (h8 : b.hs.length ≤ 8) {t : List Int} (ht : t.Sublist (sortL (endL f b.hs))) : ∃ s, s < 2 ^ b.hs.length ∧ (marksN s b.hs.length).length = t.length ∧ sumM f b s = t.sum := by
  obtain ⟨u, hu, hsub⟩ := List.exists_perm_sublist ht (sortL_perm _)
  rw [ends_range] at hsub
  obtain ⟨l, hl, rfl⟩ := List.sublist_map_iff.1 hsub
  obtain ⟨s, hs, hm⟩ := set_of_sub h8 hl
  refine ⟨s, hs, ?_, ?_⟩
  · rw [hm, ← hu.length_eq, List.length_map]
  · unfold sumM
    rw [hm]
    exact sum_perm hu
/-- All choices are right just if the least and the greatest are. -/
theorem any_iff {b : Bf} (h8 : b.hs.length ≤ 8) {m : Nat} (hm : m ≤ b.hs.length) :
    (∀ s, s < 2 ^ b.hs.length → (marksN s b.hs.length).length = m → b.pr - b.le ≤ sumM Hd.lo b s ∧ sumM Hd.hi b s ≤ b.pr + b.mo) ↔ b.pr - b.le ≤ lowAny b m ∧ highAny b m ≤ b.pr + b.mo := by
  constructor
  · intro h
    have e1 : (sortL (endL Hd.lo b.hs)).length = b.hs.length := by rw [sortL_length]; simp [endL]
    have e2 : (sortL (endL Hd.hi b.hs)).length = b.hs.length := by rw [sortL_length]; simp [endL]
    obtain ⟨s, hs, h1, h2⟩ := any_reach (f := Hd.lo) h8 (List.take_sublist m _)
    obtain ⟨s', hs', h1', h2'⟩ := any_reach (f := Hd.hi) h8 (List.drop_sublist (b.hs.length - m) _)
    rw [List.length_take, e1] at h1
    rw [List.length_drop, e2] at h1'
    have a1 := (h s hs (by omega)).1
    have a2 := (h s' hs' (by omega)).2
    rw [h2] at a1
    rw [h2'] at a2
    exact ⟨a1, a2⟩
  · intro ⟨h1, h2⟩ s _ hl
    have := any_all hl
    omega
end Go.Proofs.Ytgdidhbomdfcpaa
/- The walks of the specification of layer 5: Sum, Kind, Marks, Any. -/
namespace Go.Proofs.Ytgdidhbomdfcpaa
open Go.RowKit Go.Maps
attribute [local go_sem] Oper.semAt_some

theorem fieldS0 (a b : Int) (w : World) : (Instr.field 27 (.agg #[.int .i64 a, .int .i64 b]) 0).run Try.prog w = .ok (.int .i64 a) w := by
  simp [Instr.field, go_sem, Try.underlying27, asAgg]
theorem fieldS1 (a b : Int) (w : World) : (Instr.field 27 (.agg #[.int .i64 a, .int .i64 b]) 1).run Try.prog w = .ok (.int .i64 b) w := by
  simp [Instr.field, go_sem, Try.underlying27, asAgg]
attribute [local go_sem] fieldS0 fieldS1

set_option maxRecDepth 10000 in
set_option maxHeartbeats 1600000 in
theorem refSum_no1 (b : Bf) (p : Option Addr) (c : Nat) (x y : Int) (w : World) (hB : BfAt w p c b) (hf : fits x 0 y = false) :
    Calls Try.prog 16 #[.agg (bfA b p c), .int .i64 x, .int .i64 y] w fun e w' => e = .returned (.tuple #[.agg #[.int .i64 0, .int .i64 0], .int .i64 (askE5 b false)]) ∧ Below w.heap.size w w' := by
  obtain ⟨W0, hW0⟩ : ∃ W, W = (w.alloc (.cells (bfA b p c) 24)).alloc (.cells #[.int .i64 0, .int .i64 0] 27) := ⟨_, rfl⟩
  have HW0 := Lib.hid hW0
  have HE := Lib.hid (show Below w.heap.size w W0 by rw [hW0]; exact below_alloc2 _ _ _)
  have HR := Lib.hid (show Row W0 w.heap.size (bfA b p c) 24 by rw [hW0]; exact (Row.new w _ _).alloc _)
  have HQ := Lib.hid (show Row W0 (w.heap.size + 1) #[.int .i64 0, .int .i64 0] 27 by rw [hW0]; exact Row.new1 w _ _ _)
  have g0 := HR.out.cell 0 (v := .int .i64 b.pr) rfl
  have g1 := HR.out.cell 1 (v := .int .i64 b.le) rfl
  have g2 := HR.out.cell 2 (v := .int .i64 b.mo) rfl
  have g3 := HR.out.cell 3 (v := .int .i64 b.gr) rfl
  have g4 := HR.out.cell 4 (v := .slice p b.hs.length c) rfl
  clear hW0
  obtain ⟨z0, hz0⟩ : ∃ z : Later W0, W0 = z.w := ⟨⟨W0, Below.refl _ _⟩, rfl⟩
  have HZ0 := Lib.hid hz0
  clear hz0
  have hzq := HQ.out.lt
  have HF := Lib.hid (fun w' => (by have h := Fits_any x 0 y w'; rw [hf] at h; exact h : Calls Try.prog 55 #[.int .i64 x, .int .i64 0, .int .i64 y] w' fun e w'' => e = .returned (.bool false) ∧ w' = w''))
  have HAS := Lib.hid (fun w' (k : From W0 w') => refAsked5_any b p c false w' ((hB.below HE.out).below k.b))
  have hne : askE5 b false ≠ 0 := by unfold askE5; cases bookB b <;> simp
  obtain ⟨E, hE⟩ : ∃ n, askE5 b false = n := ⟨_, rfl⟩
  rw [hE] at HAS hne
  have HEE := Lib.hid hE
  clear hB hf hE
  go_enter Try.func16, Try.ntmps16
  go_upto_region 1 with (fail)
  rw [← HW0.out, HZ0.out]
  refine wp_region_later (by kernel_rfl) (by kernel_rfl) ?_
  repeat (go_big_quiet_step (first
    | (go_at_call 55; with_reducible exact Calls.later_same (HF.out _))
    | (go_at_call 63; with_reducible exact Calls.later_of (HAS.out _ (From.trans (Later.fr _) (Later.fr _))))))
  refine wpQuiet_nil ?_
  intro _ hw'
  obtain ⟨yy, hw''⟩ := hw'
  subst hw''
  obtain ⟨z1, hy⟩ := z0.up yy
  rw [hy]
  clear hy
  have HQ2 := Lib.hid (z1.fr.row HQ.out)
  have BE := Lib.hid (z1.base HE.out)
  have c0 := HQ2.out.cell 0 (v := .int .i64 0) rfl
  have c1 := HQ2.out.cell 1 (v := .int .i64 0) rfl
  have f0 := HQ2.out.free 0
  have f1 := HQ2.out.free 1
  go_wp2_with fail
  clear c0 c1 f0 f1
  have q := (HQ2.out.set 0 (.int .i64 (0))).set 1 (.int .i64 (0))
  have r0 := q.cell 0 (v := .int .i64 (0)) rfl
  have r1 := q.cell 1 (v := .int .i64 (0)) rfl
  exact bodyPost_ret (v := .tuple #[.agg #[.int .i64 (0), .int .i64 (0)], .int .i64 E]) (by simp [results, Try.results16, go_sem, r0, r1]) rfl ⟨by rw [HEE.out], (BE.out.setCell (by dsimp only; omega) _).setCell (by dsimp only; omega) _⟩
set_option maxRecDepth 10000 in
set_option maxHeartbeats 1600000 in
theorem refSum_no2 (b : Bf) (p : Option Addr) (c : Nat) (x y : Int) (w : World) (hB : BfAt w p c b) (hf : fits x 0 y = true) (ha : askE5 b (decide (y ≤ (b.hs.length : Int))) ≠ 0) :
    Calls Try.prog 16 #[.agg (bfA b p c), .int .i64 x, .int .i64 y] w fun e w' => e = .returned (.tuple #[.agg #[.int .i64 0, .int .i64 0], .int .i64 (askE5 b (decide (y ≤ (b.hs.length : Int))))]) ∧ Below w.heap.size w w' := by
  obtain ⟨W0, hW0⟩ : ∃ W, W = (w.alloc (.cells (bfA b p c) 24)).alloc (.cells #[.int .i64 0, .int .i64 0] 27) := ⟨_, rfl⟩
  have HW0 := Lib.hid hW0
  have HE := Lib.hid (show Below w.heap.size w W0 by rw [hW0]; exact below_alloc2 _ _ _)
  have HR := Lib.hid (show Row W0 w.heap.size (bfA b p c) 24 by rw [hW0]; exact (Row.new w _ _).alloc _)
  have HQ := Lib.hid (show Row W0 (w.heap.size + 1) #[.int .i64 0, .int .i64 0] 27 by rw [hW0]; exact Row.new1 w _ _ _)
  have g0 := HR.out.cell 0 (v := .int .i64 b.pr) rfl
  have g1 := HR.out.cell 1 (v := .int .i64 b.le) rfl
  have g2 := HR.out.cell 2 (v := .int .i64 b.mo) rfl
  have g3 := HR.out.cell 3 (v := .int .i64 b.gr) rfl
  have g4 := HR.out.cell 4 (v := .slice p b.hs.length c) rfl
  clear hW0
  obtain ⟨z0, hz0⟩ : ∃ z : Later W0, W0 = z.w := ⟨⟨W0, Below.refl _ _⟩, rfl⟩
  have HZ0 := Lib.hid hz0
  clear hz0
  have hzq := HQ.out.lt
  have HF := Lib.hid (fun w' => (by have h := Fits_any x 0 y w'; rw [hf] at h; exact h : Calls Try.prog 55 #[.int .i64 x, .int .i64 0, .int .i64 y] w' fun e w'' => e = .returned (.bool true) ∧ w' = w''))
  have HAS := Lib.hid (fun w' (k : From W0 w') => refAsked5_any b p c (decide (y ≤ (b.hs.length : Int))) w' ((hB.below HE.out).below k.b))
  have hne : askE5 b (decide (y ≤ (b.hs.length : Int))) ≠ 0 := by exact ha
  obtain ⟨E, hE⟩ : ∃ n, askE5 b (decide (y ≤ (b.hs.length : Int))) = n := ⟨_, rfl⟩
  rw [hE] at HAS hne
  have HEE := Lib.hid hE
  clear hB hf hE ha
  go_enter Try.func16, Try.ntmps16
  go_upto_region 1 with (fail)
  rw [← HW0.out, HZ0.out]
  refine wp_region_later (by kernel_rfl) (by kernel_rfl) ?_
  repeat (go_big_quiet_step (first
    | (go_at_call 55; with_reducible exact Calls.later_same (HF.out _))
    | (go_at_call 63; with_reducible exact Calls.later_of (HAS.out _ (From.trans (Later.fr _) (Later.fr _))))))
  refine wpQuiet_nil ?_
  intro _ hw'
  obtain ⟨yy, hw''⟩ := hw'
  subst hw''
  obtain ⟨z1, hy⟩ := z0.up yy
  rw [hy]
  clear hy
  have HQ2 := Lib.hid (z1.fr.row HQ.out)
  have BE := Lib.hid (z1.base HE.out)
  have c0 := HQ2.out.cell 0 (v := .int .i64 0) rfl
  have c1 := HQ2.out.cell 1 (v := .int .i64 0) rfl
  have f0 := HQ2.out.free 0
  have f1 := HQ2.out.free 1
  go_wp2_with fail
  clear c0 c1 f0 f1
  have q := (HQ2.out.set 0 (.int .i64 (0))).set 1 (.int .i64 (0))
  have r0 := q.cell 0 (v := .int .i64 (0)) rfl
  have r1 := q.cell 1 (v := .int .i64 (0)) rfl
  exact bodyPost_ret (v := .tuple #[.agg #[.int .i64 (0), .int .i64 (0)], .int .i64 E]) (by simp [results, Try.results16, go_sem, r0, r1]) rfl ⟨by rw [HEE.out], (BE.out.setCell (by dsimp only; omega) _).setCell (by dsimp only; omega) _⟩
set_option maxRecDepth 10000 in
set_option maxHeartbeats 1600000 in
theorem refSum_yes (b : Bf) (p : Option Addr) (c : Nat) (x y : Nat) (w : World) (hB : BfAt w p c b) (hb : bookB b = true) (hxy : x ≤ y) (hyn : y ≤ b.hs.length) :
    Calls Try.prog 16 #[.agg (bfA b p c), .int .i64 (x : Int), .int .i64 (y : Int)] w fun e w' => e = .returned (.tuple #[.agg #[.int .i64 (loB b x y), .int .i64 (hiB b x y)], .int .i64 0]) ∧ Below w.heap.size w w' := by
  have hok := bookB_iff.1 hb
  obtain ⟨W0, hW0⟩ : ∃ W, W = (w.alloc (.cells (bfA b p c) 24)).alloc (.cells #[.int .i64 0, .int .i64 0] 27) := ⟨_, rfl⟩
  have HW0 := Lib.hid hW0
  have HE := Lib.hid (show Below w.heap.size w W0 by rw [hW0]; exact below_alloc2 _ _ _)
  have HR := Lib.hid (show Row W0 w.heap.size (bfA b p c) 24 by rw [hW0]; exact (Row.new w _ _).alloc _)
  have HQ := Lib.hid (show Row W0 (w.heap.size + 1) #[.int .i64 0, .int .i64 0] 27 by rw [hW0]; exact Row.new1 w _ _ _)
  have g0 := HR.out.cell 0 (v := .int .i64 b.pr) rfl
  have g1 := HR.out.cell 1 (v := .int .i64 b.le) rfl
  have g2 := HR.out.cell 2 (v := .int .i64 b.mo) rfl
  have g3 := HR.out.cell 3 (v := .int .i64 b.gr) rfl
  have g4 := HR.out.cell 4 (v := .slice p b.hs.length c) rfl
  clear hW0
  obtain ⟨z0, hz0⟩ : ∃ z : Later W0, W0 = z.w := ⟨⟨W0, Below.refl _ _⟩, rfl⟩
  have HZ0 := Lib.hid hz0
  clear hz0
  have hzq := HQ.out.lt
  have HF := Lib.hid (fun w' => Fits_yes (x : Int) 0 (y : Int) w' (by omega) (by omega))
  have hyd : decide ((y : Int) ≤ (b.hs.length : Int)) = true := decide_eq_true (by omega)
  have HAS := Lib.hid (fun w' (k : From W0 w') => (by have h := refAsked5_any b p c true w' ((hB.below HE.out).below k.b); rw [show askE5 b true = 0 by unfold askE5; rw [hb]; rfl] at h; exact h : Calls Try.prog 63 #[.agg (bfA b p c), .bool true] w' fun e w'' => e = .returned (.int .i64 0) ∧ Below w'.heap.size w' w''))
  have HSU := Lib.hid (fun w' (k : From W0 w') => refSumOf5_any b p c x y w' ((hB.below HE.out).below k.b) hok hxy hyn)
  have hyn2 : (y : Int) ≤ (b.hs.length : Int) := by omega
  clear hB hb hok
  obtain ⟨lo, hlo⟩ : ∃ n, loB b x y = n := ⟨_, rfl⟩
  obtain ⟨hi, hhi⟩ : ∃ n, hiB b x y = n := ⟨_, rfl⟩
  rw [hlo, hhi] at HSU ⊢
  clear hlo hhi
  go_enter Try.func16, Try.ntmps16
  go_upto_region 1 with (fail)
  rw [← HW0.out, HZ0.out]
  refine wp_region_later (by kernel_rfl) (by kernel_rfl) ?_
  repeat (go_big_quiet_step (first
    | (go_at_call 55; with_reducible exact Calls.later_same (HF.out _))
    | (go_at_call 63; with_reducible exact Calls.later_of (HAS.out _ (From.trans (Later.fr _) (Later.fr _))))))
  refine wpQuiet_nil ?_
  intro _ hw'
  obtain ⟨yy, hw''⟩ := hw'
  subst hw''
  obtain ⟨z1, hy⟩ := z0.up yy
  rw [hy]
  clear hy
  go_wp2_with fail
  refine (HSU.out _ z1.fr).mono ?_
  rintro e u ⟨rfl, hbu⟩
  obtain ⟨z2, hz⟩ := z1.on hbu
  subst hz
  clear hbu
  have HQ2 := Lib.hid (z2.fr.row HQ.out)
  have BE := Lib.hid (z2.base HE.out)
  have c0 := HQ2.out.cell 0 (v := .int .i64 0) rfl
  have c1 := HQ2.out.cell 1 (v := .int .i64 0) rfl
  have f0 := HQ2.out.free 0
  have f1 := HQ2.out.free 1
  go_wp2_with fail
  clear c0 c1 f0 f1
  have q := (HQ2.out.set 0 (.int .i64 (lo))).set 1 (.int .i64 (hi))
  have r0 := q.cell 0 (v := .int .i64 (lo)) rfl
  have r1 := q.cell 1 (v := .int .i64 (hi)) rfl
  exact bodyPost_ret (v := .tuple #[.agg #[.int .i64 (lo), .int .i64 (hi)], .int .i64 0]) (by simp [results, Try.results16, go_sem, r0, r1]) rfl ⟨rfl, (BE.out.setCell (by dsimp only; omega) _).setCell (by dsimp only; omega) _⟩
set_option maxRecDepth 10000 in
set_option maxHeartbeats 1600000 in
theorem refKind_no (b : Bf) (p : Option Addr) (c : Nat) (x y : Int) (w : World) (hB : BfAt w p c b) (ha : askE5 b (boxB b x y) ≠ 0) :
    Calls Try.prog 20 #[.agg (bfA b p c), .int .i64 x, .int .i64 y] w fun e w' => e = .returned (.tuple #[.int .i64 0, .int .i64 (askE5 b (boxB b x y))]) ∧ Below w.heap.size w w' := by
  obtain ⟨W0, hW0⟩ : ∃ W, W = w.alloc (.cells (bfA b p c) 24) := ⟨_, rfl⟩
  have HW0 := Lib.hid hW0
  have HE := Lib.hid (show Below w.heap.size w W0 by rw [hW0]; exact below_alloc _ _)
  have HR := Lib.hid (show Row W0 w.heap.size (bfA b p c) 24 by rw [hW0]; exact Row.new w _ _)
  have g0 := HR.out.cell 0 (v := .int .i64 b.pr) rfl
  have g1 := HR.out.cell 1 (v := .int .i64 b.le) rfl
  have g2 := HR.out.cell 2 (v := .int .i64 b.mo) rfl
  have g3 := HR.out.cell 3 (v := .int .i64 b.gr) rfl
  have g4 := HR.out.cell 4 (v := .slice p b.hs.length c) rfl
  clear hW0
  obtain ⟨z0, hz0⟩ : ∃ z : Later W0, W0 = z.w := ⟨⟨W0, Below.refl _ _⟩, rfl⟩
  have HZ0 := Lib.hid hz0
  clear hz0
  have HIB := Lib.hid (fun w' (k : From W0 w') => refIsBox_any b p c x y w' ((hB.below HE.out).below k.b))
  have HAS := Lib.hid (fun w' (k : From W0 w') => refAsked5_any b p c (boxB b x y) w' ((hB.below HE.out).below k.b))
  clear hB
  obtain ⟨r, hr⟩ : ∃ n, boxB b x y = n := ⟨_, rfl⟩
  rw [hr] at HIB HAS ha ⊢
  obtain ⟨E, hE⟩ : ∃ n, askE5 b r = n := ⟨_, rfl⟩
  rw [hE] at HAS ha ⊢
  clear hr hE
  go_enter Try.func20, Try.ntmps20
  go_upto_region 1 with (fail)
  rw [← HW0.out, HZ0.out]
  refine wp_region_later (by kernel_rfl) (by kernel_rfl) ?_
  repeat (go_big_quiet_step (first
    | (go_at_call 69; with_reducible exact Calls.later_of (HIB.out _ (From.trans (Later.fr _) (Later.fr _))))
    | (go_at_call 63; with_reducible exact Calls.later_of (HAS.out _ (From.trans (Later.fr _) (Later.fr _))))))
  refine wpQuiet_nil ?_
  intro _ hw'
  obtain ⟨yy, hw''⟩ := hw'
  subst hw''
  obtain ⟨z1, hy⟩ := z0.up yy
  rw [hy]
  clear hy
  go_wp2_with fail
  go_ret2
  exact ⟨rfl, z1.base HE.out⟩
set_option maxRecDepth 10000 in
set_option maxHeartbeats 3200000 in
theorem refKind_yes (b : Bf) (p : Option Addr) (c : Nat) (x y : Nat) (w : World) (hB : BfAt w p c b) (hb : bookB b = true) (hbx : boxB b x y = true) :
    Calls Try.prog 20 #[.agg (bfA b p c), .int .i64 (x : Int), .int .i64 (y : Int)] w fun e w' => e = .returned (.tuple #[.int .i64 (kindS b (loB b x y) (hiB b x y)), .int .i64 0]) ∧ Below w.heap.size w w' := by
  have hok := bookB_iff.1 hb
  have hbx2 := hbx
  unfold boxB at hbx2
  simp only [decide_eq_true_eq] at hbx2
  obtain ⟨W0, hW0⟩ : ∃ W, W = w.alloc (.cells (bfA b p c) 24) := ⟨_, rfl⟩
  have HW0 := Lib.hid hW0
  have HE := Lib.hid (show Below w.heap.size w W0 by rw [hW0]; exact below_alloc _ _)
  have HR := Lib.hid (show Row W0 w.heap.size (bfA b p c) 24 by rw [hW0]; exact Row.new w _ _)
  have g0 := HR.out.cell 0 (v := .int .i64 b.pr) rfl
  have g1 := HR.out.cell 1 (v := .int .i64 b.le) rfl
  have g2 := HR.out.cell 2 (v := .int .i64 b.mo) rfl
  have g3 := HR.out.cell 3 (v := .int .i64 b.gr) rfl
  have g4 := HR.out.cell 4 (v := .slice p b.hs.length c) rfl
  clear hW0
  obtain ⟨z0, hz0⟩ : ∃ z : Later W0, W0 = z.w := ⟨⟨W0, Below.refl _ _⟩, rfl⟩
  have HZ0 := Lib.hid hz0
  clear hz0
  have HIB := Lib.hid (fun w' (k : From W0 w') => (by have h := refIsBox_any b p c x y w' ((hB.below HE.out).below k.b); rw [hbx] at h; exact h : Calls Try.prog 69 #[.agg (bfA b p c), .int .i64 (x : Int), .int .i64 (y : Int)] w' fun e w'' => e = .returned (.bool true) ∧ Below w'.heap.size w' w''))
  have HAS := Lib.hid (fun w' (k : From W0 w') => (by have h := refAsked5_any b p c true w' ((hB.below HE.out).below k.b); rw [show askE5 b true = 0 by unfold askE5; rw [hb]; rfl] at h; exact h : Calls Try.prog 63 #[.agg (bfA b p c), .bool true] w' fun e w'' => e = .returned (.int .i64 0) ∧ Below w'.heap.size w' w''))
  have HSU := Lib.hid (fun w' (k : From W0 w') => refSumOf5_any b p c x y w' ((hB.below HE.out).below k.b) hok (by omega) (by omega))
  have HL := Lib.hid (fun w' => refLabel_any b p c w' hok)
  have HKS := Lib.hid (show kindS b (loB b x y) (hiB b x y) = (if loB b x y < b.pr - b.le then 1 else 0) + (if hiB b x y > b.pr + b.mo then 2 else 0) by unfold kindS fewB manyB; simp)
  clear hB hb hok hbx hbx2
  obtain ⟨lo, hlo⟩ : ∃ n, loB b x y = n := ⟨_, rfl⟩
  obtain ⟨hi, hhi⟩ : ∃ n, hiB b x y = n := ⟨_, rfl⟩
  rw [hlo, hhi] at HSU HKS ⊢
  obtain ⟨ks, hks⟩ : ∃ n, kindS b lo hi = n := ⟨_, rfl⟩
  rw [hks] at HKS ⊢
  clear hlo hhi hks
  go_enter Try.func20, Try.ntmps20
  go_upto_region 1 with (fail)
  rw [← HW0.out, HZ0.out]
  refine wp_region_later (by kernel_rfl) (by kernel_rfl) ?_
  repeat (go_big_quiet_step (first
    | (go_at_call 69; with_reducible exact Calls.later_of (HIB.out _ (From.trans (Later.fr _) (Later.fr _))))
    | (go_at_call 63; with_reducible exact Calls.later_of (HAS.out _ (From.trans (Later.fr _) (Later.fr _))))))
  refine wpQuiet_nil ?_
  intro _ hw'
  obtain ⟨yy, hw''⟩ := hw'
  subst hw''
  obtain ⟨z1, hy⟩ := z0.up yy
  rw [hy]
  clear hy
  go_wp2_with fail
  refine (HSU.out _ z1.fr).mono ?_
  rintro e u ⟨rfl, hbu⟩
  obtain ⟨z2, hz⟩ := z1.on hbu
  subst hz
  clear hbu
  go_upto_region 5 with (first | (refine store_new rfl 27 _ _ rfl #[.int .i64 lo, .int .i64 hi] #[.int .i64 0, .int .i64 0] 27 rfl rfl (by kernel_rfl) rfl (by simp [Value.oneCell']) ?_))
  obtain ⟨WN, hWN⟩ : ∃ u, z2.w.alloc (.cells #[.int .i64 lo, .int .i64 hi] 27) = u := ⟨_, rfl⟩
  have RS := Lib.hid (show Row WN z2.w.heap.size #[.int .i64 lo, .int .i64 hi] 27 by rw [← hWN]; exact Row.new z2.w _ _)
  have hbu : Below z2.w.heap.size z2.w WN := by rw [← hWN]; exact below_alloc _ _
  rw [hWN]
  clear hWN
  obtain ⟨BS, hBS⟩ : ∃ x, z2.w.heap.size = x := ⟨_, rfl⟩
  rw [hBS] at RS ⊢
  clear hBS
  obtain ⟨z3, hz⟩ := z2.on hbu
  subst hz
  clear hbu
  have KV := Lib.hid z3.fr
  obtain ⟨V, hV⟩ : ∃ u, z3.w = u := ⟨_, rfl⟩
  rw [hV] at RS KV ⊢
  clear hV
  have s0 := RS.out.cell 0 (v := .int .i64 lo) rfl
  have s1 := RS.out.cell 1 (v := .int .i64 hi) rfl
  have e0 := KV.out.cell g0
  have e1 := KV.out.cell g1
  have e2 := KV.out.cell g2
  have e3 := KV.out.cell g3
  have e4 := KV.out.cell g4
  clear g0 g1 g2 g3 g4
  obtain ⟨v0, hv0⟩ : ∃ z : Later V, V = z.w := ⟨⟨V, Below.refl _ _⟩, rfl⟩
  rw [hv0]
  clear hv0
  by_cases q1 : lo < b.pr - b.le
  · refine wp_region_later (by kernel_rfl) (by kernel_rfl) ?_
    repeat (go_big_quiet_step (first
      | (go_at_call 70; with_reducible exact Calls.later_of (HL.out _))))
    refine wpQuiet_nil ?_
    intro _ hw'
    obtain ⟨yy, hw''⟩ := hw'
    subst hw''
    obtain ⟨v1, hy⟩ := v0.up yy
    rw [hy]
    clear hy
    go_upto_region 7 with (fail)
    by_cases q2 : b.pr + b.mo < hi
    · refine wp_region_later (by kernel_rfl) (by kernel_rfl) ?_
      repeat (go_big_quiet_step (first
        | (go_at_call 70; with_reducible exact Calls.later_of (HL.out _))))
      refine wpQuiet_nil ?_
      intro _ hw'
      obtain ⟨yy, hw''⟩ := hw'
      subst hw''
      obtain ⟨v2, hy⟩ := v1.up yy
      rw [hy]
      clear hy
      go_wp2_with fail
      go_ret2
      exact ⟨by rw [HKS.out, if_pos (show lo < b.pr - b.le by omega), if_pos (show hi > b.pr + b.mo by omega)]; rfl, HE.out.trans ((KV.out.trans v2.fr).b.mono HE.out.size)⟩
    · refine wp_region_later (by kernel_rfl) (by kernel_rfl) ?_
      repeat (go_big_quiet_step (first
        | (go_at_call 70; with_reducible exact Calls.later_of (HL.out _))))
      refine wpQuiet_nil ?_
      intro _ hw'
      obtain ⟨yy, hw''⟩ := hw'
      subst hw''
      obtain ⟨v2, hy⟩ := v1.up yy
      rw [hy]
      clear hy
      go_wp2_with fail
      go_ret2
      exact ⟨by rw [HKS.out, if_pos (show lo < b.pr - b.le by omega), if_neg (show ¬ hi > b.pr + b.mo by omega)]; rfl, HE.out.trans ((KV.out.trans v2.fr).b.mono HE.out.size)⟩
  · have q1' : ¬ lo < b.pr - b.le := q1
    refine wp_region_later (by kernel_rfl) (by kernel_rfl) ?_
    repeat (go_big_quiet_step (first
      | (go_at_call 70; with_reducible exact Calls.later_of (HL.out _))))
    refine wpQuiet_nil ?_
    intro _ hw'
    obtain ⟨yy, hw''⟩ := hw'
    subst hw''
    obtain ⟨v1, hy⟩ := v0.up yy
    rw [hy]
    clear hy
    go_upto_region 7 with (fail)
    by_cases q2 : b.pr + b.mo < hi
    · refine wp_region_later (by kernel_rfl) (by kernel_rfl) ?_
      repeat (go_big_quiet_step (first
        | (go_at_call 70; with_reducible exact Calls.later_of (HL.out _))))
      refine wpQuiet_nil ?_
      intro _ hw'
      obtain ⟨yy, hw''⟩ := hw'
      subst hw''
      obtain ⟨v2, hy⟩ := v1.up yy
      rw [hy]
      clear hy
      go_wp2_with fail
      go_ret2
      exact ⟨by rw [HKS.out, if_neg (show ¬ lo < b.pr - b.le by omega), if_pos (show hi > b.pr + b.mo by omega)]; rfl, HE.out.trans ((KV.out.trans v2.fr).b.mono HE.out.size)⟩
    · refine wp_region_later (by kernel_rfl) (by kernel_rfl) ?_
      repeat (go_big_quiet_step (first
        | (go_at_call 70; with_reducible exact Calls.later_of (HL.out _))))
      refine wpQuiet_nil ?_
      intro _ hw'
      obtain ⟨yy, hw''⟩ := hw'
      subst hw''
      obtain ⟨v2, hy⟩ := v1.up yy
      rw [hy]
      clear hy
      go_wp2_with fail
      go_ret2
      exact ⟨by rw [HKS.out, if_neg (show ¬ lo < b.pr - b.le by omega), if_neg (show ¬ hi > b.pr + b.mo by omega)]; rfl, HE.out.trans ((KV.out.trans v2.fr).b.mono HE.out.size)⟩
set_option maxRecDepth 10000 in
set_option maxHeartbeats 1600000 in
theorem Marks_any (s n : Nat) (w : World) (hs : s < 256) (hn : n ≤ 8) :
    Calls Try.prog 72 #[.int .i64 (s : Int), .int .i64 (n : Int)] w fun e w' => ∃ q cq, e = .returned (.slice q (marksL s n).length cq) ∧ IntsAt w' q (marksL s n) ∧ Below w.heap.size w w' := by
  obtain ⟨i0, hi, hi0, hi1, hi2⟩ := info_parts Try.infoInt
  obtain ⟨z0, hz0⟩ : ∃ z : Later w, w = z.w := ⟨⟨w, Below.refl _ _⟩, rfl⟩
  have HZ0 := Lib.hid hz0
  clear hz0
  go_enter Try.func72, Try.ntmps72
  go_wp2_with fail
  go_loopw [5, 6] (fun ls i wr => ∃ (k : Nat) (x : Later w), k ≤ n ∧ i = .int .i64 (k : Int) ∧ wr.ownsRow w.heap.size 3 1 ls (marksL s k).length ((marksL s k).map (Value.int .i64)) ∧ wr = x.w) (fun _ i _ => n - (intOf i).toNat)
  case atStart => exact ⟨0, ⟨w, Below.refl _ _⟩, by omega, rfl, World.ownsRow_nil _ _ _ _, rfl⟩
  case round =>
    obtain ⟨k, x, hk, rfl, hown, rfl⟩ := hrel
    obtain ⟨pl, cl, rfl⟩ := owns_slice hown
    have HO2 := Lib.hid hown
    clear hown
    have hzx := x.b.size
    by_cases hlt : k < n
    · have HIN := Lib.hid (fun w' => In8_any s k w' hs (by omega))
      have hml : (marksL s k).length ≤ 8 := by unfold marksL; rw [List.length_map]; have := marksN_length s k; omega
      have HS := Lib.hid (show marksL s (k + 1) = if inS s k then marksL s k ++ [(k : Int)] else marksL s k by unfold marksL; rw [marksN_succ]; split <;> simp)
      have i2 : (k : Int) < (n : Int) := by omega
      cases hin : inS s k
      · rw [hin] at HIN HS
        clear hin
        go_wp2_with fail
        refine (HIN.out _).mono ?_
        rintro e u ⟨rfl, hu⟩
        subst hu
        go_wp2_with fail
        go_roundw
        case rel => exact ⟨k + 1, x, by omega, by go_num, by rw [HS.out]; exact HO2.out, rfl⟩
        case measure => simp [intOf]; omega
      · rw [hin] at HIN HS
        clear hin
        go_wp2_with fail
        refine (HIN.out _).mono ?_
        rintro e u ⟨rfl, hu⟩
        subst hu
        go_wp2_with (first
          | (at_builtin; (refine wpList_append_own _ rfl _ _ 38 rfl w.heap.size 3 i0 (.int .i64 0) 1 8 Try.underlying38 hi hi0 hi1 hi2 rfl (by decide) _ _ _ rfl (HO2.out.alloc _) ⟨x.w.heap.size, 0, none⟩ 1 1 [.int .i64 (k : Int)] rfl rfl (cell_one_new _ _ _) (by simp [Value.oneCell']) (by unfold maxLen; omega) (by omega) (by simp; omega) ?_); intro v' w2 hown' hgrow _; have HO3 := Lib.hid hown'; have hg2 : Below w.heap.size x.w w2 := ((Below.refl _ _).alloc (by omega) _).grown hgrow (by simp; omega) (fun k hk => (HO2.out.lt k hk).1); obtain ⟨x3, hx3⟩ := later_of (x.b.trans hg2); clear hg2 hown' hgrow))
        subst hx3
        go_roundw
        case rel => exact ⟨k + 1, x3, by omega, by go_num, by rw [HS.out]; simpa using HO3.out, rfl⟩
        case measure => simp [intOf]; omega
    · obtain rfl : k = n := by omega
      obtain ⟨p', c', hv, hints, _⟩ := ints_of_owns2 HO2.out
      cases hv
      have HIN := Lib.hid hints
      clear hints
      go_wp2_with fail
      go_ret
      exact ⟨_, _, rfl, HIN.out, x.b⟩
end Go.Proofs.Ytgdidhbomdfcpaa
/- The walks of the specification of layer 5: Any; the law FillKinds. -/
namespace Go.Proofs.Ytgdidhbomdfcpaa
open Go.RowKit Go.Maps
attribute [local go_sem] Oper.semAt_some

/-- What the first members of a set have. -/
def sumK (f : Hd → Int) (b : Bf) (s k : Nat) : Int := (((marksN s b.hs.length).take k).map fun i => f (handAt b i)).sum
theorem sumK_zero (f : Hd → Int) (b : Bf) (s : Nat) : sumK f b s 0 = 0 := by simp [sumK]
theorem sumK_succ (f : Hd → Int) (b : Bf) (s : Nat) {k : Nat} (h : k < (marksN s b.hs.length).length) : sumK f b s (k + 1) = sumK f b s k + f (handAt b ((marksN s b.hs.length)[k])) := by
  unfold sumK
  rw [List.take_succ_eq_append_getElem h, List.map_append, List.sum_append, List.map_singleton, List.sum_singleton]
theorem sumK_all (f : Hd → Int) (b : Bf) (s : Nat) : sumK f b s (marksN s b.hs.length).length = sumM f b s := by
  unfold sumK sumM
  rw [List.take_length]
theorem sumK_range {f : Hd → Int} {b : Bf} (hf : ∀ i, 0 ≤ f (handAt b i) ∧ f (handAt b i) ≤ 200) (s : Nat) : ∀ k, k ≤ (marksN s b.hs.length).length → 0 ≤ sumK f b s k ∧ sumK f b s k ≤ 200 * (k : Int)
  | 0, _ => by rw [sumK_zero]; simp
  | k + 1, hk => by
    have ih := sumK_range hf s k (by omega)
    rw [sumK_succ f b s hk]
    have := hf ((marksN s b.hs.length)[k])
    push_cast
    omega
theorem hand_range {b : Bf} (hok : BfOk b) (i : Nat) : (0 ≤ (handAt b i).lo ∧ (handAt b i).lo ≤ 200) ∧ 0 ≤ (handAt b i).hi ∧ (handAt b i).hi ≤ 200 := by
  by_cases h : i < b.hs.length
  · rw [handAt_eq h]
    have := hok.h _ (List.getElem_mem h)
    have h0 := this.l0
    have h1 := this.l1
    have h2 := this.l2
    omega
  · have : handAt b i = ⟨0, 0⟩ := by unfold handAt; simp [List.getD, h]
    rw [this]
    simp
theorem pow_few {n : Nat} (h : n ≤ 8) : 1 ≤ 2 ^ n ∧ 2 ^ n ≤ 256 := by
  obtain rfl | rfl | rfl | rfl | rfl | rfl | rfl | rfl | rfl : n = 0 ∨ n = 1 ∨ n = 2 ∨ n = 3 ∨ n = 4 ∨ n = 5 ∨ n = 6 ∨ n = 7 ∨ n = 8 := by omega
  all_goals decide
set_option maxRecDepth 10000 in
set_option maxHeartbeats 1600000 in
theorem refAny_no (b : Bf) (p : Option Addr) (c : Nat) (x : Int) (w : World) (hB : BfAt w p c b) (ha : askE5 b (fits x 1 (b.hs.length : Int)) ≠ 0) :
    Calls Try.prog 22 #[.agg (bfA b p c), .int .i64 x] w fun e w' => e = .returned (.tuple #[.bool false, .int .i64 (askE5 b (fits x 1 (b.hs.length : Int)))]) ∧ Below w.heap.size w w' := by
  obtain ⟨W0, hW0⟩ : ∃ W, W = w.alloc (.cells (bfA b p c) 24) := ⟨_, rfl⟩
  have HW0 := Lib.hid hW0
  have HE := Lib.hid (show Below w.heap.size w W0 by rw [hW0]; exact below_alloc _ _)
  have HR := Lib.hid (show Row W0 w.heap.size (bfA b p c) 24 by rw [hW0]; exact Row.new w _ _)
  have g0 := HR.out.cell 0 (v := .int .i64 b.pr) rfl
  have g1 := HR.out.cell 1 (v := .int .i64 b.le) rfl
  have g2 := HR.out.cell 2 (v := .int .i64 b.mo) rfl
  have g3 := HR.out.cell 3 (v := .int .i64 b.gr) rfl
  have g4 := HR.out.cell 4 (v := .slice p b.hs.length c) rfl
  clear hW0
  obtain ⟨z0, hz0⟩ : ∃ z : Later W0, W0 = z.w := ⟨⟨W0, Below.refl _ _⟩, rfl⟩
  have HZ0 := Lib.hid hz0
  clear hz0
  have HF := Lib.hid (fun w' => Fits_any x 1 (b.hs.length : Int) w')
  have HAS := Lib.hid (fun w' (k : From W0 w') => refAsked5_any b p c (fits x 1 (b.hs.length : Int)) w' ((hB.below HE.out).below k.b))
  clear hB
  obtain ⟨r, hr⟩ : ∃ n, fits x 1 (b.hs.length : Int) = n := ⟨_, rfl⟩
  rw [hr] at HF HAS ha ⊢
  obtain ⟨E, hE⟩ : ∃ n, askE5 b r = n := ⟨_, rfl⟩
  rw [hE] at HAS ha ⊢
  clear hr hE
  go_enter Try.func22, Try.ntmps22
  go_upto_region 1 with (fail)
  rw [← HW0.out, HZ0.out]
  refine wp_region_later (by kernel_rfl) (by kernel_rfl) ?_
  repeat (go_big_quiet_step (first
    | (go_at_call 55; with_reducible exact Calls.later_same (HF.out _))
    | (go_at_call 63; with_reducible exact Calls.later_of (HAS.out _ (From.trans (Later.fr _) (Later.fr _))))))
  refine wpQuiet_nil ?_
  intro _ hw'
  obtain ⟨yy, hw''⟩ := hw'
  subst hw''
  obtain ⟨z1, hy⟩ := z0.up yy
  rw [hy]
  clear hy
  go_wp2_with fail
  go_ret2
  exact ⟨rfl, z1.base HE.out⟩
set_option maxRecDepth 100000 in
set_option maxHeartbeats 3200000 in
theorem refAny_yes (b : Bf) (p : Option Addr) (c : Nat) (many : Nat) (w : World) (hB : BfAt w p c b) (hb : bookB b = true) (h1 : 1 ≤ many) (hm : many ≤ b.hs.length) :
    Calls Try.prog 22 #[.agg (bfA b p c), .int .i64 (many : Int)] w fun e w' => e = .returned (.tuple #[.bool (kindS b (lowAny b many) (highAny b many) == 0), .int .i64 0]) ∧ Below w.heap.size w w' := by
  have hok := bookB_iff.1 hb
  have hn8 := hok.n8
  obtain ⟨W0, hW0⟩ : ∃ W, W = w.alloc (.cells (bfA b p c) 24) := ⟨_, rfl⟩
  have HW0 := Lib.hid hW0
  have HE := Lib.hid (show Below w.heap.size w W0 by rw [hW0]; exact below_alloc _ _)
  have HR := Lib.hid (show Row W0 w.heap.size (bfA b p c) 24 by rw [hW0]; exact Row.new w _ _)
  have g0 := HR.out.cell 0 (v := .int .i64 b.pr) rfl
  have g1 := HR.out.cell 1 (v := .int .i64 b.le) rfl
  have g2 := HR.out.cell 2 (v := .int .i64 b.mo) rfl
  have g3 := HR.out.cell 3 (v := .int .i64 b.gr) rfl
  have g4 := HR.out.cell 4 (v := .slice p b.hs.length c) rfl
  clear hW0
  obtain ⟨z0, hz0⟩ : ∃ z : Later W0, W0 = z.w := ⟨⟨W0, Below.refl _ _⟩, rfl⟩
  have HZ0 := Lib.hid hz0
  clear hz0
  have HB := Lib.hid (hB.below HE.out)
  have HF := Lib.hid (fun w' => Fits_yes (many : Int) 1 (b.hs.length : Int) w' (by omega) (by omega))
  have HAS := Lib.hid (fun w' (k : From W0 w') => (by have h := refAsked5_any b p c true w' ((hB.below HE.out).below k.b); rw [show askE5 b true = 0 by unfold askE5; rw [hb]; rfl] at h; exact h : Calls Try.prog 63 #[.agg (bfA b p c), .bool true] w' fun e w'' => e = .returned (.int .i64 0) ∧ Below w'.heap.size w' w''))
  have HL := Lib.hid (fun w' => refLabel_any b p c w' hok)
  have HIF := Lib.hid (any_iff (b := b) hn8 hm)
  have HRG := Lib.hid (hand_range hok)
  have hpw := pow_few hn8
  obtain ⟨N, hN⟩ : ∃ n, 2 ^ b.hs.length = n := ⟨_, rfl⟩
  rw [hN] at HIF hpw
  have HNE := Lib.hid hN
  clear hB hb hok hN
  go_enter Try.func22, Try.ntmps22
  go_upto_region 1 with (fail)
  rw [← HW0.out, HZ0.out]
  refine wp_region_later (by kernel_rfl) (by kernel_rfl) ?_
  repeat (go_big_quiet_step (first
    | (go_at_call 55; with_reducible exact Calls.later_same (HF.out _))
    | (go_at_call 63; with_reducible exact Calls.later_of (HAS.out _ (From.trans (Later.fr _) (Later.fr _))))))
  refine wpQuiet_nil ?_
  intro _ hw'
  obtain ⟨yy, hw''⟩ := hw'
  subst hw''
  obtain ⟨z1, hy⟩ := z0.up yy
  rw [hy]
  clear hy
  go_wp2_with fail
  go_loopw [7] (fun i wr => ∃ (s : Nat) (x : Later W0), s ≤ N ∧ i = .int .i64 (s : Int) ∧ Hid (∀ t, t < s → (marksN t b.hs.length).length = many → b.pr - b.le ≤ sumM Hd.lo b t ∧ sumM Hd.hi b t ≤ b.pr + b.mo) ∧ wr = x.w) (fun i _ => N - (intOf i).toNat)
  case atStart => exact ⟨0, z1, by omega, rfl, Lib.hid (fun t ht => by omega), rfl⟩
  case round =>
    obtain ⟨s, x, hs, rfl, HALL, rfl⟩ := hrel
    have ex : wrap64 (2 ^ b.hs.length) = (N : Int) := by
      rw [show ((2 : Int) ^ b.hs.length) = (N : Int) by rw [← HNE.out]; simp]
      exact IntWalk.wrap64_in _ (by omega)
    by_cases hlt : s < N
    · have i1 : (s : Int) < (N : Int) := by omega
      have HMK := Lib.hid (fun w' => Marks_any s b.hs.length w' (by omega) hn8)
      have hml : (marksL s b.hs.length).length = (marksN s b.hs.length).length := by unfold marksL; rw [List.length_map]
      have HAT := Lib.hid (fun k (hk : k < (marksN s b.hs.length).length) => (by
        unfold marksL
        rw [at0_lt (by rw [List.length_map]; exact hk), List.getElem_map] : at0 (marksL s b.hs.length) k = (((marksN s b.hs.length)[k] : Nat) : Int)))
      have HLT := Lib.hid (fun k (hk : k < (marksN s b.hs.length).length) => marksN_lt (List.getElem_mem hk))
      go_wp2_with fail
      refine (HMK.out _).mono ?_
      rintro e u ⟨q, cq, rfl, hiq, hbu⟩
      have HIQ := Lib.hid hiq
      obtain ⟨x2, hz⟩ := x.on hbu
      subst hz
      clear hbu hiq HMK
      rw [hml]
      by_cases hl : (marksN s b.hs.length).length = many
      · have HLN := Lib.hid hl
        rw [hl]
        clear hml
        go_wp2_with fail
        refine (Only_any _ _).mono ?_
        rintro e u ⟨rfl, hbu⟩
        have HIQ := Lib.hid (HIQ.out.below hbu)
        obtain ⟨x3, hz⟩ := x2.on hbu
        subst hz
        clear hbu hl
        obtain ⟨Z, hZ⟩ : ∃ u, x3.w = u := ⟨_, rfl⟩
        have KZ := Lib.hid (show From W0 Z by rw [← hZ]; exact x3.fr)
        have HZE := Lib.hid hZ
        rw [hZ] at HIQ ⊢
        clear hZ
        go_upto_region 10 with (first | (refine store_new rfl 27 _ _ rfl #[.int .i64 0, .int .i64 0] #[.int .i64 0, .int .i64 0] 27 rfl rfl (by kernel_rfl) rfl (by simp [Value.oneCell']) ?_))
        obtain ⟨ZA, hZA⟩ : ∃ u, Z.alloc (.cells #[.int .i64 0, .int .i64 0] 27) = u := ⟨_, rfl⟩
        have RW := Lib.hid (show Row ZA Z.heap.size #[.int .i64 0, .int .i64 0] 27 by rw [← hZA]; exact Row.new Z _ _)
        have KA := Lib.hid (show Below Z.heap.size Z ZA by rw [← hZA]; exact below_alloc _ _)
        rw [hZA]
        clear hZA
        obtain ⟨G, hG⟩ : ∃ x, Z.heap.size = x := ⟨_, rfl⟩
        have HG := Lib.hid hG
        rw [hG] at RW ⊢
        have gz0 := KZ.out.cell g0
        have gz1 := KZ.out.cell g1
        have gz2 := KZ.out.cell g2
        have gz3 := KZ.out.cell g3
        have gz4 := KZ.out.cell g4
        have HHZ := Lib.hid (HB.out.h.below KZ.out.b)
        clear g0 g1 g2 g3 g4 hG ex
        obtain ⟨y0, hy0⟩ := later_of KA.out
        subst hy0
        go_wp2_with fail
        go_loopw [10] (fun i wr => ∃ (k : Nat) (v : Later Z), k ≤ many ∧ i = .int .i64 (k : Int) ∧ Row v.w G #[.int .i64 (sumK Hd.lo b s k), .int .i64 (sumK Hd.hi b s k)] 27 ∧ wr = v.w) (fun i _ => many - (intOf i).toNat)
        case atStart => exact ⟨0, y0, by omega, rfl, by rw [sumK_zero, sumK_zero]; exact RW.out, rfl⟩
        case round =>
          obtain ⟨k, v, hk, rfl, hrow, rfl⟩ := hrel
          have HRW := Lib.hid hrow
          clear hrow
          have hr1 := sumK_range (f := Hd.lo) (b := b) (fun i => (HRG.out i).1) s k (by rw [HLN.out]; exact hk)
          have hr2 := sumK_range (f := Hd.hi) (b := b) (fun i => (HRG.out i).2) s k (by rw [HLN.out]; exact hk)
          by_cases hlk : k < many
          · have hkk : k < (marksN s b.hs.length).length := by rw [HLN.out]; exact hlk
            have hat := HAT.out k hkk
            have hjn := HLT.out k hkk
            have HSL := Lib.hid (sumK_succ Hd.lo b s hkk)
            have HSH := Lib.hid (sumK_succ Hd.hi b s hkk)
            obtain ⟨gq, oq, rfl, hcq⟩ := HIQ.out k (by unfold marksL; rw [List.length_map]; exact hkk)
            rw [hat] at hcq
            obtain ⟨j, hj⟩ : ∃ j, (marksN s b.hs.length)[k] = j := ⟨_, rfl⟩
            rw [hj] at hcq hjn HSL HSH
            clear hj hat hkk
            obtain ⟨bb, o, rfl, c0, c1⟩ := HHZ.out j hjn
            rw [handAt_eq hjn] at HSL HSH
            have hhd := (HRG.out j)
            rw [handAt_eq hjn] at hhd
            obtain ⟨lw, hlw⟩ : ∃ n, sumK Hd.lo b s k = n := ⟨_, rfl⟩
            obtain ⟨hw, hhw⟩ : ∃ n, sumK Hd.hi b s k = n := ⟨_, rfl⟩
            rw [hlw] at HSL HRW hr1
            rw [hhw] at HSH HRW hr2
            obtain ⟨lo, hlo⟩ : ∃ n, b.hs[j].lo = n := ⟨_, rfl⟩
            obtain ⟨hi, hhi⟩ : ∃ n, b.hs[j].hi = n := ⟨_, rfl⟩
            rw [hlo] at HSL c0 hhd
            rw [hhi] at HSH c1 hhd
            clear hlo hhi hlw hhw
            have w0 := HRW.out.cell 0 (v := .int .i64 lw) rfl
            have w1 := HRW.out.cell 1 (v := .int .i64 hw) rfl
            have j1 : (0 : Int) ≤ (k : Int) := by omega
            have j2 : (k : Int) < (many : Int) := by omega
            have j3 : (0 : Int) ≤ (j : Int) := by omega
            have j4 : (j : Int) < (b.hs.length : Int) := by omega
            have e1 : IntKind.i64.wrap (lw + lo) = lw + lo := IntWalk.i64_in _ (by omega)
            have e2 : IntKind.i64.wrap (hw + hi) = hw + hi := IntWalk.i64_in _ (by omega)
            go_upto_region 13 with (fail)
            refine wp_region_tail 25 (by kernel_rfl) (by kernel_rfl) (by kernel_rfl) (by kernel_rfl) (by kernel_rfl) (by rfl) ?_
            simp only [List.take_succ_cons, List.take_zero, List.drop_succ_cons, List.drop_zero]
            repeat (go_big_quiet_step (first
              | (go_at_call 53; with_reducible exact Calls.later_of (Sp_any _ _ _))))
            refine wpQuiet_nil ?_
            intro _ hw'
            obtain ⟨y', hw''⟩ := hw'
            subst hw''
            have RY := Lib.hid (HRW.out.below y'.b HRW.out.lt)
            refine store_row rfl 27 _ _ rfl G #[.int .i64 (lw + lo), .int .i64 (hw + hi)] #[.int .i64 lw, .int .i64 hw] 27 rfl rfl RY.out (by kernel_rfl) rfl (by simp [Value.oneCell']) ?_
            have RN := Lib.hid (RY.out.setRow #[.int .i64 (lw + lo), .int .i64 (hw + hi)])
            obtain ⟨x2', hx2'⟩ := later_of (below_setRow' (v.b.trans (y'.b.mono v.b.size)) (g := G) (by rw [HG.out]; exact Nat.le_refl _) #[.int .i64 (lw + lo), .int .i64 (hw + hi)])
            rw [hx2'] at RN ⊢
            clear hx2' e1 e2 w0 w1
            go_wp2_with fail
            go_roundw
            case rel => exact ⟨k + 1, x2', by omega, by go_num, by rw [HSL.out, HSH.out]; exact RN.out, rfl⟩
            case measure => simp [intOf]; omega
          · obtain rfl : k = many := by omega
            have HEL := Lib.hid (show sumK Hd.lo b s k = sumM Hd.lo b s by rw [← sumK_all, HLN.out])
            have HEH := Lib.hid (show sumK Hd.hi b s k = sumM Hd.hi b s by rw [← sumK_all, HLN.out])
            rw [HEL.out, HEH.out] at HRW
            obtain ⟨SL, hSL⟩ : ∃ n, sumM Hd.lo b s = n := ⟨_, rfl⟩
            obtain ⟨SH, hSH⟩ : ∃ n, sumM Hd.hi b s = n := ⟨_, rfl⟩
            rw [hSL, hSH] at HRW
            have HSLE := Lib.hid hSL
            have HSHE := Lib.hid hSH
            clear hSL hSH hr1 hr2 HEL HEH
            have w0 := HRW.out.cell 0 (v := .int .i64 SL) rfl
            have w1 := HRW.out.cell 1 (v := .int .i64 SH) rfl
            have HWR := Lib.hid (fun w' => Wraps_any (b.pr - b.le) (b.pr + b.mo) SL SH w')
            cases hok2 : (decide (b.pr - b.le ≤ SL) && decide (SH ≤ b.pr + b.mo))
            · rw [hok2] at HWR
              have HV := Lib.hid (show (kindS b (lowAny b k) (highAny b k) == 0) = false by
                rw [beq_eq_false_iff_ne]
                intro h
                have h2 := HIF.out.2 (kindS_zero.1 h) s hlt HLN.out
                rw [HSLE.out, HSHE.out] at h2
                simp [h2.1, h2.2] at hok2)
              clear hok2
              go_upto_region 14 with (fail)
              refine wp_region_later (by kernel_rfl) (by kernel_rfl) ?_
              repeat (go_big_quiet_step (first
                | (go_at_call 70; with_reducible exact Calls.later_of (HL.out _))
                | (go_at_call 73; with_reducible exact Calls.later_of (HWR.out _))))
              refine wpQuiet_nil ?_
              intro _ hw'
              obtain ⟨yy, hw''⟩ := hw'
              subst hw''
              obtain ⟨v2, hy⟩ := v.up yy
              rw [hy]
              clear hy
              go_wp2_with fail
              go_ret2
              exact ⟨by rw [HV.out]; rfl, HE.out.trans ((KZ.out.trans v2.fr).b.mono HE.out.size)⟩
            · rw [hok2] at HWR
              have hok3 := hok2
              simp only [Bool.and_eq_true, decide_eq_true_eq] at hok3
              have HN := Lib.hid (show ∀ t, t < s + 1 → (marksN t b.hs.length).length = k → b.pr - b.le ≤ sumM Hd.lo b t ∧ sumM Hd.hi b t ≤ b.pr + b.mo from fun t ht hlt2 => by
                by_cases e : t = s
                · subst e; rw [HSLE.out, HSHE.out]; exact hok3
                · exact HALL.out t (by omega) hlt2)
              clear hok2 hok3
              go_upto_region 14 with (fail)
              refine wp_region_later (by kernel_rfl) (by kernel_rfl) ?_
              repeat (go_big_quiet_step (first
                | (go_at_call 70; with_reducible exact Calls.later_of (HL.out _))
                | (go_at_call 73; with_reducible exact Calls.later_of (HWR.out _))))
              refine wpQuiet_nil ?_
              intro _ hw'
              obtain ⟨yy, hw''⟩ := hw'
              subst hw''
              obtain ⟨v2, hy⟩ := v.up yy
              rw [hy]
              clear hy
              obtain ⟨v3, hv3⟩ : ∃ z : Later W0, v2.w = z.w := later_of (KZ.out.trans v2.fr).b
              rw [hv3]
              clear hv3
              go_wp2_with fail
              go_roundw
              case rel => exact ⟨s + 1, v3, by omega, by go_num, HN, rfl⟩
              case measure => simp [intOf]; omega
      · have hne : (((marksN s b.hs.length).length : Int) == (many : Int)) = false := beq_eq_false_iff_ne.2 (by omega)
        have HN := Lib.hid (show ∀ t, t < s + 1 → (marksN t b.hs.length).length = many → b.pr - b.le ≤ sumM Hd.lo b t ∧ sumM Hd.hi b t ≤ b.pr + b.mo from fun t ht hlt2 => by
          by_cases e : t = s
          · subst e; exact absurd hlt2 hl
          · exact HALL.out t (by omega) hlt2)
        obtain ⟨ml, hmlE⟩ : ∃ n, (marksN s b.hs.length).length = n := ⟨_, rfl⟩
        rw [hmlE] at hne ⊢
        clear hmlE hl hml HAT HLT
        go_wp2_with fail
        go_roundw
        case rel => exact ⟨s + 1, x2, by omega, by go_num, HN, rfl⟩
        case measure => simp [intOf]; omega
    · obtain rfl : s = N := by omega
      have HV := Lib.hid (show (kindS b (lowAny b many) (highAny b many) == 0) = true by
        rw [beq_iff_eq]
        exact kindS_zero.2 (HIF.out.1 HALL.out))
      go_wp2_with fail
      go_ret2
      exact ⟨by rw [HV.out]; rfl, x.base HE.out⟩
end Go.Proofs.Ytgdidhbomdfcpaa
/- The law FillKinds: what is told of books, boxes and choices is what the chapter says. -/
namespace Go.Proofs.Ytgdidhbomdfcpaa
open Go.RowKit Go.Maps
attribute [local go_sem] Oper.semAt_some

theorem sum_both (b : Bf) (p : Option Addr) (c : Nat) (x y : Int) (W : World) (hB : BfAt W p c b) :
    ∃ lo hi E : Int, (∀ w, From W w → Calls Try.prog 15 #[.agg (bfA b p c), .int .i64 x, .int .i64 y] w fun e w' => e = .returned (.tuple #[.agg #[.int .i64 lo, .int .i64 hi], .int .i64 E]) ∧ Below w.heap.size w w') ∧
      ∀ w, From W w → Calls Try.prog 16 #[.agg (bfA b p c), .int .i64 x, .int .i64 y] w fun e w' => e = .returned (.tuple #[.agg #[.int .i64 lo, .int .i64 hi], .int .i64 E]) ∧ Below w.heap.size w w' := by
  cases hb : bookB b
  · have h0 : ∀ r, askE5 b r = 50 := fun r => by unfold askE5; rw [hb]; rfl
    refine ⟨0, 0, 50, fun w k => Sum_bad b p c x y w (hB.below k.b) hb, fun w k => ?_⟩
    cases hf : fits x 0 y
    · have h := refSum_no1 b p c x y w (hB.below k.b) hf
      rw [h0] at h
      exact h
    · have h := refSum_no2 b p c x y w (hB.below k.b) hf (by rw [h0]; decide)
      rw [h0] at h
      exact h
  · have h0 : askE5 b false = 51 := by unfold askE5; rw [hb]; rfl
    cases hf : fits x 0 y
    · refine ⟨0, 0, 51, fun w k => Sum_no1 b p c x y w (hB.below k.b) hb hf, fun w k => ?_⟩
      have h := refSum_no1 b p c x y w (hB.below k.b) hf
      rw [h0] at h
      exact h
    · by_cases hy : (b.hs.length : Int) < y
      · refine ⟨0, 0, 51, fun w k => Sum_no2 b p c x y w (hB.below k.b) hb hf hy, fun w k => ?_⟩
        have hd : decide (y ≤ (b.hs.length : Int)) = false := decide_eq_false (by omega)
        have h := refSum_no2 b p c x y w (hB.below k.b) hf (by rw [hd, h0]; decide)
        rw [hd, h0] at h
        exact h
      · have hf2 := hf
        unfold fits at hf2
        simp only [Bool.and_eq_true, decide_eq_true_eq] at hf2
        obtain ⟨X, rfl⟩ : ∃ X : Nat, x = X := ⟨x.toNat, by omega⟩
        obtain ⟨Y, rfl⟩ : ∃ Y : Nat, y = Y := ⟨y.toNat, by omega⟩
        exact ⟨_, _, 0, fun w k => Sum_yes b p c X Y w (hB.below k.b) hb (by omega) (by omega), fun w k => refSum_yes b p c X Y w (hB.below k.b) hb (by omega) (by omega)⟩
theorem kind_both (b : Bf) (p : Option Addr) (c : Nat) (x y : Int) (W : World) (hB : BfAt W p c b) (hx : I64 x) (hy : I64 y) :
    ∃ v E : Int, (∀ w, From W w → Calls Try.prog 19 #[.agg (bfA b p c), .int .i64 x, .int .i64 y] w fun e w' => e = .returned (.tuple #[.int .i64 v, .int .i64 E]) ∧ Below w.heap.size w w') ∧
      ∀ w, From W w → Calls Try.prog 20 #[.agg (bfA b p c), .int .i64 x, .int .i64 y] w fun e w' => e = .returned (.tuple #[.int .i64 v, .int .i64 E]) ∧ Below w.heap.size w w' := by
  cases hb : bookB b
  · have h0 : ∀ r, askE5 b r = 50 := fun r => by unfold askE5; rw [hb]; rfl
    refine ⟨0, 50, fun w k => Kind_bad b p c x y w (hB.below k.b) hb, fun w k => ?_⟩
    have h := refKind_no b p c x y w (hB.below k.b) (by rw [h0]; decide)
    rw [h0] at h
    exact h
  · cases hbx : boxB b x y
    · have h0 : askE5 b (boxB b x y) = 51 := by unfold askE5; rw [hb, hbx]; rfl
      refine ⟨0, 51, fun w k => Kind_no b p c x y w (hB.below k.b) hb hx hy hbx, fun w k => ?_⟩
      have h := refKind_no b p c x y w (hB.below k.b) (by rw [h0]; decide)
      rw [h0] at h
      exact h
    · have hb2 := hbx
      unfold boxB at hb2
      simp only [decide_eq_true_eq] at hb2
      obtain ⟨X, rfl⟩ : ∃ X : Nat, x = X := ⟨x.toNat, by omega⟩
      obtain ⟨Y, rfl⟩ : ∃ Y : Nat, y = Y := ⟨y.toNat, by omega⟩
      exact ⟨_, 0, fun w k => Kind_yes b p c X Y w (hB.below k.b) hb hx hy hbx, fun w k => refKind_yes b p c X Y w (hB.below k.b) hb hbx⟩
theorem any_both (b : Bf) (p : Option Addr) (c : Nat) (x : Int) (W : World) (hB : BfAt W p c b) :
    ∃ (v : Bool) (E : Int), (∀ w, From W w → Calls Try.prog 21 #[.agg (bfA b p c), .int .i64 x] w fun e w' => e = .returned (.tuple #[.bool v, .int .i64 E]) ∧ Below w.heap.size w w') ∧
      ∀ w, From W w → Calls Try.prog 22 #[.agg (bfA b p c), .int .i64 x] w fun e w' => e = .returned (.tuple #[.bool v, .int .i64 E]) ∧ Below w.heap.size w w' := by
  cases hb : bookB b
  · have h0 : ∀ r, askE5 b r = 50 := fun r => by unfold askE5; rw [hb]; rfl
    refine ⟨false, 50, fun w k => Any_bad b p c x w (hB.below k.b) hb, fun w k => ?_⟩
    have h := refAny_no b p c x w (hB.below k.b) (by rw [h0]; decide)
    rw [h0] at h
    exact h
  · cases hf : fits x 1 (b.hs.length : Int)
    · have h0 : askE5 b (fits x 1 (b.hs.length : Int)) = 51 := by unfold askE5; rw [hb, hf]; rfl
      refine ⟨false, 51, fun w k => Any_no b p c x w (hB.below k.b) hb hf, fun w k => ?_⟩
      have h := refAny_no b p c x w (hB.below k.b) (by rw [h0]; decide)
      rw [h0] at h
      exact h
    · have hf2 := hf
      unfold fits at hf2
      simp only [Bool.and_eq_true, decide_eq_true_eq] at hf2
      obtain ⟨m, rfl⟩ : ∃ m : Nat, x = m := ⟨x.toNat, by omega⟩
      exact ⟨_, 0, fun w k => Any_yes b p c m w (hB.below k.b) hb (by omega) (by omega), fun w k => refAny_yes b p c m w (hB.below k.b) hb (by omega) (by omega)⟩

set_option maxRecDepth 100000 in
set_option maxHeartbeats 3200000 in
theorem FillKinds_any (b : Bf) (p : Option Addr) (c : Nat) (x0 x1 x2 : Int) (w : World) (hB : BfAt w p c b) (h0 : I64 x0) (h1 : I64 x1) :
    Calls Try.prog 3 #[.agg (bfA b p c), .agg #[.int .i64 x0, .int .i64 x1, .int .i64 x2]] w fun e w' => e = .returned (.bool true) ∧ Below w.heap.size w w' := by
  obtain ⟨W0, hW0⟩ : ∃ W, W = (w.alloc (.cells (bfA b p c) 24)).alloc (.cells #[.int .i64 x0, .int .i64 x1, .int .i64 x2] 25) := ⟨_, rfl⟩
  have HW0 := Lib.hid hW0
  have HE := Lib.hid (show Below w.heap.size w W0 by rw [hW0]; exact below_alloc2 _ _ _)
  have HR := Lib.hid (show Row W0 w.heap.size (bfA b p c) 24 by rw [hW0]; exact (Row.new w _ _).alloc _)
  have HN3 := Lib.hid (show Row W0 (w.heap.size + 1) #[.int .i64 x0, .int .i64 x1, .int .i64 x2] 25 by rw [hW0]; exact Row.new1 w _ _ _)
  have g0 := HR.out.cell 0 (v := .int .i64 b.pr) rfl
  have g1 := HR.out.cell 1 (v := .int .i64 b.le) rfl
  have g2 := HR.out.cell 2 (v := .int .i64 b.mo) rfl
  have g3 := HR.out.cell 3 (v := .int .i64 b.gr) rfl
  have g4 := HR.out.cell 4 (v := .slice p b.hs.length c) rfl
  have n0 := HN3.out.cell 0 (v := .int .i64 x0) rfl
  have n1 := HN3.out.cell 1 (v := .int .i64 x1) rfl
  have n2 := HN3.out.cell 2 (v := .int .i64 x2) rfl
  clear hW0
  obtain ⟨z0, hz0⟩ : ∃ z : Later W0, W0 = z.w := ⟨⟨W0, Below.refl _ _⟩, rfl⟩
  have HZ0 := Lib.hid hz0
  clear hz0
  obtain ⟨lo, hi, E1, hA1, hA2⟩ := sum_both b p c x0 x1 W0 (hB.below HE.out)
  obtain ⟨kv, E2, hB1, hB2⟩ := kind_both b p c x0 x1 W0 (hB.below HE.out) h0 h1
  obtain ⟨av, E3, hC1, hC2⟩ := any_both b p c x2 W0 (hB.below HE.out)
  have CH1 := Lib.hid (fun w' (k : From W0 w') => Check_any b p c w' ((hB.below HE.out).below k.b))
  have CH2 := Lib.hid (fun w' (k : From W0 w') => refCheck_any b p c w' ((hB.below HE.out).below k.b))
  have A1 := Lib.hid hA1
  have A2 := Lib.hid hA2
  have B1 := Lib.hid hB1
  have B2 := Lib.hid hB2
  have C1 := Lib.hid hC1
  have C2 := Lib.hid hC2
  obtain ⟨ck, hck⟩ : ∃ n, bookE b = n := ⟨_, rfl⟩
  rw [hck] at CH1 CH2
  clear hA1 hA2 hB1 hB2 hC1 hC2 hB h0 h1 hck
  go_enter Try.func3, Try.ntmps3
  go_wp2_with fail
  rw [← HW0.out, HZ0.out]
  refine (A1.out _ z0.fr).mono ?_
  rintro e u ⟨rfl, hbu⟩
  obtain ⟨z1, hz⟩ := z0.on hbu
  subst hz
  clear hbu
  go_upto_region 2 with (first | (refine store_new rfl 27 _ _ rfl #[.int .i64 lo, .int .i64 hi] #[.int .i64 0, .int .i64 0] 27 rfl rfl (by kernel_rfl) rfl (by simp [Value.oneCell']) ?_))
  obtain ⟨WN, hWN⟩ : ∃ u, z1.w.alloc (.cells #[.int .i64 lo, .int .i64 hi] 27) = u := ⟨_, rfl⟩
  have R1 := Lib.hid (show Row WN z1.w.heap.size #[.int .i64 lo, .int .i64 hi] 27 by rw [← hWN]; exact Row.new z1.w _ _)
  have hbu : Below z1.w.heap.size z1.w WN := by rw [← hWN]; exact below_alloc _ _
  rw [hWN]
  clear hWN
  obtain ⟨BR1, hBR1⟩ : ∃ x, z1.w.heap.size = x := ⟨_, rfl⟩
  rw [hBR1] at R1 ⊢
  clear hBR1
  obtain ⟨z2, hz⟩ := z1.on hbu
  subst hz
  clear hbu
  go_wp2_with fail
  refine (A2.out _ z2.fr).mono ?_
  rintro e u ⟨rfl, hbu⟩
  have R1 := Lib.hid (R1.out.below hbu R1.out.lt)
  obtain ⟨z3, hz⟩ := z2.on hbu
  subst hz
  clear hbu
  go_upto_region 3 with (first | (refine store_new rfl 27 _ _ rfl #[.int .i64 lo, .int .i64 hi] #[.int .i64 0, .int .i64 0] 27 rfl rfl (by kernel_rfl) rfl (by simp [Value.oneCell']) ?_))
  obtain ⟨WN, hWN⟩ : ∃ u, z3.w.alloc (.cells #[.int .i64 lo, .int .i64 hi] 27) = u := ⟨_, rfl⟩
  have R2 := Lib.hid (show Row WN z3.w.heap.size #[.int .i64 lo, .int .i64 hi] 27 by rw [← hWN]; exact Row.new z3.w _ _)
  have hbu : Below z3.w.heap.size z3.w WN := by rw [← hWN]; exact below_alloc _ _
  rw [hWN]
  clear hWN
  have R1 := Lib.hid (R1.out.below hbu R1.out.lt)
  obtain ⟨BR2, hBR2⟩ : ∃ x, z3.w.heap.size = x := ⟨_, rfl⟩
  rw [hBR2] at R2 ⊢
  clear hBR2
  obtain ⟨z4, hz⟩ := z3.on hbu
  subst hz
  clear hbu
  obtain ⟨V, hV⟩ : ∃ u, z4.w = u := ⟨_, rfl⟩
  have KV := Lib.hid (show From W0 V by rw [← hV]; exact z4.fr)
  rw [hV] at R1 R2 ⊢
  clear hV
  have r10 := R1.out.cell 0 (v := .int .i64 lo) rfl
  have r11 := R1.out.cell 1 (v := .int .i64 hi) rfl
  have r20 := R2.out.cell 0 (v := .int .i64 lo) rfl
  have r21 := R2.out.cell 1 (v := .int .i64 hi) rfl
  have e0 := KV.out.cell g0
  have e1 := KV.out.cell g1
  have e2 := KV.out.cell g2
  have e3 := KV.out.cell g3
  have e4 := KV.out.cell g4
  have m0 := KV.out.cell n0
  have m1 := KV.out.cell n1
  have m2 := KV.out.cell n2
  clear g0 g1 g2 g3 g4 n0 n1 n2
  obtain ⟨v0, hv0⟩ : ∃ z : Later V, V = z.w := ⟨⟨V, Below.refl _ _⟩, rfl⟩
  rw [hv0]
  clear hv0
  refine wp_region_later (by kernel_rfl) (by kernel_rfl) ?_
  repeat (go_big_quiet_step (first
    | (go_at_call 17; with_reducible exact Calls.later_of (CH1.out _ (From.trans KV.out (From.trans (Later.fr _) (Later.fr _)))))
    | (go_at_call 18; with_reducible exact Calls.later_of (CH2.out _ (From.trans KV.out (From.trans (Later.fr _) (Later.fr _)))))))
  refine wpQuiet_nil ?_
  intro _ hw'
  obtain ⟨yy, hw''⟩ := hw'
  subst hw''
  obtain ⟨v1, hy⟩ := v0.up yy
  rw [hy]
  clear hy
  go_wp2_with fail
  refine (B1.out _ (KV.out.trans v1.fr)).mono ?_
  rintro e u ⟨rfl, hbu⟩
  obtain ⟨v2, hz⟩ := v1.on hbu
  subst hz
  clear hbu
  go_wp2_with fail
  refine (B2.out _ (KV.out.trans v2.fr)).mono ?_
  rintro e u ⟨rfl, hbu⟩
  obtain ⟨v3, hz⟩ := v2.on hbu
  subst hz
  clear hbu
  go_wp2_with fail
  refine (C1.out _ (KV.out.trans v3.fr)).mono ?_
  rintro e u ⟨rfl, hbu⟩
  obtain ⟨v4, hz⟩ := v3.on hbu
  subst hz
  clear hbu
  go_wp2_with fail
  refine (C2.out _ (KV.out.trans v4.fr)).mono ?_
  rintro e u ⟨rfl, hbu⟩
  obtain ⟨v5, hz⟩ := v4.on hbu
  subst hz
  clear hbu
  go_wp2_with fail
  refine (filled_any _).mono ?_
  rintro e u ⟨rfl, hbu⟩
  obtain ⟨v6, hz⟩ := v5.on hbu
  subst hz
  clear hbu
  go_wp2_with fail
  go_ret
  exact ⟨rfl, HE.out.trans ((KV.out.trans v6.fr).b.mono HE.out.size)⟩
end Go.Proofs.Ytgdidhbomdfcpaa
