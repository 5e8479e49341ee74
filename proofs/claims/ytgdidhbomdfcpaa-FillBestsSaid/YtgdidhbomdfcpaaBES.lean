/- A region whose last operations wait for all others: the others are walked once, in the order of the text; then the last ones. -/
import Derived.Test.YtgdidhbomdfcpaaLF
import Derived.Deep.Quiet
import Derived.Test.YtgdidhbomdfcpaaF37
import Derived.Test.YtgdidhbomdfcpaaF39
import Derived.Test.YtgdidhbomdfcpaaF17
import Derived.Deep.RegionHeld3
import Derived.Test.YtgdidhbomdfcpaaF27
import Derived.Test.YtgdidhbomdfcpaaF24
import Derived.Laws.OwnMore
import Derived.Maps.AppendAt
import Derived.Test.YtgdidhbomdfcpaaF40
import Derived.Test.YtgdidhbomdfcpaaASK
namespace Go.Proofs.Ytgdidhbomdfcpaa
open Go.RowKit Go.Maps

/-- The operation, but that it does nothing. -/
def idleOp (s : Oper) : Oper := { s with dst := none, op := .move (.const undef), guard := none }
def idled (l t : List Oper) : Array Oper := (l ++ t.map idleOp).toArray
/-- No guard of these operations lies behind them. -/
def guardB (l : List Oper) : Bool := l.all fun o => match o.guard with
  | none => true
  | some (j, _) => decide (j < l.length)
/-- Each operation waits for earlier ones only. -/
def lowB (ops : Array Oper) : Bool := (List.range ops.size).all fun i => match ops[i]? with
  | none => true
  | some o => o.after.all fun e => !Region.binds .any e || decide (e.on < i)
/-- From one on, each operation waits for all earlier ones. -/
def lateB (m : Nat) (ops : Array Oper) : Bool := (List.range ops.size).all fun k => decide (k < m) || (List.range k).all fun i => match ops[k]? with
  | none => true
  | some o => o.after.any fun e => Region.binds .any e && e.on == i

section
variable {P : Program} {C : World → Prop} {l t : List Oper} {listed : Array Bool}

theorem idled_size : (idled l t).size = (l ++ t).toArray.size := by simp [idled]
theorem idled_lt {i : Nat} (h : i < l.length) : (idled l t)[i]? = (l ++ t).toArray[i]? := by
  simp [idled, List.getElem?_append_left h]
theorem idled_ge {i : Nat} {o : Oper} (h : l.length ≤ i) (ho : (l ++ t).toArray[i]? = some o) : (idled l t)[i]? = some (idleOp o) := by
  simp only [List.getElem?_toArray, List.getElem?_append_right h] at ho
  simp [idled, List.getElem?_append_right h, ho]
theorem idled_after (i : Nat) : ((idled l t)[i]?).map (·.after) = ((l ++ t).toArray[i]?).map (·.after) := by
  by_cases h : i < l.length
  · rw [idled_lt h]
  · cases ho : (l ++ t).toArray[i]? with
    | none =>
      have h1 : (l ++ t).toArray.size ≤ i := Array.getElem?_eq_none_iff.1 ho
      rw [← idled_size] at h1
      rw [Array.getElem?_eq_none_iff.2 h1]
    | some o => rw [idled_ge (by omega) ho]; rfl
theorem ready_idled : Region.ready .any (idled l t) listed = Region.ready .any (l ++ t).toArray listed := by
  unfold Region.ready
  rw [idled_size]
  refine List.filter_congr fun i _ => ?_
  congr 1
  have h := idled_after (l := l) (t := t) i
  have key : ∀ x : Option Oper, (x.map fun o => o.after.all fun e => !Region.binds .any e || listed.getD e.on false) = (x.map (·.after)).map fun a => a.all fun e => !Region.binds .any e || listed.getD e.on false := fun x => by cases x <;> rfl
  rw [key, key, h]
theorem wanted_idled (hg : guardB l = true) {o : Oper} (ho : o ∈ l) (tmps : Array Value) : Region.wanted o (yielded (idled l t) tmps) = Region.wanted o (yielded (l ++ t).toArray tmps) := by
  have h := List.all_eq_true.1 hg o ho
  unfold Region.wanted
  cases hgd : o.guard with
  | none => rfl
  | some g =>
    obtain ⟨j, b⟩ := g
    rw [hgd] at h
    simp only [decide_eq_true_eq] at h
    simp only
    unfold yielded
    rw [idled_lt h]
theorem getD_size {i : Nat} (h : i < listed.size) : listed.getD i true = listed.getD i false := by simp [Array.getD, h]
theorem getD_lt {i : Nat} (h : listed.getD i true = false) : i < listed.size := by
  by_cases e : i < listed.size
  · exact e
  · simp [Array.getD, e] at h
theorem ready_some {ops : Array Oper} (hl : lowB ops = true) (hs : listed.size = ops.size) : ∀ k, listed.getD k true = false → ∃ i, i ∈ Region.ready .any ops listed := by
  intro k
  induction k using Nat.strongRecOn with
  | _ k ih =>
    intro hk
    have hlt := getD_lt hk
    have ho : ops[k]? = some ops[k] := Array.getElem?_eq_getElem (by omega)
    by_cases hall : ∀ e ∈ (ops[k]).after, Region.binds .any e = true → listed.getD e.on false = true
    · exact ⟨k, mem_ready.2 ⟨hk, _, ho, hall⟩⟩
    · obtain ⟨e, he⟩ := Classical.not_forall.1 hall
      obtain ⟨h1, he⟩ := Classical.not_imp.1 he
      obtain ⟨h2, h3⟩ := Classical.not_imp.1 he
      have h4 := List.all_eq_true.1 hl k (List.mem_range.2 (by omega))
      rw [ho] at h4
      simp only at h4
      have h5 := Array.all_eq_true_iff_forall_mem.1 h4 e h1
      rw [h2] at h5
      simp only [Bool.not_true, Bool.false_or, decide_eq_true_eq] at h5
      refine ih e.on h5 ?_
      rw [getD_size (by omega)]
      simpa using h3
theorem ready_late {ops : Array Oper} {m k i : Nat} (h : lateB m ops = true) (hk : k ∈ Region.ready .any ops listed) (hm : m ≤ k) (hi : i < k) : listed.getD i false = true := by
  obtain ⟨_, o, ho, hall⟩ := mem_ready.1 hk
  have hlt : k < ops.size := (Array.getElem?_eq_some_iff.1 ho).1
  have h1 := List.all_eq_true.1 h k (List.mem_range.2 hlt)
  rw [Bool.or_eq_true] at h1
  rcases h1 with h1 | h1
  · simp only [decide_eq_true_eq] at h1
    omega
  · have h2 := List.all_eq_true.1 h1 i (List.mem_range.2 hi)
    rw [ho] at h2
    obtain ⟨e, he, hb⟩ := Array.any_eq_true'.1 h2
    simp only [Bool.and_eq_true, beq_iff_eq] at hb
    rw [← hb.2]
    exact hall e he hb.1
/-- The first ones are listed, the others not. -/
structure Upto (k : Nat) (listed : Array Bool) : Prop where
  y : ∀ i, i < k → listed.getD i false = true
  n : ∀ i, k ≤ i → i < listed.size → listed.getD i true = false
theorem Upto.set {k : Nat} (h : Upto k listed) (hk : k < listed.size) : Upto (k + 1) (listed.setIfInBounds k true) := by
  constructor
  · intro i hi
    by_cases e : k = i
    · subst e
      simp [hk]
    · rw [getD_set_ne false e]; exact h.y i (by omega)
  · intro i hi hs
    rw [getD_set_ne true (by omega)]
    exact h.n i (by omega) (by simpa using hs)
/-- At the last operations: they alone may come up, each behind the one before. -/
theorem ready_last {ops : Array Oper} {m k i : Nat} (hl : lateB m ops = true) (hs : listed.size = ops.size) (hm : m ≤ k) (h : Upto k listed) (hi : i ∈ Region.ready .any ops listed) : i = k := by
  have h1 := (mem_ready.1 hi).1
  have hlt := getD_lt h1
  by_cases e : i < k
  · have h2 := h.y i e
    rw [getD_size hlt] at h1
    rw [h1] at h2
    cases h2
  · by_cases e2 : i = k
    · exact e2
    · have h2 := ready_late hl hi (by omega) (i := k) (by omega)
      have h3 := h.n k (Nat.le_refl _) (by omega)
      rw [getD_size (by omega)] at h3
      rw [h3] at h2
      cases h2
theorem last_walk {R : Act → Prop} {Q' : Exit → Act → World → Prop} (h1 : lowB (l ++ t).toArray = true) (h2 : lateB l.length (l ++ t).toArray = true) :
    ∀ (fuel : Nat) (r : List Oper) (k : Nat) (listed : Array Bool) (a a' : Act) (w : World), (∀ j, r[j]? = (l ++ t).toArray[k + j]?) → l.length ≤ k → k ≤ (l ++ t).toArray.size → listed.size = (l ++ t).toArray.size → Upto k listed →
      wpAnyQ P .any (idled l t) C R fuel listed a → (R a ∧ (wpList P (l ++ t).toArray Q' r a' w → wpAny P .any (l ++ t).toArray Q' fuel listed a' w))
  | 0, r, k, listed, a, a', w, hr, hk, hks, hs, hu, h => by
    refine ⟨h.2, fun hw => ⟨by rw [← ready_idled]; exact h.1, ?_⟩⟩
    cases r with
    | nil => exact hw
    | cons o r =>
      have ho : (l ++ t).toArray[k]? = some o := by simpa using (hr 0).symm
      have hlt := (Array.getElem?_eq_some_iff.1 ho).1
      obtain ⟨i, hi⟩ := ready_some h1 hs k (hu.n k (Nat.le_refl _) (by omega))
      rw [← ready_idled, h.1] at hi
      cases hi
  | fuel + 1, r, k, listed, a, a', w, hr, hk, hks, hs, hu, h => by
    cases r with
    | nil =>
      have hsz : (l ++ t).toArray.size ≤ k := by
        have := hr 0
        simp only [List.getElem?_nil, Nat.add_zero] at this
        exact Array.getElem?_eq_none_iff.1 this.symm
      have hre : Region.ready .any (l ++ t).toArray listed = [] := by
        rw [List.eq_nil_iff_forall_not_mem]
        intro i hi
        have := ready_last h2 hs hk hu hi
        have hlt := getD_lt (mem_ready.1 hi).1
        omega
      exact ⟨h.1 (by rw [ready_idled]; exact hre), fun hw => wpAny_done hre hw _⟩
    | cons o r =>
      have ho : (l ++ t).toArray[k]? = some o := by simpa using (hr 0).symm
      have hlt := (Array.getElem?_eq_some_iff.1 ho).1
      obtain ⟨i, hi⟩ := ready_some h1 hs k (hu.n k (Nat.le_refl _) (by omega))
      have hik := ready_last h2 hs hk hu hi
      subst hik
      have hq := h.2 i (by rw [ready_idled]; exact hi)
      unfold qOp at hq
      rw [idled_ge hk ho] at hq
      simp only at hq
      rw [if_pos (by rfl)] at hq
      obtain ⟨v, _, hq⟩ := hq
      have hr' : ∀ j, r[j]? = (l ++ t).toArray[i + 1 + j]? := fun j => by
        have := hr (j + 1)
        simpa [Nat.add_assoc, Nat.add_comm 1 j] using this
      have ih := fun a'' w'' => last_walk (Q' := Q') h1 h2 fuel r (i + 1) (listed.setIfInBounds i true) a a'' w'' hr' (by omega) (by omega) (by simpa using hs) (hu.set (by omega)) hq
      refine ⟨(ih a' w).1, fun hw => ⟨fun h0 => absurd hi (by rw [h0]; exact List.not_mem_nil), fun j hj => ?_⟩⟩
      have hjk := ready_last h2 hs hk hu hj
      subst hjk
      unfold wpOp
      rw [ho]
      simp only
      unfold wpList at hw
      split at hw
      · rename_i hwt
        rw [if_pos hwt]
        rcases hw with hw | hw
        · exact .inl (Oper.wp_mono (fun a'' w'' h'' => (ih a'' w'').2 h'') hw)
        · exact .inr hw
      · rename_i hwt
        rw [if_neg hwt]
        exact (ih _ _).2 hw
theorem first_walk {R : Act → Prop} {Q' : Exit → Act → World → Prop} (hg : guardB l = true) (h1 : lowB (l ++ t).toArray = true) (h2 : lateB l.length (l ++ t).toArray = true)
    (hR : ∀ a w, C w → R a → wpList P (l ++ t).toArray Q' t a w) :
    ∀ (fuel : Nat) (listed : Array Bool) (a : Act) (w : World), listed.size = (l ++ t).toArray.size → (∀ i, l.length ≤ i → i < listed.size → listed.getD i true = false) → C w →
      wpAnyQ P .any (idled l t) C R fuel listed a → wpAny P .any (l ++ t).toArray Q' fuel listed a w := by
  intro fuel
  have hlast : ∀ fuel (listed : Array Bool) (a : Act) (w : World), listed.size = (l ++ t).toArray.size → (∀ i, l.length ≤ i → i < listed.size → listed.getD i true = false) → (∀ i, i < l.length → listed.getD i false = true) → C w →
      wpAnyQ P .any (idled l t) C R fuel listed a → wpAny P .any (l ++ t).toArray Q' fuel listed a w := fun fuel listed a w hs hun hall hC h => by
    have := last_walk (Q' := Q') h1 h2 fuel t l.length listed a a w (fun j => by rw [List.getElem?_toArray, List.getElem?_append_right (by omega)]; simp) (Nat.le_refl _) (by simp) hs ⟨hall, hun⟩ h
    exact this.2 (hR a w hC this.1)
  induction fuel with
  | zero =>
    intro listed a w hs hun hC h
    by_cases hall : ∀ i, i < l.length → listed.getD i false = true
    · exact hlast 0 listed a w hs hun hall hC h
    · obtain ⟨i, hi⟩ := Classical.not_forall.1 hall
      obtain ⟨hi1, hi2⟩ := Classical.not_imp.1 hi
      have hsz : listed.size = l.length + t.length := by rw [hs]; simp
      obtain ⟨j, hj⟩ := ready_some h1 hs i (by rw [getD_size (by omega)]; simpa using hi2)
      rw [← ready_idled, h.1] at hj
      cases hj
  | succ fuel ih =>
    intro listed a w hs hun hC h
    by_cases hall : ∀ i, i < l.length → listed.getD i false = true
    · exact hlast _ listed a w hs hun hall hC h
    · obtain ⟨i, hi⟩ := Classical.not_forall.1 hall
      obtain ⟨hi1, hi2⟩ := Classical.not_imp.1 hi
      have hsz : listed.size = l.length + t.length := by rw [hs]; simp
      obtain ⟨j, hj⟩ := ready_some h1 hs i (by rw [getD_size (by omega)]; simpa using hi2)
      refine ⟨fun h0 => absurd hj (by rw [h0]; exact List.not_mem_nil), fun k hk => ?_⟩
      have hkl : k < l.length := by
        by_cases e : k < l.length
        · exact e
        · exact absurd (fun i hi => ready_late h2 hk (by omega) (by omega)) hall
      obtain ⟨_, o, ho, _⟩ := mem_ready.1 hk
      have hq := h.2 k (by rw [ready_idled]; exact hk)
      have hol : o ∈ l := by
        have : l[k]? = some o := by
          have := ho
          simp only [List.getElem?_toArray, List.getElem?_append_left hkl] at this
          exact this
        exact List.mem_of_getElem? this
      have hq2 : qOp P (l ++ t).toArray C k (wpAnyQ P .any (idled l t) C R fuel (listed.setIfInBounds k true)) a := by
        unfold qOp at hq ⊢
        rw [idled_lt hkl] at hq
        rw [ho] at hq ⊢
        simp only at hq ⊢
        rw [wanted_idled hg hol] at hq
        exact hq
      exact wpOp_of_qOp hC (fun a' w' hw' hh => ih (listed.setIfInBounds k true) a' w' (by simpa using hs) (fun i' hi1' hi2' => by
        rw [getD_set_ne true (by omega)]
        exact hun i' hi1' (by simpa using hi2')) hw' hh) hq2
theorem wpQuiet_app {ops ops' : Array Oper} {R : Act → Prop} (hw : ∀ o ∈ l, ∀ tmps, Region.wanted o (yielded ops' tmps) = Region.wanted o (yielded ops tmps)) : ∀ (r : List Oper) (_ : ∀ o ∈ r, o ∈ l) (a : Act), wpQuiet P ops C R r a → wpQuiet P ops' C R (r ++ t.map idleOp) a
  | [], _, a, h => by
    have key : ∀ (t : List Oper) (a : Act), R a → wpQuiet P ops' C R (t.map idleOp) a := by
      intro t
      induction t with
      | nil => exact fun a h => h
      | cons s t ih =>
        intro a h
        show if Region.wanted (idleOp s) (yielded ops' a.tmps) = true then (idleOp s).quiet P a C (wpQuiet P ops' C R (t.map idleOp)) else _
        rw [if_pos (by rfl)]
        exact ⟨undef, fun w _ => by unfold Oper.quietAt; rw [show (execOp a.eval (idleOp s)) = _ from rfl]; exact ⟨rfl, rfl⟩, ih a h⟩
    exact key t a h
  | o :: r, hr, a, h => by
    have h' : if Region.wanted o (yielded ops a.tmps) = true then o.quiet P a C (wpQuiet P ops C R r) else wpQuiet P ops C R r (a.put o.dst undef) := h
    show if Region.wanted o (yielded ops' a.tmps) = true then o.quiet P a C (wpQuiet P ops' C R (r ++ t.map idleOp)) else wpQuiet P ops' C R (r ++ t.map idleOp) (a.put o.dst undef)
    rw [hw o (hr o (by simp))]
    split at h'
    · rename_i e
      rw [if_pos e]
      exact Oper.quiet_mono (fun a' h'' => wpQuiet_app hw r (fun o' ho' => hr o' (by simp [ho'])) a' h'') h'
    · rename_i e
      rw [if_neg e]
      exact wpQuiet_app hw r (fun o' ho' => hr o' (by simp [ho'])) _ h'
/-- **A region whose last operations wait for all others**: the first ones are walked once, each of them quiet; behind them, in each world of the class, the last ones in their order. -/
theorem wp_region_last {id : Nat} {Q : Exit → Act → World → Prop} {a : Act} {w : World} (l t : List Oper) (hm : P.follows .mixedOrders = true) (hB : Region.lexB .any (idled l t) = true) (hg : guardB l = true) (h1 : lowB (l ++ t).toArray = true) (h2 : lateB l.length (l ++ t).toArray = true)
    (h : wpQuiet P (l ++ t).toArray (fun w' => ∃ x : Later w, w' = x.w) (fun a' => ∀ w', (∃ x : Later w, w' = x.w) → wpList P (l ++ t).toArray Q t a' w') l a) : (Code.region id (l ++ t).toArray true).wp P Q a w := by
  simp only [Region.lexB, Bool.and_eq_true] at hB
  refine wp_region_any hm ?_
  refine first_walk (C := fun w' => ∃ x : Later w, w' = x.w) (R := fun a' => ∀ w', (∃ x : Later w, w' = x.w) → wpList P (l ++ t).toArray Q t a' w') hg h1 h2 (fun a' w' hC hR => hR w' hC) _ _ _ _ (by simp) (fun i _ hi => by simp at hi; simp [hi]) ⟨⟨w.drew, (Below.refl _ _).drew⟩, rfl⟩ ?_
  have hq := wpQuiet_app (ops' := idled l t) (l := l) (t := t) (fun o ho tmps => wanted_idled hg ho tmps) l (fun o ho => ho) a h
  have := wpAnyQ_lex (C := fun w' => ∃ x : Later w, w' = x.w) (md := .any) hB.1 (l ++ t.map idleOp) 0 (Array.replicate (idled l t).size false) a (by simp [idled]) (by simpa [idled] using hB.2) hq
  simpa [idled] using this
/-- The same, the last operations counted. -/
theorem wp_region_tail {id : Nat} {Q : Exit → Act → World → Prop} {a : Act} {w : World} {L : List Oper} (m : Nat) (hm : P.follows .mixedOrders = true) (hB : Region.lexB .any (idled (L.take m) (L.drop m)) = true) (hg : guardB (L.take m) = true) (h1 : lowB L.toArray = true) (h2 : lateB m L.toArray = true) (hl : (L.take m).length = m)
    (h : wpQuiet P L.toArray (fun w' => ∃ x : Later w, w' = x.w) (fun a' => ∀ w', (∃ x : Later w, w' = x.w) → wpList P L.toArray Q (L.drop m) a' w') (L.take m) a) : (Code.region id L.toArray true).wp P Q a w := by
  have e := List.take_append_drop m L
  have key := wp_region_last (P := P) (id := id) (Q := Q) (a := a) (w := w) (L.take m) (L.drop m) hm hB hg (by rw [e]; exact h1) (by rw [e, hl]; exact h2) (by rw [e]; exact h)
  rw [e] at key
  exact key
end
end Go.Proofs.Ytgdidhbomdfcpaa
/- The walks of the specification of layer 5: Check, asked, isBox, label, sum, right. -/
namespace Go.Proofs.Ytgdidhbomdfcpaa
open Go.RowKit Go.Maps
attribute [local go_sem] Oper.semAt_some

theorem take_all5 {α : Type} {P : α → Bool} {l : List α} {k : Nat} (h : k < l.length) : (l.take (k + 1)).all P = ((l.take k).all P && P l[k]) := by
  rw [List.take_add_one, List.getElem?_eq_getElem h, List.all_append]
  simp
theorem take_false5 {α : Type} {P : α → Bool} {l : List α} {k : Nat} (h : (l.take k).all P = false) : l.all P = false := by
  rw [List.all_eq_false] at h ⊢
  obtain ⟨x, hx, hp⟩ := h
  exact ⟨x, List.mem_of_mem_take hx, hp⟩
theorem numB_false {b : Bf} (h : ¬ (1 ≤ b.pr ∧ b.pr ≤ 500 ∧ 0 ≤ b.le ∧ b.le ≤ 50 ∧ b.le ≤ b.pr - 1 ∧ 0 ≤ b.mo ∧ b.mo ≤ 50 ∧ 1 ≤ b.gr ∧ b.gr ≤ 4 ∧ b.hs.length ≤ 8)) : numB b = false := by
  unfold numB
  exact decide_eq_false h
theorem fits_no {n lo hi : Int} (h : ¬ (lo ≤ n ∧ n ≤ hi)) : fits n lo hi = false := by
  unfold fits
  simp
  omega
set_option maxRecDepth 10000 in
set_option maxHeartbeats 1600000 in
theorem refCheck_any (b : Bf) (p : Option Addr) (c : Nat) (w : World) (hB : BfAt w p c b) :
    Calls Try.prog 18 #[.agg (bfA b p c)] w fun e w' => e = .returned (.int .i64 (bookE b)) ∧ Below w.heap.size w w' := by
  obtain ⟨W0, hW0⟩ : ∃ W, W = w.alloc (.cells (bfA b p c) 24) := ⟨_, rfl⟩
  have HW0 := Lib.hid hW0
  have HE := Lib.hid (show Below w.heap.size w W0 by rw [hW0]; exact below_alloc _ _)
  have HR := Lib.hid (show Row W0 w.heap.size (bfA b p c) 24 by rw [hW0]; exact Row.new w _ _)
  have g0 := HR.out.cell 0 (v := .int .i64 b.pr) rfl
  have g1 := HR.out.cell 1 (v := .int .i64 b.le) rfl
  have g2 := HR.out.cell 2 (v := .int .i64 b.mo) rfl
  have g3 := HR.out.cell 3 (v := .int .i64 b.gr) rfl
  have g4 := HR.out.cell 4 (v := .slice p b.hs.length c) rfl
  clear hW0
  obtain ⟨z0, hz0⟩ : ∃ z : Later W0, W0 = z.w := ⟨⟨W0, Below.refl _ _⟩, rfl⟩
  have HZ0 := Lib.hid hz0
  clear hz0
  have HB := Lib.hid (hB.below HE.out)
  have hn := hB.n
  clear hB
  go_enter Try.func18, Try.ntmps18
  go_upto_region 1 with (fail)
  rw [← HW0.out, HZ0.out]
  go_cut [3] from 5 to 32 (fun ok wx => ok = .bool (numB b) ∧ ∃ x : Later W0, wx = x.w)
  case first =>
    by_cases h1 : 1 ≤ b.pr ∧ b.pr ≤ 500
    · obtain ⟨h1a, h1b⟩ := h1
      have e1 : IntKind.i64.wrap (b.pr - 1) = b.pr - 1 := IntWalk.i64_in _ (by omega)
      have HF1 := Lib.hid (fun w' => Fits_yes b.pr 1 500 w' h1a h1b)
      by_cases h2 : 0 ≤ b.le ∧ b.le ≤ min 50 (b.pr - 1)
      · have HF2 := Lib.hid (fun w' => Fits_yes b.le 0 (min 50 (b.pr - 1)) w' h2.1 h2.2)
        by_cases h3 : 0 ≤ b.mo ∧ b.mo ≤ 50
        · have HF3 := Lib.hid (fun w' => Fits_yes b.mo 0 50 w' h3.1 h3.2)
          by_cases h4 : 1 ≤ b.gr ∧ b.gr ≤ 4
          · have HF4 := Lib.hid (fun w' => Fits_yes b.gr 1 4 w' h4.1 h4.2)
            by_cases h5 : b.hs.length ≤ 8
            · have h5' : (b.hs.length : Int) ≤ 8 := by omega
              have HV := Lib.hid (show numB b = true by unfold numB; exact decide_eq_true (by omega))
              clear h2 h3 h4 h5
              go_wp2_with (first | (go_at_call 55; (with_reducible refine (HF1.out _).mono ?_); rintro e w1 ⟨rfl, rfl⟩) | (go_at_call 55; (with_reducible refine (HF2.out _).mono ?_); rintro e w1 ⟨rfl, rfl⟩) | (go_at_call 55; (with_reducible refine (HF3.out _).mono ?_); rintro e w1 ⟨rfl, rfl⟩) | (go_at_call 55; (with_reducible refine (HF4.out _).mono ?_); rintro e w1 ⟨rfl, rfl⟩))
              all_goals
                go_meet
                exact ⟨by rw [HV.out] <;> first | rfl | (congr 1; simp; omega), z0, rfl⟩
            · have h5' : ¬ (b.hs.length : Int) ≤ 8 := by omega
              have h5'' : (8 : Int) < (b.hs.length : Int) := by omega
              have HV := Lib.hid (numB_false (b := b) (by omega))
              clear h2 h3 h4 h5
              go_wp2_with (first | (go_at_call 55; (with_reducible refine (HF1.out _).mono ?_); rintro e w1 ⟨rfl, rfl⟩) | (go_at_call 55; (with_reducible refine (HF2.out _).mono ?_); rintro e w1 ⟨rfl, rfl⟩) | (go_at_call 55; (with_reducible refine (HF3.out _).mono ?_); rintro e w1 ⟨rfl, rfl⟩) | (go_at_call 55; (with_reducible refine (HF4.out _).mono ?_); rintro e w1 ⟨rfl, rfl⟩))
              all_goals
                go_meet
                exact ⟨by rw [HV.out] <;> first | rfl | (congr 1; simp; omega), z0, rfl⟩
          · have HF4 := Lib.hid (fun w' => Fits_no b.gr 1 4 w' (by omega))
            have HV := Lib.hid (numB_false (b := b) (by omega))
            clear h2 h3 h4
            go_wp2_with (first | (go_at_call 55; (with_reducible refine (HF1.out _).mono ?_); rintro e w1 ⟨rfl, rfl⟩) | (go_at_call 55; (with_reducible refine (HF2.out _).mono ?_); rintro e w1 ⟨rfl, rfl⟩) | (go_at_call 55; (with_reducible refine (HF3.out _).mono ?_); rintro e w1 ⟨rfl, rfl⟩) | (go_at_call 55; (with_reducible refine (HF4.out _).mono ?_); rintro e w1 ⟨rfl, rfl⟩))
            all_goals
              go_meet
              exact ⟨by rw [HV.out] <;> first | rfl | (congr 1; simp; omega), z0, rfl⟩
        · have HF3 := Lib.hid (fun w' => Fits_no b.mo 0 50 w' (by omega))
          have HV := Lib.hid (numB_false (b := b) (by omega))
          clear h2 h3
          go_wp2_with (first | (go_at_call 55; (with_reducible refine (HF1.out _).mono ?_); rintro e w1 ⟨rfl, rfl⟩) | (go_at_call 55; (with_reducible refine (HF2.out _).mono ?_); rintro e w1 ⟨rfl, rfl⟩) | (go_at_call 55; (with_reducible refine (HF3.out _).mono ?_); rintro e w1 ⟨rfl, rfl⟩))
          all_goals
            go_meet
            exact ⟨by rw [HV.out] <;> first | rfl | (congr 1; simp; omega), z0, rfl⟩
      · have HF2 := Lib.hid (fun w' => Fits_no b.le 0 (min 50 (b.pr - 1)) w' (by omega))
        have HV := Lib.hid (numB_false (b := b) (by omega))
        clear h2
        go_wp2_with (first | (go_at_call 55; (with_reducible refine (HF1.out _).mono ?_); rintro e w1 ⟨rfl, rfl⟩) | (go_at_call 55; (with_reducible refine (HF2.out _).mono ?_); rintro e w1 ⟨rfl, rfl⟩))
        all_goals
          go_meet
          exact ⟨by rw [HV.out] <;> first | rfl | (congr 1; simp; omega), z0, rfl⟩
    · have HF1 := Lib.hid (fun w' => Fits_no b.pr 1 500 w' (by omega))
      go_wp2_with (first | (go_at_call 55; (with_reducible refine (HF1.out _).mono ?_); rintro e w1 ⟨rfl, rfl⟩))
      go_meet
      exact ⟨by rw [numB_false (by omega)], z0, rfl⟩
  case rest =>
    obtain ⟨rfl, x0, rfl⟩ := hcut
    go_wp2_with fail
    go_loopw [3, 4] (fun ok i wr => ∃ (k : Nat) (x : Later W0), k ≤ b.hs.length ∧ ok = .bool (numB b && (b.hs.take k).all hdB) ∧ i = .int .i64 (k : Int) ∧ wr = x.w) (fun _ i _ => b.hs.length - (intOf i).toNat)
    case atStart => exact ⟨0, x0, by omega, by simp, rfl, rfl⟩
    case round =>
      obtain ⟨k, x, hk, rfl, rfl, rfl⟩ := hrel
      cases hok : (numB b && (b.hs.take k).all hdB)
      · have HV := Lib.hid (show bookE b = 50 from bookE_bad (by
          unfold bookB
          cases hn2 : numB b
          · rfl
          · rw [hn2, Bool.true_and] at hok
            rw [take_false5 hok]
            rfl))
        clear hok
        go_wp2_with fail
        go_ret
        exact ⟨ret_int HV.out.symm, x.base HE.out⟩
      · have HOK := Lib.hid hok
        clear hok
        by_cases hlt : k < b.hs.length
        · obtain ⟨bb, o, rfl, c0, c1⟩ := HB.out.h k hlt
          have hnx := take_all5 (P := hdB) hlt
          have HNX := Lib.hid hnx
          clear hnx
          obtain ⟨lo, hlo⟩ : ∃ x, b.hs[k].lo = x := ⟨_, rfl⟩
          obtain ⟨hi, hhi⟩ : ∃ x, b.hs[k].hi = x := ⟨_, rfl⟩
          have HD := Lib.hid (show hdB b.hs[k] = ((decide (0 ≤ lo) && decide (lo ≤ hi) && decide (hi ≤ 200)) && decide (hi - lo ≤ 10)) by
            rw [Bool.eq_iff_iff]
            unfold hdB
            rw [hlo, hhi]
            simp only [Bool.and_eq_true, decide_eq_true_eq]
            omega)
          rw [hlo] at c0
          rw [hhi] at c1
          clear hlo hhi
          have i1 : (0 : Int) ≤ (k : Int) := by omega
          have i2 : (k : Int) < (b.hs.length : Int) := by omega
          have HRI := Lib.hid (fun w' => Right_any lo hi 0 200 w')
          cases hr : (decide (0 ≤ lo) && decide (lo ≤ hi) && decide (hi ≤ 200))
          · rw [hr] at HRI HD
            clear hr
            go_upto_region 5 with (fail)
            refine wp_region_later (by kernel_rfl) (by kernel_rfl) ?_
            repeat (go_big_quiet_step (first
              | (go_at_call 66; with_reducible exact Calls.later_of (HRI.out _))))
            refine wpQuiet_nil ?_
            intro _ hw'
            obtain ⟨yy, hw''⟩ := hw'
            subst hw''
            obtain ⟨x2, hy⟩ := x.up yy
            rw [hy]
            clear hy
            go_wp2_with fail
            go_roundw
            case rel => exact ⟨k + 1, x2, by omega, by rw [HNX.out, HD.out, Bool.false_and, Bool.and_false, Bool.and_false], by go_num, rfl⟩
            case measure => simp [intOf]; omega
          · have hr2 := hr
            simp only [Bool.and_eq_true, decide_eq_true_eq] at hr2
            obtain ⟨⟨q1, q2⟩, q3⟩ := hr2
            have e1 : IntKind.i64.wrap (hi - lo) = hi - lo := IntWalk.i64_in _ (by omega)
            rw [hr] at HRI HD
            clear hr
            go_upto_region 5 with (fail)
            refine wp_region_later (by kernel_rfl) (by kernel_rfl) ?_
            repeat (go_big_quiet_step (first
              | (go_at_call 66; with_reducible exact Calls.later_of (HRI.out _))))
            refine wpQuiet_nil ?_
            intro _ hw'
            obtain ⟨yy, hw''⟩ := hw'
            subst hw''
            obtain ⟨x2, hy⟩ := x.up yy
            rw [hy]
            clear hy
            go_wp2_with fail
            go_roundw
            case rel => exact ⟨k + 1, x2, by omega, by rw [HNX.out, HD.out, Bool.true_and, ← Bool.and_assoc, HOK.out, Bool.true_and], by go_num, rfl⟩
            case measure => simp [intOf]; omega
        · obtain rfl : k = b.hs.length := by omega
          have HV := Lib.hid (show bookE b = 0 from bookE_ok (by
            have h := HOK.out
            rw [List.take_length] at h
            exact h))
          go_wp2_with fail
          go_ret
          exact ⟨ret_int HV.out.symm, x.base HE.out⟩
set_option maxRecDepth 10000 in
set_option maxHeartbeats 1600000 in
/-- The error of a book, and of a question. -/
def askE5 (b : Bf) (r : Bool) : Int := if bookB b then (if r then 0 else 51) else 50
theorem refAsked5_any (b : Bf) (p : Option Addr) (c : Nat) (r : Bool) (w : World) (hB : BfAt w p c b) :
    Calls Try.prog 63 #[.agg (bfA b p c), .bool r] w fun e w' => e = .returned (.int .i64 (askE5 b r)) ∧ Below w.heap.size w w' := by
  obtain ⟨W0, hW0⟩ : ∃ W, W = w.alloc (.cells (bfA b p c) 24) := ⟨_, rfl⟩
  have HW0 := Lib.hid hW0
  have HE := Lib.hid (show Below w.heap.size w W0 by rw [hW0]; exact below_alloc _ _)
  have HR := Lib.hid (show Row W0 w.heap.size (bfA b p c) 24 by rw [hW0]; exact Row.new w _ _)
  have g0 := HR.out.cell 0 (v := .int .i64 b.pr) rfl
  have g1 := HR.out.cell 1 (v := .int .i64 b.le) rfl
  have g2 := HR.out.cell 2 (v := .int .i64 b.mo) rfl
  have g3 := HR.out.cell 3 (v := .int .i64 b.gr) rfl
  have g4 := HR.out.cell 4 (v := .slice p b.hs.length c) rfl
  clear hW0
  obtain ⟨z0, hz0⟩ : ∃ z : Later W0, W0 = z.w := ⟨⟨W0, Below.refl _ _⟩, rfl⟩
  have HZ0 := Lib.hid hz0
  clear hz0
  have HB := Lib.hid (hB.below HE.out)
  have HC := Lib.hid (fun w' (k : From W0 w') => refCheck_any b p c w' (HB.out.below k.b))
  clear hB
  cases hb : bookB b
  · have HV := Lib.hid (show askE5 b r = 50 by unfold askE5; rw [hb]; rfl)
    have HK := Lib.hid (bookE_bad hb)
    rw [HK.out] at HC
    clear hb
    go_enter Try.func63, Try.ntmps63
    go_wp2_with fail
    rw [← HW0.out, HZ0.out]
    refine (HC.out _ z0.fr).mono ?_
    rintro e u ⟨rfl, hbu⟩
    obtain ⟨z1, hz⟩ := z0.on hbu
    subst hz
    clear hbu
    go_wp2_with fail
    go_ret
    exact ⟨ret_int HV.out.symm, z1.base HE.out⟩
  · have HK := Lib.hid (bookE_ok hb)
    rw [HK.out] at HC
    cases r
    · have HV := Lib.hid (show askE5 b false = 51 by unfold askE5; rw [hb]; rfl)
      clear hb
      go_enter Try.func63, Try.ntmps63
      go_wp2_with fail
      rw [← HW0.out, HZ0.out]
      refine (HC.out _ z0.fr).mono ?_
      rintro e u ⟨rfl, hbu⟩
      obtain ⟨z1, hz⟩ := z0.on hbu
      subst hz
      clear hbu
      go_wp2_with fail
      go_ret
      exact ⟨ret_int HV.out.symm, z1.base HE.out⟩
    · have HV := Lib.hid (show askE5 b true = 0 by unfold askE5; rw [hb]; rfl)
      clear hb
      go_enter Try.func63, Try.ntmps63
      go_wp2_with fail
      rw [← HW0.out, HZ0.out]
      refine (HC.out _ z0.fr).mono ?_
      rintro e u ⟨rfl, hbu⟩
      obtain ⟨z1, hz⟩ := z0.on hbu
      subst hz
      clear hbu
      go_wp2_with fail
      go_ret
      exact ⟨ret_int HV.out.symm, z1.base HE.out⟩
set_option maxRecDepth 10000 in
set_option maxHeartbeats 1600000 in
theorem refLabel_any (b : Bf) (p : Option Addr) (c : Nat) (w : World) (hok : BfOk b) :
    Calls Try.prog 70 #[.agg (bfA b p c)] w fun e w' => e = .returned (.agg #[.int .i64 (b.pr - b.le), .int .i64 (b.pr + b.mo)]) ∧ Below w.heap.size w w' := by
  obtain ⟨W0, hW0⟩ : ∃ W, W = (w.alloc (.cells (bfA b p c) 24)).alloc (.cells #[.int .i64 0, .int .i64 0] 27) := ⟨_, rfl⟩
  have HW0 := Lib.hid hW0
  have HE := Lib.hid (show Below w.heap.size w W0 by rw [hW0]; exact below_alloc2 _ _ _)
  have HR := Lib.hid (show Row W0 w.heap.size (bfA b p c) 24 by rw [hW0]; exact (Row.new w _ _).alloc _)
  have HQ := Lib.hid (show Row W0 (w.heap.size + 1) #[.int .i64 0, .int .i64 0] 27 by rw [hW0]; exact Row.new1 w _ _ _)
  have g0 := HR.out.cell 0 (v := .int .i64 b.pr) rfl
  have g1 := HR.out.cell 1 (v := .int .i64 b.le) rfl
  have g2 := HR.out.cell 2 (v := .int .i64 b.mo) rfl
  have g3 := HR.out.cell 3 (v := .int .i64 b.gr) rfl
  have g4 := HR.out.cell 4 (v := .slice p b.hs.length c) rfl
  clear hW0
  obtain ⟨z0, hz0⟩ : ∃ z : Later W0, W0 = z.w := ⟨⟨W0, Below.refl _ _⟩, rfl⟩
  have HZ0 := Lib.hid hz0
  clear hz0
  have e1 : IntKind.i64.wrap (b.pr - b.le) = b.pr - b.le := IntWalk.i64_in _ (by have := hok.p1; have := hok.p2; have := hok.l1; have := hok.l2; omega)
  have e2 : IntKind.i64.wrap (b.pr + b.mo) = b.pr + b.mo := IntWalk.i64_in _ (by have := hok.p1; have := hok.p2; have := hok.m1; have := hok.m2; omega)
  clear hok
  go_enter Try.func70, Try.ntmps70
  go_wp2_with fail
  rw [← HW0.out, HZ0.out]
  refine (Sp_any _ _ _).mono ?_
  rintro e u ⟨rfl, hbu⟩
  have RQ := Lib.hid ((z0.fr.row HQ.out).below hbu (z0.fr.row HQ.out).lt)
  have hzq := HQ.out.lt
  obtain ⟨z1, hz⟩ := z0.on hbu
  subst hz
  clear hbu
  go_wp2_with (first | (refine store_row rfl 27 _ _ rfl _ #[.int .i64 (b.pr - b.le), .int .i64 (b.pr + b.mo)] _ _ rfl rfl RQ.out (by kernel_rfl) rfl (by simp [Value.oneCell']) ?_))
  have qq := RQ.out.setRow #[.int .i64 (b.pr - b.le), .int .i64 (b.pr + b.mo)]
  exact bodyPost_ret (v := .agg #[.int .i64 (b.pr - b.le), .int .i64 (b.pr + b.mo)]) (results_cell_row Try.results70 _ _ _ _ _ _ _ rfl qq Try.underlying27 rfl (by kernel_rfl)) rfl ⟨rfl, below_setRow (z1.base HE.out) (by omega) _⟩
set_option maxRecDepth 10000 in
set_option maxHeartbeats 1600000 in
theorem refIsBox_any (b : Bf) (p : Option Addr) (c : Nat) (x y : Int) (w : World) (hB : BfAt w p c b) :
    Calls Try.prog 69 #[.agg (bfA b p c), .int .i64 x, .int .i64 y] w fun e w' => e = .returned (.bool (boxB b x y)) ∧ Below w.heap.size w w' := by
  obtain ⟨W0, hW0⟩ : ∃ W, W = w.alloc (.cells (bfA b p c) 24) := ⟨_, rfl⟩
  have HW0 := Lib.hid hW0
  have HE := Lib.hid (show Below w.heap.size w W0 by rw [hW0]; exact below_alloc _ _)
  have HR := Lib.hid (show Row W0 w.heap.size (bfA b p c) 24 by rw [hW0]; exact Row.new w _ _)
  have g0 := HR.out.cell 0 (v := .int .i64 b.pr) rfl
  have g1 := HR.out.cell 1 (v := .int .i64 b.le) rfl
  have g2 := HR.out.cell 2 (v := .int .i64 b.mo) rfl
  have g3 := HR.out.cell 3 (v := .int .i64 b.gr) rfl
  have g4 := HR.out.cell 4 (v := .slice p b.hs.length c) rfl
  clear hW0
  obtain ⟨z0, hz0⟩ : ∃ z : Later W0, W0 = z.w := ⟨⟨W0, Below.refl _ _⟩, rfl⟩
  have HZ0 := Lib.hid hz0
  clear hz0
  have hn := hB.n
  have HF1 := Lib.hid (fun w' => Fits_any x 0 (b.hs.length : Int) w')
  have HF2 := Lib.hid (fun w' => Fits_any y 0 (b.hs.length : Int) w')
  have HF3 := Lib.hid (fun w' => Fits_any (y - x) 1 b.gr w')
  clear hB
  cases h1 : fits x 0 (b.hs.length : Int)
  · have HV := Lib.hid (show boxB b x y = false by
      unfold fits at h1; unfold boxB
      simp at h1 ⊢; omega)
    rw [h1] at HF1
    clear h1
    go_enter Try.func69, Try.ntmps69
    go_wp2_with (first | (go_at_call 55; (with_reducible refine (HF1.out _).mono ?_); rintro e w1 ⟨rfl, rfl⟩))
    go_ret
    exact ⟨ret_bool HV.out.symm, HW0.out ▸ HE.out⟩
  · have h1' := h1
    unfold fits at h1'
    simp only [Bool.and_eq_true, decide_eq_true_eq] at h1'
    rw [h1] at HF1
    cases h2 : fits y 0 (b.hs.length : Int)
    · have HV := Lib.hid (show boxB b x y = false by
        unfold fits at h2; unfold boxB
        simp at h2 ⊢; omega)
      rw [h2] at HF2
      clear h1 h2 h1'
      go_enter Try.func69, Try.ntmps69
      go_wp2_with (first | (go_at_call 55; (with_reducible refine (HF1.out _).mono ?_); rintro e w1 ⟨rfl, rfl⟩) | (go_at_call 55; (with_reducible refine (HF2.out _).mono ?_); rintro e w1 ⟨rfl, rfl⟩))
      go_ret
      exact ⟨ret_bool HV.out.symm, HW0.out ▸ HE.out⟩
    · have h2' := h2
      unfold fits at h2'
      simp only [Bool.and_eq_true, decide_eq_true_eq] at h2'
      rw [h2] at HF2
      have e1 : IntKind.i64.wrap (y - x) = y - x := IntWalk.i64_in _ (by omega)
      have HV := Lib.hid (show boxB b x y = fits (y - x) 1 b.gr by
        rw [Bool.eq_iff_iff]
        unfold boxB fits
        simp only [Bool.and_eq_true, decide_eq_true_eq]
        omega)
      clear h1 h2 h1' h2'
      go_enter Try.func69, Try.ntmps69
      go_wp2_with (first | (go_at_call 55; (with_reducible refine (HF1.out _).mono ?_); rintro e w1 ⟨rfl, rfl⟩) | (go_at_call 55; (with_reducible refine (HF2.out _).mono ?_); rintro e w1 ⟨rfl, rfl⟩) | (go_at_call 55; (with_reducible refine (HF3.out _).mono ?_); rintro e w1 ⟨rfl, rfl⟩))
      go_ret
      exact ⟨ret_bool HV.out.symm, HW0.out ▸ HE.out⟩
end Go.Proofs.Ytgdidhbomdfcpaa
/- Layer 5, in plain lists: sums of parts. -/
namespace Go.Proofs.Ytgdidhbomdfcpaa
open Go.RowKit Go.Maps

theorem lo_join (b : Bf) {x y z : Nat} (h1 : x ≤ y) (h2 : y ≤ z) : loB b x y + loB b y z = loB b x z := by unfold loB; rw [← sumF_append, part_join h1 h2]
theorem hi_join (b : Bf) {x y z : Nat} (h1 : x ≤ y) (h2 : y ≤ z) : hiB b x y + hiB b y z = hiB b x z := by unfold hiB; rw [← sumF_append, part_join h1 h2]
theorem lo_self (b : Bf) (x : Nat) : loB b x x = 0 := by unfold loB; rw [part_self]; rfl
theorem hi_self (b : Bf) (x : Nat) : hiB b x x = 0 := by unfold hiB; rw [part_self]; rfl
theorem lo_succ {b : Bf} {x y : Nat} (h : x ≤ y) (hy : y < b.hs.length) : loB b x (y + 1) = loB b x y + b.hs[y].lo := by unfold loB; rw [part_succ h hy, sumF_snoc]
theorem hi_succ {b : Bf} {x y : Nat} (h : x ≤ y) (hy : y < b.hs.length) : hiB b x (y + 1) = hiB b x y + b.hs[y].hi := by unfold hiB; rw [part_succ h hy, sumF_snoc]
theorem part_range {b : Bf} (hok : BfOk b) (x y : Nat) : (0 ≤ loB b x y ∧ loB b x y ≤ 1600) ∧ 0 ≤ hiB b x y ∧ hiB b x y ≤ 1600 := by
  have h8 := hok.n8
  have hl : (partL b.hs x y).length ≤ b.hs.length := by unfold partL; simp; omega
  have h1 := sumF_range (f := Hd.lo) (hs := partL b.hs x y) (B := 200) (by omega) (fun h hh => by have := hok.h h (partL_mem hh); have := this.l0; have := (hok.h h (partL_mem hh)).l1; have := (hok.h h (partL_mem hh)).l2; omega)
  have h2 := sumF_range (f := Hd.hi) (hs := partL b.hs x y) (B := 200) (by omega) (fun h hh => by have := hok.h h (partL_mem hh); have := this.l0; have := (hok.h h (partL_mem hh)).l1; have := (hok.h h (partL_mem hh)).l2; omega)
  unfold loB hiB
  omega
theorem below_setRow' {n : Nat} {w W : World} (h : Below n w W) {g : Nat} (hg : n ≤ g) (cs : Array Value) : Below n w (W.setRow g cs) := below_setRow h hg cs
/-- The sums of a plan's boxes. -/
theorem plan_sums {b : Bf} {l : List Int} (hok : BfOk b) (hp : planB b l = true) {k : Nat} (hk : k < l.length) :
    ∃ X Y : Nat, bgn l k = X ∧ at0 l k = Y ∧ X < Y ∧ Y ≤ b.hs.length ∧ bgn l (k + 1) = Y ∧ loB b 0 X + loB b X Y = loB b 0 Y ∧ hiB b 0 X + hiB b X Y = hiB b 0 Y := by
  have hbx := planTo_all (b := b) (l := l) (k := l.length) (by unfold planB at hp; rw [Bool.and_eq_true] at hp; exact hp.1) (i := k) hk
  unfold boxI boxB at hbx
  simp only [decide_eq_true_eq] at hbx
  refine ⟨(bgn l k).toNat, (at0 l k).toNat, by omega, by omega, by omega, by omega, by rw [bgn_succ]; omega, lo_join b (by omega) (by omega), hi_join b (by omega) (by omega)⟩
end Go.Proofs.Ytgdidhbomdfcpaa
/- The walks of the specification of layer 5: sum, right, Sum, Kind. -/
namespace Go.Proofs.Ytgdidhbomdfcpaa
open Go.RowKit Go.Maps
attribute [local go_sem] Oper.semAt_some

set_option maxHeartbeats 400000 in
theorem Wraps_any (a b c d : Int) (w : World) :
    Calls Try.prog 73 #[.agg #[.int .i64 a, .int .i64 b], .agg #[.int .i64 c, .int .i64 d]] w fun e w' => e = .returned (.bool (decide (a ≤ c) && decide (d ≤ b))) ∧ Below w.heap.size w w' := by
  by_cases h1 : a ≤ c
  · go_enter Try.func73, Try.ntmps73
    go_wp2
    go_ret
    exact ⟨ret_bool (by simp [h1]), below_alloc2 _ _ _⟩
  · have h1' : decide (a ≤ c) = false := by simpa using h1
    go_enter Try.func73, Try.ntmps73
    go_wp2
    go_ret
    exact ⟨ret_bool (by simp), below_alloc2 _ _ _⟩
theorem right_wraps (b : Bf) (x y : Nat) : (decide (b.pr - b.le ≤ loB b x y) && decide (hiB b x y ≤ b.pr + b.mo)) = rightB b x y := by
  rw [Bool.eq_iff_iff]
  unfold rightB kindB
  simp only [Bool.and_eq_true, decide_eq_true_eq, kindS_zero]
set_option maxRecDepth 10000 in
set_option maxHeartbeats 1600000 in
theorem refSumOf5_any (b : Bf) (p : Option Addr) (c : Nat) (x y : Nat) (w : World) (hB : BfAt w p c b) (hok : BfOk b) (hxy : x ≤ y) (hyn : y ≤ b.hs.length) :
    Calls Try.prog 64 #[.agg (bfA b p c), .int .i64 (x : Int), .int .i64 (y : Int)] w fun e w' => e = .returned (.agg #[.int .i64 (loB b x y), .int .i64 (hiB b x y)]) ∧ Below w.heap.size w w' := by
  obtain ⟨W0, hW0⟩ : ∃ W, W = (w.alloc (.cells (bfA b p c) 24)).alloc (.cells #[.int .i64 0, .int .i64 0] 27) := ⟨_, rfl⟩
  have HW0 := Lib.hid hW0
  have HE := Lib.hid (show Below w.heap.size w W0 by rw [hW0]; exact below_alloc2 _ _ _)
  have HR := Lib.hid (show Row W0 w.heap.size (bfA b p c) 24 by rw [hW0]; exact (Row.new w _ _).alloc _)
  have HQ := Lib.hid (show Row W0 (w.heap.size + 1) #[.int .i64 0, .int .i64 0] 27 by rw [hW0]; exact Row.new1 w _ _ _)
  have g0 := HR.out.cell 0 (v := .int .i64 b.pr) rfl
  have g1 := HR.out.cell 1 (v := .int .i64 b.le) rfl
  have g2 := HR.out.cell 2 (v := .int .i64 b.mo) rfl
  have g3 := HR.out.cell 3 (v := .int .i64 b.gr) rfl
  have g4 := HR.out.cell 4 (v := .slice p b.hs.length c) rfl
  clear hW0
  obtain ⟨z0, hz0⟩ : ∃ z : Later W0, W0 = z.w := ⟨⟨W0, Below.refl _ _⟩, rfl⟩
  have HZ0 := Lib.hid hz0
  clear hz0
  have HB := Lib.hid (hB.below HE.out)
  have hn8 := hok.n8
  have hzq := HQ.out.lt
  have HOK := Lib.hid hok
  have HDL := Lib.hid (fun i (h : i < b.hs.length) => hok.h _ (List.getElem_mem h))
  clear hB hok
  go_enter Try.func64, Try.ntmps64
  go_wp2_with fail
  rw [← HW0.out, HZ0.out]
  refine (Only_any _ _).mono ?_
  rintro e u ⟨rfl, hbu⟩
  obtain ⟨z1, hz⟩ := z0.on hbu
  subst hz
  clear hbu
  obtain ⟨Z, hZ⟩ : ∃ u, z1.w = u := ⟨_, rfl⟩
  have KZ := Lib.hid (show From W0 Z by rw [← hZ]; exact z1.fr)
  rw [hZ]
  clear hZ
  go_upto_region 2 with (first | (refine store_new rfl 27 _ _ rfl #[.int .i64 0, .int .i64 0] #[.int .i64 0, .int .i64 0] 27 rfl rfl (by kernel_rfl) rfl (by simp [Value.oneCell']) ?_))
  obtain ⟨ZA, hZA⟩ : ∃ u, Z.alloc (.cells #[.int .i64 0, .int .i64 0] 27) = u := ⟨_, rfl⟩
  have RW := Lib.hid (show Row ZA Z.heap.size #[.int .i64 0, .int .i64 0] 27 by rw [← hZA]; exact Row.new Z _ _)
  have KA := Lib.hid (show Below Z.heap.size Z ZA by rw [← hZA]; exact below_alloc _ _)
  rw [hZA]
  clear hZA
  obtain ⟨G, hG⟩ : ∃ x, Z.heap.size = x := ⟨_, rfl⟩
  have HG := Lib.hid hG
  rw [hG] at RW ⊢
  have gz4 := KZ.out.cell g4
  have HHZ := Lib.hid (HB.out.h.below KZ.out.b)
  clear g0 g1 g2 g3 g4 hG
  obtain ⟨x0', hx0⟩ := later_of KA.out
  subst hx0
  go_wp2_with fail
  go_loopw [8] (fun i wr => ∃ (k : Nat) (v : Later Z), x ≤ k ∧ k ≤ y ∧ i = .int .i64 (k : Int) ∧ Row v.w G #[.int .i64 (loB b x k), .int .i64 (hiB b x k)] 27 ∧ wr = v.w) (fun i _ => y - (intOf i).toNat)
  case atStart => exact ⟨x, x0', Nat.le_refl _, by omega, rfl, by rw [lo_self, hi_self]; exact RW.out, rfl⟩
  case round =>
    obtain ⟨k, v, hfk, hkt, rfl, hrow, rfl⟩ := hrel
    have HRW := Lib.hid hrow
    clear hrow
    by_cases hlt : k < y
    · have hkn : k < b.hs.length := by omega
      obtain ⟨bb, o, rfl, c0, c1⟩ := HHZ.out k hkn
      have hhd := HDL.out k hkn
      have hr2 := part_range HOK.out x k
      have HLN := Lib.hid (lo_succ hfk hkn)
      have HHN := Lib.hid (hi_succ hfk hkn)
      obtain ⟨lw, hlw⟩ : ∃ n, loB b x k = n := ⟨_, rfl⟩
      obtain ⟨hw, hhw⟩ : ∃ n, hiB b x k = n := ⟨_, rfl⟩
      rw [hlw] at HLN HRW hr2
      rw [hhw] at HHN HRW hr2
      have q1 := hhd.l0
      have q2 := hhd.l1
      have q3 := hhd.l2
      obtain ⟨lo, hlo⟩ : ∃ n, b.hs[k].lo = n := ⟨_, rfl⟩
      obtain ⟨hi, hhi⟩ : ∃ n, b.hs[k].hi = n := ⟨_, rfl⟩
      rw [hlo] at HLN c0 q1 q2
      rw [hhi] at HHN c1 q2 q3
      clear hlo hhi hlw hhw hhd
      have w0 := HRW.out.cell 0 (v := .int .i64 lw) rfl
      have w1 := HRW.out.cell 1 (v := .int .i64 hw) rfl
      have i1 : (0 : Int) ≤ (k : Int) := by omega
      have i2 : (k : Int) < (b.hs.length : Int) := by omega
      have i3 : (k : Int) < (y : Int) := by omega
      have e1 : IntKind.i64.wrap (lw + lo) = lw + lo := IntWalk.i64_in _ (by omega)
      have e2 : IntKind.i64.wrap (hw + hi) = hw + hi := IntWalk.i64_in _ (by omega)
      go_upto_region 5 with (fail)
      refine wp_region_tail 19 (by kernel_rfl) (by kernel_rfl) (by kernel_rfl) (by kernel_rfl) (by kernel_rfl) (by rfl) ?_
      simp only [List.take_succ_cons, List.take_zero, List.drop_succ_cons, List.drop_zero]
      repeat (go_big_quiet_step (first
        | (go_at_call 53; with_reducible exact Calls.later_of (Sp_any _ _ _))))
      refine wpQuiet_nil ?_
      intro _ hw'
      obtain ⟨y', hw''⟩ := hw'
      subst hw''
      have RY := Lib.hid (HRW.out.below y'.b HRW.out.lt)
      refine store_row rfl 27 _ _ rfl G #[.int .i64 (lw + lo), .int .i64 (hw + hi)] #[.int .i64 lw, .int .i64 hw] 27 rfl rfl RY.out (by kernel_rfl) rfl (by simp [Value.oneCell']) ?_
      have RN := Lib.hid (RY.out.setRow #[.int .i64 (lw + lo), .int .i64 (hw + hi)])
      obtain ⟨x2, hx2⟩ := later_of (below_setRow' (v.b.trans (y'.b.mono v.b.size)) (g := G) (by rw [HG.out]; exact Nat.le_refl _) #[.int .i64 (lw + lo), .int .i64 (hw + hi)])
      rw [hx2] at RN ⊢
      clear hx2 e1 e2 w0 w1
      go_wp2_with fail
      go_roundw
      case rel => exact ⟨k + 1, x2, by omega, by omega, by go_num, by rw [HLN.out, HHN.out]; exact RN.out, rfl⟩
      case measure => simp [intOf]; omega
    · obtain rfl : k = y := by omega
      obtain ⟨LO, hLO⟩ : ∃ n, loB b x k = n := ⟨_, rfl⟩
      obtain ⟨HI, hHI⟩ : ∃ n, hiB b x k = n := ⟨_, rfl⟩
      rw [hLO, hHI] at HRW
      have HEQ := Lib.hid (show Value.agg #[.int .i64 LO, .int .i64 HI] = .agg #[.int .i64 (loB b x k), .int .i64 (hiB b x k)] by rw [hLO, hHI])
      clear hLO hHI
      have w0 := HRW.out.cell 0 (v := .int .i64 LO) rfl
      have w1 := HRW.out.cell 1 (v := .int .i64 HI) rfl
      have RQ := Lib.hid (v.fr.row (KZ.out.row HQ.out))
      have BE := Lib.hid (HE.out.trans ((KZ.out.trans v.fr).b.mono HE.out.size))
      go_wp2_with (first | (refine store_row rfl 27 _ _ rfl _ #[.int .i64 LO, .int .i64 HI] _ _ rfl rfl RQ.out (by kernel_rfl) rfl (by simp [Value.oneCell']) ?_))
      have qq := RQ.out.setRow #[.int .i64 LO, .int .i64 HI]
      exact bodyPost_ret (v := .agg #[.int .i64 LO, .int .i64 HI]) (results_cell_row Try.results64 _ _ _ _ _ _ _ rfl qq Try.underlying27 rfl (by kernel_rfl)) rfl ⟨by rw [HEQ.out], below_setRow BE.out (by omega) _⟩
set_option maxRecDepth 10000 in
set_option maxHeartbeats 1600000 in
theorem refRight5_any (b : Bf) (p : Option Addr) (c : Nat) (x y : Nat) (w : World) (hB : BfAt w p c b) (hok : BfOk b) (hxy : x ≤ y) (hyn : y ≤ b.hs.length) :
    Calls Try.prog 78 #[.agg (bfA b p c), .int .i64 (x : Int), .int .i64 (y : Int)] w fun e w' => e = .returned (.bool (rightB b x y)) ∧ Below w.heap.size w w' := by
  obtain ⟨W0, hW0⟩ : ∃ W, W = w.alloc (.cells (bfA b p c) 24) := ⟨_, rfl⟩
  have HW0 := Lib.hid hW0
  have HE := Lib.hid (show Below w.heap.size w W0 by rw [hW0]; exact below_alloc _ _)
  have HR := Lib.hid (show Row W0 w.heap.size (bfA b p c) 24 by rw [hW0]; exact Row.new w _ _)
  have g0 := HR.out.cell 0 (v := .int .i64 b.pr) rfl
  have g1 := HR.out.cell 1 (v := .int .i64 b.le) rfl
  have g2 := HR.out.cell 2 (v := .int .i64 b.mo) rfl
  have g3 := HR.out.cell 3 (v := .int .i64 b.gr) rfl
  have g4 := HR.out.cell 4 (v := .slice p b.hs.length c) rfl
  clear hW0
  obtain ⟨z0, hz0⟩ : ∃ z : Later W0, W0 = z.w := ⟨⟨W0, Below.refl _ _⟩, rfl⟩
  have HZ0 := Lib.hid hz0
  clear hz0
  have HB := Lib.hid (hB.below HE.out)
  have HL := Lib.hid (fun w' => refLabel_any b p c w' hok)
  have HS := Lib.hid (fun w' (k : From W0 w') => refSumOf5_any b p c x y w' (HB.out.below k.b) hok hxy hyn)
  have HV := Lib.hid (right_wraps b x y)
  clear hB hok
  generalize loB b x y = lo at *
  generalize hiB b x y = hi at *
  go_enter Try.func78, Try.ntmps78
  go_upto_region 1 with (fail)
  rw [← HW0.out, HZ0.out]
  refine wp_region_later (by kernel_rfl) (by kernel_rfl) ?_
  repeat (go_big_quiet_step (first
    | (go_at_call 70; with_reducible exact Calls.later_of (HL.out _))
    | (go_at_call 64; with_reducible exact Calls.later_of (HS.out _ (From.trans z0.fr (Later.fr _))))
    | (go_at_call 73; with_reducible exact Calls.later_of (Wraps_any _ _ _ _ _))))
  refine wpQuiet_nil ?_
  intro _ hw'
  obtain ⟨yy, hw''⟩ := hw'
  subst hw''
  obtain ⟨z1, hy⟩ := z0.up yy
  rw [hy]
  clear hy
  go_wp2_with fail
  go_ret
  exact ⟨ret_bool HV.out, z1.base HE.out⟩
end Go.Proofs.Ytgdidhbomdfcpaa
/- The walks of the specification of layer 5: isPlan, IsPlan, begins, byHand, ByHand. -/
namespace Go.Proofs.Ytgdidhbomdfcpaa
open Go.RowKit Go.Maps
attribute [local go_sem] Oper.semAt_some

theorem planTo_false {b : Bf} {l : List Int} {k : Nat} (hk : k < l.length) (h : boxB b (bgn l k) (at0 l k) = false) : planB b l = false := by
  unfold planB
  cases hp : planTo b l l.length
  · rfl
  · have := planTo_all hp hk
    unfold boxI at this
    rw [h] at this
    cases this
set_option maxRecDepth 10000 in
set_option maxHeartbeats 1600000 in
theorem refBegins_any (q : Option Addr) (cq : Nat) (l : List Int) (k : Nat) (w : World) (hI : IntsAt w q l) (hk : k ≤ l.length) (hl : l.length ≤ 1000) :
    Calls Try.prog 79 #[.slice q l.length cq, .int .i64 (k : Int)] w fun e w' => e = .returned (.int .i64 (bgn l k)) ∧ Below w.heap.size w w' := by
  by_cases h0 : k = 0
  · subst h0
    go_enter Try.func79, Try.ntmps79
    go_wp2_with fail
    go_ret
    exact ⟨rfl, Below.refl _ _⟩
  · obtain ⟨j, rfl⟩ : ∃ j, k = j + 1 := ⟨k - 1, by omega⟩
    obtain ⟨g, o, rfl, hc⟩ := hI j (by omega)
    have HV := Lib.hid (bgn_succ l j)
    have e1 : IntKind.i64.wrap (((j + 1 : Nat) : Int) - 1) = (j : Int) := by rw [IntWalk.i64_in _ (by omega)]; omega
    have i1 : (0 : Int) ≤ (j : Int) := by omega
    have i2 : (j : Int) < (l.length : Int) := by omega
    have h3 : ¬ ((j + 1 : Nat) : Int) = 0 := by omega
    clear hI
    go_enter Try.func79, Try.ntmps79
    go_wp2_with fail
    go_ret
    exact ⟨ret_int HV.out.symm, Below.refl _ _⟩
set_option maxRecDepth 10000 in
set_option maxHeartbeats 1600000 in
theorem refIsPlanOf_any (b : Bf) (p : Option Addr) (c : Nat) (q : Option Addr) (cq : Nat) (l : List Int) (w : World) (hB : BfAt w p c b) (hI : IntsAt w q l) (hl : l.length ≤ maxLen) :
    Calls Try.prog 75 #[.agg (bfA b p c), .slice q l.length cq] w fun e w' => e = .returned (.bool (planB b l)) ∧ Below w.heap.size w w' := by
  obtain ⟨W0, hW0⟩ : ∃ W, W = w.alloc (.cells (bfA b p c) 24) := ⟨_, rfl⟩
  have HW0 := Lib.hid hW0
  have HE := Lib.hid (show Below w.heap.size w W0 by rw [hW0]; exact below_alloc _ _)
  have HR := Lib.hid (show Row W0 w.heap.size (bfA b p c) 24 by rw [hW0]; exact Row.new w _ _)
  have g0 := HR.out.cell 0 (v := .int .i64 b.pr) rfl
  have g1 := HR.out.cell 1 (v := .int .i64 b.le) rfl
  have g2 := HR.out.cell 2 (v := .int .i64 b.mo) rfl
  have g3 := HR.out.cell 3 (v := .int .i64 b.gr) rfl
  have g4 := HR.out.cell 4 (v := .slice p b.hs.length c) rfl
  clear hW0
  obtain ⟨z0, hz0⟩ : ∃ z : Later W0, W0 = z.w := ⟨⟨W0, Below.refl _ _⟩, rfl⟩
  have HZ0 := Lib.hid hz0
  clear hz0
  have HI := Lib.hid (hI.below HE.out)
  have HIB := Lib.hid (fun x y w' (k : From W0 w') => refIsBox_any b p c x y w' ((hB.below HE.out).below k.b))
  unfold maxLen at hl
  clear hB hI
  go_enter Try.func75, Try.ntmps75
  go_wp2_with fail
  rw [← HW0.out, HZ0.out]
  go_loopw [5, 6] (fun f i wr => ∃ (k : Nat) (x : Later W0), k ≤ l.length ∧ Hid (planTo b l k = true) ∧ f = .int .i64 (bgn l k) ∧ i = .int .i64 (k : Int) ∧ wr = x.w) (fun _ i _ => l.length - (intOf i).toNat)
  case atStart => exact ⟨0, z0, by omega, Lib.hid rfl, rfl, rfl, rfl⟩
  case round =>
    obtain ⟨k, x, hk, HP, rfl, rfl, rfl⟩ := hrel
    by_cases hlt : k < l.length
    · obtain ⟨bb, o, rfl, hc⟩ := HI.out k hlt
      have HN := Lib.hid (bgn_succ l k)
      have HS := Lib.hid (planTo_succ b l k)
      have HPF := Lib.hid (planTo_false (b := b) hlt)
      have HBX := Lib.hid (show boxI b l k = boxB b (bgn l k) (at0 l k) from rfl)
      obtain ⟨a, ha⟩ : ∃ a, bgn l k = a := ⟨_, rfl⟩
      obtain ⟨y, hy⟩ : ∃ y, at0 l k = y := ⟨_, rfl⟩
      have HB1 := Lib.hid (fun w' (kk : From W0 w') => HIB.out a y w' kk)
      rw [ha] at HPF HBX ⊢
      rw [hy] at HN HPF HBX hc
      clear ha hy
      have i1 : (0 : Int) ≤ (k : Int) := by omega
      have i2 : (k : Int) < (l.length : Int) := by omega
      cases hbx : boxB b a y
      · have HV := Lib.hid (HPF.out hbx)
        rw [hbx] at HB1
        clear hbx
        go_upto_region 5 with (fail)
        refine wp_region_later (by kernel_rfl) (by kernel_rfl) ?_
        repeat (go_big_quiet_step (first
          | (go_at_call 69; with_reducible exact Calls.later_of (HB1.out _ (From.trans (Later.fr _) (Later.fr _))))))
        refine wpQuiet_nil ?_
        intro _ hw'
        obtain ⟨yy, hw''⟩ := hw'
        subst hw''
        obtain ⟨x2, hy⟩ := x.up yy
        rw [hy]
        clear hy
        go_wp2_with fail
        go_ret
        exact ⟨ret_bool HV.out.symm, x2.base HE.out⟩
      · rw [hbx] at HB1 HBX
        clear hbx
        go_upto_region 5 with (fail)
        refine wp_region_later (by kernel_rfl) (by kernel_rfl) ?_
        repeat (go_big_quiet_step (first
          | (go_at_call 69; with_reducible exact Calls.later_of (HB1.out _ (From.trans (Later.fr _) (Later.fr _))))))
        refine wpQuiet_nil ?_
        intro _ hw'
        obtain ⟨yy, hw''⟩ := hw'
        subst hw''
        obtain ⟨x2, hy⟩ := x.up yy
        rw [hy]
        clear hy
        go_wp2_with fail
        go_roundw
        case rel => exact ⟨k + 1, x2, by omega, Lib.hid (by rw [HS.out, HP.out, HBX.out]; rfl), by rw [HN.out], by go_num, rfl⟩
        case measure => simp [intOf]; omega
    · obtain rfl : k = l.length := by omega
      have HV := Lib.hid (show planB b l = decide (bgn l l.length = (b.hs.length : Int)) by unfold planB; rw [HP.out, Bool.true_and])
      obtain ⟨a, ha⟩ : ∃ a, bgn l l.length = a := ⟨_, rfl⟩
      rw [ha] at HV ⊢
      clear ha
      go_wp2_with fail
      go_ret
      exact ⟨ret_bool (by rw [HV.out]; first | rfl | (rw [Bool.eq_iff_iff]; simp)), x.base HE.out⟩
set_option maxRecDepth 10000 in
set_option maxHeartbeats 1600000 in
theorem refIsPlan_any (b : Bf) (p : Option Addr) (c : Nat) (q : Option Addr) (cq : Nat) (l : List Int) (w : World) (hB : BfAt w p c b) (hI : IntsAt w q l) (hl : l.length ≤ maxLen) :
    Calls Try.prog 25 #[.agg (bfA b p c), .slice q l.length cq] w fun e w' => e = .returned (.tuple #[.bool (bookB b && planB b l), .int .i64 (bookE b)]) ∧ Below w.heap.size w w' := by
  obtain ⟨W0, hW0⟩ : ∃ W, W = w.alloc (.cells (bfA b p c) 24) := ⟨_, rfl⟩
  have HW0 := Lib.hid hW0
  have HE := Lib.hid (show Below w.heap.size w W0 by rw [hW0]; exact below_alloc _ _)
  have HR := Lib.hid (show Row W0 w.heap.size (bfA b p c) 24 by rw [hW0]; exact Row.new w _ _)
  have g0 := HR.out.cell 0 (v := .int .i64 b.pr) rfl
  have g1 := HR.out.cell 1 (v := .int .i64 b.le) rfl
  have g2 := HR.out.cell 2 (v := .int .i64 b.mo) rfl
  have g3 := HR.out.cell 3 (v := .int .i64 b.gr) rfl
  have g4 := HR.out.cell 4 (v := .slice p b.hs.length c) rfl
  clear hW0
  obtain ⟨z0, hz0⟩ : ∃ z : Later W0, W0 = z.w := ⟨⟨W0, Below.refl _ _⟩, rfl⟩
  have HZ0 := Lib.hid hz0
  clear hz0
  have HC := Lib.hid (fun w' (k : From W0 w') => refCheck_any b p c w' ((hB.below HE.out).below k.b))
  have HP := Lib.hid (fun w' (k : From W0 w') => refIsPlanOf_any b p c q cq l w' ((hB.below HE.out).below k.b) ((hI.below HE.out).below k.b) hl)
  clear hB hI
  cases hb : bookB b
  · have HK := Lib.hid (bookE_bad hb)
    rw [HK.out] at HC
    clear hb
    go_enter Try.func25, Try.ntmps25
    go_wp2_with fail
    rw [← HW0.out, HZ0.out]
    refine (HC.out _ z0.fr).mono ?_
    rintro e u ⟨rfl, hbu⟩
    obtain ⟨z1, hz⟩ := z0.on hbu
    subst hz
    clear hbu
    go_wp2_with fail
    go_ret2
    exact ⟨by rw [HK.out]; rfl, z1.base HE.out⟩
  · have HK := Lib.hid (bookE_ok hb)
    rw [HK.out] at HC
    clear hb
    go_enter Try.func25, Try.ntmps25
    go_wp2_with fail
    rw [← HW0.out, HZ0.out]
    refine (HC.out _ z0.fr).mono ?_
    rintro e u ⟨rfl, hbu⟩
    obtain ⟨z1, hz⟩ := z0.on hbu
    subst hz
    clear hbu
    go_wp2_with fail
    refine (HP.out _ z1.fr).mono ?_
    rintro e u ⟨rfl, hbu⟩
    obtain ⟨z2, hz⟩ := z1.on hbu
    subst hz
    clear hbu
    go_wp2_with fail
    go_ret2
    exact ⟨by rw [HK.out]; rfl, z2.base HE.out⟩
set_option maxRecDepth 10000 in
set_option maxHeartbeats 1600000 in
theorem refByHandOf_any (b : Bf) (p : Option Addr) (c : Nat) (q : Option Addr) (cq : Nat) (l : List Int) (w : World) (hB : BfAt w p c b) (hok : BfOk b) (hp : planB b l = true) (hI : IntsAt w q l) :
    Calls Try.prog 77 #[.agg (bfA b p c), .slice q l.length cq] w fun e w' => ∃ ph ch, e = .returned (.slice ph (handL b l).length ch) ∧ IntsAt w' ph (handL b l) ∧ Below w.heap.size w w' := by
  obtain ⟨i0, hi, hi0, hi1, hi2⟩ := info_parts Try.infoInt
  obtain ⟨W0, hW0⟩ : ∃ W, W = w.alloc (.cells (bfA b p c) 24) := ⟨_, rfl⟩
  have HW0 := Lib.hid hW0
  have HE := Lib.hid (show Below w.heap.size w W0 by rw [hW0]; exact below_alloc _ _)
  have HR := Lib.hid (show Row W0 w.heap.size (bfA b p c) 24 by rw [hW0]; exact Row.new w _ _)
  have g0 := HR.out.cell 0 (v := .int .i64 b.pr) rfl
  have g1 := HR.out.cell 1 (v := .int .i64 b.le) rfl
  have g2 := HR.out.cell 2 (v := .int .i64 b.mo) rfl
  have g3 := HR.out.cell 3 (v := .int .i64 b.gr) rfl
  have g4 := HR.out.cell 4 (v := .slice p b.hs.length c) rfl
  clear hW0
  obtain ⟨z0, hz0⟩ : ∃ z : Later W0, W0 = z.w := ⟨⟨W0, Below.refl _ _⟩, rfl⟩
  have HZ0 := Lib.hid hz0
  clear hz0
  have HI := Lib.hid (hI.below HE.out)
  have hn8 := hok.n8
  have hll := plan_len hp
  have HPS := Lib.hid (fun k (hk : k < l.length) => plan_sums hok hp hk)
  have HRG := Lib.hid (fun k (x y : Nat) (hx : x ≤ y) (hy : y ≤ b.hs.length) (r : Bool) (_ : k < l.length) (hr : rightB b x y = r) w' (kk : From W0 w') => (by have h := refRight5_any b p c x y w' ((hB.below HE.out).below kk.b) hok hx hy; rw [hr] at h; exact h : Calls Try.prog 78 #[.agg (bfA b p c), .int .i64 (x : Int), .int .i64 (y : Int)] w' fun e w'' => e = .returned (.bool r) ∧ Below w'.heap.size w' w''))
  clear hB hok hp hI
  go_enter Try.func77, Try.ntmps77
  go_wp2_with fail
  rw [← HW0.out, HZ0.out]
  go_loopw [5, 6] (fun ls i wr => ∃ (k : Nat) (x : Later W0), k ≤ l.length ∧ i = .int .i64 (k : Int) ∧ wr.ownsRow W0.heap.size 3 1 ls (handTo b l k).length ((handTo b l k).map (Value.int .i64)) ∧ wr = x.w) (fun _ i _ => l.length - (intOf i).toNat)
  case atStart => exact ⟨0, z0, by omega, rfl, World.ownsRow_nil _ _ _ _, rfl⟩
  case round =>
    obtain ⟨k, x, hk, rfl, hown, rfl⟩ := hrel
    obtain ⟨pl, cl, rfl⟩ := owns_slice hown
    have HO := Lib.hid hown
    clear hown
    by_cases hlt : k < l.length
    · obtain ⟨X, Y, hX, hY, hXY, hYn, _, _, _⟩ := HPS.out k hlt
      obtain ⟨bb, o, rfl, hc⟩ := HI.out k hlt
      rw [hY] at hc
      have HS := Lib.hid (handTo_succ b l k)
      have hhl : (handTo b l k).length ≤ k := by have := count_to b l k; omega
      have HRR := Lib.hid (show rightI b l k = rightB b X Y by
        show decide (kindS b (loB b (bgn l k).toNat (at0 l k).toNat) (hiB b (bgn l k).toNat (at0 l k).toNat) = 0) = _
        rw [hX, hY, Int.toNat_natCast, Int.toNat_natCast]
        rfl)
      have HBG := Lib.hid (fun w' (kk : From W0 w') => (by have h := refBegins_any (some ⟨bb, o, none⟩) cq l k w' (HI.out.below kk.b) hk (by omega); rw [hX] at h; exact h : Calls Try.prog 79 #[.slice (some ⟨bb, o, none⟩) l.length cq, .int .i64 (k : Int)] w' fun e w'' => e = .returned (.int .i64 (X : Int)) ∧ Below w'.heap.size w' w''))
      have i1 : (0 : Int) ≤ (k : Int) := by omega
      have i2 : (k : Int) < (l.length : Int) := by omega
      cases hr : rightB b X Y
      · have HR1 := Lib.hid (HRG.out k X Y (Nat.le_of_lt hXY) hYn false hlt hr)
        rw [hr] at HRR
        clear hr hX hY
        go_upto_region 5 with (fail)
        refine wp_region_later (by kernel_rfl) (by kernel_rfl) ?_
        repeat (go_big_quiet_step (first
          | (go_at_call 79; with_reducible exact Calls.later_of (HBG.out _ (From.trans (Later.fr _) (Later.fr _))))
          | (go_at_call 78; with_reducible exact Calls.later_of (HR1.out _ (From.trans (Later.fr _) (Later.fr _))))))
        refine wpQuiet_nil ?_
        intro _ hw'
        obtain ⟨yy, hw''⟩ := hw'
        subst hw''
        obtain ⟨x2, hy⟩ := x.up yy
        have HO2 := Lib.hid (by have h := owns_below HO.out yy.b; rw [hy] at h; exact h)
        rw [hy]
        clear hy
        have hzx := x2.b.size
        go_wp2_with (first
          | (at_builtin; (refine wpList_append_own _ rfl _ _ 38 rfl W0.heap.size 3 i0 (.int .i64 0) 1 8 Try.underlying38 hi hi0 hi1 hi2 rfl (by decide) _ _ _ rfl (HO2.out.alloc _) ⟨x2.w.heap.size, 0, none⟩ 1 1 [.int .i64 (k : Int)] rfl rfl (cell_one_new _ _ _) (by simp [Value.oneCell']) (by unfold maxLen; omega) (by omega) (by simp; omega) ?_); intro v' w2 hown' hgrow _; have HO3 := Lib.hid hown'; have hg2 : Below W0.heap.size x2.w w2 := ((Below.refl _ _).alloc (by omega) _).grown hgrow (by simp; omega) (fun k hk => (HO2.out.lt k hk).1); obtain ⟨x3, hx3⟩ := later_of (x2.b.trans hg2); clear hg2 hown' hgrow))
        subst hx3
        go_roundw
        case rel => exact ⟨k + 1, x3, by omega, by go_num, by rw [HS.out, HRR.out]; simpa using HO3.out, rfl⟩
        case measure => simp [intOf]; omega
      · have HR1 := Lib.hid (HRG.out k X Y (Nat.le_of_lt hXY) hYn true hlt hr)
        rw [hr] at HRR
        clear hr hX hY
        go_upto_region 5 with (fail)
        refine wp_region_later (by kernel_rfl) (by kernel_rfl) ?_
        repeat (go_big_quiet_step (first
          | (go_at_call 79; with_reducible exact Calls.later_of (HBG.out _ (From.trans (Later.fr _) (Later.fr _))))
          | (go_at_call 78; with_reducible exact Calls.later_of (HR1.out _ (From.trans (Later.fr _) (Later.fr _))))))
        refine wpQuiet_nil ?_
        intro _ hw'
        obtain ⟨yy, hw''⟩ := hw'
        subst hw''
        obtain ⟨x2, hy⟩ := x.up yy
        have HO2 := Lib.hid (by have h := owns_below HO.out yy.b; rw [hy] at h; exact h)
        rw [hy]
        clear hy
        go_wp2_with fail
        go_roundw
        case rel => exact ⟨k + 1, x2, by omega, by go_num, by rw [HS.out, HRR.out]; exact HO2.out, rfl⟩
        case measure => simp [intOf]; omega
    · obtain rfl : k = l.length := by omega
      obtain ⟨p', c', hv, hints, _⟩ := ints_of_owns2 HO.out
      cases hv
      have HIN := Lib.hid hints
      clear hints
      go_wp2_with fail
      go_ret
      exact ⟨_, _, rfl, HIN.out, x.base HE.out⟩
end Go.Proofs.Ytgdidhbomdfcpaa
/- The walks of the specification of layer 5: ByHand, Over. -/
namespace Go.Proofs.Ytgdidhbomdfcpaa
open Go.RowKit Go.Maps
attribute [local go_sem] Oper.semAt_some

/-- How many splints are given away, as far as some boxes go. -/
def overK (f : Hd → Int) (b : Bf) (l : List Int) (k : Nat) : Int := sumF f (rightTo b l k) - b.pr * ((rightTo b l k).length : Int)
theorem overK_zero (f : Hd → Int) (b : Bf) (l : List Int) : overK f b l 0 = 0 := by simp [overK, rightTo, sumF]
theorem overK_succ (f : Hd → Int) (b : Bf) (l : List Int) (k : Nat) : overK f b l (k + 1) = if rightI b l k then overK f b l k + f ⟨loI b l k, hiI b l k⟩ - b.pr else overK f b l k := by
  unfold overK
  rw [rightTo_succ]
  split
  · rw [sumF_snoc, List.length_append, List.length_singleton, Int.natCast_add, Int.mul_add]
    simp
    omega
  · rfl
theorem overK_range {f : Hd → Int} {b : Bf} (hok : BfOk b) (hf : ∀ x y : Nat, 0 ≤ f ⟨loB b x y, hiB b x y⟩ ∧ f ⟨loB b x y, hiB b x y⟩ ≤ 1600) (l : List Int) : ∀ k : Nat, -(500 * (k : Int)) ≤ overK f b l k ∧ overK f b l k ≤ 1600 * (k : Int)
  | 0 => by rw [overK_zero]; simp
  | k + 1 => by
    have ih := overK_range hok hf l k
    have h1 := hok.p1
    have h2 := hok.p2
    have h3 := hf (bgn l k).toNat (at0 l k).toNat
    rw [overK_succ]
    unfold loI hiI
    push_cast
    split <;> omega
set_option maxRecDepth 10000 in
set_option maxHeartbeats 1600000 in
theorem refByHand_no (b : Bf) (p : Option Addr) (c : Nat) (q : Option Addr) (cq : Nat) (l : List Int) (w : World) (hB : BfAt w p c b) (hI : IntsAt w q l) (hl : l.length ≤ maxLen) (ha : askE5 b (planB b l) ≠ 0) :
    Calls Try.prog 27 #[.agg (bfA b p c), .slice q l.length cq] w fun e w' => e = .returned (.tuple #[.slice none 0 0, .int .i64 (askE5 b (planB b l))]) ∧ Below w.heap.size w w' := by
  obtain ⟨W0, hW0⟩ : ∃ W, W = w.alloc (.cells (bfA b p c) 24) := ⟨_, rfl⟩
  have HW0 := Lib.hid hW0
  have HE := Lib.hid (show Below w.heap.size w W0 by rw [hW0]; exact below_alloc _ _)
  have HR := Lib.hid (show Row W0 w.heap.size (bfA b p c) 24 by rw [hW0]; exact Row.new w _ _)
  have g0 := HR.out.cell 0 (v := .int .i64 b.pr) rfl
  have g1 := HR.out.cell 1 (v := .int .i64 b.le) rfl
  have g2 := HR.out.cell 2 (v := .int .i64 b.mo) rfl
  have g3 := HR.out.cell 3 (v := .int .i64 b.gr) rfl
  have g4 := HR.out.cell 4 (v := .slice p b.hs.length c) rfl
  clear hW0
  obtain ⟨z0, hz0⟩ : ∃ z : Later W0, W0 = z.w := ⟨⟨W0, Below.refl _ _⟩, rfl⟩
  have HZ0 := Lib.hid hz0
  clear hz0
  have HIP := Lib.hid (fun w' (k : From W0 w') => refIsPlanOf_any b p c q cq l w' ((hB.below HE.out).below k.b) ((hI.below HE.out).below k.b) hl)
  have HAS := Lib.hid (fun w' (k : From W0 w') => refAsked5_any b p c (planB b l) w' ((hB.below HE.out).below k.b))
  clear hB hI
  generalize askE5 b (planB b l) = E at *
  go_enter Try.func27, Try.ntmps27
  go_upto_region 1 with (fail)
  rw [← HW0.out, HZ0.out]
  refine wp_region_later (by kernel_rfl) (by kernel_rfl) ?_
  repeat (go_big_quiet_step (first
    | (go_at_call 75; with_reducible exact Calls.later_of (HIP.out _ (From.trans (Later.fr _) (Later.fr _))))
    | (go_at_call 63; with_reducible exact Calls.later_of (HAS.out _ (From.trans (Later.fr _) (Later.fr _))))))
  refine wpQuiet_nil ?_
  intro _ hw'
  obtain ⟨yy, hw''⟩ := hw'
  subst hw''
  obtain ⟨z1, hy⟩ := z0.up yy
  rw [hy]
  clear hy
  go_wp2_with fail
  go_ret2
  exact ⟨rfl, z1.base HE.out⟩
set_option maxRecDepth 10000 in
set_option maxHeartbeats 1600000 in
theorem refByHand_yes (b : Bf) (p : Option Addr) (c : Nat) (q : Option Addr) (cq : Nat) (l : List Int) (w : World) (hB : BfAt w p c b) (hb : bookB b = true) (hI : IntsAt w q l) (hp : planB b l = true) :
    Calls Try.prog 27 #[.agg (bfA b p c), .slice q l.length cq] w fun e w' => ∃ ph ch, e = .returned (.tuple #[.slice ph (handL b l).length ch, .int .i64 0]) ∧ IntsAt w' ph (handL b l) ∧ Below w.heap.size w w' := by
  have hok := bookB_iff.1 hb
  have hl : l.length ≤ maxLen := by have := plan_len hp; have := hok.n8; unfold maxLen; omega
  obtain ⟨W0, hW0⟩ : ∃ W, W = w.alloc (.cells (bfA b p c) 24) := ⟨_, rfl⟩
  have HW0 := Lib.hid hW0
  have HE := Lib.hid (show Below w.heap.size w W0 by rw [hW0]; exact below_alloc _ _)
  have HR := Lib.hid (show Row W0 w.heap.size (bfA b p c) 24 by rw [hW0]; exact Row.new w _ _)
  have g0 := HR.out.cell 0 (v := .int .i64 b.pr) rfl
  have g1 := HR.out.cell 1 (v := .int .i64 b.le) rfl
  have g2 := HR.out.cell 2 (v := .int .i64 b.mo) rfl
  have g3 := HR.out.cell 3 (v := .int .i64 b.gr) rfl
  have g4 := HR.out.cell 4 (v := .slice p b.hs.length c) rfl
  clear hW0
  obtain ⟨z0, hz0⟩ : ∃ z : Later W0, W0 = z.w := ⟨⟨W0, Below.refl _ _⟩, rfl⟩
  have HZ0 := Lib.hid hz0
  clear hz0
  have HIP := Lib.hid (fun w' (k : From W0 w') => refIsPlanOf_any b p c q cq l w' ((hB.below HE.out).below k.b) ((hI.below HE.out).below k.b) hl)
  have HAS := Lib.hid (fun w' (k : From W0 w') => refAsked5_any b p c (planB b l) w' ((hB.below HE.out).below k.b))
  have HBH := Lib.hid (fun w' (k : From W0 w') => refByHandOf_any b p c q cq l w' ((hB.below HE.out).below k.b) hok hp ((hI.below HE.out).below k.b))
  have h0 : askE5 b (planB b l) = 0 := by unfold askE5; rw [hb, hp]; rfl
  rw [h0] at HAS
  rw [hp] at HIP HAS
  clear hB hI hb hp hok hl h0
  go_enter Try.func27, Try.ntmps27
  go_upto_region 1 with (fail)
  rw [← HW0.out, HZ0.out]
  refine wp_region_later (by kernel_rfl) (by kernel_rfl) ?_
  repeat (go_big_quiet_step (first
    | (go_at_call 75; with_reducible exact Calls.later_of (HIP.out _ (From.trans (Later.fr _) (Later.fr _))))
    | (go_at_call 63; with_reducible exact Calls.later_of (HAS.out _ (From.trans (Later.fr _) (Later.fr _))))))
  refine wpQuiet_nil ?_
  intro _ hw'
  obtain ⟨yy, hw''⟩ := hw'
  subst hw''
  obtain ⟨z1, hy⟩ := z0.up yy
  rw [hy]
  clear hy
  go_wp2_with fail
  refine (HBH.out _ z1.fr).mono ?_
  rintro e u ⟨ph, ch, rfl, hi, hbu⟩
  have HH := Lib.hid hi
  obtain ⟨z2, hz⟩ := z1.on hbu
  subst hz
  clear hbu hi
  go_wp2_with fail
  go_ret2
  exact ⟨ph, ch, rfl, HH.out, z2.base HE.out⟩
set_option maxRecDepth 10000 in
set_option maxHeartbeats 1600000 in
theorem refOver_no (b : Bf) (p : Option Addr) (c : Nat) (q : Option Addr) (cq : Nat) (l : List Int) (w : World) (hB : BfAt w p c b) (hI : IntsAt w q l) (hl : l.length ≤ maxLen) (ha : askE5 b (planB b l) ≠ 0) :
    Calls Try.prog 30 #[.agg (bfA b p c), .slice q l.length cq] w fun e w' => e = .returned (.tuple #[.agg #[.int .i64 0, .int .i64 0], .int .i64 (askE5 b (planB b l))]) ∧ Below w.heap.size w w' := by
  obtain ⟨W0, hW0⟩ : ∃ W, W = (w.alloc (.cells (bfA b p c) 24)).alloc (.cells #[.int .i64 0, .int .i64 0] 27) := ⟨_, rfl⟩
  have HW0 := Lib.hid hW0
  have HE := Lib.hid (show Below w.heap.size w W0 by rw [hW0]; exact below_alloc2 _ _ _)
  have HR := Lib.hid (show Row W0 w.heap.size (bfA b p c) 24 by rw [hW0]; exact (Row.new w _ _).alloc _)
  have HQ := Lib.hid (show Row W0 (w.heap.size + 1) #[.int .i64 0, .int .i64 0] 27 by rw [hW0]; exact Row.new1 w _ _ _)
  have g0 := HR.out.cell 0 (v := .int .i64 b.pr) rfl
  have g1 := HR.out.cell 1 (v := .int .i64 b.le) rfl
  have g2 := HR.out.cell 2 (v := .int .i64 b.mo) rfl
  have g3 := HR.out.cell 3 (v := .int .i64 b.gr) rfl
  have g4 := HR.out.cell 4 (v := .slice p b.hs.length c) rfl
  clear hW0
  obtain ⟨z0, hz0⟩ : ∃ z : Later W0, W0 = z.w := ⟨⟨W0, Below.refl _ _⟩, rfl⟩
  have HZ0 := Lib.hid hz0
  clear hz0
  have hzq := HQ.out.lt
  have HIP := Lib.hid (fun w' (k : From W0 w') => refIsPlanOf_any b p c q cq l w' ((hB.below HE.out).below k.b) ((hI.below HE.out).below k.b) hl)
  have HAS := Lib.hid (fun w' (k : From W0 w') => refAsked5_any b p c (planB b l) w' ((hB.below HE.out).below k.b))
  clear hB hI
  generalize askE5 b (planB b l) = E at *
  go_enter Try.func30, Try.ntmps30
  go_upto_region 1 with (fail)
  rw [← HW0.out, HZ0.out]
  refine wp_region_later (by kernel_rfl) (by kernel_rfl) ?_
  repeat (go_big_quiet_step (first
    | (go_at_call 75; with_reducible exact Calls.later_of (HIP.out _ (From.trans (Later.fr _) (Later.fr _))))
    | (go_at_call 63; with_reducible exact Calls.later_of (HAS.out _ (From.trans (Later.fr _) (Later.fr _))))))
  refine wpQuiet_nil ?_
  intro _ hw'
  obtain ⟨yy, hw''⟩ := hw'
  subst hw''
  obtain ⟨z1, hy⟩ := z0.up yy
  rw [hy]
  clear hy
  have HQ2 := Lib.hid (z1.fr.row HQ.out)
  have BE := Lib.hid (z1.base HE.out)
  have c0 := HQ2.out.cell 0 (v := .int .i64 0) rfl
  have c1 := HQ2.out.cell 1 (v := .int .i64 0) rfl
  have f0 := HQ2.out.free 0
  have f1 := HQ2.out.free 1
  go_wp2_with fail
  clear c0 c1 f0 f1
  have q := (HQ2.out.set 0 (.int .i64 (0))).set 1 (.int .i64 (0))
  have r0 := q.cell 0 (v := .int .i64 (0)) rfl
  have r1 := q.cell 1 (v := .int .i64 (0)) rfl
  exact bodyPost_ret (v := .tuple #[.agg #[.int .i64 (0), .int .i64 (0)], .int .i64 E]) (by simp [results, Try.results30, go_sem, r0, r1]) rfl ⟨rfl, (BE.out.setCell (by dsimp only; omega) _).setCell (by dsimp only; omega) _⟩
set_option maxRecDepth 100000 in
set_option maxHeartbeats 6400000 in
theorem refOver_yes (b : Bf) (p : Option Addr) (c : Nat) (q : Option Addr) (cq : Nat) (l : List Int) (w : World) (hB : BfAt w p c b) (hb : bookB b = true) (hI : IntsAt w q l) (hp : planB b l = true) :
    Calls Try.prog 30 #[.agg (bfA b p c), .slice q l.length cq] w fun e w' => e = .returned (.tuple #[.agg #[.int .i64 (overV Hd.lo b l), .int .i64 (overV Hd.hi b l)], .int .i64 0]) ∧ Below w.heap.size w w' := by
  have hok := bookB_iff.1 hb
  have hll := plan_len hp
  have hn8 := hok.n8
  have hl : l.length ≤ maxLen := by unfold maxLen; omega
  obtain ⟨W0, hW0⟩ : ∃ W, W = (w.alloc (.cells (bfA b p c) 24)).alloc (.cells #[.int .i64 0, .int .i64 0] 27) := ⟨_, rfl⟩
  have HW0 := Lib.hid hW0
  have HE := Lib.hid (show Below w.heap.size w W0 by rw [hW0]; exact below_alloc2 _ _ _)
  have HR := Lib.hid (show Row W0 w.heap.size (bfA b p c) 24 by rw [hW0]; exact (Row.new w _ _).alloc _)
  have HQ := Lib.hid (show Row W0 (w.heap.size + 1) #[.int .i64 0, .int .i64 0] 27 by rw [hW0]; exact Row.new1 w _ _ _)
  have g0 := HR.out.cell 0 (v := .int .i64 b.pr) rfl
  have g1 := HR.out.cell 1 (v := .int .i64 b.le) rfl
  have g2 := HR.out.cell 2 (v := .int .i64 b.mo) rfl
  have g3 := HR.out.cell 3 (v := .int .i64 b.gr) rfl
  have g4 := HR.out.cell 4 (v := .slice p b.hs.length c) rfl
  clear hW0
  obtain ⟨z0, hz0⟩ : ∃ z : Later W0, W0 = z.w := ⟨⟨W0, Below.refl _ _⟩, rfl⟩
  have HZ0 := Lib.hid hz0
  clear hz0
  have hzq := HQ.out.lt
  have HB := Lib.hid (hB.below HE.out)
  have HI := Lib.hid (hI.below HE.out)
  have HIP := Lib.hid (fun w' (k : From W0 w') => refIsPlanOf_any b p c q cq l w' ((hB.below HE.out).below k.b) ((hI.below HE.out).below k.b) hl)
  have HAS := Lib.hid (fun w' (k : From W0 w') => refAsked5_any b p c (planB b l) w' ((hB.below HE.out).below k.b))
  have h0 : askE5 b (planB b l) = 0 := by unfold askE5; rw [hb, hp]; rfl
  rw [h0] at HAS
  rw [hp] at HIP HAS
  have HPS := Lib.hid (fun k (hk : k < l.length) => plan_sums hok hp hk)
  have HOK := Lib.hid hok
  have h1 := hok.p1
  have h2 := hok.p2
  clear hB hI hb hp hok hl h0
  go_enter Try.func30, Try.ntmps30
  go_upto_region 1 with (fail)
  rw [← HW0.out, HZ0.out]
  refine wp_region_later (by kernel_rfl) (by kernel_rfl) ?_
  repeat (go_big_quiet_step (first
    | (go_at_call 75; with_reducible exact Calls.later_of (HIP.out _ (From.trans (Later.fr _) (Later.fr _))))
    | (go_at_call 63; with_reducible exact Calls.later_of (HAS.out _ (From.trans (Later.fr _) (Later.fr _))))))
  refine wpQuiet_nil ?_
  intro _ hw'
  obtain ⟨yy, hw''⟩ := hw'
  subst hw''
  obtain ⟨z1, hy⟩ := z0.up yy
  rw [hy]
  clear hy
  go_wp2_with fail
  refine (Only_any _ _).mono ?_
  rintro e u ⟨rfl, hbu⟩
  obtain ⟨z2, hz⟩ := z1.on hbu
  subst hz
  clear hbu
  obtain ⟨Z, hZ⟩ : ∃ u, z2.w = u := ⟨_, rfl⟩
  have KZ := Lib.hid (show From W0 Z by rw [← hZ]; exact z2.fr)
  rw [hZ]
  clear hZ
  go_upto_region 5 with (first | (refine store_new rfl 27 _ _ rfl #[.int .i64 0, .int .i64 0] #[.int .i64 0, .int .i64 0] 27 rfl rfl (by kernel_rfl) rfl (by simp [Value.oneCell']) ?_))
  obtain ⟨ZA, hZA⟩ : ∃ u, Z.alloc (.cells #[.int .i64 0, .int .i64 0] 27) = u := ⟨_, rfl⟩
  have RW := Lib.hid (show Row ZA Z.heap.size #[.int .i64 0, .int .i64 0] 27 by rw [← hZA]; exact Row.new Z _ _)
  have KA := Lib.hid (show Below Z.heap.size Z ZA by rw [← hZA]; exact below_alloc _ _)
  rw [hZA]
  clear hZA
  obtain ⟨G, hG⟩ : ∃ x, Z.heap.size = x := ⟨_, rfl⟩
  have HG := Lib.hid hG
  rw [hG] at RW ⊢
  have gz0 := KZ.out.cell g0
  have gz1 := KZ.out.cell g1
  have gz2 := KZ.out.cell g2
  have gz3 := KZ.out.cell g3
  have gz4 := KZ.out.cell g4
  have HBZ := Lib.hid (HB.out.below KZ.out.b)
  have HIZ := Lib.hid (HI.out.below KZ.out.b)
  clear g0 g1 g2 g3 g4 hG
  obtain ⟨x0', hx0⟩ := later_of KA.out
  subst hx0
  go_wp2_with fail
  go_loopw [8] (fun i wr => ∃ (k : Nat) (v : Later Z), k ≤ l.length ∧ i = .int .i64 (k : Int) ∧ Row v.w G #[.int .i64 (overK Hd.lo b l k), .int .i64 (overK Hd.hi b l k)] 27 ∧ wr = v.w) (fun i _ => l.length - (intOf i).toNat)
  case atStart => exact ⟨0, x0', by omega, rfl, by rw [overK_zero, overK_zero]; exact RW.out, rfl⟩
  case round =>
    obtain ⟨k, v, hk, rfl, hrow, rfl⟩ := hrel
    have HRW := Lib.hid hrow
    clear hrow
    by_cases hlt : k < l.length
    · obtain ⟨X, Y', hX, hY, hXY, hYn, _, _, _⟩ := HPS.out k hlt
      obtain ⟨gl, ol, rfl, hcl⟩ := HIZ.out k hlt
      rw [hY] at hcl
      have HLN := Lib.hid (overK_succ Hd.lo b l k)
      have HHN := Lib.hid (overK_succ Hd.hi b l k)
      have HRR := Lib.hid (show rightI b l k = rightB b X Y' by
        show decide (kindS b (loB b (bgn l k).toNat (at0 l k).toNat) (hiB b (bgn l k).toNat (at0 l k).toNat) = 0) = _
        rw [hX, hY, Int.toNat_natCast, Int.toNat_natCast]
        rfl)
      have hlo : loI b l k = loB b X Y' := by unfold loI; rw [hX, hY, Int.toNat_natCast, Int.toNat_natCast]
      have hhi : hiI b l k = hiB b X Y' := by unfold hiI; rw [hX, hY, Int.toNat_natCast, Int.toNat_natCast]
      rw [hlo, hhi] at HLN HHN
      have hr2 := part_range HOK.out X Y'
      have hr3 := overK_range (f := Hd.lo) HOK.out (fun x y => (part_range HOK.out x y).1) l k
      have hr4 := overK_range (f := Hd.hi) HOK.out (fun x y => (part_range HOK.out x y).2) l k
      have HBG := Lib.hid (fun w' (kk : From Z w') => (by have h := refBegins_any (some ⟨gl, ol, none⟩) cq l k w' (HIZ.out.below kk.b) hk (by omega); rw [hX] at h; exact h : Calls Try.prog 79 #[.slice (some ⟨gl, ol, none⟩) l.length cq, .int .i64 (k : Int)] w' fun e w'' => e = .returned (.int .i64 (X : Int)) ∧ Below w'.heap.size w' w''))
      obtain ⟨lw, hlw⟩ : ∃ n, overK Hd.lo b l k = n := ⟨_, rfl⟩
      obtain ⟨hw, hhw⟩ : ∃ n, overK Hd.hi b l k = n := ⟨_, rfl⟩
      rw [hlw] at HLN HRW hr3
      rw [hhw] at HHN HRW hr4
      obtain ⟨LV, hLV⟩ : ∃ x, loB b X Y' = x := ⟨_, rfl⟩
      obtain ⟨HV, hHV⟩ : ∃ x, hiB b X Y' = x := ⟨_, rfl⟩
      have HSV := Lib.hid (fun w' (kk : From Z w') => (by have h := refSumOf5_any b p c X Y' w' (HBZ.out.below kk.b) HOK.out (Nat.le_of_lt hXY) hYn; rw [hLV, hHV] at h; exact h : Calls Try.prog 64 #[.agg (bfA b p c), .int .i64 (X : Int), .int .i64 (Y' : Int)] w' fun e w'' => e = .returned (.agg #[.int .i64 LV, .int .i64 HV]) ∧ Below w'.heap.size w' w''))
      rw [hLV] at HLN HHN hr2
      rw [hHV] at HHN HLN hr2
      have i1 : (0 : Int) ≤ (k : Int) := by omega
      have i2 : (k : Int) < (l.length : Int) := by omega
      clear hlo hhi hX hY hlw hhw hLV hHV
      cases hr : rightB b X Y'
      · have HR1 := Lib.hid (fun w' (kk : From Z w') => (by have h := refRight5_any b p c X Y' w' (HBZ.out.below kk.b) HOK.out (Nat.le_of_lt hXY) hYn; rw [hr] at h; exact h : Calls Try.prog 78 #[.agg (bfA b p c), .int .i64 (X : Int), .int .i64 (Y' : Int)] w' fun e w'' => e = .returned (.bool false) ∧ Below w'.heap.size w' w''))
        rw [hr] at HRR
        clear hr
        go_upto_region 8 with (fail)
        refine wp_region_later (by kernel_rfl) (by kernel_rfl) ?_
        repeat (go_big_quiet_step (first
          | (go_at_call 79; with_reducible exact Calls.later_of (HBG.out _ (From.trans (Later.fr _) (Later.fr _))))
          | (go_at_call 78; with_reducible exact Calls.later_of (HR1.out _ (From.trans (Later.fr _) (Later.fr _))))))
        refine wpQuiet_nil ?_
        intro _ hw'
        obtain ⟨yy, hw''⟩ := hw'
        subst hw''
        obtain ⟨x2, hy⟩ := v.up yy
        have HRW2 := Lib.hid (by have h := HRW.out.below yy.b HRW.out.lt; rw [hy] at h; exact h)
        rw [hy]
        clear hy
        go_wp2_with fail
        go_roundw
        case rel => exact ⟨k + 1, x2, by omega, by go_num, by rw [HLN.out, HHN.out, HRR.out]; exact HRW2.out, rfl⟩
        case measure => simp [intOf]; omega
      · have HR1 := Lib.hid (fun w' (kk : From Z w') => (by have h := refRight5_any b p c X Y' w' (HBZ.out.below kk.b) HOK.out (Nat.le_of_lt hXY) hYn; rw [hr] at h; exact h : Calls Try.prog 78 #[.agg (bfA b p c), .int .i64 (X : Int), .int .i64 (Y' : Int)] w' fun e w'' => e = .returned (.bool true) ∧ Below w'.heap.size w' w''))
        rw [hr] at HRR
        clear hr
        go_upto_region 8 with (fail)
        refine wp_region_later (by kernel_rfl) (by kernel_rfl) ?_
        repeat (go_big_quiet_step (first
          | (go_at_call 79; with_reducible exact Calls.later_of (HBG.out _ (From.trans (Later.fr _) (Later.fr _))))
          | (go_at_call 78; with_reducible exact Calls.later_of (HR1.out _ (From.trans (Later.fr _) (Later.fr _))))))
        refine wpQuiet_nil ?_
        intro _ hw'
        obtain ⟨yy, hw''⟩ := hw'
        subst hw''
        obtain ⟨x, hy⟩ := v.up yy
        have HRW := Lib.hid (by have h := HRW.out.below yy.b HRW.out.lt; rw [hy] at h; exact h)
        rw [hy]
        clear hy
        have KI := Lib.hid (From.refl x.w)
        have HSK := Lib.hid (fun w' (kk : From x.w w') => (⟨kk.cell (x.fr.cell gz0), kk.cell (x.fr.cell gz1), kk.cell (x.fr.cell gz2), kk.cell (x.fr.cell gz3), kk.cell (x.fr.cell gz4), kk.cell (x.fr.cell hcl)⟩ : w'.cell? ⟨w.heap.size, 0, none⟩ = some (.int .i64 b.pr) ∧ w'.cell? ⟨w.heap.size, 1, none⟩ = some (.int .i64 b.le) ∧ w'.cell? ⟨w.heap.size, 2, none⟩ = some (.int .i64 b.mo) ∧ w'.cell? ⟨w.heap.size, 3, none⟩ = some (.int .i64 b.gr) ∧ w'.cell? ⟨w.heap.size, 4, none⟩ = some (.slice p b.hs.length c) ∧ w'.cell? ⟨gl, ol + k, none⟩ = some (.int .i64 (Y' : Int))))
        go_upto_region 9 with (fail)
        go_cut [9] from 35 to 43 (fun a wx => ∃ (vb : Nat) (z : Later x.w), a = .pointer (some ⟨vb, 0, none⟩) ∧ Row z.w vb #[.int .i64 LV, .int .i64 HV] 27 ∧ wx = z.w)
        case first =>
          go_region_held3 (fun w' => w'.cell? ⟨w.heap.size, 0, none⟩ = some (.int .i64 b.pr) ∧ w'.cell? ⟨w.heap.size, 1, none⟩ = some (.int .i64 b.le) ∧ w'.cell? ⟨w.heap.size, 2, none⟩ = some (.int .i64 b.mo) ∧ w'.cell? ⟨w.heap.size, 3, none⟩ = some (.int .i64 b.gr) ∧ w'.cell? ⟨w.heap.size, 4, none⟩ = some (.slice p b.hs.length c) ∧ w'.cell? ⟨gl, ol + k, none⟩ = some (.int .i64 (Y' : Int)))
            (first | with_reducible exact HSK.out _ KI.out | with_reducible exact HSK.out _ KI.out.drew | with_reducible exact HSK.out _ (KI.out.below (below_alloc _ _)) | with_reducible exact HSK.out _ (KI.out.drew.below (below_alloc _ _)) | with_reducible exact HSK.out _ (KI.out.below (below_alloc _ _)).drew | exact HSK.out _ ((KI.out.setN HAL.out 0 _).setN HAL.out 1 _))
            (first
              | (go_at_call 79; (with_reducible refine (HBG.out _ (by first | with_reducible exact x.fr.trans (KI.out.below (below_alloc _ _)).drew | with_reducible exact x.fr.trans (KI.out.drew.below (below_alloc _ _)) | with_reducible exact x.fr.trans (KI.out.below (below_alloc _ _)))).mono ?_); rintro e u ⟨rfl, hbu⟩; have HZR := Lib.hid (by first | with_reducible exact (Row.new _ #[.int .i64 0, .int .i64 0] 27).drew.below hbu (by simp) | with_reducible exact (Row.new _ #[.int .i64 0, .int .i64 0] 27).below hbu (by simp)); have HAL := Lib.hid KI.out.b.size; have KI := Lib.hid (by first | with_reducible exact (KI.out.below (below_alloc _ _)).drew.below hbu | with_reducible exact (KI.out.drew.below (below_alloc _ _)).below hbu | with_reducible exact (KI.out.below (below_alloc _ _)).below hbu); have q0 := HZR.out.cell 0 (v := .int .i64 0) rfl; have q1 := HZR.out.cell 1 (v := .int .i64 0) rfl; have f0 := HZR.out.free 0; have f1 := HZR.out.free 1; clear hbu)
              | (go_at_call 79; (with_reducible refine (HBG.out _ (by first | with_reducible exact x.fr.trans KI.out.drew | with_reducible exact x.fr.trans KI.out)).mono ?_); rintro e u ⟨rfl, hbu⟩; have KI := Lib.hid (by first | with_reducible exact KI.out.drew.below hbu | with_reducible exact KI.out.below hbu); (try (have HZR := Lib.hid (HZR.out.below hbu HZR.out.lt); have q0 := HZR.out.cell 0 (v := .int .i64 0) rfl; have q1 := HZR.out.cell 1 (v := .int .i64 0) rfl; have f0 := HZR.out.free 0; have f1 := HZR.out.free 1)); clear hbu)
              | (go_at_call 64; (with_reducible refine (HSV.out _ (by first | with_reducible exact x.fr.trans (KI.out.below (below_alloc _ _)).drew | with_reducible exact x.fr.trans (KI.out.drew.below (below_alloc _ _)) | with_reducible exact x.fr.trans (KI.out.below (below_alloc _ _)))).mono ?_); rintro e u ⟨rfl, hbu⟩; have HZR := Lib.hid (by first | with_reducible exact (Row.new _ #[.int .i64 0, .int .i64 0] 27).drew.below hbu (by simp) | with_reducible exact (Row.new _ #[.int .i64 0, .int .i64 0] 27).below hbu (by simp)); have HAL := Lib.hid KI.out.b.size; have KI := Lib.hid (by first | with_reducible exact (KI.out.below (below_alloc _ _)).drew.below hbu | with_reducible exact (KI.out.drew.below (below_alloc _ _)).below hbu | with_reducible exact (KI.out.below (below_alloc _ _)).below hbu); have q0 := HZR.out.cell 0 (v := .int .i64 0) rfl; have q1 := HZR.out.cell 1 (v := .int .i64 0) rfl; have f0 := HZR.out.free 0; have f1 := HZR.out.free 1; clear hbu)
              | (go_at_call 64; (with_reducible refine (HSV.out _ (by first | with_reducible exact x.fr.trans KI.out.drew | with_reducible exact x.fr.trans KI.out)).mono ?_); rintro e u ⟨rfl, hbu⟩; have KI := Lib.hid (by first | with_reducible exact KI.out.drew.below hbu | with_reducible exact KI.out.below hbu); (try (have HZR := Lib.hid (HZR.out.below hbu HZR.out.lt); have q0 := HZR.out.cell 0 (v := .int .i64 0) rfl; have q1 := HZR.out.cell 1 (v := .int .i64 0) rfl; have f0 := HZR.out.free 0; have f1 := HZR.out.free 1)); clear hbu))
          all_goals
            go_wp2_with fail
            go_meet
            first
              | exact ⟨_, ⟨_, (KI.out.below (below_alloc _ _)).b⟩, rfl, Row.new _ _ _, rfl⟩
              | exact ⟨_, ⟨_, ((KI.out.setN HAL.out 0 _).setN HAL.out 1 _).b⟩, rfl, (HZR.out.set 0 _).set 1 _, rfl⟩
        case rest =>
          obtain ⟨vb, z, rfl, hrz, rfl⟩ := hcut
          have HVR := Lib.hid hrz
          have HRW := Lib.hid (HRW.out.below z.b HRW.out.lt)
          obtain ⟨x5, hx5⟩ := x.up z
          rw [hx5] at HVR HRW ⊢
          clear hx5 hrz
          have w0 := HRW.out.cell 0 (v := .int .i64 lw) rfl
          have w1 := HRW.out.cell 1 (v := .int .i64 hw) rfl
          have v0 := HVR.out.cell 0 (v := .int .i64 LV) rfl
          have v1 := HVR.out.cell 1 (v := .int .i64 HV) rfl
          have e1 : IntKind.i64.wrap (lw + LV) = lw + LV := IntWalk.i64_in _ (by omega)
          have e2 : IntKind.i64.wrap (hw + HV) = hw + HV := IntWalk.i64_in _ (by omega)
          have e3 : IntKind.i64.wrap (lw + LV - b.pr) = lw + LV - b.pr := IntWalk.i64_in _ (by omega)
          have e4 : IntKind.i64.wrap (hw + HV - b.pr) = hw + HV - b.pr := IntWalk.i64_in _ (by omega)
          go_wp2_with fail
          refine (Sp_any _ _ _).mono ?_
          rintro e u ⟨rfl, hbu⟩
          have RY := Lib.hid (HRW.out.below hbu HRW.out.lt)
          have hb7 := x5.b.trans (hbu.mono x5.b.size)
          have RN := Lib.hid (RY.out.setRow #[.int .i64 (lw + LV - b.pr), .int .i64 (hw + HV - b.pr)])
          obtain ⟨x6, hx6⟩ := later_of (below_setRow' hb7 (g := G) (by rw [HG.out]; exact Nat.le_refl _) #[.int .i64 (lw + LV - b.pr), .int .i64 (hw + HV - b.pr)])
          go_wp2_with (first | (refine store_row rfl 27 _ _ rfl G #[.int .i64 (lw + LV - b.pr), .int .i64 (hw + HV - b.pr)] #[.int .i64 lw, .int .i64 hw] 27 rfl rfl RY.out (by kernel_rfl) rfl (by simp [Value.oneCell']) ?_; rw [hx6]))
          rw [hx6] at RN
          clear hx6 e1 e2 e3 e4 w0 w1 v0 v1 hbu hb7
          go_roundw
          case rel => exact ⟨k + 1, x6, by omega, by go_num, by rw [HLN.out, HHN.out, HRR.out]; exact RN.out, rfl⟩
          case measure => simp [intOf]; omega
    · obtain rfl : k = l.length := by omega
      have HEQ1 := Lib.hid (show overK Hd.lo b l l.length = overV Hd.lo b l from rfl)
      have HEQ2 := Lib.hid (show overK Hd.hi b l l.length = overV Hd.hi b l from rfl)
      rw [HEQ1.out, HEQ2.out] at HRW
      obtain ⟨LO, hLO⟩ : ∃ n, overV Hd.lo b l = n := ⟨_, rfl⟩
      obtain ⟨HI', hHI⟩ : ∃ n, overV Hd.hi b l = n := ⟨_, rfl⟩
      rw [hLO, hHI] at HRW
      have HEQ := Lib.hid (show Value.tuple #[.agg #[.int .i64 LO, .int .i64 HI'], .int .i64 0] = .tuple #[.agg #[.int .i64 (overV Hd.lo b l), .int .i64 (overV Hd.hi b l)], .int .i64 0] by rw [hLO, hHI])
      clear hLO hHI HEQ1 HEQ2
      have w0 := HRW.out.cell 0 (v := .int .i64 LO) rfl
      have w1 := HRW.out.cell 1 (v := .int .i64 HI') rfl
      have HQ2 := Lib.hid (v.fr.row (KZ.out.row HQ.out))
      have BE := Lib.hid (HE.out.trans ((KZ.out.trans v.fr).b.mono HE.out.size))
      have c0 := HQ2.out.cell 0 (v := .int .i64 0) rfl
      have c1 := HQ2.out.cell 1 (v := .int .i64 0) rfl
      have f0 := HQ2.out.free 0
      have f1 := HQ2.out.free 1
      go_wp2_with fail
      clear c0 c1 f0 f1 w0 w1
      have q := (HQ2.out.set 0 (.int .i64 (LO))).set 1 (.int .i64 (HI'))
      have r0 := q.cell 0 (v := .int .i64 (LO)) rfl
      have r1 := q.cell 1 (v := .int .i64 (HI')) rfl
      exact bodyPost_ret (v := .tuple #[.agg #[.int .i64 (LO), .int .i64 (HI')], .int .i64 0]) (by simp [results, Try.results30, go_sem, r0, r1]) rfl ⟨by rw [HEQ.out], (BE.out.setCell (by dsimp only; omega) _).setCell (by dsimp only; omega) _⟩
end Go.Proofs.Ytgdidhbomdfcpaa
/- The law FillPlans: what is told of plans is what the chapter says. -/
namespace Go.Proofs.Ytgdidhbomdfcpaa
open Go.RowKit Go.Maps
attribute [local go_sem] Oper.semAt_some

theorem alike_same (p q : Option Addr) (c d : Nat) (xs : List Int) (w : World) (hn : xs.length ≤ 1000) (hc : IntsAt w p xs) (hd : IntsAt w q xs) :
    Calls Try.prog 28 #[.slice p xs.length c, .slice q xs.length d] w fun e w' => e = .returned (.bool true) ∧ Below w.heap.size w w' := by
  have h := Alike_any p q c d xs xs w (by unfold maxLen; omega) hc hd
  simpa using h
/-- The list and the error that a call returns. -/
def GaveLE (L : List Int) (E : Int) (w : World) (e : Ending) (w' : World) : Prop := ∃ ph ch, e = .returned (.tuple #[.slice ph L.length ch, .int .i64 E]) ∧ IntsAt w' ph L ∧ Below w.heap.size w w'
theorem GaveLE.empty {E : Int} {f : FuncId} {args : Array Value} {w : World} (h : Calls Try.prog f args w fun e w' => e = .returned (.tuple #[.slice none 0 0, .int .i64 E]) ∧ Below w.heap.size w w') : Calls Try.prog f args w (GaveLE [] E w) :=
  h.mono fun _ _ ⟨he, hb⟩ => ⟨none, 0, he, fun i hi => by simp at hi, hb⟩
theorem isplan_both (b : Bf) (p : Option Addr) (c : Nat) (q : Option Addr) (cq : Nat) (l : List Int) (W : World) (hB : BfAt W p c b) (hI : IntsAt W q l) (hl : l.length < 2 ^ 62) (h64 : ∀ i, i < l.length → I64 (at0 l i)) :
    ∃ (v : Bool) (E : Int), (∀ w, From W w → Calls Try.prog 24 #[.agg (bfA b p c), .slice q l.length cq] w fun e w' => e = .returned (.tuple #[.bool v, .int .i64 E]) ∧ Below w.heap.size w w') ∧
      ∀ w, From W w → Calls Try.prog 25 #[.agg (bfA b p c), .slice q l.length cq] w fun e w' => e = .returned (.tuple #[.bool v, .int .i64 E]) ∧ Below w.heap.size w w' := by
  have hm : l.length ≤ maxLen := by unfold maxLen; omega
  have hr := fun w (k : From W w) => refIsPlan_any b p c q cq l w (hB.below k.b) (hI.below k.b) hm
  cases hb : bookB b
  · rw [hb, bookE_bad hb] at hr
    exact ⟨false, 50, fun w k => IsPlan_bad b p c q cq l w (hB.below k.b) hb, hr⟩
  · rw [hb, bookE_ok hb, Bool.true_and] at hr
    exact ⟨_, 0, fun w k => IsPlan_yes b p c q cq l w (hB.below k.b) hb (hI.below k.b) hl h64, hr⟩
theorem byhand_both (b : Bf) (p : Option Addr) (c : Nat) (q : Option Addr) (cq : Nat) (l : List Int) (W : World) (hB : BfAt W p c b) (hI : IntsAt W q l) (hl : l.length < 2 ^ 62) (h64 : ∀ i, i < l.length → I64 (at0 l i)) :
    ∃ (L : List Int) (E : Int), L.length ≤ 1000 ∧ (∀ w, From W w → Calls Try.prog 26 #[.agg (bfA b p c), .slice q l.length cq] w (GaveLE L E w)) ∧
      ∀ w, From W w → Calls Try.prog 27 #[.agg (bfA b p c), .slice q l.length cq] w (GaveLE L E w) := by
  have hm : l.length ≤ maxLen := by unfold maxLen; omega
  cases hb : bookB b
  · have h0 : askE5 b (planB b l) = 50 := by unfold askE5; rw [hb]; rfl
    refine ⟨[], 50, by simp, fun w k => GaveLE.empty (ByHand_bad b p c q cq l w (hB.below k.b) hb), fun w k => GaveLE.empty ?_⟩
    have h := refByHand_no b p c q cq l w (hB.below k.b) (hI.below k.b) hm (by rw [h0]; decide)
    rw [h0] at h
    exact h
  · cases hp : planB b l
    · have h0 : askE5 b (planB b l) = 51 := by unfold askE5; rw [hb, hp]; rfl
      refine ⟨[], 51, by simp, fun w k => GaveLE.empty (ByHand_no b p c q cq l w (hB.below k.b) hb (hI.below k.b) hl h64 hp), fun w k => GaveLE.empty ?_⟩
      have h := refByHand_no b p c q cq l w (hB.below k.b) (hI.below k.b) hm (by rw [h0]; decide)
      rw [h0] at h
      exact h
    · refine ⟨handL b l, 0, ?_, fun w k => ByHand_yes b p c q cq l w (hB.below k.b) hb (hI.below k.b) hl h64 hp, fun w k => refByHand_yes b p c q cq l w (hB.below k.b) hb (hI.below k.b) hp⟩
      have h1 := count_to b l l.length
      have h2 := plan_len hp
      have h3 := (bookB_iff.1 hb).n8
      unfold handL
      omega
theorem over_both (b : Bf) (p : Option Addr) (c : Nat) (q : Option Addr) (cq : Nat) (l : List Int) (W : World) (hB : BfAt W p c b) (hI : IntsAt W q l) (hl : l.length < 2 ^ 62) (h64 : ∀ i, i < l.length → I64 (at0 l i)) :
    ∃ lo hi E : Int, (∀ w, From W w → Calls Try.prog 29 #[.agg (bfA b p c), .slice q l.length cq] w fun e w' => e = .returned (.tuple #[.agg #[.int .i64 lo, .int .i64 hi], .int .i64 E]) ∧ Below w.heap.size w w') ∧
      ∀ w, From W w → Calls Try.prog 30 #[.agg (bfA b p c), .slice q l.length cq] w fun e w' => e = .returned (.tuple #[.agg #[.int .i64 lo, .int .i64 hi], .int .i64 E]) ∧ Below w.heap.size w w' := by
  have hm : l.length ≤ maxLen := by unfold maxLen; omega
  cases hb : bookB b
  · have h0 : askE5 b (planB b l) = 50 := by unfold askE5; rw [hb]; rfl
    refine ⟨0, 0, 50, fun w k => Over_bad b p c q cq l w (hB.below k.b) hb, fun w k => ?_⟩
    have h := refOver_no b p c q cq l w (hB.below k.b) (hI.below k.b) hm (by rw [h0]; decide)
    rw [h0] at h
    exact h
  · cases hp : planB b l
    · have h0 : askE5 b (planB b l) = 51 := by unfold askE5; rw [hb, hp]; rfl
      refine ⟨0, 0, 51, fun w k => Over_no b p c q cq l w (hB.below k.b) hb (hI.below k.b) hl h64 hp, fun w k => ?_⟩
      have h := refOver_no b p c q cq l w (hB.below k.b) (hI.below k.b) hm (by rw [h0]; decide)
      rw [h0] at h
      exact h
    · exact ⟨_, _, 0, fun w k => Over_yes b p c q cq l w (hB.below k.b) hb (hI.below k.b) hl h64 hp, fun w k => refOver_yes b p c q cq l w (hB.below k.b) hb (hI.below k.b) hp⟩

set_option maxRecDepth 10000 in
set_option maxHeartbeats 3200000 in
theorem FillPlans_any (b : Bf) (p : Option Addr) (c : Nat) (q : Option Addr) (cq : Nat) (l : List Int) (w : World) (hB : BfAt w p c b) (hI : IntsAt w q l) (hl : l.length < 2 ^ 62) (h64 : ∀ i, i < l.length → I64 (at0 l i)) :
    Calls Try.prog 4 #[.agg (bfA b p c), .slice q l.length cq] w fun e w' => e = .returned (.bool true) ∧ Below w.heap.size w w' := by
  obtain ⟨W0, hW0⟩ : ∃ W, W = w.alloc (.cells (bfA b p c) 24) := ⟨_, rfl⟩
  have HW0 := Lib.hid hW0
  have HE := Lib.hid (show Below w.heap.size w W0 by rw [hW0]; exact below_alloc _ _)
  have HR := Lib.hid (show Row W0 w.heap.size (bfA b p c) 24 by rw [hW0]; exact Row.new w _ _)
  have g0 := HR.out.cell 0 (v := .int .i64 b.pr) rfl
  have g1 := HR.out.cell 1 (v := .int .i64 b.le) rfl
  have g2 := HR.out.cell 2 (v := .int .i64 b.mo) rfl
  have g3 := HR.out.cell 3 (v := .int .i64 b.gr) rfl
  have g4 := HR.out.cell 4 (v := .slice p b.hs.length c) rfl
  clear hW0
  obtain ⟨z0, hz0⟩ : ∃ z : Later W0, W0 = z.w := ⟨⟨W0, Below.refl _ _⟩, rfl⟩
  have HZ0 := Lib.hid hz0
  clear hz0
  obtain ⟨v1, E1, hA1, hA2⟩ := isplan_both b p c q cq l W0 (hB.below HE.out) (hI.below HE.out) hl h64
  obtain ⟨L, E2, hLn, hB1, hB2⟩ := byhand_both b p c q cq l W0 (hB.below HE.out) (hI.below HE.out) hl h64
  obtain ⟨lo, hi, E3, hC1, hC2⟩ := over_both b p c q cq l W0 (hB.below HE.out) (hI.below HE.out) hl h64
  have A1 := Lib.hid hA1
  have A2 := Lib.hid hA2
  have B1 := Lib.hid hB1
  have B2 := Lib.hid hB2
  have C1 := Lib.hid hC1
  have C2 := Lib.hid hC2
  clear hA1 hA2 hB1 hB2 hC1 hC2 hB hI h64
  go_enter Try.func4, Try.ntmps4
  go_wp2_with fail
  rw [← HW0.out, HZ0.out]
  refine (A1.out _ z0.fr).mono ?_
  rintro e u ⟨rfl, hbu⟩
  obtain ⟨z1, hz⟩ := z0.on hbu
  subst hz
  clear hbu
  go_wp2_with fail
  refine (A2.out _ z1.fr).mono ?_
  rintro e u ⟨rfl, hbu⟩
  obtain ⟨z2, hz⟩ := z1.on hbu
  subst hz
  clear hbu
  go_wp2_with fail
  refine (B1.out _ z2.fr).mono ?_
  rintro e u ⟨p1, c1, rfl, hi1, hbu⟩
  have HL1 := Lib.hid hi1
  obtain ⟨z3, hz⟩ := z2.on hbu
  subst hz
  clear hbu hi1
  go_wp2_with fail
  refine (B2.out _ z3.fr).mono ?_
  rintro e u ⟨p2, c2, rfl, hi1, hbu⟩
  have HL1 := Lib.hid (HL1.out.below hbu)
  have HL2 := Lib.hid hi1
  obtain ⟨z4, hz⟩ := z3.on hbu
  subst hz
  clear hbu hi1
  go_wp2_with fail
  refine (alike_same _ _ _ _ L _ hLn HL1.out HL2.out).mono ?_
  rintro e u ⟨rfl, hbu⟩
  obtain ⟨z5, hz⟩ := z4.on hbu
  subst hz
  clear hbu
  go_wp2_with fail
  refine (C1.out _ z5.fr).mono ?_
  rintro e u ⟨rfl, hbu⟩
  obtain ⟨z6, hz⟩ := z5.on hbu
  subst hz
  clear hbu
  go_upto_region 10 with (first | (refine store_new rfl 27 _ _ rfl #[.int .i64 lo, .int .i64 hi] #[.int .i64 0, .int .i64 0] 27 rfl rfl (by kernel_rfl) rfl (by simp [Value.oneCell']) ?_))
  obtain ⟨WN, hWN⟩ : ∃ u, z6.w.alloc (.cells #[.int .i64 lo, .int .i64 hi] 27) = u := ⟨_, rfl⟩
  have R1 := Lib.hid (show Row WN z6.w.heap.size #[.int .i64 lo, .int .i64 hi] 27 by rw [← hWN]; exact Row.new z6.w _ _)
  have hbu : Below z6.w.heap.size z6.w WN := by rw [← hWN]; exact below_alloc _ _
  rw [hWN]
  clear hWN
  obtain ⟨BR1, hBR1⟩ : ∃ x, z6.w.heap.size = x := ⟨_, rfl⟩
  rw [hBR1] at R1 ⊢
  clear hBR1
  obtain ⟨z7, hz⟩ := z6.on hbu
  subst hz
  clear hbu
  go_wp2_with fail
  refine (C2.out _ z7.fr).mono ?_
  rintro e u ⟨rfl, hbu⟩
  have R1 := Lib.hid (R1.out.below hbu R1.out.lt)
  obtain ⟨z8, hz⟩ := z7.on hbu
  subst hz
  clear hbu
  go_upto_region 11 with (first | (refine store_new rfl 27 _ _ rfl #[.int .i64 lo, .int .i64 hi] #[.int .i64 0, .int .i64 0] 27 rfl rfl (by kernel_rfl) rfl (by simp [Value.oneCell']) ?_))
  obtain ⟨WN, hWN⟩ : ∃ u, z8.w.alloc (.cells #[.int .i64 lo, .int .i64 hi] 27) = u := ⟨_, rfl⟩
  have R2 := Lib.hid (show Row WN z8.w.heap.size #[.int .i64 lo, .int .i64 hi] 27 by rw [← hWN]; exact Row.new z8.w _ _)
  have hbu : Below z8.w.heap.size z8.w WN := by rw [← hWN]; exact below_alloc _ _
  rw [hWN]
  clear hWN
  have R1 := Lib.hid (R1.out.below hbu R1.out.lt)
  obtain ⟨BR2, hBR2⟩ : ∃ x, z8.w.heap.size = x := ⟨_, rfl⟩
  rw [hBR2] at R2 ⊢
  clear hBR2
  obtain ⟨z9, hz⟩ := z8.on hbu
  subst hz
  clear hbu
  have r10 := R1.out.cell 0 (v := .int .i64 lo) rfl
  have r11 := R1.out.cell 1 (v := .int .i64 hi) rfl
  have r20 := R2.out.cell 0 (v := .int .i64 lo) rfl
  have r21 := R2.out.cell 1 (v := .int .i64 hi) rfl
  go_wp2_with fail
  refine (filled_any _).mono ?_
  rintro e u ⟨rfl, hbu⟩
  obtain ⟨z10, hz⟩ := z9.on hbu
  subst hz
  clear hbu
  go_wp2_with fail
  go_ret
  exact ⟨rfl, z10.base HE.out⟩
end Go.Proofs.Ytgdidhbomdfcpaa
/- The walks of the specification of layer 5: a list with a number behind it; rows of numbers; all plans. -/
namespace Go.Proofs.Ytgdidhbomdfcpaa
open Go.RowKit Go.Maps
attribute [local go_sem] Oper.semAt_some

/-- A list of numbers copied behind an empty one. -/
theorem plus_first (w : World) (l : List Int) (p : Option Addr) (c : Nat) (h : IntsAt w p l) (hn : l.length ≤ 1000) (hc : p = none → c = 0) (base z : Nat) (hz : base ≤ z) (hzw : z < w.heap.size) (hr : Row w z #[] 3) (ty : TypeId) :
    ∃ v' w', (Builtin.append_ #[38, 38] ty #[.slice (some ⟨z, 0, none⟩) 0 0, .slice p l.length c]).run Try.prog w = .ok v' w' ∧ w'.ownsRow base 3 1 v' l.length (l.map (Value.int .i64)) ∧ Below base w w' := by
  obtain ⟨i0, hi, hi0, hi1, hi2⟩ := info_parts Try.infoInt
  have hown : w.ownsRow base 3 1 (.slice (some ⟨z, 0, none⟩) 0 0) 0 [] := ⟨rfl, .inr ⟨z, 0, #[], rfl, hz, hr, Nat.le_refl _, by unfold maxLen; omega, rfl, rfl⟩⟩
  have hb : Below base w w := Below.refl _ _
  rcases p with _ | a
  · have hl : l = [] := by
      cases l with
      | nil => rfl
      | cons x xs => obtain ⟨_, _, e, _⟩ := h 0 (by simp); cases e
    subst hl
    rw [hc rfl]
    exact ⟨_, _, run_append_owned_none w base 38 ty 3 i0 1 Try.underlying38 hi _ 0 [] hown, hown, hb⟩
  · obtain ⟨v', w', h1, h2, h3, _⟩ := run_append_own (P := Try.prog) w base 38 ty 3 i0 _ 1 8 Try.underlying38 hi hi0 hi1 hi2 rfl (by decide) (.slice (some ⟨z, 0, none⟩) 0 0) 0 [] hown a l.length c (l.map (Value.int .i64)) (by simp) (fun j u hj => by
        have hl : j < l.length := by have := (List.getElem?_eq_some_iff.1 hj).1; simpa using this
        obtain ⟨b', o', e, hcc⟩ := h j hl
        cases e
        rw [Addr.add_lit, hcc]
        rw [List.getElem?_map, List.getElem?_eq_getElem hl] at hj
        rw [at0_lt hl]; simpa using hj) (by
        intro u hu
        obtain ⟨x, _, rfl⟩ := List.mem_map.1 hu
        rfl) (by unfold maxLen; omega) (by omega) (by omega)
    rw [Nat.zero_add, List.nil_append] at h2
    exact ⟨v', w', h1, h2, hb.grown h3 (by omega) (fun k hk => by simp [Value.ownBlock] at hk; omega)⟩

set_option maxRecDepth 10000 in
set_option maxHeartbeats 800000 in
theorem Plus_any (l : List Int) (p : Option Addr) (c : Nat) (n : Int) (w : World) (h : IntsAt w p l) (hn : l.length ≤ 900) (hc : p = none → c = 0) :
    Calls Try.prog 102 #[.slice p l.length c, .int .i64 n] w (GaveOwn (l ++ [n]) w) := by
  obtain ⟨i0, hi, hi0, hi1, hi2⟩ := info_parts Try.infoInt
  have hE := below_alloc w (.cells #[] 3)
  obtain ⟨v, w1, hr, hown, hb⟩ := plus_first (w.alloc (.cells #[] 3)) l p c (h.below hE) (by omega) hc w.heap.size w.heap.size (Nat.le_refl _) (by simp) (Row.new w #[] 3) 38
  have HRUN := Lib.hid hr
  have HB := Lib.hid (hE.trans hb)
  have HO := Lib.hid hown
  have hz := HB.out.size
  clear h hE hr hown hb
  go_enter Try.func102, Try.ntmps102
  go_wp2_with (first
    | (have hrun0 := HRUN.out; at_builtin; refine wpList_append_run rfl _ _ _ _ rfl (.slice (some ⟨w.heap.size, 0, none⟩) 0 0) _ _ rfl rfl hrun0 ?_; clear hrun0 HRUN)
    | (at_builtin; (refine wpList_append_own _ rfl _ _ 38 rfl w.heap.size 3 i0 (.int .i64 0) 1 8 Try.underlying38 hi hi0 hi1 hi2 rfl (by decide) _ _ _ rfl (HO.out.alloc _) ⟨w1.heap.size, 0, none⟩ 1 1 [.int .i64 n] rfl rfl (cell_one_new _ _ _) (by simp [Value.oneCell']) (by unfold maxLen; omega) (by omega) (by simp; omega) ?_); intro v' w2 hown' hgrow _; have HO2 := Lib.hid hown'; have HB2 := Lib.hid (HB.out.trans (((Below.refl _ _).alloc (by omega) _).grown hgrow (by simp; omega) (fun k hk => (HO.out.lt k hk).1))); clear hown' hgrow))
  obtain ⟨p', c', rfl, hints, hle, hcm, hp⟩ := ints_of_owns2 (xs := l ++ [n]) (by simpa using HO2.out)
  rcases hp with rfl | ⟨g, rfl, hg⟩
  · obtain ⟨_, _, e, _⟩ := hints 0 (by simp)
    cases e
  · have HIN := Lib.hid hints
    have HG := Lib.hid (by obtain ⟨b', o', e, hcc⟩ := hints 0 (by simp); cases e; exact cell_block hcc : g < w2.heap.size)
    clear hints
    go_ret
    exact ⟨g, c', rfl, HIN.out, hg, HG.out, HB2.out⟩

theorem Try.infoIntsL : (Try.prog.info? 38).map (fun i => (i.zero, i.size, i.bytes)) = some (some (.slice none 0 0), 1, 24) := by kernel_rfl
/-- Rows of numbers in memory. -/
def IRows (w : World) (vals : List Value) (xss : List (List Int)) (P : Nat → Prop) : Prop :=
  vals.length = xss.length ∧ ∀ i (h : i < xss.length), ∃ (p : Option Addr) (c : Nat), vals[i]? = some (.slice p xss[i].length c) ∧ IntsAt w p xss[i] ∧ ∀ a, p = some a → a.block < w.heap.size ∧ P a.block
theorem IRows.below {w w' : World} {vals : List Value} {xss : List (List Int)} {P : Nat → Prop} (h : IRows w vals xss P) (hb : Below w.heap.size w w') : IRows w' vals xss P :=
  ⟨h.1, fun i hi => by
    obtain ⟨p, c, h1, h2, h3⟩ := h.2 i hi
    exact ⟨p, c, h1, h2.below hb, fun a ha => ⟨Nat.lt_of_lt_of_le (h3 a ha).1 hb.size, (h3 a ha).2⟩⟩⟩
theorem IRows.imp {w : World} {vals : List Value} {xss : List (List Int)} {P Q : Nat → Prop} (h : IRows w vals xss P) (hi : ∀ q, q < w.heap.size → P q → Q q) : IRows w vals xss Q :=
  ⟨h.1, fun i hh => by
    obtain ⟨p, c, h1, h2, h3⟩ := h.2 i hh
    exact ⟨p, c, h1, h2, fun a ha => ⟨(h3 a ha).1, hi _ (h3 a ha).1 (h3 a ha).2⟩⟩⟩
theorem IRows.nil (w : World) (P : Nat → Prop) : IRows w [] [] P := ⟨rfl, fun i h => by simp at h⟩
theorem IRows.append {w : World} {vals vals' : List Value} {xss xss' : List (List Int)} {P : Nat → Prop} (h : IRows w vals xss P) (h' : IRows w vals' xss' P) : IRows w (vals ++ vals') (xss ++ xss') P := by
  refine ⟨by rw [List.length_append, List.length_append, h.1, h'.1], fun i hi => ?_⟩
  by_cases hlt : i < xss.length
  · obtain ⟨p, c, h1, h2, h3⟩ := h.2 i hlt
    rw [List.getElem_append_left hlt]
    exact ⟨p, c, by rw [List.getElem?_append_left (by rw [h.1]; exact hlt)]; exact h1, h2, h3⟩
  · rw [List.length_append] at hi
    obtain ⟨p, c, h1, h2, h3⟩ := h'.2 (i - xss.length) (by omega)
    rw [List.getElem_append_right (by omega)]
    exact ⟨p, c, by rw [List.getElem?_append_right (by rw [h.1]; omega), h.1]; exact h1, h2, h3⟩
theorem IRows.grown {w w' : World} {vals : List Value} {xss : List (List Int)} {P : Nat → Prop} {r : Option Nat} (h : IRows w vals xss P) (hg : w.grownBy w' r) (hn : ∀ q, P q → r ≠ some q) : IRows w' vals xss P :=
  ⟨h.1, fun i hi => by
    obtain ⟨p, c, h1, h2, h3⟩ := h.2 i hi
    refine ⟨p, c, h1, fun j hj => ?_, fun a ha => ⟨Nat.lt_of_lt_of_le (h3 a ha).1 hg.size, (h3 a ha).2⟩⟩
    obtain ⟨b', o', e, hc⟩ := h2 j hj
    exact ⟨b', o', e, hg.cell hc (fun e2 => hn b' (h3 _ e).2 e2.symm)⟩⟩
theorem IRows.one {w : World} {vals : List Value} {xss : List (List Int)} {P : Nat → Prop} (h : IRows w vals xss P) : ∀ u ∈ vals, u.oneCell' = true := by
  intro u hu
  obtain ⟨i, hi, rfl⟩ := List.getElem_of_mem hu
  obtain ⟨p, c, h1, _⟩ := h.2 i (by rw [← h.1]; exact hi)
  rw [List.getElem?_eq_getElem hi] at h1
  rw [Option.some.inj h1]
  rfl
theorem append_irows (w : World) (base : Nat) (hbase : base ≤ w.heap.size) (v : Value) (vals : List Value) (hown : w.ownsRow base 38 1 v vals.length vals) (b3 o3 c3 : Nat) (vals3 : List Value) (xss3 : List (List Int)) (P : Nat → Prop) (hc3 : ∀ j u, vals3[j]? = some u → w.cell? ⟨b3, o3 + j, none⟩ = some u) (hr3 : IRows w vals3 xss3 P) (hlen : vals.length + xss3.length ≤ 1000) (ty : TypeId) :
    ∃ v' w', (Builtin.append_ #[49, 49] ty #[v, .slice (some ⟨b3, o3, none⟩) xss3.length c3]).run Try.prog w = .ok v' w' ∧ w'.ownsRow base 38 1 v' (vals.length + vals3.length) (vals ++ vals3) ∧ w.grownBy w' v.ownBlock ∧ (v'.ownBlock = v.ownBlock ∨ v'.ownBlock = some w.heap.size) := by
  obtain ⟨i0, hi, hi0, hi1, hi2⟩ := info_parts Try.infoIntsL
  have hl := hr3.1
  obtain ⟨v2, w9, hr9, ho9, hg9, _, hv9⟩ := run_append_own_at (P := Try.prog) (w := w) base 49 ty 38 i0 _ 1 24 Try.underlying49 hi hi0 hi1 hi2 rfl (by decide) v vals.length vals hown ⟨b3, o3, none⟩ xss3.length c3 vals3 (by omega) (fun j u h => by rw [Addr.add_lit]; exact hc3 j u h) hr3.one (by unfold maxLen; omega) (by omega) hbase
  exact ⟨v2, w9, hr9, by rw [hl]; exact ho9, hg9, hv9⟩
/-- The call returned such rows. -/
def GaveIRows (xss : List (List Int)) (P : Nat → Prop) (w : World) (e : Ending) (w' : World) : Prop :=
  ∃ b o c vals, e = .returned (.slice (some ⟨b, o, none⟩) xss.length c) ∧ (∀ j u, vals[j]? = some u → w'.cell? ⟨b, o + j, none⟩ = some u) ∧ IRows w' vals xss P ∧ Below w.heap.size w w'
theorem append_irows_ex (w : World) (base : Nat) (hbase : base ≤ w.heap.size) (v : Value) (vals : List Value) (hown : w.ownsRow base 38 1 v vals.length vals) (b3 o3 c3 : Nat) (vals3 : List Value) (xss3 : List (List Int)) (P : Nat → Prop) (hc3 : ∀ j u, vals3[j]? = some u → w.cell? ⟨b3, o3 + j, none⟩ = some u) (hr3 : IRows w vals3 xss3 P) (hlen : vals.length + xss3.length ≤ 1000) (ty : TypeId) :
    ∃ v' w', (Builtin.append_ #[49, 49] ty #[v, .slice (some ⟨b3, o3, none⟩) xss3.length c3]).run Try.prog w = .ok v' w' ∧ (w'.ownsRow base 38 1 v' (vals.length + vals3.length) (vals ++ vals3) ∧ w.grownBy w' v.ownBlock ∧ (v'.ownBlock = v.ownBlock ∨ v'.ownBlock = some w.heap.size)) := by
  obtain ⟨v', w', h1, h2, h3, h4⟩ := append_irows w base hbase v vals hown b3 o3 c3 vals3 xss3 P hc3 hr3 hlen ty
  exact ⟨v', w', h1, h2, h3, h4⟩

/-- What the loop of Sets keeps. -/
structure SInv (B : Array Value) (t : TypeId) (l : Nat) (v : Value) (vals : List Value) (xss : List (List Int)) (w0 w : World) : Prop where
  rl : Row w l B t
  ow : w.ownsRow (l + 1) 38 1 v vals.length vals
  ri : IRows w vals xss (fun q => l + 1 ≤ q ∧ v.ownBlock ≠ some q)
  hb : Below l w0 w
section
variable {B : Array Value} {t : TypeId} {l : Nat} {v : Value} {vals : List Value} {xss : List (List Int)} {w0 w w' : World}
theorem SInv.below (h : SInv B t l v vals xss w0 w) (hb : Below w.heap.size w w') : SInv B t l v vals xss w0 w' :=
  ⟨h.rl.below hb h.rl.lt, owns_below h.ow hb, h.ri.below hb, h.hb.trans (hb.mono (Nat.le_of_lt h.rl.lt))⟩
theorem SInv.drew (h : SInv B t l v vals xss w0 w) : SInv B t l v vals xss w0 w.drew :=
  ⟨h.rl.drew, h.ow, h.ri, h.hb.drew⟩
/-- More rows behind. -/
theorem SInv.more (h : SInv B t l v vals xss w0 w) {v' : Value} {vals' : List Value} {xss' : List (List Int)} (ho : w'.ownsRow (l + 1) 38 1 v' (vals.length + vals'.length) (vals ++ vals')) (hg : w.grownBy w' v.ownBlock) (hv : v'.ownBlock = v.ownBlock ∨ v'.ownBlock = some w.heap.size) (hr : IRows w vals' xss' (fun q => l + 1 ≤ q ∧ v.ownBlock ≠ some q)) : SInv B t l v' (vals ++ vals') (xss ++ xss') w0 w' := by
  have hlt := h.rl.lt
  have hown : ∀ k, v.ownBlock = some k → l + 1 ≤ k := fun k hk => (h.ow.lt k hk).1
  have hg2 : Below (l + 1) w w' := (Below.refl _ _).grown hg (by omega) hown
  refine ⟨h.rl.below hg2 (by omega), by rw [List.length_append]; exact ho, ?_, h.hb.trans (hg2.mono (by omega))⟩
  have h2 : IRows w (vals ++ vals') (xss ++ xss') (fun q => l + 1 ≤ q ∧ v.ownBlock ≠ some q ∧ q < w.heap.size) :=
    IRows.append (h.ri.imp fun q hq hp => ⟨hp.1, hp.2, hq⟩) (hr.imp fun q hq hp => ⟨hp.1, hp.2, hq⟩)
  refine (h2.grown hg fun q hq => hq.2.1).imp fun q _ hq => ⟨hq.1, ?_⟩
  rcases hv with e | e
  · rw [e]; exact hq.2.1
  · rw [e]; intro e2; cases e2; omega
end

/-- All plans that begin with some boxes. -/
def fromL (b : Bf) (l : List Int) (x : Nat) : List (List Int) := (plansL (grN b) b.hs.length x).map (l ++ ·)
theorem fromL_end (b : Bf) (l : List Int) : fromL b l b.hs.length = [l] := by unfold fromL; rw [plansL_end]; simp
/-- As far as some sizes of the next box go. -/
def fromK (b : Bf) (l : List Int) (x k : Nat) : List (List Int) := (plansTo (grN b) b.hs.length x k).map (l ++ ·)
theorem fromK_zero (b : Bf) (l : List Int) (x : Nat) : fromK b l x 0 = [] := by simp [fromK, plansTo]
theorem fromK_succ (b : Bf) (l : List Int) (x k : Nat) (h : x + k + 1 ≤ b.hs.length) : fromK b l x (k + 1) = fromK b l x k ++ fromL b (l ++ [((x + k + 1 : Nat) : Int)]) (x + k + 1) := by
  unfold fromK fromL
  rw [plansTo_succ, if_pos h, List.map_append, List.map_map]
  congr 1
  refine List.map_congr_left fun a _ => ?_
  simp
theorem plansTo_rest {gr n x k : Nat} (h : n < x + k + 1) : ∀ j, plansTo gr n x (k + j) = plansTo gr n x k
  | 0 => rfl
  | j + 1 => by
    rw [← Nat.add_assoc, plansTo_succ, if_neg (by omega), List.append_nil]
    exact plansTo_rest h j
theorem fromK_all {b : Bf} {l : List Int} {x k : Nat} (hx : x < b.hs.length) (hk : k = grN b ∨ (k ≤ grN b ∧ b.hs.length < x + k + 1)) : fromK b l x k = fromL b l x := by
  unfold fromK fromL
  congr 1
  rw [← plansTo_all hx]
  rcases hk with rfl | ⟨h1, h2⟩
  · rfl
  · have := plansTo_rest (gr := grN b) (n := b.hs.length) (x := x) (k := k) h2 (grN b - k)
    rw [show k + (grN b - k) = grN b by omega] at this
    exact this.symm
theorem plans_few : ∀ gr, gr < 5 → ∀ n, n < 9 → ∀ x, x < 9 → (plansL gr n x).length ≤ 200 := by decide +kernel
theorem fromL_few {b : Bf} (hok : BfOk b) (l : List Int) {x : Nat} (hx : x ≤ b.hs.length) : (fromL b l x).length ≤ 200 := by
  unfold fromL
  rw [List.length_map]
  have := hok.g2
  have := hok.n8
  exact plans_few _ (by unfold grN; omega) _ (by omega) _ (by omega)
theorem plansTo_pos : ∀ gr, gr < 5 → ∀ n, n < 9 → ∀ x, x < 9 → 1 ≤ gr → x ≤ n → 0 < (plansL gr n x).length := by decide +kernel
theorem fromL_pos {b : Bf} (hok : BfOk b) (l : List Int) {x : Nat} (hx : x ≤ b.hs.length) : 0 < (fromL b l x).length := by
  unfold fromL
  rw [List.length_map]
  have := hok.g1
  have := hok.g2
  have := hok.n8
  exact plansTo_pos _ (by unfold grN; omega) _ (by omega) _ (by omega) (by unfold grN; omega) hx
theorem fromK_few {b : Bf} (hok : BfOk b) (l : List Int) {x k : Nat} (hx : x < b.hs.length) (hk : k ≤ grN b) : (fromK b l x k).length ≤ 200 := by
  have h1 := fromL_few hok l (Nat.le_of_lt hx)
  rw [← fromK_all hx (.inl rfl)] at h1
  obtain ⟨j, hj⟩ : ∃ j, grN b = k + j := ⟨grN b - k, by omega⟩
  have key : ∀ j, (fromK b l x k).length ≤ (fromK b l x (k + j)).length := by
    intro j
    induction j with
    | zero => exact Nat.le_refl _
    | succ j ih =>
      refine Nat.le_trans ih ?_
      unfold fromK
      rw [← Nat.add_assoc, plansTo_succ, List.length_map, List.length_map, List.length_append]
      omega
  have := key j
  rw [← hj] at this
  omega
set_option maxRecDepth 10000 in
set_option maxHeartbeats 1600000 in
theorem refPlans_end (b : Bf) (p : Option Addr) (c : Nat) (l : List Int) (q : Option Addr) (cq : Nat) (w : World) (hB : BfAt w p c b) (hok : BfOk b) (hI : IntsAt w q l) (hq : ∀ a, q = some a → a.block < w.heap.size) (hx : bgn l l.length = (b.hs.length : Int)) (hl : l.length ≤ 900) :
    Calls Try.prog 84 #[.agg (bfA b p c), .slice q l.length cq] w (GaveIRows (fromL b l b.hs.length) (fun z => (∃ a, q = some a ∧ z = a.block) ∨ w.heap.size ≤ z) w) := by
  obtain ⟨W0, hW0⟩ : ∃ W, W = w.alloc (.cells (bfA b p c) 24) := ⟨_, rfl⟩
  have HW0 := Lib.hid hW0
  have HE := Lib.hid (show Below w.heap.size w W0 by rw [hW0]; exact below_alloc _ _)
  have HR := Lib.hid (show Row W0 w.heap.size (bfA b p c) 24 by rw [hW0]; exact Row.new w _ _)
  have g0 := HR.out.cell 0 (v := .int .i64 b.pr) rfl
  have g1 := HR.out.cell 1 (v := .int .i64 b.le) rfl
  have g2 := HR.out.cell 2 (v := .int .i64 b.mo) rfl
  have g3 := HR.out.cell 3 (v := .int .i64 b.gr) rfl
  have g4 := HR.out.cell 4 (v := .slice p b.hs.length c) rfl
  clear hW0
  obtain ⟨z0, hz0⟩ : ∃ z : Later W0, W0 = z.w := ⟨⟨W0, Below.refl _ _⟩, rfl⟩
  have HZ0 := Lib.hid hz0
  clear hz0
  have HI := Lib.hid hI
  have HQA := Lib.hid hq
  have HBG := Lib.hid (fun w' (k : From W0 w') => (by have h := refBegins_any q cq l l.length w' ((hI.below HE.out).below k.b) (Nat.le_refl _) (by omega); rw [hx] at h; exact h : Calls Try.prog 79 #[.slice q l.length cq, .int .i64 (l.length : Int)] w' fun e w'' => e = .returned (.int .i64 (b.hs.length : Int)) ∧ Below w'.heap.size w' w''))
  clear hB hok hI hq hx
  go_enter Try.func84, Try.ntmps84
  go_wp2_with fail
  rw [← HW0.out, HZ0.out]
  refine (HBG.out _ z0.fr).mono ?_
  rintro e u ⟨rfl, hbu⟩
  obtain ⟨z1, hz⟩ := z0.on hbu
  subst hz
  clear hbu
  go_wp2_with fail
  have hq2 := Row.new z1.w #[.slice q l.length cq] 38
  have hE2 := below_alloc z1.w (.cells #[.slice q l.length cq] 38)
  have HE2 := Lib.hid ((z1.base HE.out).trans (hE2.mono (z1.base HE.out).size))
  have HQ2 := Lib.hid hq2
  have hz1 := (z1.base HE.out).size
  clear hq2 hE2
  go_ret
  refine ⟨z1.w.heap.size, 0, 1, [.slice q l.length cq], by rw [fromL_end]; rfl, fun j u hj => ?_, ⟨by rw [fromL_end]; rfl, fun i hi => ?_⟩, HE2.out⟩
  · rw [Nat.zero_add]
    exact HQ2.out.cell j (by simpa using hj)
  · have hi0 : i = 0 := by rw [fromL_end] at hi; simpa using hi
    subst hi0
    refine ⟨q, cq, by simp [fromL_end], by simpa [fromL_end] using HI.out.below HE2.out, fun a ha => ⟨Nat.lt_of_lt_of_le (HQA.out a ha) HE2.out.size, .inl ⟨a, ha, rfl⟩⟩⟩
set_option maxRecDepth 10000 in
set_option maxHeartbeats 3200000 in
theorem refPlans_step (b : Bf) (p : Option Addr) (c : Nat) (hok : BfOk b) (x : Nat) (hxn : x < b.hs.length)
    (ih : ∀ (y : Nat), x < y → y ≤ b.hs.length → ∀ (l : List Int) (g o cl : Nat) (w : World), BfAt w p c b → IntsAt w (some ⟨g, o, none⟩) l → bgn l l.length = (y : Int) → l.length ≤ y → 1 ≤ l.length → Calls Try.prog 84 #[.agg (bfA b p c), .slice (some ⟨g, o, none⟩) l.length cl] w (GaveIRows (fromL b l y) (fun q => q = g ∨ w.heap.size ≤ q) w))
    (l : List Int) (q : Option Addr) (cq : Nat) (w : World) (hB : BfAt w p c b) (hI : IntsAt w q l) (hc : q = none → cq = 0) (hx : bgn l l.length = (x : Int)) (hl : l.length ≤ x) :
    Calls Try.prog 84 #[.agg (bfA b p c), .slice q l.length cq] w (GaveIRows (fromL b l x) (fun z => w.heap.size ≤ z) w) := by
  have hn8 := hok.n8
  have hg1 := hok.g1
  have hg2 := hok.g2
  have HGR := Lib.hid (show ((grN b : Nat) : Int) = b.gr by unfold grN; omega)
  obtain ⟨W0, hW0⟩ : ∃ W, W = w.alloc (.cells (bfA b p c) 24) := ⟨_, rfl⟩
  have HW0 := Lib.hid hW0
  have HE := Lib.hid (show Below w.heap.size w W0 by rw [hW0]; exact below_alloc _ _)
  have HR := Lib.hid (show Row W0 w.heap.size (bfA b p c) 24 by rw [hW0]; exact Row.new w _ _)
  have g0 := HR.out.cell 0 (v := .int .i64 b.pr) rfl
  have g1 := HR.out.cell 1 (v := .int .i64 b.le) rfl
  have g2 := HR.out.cell 2 (v := .int .i64 b.mo) rfl
  have g3 := HR.out.cell 3 (v := .int .i64 b.gr) rfl
  have g4 := HR.out.cell 4 (v := .slice p b.hs.length c) rfl
  clear hW0
  obtain ⟨z0, hz0⟩ : ∃ z : Later W0, W0 = z.w := ⟨⟨W0, Below.refl _ _⟩, rfl⟩
  have HZ0 := Lib.hid hz0
  clear hz0
  have HI := Lib.hid hI
  have HC := Lib.hid hc
  have HB := Lib.hid hB
  have HL := Lib.hid hl
  have HOK := Lib.hid hok
  have HXE := Lib.hid hx
  have hne : ((x : Int) == (b.hs.length : Int)) = false := beq_eq_false_iff_ne.2 (by omega)
  have HLL := Lib.hid (show l.length ≤ 900 by omega)
  have HBG := Lib.hid (fun w' (k : From W0 w') => (by have h := refBegins_any q cq l l.length w' ((hI.below HE.out).below k.b) (Nat.le_refl _) (by omega); rw [hx] at h; exact h : Calls Try.prog 79 #[.slice q l.length cq, .int .i64 (l.length : Int)] w' fun e w'' => e = .returned (.int .i64 (x : Int)) ∧ Below w'.heap.size w' w''))
  have HIH := Lib.hid (fun (y : Nat) (h1 : x < y) (h2 : y ≤ b.hs.length) (g cap : Nat) (u : World) (hb : BfAt u p c b) (hu : IntsAt u (some ⟨g, 0, none⟩) (l ++ [(y : Int)])) => (by
    have h := ih y h1 h2 (l ++ [(y : Int)]) g 0 cap u hb hu (by
      rw [List.length_append, List.length_singleton, bgn_succ, at0_lt (by simp)]
      simp) (by rw [List.length_append, List.length_singleton]; omega) (by rw [List.length_append, List.length_singleton]; omega)
    rwa [List.length_append] at h : Calls Try.prog 84 #[.agg (bfA b p c), .slice (some ⟨g, 0, none⟩) (l.length + 1) cap] u (GaveIRows (fromL b (l ++ [(y : Int)]) y) (fun q => q = g ∨ u.heap.size ≤ q) u)))
  have HWZ := Lib.hid (show w.heap.size < W0.heap.size from HR.out.lt)
  clear hB hI hc ih hx hok
  go_enter Try.func84, Try.ntmps84
  go_wp2_with fail
  rw [← HW0.out, HZ0.out]
  refine (HBG.out _ z0.fr).mono ?_
  rintro e u ⟨rfl, hbu⟩
  obtain ⟨z1, hz⟩ := z0.on hbu
  subst hz
  clear hbu
  have e1 : IntKind.i64.wrap ((x : Int) + 1) = (x : Int) + 1 := IntWalk.i64_in _ (by omega)
  go_wp2_with fail
  have SI := Lib.hid (show SInv (bfA b p c) 24 w.heap.size (.slice none 0 0) [] (fromK b l x 0) w z1.w from ⟨z1.fr.row HR.out, World.ownsRow_nil _ _ _ _, by rw [fromK_zero]; exact IRows.nil _ _, z1.base HE.out⟩)
  clear e1
  go_loopw [6, 7] (fun v t wr => ∃ (k : Nat) (vals : List Value), k ≤ grN b ∧ x + k ≤ b.hs.length ∧ t = .int .i64 ((x : Int) + 1 + (k : Int)) ∧ SInv (bfA b p c) 24 w.heap.size v vals (fromK b l x k) w wr) (fun _ t _ => b.hs.length + 1 - (intOf t).toNat)
  case atStart => exact ⟨0, [], by omega, by omega, by simp, SI.out⟩
  case round =>
    clear SI g0 g1 g2 g3 g4
    obtain ⟨k, vals, hk, hxk, rfl, si⟩ := hrel
    have hgz := HGR.out
    by_cases hlt : x + k + 1 ≤ b.hs.length ∧ k < grN b
    · obtain ⟨hlt1, hlt2⟩ := hlt
      have hvl : vals.length ≤ 200 := by
        rw [si.ri.1]
        exact fromK_few HOK.out l hxn hk
      have hfar : ∀ q, wr.heap.size ≤ q → w.heap.size + 1 ≤ q ∧ u6.ownBlock ≠ some q := fun q hq => ⟨by have := si.rl.lt; omega, fun e => by have := (si.ow.lt q e).2; omega⟩
      have HFAR := Lib.hid hfar
      have HK1 := Lib.hid (fromK_succ b l x k hlt1)
      have HTO := Lib.hid (show ((x + k + 1 : Nat) : Int) = (x : Int) + 1 + (k : Int) by omega)
      have HIY := Lib.hid (HIH.out (x + k + 1) (by omega) hlt1)
      have HFW := Lib.hid (fromL_few HOK.out (l ++ [((x + k + 1 : Nat) : Int)]) hlt1)
      have HRC := Lib.hid (fun u v vs xss (h : SInv (bfA b p c) 24 w.heap.size v vs xss w u) => (⟨h.rl.cell 0 rfl, h.rl.cell 1 rfl, h.rl.cell 2 rfl, h.rl.cell 3 rfl, h.rl.cell 4 rfl⟩ : u.cell? ⟨w.heap.size, 0, none⟩ = some (.int .i64 b.pr) ∧ u.cell? ⟨w.heap.size, 1, none⟩ = some (.int .i64 b.le) ∧ u.cell? ⟨w.heap.size, 2, none⟩ = some (.int .i64 b.mo) ∧ u.cell? ⟨w.heap.size, 3, none⟩ = some (.int .i64 b.gr) ∧ u.cell? ⟨w.heap.size, 4, none⟩ = some (.slice p b.hs.length c)))
      have HSZ := Lib.hid (show w.heap.size ≤ wr.heap.size from Nat.le_of_lt si.rl.lt)
      have SI := Lib.hid si
      rw [HTO.out] at HK1 HIY HFW
      obtain ⟨tt, hto⟩ : ∃ n, (x : Int) + 1 + (k : Int) = n := ⟨_, rfl⟩
      rw [hto] at HK1 HIY HFW HTO ⊢
      have j1 : tt ≤ (b.hs.length : Int) := by omega
      have j2 : tt - (x : Int) ≤ b.gr := by omega
      have e1 : IntKind.i64.wrap (tt - (x : Int)) = tt - (x : Int) := IntWalk.i64_in _ (by omega)
      have e2 : IntKind.i64.wrap (tt + 1) = tt + 1 := IntWalk.i64_in _ (by omega)
      have gz3 := si.rl.cell 3 (v := .int .i64 b.gr) rfl
      have gz4 := si.rl.cell 4 (v := .slice p b.hs.length c) rfl
      clear si hfar
      go_upto_region 8 with (fail)
      clear gz3 gz4
      go_region_held3 (fun w' => w'.cell? ⟨w.heap.size, 0, none⟩ = some (.int .i64 b.pr) ∧ w'.cell? ⟨w.heap.size, 1, none⟩ = some (.int .i64 b.le) ∧ w'.cell? ⟨w.heap.size, 2, none⟩ = some (.int .i64 b.mo) ∧ w'.cell? ⟨w.heap.size, 3, none⟩ = some (.int .i64 b.gr) ∧ w'.cell? ⟨w.heap.size, 4, none⟩ = some (.slice p b.hs.length c)) (first | with_reducible exact HRC.out _ _ _ _ SI.out | with_reducible exact HRC.out _ _ _ _ SI.out.drew)
        (first
          | (go_at_call 102; refine (Plus_any l q cq tt _ (HI.out.below SI.out.drew.hb) HLL.out HC.out).mono ?_; rintro e u ⟨g, cap, rfl, hpl, hg, hgz2, hbu⟩; have HPLU := Lib.hid hpl; have HG := Lib.hid (show wr.heap.size ≤ g from hg); have HUZ := Lib.hid (show wr.heap.size ≤ u.heap.size from hbu.size); have SI := Lib.hid (SI.out.drew.below hbu); clear hpl hg hgz2 hbu)
          | (go_at_call 84; refine (HIY.out _ _ _ (HB.out.below SI.out.hb) HPLU.out).mono ?_; rintro e u2 ⟨b3, o3, c3, vals3, rfl, hc3, hr3, hbu⟩; have SI := Lib.hid (SI.out.below hbu); have HC3 := Lib.hid hc3; have HR3 := Lib.hid (hr3.imp fun q _ hq => HFAR.out q (by have h1 := HG.out; have h2 := HUZ.out; rcases hq with h | h <;> omega)); clear hc3 hr3 hbu)
          | (refine step_append_ex rfl _ _ _ rfl u6 _ rfl rfl _ (append_irows_ex u2 (w.heap.size + 1) (by have := SI.out.rl.lt; omega) u6 vals SI.out.ow b3 o3 c3 vals3 _ _ HC3.out HR3.out (by have := HFW.out; omega) 49) ?_; rintro v2 w9 ⟨ho9, hg9, hv9⟩; have SI := Lib.hid (SI.out.more ho9 hg9 hv9 HR3.out); clear ho9 hg9 hv9))
      all_goals
        go_wp2_with fail
        go_roundw
        case rel => exact ⟨k + 1, vals ++ vals3, by omega, by omega, by rw [← hto]; congr 1, by rw [HK1.out]; exact SI.out⟩
        case measure => simp [intOf]; omega
    · have HALL := Lib.hid (fromK_all (b := b) (l := l) (x := x) (k := k) hxn (by omega))
      have gz3 := si.rl.cell 3 (v := .int .i64 b.gr) rfl
      have gz4 := si.rl.cell 4 (v := .slice p b.hs.length c) rfl
      rw [HALL.out] at si
      have SI := Lib.hid si
      have HPOS := Lib.hid (fromL_pos HOK.out l (Nat.le_of_lt hxn))
      clear si
      have e1 : IntKind.i64.wrap ((x : Int) + 1 + (k : Int) - (x : Int)) = 1 + (k : Int) := by rw [IntWalk.i64_in _ (by omega)]; omega
      by_cases hle : x + k + 1 ≤ b.hs.length
      · have j1 : (x : Int) + 1 + (k : Int) ≤ (b.hs.length : Int) := by omega
        have j2 : ¬ 1 + (k : Int) ≤ b.gr := by omega
        have j3 : b.gr < 1 + (k : Int) := by omega
        go_wp2_with fail
        go_ret
        have si := SI.out
        have hl := si.ri.1
        have hp := HPOS.out
        rcases si.ow.2 with ⟨_, h0⟩ | ⟨g, cap, cur, hv, _, hh, _, _, _, h4⟩
        · omega
        · refine ⟨g, 0, cap, vals, by rw [← hl]; exact congrArg Ending.returned hv, fun j u hj => ?_, si.ri.imp fun q _ hq => (by have := hq.1; omega), si.hb⟩
          rw [cell_of_row wr g (0 + j) cur _ (0, 0) hh, Nat.zero_add]
          have hjl := (List.getElem?_eq_some_iff.1 hj).1
          rw [← h4, List.getElem?_take_of_lt (by omega)] at hj
          simpa using hj
      · have j1 : ¬ (x : Int) + 1 + (k : Int) ≤ (b.hs.length : Int) := by omega
        have j2 : (b.hs.length : Int) < (x : Int) + 1 + (k : Int) := by omega
        go_wp2_with fail
        go_ret
        have si := SI.out
        have hl := si.ri.1
        have hp := HPOS.out
        rcases si.ow.2 with ⟨_, h0⟩ | ⟨g, cap, cur, hv, _, hh, _, _, _, h4⟩
        · omega
        · refine ⟨g, 0, cap, vals, by rw [← hl]; exact congrArg Ending.returned hv, fun j u hj => ?_, si.ri.imp fun q _ hq => (by have := hq.1; omega), si.hb⟩
          rw [cell_of_row wr g (0 + j) cur _ (0, 0) hh, Nat.zero_add]
          have hjl := (List.getElem?_eq_some_iff.1 hj).1
          rw [← h4, List.getElem?_take_of_lt (by omega)] at hj
          simpa using hj
theorem refPlans_any (b : Bf) (p : Option Addr) (c : Nat) (hok : BfOk b) : ∀ (f : Nat) (x : Nat), b.hs.length - x ≤ f → x ≤ b.hs.length → ∀ (l : List Int) (g o cl : Nat) (w : World), BfAt w p c b → IntsAt w (some ⟨g, o, none⟩) l → bgn l l.length = (x : Int) → l.length ≤ x → 1 ≤ l.length →
    Calls Try.prog 84 #[.agg (bfA b p c), .slice (some ⟨g, o, none⟩) l.length cl] w (GaveIRows (fromL b l x) (fun q => q = g ∨ w.heap.size ≤ q) w) := by
  intro f
  induction f with
  | zero =>
    intro x hf hx l g o cl w hB hI hbg hl h1
    obtain rfl : x = b.hs.length := by omega
    have := hok.n8
    refine (refPlans_end b p c l _ cl w hB hok hI (fun a ha => ?_) hbg (by omega)).mono fun _ _ ⟨b', o', c', vals, he, hv, hr, hb⟩ => ⟨b', o', c', vals, he, hv, hr.imp fun z _ hq => ?_, hb⟩
    · cases ha
      obtain ⟨_, _, e, h⟩ := hI 0 (by omega)
      cases e
      exact cell_block h
    · rcases hq with ⟨a, ha, rfl⟩ | hq
      · cases ha; exact .inl rfl
      · exact .inr hq
  | succ f ih =>
    intro x hf hx l g o cl w hB hI hbg hl h1
    by_cases e : x = b.hs.length
    · subst e
      have := hok.n8
      refine (refPlans_end b p c l _ cl w hB hok hI (fun a ha => ?_) hbg (by omega)).mono fun _ _ ⟨b', o', c', vals, he, hv, hr, hb⟩ => ⟨b', o', c', vals, he, hv, hr.imp fun z _ hq => ?_, hb⟩
      · cases ha
        obtain ⟨_, _, e, h⟩ := hI 0 (by omega)
        cases e
        exact cell_block h
      · rcases hq with ⟨a, ha, rfl⟩ | hq
        · cases ha; exact .inl rfl
        · exact .inr hq
    · exact (refPlans_step b p c hok x (by omega) (fun y h1 h2 l g o cl w hB hI hb hl h1' => ih y (by omega) h2 l g o cl w hB hI hb hl h1') l _ cl w hB hI (fun e => by cases e) hbg hl).mono fun _ _ ⟨b', o', c', vals, he, hv, hr, hb⟩ => ⟨b', o', c', vals, he, hv, hr.imp fun _ _ hq => .inr hq, hb⟩
/-- All plans of a book. -/
theorem refPlans_nil (b : Bf) (p : Option Addr) (c : Nat) (w : World) (hB : BfAt w p c b) (hok : BfOk b) :
    Calls Try.prog 84 #[.agg (bfA b p c), .slice none 0 0] w (GaveIRows (plansB b) (fun _ => True) w) := by
  have e0 : fromL b [] 0 = plansB b := by unfold fromL plansB; simp
  by_cases e : b.hs.length = 0
  · have h := refPlans_end b p c [] none 0 w hB hok (fun i hi => by simp at hi) (fun a ha => by cases ha) (by rw [e]; rfl) (by simp)
    rw [e, e0] at h
    exact h.mono fun _ _ ⟨b', o', c', vals, he, hv, hr, hb⟩ => ⟨b', o', c', vals, he, hv, hr.imp fun _ _ _ => trivial, hb⟩
  · have h := refPlans_step b p c hok 0 (by omega) (fun y _ h2 l g o cl w hB hI hb hl h1 => refPlans_any b p c hok _ y (Nat.le_refl _) h2 l g o cl w hB hI hb hl h1) [] none 0 w hB (fun i hi => by simp at hi) (fun _ => rfl) rfl (by simp)
    rw [e0] at h
    exact h.mono fun _ _ ⟨b', o', c', vals, he, hv, hr, hb⟩ => ⟨b', o', c', vals, he, hv, hr.imp fun _ _ _ => trivial, hb⟩
end Go.Proofs.Ytgdidhbomdfcpaa
/- The walks of the specification of layer 5: best, Best, Boxes. -/
namespace Go.Proofs.Ytgdidhbomdfcpaa
open Go.RowKit Go.Maps
attribute [local go_sem] Oper.semAt_some

/-- The rows lie in memory. -/
def RowsAt5 (w : World) (b o : Nat) (ls : List (List Int)) : Prop := ∀ i, i < ls.length → ∃ (p : Option Addr) (c : Nat), w.cell? ⟨b, o + i, none⟩ = some (.slice p (ls.getD i []).length c) ∧ IntsAt w p (ls.getD i [])
theorem rows_at {w : World} {b o : Nat} {ls : List (List Int)} {vals : List Value} {P : Nat → Prop} (hv : ∀ j u, vals[j]? = some u → w.cell? ⟨b, o + j, none⟩ = some u) (h : IRows w vals ls P) : RowsAt5 w b o ls := fun i hi => by
  obtain ⟨p, c, h1, h2, _⟩ := h.2 i hi
  have e : ls.getD i [] = ls[i] := by simp [List.getD, hi]
  rw [e]
  exact ⟨p, c, hv i _ h1, h2⟩
theorem plan_of {b : Bf} (hok : BfOk b) {i : Nat} (hi : i < (plansB b).length) : planB b ((plansB b).getD i []) = true := by
  have e : (plansB b).getD i [] = (plansB b)[i] := by simp [List.getD, hi]
  rw [e]
  exact (plansB_iff hok.g1 _).1 (List.getElem_mem hi)
theorem getD_any {ls : List (List Int)} {m : List Int} {rk : List Int → Int} {k : Nat} (hk : k ≤ ls.length) (h : bestO rk (ls.take k) = some m) : ∃ i, i < ls.length ∧ ls.getD i [] = m := by
  obtain ⟨i, hi, rfl⟩ := List.mem_iff_getElem.1 (bestO_mem rk ls k hk m h)
  exact ⟨i, hi, by simp [List.getD, hi]⟩
set_option maxRecDepth 10000 in
set_option maxHeartbeats 3200000 in
theorem refBestOf_any (b : Bf) (p : Option Addr) (c : Nat) (w : World) (hB : BfAt w p c b) (hok : BfOk b) :
    Calls Try.prog 82 #[.agg (bfA b p c)] w fun e w' => ∃ q cq, e = .returned (.slice q (bestQ b).length cq) ∧ IntsAt w' q (bestQ b) ∧ Below w.heap.size w w' := by
  obtain ⟨W0, hW0⟩ : ∃ W, W = w.alloc (.cells (bfA b p c) 24) := ⟨_, rfl⟩
  have HW0 := Lib.hid hW0
  have HE := Lib.hid (show Below w.heap.size w W0 by rw [hW0]; exact below_alloc _ _)
  have HR := Lib.hid (show Row W0 w.heap.size (bfA b p c) 24 by rw [hW0]; exact Row.new w _ _)
  have g0 := HR.out.cell 0 (v := .int .i64 b.pr) rfl
  have g1 := HR.out.cell 1 (v := .int .i64 b.le) rfl
  have g2 := HR.out.cell 2 (v := .int .i64 b.mo) rfl
  have g3 := HR.out.cell 3 (v := .int .i64 b.gr) rfl
  have g4 := HR.out.cell 4 (v := .slice p b.hs.length c) rfl
  clear hW0
  obtain ⟨z0, hz0⟩ : ∃ z : Later W0, W0 = z.w := ⟨⟨W0, Below.refl _ _⟩, rfl⟩
  have HZ0 := Lib.hid hz0
  clear hz0
  have hn8 := hok.n8
  have HB := Lib.hid (hB.below HE.out)
  have HPN := Lib.hid (fun w' (k : From W0 w') => refPlans_nil b p c w' ((hB.below HE.out).below k.b) hok)
  have HBH := Lib.hid (fun (l : List Int) (hp : planB b l = true) (q : Option Addr) (cq : Nat) w' (k : From W0 w') (hi : IntsAt w' q l) => refByHandOf_any b p c q cq l w' ((hB.below HE.out).below k.b) hok hp hi)
  have HOK := Lib.hid hok
  have HPO := Lib.hid (fun i (hi : i < (plansB b).length) => plan_of hok hi)
  have HPOS := Lib.hid (plansB_pos hok.g1)
  have hfew : (plansB b).length ≤ 200 := by
    have h := fromL_few hok [] (x := 0) (Nat.zero_le _)
    rwa [show fromL b [] 0 = plansB b by unfold fromL plansB; simp] at h
  clear hB hok
  go_enter Try.func82, Try.ntmps82
  go_wp2_with fail
  rw [← HW0.out, HZ0.out]
  refine (HPN.out _ z0.fr).mono ?_
  rintro e u ⟨rb, ro, rc, vals, rfl, hv, hr, hbu⟩
  have HRO := Lib.hid (rows_at hv hr)
  obtain ⟨W1, hW1⟩ : ∃ v, u = v := ⟨_, rfl⟩
  have K1 := Lib.hid (show From W0 W1 by rw [← hW1]; exact (⟨z0.b.trans (hbu.mono z0.b.size)⟩ : From W0 u))
  rw [hW1] at HRO ⊢
  have e1 := K1.out.cell g0
  have e2 := K1.out.cell g1
  have e3 := K1.out.cell g2
  have e4 := K1.out.cell g3
  have e5 := K1.out.cell g4
  clear hv hr hbu hW1 g0 g1 g2 g3 g4 HPN
  obtain ⟨N, hN⟩ : ∃ n, (plansB b).length = n := ⟨_, rfl⟩
  have hNp : 0 < N := by rw [← hN]; exact HPOS.out
  have HNE := Lib.hid hN
  rw [hN] at HPO hfew ⊢
  have HRO := Lib.hid (show ∀ i, i < N → ∃ (p : Option Addr) (c : Nat), W1.cell? ⟨rb, ro + i, none⟩ = some (.slice p ((plansB b).getD i []).length c) ∧ IntsAt W1 p ((plansB b).getD i []) from fun i hi => HRO.out i (by rw [hN]; exact hi))
  clear hN HPOS
  obtain ⟨y0, hy0⟩ : ∃ z : Later W1, W1 = z.w := ⟨⟨W1, Below.refl _ _⟩, rfl⟩
  obtain ⟨p0, c0, hc0, hi0⟩ := HRO.out 0 hNp
  rw [Nat.add_zero] at hc0
  have HI0 := Lib.hid hi0
  clear hi0
  rw [hy0]
  clear hy0
  have i1 : (0 : Int) < (N : Int) := by omega
  go_wp2_with fail
  have HB1 := Lib.hid (show bestO (rankQ b) ((plansB b).take 1) = some ((plansB b).getD 0 []) by
    rw [bestO_succ (rankQ b) (plansB b) (k := 0) (by rw [HNE.out]; exact hNp)]
    simp [bestO, pick])
  clear hc0
  go_loopw [4, 5] (fun v i wr => ∃ (k : Nat) (m : List Int) (pm : Option Addr) (cm : Nat) (x : Later W1), 1 ≤ k ∧ k ≤ N ∧ Hid (bestO (rankQ b) ((plansB b).take k) = some m) ∧ Hid (IntsAt W1 pm m) ∧ v = .slice pm m.length cm ∧ i = .int .i64 (k : Int) ∧ wr = x.w) (fun _ i _ => N - (intOf i).toNat)
  case atStart => exact ⟨1, _, p0, c0, y0, Nat.le_refl _, by omega, HB1.out |> Lib.hid, Lib.hid HI0.out, rfl, rfl, rfl⟩
  case round =>
    obtain ⟨k, m, pm, cm, x, hk1, hkN, HBM, HIM, rfl, rfl, rfl⟩ := hrel
    by_cases hlt : k < N
    · obtain ⟨pl, cl, hcl, hil⟩ := HRO.out k hlt
      have hpl := HPO.out k hlt
      have hpm : planB b m = true := by
        obtain ⟨i, hi, rfl⟩ := getD_any (by rw [HNE.out]; exact hkN) HBM.out
        exact HPO.out i (by rw [← HNE.out]; exact hi)
      have HSU := Lib.hid (bestO_succ (rankQ b) (plansB b) (k := k) (by rw [HNE.out]; exact hlt))
      obtain ⟨l, hl⟩ : ∃ l, (plansB b).getD k [] = l := ⟨_, rfl⟩
      rw [hl] at hcl hil hpl HSU
      rw [HBM.out] at HSU
      clear hl
      have HIL := Lib.hid hil
      have hll := plan_len hpl
      have hlm := plan_len hpm
      have hc1 := count_to b l l.length
      have hc2 := count_to b m m.length
      have HA1 := Lib.hid (fun w' (kk : From W1 w') => HBH.out l hpl pl cl w' (K1.out.trans kk) (HIL.out.below kk.b))
      have HA2 := Lib.hid (fun w' (kk : From W1 w') => HBH.out m hpm pm cm w' (K1.out.trans kk) (HIM.out.below kk.b))
      have HRL := Lib.hid (show rankQ b l = 100 * ((handL b l).length : Int) - (l.length : Int) from rfl)
      have HRM := Lib.hid (show rankQ b m = 100 * ((handL b m).length : Int) - (m.length : Int) from rfl)
      have hh1 : (handL b l).length ≤ 8 := by unfold handL; omega
      have hh2 : (handL b m).length ≤ 8 := by unfold handL; omega
      obtain ⟨hl', hhl⟩ : ∃ n, (handL b l).length = n := ⟨_, rfl⟩
      obtain ⟨hm', hhm⟩ : ∃ n, (handL b m).length = n := ⟨_, rfl⟩
      rw [hhl] at HA1 HRL hh1
      rw [hhm] at HA2 HRM hh2
      obtain ⟨lenL, hlenL⟩ : ∃ n, l.length = n := ⟨_, rfl⟩
      obtain ⟨lenM, hlenM⟩ : ∃ n, m.length = n := ⟨_, rfl⟩
      have HLL := Lib.hid hlenL
      have HLM := Lib.hid hlenM
      rw [hlenL] at hcl HA1 HRL hll
      rw [hlenM] at HA2 HRM hlm ⊢
      clear hhl hhm hlenL hlenM hil hpl hpm hc1 hc2
      have i2 : (0 : Int) ≤ (k : Int) := by omega
      have i3 : (k : Int) < (N : Int) := by omega
      have KI := Lib.hid (From.refl x.w)
      have HSK := Lib.hid (fun w' (kk : From x.w w') => (⟨kk.cell (x.fr.cell e1), kk.cell (x.fr.cell e2), kk.cell (x.fr.cell e3), kk.cell (x.fr.cell e4), kk.cell (x.fr.cell e5), kk.cell (x.fr.cell hcl)⟩ : w'.cell? ⟨w.heap.size, 0, none⟩ = some (.int .i64 b.pr) ∧ w'.cell? ⟨w.heap.size, 1, none⟩ = some (.int .i64 b.le) ∧ w'.cell? ⟨w.heap.size, 2, none⟩ = some (.int .i64 b.mo) ∧ w'.cell? ⟨w.heap.size, 3, none⟩ = some (.int .i64 b.gr) ∧ w'.cell? ⟨w.heap.size, 4, none⟩ = some (.slice p b.hs.length c) ∧ w'.cell? ⟨rb, ro + k, none⟩ = some (.slice pl (lenL : Nat) cl)))
      go_upto_region 6 with (fail)
      go_region_held3 (fun w' => w'.cell? ⟨w.heap.size, 0, none⟩ = some (.int .i64 b.pr) ∧ w'.cell? ⟨w.heap.size, 1, none⟩ = some (.int .i64 b.le) ∧ w'.cell? ⟨w.heap.size, 2, none⟩ = some (.int .i64 b.mo) ∧ w'.cell? ⟨w.heap.size, 3, none⟩ = some (.int .i64 b.gr) ∧ w'.cell? ⟨w.heap.size, 4, none⟩ = some (.slice p b.hs.length c) ∧ w'.cell? ⟨rb, ro + k, none⟩ = some (.slice pl (lenL : Nat) cl))
        (first | with_reducible exact HSK.out _ KI.out | with_reducible exact HSK.out _ KI.out.drew)
        (first
          | (go_at_call 77; (with_reducible refine (HA1.out _ (by first | with_reducible exact x.fr.trans KI.out.drew | with_reducible exact x.fr.trans KI.out)).mono ?_); rintro e u ⟨ph1, ch1, rfl, _, hbu⟩; have KI := Lib.hid (by first | with_reducible exact KI.out.drew.below hbu | with_reducible exact KI.out.below hbu); clear hbu)
          | (go_at_call 77; (with_reducible refine (HA2.out _ (by first | with_reducible exact x.fr.trans KI.out.drew | with_reducible exact x.fr.trans KI.out)).mono ?_); rintro e u ⟨ph2, ch2, rfl, _, hbu⟩; have KI := Lib.hid (by first | with_reducible exact KI.out.drew.below hbu | with_reducible exact KI.out.below hbu); clear hbu))
      all_goals
        obtain ⟨x2, hx2⟩ := x.up ⟨_, KI.out.b⟩
        dsimp only at hx2
        rw [hx2]
        clear hx2
        by_cases q1 : hl' < hm'
        · have q1' : (hl' : Int) < (hm' : Int) := by omega
          go_wp2_with fail
          go_roundw
          case rel => exact ⟨k + 1, l, pl, cl, x2, by omega, by omega, Lib.hid (by rw [HSU.out]; simp only [pick]; rw [if_pos (by rw [HRL.out, HRM.out]; omega)]), Lib.hid HIL.out, by rw [HLL.out], by go_num, rfl⟩
          case measure => simp [intOf]; omega
        · have q1' : ¬ (hl' : Int) < (hm' : Int) := by omega
          by_cases q2 : hl' = hm'
          · subst q2
            by_cases q3 : lenM < lenL
            · have q3' : (lenM : Int) < (lenL : Int) := by omega
              go_wp2_with fail
              go_roundw
              case rel => exact ⟨k + 1, l, pl, cl, x2, by omega, by omega, Lib.hid (by rw [HSU.out]; simp only [pick]; rw [if_pos (by rw [HRL.out, HRM.out]; omega)]), Lib.hid HIL.out, by rw [HLL.out], by go_num, rfl⟩
              case measure => simp [intOf]; omega
            · have q3' : ¬ (lenM : Int) < (lenL : Int) := by omega
              go_wp2_with fail
              go_roundw
              case rel => exact ⟨k + 1, m, pm, cm, x2, by omega, by omega, Lib.hid (by rw [HSU.out]; simp only [pick]; rw [if_neg (by rw [HRL.out, HRM.out]; omega)]), Lib.hid HIM.out, by rw [HLM.out], by go_num, rfl⟩
              case measure => simp [intOf]; omega
          · have q2' : ((hl' : Int) == (hm' : Int)) = false := beq_eq_false_iff_ne.2 (by omega)
            go_wp2_with fail
            go_roundw
            case rel => exact ⟨k + 1, m, pm, cm, x2, by omega, by omega, Lib.hid (by rw [HSU.out]; simp only [pick]; rw [if_neg (by rw [HRL.out, HRM.out]; omega)]), Lib.hid HIM.out, by rw [HLM.out], by go_num, rfl⟩
            case measure => simp [intOf]; omega
    · obtain rfl : k = N := by omega
      have HFIN := Lib.hid (show bestQ b = m from bestL_of (by have h := HBM.out; rw [← HNE.out, List.take_length] at h; exact h))
      go_wp2_with fail
      go_ret
      exact ⟨pm, cm, by rw [HFIN.out]; rfl, by rw [HFIN.out]; exact HIM.out.below x.b, HE.out.trans ((K1.out.trans x.fr).b.mono HE.out.size)⟩
set_option maxRecDepth 10000 in
set_option maxHeartbeats 1600000 in
theorem refBest_bad (b : Bf) (p : Option Addr) (c : Nat) (w : World) (hB : BfAt w p c b) (hb : bookB b = false) :
    Calls Try.prog 32 #[.agg (bfA b p c)] w fun e w' => e = .returned (.tuple #[.slice none 0 0, .int .i64 50]) ∧ Below w.heap.size w w' := by
  obtain ⟨W0, hW0⟩ : ∃ W, W = w.alloc (.cells (bfA b p c) 24) := ⟨_, rfl⟩
  have HW0 := Lib.hid hW0
  have HE := Lib.hid (show Below w.heap.size w W0 by rw [hW0]; exact below_alloc _ _)
  have HR := Lib.hid (show Row W0 w.heap.size (bfA b p c) 24 by rw [hW0]; exact Row.new w _ _)
  have g0 := HR.out.cell 0 (v := .int .i64 b.pr) rfl
  have g1 := HR.out.cell 1 (v := .int .i64 b.le) rfl
  have g2 := HR.out.cell 2 (v := .int .i64 b.mo) rfl
  have g3 := HR.out.cell 3 (v := .int .i64 b.gr) rfl
  have g4 := HR.out.cell 4 (v := .slice p b.hs.length c) rfl
  clear hW0
  obtain ⟨z0, hz0⟩ : ∃ z : Later W0, W0 = z.w := ⟨⟨W0, Below.refl _ _⟩, rfl⟩
  have HZ0 := Lib.hid hz0
  clear hz0
  have HC := Lib.hid (fun w' (k : From W0 w') => (by have h := refCheck_any b p c w' ((hB.below HE.out).below k.b); rw [bookE_bad hb] at h; exact h : Calls Try.prog 18 #[.agg (bfA b p c)] w' fun e w'' => e = .returned (.int .i64 50) ∧ Below w'.heap.size w' w''))
  clear hB hb
  go_enter Try.func32, Try.ntmps32
  go_wp2_with fail
  rw [← HW0.out, HZ0.out]
  refine (HC.out _ z0.fr).mono ?_
  rintro e u ⟨rfl, hbu⟩
  obtain ⟨z1, hz⟩ := z0.on hbu
  subst hz
  clear hbu
  go_wp2_with fail
  go_ret2
  exact ⟨rfl, z1.base HE.out⟩
set_option maxRecDepth 10000 in
set_option maxHeartbeats 1600000 in
theorem refBest_yes (b : Bf) (p : Option Addr) (c : Nat) (w : World) (hB : BfAt w p c b) (hb : bookB b = true) :
    Calls Try.prog 32 #[.agg (bfA b p c)] w fun e w' => ∃ q cq, e = .returned (.tuple #[.slice q (bestQ b).length cq, .int .i64 0]) ∧ IntsAt w' q (bestQ b) ∧ Below w.heap.size w w' := by
  obtain ⟨W0, hW0⟩ : ∃ W, W = w.alloc (.cells (bfA b p c) 24) := ⟨_, rfl⟩
  have HW0 := Lib.hid hW0
  have HE := Lib.hid (show Below w.heap.size w W0 by rw [hW0]; exact below_alloc _ _)
  have HR := Lib.hid (show Row W0 w.heap.size (bfA b p c) 24 by rw [hW0]; exact Row.new w _ _)
  have g0 := HR.out.cell 0 (v := .int .i64 b.pr) rfl
  have g1 := HR.out.cell 1 (v := .int .i64 b.le) rfl
  have g2 := HR.out.cell 2 (v := .int .i64 b.mo) rfl
  have g3 := HR.out.cell 3 (v := .int .i64 b.gr) rfl
  have g4 := HR.out.cell 4 (v := .slice p b.hs.length c) rfl
  clear hW0
  obtain ⟨z0, hz0⟩ : ∃ z : Later W0, W0 = z.w := ⟨⟨W0, Below.refl _ _⟩, rfl⟩
  have HZ0 := Lib.hid hz0
  clear hz0
  have HC := Lib.hid (fun w' (k : From W0 w') => (by have h := refCheck_any b p c w' ((hB.below HE.out).below k.b); rw [bookE_ok hb] at h; exact h : Calls Try.prog 18 #[.agg (bfA b p c)] w' fun e w'' => e = .returned (.int .i64 0) ∧ Below w'.heap.size w' w''))
  have HBE := Lib.hid (fun w' (k : From W0 w') => refBestOf_any b p c w' ((hB.below HE.out).below k.b) (bookB_iff.1 hb))
  clear hB hb
  go_enter Try.func32, Try.ntmps32
  go_wp2_with fail
  rw [← HW0.out, HZ0.out]
  refine (HC.out _ z0.fr).mono ?_
  rintro e u ⟨rfl, hbu⟩
  obtain ⟨z1, hz⟩ := z0.on hbu
  subst hz
  clear hbu
  go_wp2_with fail
  refine (HBE.out _ z1.fr).mono ?_
  rintro e u ⟨q, cq, rfl, hi, hbu⟩
  have HH := Lib.hid hi
  obtain ⟨z2, hz⟩ := z1.on hbu
  subst hz
  clear hbu hi
  go_wp2_with fail
  go_ret2
  exact ⟨q, cq, rfl, HH.out, z2.base HE.out⟩
end Go.Proofs.Ytgdidhbomdfcpaa
/- The walks of the specification of layer 5: Boxes, Counted, Ask. -/
namespace Go.Proofs.Ytgdidhbomdfcpaa
open Go.RowKit Go.Maps
attribute [local go_sem] Oper.semAt_some

/-- The most right boxes of the first plans. -/
def moreTo (b : Bf) (ls : List (List Int)) : Nat → Int
  | 0 => 0
  | k + 1 => max (moreTo b ls k) ((rightL b (ls.getD k [])).length : Int)
theorem moreTo_le (b : Bf) (ls : List (List Int)) (m : Int) (h0 : 0 ≤ m) : ∀ k, (∀ i, i < k → ((rightL b (ls.getD i [])).length : Int) ≤ m) → moreTo b ls k ≤ m
  | 0, _ => h0
  | k + 1, h => by
    have h1 := moreTo_le b ls m h0 k fun i hi => h i (by omega)
    have h2 := h k (by omega)
    rw [moreTo]
    omega
theorem moreTo_ge (b : Bf) (ls : List (List Int)) : ∀ k i, i < k → ((rightL b (ls.getD i [])).length : Int) ≤ moreTo b ls k
  | 0, i, h => by omega
  | k + 1, i, h => by
    rw [moreTo]
    by_cases e : i = k
    · subst e; omega
    · have := moreTo_ge b ls k i (by omega)
      omega
theorem moreTo_nonneg (b : Bf) (ls : List (List Int)) : ∀ k, 0 ≤ moreTo b ls k
  | 0 => Int.le_refl _
  | k + 1 => by have := moreTo_nonneg b ls k; rw [moreTo]; omega
theorem moreTo_all {b : Bf} (hok : BfOk b) : moreTo b (plansB b) (plansB b).length = ((rightL b (bestR b)).length : Int) := by
  obtain ⟨j, hj, e, h1, _⟩ := bestO_least (rankR b) (plansB b) (plansB b).length (Nat.le_refl _) (plansB_pos hok.g1)
  rw [List.take_length] at e
  have hb : bestR b = (plansB b).getD j [] := bestL_of e
  rw [hb]
  have h2 := moreTo_ge b (plansB b) (plansB b).length j hj
  have h3 := moreTo_le b (plansB b) ((rightL b ((plansB b).getD j [])).length : Int) (by omega) (plansB b).length fun i hi => by
    have := h1 i hi
    unfold rankR at this
    omega
  omega
set_option maxRecDepth 10000 in
set_option maxHeartbeats 1600000 in
theorem refBoxes_bad (b : Bf) (p : Option Addr) (c : Nat) (w : World) (hB : BfAt w p c b) (hb : bookB b = false) :
    Calls Try.prog 34 #[.agg (bfA b p c)] w fun e w' => e = .returned (.tuple #[.int .i64 0, .int .i64 50]) ∧ Below w.heap.size w w' := by
  obtain ⟨W0, hW0⟩ : ∃ W, W = w.alloc (.cells (bfA b p c) 24) := ⟨_, rfl⟩
  have HW0 := Lib.hid hW0
  have HE := Lib.hid (show Below w.heap.size w W0 by rw [hW0]; exact below_alloc _ _)
  have HR := Lib.hid (show Row W0 w.heap.size (bfA b p c) 24 by rw [hW0]; exact Row.new w _ _)
  have g0 := HR.out.cell 0 (v := .int .i64 b.pr) rfl
  have g1 := HR.out.cell 1 (v := .int .i64 b.le) rfl
  have g2 := HR.out.cell 2 (v := .int .i64 b.mo) rfl
  have g3 := HR.out.cell 3 (v := .int .i64 b.gr) rfl
  have g4 := HR.out.cell 4 (v := .slice p b.hs.length c) rfl
  clear hW0
  obtain ⟨z0, hz0⟩ : ∃ z : Later W0, W0 = z.w := ⟨⟨W0, Below.refl _ _⟩, rfl⟩
  have HZ0 := Lib.hid hz0
  clear hz0
  have HC := Lib.hid (fun w' (k : From W0 w') => (by have h := refCheck_any b p c w' ((hB.below HE.out).below k.b); rw [bookE_bad hb] at h; exact h : Calls Try.prog 18 #[.agg (bfA b p c)] w' fun e w'' => e = .returned (.int .i64 50) ∧ Below w'.heap.size w' w''))
  clear hB hb
  go_enter Try.func34, Try.ntmps34
  go_wp2_with fail
  rw [← HW0.out, HZ0.out]
  refine (HC.out _ z0.fr).mono ?_
  rintro e u ⟨rfl, hbu⟩
  obtain ⟨z1, hz⟩ := z0.on hbu
  subst hz
  clear hbu
  go_wp2_with fail
  go_ret2
  exact ⟨rfl, z1.base HE.out⟩
set_option maxRecDepth 10000 in
set_option maxHeartbeats 3200000 in
theorem refBoxes_yes (b : Bf) (p : Option Addr) (c : Nat) (w : World) (hB : BfAt w p c b) (hb : bookB b = true) :
    Calls Try.prog 34 #[.agg (bfA b p c)] w fun e w' => e = .returned (.tuple #[.int .i64 ((rightL b (bestR b)).length : Int), .int .i64 0]) ∧ Below w.heap.size w w' := by
  have hok := bookB_iff.1 hb
  obtain ⟨W0, hW0⟩ : ∃ W, W = w.alloc (.cells (bfA b p c) 24) := ⟨_, rfl⟩
  have HW0 := Lib.hid hW0
  have HE := Lib.hid (show Below w.heap.size w W0 by rw [hW0]; exact below_alloc _ _)
  have HR := Lib.hid (show Row W0 w.heap.size (bfA b p c) 24 by rw [hW0]; exact Row.new w _ _)
  have g0 := HR.out.cell 0 (v := .int .i64 b.pr) rfl
  have g1 := HR.out.cell 1 (v := .int .i64 b.le) rfl
  have g2 := HR.out.cell 2 (v := .int .i64 b.mo) rfl
  have g3 := HR.out.cell 3 (v := .int .i64 b.gr) rfl
  have g4 := HR.out.cell 4 (v := .slice p b.hs.length c) rfl
  clear hW0
  obtain ⟨z0, hz0⟩ : ∃ z : Later W0, W0 = z.w := ⟨⟨W0, Below.refl _ _⟩, rfl⟩
  have HZ0 := Lib.hid hz0
  clear hz0
  have HC := Lib.hid (fun w' (k : From W0 w') => (by have h := refCheck_any b p c w' ((hB.below HE.out).below k.b); rw [bookE_ok hb] at h; exact h : Calls Try.prog 18 #[.agg (bfA b p c)] w' fun e w'' => e = .returned (.int .i64 0) ∧ Below w'.heap.size w' w''))
  have hn8 := hok.n8
  have HB := Lib.hid (hB.below HE.out)
  have HPN := Lib.hid (fun w' (k : From W0 w') => refPlans_nil b p c w' ((hB.below HE.out).below k.b) hok)
  have HBH := Lib.hid (fun (l : List Int) (hp : planB b l = true) (q : Option Addr) (cq : Nat) w' (k : From W0 w') (hi : IntsAt w' q l) => refByHandOf_any b p c q cq l w' ((hB.below HE.out).below k.b) hok hp hi)
  have HOK := Lib.hid hok
  have HPO := Lib.hid (fun i (hi : i < (plansB b).length) => plan_of hok hi)
  have HPOS := Lib.hid (plansB_pos hok.g1)
  have hfew : (plansB b).length ≤ 200 := by
    have h := fromL_few hok [] (x := 0) (Nat.zero_le _)
    rwa [show fromL b [] 0 = plansB b by unfold fromL plansB; simp] at h
  clear hB hok hb
  go_enter Try.func34, Try.ntmps34
  go_wp2_with fail
  rw [← HW0.out, HZ0.out]
  refine (HC.out _ z0.fr).mono ?_
  rintro e u ⟨rfl, hbu⟩
  obtain ⟨z1, hz⟩ := z0.on hbu
  subst hz
  clear hbu
  go_wp2_with fail
  refine (HPN.out _ z1.fr).mono ?_
  rintro e u ⟨rb, ro, rc, vals, rfl, hv, hr, hbu⟩
  have HRO := Lib.hid (rows_at hv hr)
  obtain ⟨W1, hW1⟩ : ∃ v, u = v := ⟨_, rfl⟩
  have K1 := Lib.hid (show From W0 W1 by rw [← hW1]; exact (⟨z1.b.trans (hbu.mono z1.b.size)⟩ : From W0 u))
  rw [hW1] at HRO ⊢
  have e1 := K1.out.cell g0
  have e2 := K1.out.cell g1
  have e3 := K1.out.cell g2
  have e4 := K1.out.cell g3
  have e5 := K1.out.cell g4
  clear hv hr hbu hW1 g0 g1 g2 g3 g4 HPN
  obtain ⟨N, hN⟩ : ∃ n, (plansB b).length = n := ⟨_, rfl⟩
  have hNp : 0 < N := by rw [← hN]; exact HPOS.out
  have HNE := Lib.hid hN
  rw [hN] at HPO hfew ⊢
  have HRO := Lib.hid (show ∀ i, i < N → ∃ (p : Option Addr) (c : Nat), W1.cell? ⟨rb, ro + i, none⟩ = some (.slice p ((plansB b).getD i []).length c) ∧ IntsAt W1 p ((plansB b).getD i []) from fun i hi => HRO.out i (by rw [hN]; exact hi))
  clear hN HPOS
  obtain ⟨y0, hy0⟩ : ∃ z : Later W1, W1 = z.w := ⟨⟨W1, Below.refl _ _⟩, rfl⟩
  rw [hy0]
  clear hy0
  go_wp2_with fail
  go_loopw [5, 7] (fun v i wr => ∃ (k : Nat) (x : Later W1), k ≤ N ∧ v = .int .i64 (moreTo b (plansB b) k) ∧ i = .int .i64 (k : Int) ∧ moreTo b (plansB b) k ≤ 8 ∧ wr = x.w) (fun _ i _ => N - (intOf i).toNat)
  case atStart => exact ⟨0, y0, by omega, rfl, rfl, by simp [moreTo], rfl⟩
  case round =>
    obtain ⟨k, x, hkN, rfl, rfl, hmo8, rfl⟩ := hrel
    have hmo0 := moreTo_nonneg b (plansB b) k
    by_cases hlt : k < N
    · obtain ⟨pl, cl, hcl, hil⟩ := HRO.out k hlt
      have hpl := HPO.out k hlt
      have HMX := Lib.hid (show moreTo b (plansB b) (k + 1) = max (moreTo b (plansB b) k) ((rightL b ((plansB b).getD k [])).length : Int) from rfl)
      obtain ⟨l, hl⟩ : ∃ l, (plansB b).getD k [] = l := ⟨_, rfl⟩
      rw [hl] at hcl hil hpl HMX
      clear hl
      have HIL := Lib.hid hil
      have hll := plan_len hpl
      have hc1 := count_all b l
      have HA1 := Lib.hid (fun w' (kk : From W1 w') => HBH.out l hpl pl cl w' (K1.out.trans kk) (HIL.out.below kk.b))
      obtain ⟨hl', hhl⟩ : ∃ n, (handL b l).length = n := ⟨_, rfl⟩
      obtain ⟨rr, hrr⟩ : ∃ n, (rightL b l).length = n := ⟨_, rfl⟩
      rw [hhl] at HA1 hc1
      rw [hrr] at HMX hc1
      obtain ⟨lenL, hlenL⟩ : ∃ n, l.length = n := ⟨_, rfl⟩
      rw [hlenL] at hcl HA1 hll hc1
      obtain ⟨mo, hmo⟩ : ∃ n, moreTo b (plansB b) k = n := ⟨_, rfl⟩
      rw [hmo] at hmo0 hmo8 HMX ⊢
      clear hhl hrr hlenL hil hpl hmo
      have i2 : (0 : Int) ≤ (k : Int) := by omega
      have i3 : (k : Int) < (N : Int) := by omega
      have e6 : IntKind.i64.wrap ((lenL : Int) - (hl' : Int)) = (rr : Int) := by rw [IntWalk.i64_in _ (by omega)]; omega
      have KI := Lib.hid (From.refl x.w)
      have HSK := Lib.hid (fun w' (kk : From x.w w') => (⟨kk.cell (x.fr.cell e1), kk.cell (x.fr.cell e2), kk.cell (x.fr.cell e3), kk.cell (x.fr.cell e4), kk.cell (x.fr.cell e5), kk.cell (x.fr.cell hcl)⟩ : w'.cell? ⟨w.heap.size, 0, none⟩ = some (.int .i64 b.pr) ∧ w'.cell? ⟨w.heap.size, 1, none⟩ = some (.int .i64 b.le) ∧ w'.cell? ⟨w.heap.size, 2, none⟩ = some (.int .i64 b.mo) ∧ w'.cell? ⟨w.heap.size, 3, none⟩ = some (.int .i64 b.gr) ∧ w'.cell? ⟨w.heap.size, 4, none⟩ = some (.slice p b.hs.length c) ∧ w'.cell? ⟨rb, ro + k, none⟩ = some (.slice pl (lenL : Nat) cl)))
      go_upto_region 9 with (fail)
      by_cases qm : mo < (rr : Int)
      · go_region_held3 (fun w' => w'.cell? ⟨w.heap.size, 0, none⟩ = some (.int .i64 b.pr) ∧ w'.cell? ⟨w.heap.size, 1, none⟩ = some (.int .i64 b.le) ∧ w'.cell? ⟨w.heap.size, 2, none⟩ = some (.int .i64 b.mo) ∧ w'.cell? ⟨w.heap.size, 3, none⟩ = some (.int .i64 b.gr) ∧ w'.cell? ⟨w.heap.size, 4, none⟩ = some (.slice p b.hs.length c) ∧ w'.cell? ⟨rb, ro + k, none⟩ = some (.slice pl (lenL : Nat) cl))
          (first | with_reducible exact HSK.out _ KI.out | with_reducible exact HSK.out _ KI.out.drew)
          (first | (go_at_call 77; (with_reducible refine (HA1.out _ (by first | with_reducible exact x.fr.trans KI.out.drew | with_reducible exact x.fr.trans KI.out)).mono ?_); rintro e u ⟨ph1, ch1, rfl, _, hbu⟩; have KI := Lib.hid (by first | with_reducible exact KI.out.drew.below hbu | with_reducible exact KI.out.below hbu); clear hbu))
        all_goals
          obtain ⟨x2, hx2⟩ := x.up ⟨_, KI.out.b⟩
          dsimp only at hx2
          rw [hx2]
          clear hx2
          go_wp2_with fail
          all_goals
            go_roundw
            case rel => exact ⟨k + 1, x2, by omega, by rw [HMX.out] <;> first | rfl | (congr 1; omega), by go_num, by rw [HMX.out]; omega, rfl⟩
            case measure => simp [intOf]; omega
      · go_region_held3 (fun w' => w'.cell? ⟨w.heap.size, 0, none⟩ = some (.int .i64 b.pr) ∧ w'.cell? ⟨w.heap.size, 1, none⟩ = some (.int .i64 b.le) ∧ w'.cell? ⟨w.heap.size, 2, none⟩ = some (.int .i64 b.mo) ∧ w'.cell? ⟨w.heap.size, 3, none⟩ = some (.int .i64 b.gr) ∧ w'.cell? ⟨w.heap.size, 4, none⟩ = some (.slice p b.hs.length c) ∧ w'.cell? ⟨rb, ro + k, none⟩ = some (.slice pl (lenL : Nat) cl))
          (first | with_reducible exact HSK.out _ KI.out | with_reducible exact HSK.out _ KI.out.drew)
          (first | (go_at_call 77; (with_reducible refine (HA1.out _ (by first | with_reducible exact x.fr.trans KI.out.drew | with_reducible exact x.fr.trans KI.out)).mono ?_); rintro e u ⟨ph1, ch1, rfl, _, hbu⟩; have KI := Lib.hid (by first | with_reducible exact KI.out.drew.below hbu | with_reducible exact KI.out.below hbu); clear hbu))
        all_goals
          obtain ⟨x2, hx2⟩ := x.up ⟨_, KI.out.b⟩
          dsimp only at hx2
          rw [hx2]
          clear hx2
          go_wp2_with fail
          all_goals
            go_roundw
            case rel => exact ⟨k + 1, x2, by omega, by rw [HMX.out] <;> first | rfl | (congr 1; omega), by go_num, by rw [HMX.out]; omega, rfl⟩
            case measure => simp [intOf]; omega
    · obtain rfl : k = N := by omega
      have HFIN := Lib.hid (show moreTo b (plansB b) k = ((rightL b (bestR b)).length : Int) by rw [← HNE.out]; exact moreTo_all HOK.out)
      go_wp2_with fail
      go_ret2
      exact ⟨by rw [← HFIN.out]; rfl, HE.out.trans ((K1.out.trans x.fr).b.mono HE.out.size)⟩
set_option maxRecDepth 10000 in
set_option maxHeartbeats 1600000 in
theorem refCounted_any (b : Bf) (p : Option Addr) (c k : Nat) (n : Int) (w : World) (hB : BfAt w p c b) (hk : k < b.hs.length) (h10 : b.hs.length ≤ 10) :
    Calls Try.prog 88 #[.agg (bfA b p c), .int .i64 (k : Int), .int .i64 n] w (GaveSet b k n n w) := by
  obtain ⟨bb, o, rfl, _⟩ := hB.h k hk
  obtain ⟨W0, hW0⟩ : ∃ W, W = ((w.alloc (.cells (bfA b (some ⟨bb, o, none⟩) c) 24)).alloc (.cells noBf 24)) := ⟨_, rfl⟩
  have HW0 := Lib.hid hW0
  have HE := Lib.hid (show Below w.heap.size w W0 by rw [hW0]; exact below_alloc2 _ _ _)
  have HR := Lib.hid (show Row W0 w.heap.size (bfA b (some ⟨bb, o, none⟩) c) 24 by rw [hW0]; exact (Row.new w _ _).alloc _)
  have HQ := Lib.hid (show Row W0 (w.heap.size + 1) noBf 24 by rw [hW0]; exact Row.new1 w _ _ _)
  have HH := Lib.hid (hB.h.below HE.out)
  have HN := Lib.hid hB.n
  have HI1 := Lib.hid hB.i1
  have hzq := HQ.out.lt
  have g0 := HR.out.cell 0 (v := .int .i64 b.pr) rfl
  have g1 := HR.out.cell 1 (v := .int .i64 b.le) rfl
  have g2 := HR.out.cell 2 (v := .int .i64 b.mo) rfl
  have g3 := HR.out.cell 3 (v := .int .i64 b.gr) rfl
  have g4 := HR.out.cell 4 (v := .slice (some ⟨bb, o, none⟩) b.hs.length c) rfl
  have HSL := Lib.hid (setB_len b k n n)
  have i1 : (0 : Int) ≤ (k : Int) := by omega
  have i2 : (k : Int) < (b.hs.length : Int) := by omega
  obtain ⟨g, cap, cur, w1, hr, hx, hrow, hg, hcap, hbw, hh⟩ := copied W0 b bb o c HH.out (by omega) h10 22
  have HRUN := Lib.hid hr
  have HX := Lib.hid hx
  have HROW := Lib.hid hrow
  have HHO := Lib.hid hh
  have HBW := Lib.hid hbw
  have a4 := ((HR.out.alloc (.cells (bfA b (some ⟨bb, o, none⟩) c) 24)).alloc (.cells #[] 27)).cell 4 (v := .slice (some ⟨bb, o, none⟩) b.hs.length c) rfl
  have x0 := HX.out.cell 4 (v := .slice (some ⟨bb, o, none⟩) b.hs.length c) rfl
  have x0f := HX.out.free 4
  have HQ1 := Lib.hid (HQ.out.below HBW.out HQ.out.lt)
  have HX2 := Lib.hid (HX.out.set 4 (.slice (some ⟨g, 0, none⟩) b.hs.length cap))
  have HROW2 := Lib.hid (HROW.out.set_other ⟨W0.heap.size, 4, none⟩ (.slice (some ⟨g, 0, none⟩) b.hs.length cap) (by dsimp only; omega))
  have HQ2 := Lib.hid (HQ1.out.set_other ⟨W0.heap.size, 4, none⟩ (.slice (some ⟨g, 0, none⟩) b.hs.length cap) (by dsimp only; omega))
  have HBW2 := Lib.hid (show Below W0.heap.size W0 (w1.setCell ⟨W0.heap.size, 4, none⟩ (.slice (some ⟨g, 0, none⟩) b.hs.length cap)) from HBW.out.setCell (by dsimp only; omega) _)
  clear hr hx hrow hh hbw hW0 hB
  go_enter Try.func88, Try.ntmps88
  go_upto_region 1 with (fail)
  rw [← HW0.out]
  go_upto_region 3 with (first
    | (refine store_new rfl 24 _ _ rfl (bfA b (some ⟨bb, o, none⟩) c) noBf 24 rfl rfl (by kernel_rfl) rfl (by simp [Value.oneCell', bfA]) ?_)
    | (at_builtin; refine wpList_append_run rfl _ _ _ _ rfl (.slice (some ⟨W0.heap.size + 1, 0, none⟩) 0 0) _ _ rfl rfl HRUN.out ?_))
  clear HX HROW HRUN a4 x0 x0f g0 g1 g2 g3 g4 HQ1 HQ
  obtain ⟨W, hW⟩ : ∃ u, w1.setCell ⟨W0.heap.size, 4, none⟩ (.slice (some ⟨g, 0, none⟩) b.hs.length cap) = u := ⟨_, rfl⟩
  rw [hW] at HX2 HROW2 HQ2 HBW2 ⊢
  clear hW
  have KI := Lib.hid (From.refl W)
  have x2 := HX2.out.cell 4 (v := .slice (some ⟨g, 0, none⟩) b.hs.length cap) rfl
  have HS := Lib.hid (fun w' (kk : From W w') => kk.cell x2)
  have hWz := HBW2.out.size
  clear x2
  obtain ⟨c0, c1⟩ := HHO.out k hk
  have G0 := Lib.hid c0
  have G1 := Lib.hid c1
  clear c0 c1
  have q0 := (KI.out.row HROW2.out).cell _ G0.out
  have q1 := (KI.out.row HROW2.out).cell _ G1.out
  have f0 := (KI.out.row HROW2.out).free (k * 2)
  have f1 := (KI.out.row HROW2.out).free (k * 2 + 1)
  go_region_held3 (fun w' => w'.cell? ⟨W0.heap.size, 4, none⟩ = some (.slice (some ⟨g, 0, none⟩) b.hs.length cap)) (first | with_reducible exact HS.out _ KI.out | with_reducible exact HS.out _ KI.out.drew | exact (((KI.out.row HX2.out).set_other _ _ (by dsimp only; omega)).set_other _ _ (by dsimp only; omega)).cell 4 rfl)
    (first | (go_at_call 54; (with_reducible refine (Only_any _ _).mono ?_); rintro e u ⟨rfl, hbu⟩; have KI := Lib.hid (by first | with_reducible exact KI.out.drew.below hbu | with_reducible exact KI.out.below hbu); have q0 := (KI.out.row HROW2.out).cell _ G0.out; have q1 := (KI.out.row HROW2.out).cell _ G1.out; have f0 := (KI.out.row HROW2.out).free (k * 2); have f1 := (KI.out.row HROW2.out).free (k * 2 + 1); clear hbu))
  have RB := Lib.hid (((KI.out.row HX2.out).set_other ⟨g, k * 2, none⟩ (.int .i64 n) (by dsimp only; omega)).set_other ⟨g, k * 2 + 1, none⟩ (.int .i64 n) (by dsimp only; omega))
  have RB : Hid (Row ((u.setCell ⟨g, k * 2, none⟩ (.int .i64 n)).setCell ⟨g, k * 2 + 1, none⟩ (.int .i64 n)) W0.heap.size #[.int .i64 b.pr, .int .i64 b.le, .int .i64 b.mo, .int .i64 b.gr, .slice (some ⟨g, 0, none⟩) b.hs.length cap] 24) := RB
  have RQ := Lib.hid (((KI.out.row HQ2.out).set_other ⟨g, k * 2, none⟩ (.int .i64 n) (by dsimp only; omega)).set_other ⟨g, k * 2 + 1, none⟩ (.int .i64 n) (by dsimp only; omega))
  have RG := Lib.hid (((KI.out.row HROW2.out).set (k * 2) (.int .i64 n)).set (k * 2 + 1) (.int .i64 n))
  have HE3 := Lib.hid (show Below w.heap.size w ((u.setCell ⟨g, k * 2, none⟩ (.int .i64 n)).setCell ⟨g, k * 2 + 1, none⟩ (.int .i64 n)) from ((HE.out.trans ((HBW2.out.trans (KI.out.b.mono HBW2.out.size)).mono HE.out.size)).setCell (by have := HE.out.size; dsimp only; omega) _).setCell (by have := HE.out.size; dsimp only; omega) _)
  clear HROW2 HX2 HQ2 KI HS HBW2 HBW q0 q1 f0 f1
  obtain ⟨w2, hw2⟩ : ∃ v, (u.setCell ⟨g, k * 2, none⟩ (.int .i64 n)).setCell ⟨g, k * 2 + 1, none⟩ (.int .i64 n) = v := ⟨_, rfl⟩
  rw [hw2] at RB RQ RG HE3 ⊢
  clear hw2
  have b0 := RB.out.cell 0 (v := .int .i64 b.pr) rfl
  have b1 := RB.out.cell 1 (v := .int .i64 b.le) rfl
  have b2 := RB.out.cell 2 (v := .int .i64 b.mo) rfl
  have b3 := RB.out.cell 3 (v := .int .i64 b.gr) rfl
  have b4 := RB.out.cell 4 (v := .slice (some ⟨g, 0, none⟩) b.hs.length cap) rfl
  go_wp2_with (first | (refine store_row rfl 24 _ _ rfl _ #[.int .i64 b.pr, .int .i64 b.le, .int .i64 b.mo, .int .i64 b.gr, .slice (some ⟨g, 0, none⟩) b.hs.length cap] _ _ rfl rfl RQ.out (by kernel_rfl) rfl (by simp [Value.oneCell']) ?_))
  have qq := RQ.out.setRow #[.int .i64 b.pr, .int .i64 b.le, .int .i64 b.mo, .int .i64 b.gr, .slice (some ⟨g, 0, none⟩) b.hs.length cap]
  have hlen : (setB b k n n).hs.length = b.hs.length := HSL.out
  have hsz := HE.out.size
  refine bodyPost_ret (v := .agg #[.int .i64 b.pr, .int .i64 b.le, .int .i64 b.mo, .int .i64 b.gr, .slice (some ⟨g, 0, none⟩) b.hs.length cap]) (results_cell_row Try.results88 _ _ _ _ _ _ _ rfl qq Try.underlying24 rfl (by kernel_rfl)) rfl ?_
  have hlt2 := RQ.out.lt
  exact ⟨g, cap, by rw [show bfA (setB b k n n) (some ⟨g, 0, none⟩) cap = #[.int .i64 b.pr, .int .i64 b.le, .int .i64 b.mo, .int .i64 b.gr, .slice (some ⟨g, 0, none⟩) b.hs.length cap] by rw [show bfA (setB b k n n) (some ⟨g, 0, none⟩) cap = #[.int .i64 b.pr, .int .i64 b.le, .int .i64 b.mo, .int .i64 b.gr, .slice (some ⟨g, 0, none⟩) (setB b k n n).hs.length cap] from rfl, hlen]],
    ⟨hds_row (RG.out.setRow_other _ (by omega)) (holds_set HHO.out hk n n), by rw [hlen]; exact HN.out, by rw [hlen]; exact hcap, HI1.out⟩, by omega, below_setRow' HE3.out (by omega) _⟩
/-- Which handful is asked for, of the first ones, and how many boxes are by hand then at the worst. -/
def askW (b : Bf) : Nat → Int × Int
  | 0 => (-1, 0)
  | k + 1 => if (askW b k).1 < 0 ∨ worstV b k < (askW b k).2 then ((k : Int), worstV b k) else askW b k
theorem askW_first (b : Bf) : ∀ k, 0 < k → ∃ a : Nat, askW b k = ((a : Int), worstV b a) ∧ a < k ∧ ∀ i, i < k → worstV b a < worstV b i ∨ worstV b a = worstV b i ∧ a ≤ i
  | 0, h => by omega
  | k + 1, _ => by
    by_cases h0 : k = 0
    · subst h0
      refine ⟨0, by simp [askW], by omega, fun i hi => ?_⟩
      obtain rfl : i = 0 := by omega
      exact .inr ⟨rfl, Nat.le_refl _⟩
    · obtain ⟨a, h1, h2, h3⟩ := askW_first b k (by omega)
      rw [askW, h1]
      by_cases hlt : worstV b k < worstV b a
      · rw [if_pos (.inr hlt)]
        refine ⟨k, rfl, by omega, fun i hi => ?_⟩
        by_cases e : i = k
        · subst e; exact .inr ⟨rfl, Nat.le_refl _⟩
        · have := h3 i (by omega)
          left; omega
      · rw [if_neg (by simp; omega)]
        refine ⟨a, rfl, by omega, fun i hi => ?_⟩
        by_cases e : i = k
        · subst e
          by_cases e2 : worstV b a = worstV b i
          · exact .inr ⟨e2, by omega⟩
          · left; omega
        · exact h3 i (by omega)
theorem askW_all {b : Bf} (h0 : 0 < b.hs.length) : (askW b b.hs.length).1 = askV b := by
  obtain ⟨a, h1, h2, h3⟩ := askW_first b b.hs.length h0
  obtain ⟨c, e1, e2, e3⟩ := ask_first h0
  rw [h1, e1]
  have f1 := h3 c e2
  have f2 := e3 a h2
  simp only
  omega
theorem askW_range (b : Bf) (hr : ∀ i, i < b.hs.length → 0 ≤ worstV b i ∧ worstV b i ≤ 8) : ∀ k, k ≤ b.hs.length → (-1 ≤ (askW b k).1 ∧ (askW b k).1 ≤ (k : Int)) ∧ 0 ≤ (askW b k).2 ∧ (askW b k).2 ≤ 8
  | 0, _ => by simp [askW]
  | k + 1, hk => by
    have ih := askW_range b hr k (by omega)
    have h1 := hr k (by omega)
    rw [askW]
    split
    · simp only; omega
    · omega
set_option maxRecDepth 10000 in
set_option maxHeartbeats 1600000 in
theorem refAsk_bad (b : Bf) (p : Option Addr) (c : Nat) (w : World) (hB : BfAt w p c b) (hb : bookB b = false) :
    Calls Try.prog 36 #[.agg (bfA b p c)] w fun e w' => e = .returned (.tuple #[.int .i64 0, .int .i64 50]) ∧ Below w.heap.size w w' := by
  obtain ⟨W0, hW0⟩ : ∃ W, W = w.alloc (.cells (bfA b p c) 24) := ⟨_, rfl⟩
  have HW0 := Lib.hid hW0
  have HE := Lib.hid (show Below w.heap.size w W0 by rw [hW0]; exact below_alloc _ _)
  have HR := Lib.hid (show Row W0 w.heap.size (bfA b p c) 24 by rw [hW0]; exact Row.new w _ _)
  have g0 := HR.out.cell 0 (v := .int .i64 b.pr) rfl
  have g1 := HR.out.cell 1 (v := .int .i64 b.le) rfl
  have g2 := HR.out.cell 2 (v := .int .i64 b.mo) rfl
  have g3 := HR.out.cell 3 (v := .int .i64 b.gr) rfl
  have g4 := HR.out.cell 4 (v := .slice p b.hs.length c) rfl
  clear hW0
  obtain ⟨z0, hz0⟩ : ∃ z : Later W0, W0 = z.w := ⟨⟨W0, Below.refl _ _⟩, rfl⟩
  have HZ0 := Lib.hid hz0
  clear hz0
  have HC := Lib.hid (fun w' (k : From W0 w') => (by have h := refCheck_any b p c w' ((hB.below HE.out).below k.b); rw [bookE_bad hb] at h; exact h : Calls Try.prog 18 #[.agg (bfA b p c)] w' fun e w'' => e = .returned (.int .i64 50) ∧ Below w'.heap.size w' w''))
  clear hB hb
  go_enter Try.func36, Try.ntmps36
  go_wp2_with fail
  rw [← HW0.out, HZ0.out]
  refine (HC.out _ z0.fr).mono ?_
  rintro e u ⟨rfl, hbu⟩
  obtain ⟨z1, hz⟩ := z0.on hbu
  subst hz
  clear hbu
  go_wp2_with fail
  go_ret2
  exact ⟨rfl, z1.base HE.out⟩
set_option maxRecDepth 10000 in
set_option maxHeartbeats 1600000 in
theorem refAsk_none (b : Bf) (p : Option Addr) (c : Nat) (w : World) (hB : BfAt w p c b) (hb : bookB b = true) (h0 : b.hs.length = 0) :
    Calls Try.prog 36 #[.agg (bfA b p c)] w fun e w' => e = .returned (.tuple #[.int .i64 0, .int .i64 4]) ∧ Below w.heap.size w w' := by
  obtain ⟨W0, hW0⟩ : ∃ W, W = w.alloc (.cells (bfA b p c) 24) := ⟨_, rfl⟩
  have HW0 := Lib.hid hW0
  have HE := Lib.hid (show Below w.heap.size w W0 by rw [hW0]; exact below_alloc _ _)
  have HR := Lib.hid (show Row W0 w.heap.size (bfA b p c) 24 by rw [hW0]; exact Row.new w _ _)
  have g0 := HR.out.cell 0 (v := .int .i64 b.pr) rfl
  have g1 := HR.out.cell 1 (v := .int .i64 b.le) rfl
  have g2 := HR.out.cell 2 (v := .int .i64 b.mo) rfl
  have g3 := HR.out.cell 3 (v := .int .i64 b.gr) rfl
  have g4 := HR.out.cell 4 (v := .slice p b.hs.length c) rfl
  clear hW0
  obtain ⟨z0, hz0⟩ : ∃ z : Later W0, W0 = z.w := ⟨⟨W0, Below.refl _ _⟩, rfl⟩
  have HZ0 := Lib.hid hz0
  clear hz0
  have HC := Lib.hid (fun w' (k : From W0 w') => (by have h := refCheck_any b p c w' ((hB.below HE.out).below k.b); rw [bookE_ok hb] at h; exact h : Calls Try.prog 18 #[.agg (bfA b p c)] w' fun e w'' => e = .returned (.int .i64 0) ∧ Below w'.heap.size w' w''))
  obtain ⟨n, hn⟩ : ∃ n, b.hs.length = n := ⟨_, rfl⟩
  have hq : ((n : Int) == 0) = true := by rw [← hn, h0]; rfl
  have HN := Lib.hid hn
  rw [hn] at g4
  clear hB hb h0 hn
  go_enter Try.func36, Try.ntmps36
  go_wp2_with fail
  rw [← HW0.out, HZ0.out]
  refine (HC.out _ z0.fr).mono ?_
  rintro e u ⟨rfl, hbu⟩
  obtain ⟨z1, hz⟩ := z0.on hbu
  subst hz
  clear hbu
  go_wp2_with fail
  go_ret2
  exact ⟨rfl, z1.base HE.out⟩
set_option maxRecDepth 10000 in
set_option maxHeartbeats 6400000 in
theorem refAsk_yes (b : Bf) (p : Option Addr) (c : Nat) (w : World) (hB : BfAt w p c b) (hb : bookB b = true) (h0 : 0 < b.hs.length) :
    Calls Try.prog 36 #[.agg (bfA b p c)] w fun e w' => e = .returned (.tuple #[.int .i64 (askV b), .int .i64 0]) ∧ Below w.heap.size w w' := by
  have hok := bookB_iff.1 hb
  have hn8 := hok.n8
  obtain ⟨W0, hW0⟩ : ∃ W, W = w.alloc (.cells (bfA b p c) 24) := ⟨_, rfl⟩
  have HW0 := Lib.hid hW0
  have HE := Lib.hid (show Below w.heap.size w W0 by rw [hW0]; exact below_alloc _ _)
  have HR := Lib.hid (show Row W0 w.heap.size (bfA b p c) 24 by rw [hW0]; exact Row.new w _ _)
  have g0 := HR.out.cell 0 (v := .int .i64 b.pr) rfl
  have g1 := HR.out.cell 1 (v := .int .i64 b.le) rfl
  have g2 := HR.out.cell 2 (v := .int .i64 b.mo) rfl
  have g3 := HR.out.cell 3 (v := .int .i64 b.gr) rfl
  have g4 := HR.out.cell 4 (v := .slice p b.hs.length c) rfl
  clear hW0
  obtain ⟨z0, hz0⟩ : ∃ z : Later W0, W0 = z.w := ⟨⟨W0, Below.refl _ _⟩, rfl⟩
  have HZ0 := Lib.hid hz0
  clear hz0
  have HC := Lib.hid (fun w' (k : From W0 w') => (by have h := refCheck_any b p c w' ((hB.below HE.out).below k.b); rw [bookE_ok hb] at h; exact h : Calls Try.prog 18 #[.agg (bfA b p c)] w' fun e w'' => e = .returned (.int .i64 0) ∧ Below w'.heap.size w' w''))
  have HB := Lib.hid (hB.below HE.out)
  have HOK := Lib.hid hok
  have HH0 := Lib.hid h0
  have hne : ((b.hs.length : Int) == 0) = false := beq_eq_false_iff_ne.2 (by omega)
  have HCT := Lib.hid (fun (k : Nat) (n : Int) (hk : k < b.hs.length) w' (kk : From W0 w') => refCounted_any b p c k n w' ((hB.below HE.out).below kk.b) hk (by omega))
  have HAL := Lib.hid (askW_all h0)
  have HWR := Lib.hid (fun i (hi : i < b.hs.length) => (show 0 ≤ worstV b i ∧ worstV b i ≤ 8 from ⟨worstTo_nonneg b i _, by
    have h1 := worst_hand hok hi
    obtain ⟨q, hq, hqq, _⟩ := best_few hok
    have h2 : bestQ b = q := bestL_of hq
    have h3 := count_to b q q.length
    have h4 := plan_len hqq
    rw [h2] at h1
    unfold handL at h1
    omega⟩))
  have HAR := Lib.hid (askW_range b HWR.out)
  clear hB hb hok h0
  go_enter Try.func36, Try.ntmps36
  go_wp2_with fail
  rw [← HW0.out, HZ0.out]
  refine (HC.out _ z0.fr).mono ?_
  rintro e u ⟨rfl, hbu⟩
  obtain ⟨z1, hz⟩ := z0.on hbu
  subst hz
  clear hbu
  go_wp2_with fail
  go_loopw [5, 6, 7] (fun a l i wr => ∃ (k : Nat) (x : Later W0), k ≤ b.hs.length ∧ a = .int .i64 (askW b k).1 ∧ l = .int .i64 (askW b k).2 ∧ i = .int .i64 (k : Int) ∧ wr = x.w) (fun _ _ i _ => b.hs.length - (intOf i).toNat)
  case atStart => exact ⟨0, z1, by omega, rfl, rfl, rfl, rfl⟩
  case round =>
    obtain ⟨k, x, hk, rfl, rfl, rfl, rfl⟩ := hrel
    by_cases hlt : k < b.hs.length
    · have har := HAR.out k hk
      have HAS := Lib.hid (show askW b (k + 1) = if (askW b k).1 < 0 ∨ worstV b k < (askW b k).2 then ((k : Int), worstV b k) else askW b k from rfl)
      have hwr := HWR.out k hlt
      obtain ⟨bb, o, rfl, c0, c1⟩ := HB.out.h k hlt
      have hH := HOK.out.h _ (List.getElem_mem hlt)
      have hl0 := hH.l0
      have hl1 := hH.l1
      have hl2 := hH.l2
      have hl3 := hH.l3
      have HHA := Lib.hid (handAt_eq hlt)
      have HSO := Lib.hid (fun n (hn : b.hs[k].lo ≤ n) (hn2 : n ≤ b.hs[k].hi) => setB_ok HOK.out (k := k) n n ⟨show (0 : Int) ≤ n by omega, Int.le_refl n, show n ≤ 200 by omega, show n - n ≤ 10 by omega⟩)
      have i1 : (0 : Int) ≤ (k : Int) := by omega
      have i2 : (k : Int) < (b.hs.length : Int) := by omega
      obtain ⟨lo, hlo⟩ : ∃ x, b.hs[k].lo = x := ⟨_, rfl⟩
      obtain ⟨hi, hhi⟩ : ∃ x, b.hs[k].hi = x := ⟨_, rfl⟩
      rw [hlo] at c0 hl0 hl1 hl3 HSO
      rw [hhi] at c1 hl1 hl2 hl3 HSO
      have HLO := Lib.hid hlo
      have HHI := Lib.hid hhi
      have HK := Lib.hid hlt
      clear hH hlo hhi
      obtain ⟨aw, haw⟩ : ∃ n, (askW b k).1 = n := ⟨_, rfl⟩
      obtain ⟨al, hal⟩ : ∃ n, (askW b k).2 = n := ⟨_, rfl⟩
      rw [haw, hal] at HAS har ⊢
      have HAW := Lib.hid haw
      have HALE := Lib.hid hal
      clear haw hal
      go_wp2_with fail
      go_loopw [8, 9] (fun m i wr => ∃ (j : Nat) (v : Later W0), (j : Int) ≤ hi - lo + 1 ∧ i = .int .i64 (lo + j) ∧ m = .int .i64 (worstTo b k j) ∧ 0 ≤ worstTo b k j ∧ worstTo b k j ≤ 8 ∧ wr = v.w) (fun _ i _ => 300 - (intOf i).toNat)
      case atStart => exact ⟨0, x, by omega, by simp, rfl, by simp [worstTo], by simp [worstTo], rfl⟩
      case round =>
        obtain ⟨j, v, hj, rfl, rfl, hw0, hw8, rfl⟩ := hrel
        by_cases hlt2 : lo + j ≤ hi
        · have HOKS := Lib.hid (HSO.out (lo + j) (by omega) hlt2)
          have hcr := countAt_range HOKS.out
          have HWS := Lib.hid (show worstTo b k (j + 1) = max (worstTo b k j) (countAt b k (lo + j)) by rw [worstTo, HHA.out, HLO.out])
          have HCE := Lib.hid (show countAt b k (lo + j) = ((handL (setB b k (lo + j) (lo + j)) (bestQ (setB b k (lo + j) (lo + j)))).length : Int) from rfl)
          obtain ⟨n, hn⟩ : ∃ n, lo + (j : Int) = n := ⟨_, rfl⟩
          rw [hn] at HOKS hcr HWS HCE hlt2
          have HNE := Lib.hid hn
          have hn0 : 0 ≤ n := by omega
          rw [hn]
          clear hn
          obtain ⟨wj, hwj⟩ : ∃ m, worstTo b k j = m := ⟨_, rfl⟩
          rw [hwj] at hw0 hw8 HWS ⊢
          clear hwj
          go_wp2_with fail
          refine (HCT.out k n HK.out _ v.fr).mono ?_
          rintro e u ⟨g, cap, rfl, hbf, hgz, hbu⟩
          have HBF := Lib.hid hbf
          have heq : bfA (setB b k n n) (some ⟨g, 0, none⟩) cap = #[.int .i64 b.pr, .int .i64 b.le, .int .i64 b.mo, .int .i64 b.gr, .slice (some ⟨g, 0, none⟩) b.hs.length cap] := by
            rw [show bfA (setB b k n n) (some ⟨g, 0, none⟩) cap = #[.int .i64 b.pr, .int .i64 b.le, .int .i64 b.mo, .int .i64 b.gr, .slice (some ⟨g, 0, none⟩) (setB b k n n).hs.length cap] from rfl, setB_len]
          rw [heq]
          obtain ⟨v2, hv2⟩ := v.on hbu
          subst hv2
          clear hbu hbf
          have hbn := Lib.hid (show BfOk (setB b k n n) from HOKS.out)
          obtain ⟨pb, hpb, hpp, _⟩ := best_few hbn.out
          have hbq : bestQ (setB b k n n) = pb := bestL_of hpb
          rw [hbq] at HCE
          have HPP := Lib.hid hpp
          have HBQ := Lib.hid hbq
          clear hpb hpp hbq
          go_upto_region 15 with (first
            | (refine store_new rfl 24 _ _ rfl #[.int .i64 b.pr, .int .i64 b.le, .int .i64 b.mo, .int .i64 b.gr, .slice (some ⟨g, 0, none⟩) b.hs.length cap] noBf 24 rfl rfl (by kernel_rfl) rfl (by simp [Value.oneCell']) ?_))
          obtain ⟨WN, hWN⟩ : ∃ u, v2.w.alloc (.cells #[.int .i64 b.pr, .int .i64 b.le, .int .i64 b.mo, .int .i64 b.gr, .slice (some ⟨g, 0, none⟩) b.hs.length cap] 24) = u := ⟨_, rfl⟩
          have HRX := Lib.hid (show Row WN v2.w.heap.size #[.int .i64 b.pr, .int .i64 b.le, .int .i64 b.mo, .int .i64 b.gr, .slice (some ⟨g, 0, none⟩) b.hs.length cap] 24 by rw [← hWN]; exact Row.new v2.w _ _)
          have hbu : Below v2.w.heap.size v2.w WN := by rw [← hWN]; exact below_alloc _ _
          rw [hWN]
          clear hWN
          have HBF := Lib.hid (HBF.out.below hbu)
          obtain ⟨BX, hBX⟩ : ∃ x, v2.w.heap.size = x := ⟨_, rfl⟩
          rw [hBX] at HRX ⊢
          clear hBX
          obtain ⟨v3, hz⟩ := v2.on hbu
          subst hz
          clear hbu
          have HBE := Lib.hid (fun w' (kk : From v3.w w') => (by have h := refBestOf_any (setB b k n n) (some ⟨g, 0, none⟩) cap w' (HBF.out.below kk.b) hbn.out; rw [heq, HBQ.out] at h; exact h))
          have HBY := Lib.hid (fun (q : Option Addr) (cq : Nat) w' (kk : From v3.w w') (hi : IntsAt w' q pb) => (by have h := refByHandOf_any (setB b k n n) (some ⟨g, 0, none⟩) cap q cq pb w' (HBF.out.below kk.b) hbn.out HPP.out hi; rw [heq] at h; exact h))
          have KI := Lib.hid (From.refl v3.w)
          have HSK := Lib.hid (fun w' (kk : From v3.w w') => (⟨kk.cell (HRX.out.cell 0 rfl), kk.cell (HRX.out.cell 1 rfl), kk.cell (HRX.out.cell 2 rfl), kk.cell (HRX.out.cell 3 rfl), kk.cell (HRX.out.cell 4 rfl)⟩ : w'.cell? ⟨BX, 0, none⟩ = some (.int .i64 b.pr) ∧ w'.cell? ⟨BX, 1, none⟩ = some (.int .i64 b.le) ∧ w'.cell? ⟨BX, 2, none⟩ = some (.int .i64 b.mo) ∧ w'.cell? ⟨BX, 3, none⟩ = some (.int .i64 b.gr) ∧ w'.cell? ⟨BX, 4, none⟩ = some (.slice (some ⟨g, 0, none⟩) b.hs.length cap)))
          clear heq
          obtain ⟨hl, hhl⟩ : ∃ m, (handL (setB b k n n) pb).length = m := ⟨_, rfl⟩
          rw [hhl] at HCE HBY
          obtain ⟨ca, hca⟩ : ∃ x, countAt b k n = x := ⟨_, rfl⟩
          rw [hca] at hcr HWS HCE
          clear hca hhl
          have hch : ca = (hl : Int) := HCE.out
          have hn2 : n + 1 ≤ 201 := by omega
          go_region_held3 (fun w' => w'.cell? ⟨BX, 0, none⟩ = some (.int .i64 b.pr) ∧ w'.cell? ⟨BX, 1, none⟩ = some (.int .i64 b.le) ∧ w'.cell? ⟨BX, 2, none⟩ = some (.int .i64 b.mo) ∧ w'.cell? ⟨BX, 3, none⟩ = some (.int .i64 b.gr) ∧ w'.cell? ⟨BX, 4, none⟩ = some (.slice (some ⟨g, 0, none⟩) b.hs.length cap))
            (first | with_reducible exact HSK.out _ KI.out | with_reducible exact HSK.out _ KI.out.drew)
            (first
              | (go_at_call 82; (with_reducible refine (HBE.out _ (by first | with_reducible exact KI.out.drew | with_reducible exact KI.out)).mono ?_); rintro e u ⟨qb, cb, rfl, hiq, hbu⟩; have HP := Lib.hid hiq; have KI := Lib.hid (by first | with_reducible exact KI.out.drew.below hbu | with_reducible exact KI.out.below hbu); clear hbu hiq)
              | (go_at_call 77; (with_reducible refine (HBY.out _ _ _ (by first | with_reducible exact KI.out.drew | with_reducible exact KI.out) (by first | with_reducible exact HP.out)).mono ?_); rintro e u ⟨ph, ch, rfl, _, hbu⟩; have KI := Lib.hid (by first | with_reducible exact KI.out.drew.below hbu | with_reducible exact KI.out.below hbu); clear hbu))
          all_goals
            obtain ⟨v4, hv4⟩ := v3.on KI.out.b
            rw [hv4]
            clear hv4
            go_wp2_with fail
            all_goals
              go_roundw
              case rel => exact ⟨j + 1, v4, by have := HNE.out; omega, by have := HNE.out; congr 1; omega, by rw [HWS.out, HCE.out] <;> first | rfl | (congr 1; omega), by rw [HWS.out]; omega, by rw [HWS.out]; omega, rfl⟩
              case measure => simp [intOf]; omega
        · have HV := Lib.hid (show worstV b k = worstTo b k j by
            unfold worstV
            rw [HHA.out, HLO.out, HHI.out]
            congr 1
            omega)
          obtain ⟨wv, hwv⟩ : ∃ m, worstTo b k j = m := ⟨_, rfl⟩
          rw [HV.out, hwv] at HAS
          rw [hwv] at hw0 hw8 ⊢
          clear hwv
          by_cases q1 : aw < 0
          · have HN := Lib.hid (HAS.out.trans (if_pos (.inl q1)))
            go_wp2_with fail
            go_roundw
            case rel => exact ⟨k + 1, v, by omega, by rw [HN.out], by rw [HN.out], by go_num, rfl⟩
            case measure => simp [intOf]; omega
          · have q1' : ¬ aw < 0 := q1
            by_cases q2 : wv < al
            · have HN := Lib.hid (HAS.out.trans (if_pos (.inr q2)))
              go_wp2_with fail
              go_roundw
              case rel => exact ⟨k + 1, v, by omega, by rw [HN.out], by rw [HN.out], by go_num, rfl⟩
              case measure => simp [intOf]; omega
            · have HN := Lib.hid (HAS.out.trans (if_neg (by omega)))
              go_wp2_with fail
              go_roundw
              case rel => exact ⟨k + 1, v, by omega, by rw [HN.out, HAW.out], by rw [HN.out, HALE.out], by go_num, rfl⟩
              case measure => simp [intOf]; omega
    · obtain rfl : k = b.hs.length := by omega
      rw [HAL.out]
      go_wp2_with fail
      go_ret2
      exact ⟨rfl, x.base HE.out⟩
end Go.Proofs.Ytgdidhbomdfcpaa
/- The law FillBests: what is told of the best plans is what the chapter says. -/
namespace Go.Proofs.Ytgdidhbomdfcpaa
open Go.RowKit Go.Maps
attribute [local go_sem] Oper.semAt_some

theorem best_both (b : Bf) (p : Option Addr) (c : Nat) (W : World) (hB : BfAt W p c b) :
    ∃ (L : List Int) (E : Int), L.length ≤ 1000 ∧ (∀ w, From W w → Calls Try.prog 31 #[.agg (bfA b p c)] w (GaveLE L E w)) ∧
      ∀ w, From W w → Calls Try.prog 32 #[.agg (bfA b p c)] w (GaveLE L E w) := by
  cases hb : bookB b
  · exact ⟨[], 50, by simp, fun w k => GaveLE.empty (Best_bad b p c w (hB.below k.b) hb), fun w k => GaveLE.empty (refBest_bad b p c w (hB.below k.b) hb)⟩
  · refine ⟨bestQ b, 0, ?_, fun w k => Best_yes b p c w (hB.below k.b) hb, fun w k => refBest_yes b p c w (hB.below k.b) hb⟩
    have hok := bookB_iff.1 hb
    obtain ⟨q, hq, hqq, _⟩ := best_few hok
    rw [show bestQ b = q from bestL_of hq]
    have := plan_len hqq
    have := hok.n8
    omega
theorem boxes_both (b : Bf) (p : Option Addr) (c : Nat) (W : World) (hB : BfAt W p c b) :
    ∃ (v E : Int), (∀ w, From W w → Calls Try.prog 33 #[.agg (bfA b p c)] w fun e w' => e = .returned (.tuple #[.int .i64 v, .int .i64 E]) ∧ Below w.heap.size w w') ∧
      ∀ w, From W w → Calls Try.prog 34 #[.agg (bfA b p c)] w fun e w' => e = .returned (.tuple #[.int .i64 v, .int .i64 E]) ∧ Below w.heap.size w w' := by
  cases hb : bookB b
  · exact ⟨0, 50, fun w k => Boxes_bad b p c w (hB.below k.b) hb, fun w k => refBoxes_bad b p c w (hB.below k.b) hb⟩
  · exact ⟨_, 0, fun w k => Boxes_yes b p c w (hB.below k.b) hb, fun w k => refBoxes_yes b p c w (hB.below k.b) hb⟩
theorem ask_both (b : Bf) (p : Option Addr) (c : Nat) (W : World) (hB : BfAt W p c b) :
    ∃ (v E : Int), (∀ w, From W w → Calls Try.prog 35 #[.agg (bfA b p c)] w fun e w' => e = .returned (.tuple #[.int .i64 v, .int .i64 E]) ∧ Below w.heap.size w w') ∧
      ∀ w, From W w → Calls Try.prog 36 #[.agg (bfA b p c)] w fun e w' => e = .returned (.tuple #[.int .i64 v, .int .i64 E]) ∧ Below w.heap.size w w' := by
  cases hb : bookB b
  · exact ⟨0, 50, fun w k => Ask_bad b p c w (hB.below k.b) hb, fun w k => refAsk_bad b p c w (hB.below k.b) hb⟩
  · by_cases h0 : b.hs.length = 0
    · exact ⟨0, 4, fun w k => Ask_none b p c w (hB.below k.b) hb h0, fun w k => refAsk_none b p c w (hB.below k.b) hb h0⟩
    · exact ⟨_, 0, fun w k => Ask_yes b p c w (hB.below k.b) hb (by omega), fun w k => refAsk_yes b p c w (hB.below k.b) hb (by omega)⟩

set_option maxRecDepth 10000 in
set_option maxHeartbeats 3200000 in
theorem FillBests_any (b : Bf) (p : Option Addr) (c : Nat) (w : World) (hB : BfAt w p c b) :
    Calls Try.prog 5 #[.agg (bfA b p c)] w fun e w' => e = .returned (.bool true) ∧ Below w.heap.size w w' := by
  obtain ⟨W0, hW0⟩ : ∃ W, W = w.alloc (.cells (bfA b p c) 24) := ⟨_, rfl⟩
  have HW0 := Lib.hid hW0
  have HE := Lib.hid (show Below w.heap.size w W0 by rw [hW0]; exact below_alloc _ _)
  have HR := Lib.hid (show Row W0 w.heap.size (bfA b p c) 24 by rw [hW0]; exact Row.new w _ _)
  have g0 := HR.out.cell 0 (v := .int .i64 b.pr) rfl
  have g1 := HR.out.cell 1 (v := .int .i64 b.le) rfl
  have g2 := HR.out.cell 2 (v := .int .i64 b.mo) rfl
  have g3 := HR.out.cell 3 (v := .int .i64 b.gr) rfl
  have g4 := HR.out.cell 4 (v := .slice p b.hs.length c) rfl
  clear hW0
  obtain ⟨z0, hz0⟩ : ∃ z : Later W0, W0 = z.w := ⟨⟨W0, Below.refl _ _⟩, rfl⟩
  have HZ0 := Lib.hid hz0
  clear hz0
  obtain ⟨L, E1, hLn, hA1, hA2⟩ := best_both b p c W0 (hB.below HE.out)
  obtain ⟨v2, E2, hB1, hB2⟩ := boxes_both b p c W0 (hB.below HE.out)
  obtain ⟨v3, E3, hC1, hC2⟩ := ask_both b p c W0 (hB.below HE.out)
  have A1 := Lib.hid hA1
  have A2 := Lib.hid hA2
  have B1 := Lib.hid hB1
  have B2 := Lib.hid hB2
  have C1 := Lib.hid hC1
  have C2 := Lib.hid hC2
  clear hA1 hA2 hB1 hB2 hC1 hC2 hB
  go_enter Try.func5, Try.ntmps5
  go_wp2_with fail
  rw [← HW0.out, HZ0.out]
  refine (A1.out _ z0.fr).mono ?_
  rintro e u ⟨p1, c1, rfl, hi1, hbu⟩
  have HL1 := Lib.hid hi1
  obtain ⟨z1, hz⟩ := z0.on hbu
  subst hz
  clear hbu hi1
  go_wp2_with fail
  refine (A2.out _ z1.fr).mono ?_
  rintro e u ⟨p2, c2, rfl, hi1, hbu⟩
  have HL1 := Lib.hid (HL1.out.below hbu)
  have HL2 := Lib.hid hi1
  obtain ⟨z2, hz⟩ := z1.on hbu
  subst hz
  clear hbu hi1
  go_wp2_with fail
  refine (alike_same _ _ _ _ L _ hLn HL1.out HL2.out).mono ?_
  rintro e u ⟨rfl, hbu⟩
  obtain ⟨z3, hz⟩ := z2.on hbu
  subst hz
  clear hbu
  go_wp2_with fail
  refine (B1.out _ z3.fr).mono ?_
  rintro e u ⟨rfl, hbu⟩
  obtain ⟨z4, hz⟩ := z3.on hbu
  subst hz
  clear hbu
  go_wp2_with fail
  refine (B2.out _ z4.fr).mono ?_
  rintro e u ⟨rfl, hbu⟩
  obtain ⟨z5, hz⟩ := z4.on hbu
  subst hz
  clear hbu
  go_wp2_with fail
  refine (C1.out _ z5.fr).mono ?_
  rintro e u ⟨rfl, hbu⟩
  obtain ⟨z6, hz⟩ := z5.on hbu
  subst hz
  clear hbu
  go_wp2_with fail
  refine (C2.out _ z6.fr).mono ?_
  rintro e u ⟨rfl, hbu⟩
  obtain ⟨z7, hz⟩ := z6.on hbu
  subst hz
  clear hbu
  go_wp2_with fail
  refine (filled_any _).mono ?_
  rintro e u ⟨rfl, hbu⟩
  obtain ⟨z8, hz⟩ := z7.on hbu
  subst hz
  clear hbu
  go_wp2_with fail
  go_ret
  exact ⟨rfl, z8.base HE.out⟩
end Go.Proofs.Ytgdidhbomdfcpaa
