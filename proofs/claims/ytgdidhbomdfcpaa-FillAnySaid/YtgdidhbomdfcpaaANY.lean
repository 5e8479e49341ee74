/- A region whose last operations wait for all others: the others are walked once, in the order of the text; then the last ones. -/
import Derived.Test.YtgdidhbomdfcpaaLF
import Derived.Deep.Quiet
import Derived.Test.YtgdidhbomdfcpaaF51
import Derived.Test.YtgdidhbomdfcpaaASK
import Derived.Laws.OwnMore
import Derived.Test.YtgdidhbomdfcpaaR
import Derived.Test.YtgdidhbomdfcpaaF39
import Derived.Test.YtgdidhbomdfcpaaF37
import Derived.Test.YtgdidhbomdfcpaaF17
import Derived.Test.YtgdidhbomdfcpaaF38
import Derived.Deep.Upon
namespace Go.Proofs.Ytgdidhbomdfcpaa
open Go.RowKit Go.Maps

/-- The operation, but that it does nothing. -/
def idleOp (s : Oper) : Oper := { s with dst := none, op := .move (.const undef), guard := none }
def idled (l t : List Oper) : Array Oper := (l ++ t.map idleOp).toArray
/-- No guard of these operations lies behind them. -/
def guardB (l : List Oper) : Bool := l.all fun o => match o.guard with
  | none => true
  | some (j, _) => decide (j < l.length)
/-- Each operation waits for earlier ones only. -/
def lowB (ops : Array Oper) : Bool := (List.range ops.size).all fun i => match ops[i]? with
  | none => true
  | some o => o.after.all fun e => !Region.binds .any e || decide (e.on < i)
/-- From one on, each operation waits for all earlier ones. -/
def lateB (m : Nat) (ops : Array Oper) : Bool := (List.range ops.size).all fun k => decide (k < m) || (List.range k).all fun i => match ops[k]? with
  | none => true
  | some o => o.after.any fun e => Region.binds .any e && e.on == i

section
variable {P : Program} {C : World → Prop} {l t : List Oper} {listed : Array Bool}

theorem idled_size : (idled l t).size = (l ++ t).toArray.size := by simp [idled]
theorem idled_lt {i : Nat} (h : i < l.length) : (idled l t)[i]? = (l ++ t).toArray[i]? := by
  simp [idled, List.getElem?_append_left h]
theorem idled_ge {i : Nat} {o : Oper} (h : l.length ≤ i) (ho : (l ++ t).toArray[i]? = some o) : (idled l t)[i]? = some (idleOp o) := by
  simp only [List.getElem?_toArray, List.getElem?_append_right h] at ho
  simp [idled, List.getElem?_append_right h, ho]
theorem idled_after (i : Nat) : ((idled l t)[i]?).map (·.after) = ((l ++ t).toArray[i]?).map (·.after) := by
  by_cases h : i < l.length
  · rw [idled_lt h]
  · cases ho : (l ++ t).toArray[i]? with
    | none =>
      have h1 : (l ++ t).toArray.size ≤ i := Array.getElem?_eq_none_iff.1 ho
      rw [← idled_size] at h1
      rw [Array.getElem?_eq_none_iff.2 h1]
    | some o => rw [idled_ge (by omega) ho]; rfl
theorem ready_idled : Region.ready .any (idled l t) listed = Region.ready .any (l ++ t).toArray listed := by
  unfold Region.ready
  rw [idled_size]
  refine List.filter_congr fun i _ => ?_
  congr 1
  have h := idled_after (l := l) (t := t) i
  have key : ∀ x : Option Oper, (x.map fun o => o.after.all fun e => !Region.binds .any e || listed.getD e.on false) = (x.map (·.after)).map fun a => a.all fun e => !Region.binds .any e || listed.getD e.on false := fun x => by cases x <;> rfl
  rw [key, key, h]
theorem wanted_idled (hg : guardB l = true) {o : Oper} (ho : o ∈ l) (tmps : Array Value) : Region.wanted o (yielded (idled l t) tmps) = Region.wanted o (yielded (l ++ t).toArray tmps) := by
  have h := List.all_eq_true.1 hg o ho
  unfold Region.wanted
  cases hgd : o.guard with
  | none => rfl
  | some g =>
    obtain ⟨j, b⟩ := g
    rw [hgd] at h
    simp only [decide_eq_true_eq] at h
    simp only
    unfold yielded
    rw [idled_lt h]
theorem getD_size {i : Nat} (h : i < listed.size) : listed.getD i true = listed.getD i false := by simp [Array.getD, h]
theorem getD_lt {i : Nat} (h : listed.getD i true = false) : i < listed.size := by
  by_cases e : i < listed.size
  · exact e
  · simp [Array.getD, e] at h
theorem ready_some {ops : Array Oper} (hl : lowB ops = true) (hs : listed.size = ops.size) : ∀ k, listed.getD k true = false → ∃ i, i ∈ Region.ready .any ops listed := by
  intro k
  induction k using Nat.strongRecOn with
  | _ k ih =>
    intro hk
    have hlt := getD_lt hk
    have ho : ops[k]? = some ops[k] := Array.getElem?_eq_getElem (by omega)
    by_cases hall : ∀ e ∈ (ops[k]).after, Region.binds .any e = true → listed.getD e.on false = true
    · exact ⟨k, mem_ready.2 ⟨hk, _, ho, hall⟩⟩
    · obtain ⟨e, he⟩ := Classical.not_forall.1 hall
      obtain ⟨h1, he⟩ := Classical.not_imp.1 he
      obtain ⟨h2, h3⟩ := Classical.not_imp.1 he
      have h4 := List.all_eq_true.1 hl k (List.mem_range.2 (by omega))
      rw [ho] at h4
      simp only at h4
      have h5 := Array.all_eq_true_iff_forall_mem.1 h4 e h1
      rw [h2] at h5
      simp only [Bool.not_true, Bool.false_or, decide_eq_true_eq] at h5
      refine ih e.on h5 ?_
      rw [getD_size (by omega)]
      simpa using h3
theorem ready_late {ops : Array Oper} {m k i : Nat} (h : lateB m ops = true) (hk : k ∈ Region.ready .any ops listed) (hm : m ≤ k) (hi : i < k) : listed.getD i false = true := by
  obtain ⟨_, o, ho, hall⟩ := mem_ready.1 hk
  have hlt : k < ops.size := (Array.getElem?_eq_some_iff.1 ho).1
  have h1 := List.all_eq_true.1 h k (List.mem_range.2 hlt)
  rw [Bool.or_eq_true] at h1
  rcases h1 with h1 | h1
  · simp only [decide_eq_true_eq] at h1
    omega
  · have h2 := List.all_eq_true.1 h1 i (List.mem_range.2 hi)
    rw [ho] at h2
    obtain ⟨e, he, hb⟩ := Array.any_eq_true'.1 h2
    simp only [Bool.and_eq_true, beq_iff_eq] at hb
    rw [← hb.2]
    exact hall e he hb.1
/-- The first ones are listed, the others not. -/
structure Upto (k : Nat) (listed : Array Bool) : Prop where
  y : ∀ i, i < k → listed.getD i false = true
  n : ∀ i, k ≤ i → i < listed.size → listed.getD i true = false
theorem Upto.set {k : Nat} (h : Upto k listed) (hk : k < listed.size) : Upto (k + 1) (listed.setIfInBounds k true) := by
  constructor
  · intro i hi
    by_cases e : k = i
    · subst e
      simp [hk]
    · rw [getD_set_ne false e]; exact h.y i (by omega)
  · intro i hi hs
    rw [getD_set_ne true (by omega)]
    exact h.n i (by omega) (by simpa using hs)
/-- At the last operations: they alone may come up, each behind the one before. -/
theorem ready_last {ops : Array Oper} {m k i : Nat} (hl : lateB m ops = true) (hs : listed.size = ops.size) (hm : m ≤ k) (h : Upto k listed) (hi : i ∈ Region.ready .any ops listed) : i = k := by
  have h1 := (mem_ready.1 hi).1
  have hlt := getD_lt h1
  by_cases e : i < k
  · have h2 := h.y i e
    rw [getD_size hlt] at h1
    rw [h1] at h2
    cases h2
  · by_cases e2 : i = k
    · exact e2
    · have h2 := ready_late hl hi (by omega) (i := k) (by omega)
      have h3 := h.n k (Nat.le_refl _) (by omega)
      rw [getD_size (by omega)] at h3
      rw [h3] at h2
      cases h2
theorem last_walk {R : Act → Prop} {Q' : Exit → Act → World → Prop} (h1 : lowB (l ++ t).toArray = true) (h2 : lateB l.length (l ++ t).toArray = true) :
    ∀ (fuel : Nat) (r : List Oper) (k : Nat) (listed : Array Bool) (a a' : Act) (w : World), (∀ j, r[j]? = (l ++ t).toArray[k + j]?) → l.length ≤ k → k ≤ (l ++ t).toArray.size → listed.size = (l ++ t).toArray.size → Upto k listed →
      wpAnyQ P .any (idled l t) C R fuel listed a → (R a ∧ (wpList P (l ++ t).toArray Q' r a' w → wpAny P .any (l ++ t).toArray Q' fuel listed a' w))
  | 0, r, k, listed, a, a', w, hr, hk, hks, hs, hu, h => by
    refine ⟨h.2, fun hw => ⟨by rw [← ready_idled]; exact h.1, ?_⟩⟩
    cases r with
    | nil => exact hw
    | cons o r =>
      have ho : (l ++ t).toArray[k]? = some o := by simpa using (hr 0).symm
      have hlt := (Array.getElem?_eq_some_iff.1 ho).1
      obtain ⟨i, hi⟩ := ready_some h1 hs k (hu.n k (Nat.le_refl _) (by omega))
      rw [← ready_idled, h.1] at hi
      cases hi
  | fuel + 1, r, k, listed, a, a', w, hr, hk, hks, hs, hu, h => by
    cases r with
    | nil =>
      have hsz : (l ++ t).toArray.size ≤ k := by
        have := hr 0
        simp only [List.getElem?_nil, Nat.add_zero] at this
        exact Array.getElem?_eq_none_iff.1 this.symm
      have hre : Region.ready .any (l ++ t).toArray listed = [] := by
        rw [List.eq_nil_iff_forall_not_mem]
        intro i hi
        have := ready_last h2 hs hk hu hi
        have hlt := getD_lt (mem_ready.1 hi).1
        omega
      exact ⟨h.1 (by rw [ready_idled]; exact hre), fun hw => wpAny_done hre hw _⟩
    | cons o r =>
      have ho : (l ++ t).toArray[k]? = some o := by simpa using (hr 0).symm
      have hlt := (Array.getElem?_eq_some_iff.1 ho).1
      obtain ⟨i, hi⟩ := ready_some h1 hs k (hu.n k (Nat.le_refl _) (by omega))
      have hik := ready_last h2 hs hk hu hi
      subst hik
      have hq := h.2 i (by rw [ready_idled]; exact hi)
      unfold qOp at hq
      rw [idled_ge hk ho] at hq
      simp only at hq
      rw [if_pos (by rfl)] at hq
      obtain ⟨v, _, hq⟩ := hq
      have hr' : ∀ j, r[j]? = (l ++ t).toArray[i + 1 + j]? := fun j => by
        have := hr (j + 1)
        simpa [Nat.add_assoc, Nat.add_comm 1 j] using this
      have ih := fun a'' w'' => last_walk (Q' := Q') h1 h2 fuel r (i + 1) (listed.setIfInBounds i true) a a'' w'' hr' (by omega) (by omega) (by simpa using hs) (hu.set (by omega)) hq
      refine ⟨(ih a' w).1, fun hw => ⟨fun h0 => absurd hi (by rw [h0]; exact List.not_mem_nil), fun j hj => ?_⟩⟩
      have hjk := ready_last h2 hs hk hu hj
      subst hjk
      unfold wpOp
      rw [ho]
      simp only
      unfold wpList at hw
      split at hw
      · rename_i hwt
        rw [if_pos hwt]
        rcases hw with hw | hw
        · exact .inl (Oper.wp_mono (fun a'' w'' h'' => (ih a'' w'').2 h'') hw)
        · exact .inr hw
      · rename_i hwt
        rw [if_neg hwt]
        exact (ih _ _).2 hw
theorem first_walk {R : Act → Prop} {Q' : Exit → Act → World → Prop} (hg : guardB l = true) (h1 : lowB (l ++ t).toArray = true) (h2 : lateB l.length (l ++ t).toArray = true)
    (hR : ∀ a w, C w → R a → wpList P (l ++ t).toArray Q' t a w) :
    ∀ (fuel : Nat) (listed : Array Bool) (a : Act) (w : World), listed.size = (l ++ t).toArray.size → (∀ i, l.length ≤ i → i < listed.size → listed.getD i true = false) → C w →
      wpAnyQ P .any (idled l t) C R fuel listed a → wpAny P .any (l ++ t).toArray Q' fuel listed a w := by
  intro fuel
  have hlast : ∀ fuel (listed : Array Bool) (a : Act) (w : World), listed.size = (l ++ t).toArray.size → (∀ i, l.length ≤ i → i < listed.size → listed.getD i true = false) → (∀ i, i < l.length → listed.getD i false = true) → C w →
      wpAnyQ P .any (idled l t) C R fuel listed a → wpAny P .any (l ++ t).toArray Q' fuel listed a w := fun fuel listed a w hs hun hall hC h => by
    have := last_walk (Q' := Q') h1 h2 fuel t l.length listed a a w (fun j => by rw [List.getElem?_toArray, List.getElem?_append_right (by omega)]; simp) (Nat.le_refl _) (by simp) hs ⟨hall, hun⟩ h
    exact this.2 (hR a w hC this.1)
  induction fuel with
  | zero =>
    intro listed a w hs hun hC h
    by_cases hall : ∀ i, i < l.length → listed.getD i false = true
    · exact hlast 0 listed a w hs hun hall hC h
    · obtain ⟨i, hi⟩ := Classical.not_forall.1 hall
      obtain ⟨hi1, hi2⟩ := Classical.not_imp.1 hi
      have hsz : listed.size = l.length + t.length := by rw [hs]; simp
      obtain ⟨j, hj⟩ := ready_some h1 hs i (by rw [getD_size (by omega)]; simpa using hi2)
      rw [← ready_idled, h.1] at hj
      cases hj
  | succ fuel ih =>
    intro listed a w hs hun hC h
    by_cases hall : ∀ i, i < l.length → listed.getD i false = true
    · exact hlast _ listed a w hs hun hall hC h
    · obtain ⟨i, hi⟩ := Classical.not_forall.1 hall
      obtain ⟨hi1, hi2⟩ := Classical.not_imp.1 hi
      have hsz : listed.size = l.length + t.length := by rw [hs]; simp
      obtain ⟨j, hj⟩ := ready_some h1 hs i (by rw [getD_size (by omega)]; simpa using hi2)
      refine ⟨fun h0 => absurd hj (by rw [h0]; exact List.not_mem_nil), fun k hk => ?_⟩
      have hkl : k < l.length := by
        by_cases e : k < l.length
        · exact e
        · exact absurd (fun i hi => ready_late h2 hk (by omega) (by omega)) hall
      obtain ⟨_, o, ho, _⟩ := mem_ready.1 hk
      have hq := h.2 k (by rw [ready_idled]; exact hk)
      have hol : o ∈ l := by
        have : l[k]? = some o := by
          have := ho
          simp only [List.getElem?_toArray, List.getElem?_append_left hkl] at this
          exact this
        exact List.mem_of_getElem? this
      have hq2 : qOp P (l ++ t).toArray C k (wpAnyQ P .any (idled l t) C R fuel (listed.setIfInBounds k true)) a := by
        unfold qOp at hq ⊢
        rw [idled_lt hkl] at hq
        rw [ho] at hq ⊢
        simp only at hq ⊢
        rw [wanted_idled hg hol] at hq
        exact hq
      exact wpOp_of_qOp hC (fun a' w' hw' hh => ih (listed.setIfInBounds k true) a' w' (by simpa using hs) (fun i' hi1' hi2' => by
        rw [getD_set_ne true (by omega)]
        exact hun i' hi1' (by simpa using hi2')) hw' hh) hq2
theorem wpQuiet_app {ops ops' : Array Oper} {R : Act → Prop} (hw : ∀ o ∈ l, ∀ tmps, Region.wanted o (yielded ops' tmps) = Region.wanted o (yielded ops tmps)) : ∀ (r : List Oper) (_ : ∀ o ∈ r, o ∈ l) (a : Act), wpQuiet P ops C R r a → wpQuiet P ops' C R (r ++ t.map idleOp) a
  | [], _, a, h => by
    have key : ∀ (t : List Oper) (a : Act), R a → wpQuiet P ops' C R (t.map idleOp) a := by
      intro t
      induction t with
      | nil => exact fun a h => h
      | cons s t ih =>
        intro a h
        show if Region.wanted (idleOp s) (yielded ops' a.tmps) = true then (idleOp s).quiet P a C (wpQuiet P ops' C R (t.map idleOp)) else _
        rw [if_pos (by rfl)]
        exact ⟨undef, fun w _ => by unfold Oper.quietAt; rw [show (execOp a.eval (idleOp s)) = _ from rfl]; exact ⟨rfl, rfl⟩, ih a h⟩
    exact key t a h
  | o :: r, hr, a, h => by
    have h' : if Region.wanted o (yielded ops a.tmps) = true then o.quiet P a C (wpQuiet P ops C R r) else wpQuiet P ops C R r (a.put o.dst undef) := h
    show if Region.wanted o (yielded ops' a.tmps) = true then o.quiet P a C (wpQuiet P ops' C R (r ++ t.map idleOp)) else wpQuiet P ops' C R (r ++ t.map idleOp) (a.put o.dst undef)
    rw [hw o (hr o (by simp))]
    split at h'
    · rename_i e
      rw [if_pos e]
      exact Oper.quiet_mono (fun a' h'' => wpQuiet_app hw r (fun o' ho' => hr o' (by simp [ho'])) a' h'') h'
    · rename_i e
      rw [if_neg e]
      exact wpQuiet_app hw r (fun o' ho' => hr o' (by simp [ho'])) _ h'
/-- **A region whose last operations wait for all others**: the first ones are walked once, each of them quiet; behind them, in each world of the class, the last ones in their order. -/
theorem wp_region_last {id : Nat} {Q : Exit → Act → World → Prop} {a : Act} {w : World} (l t : List Oper) (hm : P.follows .mixedOrders = true) (hB : Region.lexB .any (idled l t) = true) (hg : guardB l = true) (h1 : lowB (l ++ t).toArray = true) (h2 : lateB l.length (l ++ t).toArray = true)
    (h : wpQuiet P (l ++ t).toArray (fun w' => ∃ x : Later w, w' = x.w) (fun a' => ∀ w', (∃ x : Later w, w' = x.w) → wpList P (l ++ t).toArray Q t a' w') l a) : (Code.region id (l ++ t).toArray true).wp P Q a w := by
  simp only [Region.lexB, Bool.and_eq_true] at hB
  refine wp_region_any hm ?_
  refine first_walk (C := fun w' => ∃ x : Later w, w' = x.w) (R := fun a' => ∀ w', (∃ x : Later w, w' = x.w) → wpList P (l ++ t).toArray Q t a' w') hg h1 h2 (fun a' w' hC hR => hR w' hC) _ _ _ _ (by simp) (fun i _ hi => by simp at hi; simp [hi]) ⟨⟨w.drew, (Below.refl _ _).drew⟩, rfl⟩ ?_
  have hq := wpQuiet_app (ops' := idled l t) (l := l) (t := t) (fun o ho tmps => wanted_idled hg ho tmps) l (fun o ho => ho) a h
  have := wpAnyQ_lex (C := fun w' => ∃ x : Later w, w' = x.w) (md := .any) hB.1 (l ++ t.map idleOp) 0 (Array.replicate (idled l t).size false) a (by simp [idled]) (by simpa [idled] using hB.2) hq
  simpa [idled] using this
/-- The same, the last operations counted. -/
theorem wp_region_tail {id : Nat} {Q : Exit → Act → World → Prop} {a : Act} {w : World} {L : List Oper} (m : Nat) (hm : P.follows .mixedOrders = true) (hB : Region.lexB .any (idled (L.take m) (L.drop m)) = true) (hg : guardB (L.take m) = true) (h1 : lowB L.toArray = true) (h2 : lateB m L.toArray = true) (hl : (L.take m).length = m)
    (h : wpQuiet P L.toArray (fun w' => ∃ x : Later w, w' = x.w) (fun a' => ∀ w', (∃ x : Later w, w' = x.w) → wpList P L.toArray Q (L.drop m) a' w') (L.take m) a) : (Code.region id L.toArray true).wp P Q a w := by
  have e := List.take_append_drop m L
  have key := wp_region_last (P := P) (id := id) (Q := Q) (a := a) (w := w) (L.take m) (L.drop m) hm hB hg (by rw [e]; exact h1) (by rw [e, hl]; exact h2) (by rw [e]; exact h)
  rw [e] at key
  exact key
end
end Go.Proofs.Ytgdidhbomdfcpaa
/- The law's own helpers of layer 5: numbers with the other sign; the sum of the least numbers. -/
namespace Go.Proofs.Ytgdidhbomdfcpaa
open Go.RowKit Go.Maps
attribute [local go_sem] Oper.semAt_some

def negL (l : List Int) : List Int := l.map fun x => -x
set_option maxRecDepth 10000 in
set_option maxHeartbeats 1600000 in
theorem turned_any (p : Option Addr) (c : Nat) (l : List Int) (w : World) (hI : IntsAt w p l) (hn : l.length ≤ 100) (hr : ∀ x ∈ l, -100000 ≤ x ∧ x ≤ 100000) :
    Calls Try.prog 51 #[.slice p l.length c] w fun e w' => ∃ q cq, e = .returned (.slice q l.length cq) ∧ IntsAt w' q (negL l) ∧ Below w.heap.size w w' := by
  obtain ⟨i0, hi, hi0, hi1, hi2⟩ := info_parts Try.infoInt
  have HI := Lib.hid hI
  have HRG := Lib.hid hr
  clear hI hr
  go_enter Try.func51, Try.ntmps51
  go_wp2_with fail
  go_loopw [3, 4] (fun ls i wr => ∃ (k : Nat) (x : Later w), k ≤ l.length ∧ i = .int .i64 (k : Int) ∧ wr.ownsRow w.heap.size 3 1 ls k ((negL (l.take k)).map (Value.int .i64)) ∧ wr = x.w) (fun _ i _ => l.length - (intOf i).toNat)
  case atStart => exact ⟨0, ⟨w, Below.refl _ _⟩, by omega, rfl, World.ownsRow_nil _ _ _ _, rfl⟩
  case round =>
    obtain ⟨k, x, hk, rfl, hown, rfl⟩ := hrel
    obtain ⟨pl, cl, rfl⟩ := owns_slice hown
    have HO2 := Lib.hid hown
    clear hown
    have hzx := x.b.size
    by_cases hlt : k < l.length
    · obtain ⟨bb, o, rfl, hc⟩ := HI.out k hlt
      have hrg := HRG.out (at0 l k) (at0_mem hlt)
      have HS := Lib.hid (show negL (l.take (k + 1)) = negL (l.take k) ++ [-(at0 l k)] by unfold negL; rw [List.take_succ_eq_append_getElem hlt, List.map_append, at0_lt hlt]; rfl)
      have HLN := Lib.hid (show (negL (l.take k)).length = k by unfold negL; rw [List.length_map, List.length_take]; omega)
      obtain ⟨y, hy⟩ : ∃ y, at0 l k = y := ⟨_, rfl⟩
      rw [hy] at hc hrg HS
      clear hy
      have i1 : (0 : Int) ≤ (k : Int) := by omega
      have i2 : (k : Int) < (l.length : Int) := by omega
      have e1 : IntKind.i64.wrap (-y) = -y := IntWalk.i64_in _ (by omega)
      go_wp2_with (first
        | (at_builtin; (refine wpList_append_own _ rfl _ _ 38 rfl w.heap.size 3 i0 (.int .i64 0) 1 8 Try.underlying38 hi hi0 hi1 hi2 rfl (by decide) _ _ _ rfl (HO2.out.alloc _) ⟨x.w.heap.size, 0, none⟩ 1 1 [.int .i64 (-y)] rfl rfl (cell_one_new _ _ _) (by simp [Value.oneCell']) (by unfold maxLen; omega) (by omega) (by simp; omega) ?_); intro v' w2 hown' hgrow _; have HO3 := Lib.hid hown'; have hg2 : Below w.heap.size x.w w2 := ((Below.refl _ _).alloc (by omega) _).grown hgrow (by simp; omega) (fun k hk => (HO2.out.lt k hk).1); obtain ⟨x3, hx3⟩ := later_of (x.b.trans hg2); clear hg2 hown' hgrow))
      subst hx3
      go_roundw
      case rel => exact ⟨k + 1, x3, by omega, by go_num, by rw [HS.out]; simpa using HO3.out, rfl⟩
      case measure => simp [intOf]; omega
    · obtain rfl : k = l.length := by omega
      have HLN := Lib.hid (show (negL l).length = l.length by unfold negL; rw [List.length_map])
      have HO3 := Lib.hid (by have h := HO2.out; rw [List.take_length] at h; exact h)
      obtain ⟨p', c', hv, hints, _⟩ := ints_of_owns2 (xs := negL l) (by rw [HLN.out]; exact HO3.out)
      rw [HLN.out] at hv
      cases hv
      have HIN := Lib.hid hints
      clear hints
      go_wp2_with fail
      go_ret
      exact ⟨_, _, rfl, HIN.out, x.b⟩
end Go.Proofs.Ytgdidhbomdfcpaa
/- The law's own helpers of layer 5: the sum of the least numbers of a list. -/
namespace Go.Proofs.Ytgdidhbomdfcpaa
open Go.RowKit Go.Maps
attribute [local go_sem] Oper.semAt_some

/-- Numbers in a block of one's own. -/
def ArrAt (w : World) (g : Nat) (xs : List Int) : Prop := ∃ cur, Row w g cur 3 ∧ ∀ i, i < xs.length → cur[i]? = some (.int .i64 (at0 xs i))
theorem ArrAt.cell {w : World} {g : Nat} {xs : List Int} (h : ArrAt w g xs) {i : Nat} (hi : i < xs.length) : w.cell? ⟨g, i, none⟩ = some (.int .i64 (at0 xs i)) := by
  obtain ⟨cur, hr, hc⟩ := h
  exact hr.cell i (hc i hi)
theorem ArrAt.free {w : World} {g : Nat} {xs : List Int} (h : ArrAt w g xs) (i : Nat) : w.frozen? ⟨g, i, none⟩ = false := by
  obtain ⟨cur, hr, _⟩ := h
  exact hr.free i
theorem ArrAt.lt {w : World} {g : Nat} {xs : List Int} (h : ArrAt w g xs) : g < w.heap.size := by
  obtain ⟨cur, hr, _⟩ := h
  exact hr.lt
theorem ArrAt.below {w w' : World} {g : Nat} {xs : List Int} (h : ArrAt w g xs) (hb : Below w.heap.size w w') : ArrAt w' g xs := by
  obtain ⟨cur, hr, hc⟩ := h
  exact ⟨cur, hr.below hb hr.lt, hc⟩
theorem ArrAt.drew {w : World} {g : Nat} {xs : List Int} (h : ArrAt w g xs) : ArrAt w.drew g xs := by
  obtain ⟨cur, hr, hc⟩ := h
  exact ⟨cur, hr.drew, hc⟩
theorem at0_set {xs : List Int} {i : Nat} (x : Int) {j : Nat} (hj : j < xs.length) : at0 (xs.set i x) j = if i = j then x else at0 xs j := by
  rw [at0_lt (by rw [List.length_set]; exact hj), List.getElem_set, at0_lt hj]
theorem ArrAt.set {w : World} {g : Nat} {xs : List Int} (h : ArrAt w g xs) {i : Nat} (hi : i < xs.length) (x : Int) : ArrAt (w.setCell ⟨g, i, none⟩ (.int .i64 x)) g (xs.set i x) := by
  obtain ⟨cur, hr, hc⟩ := h
  refine ⟨_, hr.set i _, fun j hj => ?_⟩
  rw [List.length_set] at hj
  rw [at0_set x hj]
  have hsz : i < cur.size := (Array.getElem?_eq_some_iff.1 (hc i hi)).1
  by_cases e : i = j
  · subst e
    rw [if_pos rfl]
    simp [hsz]
  · rw [if_neg e, Array.getElem?_setIfInBounds_ne e]
    exact hc j hj
/-- A copy of a list. -/
theorem copy_first (w : World) (l : List Int) (p : Option Addr) (c : Nat) (h : IntsAt w p l) (hn : l.length ≤ 1000) (h0 : 0 < l.length) (base z : Nat) (hz : base ≤ z) (hzw : z < w.heap.size) (hr : Row w z #[] 3) (ty : TypeId) :
    ∃ g cap w', (Builtin.append_ #[38, 38] ty #[.slice (some ⟨z, 0, none⟩) 0 0, .slice p l.length c]).run Try.prog w = .ok (.slice (some ⟨g, 0, none⟩) l.length cap) w' ∧ ArrAt w' g l ∧ base ≤ g ∧ l.length ≤ cap ∧ Below base w w' := by
  obtain ⟨i0, hi, hi0, hi1, hi2⟩ := info_parts Try.infoInt
  have hown : w.ownsRow base 3 1 (.slice (some ⟨z, 0, none⟩) 0 0) 0 [] := ⟨rfl, .inr ⟨z, 0, #[], rfl, hz, hr, Nat.le_refl _, by unfold maxLen; omega, rfl, rfl⟩⟩
  have hb : Below base w w := Below.refl _ _
  rcases p with _ | a
  · obtain ⟨_, _, e, _⟩ := h 0 h0
    cases e
  · obtain ⟨v', w', h1, h2, h3, _⟩ := run_append_own (P := Try.prog) w base 38 ty 3 i0 _ 1 8 Try.underlying38 hi hi0 hi1 hi2 rfl (by decide) (.slice (some ⟨z, 0, none⟩) 0 0) 0 [] hown a l.length c (l.map (Value.int .i64)) (by simp) (fun j u hj => by
        have hl : j < l.length := by have := (List.getElem?_eq_some_iff.1 hj).1; simpa using this
        obtain ⟨b', o', e, hcc⟩ := h j hl
        cases e
        rw [Addr.add_lit, hcc]
        rw [List.getElem?_map, List.getElem?_eq_getElem hl] at hj
        rw [at0_lt hl]; simpa using hj) (by
        intro u hu
        obtain ⟨x, _, rfl⟩ := List.mem_map.1 hu
        rfl) (by unfold maxLen; omega) (by omega) (by omega)
    rw [Nat.zero_add, List.nil_append] at h2
    rcases h2.2 with ⟨_, h0'⟩ | ⟨g, cap, cur, hv, hg, hh, hle, _, _, h4⟩
    · omega
    · refine ⟨g, cap, w', by rw [h1, hv], ⟨cur, hh, fun i hi => ?_⟩, hg, hle, hb.grown h3 (by omega) (fun k hk => by simp [Value.ownBlock] at hk; omega)⟩
      have e : (cur.toList.take (l.length * 1))[i]? = some (.int .i64 (at0 l i)) := by
        rw [h4, List.getElem?_map, List.getElem?_eq_getElem hi, at0_lt hi]
        rfl
      rw [List.getElem?_take_of_lt (by omega)] at e
      simpa using e
theorem set_perm : ∀ (r : List Int) (j : Nat) (a : Int) (h : j < r.length), (r[j] :: r.set j a).Perm (a :: r)
  | b :: s, 0, a, _ => List.Perm.swap _ _ _
  | b :: s, j + 1, a, h => by
    have ih := set_perm s j a (by simpa using h)
    simp only [List.getElem_cons_succ, List.set_cons_succ]
    exact (List.Perm.swap _ _ _).trans ((ih.cons b).trans (List.Perm.swap _ _ _))
theorem swap_perm : ∀ (i : Nat) (l : List Int) (k : Nat) (hik : i < k) (hk : k < l.length), ((l.set i (l[k])).set k (l[i]'(Nat.lt_trans hik hk))).Perm l
  | 0, a :: r, k + 1, _, hk => by
    simp only [List.getElem_cons_succ, List.set_cons_zero, List.set_cons_succ, List.getElem_cons_zero]
    exact set_perm r k a (by simpa using hk)
  | i + 1, b :: r, k + 1, hik, hk => by
    simp only [List.getElem_cons_succ, List.set_cons_succ]
    exact (swap_perm i r k (by omega) (by simpa using hk)).cons b
/-- The list, sorted as far as some first numbers go. -/
structure Sel (l : List Int) (i : Nat) (xs : List Int) : Prop where
  p : xs.Perm l
  s : ∀ p q, p < i → p < q → q < l.length → at0 xs p ≤ at0 xs q
def swapL (xs : List Int) (i k : Nat) : List Int := (xs.set i (at0 xs k)).set k (at0 xs i)
theorem swap_at {xs : List Int} {i k q : Nat} (hk : k < xs.length) (hq : q < xs.length) : at0 (swapL xs i k) q = if k = q then at0 xs i else if i = q then at0 xs k else at0 xs q := by
  unfold swapL
  rw [at0_set _ (by rw [List.length_set]; exact hq), at0_set _ hq]
theorem Sel.len {l xs : List Int} {i : Nat} (h : Sel l i xs) : xs.length = l.length := h.p.length_eq
theorem Sel.swap {l xs : List Int} {i k : Nat} (h : Sel l i xs) (hik : i < k) (hk : k < l.length) : Sel l i (swapL xs i k) := by
  have hl := h.len
  refine ⟨?_, fun p q hp hpq hq => ?_⟩
  · have := swap_perm i xs k hik (by omega)
    rw [← at0_lt, ← at0_lt] at this
    exact this.trans h.p
  · rw [swap_at (by omega) (by omega), swap_at (by omega) (by omega), if_neg (by omega), if_neg (by omega)]
    split
    · exact h.s p i hp (by omega) (by omega)
    · split
      · exact h.s p k hp (by omega) hk
      · exact h.s p q hp hpq hq
theorem Sel.next {l xs : List Int} {i : Nat} (h : Sel l i xs) (hm : ∀ q, i < q → q < l.length → at0 xs i ≤ at0 xs q) : Sel l (i + 1) xs :=
  ⟨h.p, fun p q hp hpq hq => by
    by_cases e : p = i
    · subst e; exact hm q hpq hq
    · exact h.s p q (by omega) hpq hq⟩
theorem Sel.take {l xs : List Int} {m : Nat} (h : Sel l m xs) (hm : m ≤ l.length) : xs.take m = (sortL l).take m := by
  have hl := h.len
  have e : sortL l = xs.take m ++ sortL (xs.drop m) := by
    refine sortL_eq ?_ ?_
    · rw [List.pairwise_append]
      refine ⟨?_, sortL_sorted _, fun a ha b hb => ?_⟩
      · rw [List.pairwise_iff_getElem]
        intro p q hp hq hpq
        rw [List.length_take] at hp hq
        have := h.s p q (by omega) hpq (by omega)
        rw [at0_lt (by omega), at0_lt (by omega)] at this
        simpa using this
      · obtain ⟨p, hp, rfl⟩ := List.mem_iff_getElem.1 ha
        have hb2 := (sortL_perm _).mem_iff.1 hb
        obtain ⟨q, hq, rfl⟩ := List.mem_iff_getElem.1 hb2
        rw [List.length_take] at hp
        rw [List.length_drop] at hq
        have := h.s p (m + q) (by omega) (by omega) (by omega)
        rw [at0_lt (by omega), at0_lt (by omega)] at this
        simpa using this
    · refine (List.Perm.append_left _ (sortL_perm _)).trans ?_
      rw [List.take_append_drop]
      exact h.p
  rw [e, List.take_append_of_le_length (by rw [List.length_take]; omega), List.take_take, Nat.min_self]
set_option maxRecDepth 10000 in
set_option maxHeartbeats 3200000 in
theorem least5_any (p : Option Addr) (c : Nat) (l : List Int) (many : Nat) (w : World) (hI : IntsAt w p l) (hn : l.length ≤ 100) (h0 : 0 < l.length) (hm : many ≤ l.length) (hr : ∀ x ∈ l, -100000 ≤ x ∧ x ≤ 100000) :
    Calls Try.prog 50 #[.slice p l.length c, .int .i64 (many : Int)] w fun e w' => e = .returned (.int .i64 ((sortL l).take many).sum) ∧ Below w.heap.size w w' := by
  have hE := below_alloc w (.cells #[] 3)
  obtain ⟨g, cap, w1, hrun, harr, hg, hcap, hb⟩ := copy_first (w.alloc (.cells #[] 3)) l p c (hI.below hE) (by omega) h0 w.heap.size w.heap.size (Nat.le_refl _) (by simp) (Row.new w #[] 3) 38
  have HRUN := Lib.hid hrun
  have HA := Lib.hid harr
  have HB := Lib.hid (hE.trans hb)
  have HRG := Lib.hid hr
  clear hE hrun harr hb hr hI
  go_enter Try.func50, Try.ntmps50
  go_wp2_with (first
    | (at_builtin; refine wpList_append_run rfl _ _ _ _ rfl (.slice (some ⟨w.heap.size, 0, none⟩) 0 0) _ _ rfl rfl HRUN.out ?_))
  clear HRUN
  obtain ⟨n, hnl⟩ : ∃ n, l.length = n := ⟨_, rfl⟩
  have HNL := Lib.hid hnl
  rw [hnl] at hn h0 hm hcap ⊢
  clear hnl
  go_loopw [6, 7] (fun a i wr => ∃ (k : Nat) (xs : List Int), k ≤ many ∧ i = .int .i64 (k : Int) ∧ a = .int .i64 (xs.take k).sum ∧ Hid (Sel l k xs) ∧ ArrAt wr g xs ∧ Below w.heap.size w wr) (fun _ i _ => many - (intOf i).toNat)
  case atStart => exact ⟨0, l, by omega, rfl, by simp, Lib.hid ⟨List.Perm.refl _, fun p q hp => by omega⟩, HA.out, HB.out⟩
  case round =>
    obtain ⟨i, xs, hi, rfl, rfl, HS, harr, hbw⟩ := hrel
    have HX := Lib.hid harr
    have HBW := Lib.hid hbw
    clear harr hbw
    by_cases hlt : i < many
    · have e1 : IntKind.i64.wrap ((i : Int) + 1) = (i : Int) + 1 := IntWalk.i64_in _ (by omega)
      have i1 : (i : Int) < (many : Int) := by omega
      have i2 : (0 : Int) ≤ (i : Int) := by omega
      have i3 : (i : Int) < (n : Int) := by omega
      have hsr : 0 ≤ 0 := Nat.le_refl _
      obtain ⟨sm, hsm⟩ : ∃ s, (xs.take i).sum = s := ⟨_, rfl⟩
      have HSM := Lib.hid hsm
      have HSR := Lib.hid (show -(100000 * (i : Int)) ≤ (xs.take i).sum ∧ (xs.take i).sum ≤ 100000 * (i : Int) from by
        have hlen := HS.out.len
        rw [HNL.out] at hlen
        have key : ∀ j, j ≤ n → -(100000 * (j : Int)) ≤ (xs.take j).sum ∧ (xs.take j).sum ≤ 100000 * (j : Int) := by
          intro j
          induction j with
          | zero => intro _; simp
          | succ j ih =>
            intro hj
            rw [sum_take_succ (by omega)]
            have h1 := ih (by omega)
            have h2 := HRG.out (at0 xs j) (HS.out.p.mem_iff.1 (at0_mem (by omega)))
            push_cast
            omega
        exact key i (by omega))
      have hsb := HSR.out
      rw [hsm] at hsb ⊢
      clear hsm
      go_wp2_with fail
      go_loopw [8] (fun q wr => ∃ (k : Nat) (ys : List Int), i < k ∧ k ≤ n ∧ q = .int .i64 (k : Int) ∧ Hid (Sel l i ys) ∧ Hid (∀ q, i < q → q < k → at0 ys i ≤ at0 ys q) ∧ Hid (ys.take i = xs.take i) ∧ ArrAt wr g ys ∧ Below w.heap.size w wr) (fun q _ => n - (intOf q).toNat)
      case atStart => exact ⟨i + 1, xs, by omega, by omega, by go_num, HS, Lib.hid (fun q h1 h2 => by omega), Lib.hid rfl, HX.out, HBW.out⟩
      case round =>
        obtain ⟨k, ys, hik, hkn, rfl, HY, HM, HT, harr, hbw⟩ := hrel
        have HYA := Lib.hid harr
        have HBY := Lib.hid hbw
        clear harr hbw
        have hyl := HY.out.len
        rw [HNL.out] at hyl
        have HYL := Lib.hid hyl
        clear hyl
        by_cases hlk : k < n
        · have c0 := HYA.out.cell (i := i) (by rw [HYL.out]; omega)
          have c1 := HYA.out.cell (i := k) (by rw [HYL.out]; exact hlk)
          have f0 := HYA.out.free i
          have f1 := HYA.out.free k
          have i4 : (0 : Int) ≤ (k : Int) := by omega
          have i5 : (k : Int) < (n : Int) := by omega
          obtain ⟨a, ha⟩ : ∃ a, at0 ys i = a := ⟨_, rfl⟩
          obtain ⟨b, hb⟩ : ∃ b, at0 ys k = b := ⟨_, rfl⟩
          have HAE := Lib.hid ha
          have HBE := Lib.hid hb
          rw [ha] at c0
          rw [hb] at c1
          clear ha hb
          by_cases hba : b < a
          · go_upto_region 9 with (fail)
            obtain ⟨y0, hy0⟩ : ∃ z : Later wr, wr = z.w := ⟨⟨wr, Below.refl _ _⟩, rfl⟩
            rw [hy0]
            clear hy0
            refine wp_region_later (by kernel_rfl) (by kernel_rfl) ?_
            repeat (go_big_quiet_step (fail))
            refine wpQuiet_nil ?_
            intro _ hw'
            obtain ⟨yy, hw''⟩ := hw'
            subst hw''
            obtain ⟨y1, hy⟩ := y0.up yy
            rw [hy]
            clear hy
            have HW2 := Lib.hid (HYA.out.below y1.b)
            have HB2 := Lib.hid (HBY.out.trans (y1.b.mono HBY.out.size))
            obtain ⟨w2, hw2⟩ : ∃ u, y1.w = u := ⟨_, rfl⟩
            rw [hw2] at HW2 HB2 ⊢
            clear hw2 c0 c1 f0 f1
            have c0 := HW2.out.cell (i := i) (by rw [HYL.out]; omega)
            have c1 := HW2.out.cell (i := k) (by rw [HYL.out]; exact hlk)
            have f0 := HW2.out.free i
            have f1 := HW2.out.free k
            rw [HAE.out] at c0
            rw [HBE.out] at c1
            have hikn : ¬ i = k := by omega
            have hkin : ¬ k = i := by omega
            have HSW := Lib.hid (show ArrAt ((w2.setCell ⟨g, i, none⟩ (.int .i64 b)).setCell ⟨g, k, none⟩ (.int .i64 a)) g (swapL ys i k) from by
              have h := (HW2.out.set (i := i) (by rw [HYL.out]; omega) b).set (i := k) (by rw [List.length_set, HYL.out]; exact hlk) a
              unfold swapL
              rw [HAE.out, HBE.out]
              exact h)
            have HBS := Lib.hid (show Below w.heap.size w ((w2.setCell ⟨g, i, none⟩ (.int .i64 b)).setCell ⟨g, k, none⟩ (.int .i64 a)) from (HB2.out.setCell hg _).setCell hg _)
            have HSY := Lib.hid (HY.out.swap hik (by rw [HNL.out]; exact hlk))
            have HMY := Lib.hid (show ∀ q, i < q → q < k + 1 → at0 (swapL ys i k) i ≤ at0 (swapL ys i k) q from by
              intro q h1 h2
              have hl := HYL.out
              rw [swap_at (by omega) (by omega), swap_at (by omega) (by omega), if_neg hkin, if_pos rfl, HBE.out]
              by_cases e : k = q
              · rw [if_pos e, HAE.out]; omega
              · rw [if_neg e, if_neg (by omega)]
                have := HM.out q h1 (by omega)
                rw [HAE.out] at this
                omega)
            have HTY := Lib.hid (show (swapL ys i k).take i = xs.take i from by
              rw [← HT.out]
              unfold swapL
              rw [List.take_set_of_le (by omega), List.take_set_of_le (by omega)])
            go_upto_region 10 with (fail)
            go_region
            all_goals
              go_wp2_with fail
              go_roundw
              case rel => exact ⟨k + 1, swapL ys i k, by omega, by omega, by go_num, HSY, HMY, HTY, (by first | exact HSW.out | exact HSW.out.drew), (by first | exact HBS.out | exact HBS.out.drew)⟩
              case measure => simp [intOf]; omega
          · have HMY := Lib.hid (show ∀ q, i < q → q < k + 1 → at0 ys i ≤ at0 ys q from by
              intro q h1 h2
              by_cases e : q = k
              · rw [e, HAE.out, HBE.out]; omega
              · exact HM.out q h1 (by omega))
            go_upto_region 9 with (fail)
            obtain ⟨y0, hy0⟩ : ∃ z : Later wr, wr = z.w := ⟨⟨wr, Below.refl _ _⟩, rfl⟩
            rw [hy0]
            clear hy0
            refine wp_region_later (by kernel_rfl) (by kernel_rfl) ?_
            repeat (go_big_quiet_step (fail))
            refine wpQuiet_nil ?_
            intro _ hw'
            obtain ⟨yy, hw''⟩ := hw'
            subst hw''
            obtain ⟨y1, hy⟩ := y0.up yy
            rw [hy]
            clear hy
            have HW2 := Lib.hid (HYA.out.below y1.b)
            have HB2 := Lib.hid (HBY.out.trans (y1.b.mono HBY.out.size))
            go_wp2_with fail
            go_roundw
            case rel => exact ⟨k + 1, ys, by omega, by omega, by go_num, HY, HMY, HT, HW2.out, HB2.out⟩
            case measure => simp [intOf]; omega
        · have hkk : k = n := by omega
          subst hkk
          have c0 := HYA.out.cell (i := i) (by rw [HYL.out]; omega)
          have f0 := HYA.out.free i
          obtain ⟨a, ha⟩ : ∃ a, at0 ys i = a := ⟨_, rfl⟩
          have HAE := Lib.hid ha
          have har := HRG.out (at0 ys i) (HY.out.p.mem_iff.1 (at0_mem (by rw [HYL.out]; omega)))
          rw [ha] at c0 har
          clear ha
          have HSE := Lib.hid (show (ys.take (i + 1)).sum = sm + a from by
            rw [sum_take_succ (by rw [HYL.out]; omega), HT.out, HSM.out, HAE.out])
          have e2 : IntKind.i64.wrap (sm + a) = sm + a := IntWalk.i64_in _ (by omega)
          have HNX := Lib.hid (HY.out.next (fun q h1 h2 => HM.out q h1 (by rw [HNL.out] at h2; exact h2)))
          go_wp2_with fail
          go_roundw
          case rel => exact ⟨i + 1, ys, by omega, by go_num, by rw [HSE.out], HNX, HYA.out, HBY.out⟩
          case measure => simp [intOf]; omega
    · have hii : i = many := by omega
      subst hii
      have HTK := Lib.hid (show (xs.take i).sum = ((sortL l).take i).sum from by rw [HS.out.take (by rw [HNL.out]; omega)])
      go_wp2_with fail
      rw [HTK.out]
      go_ret
      exact ⟨rfl, HBW.out⟩
end Go.Proofs.Ytgdidhbomdfcpaa
/- Several lists of numbers of one's own, each in a block of its own: an append to one leaves the others as they are. -/
namespace Go.Proofs.Ytgdidhbomdfcpaa
open Go.RowKit Go.Maps

def putF {α : Type} (f : Nat → α) (i : Nat) (x : α) : Nat → α := fun j => if j = i then x else f j
theorem putF_same {α : Type} (f : Nat → α) (i : Nat) (x : α) : putF f i x i = x := by simp [putF]
theorem putF_other {α : Type} (f : Nat → α) {i j : Nat} (x : α) (h : j ≠ i) : putF f i x j = f j := by simp [putF, h]
structure Fam (w : World) (base : Nat) (v : Nat → Value) (xs : Nat → List Int) : Prop where
  own : ∀ i, w.ownsRow base 3 1 (v i) (xs i).length ((xs i).map (Value.int .i64))
  apart : ∀ i j g, i ≠ j → (v i).ownBlock = some g → (v j).ownBlock ≠ some g
theorem Fam.lt {w : World} {base : Nat} {v : Nat → Value} {xs : Nat → List Int} (h : Fam w base v xs) {i g : Nat} (hg : (v i).ownBlock = some g) : base ≤ g ∧ g < w.heap.size := (h.own i).lt g hg
theorem Fam.below {w w' : World} {base : Nat} {v : Nat → Value} {xs : Nat → List Int} (h : Fam w base v xs) (hb : Below w.heap.size w w') : Fam w' base v xs :=
  ⟨fun i => owns_below (h.own i) hb, h.apart⟩
theorem Fam.nil (w : World) (base : Nat) : Fam w base (fun _ => .slice none 0 0) (fun _ => []) :=
  ⟨fun _ => World.ownsRow_nil _ _ _ _, fun _ _ _ _ h => by simp [Value.ownBlock] at h⟩
theorem Fam.lit {w : World} {base : Nat} {v : Nat → Value} {xs : Nat → List Int} (h : Fam w base v xs) (hb : base ≤ w.heap.size) (i : Nat) (x : Int) :
    Fam (w.alloc (.cells #[.int .i64 x] 3)) base (putF v i (.slice (some ⟨w.heap.size, 0, none⟩) 1 1)) (putF xs i [x]) := by
  have h2 := h.below (below_alloc w (.cells #[.int .i64 x] 3))
  refine ⟨fun j => ?_, fun j k g hjk hj hk => ?_⟩
  · by_cases e : j = i
    · subst e
      rw [putF_same, putF_same]
      exact ⟨rfl, .inr ⟨w.heap.size, 1, _, rfl, hb, heap_alloc_new w _, Nat.le_refl _, by unfold maxLen; omega, rfl, rfl⟩⟩
    · rw [putF_other _ _ e, putF_other _ _ e]
      exact h2.own j
  · by_cases e : j = i
    · subst e
      rw [putF_same] at hj
      rw [putF_other _ _ (fun e => hjk e.symm)] at hk
      have := (h.lt hk).2
      simp only [Value.ownBlock, Option.some.injEq] at hj
      omega
    · rw [putF_other _ _ e] at hj
      by_cases e2 : k = i
      · subst e2
        rw [putF_same] at hk
        have := (h.lt hj).2
        simp only [Value.ownBlock, Option.some.injEq] at hk
        omega
      · rw [putF_other _ _ e2] at hk
        exact h.apart j k g hjk hj hk
theorem Fam.append {w : World} {base : Nat} {v : Nat → Value} {xs : Nat → List Int} (h : Fam w base v xs) (hb : base ≤ w.heap.size) {i j : Nat} (hij : i ≠ j) {x : Int} (hx : xs j = [x]) (hn : (xs i).length ≤ 1000) (ty : TypeId) :
    ∃ v' w', (Builtin.append_ #[38, 38] ty #[v i, v j]).run Try.prog w = .ok v' w' ∧ Fam w' base (putF v i v') (putF xs i (xs i ++ [x])) ∧ Below base w w' := by
  obtain ⟨i0, hi, hi0, hi1, hi2⟩ := info_parts Try.infoInt
  have hj := h.own j
  rw [hx] at hj
  rcases hj.2 with ⟨_, h0⟩ | ⟨g, cap, cur, hv, hg, hh, _, _, h3, h4⟩
  · cases h0
  have hcell : ∀ q u, [Value.int .i64 x][q]? = some u → w.cell? ((⟨g, 0, none⟩ : Addr).add q) = some u := by
    intro q u hq
    exact hj.cells (by rw [hv]; rfl) q u (by simpa using hq)
  have hone : ∀ u ∈ [Value.int .i64 x], u.oneCell' = true := by
    intro u hu
    rw [List.mem_singleton] at hu
    subst hu
    rfl
  have hown := h.own i
  obtain ⟨v', w', hr, h2, hgr, _⟩ := run_append_own (P := Try.prog) w base 38 ty 3 i0 _ 1 8 Try.underlying38 hi hi0 hi1 hi2 rfl (by decide) (v i) (xs i).length _ hown ⟨g, 0, none⟩ 1 cap [.int .i64 x] rfl hcell hone (by unfold maxLen; omega) (by omega) hb
  have hv1 : v j = .slice (some ⟨g, 0, none⟩) 1 cap := hv
  have hfr : v'.ownBlock = (v i).ownBlock ∨ v'.ownBlock = some w.heap.size := by
    rcases hown.2 with ⟨e, h0⟩ | ⟨g2, cap2, cur2, e, hg2, hh2, hle, _, hs2, _⟩
    · right
      rw [e] at hr
      rw [run_append_nil (P := Try.prog) w 38 ty 3 i0 _ Try.underlying38 hi hi0 ⟨g, 0, none⟩ 1 cap [.int .i64 x] (by rw [hi1]; rfl) hcell (by decide) (by decide) (by rw [hi2]; decide)] at hr
      cases hr
      rfl
    · by_cases hroom : (xs i).length + 1 ≤ cap2
      · left
        rw [e] at hr
        rw [run_append_room (P := Try.prog) w 38 ty 3 i0 Try.underlying38 hi g2 _ cap2 cur2 hh2 ⟨g, 0, none⟩ 1 cap [.int .i64 x] (by rw [hi1]; rfl) hcell hone hroom (by rw [hi1, hs2]; simpa using hroom)] at hr
        cases hr
        rw [e]
        rfl
      · right
        rw [e] at hr
        rw [run_append_grow (P := Try.prog) w 38 ty 3 i0 _ Try.underlying38 hi hi0 ⟨g2, 0, none⟩ (xs i).length cap2 ((xs i).map (Value.int .i64)) (by rw [hi1]; simp) (hown.cells (by rw [e]; rfl)) ⟨g, 0, none⟩ 1 cap [.int .i64 x] (by rw [hi1]; rfl) hcell (by omega) (by omega) (growslice_fits (by omega) (by rw [hi2]; omega))] at hr
        cases hr
        rfl
  refine ⟨v', w', by rw [hv1]; exact hr, ⟨fun k => ?_, fun a b g' hab ha hb' => ?_⟩, (Below.refl base w).grown hgr hb (fun k hk => (h.lt hk).1)⟩
  · by_cases e : k = i
    · subst e
      rw [putF_same, putF_same, List.length_append, List.map_append]
      exact h2
    · rw [putF_other _ _ e, putF_other _ _ e]
      refine (h.own k).kept hgr ?_
      cases ho : (v k).ownBlock with
      | none => exact .inl rfl
      | some m => exact .inr fun e2 => h.apart k i m e ho e2.symm
  · have hlt : ∀ k m, (v k).ownBlock = some m → m < w.heap.size := fun k m hk => (h.lt hk).2
    by_cases e : a = i
    · subst e
      rw [putF_same] at ha
      rw [putF_other _ _ (fun e => hab e.symm)] at hb'
      rcases hfr with hf | hf
      · rw [hf] at ha
        exact h.apart a b g' hab ha hb'
      · rw [hf] at ha
        have := hlt b g' hb'
        simp only [Option.some.injEq] at ha
        omega
    · rw [putF_other _ _ e] at ha
      by_cases e2 : b = i
      · subst e2
        rw [putF_same] at hb'
        rcases hfr with hf | hf
        · rw [hf] at hb'
          exact h.apart a b g' hab ha hb'
        · rw [hf] at hb'
          have := hlt a g' ha
          simp only [Option.some.injEq] at hb'
          omega
      · rw [putF_other _ _ e2] at hb'
        exact h.apart a b g' hab ha hb'
/-- Three lists of one's own and the literals that are appended to them. -/
def famV (c0 b0 c1 b1 c2 b2 : Bool) (s0 s1 s2 l0 a0 l1 a1 l2 a2 : Value) : Nat → Value
  | 0 => cond b0 a0 s0
  | 1 => cond b1 a1 s1
  | 2 => cond b2 a2 s2
  | 3 => cond c0 l0 (.slice none 0 0)
  | 4 => cond c1 l1 (.slice none 0 0)
  | 5 => cond c2 l2 (.slice none 0 0)
  | _ => .slice none 0 0
def famX (c0 b0 c1 b1 c2 b2 : Bool) (X0 X1 X2 : List Int) (t0 t1 t2 : Int) : Nat → List Int
  | 0 => cond b0 (X0 ++ [t0]) X0
  | 1 => cond b1 (X1 ++ [t1]) X1
  | 2 => cond b2 (X2 ++ [t2]) X2
  | 3 => cond c0 [t0] []
  | 4 => cond c1 [t1] []
  | 5 => cond c2 [t2] []
  | _ => []
theorem upd_true {L : Nat → Bool} {j : Nat} (h : L j = true) (i : Nat) : upd L i j = true := by
  by_cases e : j = i
  · rw [e, upd_same]
  · rw [upd_other L e, h]
/-- Each list is given its new value behind the reading of it and the append to it. -/
def Ord3 (L : Nat → Bool) : Prop := (L 25 = true → L 0 = true ∧ L 6 = true) ∧ (L 26 = true → L 7 = true ∧ L 15 = true) ∧ (L 27 = true → L 16 = true ∧ L 24 = true)
theorem Ord3.upd {L : Nat → Bool} (h : Ord3 L) (k : Nat) (hk : k < 25) : Ord3 (Proofs.Ytgdidhbomdfcpaa.upd L k) := by
  refine ⟨fun e => ?_, fun e => ?_, fun e => ?_⟩
  · rw [upd_other L (by omega)] at e; exact ⟨upd_true (h.1 e).1 k, upd_true (h.1 e).2 k⟩
  · rw [upd_other L (by omega)] at e; exact ⟨upd_true (h.2.1 e).1 k, upd_true (h.2.1 e).2 k⟩
  · rw [upd_other L (by omega)] at e; exact ⟨upd_true (h.2.2 e).1 k, upd_true (h.2.2 e).2 k⟩
theorem Ord3.put0 {L : Nat → Bool} (h : Ord3 L) (h0 : L 0 = true) (h1 : L 6 = true) : Ord3 (Proofs.Ytgdidhbomdfcpaa.upd L 25) :=
  ⟨fun _ => ⟨upd_true h0 _, upd_true h1 _⟩, fun e => ⟨upd_true (h.2.1 e).1 _, upd_true (h.2.1 e).2 _⟩, fun e => ⟨upd_true (h.2.2 e).1 _, upd_true (h.2.2 e).2 _⟩⟩
theorem Ord3.put1 {L : Nat → Bool} (h : Ord3 L) (h0 : L 7 = true) (h1 : L 15 = true) : Ord3 (Proofs.Ytgdidhbomdfcpaa.upd L 26) :=
  ⟨fun e => ⟨upd_true (h.1 e).1 _, upd_true (h.1 e).2 _⟩, fun _ => ⟨upd_true h0 _, upd_true h1 _⟩, fun e => ⟨upd_true (h.2.2 e).1 _, upd_true (h.2.2 e).2 _⟩⟩
theorem Ord3.put2 {L : Nat → Bool} (h : Ord3 L) (h0 : L 16 = true) (h1 : L 24 = true) : Ord3 (Proofs.Ytgdidhbomdfcpaa.upd L 27) :=
  ⟨fun e => ⟨upd_true (h.1 e).1 _, upd_true (h.1 e).2 _⟩, fun e => ⟨upd_true (h.2.1 e).1 _, upd_true (h.2.1 e).2 _⟩, fun _ => ⟨upd_true h0 _, upd_true h1 _⟩⟩
section
variable {w : World} {base : Nat} {c0 b0 c1 b1 c2 b2 : Bool} {s0 s1 s2 l0 a0 l1 a1 l2 a2 : Value} {X0 X1 X2 : List Int} {t0 t1 t2 : Int}
theorem fam_start {v : Nat → Value} {xs : Nat → List Int} (h : Fam w base v xs) : Fam w base (famV false false false false false false (v 0) (v 1) (v 2) l0 a0 l1 a1 l2 a2) (famX false false false false false false (xs 0) (xs 1) (xs 2) t0 t1 t2) := by
  have hv : ∀ i, famV false false false false false false (v 0) (v 1) (v 2) l0 a0 l1 a1 l2 a2 i = if i < 3 then v i else .slice none 0 0 := by
    intro i
    match i with
    | 0 => rfl
    | 1 => rfl
    | 2 => rfl
    | 3 => rfl
    | 4 => rfl
    | 5 => rfl
    | n + 6 => rw [if_neg (by omega)]; rfl
  have hx : ∀ i, famX false false false false false false (xs 0) (xs 1) (xs 2) t0 t1 t2 i = if i < 3 then xs i else [] := by
    intro i
    match i with
    | 0 => rfl
    | 1 => rfl
    | 2 => rfl
    | 3 => rfl
    | 4 => rfl
    | 5 => rfl
    | n + 6 => rw [if_neg (by omega)]; rfl
  refine ⟨fun i => ?_, fun i j g hij hi hj => ?_⟩
  · rw [hv, hx]
    split
    · exact h.own i
    · exact World.ownsRow_nil _ _ _ _
  · rw [hv] at hi hj
    split at hi
    · split at hj
      · exact h.apart i j g hij hi hj
      · simp [Value.ownBlock] at hj
    · simp [Value.ownBlock] at hi
theorem fam_lit0 (h : Fam w base (famV false b0 c1 b1 c2 b2 s0 s1 s2 l0 a0 l1 a1 l2 a2) (famX false b0 c1 b1 c2 b2 X0 X1 X2 t0 t1 t2)) (hb : base ≤ w.heap.size) : Fam (w.alloc (.cells #[.int .i64 t0] 3)) base (famV true b0 c1 b1 c2 b2 s0 s1 s2 (.slice (some ⟨w.heap.size, 0, none⟩) 1 1) a0 l1 a1 l2 a2) (famX true b0 c1 b1 c2 b2 X0 X1 X2 t0 t1 t2) := by
  have h2 := h.lit hb 3 t0
  have e1 : putF (famV false b0 c1 b1 c2 b2 s0 s1 s2 l0 a0 l1 a1 l2 a2) 3 (.slice (some ⟨w.heap.size, 0, none⟩) 1 1) = (famV true b0 c1 b1 c2 b2 s0 s1 s2 (.slice (some ⟨w.heap.size, 0, none⟩) 1 1) a0 l1 a1 l2 a2) := by
    funext i
    match i with
    | 0 => rfl
    | 1 => rfl
    | 2 => rfl
    | 3 => rfl
    | 4 => rfl
    | 5 => rfl
    | n + 6 => exact if_neg (by omega)
  have e2 : putF (famX false b0 c1 b1 c2 b2 X0 X1 X2 t0 t1 t2) 3 [t0] = (famX true b0 c1 b1 c2 b2 X0 X1 X2 t0 t1 t2) := by
    funext i
    match i with
    | 0 => rfl
    | 1 => rfl
    | 2 => rfl
    | 3 => rfl
    | 4 => rfl
    | 5 => rfl
    | n + 6 => exact if_neg (by omega)
  rw [e1, e2] at h2
  exact h2
theorem fam_app0 {v' : Value} {cc : Bool} (h : Fam w base (putF (famV true false c1 b1 c2 b2 s0 s1 s2 l0 a0 l1 a1 l2 a2) 0 v') (putF (famX true false c1 b1 c2 b2 X0 X1 X2 t0 t1 t2) 0 ((famX true false c1 b1 c2 b2 X0 X1 X2 t0 t1 t2) 0 ++ [t0]))) (hc : cc = true) : Fam w base (famV cc true c1 b1 c2 b2 s0 s1 s2 l0 v' l1 a1 l2 a2) (famX cc true c1 b1 c2 b2 X0 X1 X2 t0 t1 t2) := by
  subst hc
  have e1 : putF (famV true false c1 b1 c2 b2 s0 s1 s2 l0 a0 l1 a1 l2 a2) 0 v' = (famV true true c1 b1 c2 b2 s0 s1 s2 l0 v' l1 a1 l2 a2) := by
    funext i
    match i with
    | 0 => rfl
    | 1 => rfl
    | 2 => rfl
    | 3 => rfl
    | 4 => rfl
    | 5 => rfl
    | n + 6 => exact if_neg (by omega)
  have e2 : putF (famX true false c1 b1 c2 b2 X0 X1 X2 t0 t1 t2) 0 ((famX true false c1 b1 c2 b2 X0 X1 X2 t0 t1 t2) 0 ++ [t0]) = (famX true true c1 b1 c2 b2 X0 X1 X2 t0 t1 t2) := by
    funext i
    match i with
    | 0 => rfl
    | 1 => rfl
    | 2 => rfl
    | 3 => rfl
    | 4 => rfl
    | 5 => rfl
    | n + 6 => exact if_neg (by omega)
  rw [e1, e2] at h
  exact h
theorem fam_lit1 (h : Fam w base (famV c0 b0 false b1 c2 b2 s0 s1 s2 l0 a0 l1 a1 l2 a2) (famX c0 b0 false b1 c2 b2 X0 X1 X2 t0 t1 t2)) (hb : base ≤ w.heap.size) : Fam (w.alloc (.cells #[.int .i64 t1] 3)) base (famV c0 b0 true b1 c2 b2 s0 s1 s2 l0 a0 (.slice (some ⟨w.heap.size, 0, none⟩) 1 1) a1 l2 a2) (famX c0 b0 true b1 c2 b2 X0 X1 X2 t0 t1 t2) := by
  have h2 := h.lit hb 4 t1
  have e1 : putF (famV c0 b0 false b1 c2 b2 s0 s1 s2 l0 a0 l1 a1 l2 a2) 4 (.slice (some ⟨w.heap.size, 0, none⟩) 1 1) = (famV c0 b0 true b1 c2 b2 s0 s1 s2 l0 a0 (.slice (some ⟨w.heap.size, 0, none⟩) 1 1) a1 l2 a2) := by
    funext i
    match i with
    | 0 => rfl
    | 1 => rfl
    | 2 => rfl
    | 3 => rfl
    | 4 => rfl
    | 5 => rfl
    | n + 6 => exact if_neg (by omega)
  have e2 : putF (famX c0 b0 false b1 c2 b2 X0 X1 X2 t0 t1 t2) 4 [t1] = (famX c0 b0 true b1 c2 b2 X0 X1 X2 t0 t1 t2) := by
    funext i
    match i with
    | 0 => rfl
    | 1 => rfl
    | 2 => rfl
    | 3 => rfl
    | 4 => rfl
    | 5 => rfl
    | n + 6 => exact if_neg (by omega)
  rw [e1, e2] at h2
  exact h2
theorem fam_app1 {v' : Value} {cc : Bool} (h : Fam w base (putF (famV c0 b0 true false c2 b2 s0 s1 s2 l0 a0 l1 a1 l2 a2) 1 v') (putF (famX c0 b0 true false c2 b2 X0 X1 X2 t0 t1 t2) 1 ((famX c0 b0 true false c2 b2 X0 X1 X2 t0 t1 t2) 1 ++ [t1]))) (hc : cc = true) : Fam w base (famV c0 b0 cc true c2 b2 s0 s1 s2 l0 a0 l1 v' l2 a2) (famX c0 b0 cc true c2 b2 X0 X1 X2 t0 t1 t2) := by
  subst hc
  have e1 : putF (famV c0 b0 true false c2 b2 s0 s1 s2 l0 a0 l1 a1 l2 a2) 1 v' = (famV c0 b0 true true c2 b2 s0 s1 s2 l0 a0 l1 v' l2 a2) := by
    funext i
    match i with
    | 0 => rfl
    | 1 => rfl
    | 2 => rfl
    | 3 => rfl
    | 4 => rfl
    | 5 => rfl
    | n + 6 => exact if_neg (by omega)
  have e2 : putF (famX c0 b0 true false c2 b2 X0 X1 X2 t0 t1 t2) 1 ((famX c0 b0 true false c2 b2 X0 X1 X2 t0 t1 t2) 1 ++ [t1]) = (famX c0 b0 true true c2 b2 X0 X1 X2 t0 t1 t2) := by
    funext i
    match i with
    | 0 => rfl
    | 1 => rfl
    | 2 => rfl
    | 3 => rfl
    | 4 => rfl
    | 5 => rfl
    | n + 6 => exact if_neg (by omega)
  rw [e1, e2] at h
  exact h
theorem fam_lit2 (h : Fam w base (famV c0 b0 c1 b1 false b2 s0 s1 s2 l0 a0 l1 a1 l2 a2) (famX c0 b0 c1 b1 false b2 X0 X1 X2 t0 t1 t2)) (hb : base ≤ w.heap.size) : Fam (w.alloc (.cells #[.int .i64 t2] 3)) base (famV c0 b0 c1 b1 true b2 s0 s1 s2 l0 a0 l1 a1 (.slice (some ⟨w.heap.size, 0, none⟩) 1 1) a2) (famX c0 b0 c1 b1 true b2 X0 X1 X2 t0 t1 t2) := by
  have h2 := h.lit hb 5 t2
  have e1 : putF (famV c0 b0 c1 b1 false b2 s0 s1 s2 l0 a0 l1 a1 l2 a2) 5 (.slice (some ⟨w.heap.size, 0, none⟩) 1 1) = (famV c0 b0 c1 b1 true b2 s0 s1 s2 l0 a0 l1 a1 (.slice (some ⟨w.heap.size, 0, none⟩) 1 1) a2) := by
    funext i
    match i with
    | 0 => rfl
    | 1 => rfl
    | 2 => rfl
    | 3 => rfl
    | 4 => rfl
    | 5 => rfl
    | n + 6 => exact if_neg (by omega)
  have e2 : putF (famX c0 b0 c1 b1 false b2 X0 X1 X2 t0 t1 t2) 5 [t2] = (famX c0 b0 c1 b1 true b2 X0 X1 X2 t0 t1 t2) := by
    funext i
    match i with
    | 0 => rfl
    | 1 => rfl
    | 2 => rfl
    | 3 => rfl
    | 4 => rfl
    | 5 => rfl
    | n + 6 => exact if_neg (by omega)
  rw [e1, e2] at h2
  exact h2
theorem fam_app2 {v' : Value} {cc : Bool} (h : Fam w base (putF (famV c0 b0 c1 b1 true false s0 s1 s2 l0 a0 l1 a1 l2 a2) 2 v') (putF (famX c0 b0 c1 b1 true false X0 X1 X2 t0 t1 t2) 2 ((famX c0 b0 c1 b1 true false X0 X1 X2 t0 t1 t2) 2 ++ [t2]))) (hc : cc = true) : Fam w base (famV c0 b0 c1 b1 cc true s0 s1 s2 l0 a0 l1 a1 l2 v') (famX c0 b0 c1 b1 cc true X0 X1 X2 t0 t1 t2) := by
  subst hc
  have e1 : putF (famV c0 b0 c1 b1 true false s0 s1 s2 l0 a0 l1 a1 l2 a2) 2 v' = (famV c0 b0 c1 b1 true true s0 s1 s2 l0 a0 l1 a1 l2 v') := by
    funext i
    match i with
    | 0 => rfl
    | 1 => rfl
    | 2 => rfl
    | 3 => rfl
    | 4 => rfl
    | 5 => rfl
    | n + 6 => exact if_neg (by omega)
  have e2 : putF (famX c0 b0 c1 b1 true false X0 X1 X2 t0 t1 t2) 2 ((famX c0 b0 c1 b1 true false X0 X1 X2 t0 t1 t2) 2 ++ [t2]) = (famX c0 b0 c1 b1 true true X0 X1 X2 t0 t1 t2) := by
    funext i
    match i with
    | 0 => rfl
    | 1 => rfl
    | 2 => rfl
    | 3 => rfl
    | 4 => rfl
    | 5 => rfl
    | n + 6 => exact if_neg (by omega)
  rw [e1, e2] at h
  exact h
end
/-- An append, as an operation. -/
theorem wp_append_fam {o : Oper} {a : Act} {w : World} {K : Act → World → Prop} {Q : Exit → Act → World → Prop} (s x : Operand)
    (ho : o.op = .call { callee := .builtin .append, args := #[s, x], argTypes := #[38, 38] }) {base : Nat} {v : Nat → Value} {xs : Nat → List Int} (h : Fam w base v xs) (hb : base ≤ w.heap.size) {i j : Nat} (hs : a.eval s = v i) (hx : a.eval x = v j)
    (hij : i ≠ j) {n : Int} (hn : xs j = [n]) (hl : (xs i).length ≤ 1000) (hK : ∀ v' w', Fam w' base (putF v i v') (putF xs i (xs i ++ [n])) → Below base w w' → K (a.put o.dst v') w') : o.wp Try.prog a w K Q := by
  obtain ⟨v', w', hr, h2, h3⟩ := h.append hb hij hn hl o.type
  unfold Oper.wp execOp
  simp only [ho, resolve, invoke, builtin, Sem.run_bind, Sem.run_pure, Result.andThen_ok, List.map_toArray, List.map_cons, List.map_nil, hs, hx, hr]
  exact hK v' w' h2 h3
end Go.Proofs.Ytgdidhbomdfcpaa
/- Layer 5, in plain lists: sums of parts. -/
namespace Go.Proofs.Ytgdidhbomdfcpaa
open Go.RowKit Go.Maps

theorem lo_join (b : Bf) {x y z : Nat} (h1 : x ≤ y) (h2 : y ≤ z) : loB b x y + loB b y z = loB b x z := by unfold loB; rw [← sumF_append, part_join h1 h2]
theorem hi_join (b : Bf) {x y z : Nat} (h1 : x ≤ y) (h2 : y ≤ z) : hiB b x y + hiB b y z = hiB b x z := by unfold hiB; rw [← sumF_append, part_join h1 h2]
theorem lo_self (b : Bf) (x : Nat) : loB b x x = 0 := by unfold loB; rw [part_self]; rfl
theorem hi_self (b : Bf) (x : Nat) : hiB b x x = 0 := by unfold hiB; rw [part_self]; rfl
theorem lo_succ {b : Bf} {x y : Nat} (h : x ≤ y) (hy : y < b.hs.length) : loB b x (y + 1) = loB b x y + b.hs[y].lo := by unfold loB; rw [part_succ h hy, sumF_snoc]
theorem hi_succ {b : Bf} {x y : Nat} (h : x ≤ y) (hy : y < b.hs.length) : hiB b x (y + 1) = hiB b x y + b.hs[y].hi := by unfold hiB; rw [part_succ h hy, sumF_snoc]
theorem part_range {b : Bf} (hok : BfOk b) (x y : Nat) : (0 ≤ loB b x y ∧ loB b x y ≤ 1600) ∧ 0 ≤ hiB b x y ∧ hiB b x y ≤ 1600 := by
  have h8 := hok.n8
  have hl : (partL b.hs x y).length ≤ b.hs.length := by unfold partL; simp; omega
  have h1 := sumF_range (f := Hd.lo) (hs := partL b.hs x y) (B := 200) (by omega) (fun h hh => by have := hok.h h (partL_mem hh); have := this.l0; have := (hok.h h (partL_mem hh)).l1; have := (hok.h h (partL_mem hh)).l2; omega)
  have h2 := sumF_range (f := Hd.hi) (hs := partL b.hs x y) (B := 200) (by omega) (fun h hh => by have := hok.h h (partL_mem hh); have := this.l0; have := (hok.h h (partL_mem hh)).l1; have := (hok.h h (partL_mem hh)).l2; omega)
  unfold loB hiB
  omega
theorem below_setRow' {n : Nat} {w W : World} (h : Below n w W) {g : Nat} (hg : n ≤ g) (cs : Array Value) : Below n w (W.setRow g cs) := below_setRow h hg cs
/-- The sums of a plan's boxes. -/
theorem plan_sums {b : Bf} {l : List Int} (hok : BfOk b) (hp : planB b l = true) {k : Nat} (hk : k < l.length) :
    ∃ X Y : Nat, bgn l k = X ∧ at0 l k = Y ∧ X < Y ∧ Y ≤ b.hs.length ∧ bgn l (k + 1) = Y ∧ loB b 0 X + loB b X Y = loB b 0 Y ∧ hiB b 0 X + hiB b X Y = hiB b 0 Y := by
  have hbx := planTo_all (b := b) (l := l) (k := l.length) (by unfold planB at hp; rw [Bool.and_eq_true] at hp; exact hp.1) (i := k) hk
  unfold boxI boxB at hbx
  simp only [decide_eq_true_eq] at hbx
  refine ⟨(bgn l k).toNat, (at0 l k).toNat, by omega, by omega, by omega, by omega, by rw [bgn_succ]; omega, lo_join b (by omega) (by omega), hi_join b (by omega) (by omega)⟩
end Go.Proofs.Ytgdidhbomdfcpaa
/- Layer 5, in plain lists: all choices of so many handfuls; the least and the most that any of them has. -/
namespace Go.Proofs.Ytgdidhbomdfcpaa
open Go.RowKit Go.Maps
attribute [local go_sem] Oper.semAt_some

set_option maxRecDepth 10000 in
theorem In8_any (s i : Nat) (w : World) (hs : s < 256) (hi : i < 8) :
    Calls Try.prog 47 #[.int .i64 s, .int .i64 i] w fun e w' => e = .returned (.bool (inS s i)) ∧ w = w' := by
  go_enter Try.func47, Try.ntmps47
  go_wp2_with fail
  go_ret
  exact ⟨rfl, rfl⟩
/-- The members of a set below a number. -/
def marksN (s n : Nat) : List Nat := (List.range n).filter (inS s)
theorem marksN_succ (s n : Nat) : marksN s (n + 1) = if inS s n then marksN s n ++ [n] else marksN s n := by
  unfold marksN
  rw [List.range_succ, List.filter_append]
  cases h : inS s n <;> simp [h]
theorem marksN_length (s n : Nat) : (marksN s n).length ≤ n := by
  unfold marksN
  exact Nat.le_trans (List.length_filter_le _ _) (by simp)
theorem marksN_lt {s n i : Nat} (h : i ∈ marksN s n) : i < n := List.mem_range.1 (List.mem_filter.1 h).1
def marksL (s n : Nat) : List Int := (marksN s n).map fun (i : Nat) => (i : Int)
theorem bits_all : ∀ b0 b1 b2 b3 b4 b5 b6 b7 : Bool, ((List.range 256).any fun s => decide (inS s 0 = b0 ∧ inS s 1 = b1 ∧ inS s 2 = b2 ∧ inS s 3 = b3 ∧ inS s 4 = b4 ∧ inS s 5 = b5 ∧ inS s 6 = b6 ∧ inS s 7 = b7)) = true := by decide +kernel
theorem bits_low : ((List.range 9).all fun n => (List.range 256).all fun s => decide (s < 2 ^ n) || ((List.range 8).any fun i => decide (n ≤ i) && inS s i)) = true := by decide +kernel
theorem set_of (p : Nat → Bool) : ∃ s, s < 256 ∧ ∀ i, i < 8 → inS s i = p i := by
  obtain ⟨s, hs, h⟩ := List.any_eq_true.1 (bits_all (p 0) (p 1) (p 2) (p 3) (p 4) (p 5) (p 6) (p 7))
  simp only [decide_eq_true_eq] at h
  obtain ⟨h0, h1, h2, h3, h4, h5, h6, h7⟩ := h
  refine ⟨s, List.mem_range.1 hs, fun i hi => ?_⟩
  obtain rfl | rfl | rfl | rfl | rfl | rfl | rfl | rfl : i = 0 ∨ i = 1 ∨ i = 2 ∨ i = 3 ∨ i = 4 ∨ i = 5 ∨ i = 6 ∨ i = 7 := by omega
  all_goals assumption
theorem nodup_filter {n : Nat} {l : List Nat} (h : l.Sublist (List.range n)) : (List.range n).filter (fun i => decide (i ∈ l)) = l := by
  induction n generalizing l with
  | zero =>
    have : l = [] := List.sublist_nil.1 (by simpa using h)
    subst this
    rfl
  | succ n ih =>
    rw [List.range_succ] at h ⊢
    rw [List.filter_append]
    obtain ⟨a, c, rfl, ha, hc⟩ := List.sublist_append_iff.1 h
    have hn : n ∉ a := fun e => by
      have := List.mem_range.1 (ha.subset e)
      omega
    have hcn : c = [] ∨ c = [n] := by
      cases hc with
      | cons _ h2 => left; exact List.sublist_nil.1 h2
      | cons_cons _ h2 => right; rw [List.sublist_nil.1 h2]
    have e1 : (List.range n).filter (fun i => decide (i ∈ a ++ c)) = (List.range n).filter (fun i => decide (i ∈ a)) := by
      refine List.filter_congr fun i hi => ?_
      have hin := List.mem_range.1 hi
      rcases hcn with rfl | rfl
      · simp
      · simp; omega
    rw [e1, ih ha]
    congr 1
    rcases hcn with rfl | rfl
    · simp [hn]
    · simp
theorem set_of_sub {n : Nat} (hn : n ≤ 8) {l : List Nat} (h : l.Sublist (List.range n)) : ∃ s, s < 2 ^ n ∧ marksN s n = l := by
  obtain ⟨s, hs, hb⟩ := set_of fun i => decide (i ∈ l)
  have hout : ∀ i, n ≤ i → i ∉ l := fun i hi e => by
    have := List.mem_range.1 (h.subset e)
    omega
  refine ⟨s, ?_, ?_⟩
  · have h1 := List.all_eq_true.1 bits_low n (List.mem_range.2 (by omega))
    have h2 := List.all_eq_true.1 h1 s (List.mem_range.2 hs)
    rw [Bool.or_eq_true] at h2
    rcases h2 with h2 | h2
    · simpa using h2
    · obtain ⟨i, hi, h3⟩ := List.any_eq_true.1 h2
      rw [Bool.and_eq_true] at h3
      have h4 := hb i (List.mem_range.1 hi)
      rw [h3.2] at h4
      have h5 := hout i (by simpa using h3.1)
      simp [h5] at h4
  · unfold marksN
    rw [← nodup_filter h]
    refine List.filter_congr fun i hi => ?_
    rw [hb i (by have := List.mem_range.1 hi; omega)]
/-- What the handfuls of a set have. -/
def sumM (f : Hd → Int) (b : Bf) (s : Nat) : Int := ((marksN s b.hs.length).map fun i => f (handAt b i)).sum
theorem ends_range (f : Hd → Int) (b : Bf) : endL f b.hs = (List.range b.hs.length).map fun i => f (handAt b i) := by
  apply List.ext_getElem
  · simp [endL]
  · intro i h1 h2
    have hi : i < b.hs.length := by simpa [endL] using h1
    simp [endL, handAt_eq hi]
theorem marks_perm (f : Hd → Int) (b : Bf) (s : Nat) : (endL f b.hs).Perm (((marksN s b.hs.length).map fun i => f (handAt b i)) ++ ((List.range b.hs.length).filter fun i => !inS s i).map fun i => f (handAt b i)) := by
  rw [ends_range, ← List.map_append]
  exact ((List.filter_append_perm (inS s) (List.range b.hs.length)).map _).symm
theorem any_all {b : Bf} {s m : Nat} (h : (marksN s b.hs.length).length = m) : lowAny b m ≤ sumM Hd.lo b s ∧ sumM Hd.hi b s ≤ highAny b m := by
  refine ⟨?_, ?_⟩
  · have := least_sum _ _ _ (sortL_sorted _) ((sortL_perm _).trans (marks_perm Hd.lo b s))
    rw [List.length_map, h] at this
    exact this
  · have := most_sum (sortL_sorted _) ((sortL_perm _).trans (marks_perm Hd.hi b s))
    rw [List.length_map, h, sortL_length] at this
    unfold highAny
    have e : (endL Hd.hi b.hs).length = b.hs.length := by simp [endL]
    rw [e] at this
    exact this
theorem any_reach {f : Hd → Int} {b : Bf} (h8 : b.hs.length ≤ 8) {t : List Int} (ht : t.Sublist (sortL (endL f b.hs))) : ∃ s, s < 2 ^ b.hs.length ∧ (marksN s b.hs.length).length = t.length ∧ sumM f b s = t.sum := by
  obtain ⟨u, hu, hsub⟩ := List.exists_perm_sublist ht (sortL_perm _)
  rw [ends_range] at hsub
  obtain ⟨l, hl, rfl⟩ := List.sublist_map_iff.1 hsub
  obtain ⟨s, hs, hm⟩ := set_of_sub h8 hl
  refine ⟨s, hs, ?_, ?_⟩
  · rw [hm, ← hu.length_eq, List.length_map]
  · unfold sumM
    rw [hm]
    exact sum_perm hu
/-- All choices are right just if the least and the greatest are. -/
theorem any_iff {b : Bf} (h8 : b.hs.length ≤ 8) {m : Nat} (hm : m ≤ b.hs.length) :
    (∀ s, s < 2 ^ b.hs.length → (marksN s b.hs.length).length = m → b.pr - b.le ≤ sumM Hd.lo b s ∧ sumM Hd.hi b s ≤ b.pr + b.mo) ↔ b.pr - b.le ≤ lowAny b m ∧ highAny b m ≤ b.pr + b.mo := by
  constructor
  · intro h
    have e1 : (sortL (endL Hd.lo b.hs)).length = b.hs.length := by rw [sortL_length]; simp [endL]
    have e2 : (sortL (endL Hd.hi b.hs)).length = b.hs.length := by rw [sortL_length]; simp [endL]
    obtain ⟨s, hs, h1, h2⟩ := any_reach (f := Hd.lo) h8 (List.take_sublist m _)
    obtain ⟨s', hs', h1', h2'⟩ := any_reach (f := Hd.hi) h8 (List.drop_sublist (b.hs.length - m) _)
    rw [List.length_take, e1] at h1
    rw [List.length_drop, e2] at h1'
    have a1 := (h s hs (by omega)).1
    have a2 := (h s' hs' (by omega)).2
    rw [h2] at a1
    rw [h2'] at a2
    exact ⟨a1, a2⟩
  · intro ⟨h1, h2⟩ s _ hl
    have := any_all hl
    omega
end Go.Proofs.Ytgdidhbomdfcpaa
/- Plain facts for the law FillAny: a cut of a list; what is taken and what is left. -/
namespace Go.Proofs.Ytgdidhbomdfcpaa
open Go.RowKit Go.Maps
attribute [local go_sem] Oper.semAt_some

/-- A slice of a slice, as an operation. -/
theorem wp_slice_run {P : Program} {o : Oper} {a : Act} {w : World} {K : Act → World → Prop} {Q : Exit → Act → World → Prop} {t : TypeId} {s : Operand} {lo hi mx : Option Operand} {v : Value}
    (ho : o.op = .slice t s lo hi mx) (hr : (Instr.sliceAt t (a.eval s) (lo.map a.eval) (hi.map a.eval) (mx.map a.eval)).run P w = .ok v w) (h : K (a.put o.dst v) w) : o.wp P a w K Q := by
  unfold Oper.wp execOp
  simp only [ho, hr, Sem.run_bind, Sem.run_pure, Result.andThen_ok]
  exact h
theorem cut_front (g o r c k : Nat) (hk : k ≤ r) (hc : r ≤ c) (w : World) : (Instr.sliceAt 38 (.slice (some ⟨g, o, none⟩) r c) none (some (.int .i64 (k : Int))) none).run Try.prog w = .ok (.slice (some ⟨g, o, none⟩) k c) w := by
  have h1 : k ≤ c := by omega
  simp [Instr.sliceAt, Instr.slice, go_sem, Try.underlying38, h1]
theorem cut_back (g o r c k : Nat) (hk : k ≤ r) (hc : r ≤ c) (w : World) : ∃ o' c', (Instr.sliceAt 38 (.slice (some ⟨g, o, none⟩) r c) (some (.int .i64 (k : Int))) none none).run Try.prog w = .ok (.slice (some ⟨g, o', none⟩) (r - k) c') w ∧ (o' = o + k ∨ r = k) := by
  by_cases h : k = c
  · refine ⟨o, 0, ?_, .inr (by omega)⟩
    subst h
    obtain rfl : r = k := by omega
    simp [Instr.sliceAt, Instr.slice, go_sem, Try.underlying38]
  · refine ⟨o + k, c - k, ?_, .inl rfl⟩
    have h1 : k < c := by omega
    have h2 : ¬ c ≤ k := by omega
    have h3 : ¬ c - k = 0 := by omega
    have h4 : ¬ c = k := by omega
    simp [Instr.sliceAt, Instr.slice, go_sem, Try.underlying38, hk, hc, h1, h2, h3, h4]
theorem append_own_ints (w : World) (base : Nat) (hbase : base ≤ w.heap.size) (v : Value) (n : Nat) (xs : List Int) (hown : w.ownsRow base 3 1 v n (xs.map (Value.int .i64))) (g o c' : Nat) (ys : List Int) (hy : IntsAt w (some ⟨g, o, none⟩) ys) (m : Nat) (hm : ys.length = m) (hlen : n + m ≤ 1000) (ty : TypeId) :
    ∃ v' w', (Builtin.append_ #[38, 38] ty #[v, .slice (some ⟨g, o, none⟩) m c']).run Try.prog w = .ok v' w' ∧ w'.ownsRow base 3 1 v' (n + m) ((xs ++ ys).map (Value.int .i64)) ∧ Below base w w' := by
  obtain ⟨i0, hi, hi0, hi1, hi2⟩ := info_parts Try.infoInt
  obtain ⟨v', w', hr, ho, hg, _⟩ := run_append_own (P := Try.prog) w base 38 ty 3 i0 _ 1 8 Try.underlying38 hi hi0 hi1 hi2 rfl (by decide) v n _ hown ⟨g, o, none⟩ m c' (ys.map (Value.int .i64)) (by rw [List.length_map, hm, Nat.mul_one]) (fun j u h => by
      have hl : j < ys.length := by have := (List.getElem?_eq_some_iff.1 h).1; simpa using this
      obtain ⟨b', o', e, hc⟩ := hy j hl
      cases e
      rw [Addr.add_lit, hc]
      rw [List.getElem?_map, List.getElem?_eq_getElem hl] at h
      rw [at0_lt hl]; simpa using h) (by
      intro u hu
      obtain ⟨x, _, rfl⟩ := List.mem_map.1 hu
      rfl) (by unfold maxLen; omega) (by omega) hbase
  rw [← List.map_append] at ho
  exact ⟨v', w', hr, ho, (Below.refl base w).grown hg hbase (fun k hk => (hown.lt k hk).1)⟩
/-- An element moves from the list of those that are left to that of those that are taken. -/
theorem take_out {T R l : List Nat} (h : (T ++ R).Perm l) {k : Nat} (hk : k < R.length) : ((T ++ [R[k]]) ++ (R.take k ++ R.drop (k + 1))).Perm l := by
  refine List.Perm.trans ?_ h
  rw [List.append_assoc]
  refine List.Perm.append_left T ?_
  have e : R = R.take k ++ R[k] :: R.drop (k + 1) := by rw [List.getElem_cons_drop, List.take_append_drop]
  refine (List.perm_middle (l₁ := R.take k)).symm.trans ?_
  rw [← e]
theorem tv_range {b : Bf} (hok : BfOk b) (bits : List Int) {i : Nat} (hil : i < b.hs.length) : 0 ≤ drawn (handAt b i).lo (handAt b i).hi (item bits i) ∧ drawn (handAt b i).lo (handAt b i).hi (item bits i) ≤ 200 := by
  rw [handAt_eq hil]
  have ho := hok.h _ (List.getElem_mem hil)
  have := ho.l0
  have := ho.l1
  have := ho.l2
  have hs := spin_range (item bits i) (b.hs[i].hi - b.hs[i].lo + 1) (by omega)
  have e : drawn b.hs[i].lo b.hs[i].hi (item bits i) = b.hs[i].lo + spin (item bits i) (b.hs[i].hi - b.hs[i].lo + 1) := by
    rw [drawn, IntWalk.wrap64_in (b.hs[i].hi - b.hs[i].lo) (by omega), IntWalk.wrap64_in (b.hs[i].hi - b.hs[i].lo + 1) (by omega), IntWalk.wrap64_in _ (by omega)]
  omega
theorem sum_in (f : Nat → Int) : ∀ (l : List Nat), (∀ i ∈ l, 0 ≤ f i ∧ f i ≤ 200) → 0 ≤ (l.map f).sum ∧ (l.map f).sum ≤ 200 * (l.length : Int)
  | [], _ => by simp
  | x :: l, h => by
    have h1 := h x (by simp)
    have h2 := sum_in f l fun i hi => h i (by simp [hi])
    simp only [List.map_cons, List.sum_cons, List.length_cons]
    push_cast
    omega
theorem upd_tr {L : Nat → Bool} {j : Nat} (h : L j = true) (i : Nat) : upd L i j = true := by
  by_cases e : j = i
  · rw [e, upd_same]
  · rw [upd_other L e, h]
/-- The list is given its new value behind the readings of it and the appends. -/
def Ord1 (L : Nat → Bool) : Prop := (L 10 = true → L 1 = true ∧ L 5 = true ∧ L 9 = true) ∧ (L 9 = true → L 4 = true)
theorem Ord1.upd {L : Nat → Bool} (h : Ord1 L) (k : Nat) (hk : k < 9) : Ord1 (Proofs.Ytgdidhbomdfcpaa.upd L k) := by
  refine ⟨fun e => ?_, fun e => ?_⟩
  · rw [upd_other L (by omega)] at e; exact ⟨upd_tr (h.1 e).1 k, upd_tr (h.1 e).2.1 k, upd_tr (h.1 e).2.2 k⟩
  · rw [upd_other L (by omega)] at e; exact upd_tr (h.2 e) k
theorem Ord1.put9 {L : Nat → Bool} (h : Ord1 L) (h4 : L 4 = true) : Ord1 (Proofs.Ytgdidhbomdfcpaa.upd L 9) :=
  ⟨fun e => ⟨upd_tr (h.1 e).1 _, upd_tr (h.1 e).2.1 _, upd_tr (h.1 e).2.2 _⟩, fun _ => upd_tr h4 _⟩
theorem Ord1.put10 {L : Nat → Bool} (h : Ord1 L) (h1 : L 1 = true) (h5 : L 5 = true) (h9 : L 9 = true) : Ord1 (Proofs.Ytgdidhbomdfcpaa.upd L 10) :=
  ⟨fun _ => ⟨upd_tr h1 _, upd_tr h5 _, upd_tr h9 _⟩, fun e => upd_tr (h.2 e) _⟩
theorem sum_abs : ∀ (l : List Int), (∀ x ∈ l, -200 ≤ x ∧ x ≤ 200) → -(200 * (l.length : Int)) ≤ l.sum ∧ l.sum ≤ 200 * (l.length : Int)
  | [], _ => by simp
  | x :: l, h => by
    have h1 := h x (by simp)
    have h2 := sum_abs l fun i hi => h i (by simp [hi])
    simp only [List.sum_cons, List.length_cons]
    push_cast
    omega
theorem ends_in {b : Bf} (hok : BfOk b) : (∀ x ∈ endL Hd.lo b.hs, -200 ≤ x ∧ x ≤ 200) ∧ ∀ x ∈ endL Hd.hi b.hs, -200 ≤ x ∧ x ≤ 200 := by
  constructor
  · intro x hx
    obtain ⟨h, hm, rfl⟩ := List.mem_map.1 hx
    have := (hok.h h hm).l0
    have := (hok.h h hm).l1
    have := (hok.h h hm).l2
    omega
  · intro x hx
    obtain ⟨h, hm, rfl⟩ := List.mem_map.1 hx
    have := (hok.h h hm).l0
    have := (hok.h h hm).l1
    have := (hok.h h hm).l2
    omega
theorem negs_in {l : List Int} (h : ∀ x ∈ l, -200 ≤ x ∧ x ≤ 200) : ∀ x ∈ negL l, -200 ≤ x ∧ x ≤ 200 := by
  intro x hx
  obtain ⟨y, hy, rfl⟩ := List.mem_map.1 hx
  have := h y hy
  omega
theorem negL_length (l : List Int) : (negL l).length = l.length := by simp [negL]
theorem least_in {l : List Int} (h : ∀ x ∈ l, -200 ≤ x ∧ x ≤ 200) (hl : l.length ≤ 8) (m : Nat) : -1600 ≤ ((sortL l).take m).sum ∧ ((sortL l).take m).sum ≤ 1600 := by
  have h1 := sum_abs ((sortL l).take m) fun x hx => h x ((sortL_perm l).mem_iff.1 (List.mem_of_mem_take hx))
  have h2 : ((sortL l).take m).length ≤ 8 := by rw [List.length_take, sortL_length]; omega
  omega
/-- What is taken lies between the least and the most. -/
theorem taken_between {b : Bf} (hok : BfOk b) (bits : List Int) {T R : List Nat} (h : (T ++ R).Perm (List.range b.hs.length)) :
    lowAny b T.length ≤ (T.map fun i => drawn (handAt b i).lo (handAt b i).hi (item bits i)).sum ∧ (T.map fun i => drawn (handAt b i).lo (handAt b i).hi (item bits i)).sum ≤ highAny b T.length := by
  have hmem : ∀ i ∈ T, i < b.hs.length := fun i hi => List.mem_range.1 (h.mem_iff.1 (List.mem_append_left _ hi))
  have hd : ∀ i ∈ T, (handAt b i).lo ≤ drawn (handAt b i).lo (handAt b i).hi (item bits i) ∧ drawn (handAt b i).lo (handAt b i).hi (item bits i) ≤ (handAt b i).hi := by
    intro i hi
    have hil := hmem i hi
    rw [handAt_eq hil]
    have ho := hok.h _ (List.getElem_mem hil)
    have := ho.l0
    have := ho.l1
    have := ho.l2
    have hs := spin_range (item bits i) (b.hs[i].hi - b.hs[i].lo + 1) (by omega)
    have e : drawn b.hs[i].lo b.hs[i].hi (item bits i) = b.hs[i].lo + spin (item bits i) (b.hs[i].hi - b.hs[i].lo + 1) := by
      rw [drawn, IntWalk.wrap64_in (b.hs[i].hi - b.hs[i].lo) (by omega), IntWalk.wrap64_in (b.hs[i].hi - b.hs[i].lo + 1) (by omega), IntWalk.wrap64_in _ (by omega)]
    omega
  have hsum : ∀ (f g : Nat → Int) (l : List Nat), (∀ i ∈ l, f i ≤ g i) → (l.map f).sum ≤ (l.map g).sum := by
    intro f g l
    induction l with
    | nil => intro _; simp
    | cons x l ih =>
      intro h
      have h1 := h x (by simp)
      have h2 := ih fun i hi => h i (by simp [hi])
      simp only [List.map_cons, List.sum_cons]
      omega
  have hp : ∀ f : Hd → Int, (endL f b.hs).Perm ((T.map fun i => f (handAt b i)) ++ R.map fun i => f (handAt b i)) := by
    intro f
    rw [ends_range, ← List.map_append]
    exact (h.map _).symm
  constructor
  · have h1 := least_sum _ _ _ (sortL_sorted _) ((sortL_perm _).trans (hp Hd.lo))
    rw [List.length_map] at h1
    exact Int.le_trans h1 (hsum _ _ _ fun i hi => (hd i hi).1)
  · have h1 := most_sum (sortL_sorted _) ((sortL_perm _).trans (hp Hd.hi))
    rw [List.length_map, sortL_length] at h1
    have e : (endL Hd.hi b.hs).length = b.hs.length := by simp [endL]
    rw [e] at h1
    exact Int.le_trans (hsum _ _ _ fun i hi => (hd i hi).2) h1
/-- The most is the least of the numbers with the other sign. -/
theorem great_eq (b : Bf) {m : Nat} (hm : m ≤ b.hs.length) : -((sortL (negL (endL Hd.hi b.hs))).take m).sum = highAny b m := by
  have hneg : ∀ l : List Int, (negL l).sum = -l.sum := by
    intro l
    induction l with
    | nil => simp [negL]
    | cons x l ih =>
      have e : negL (x :: l) = -x :: negL l := rfl
      rw [e, List.sum_cons, List.sum_cons, ih]
      omega
  have e : sortL (negL (endL Hd.hi b.hs)) = negL (sortL (endL Hd.hi b.hs)).reverse := by
    refine sortL_eq ?_ ?_
    · unfold negL
      rw [List.pairwise_map, List.pairwise_reverse]
      exact (sortL_sorted _).imp fun h => by omega
    · unfold negL
      exact ((List.reverse_perm _).trans (sortL_perm _)).map _
  have hl : (sortL (endL Hd.hi b.hs)).length = b.hs.length := by rw [sortL_length]; simp [endL]
  rw [e]
  unfold highAny negL
  rw [← List.map_take, List.take_reverse, hl]
  have h2 := hneg (List.drop (b.hs.length - m) (sortL (endL Hd.hi b.hs))).reverse
  unfold negL at h2
  rw [h2, sum_perm (List.reverse_perm _)]
  omega
end Go.Proofs.Ytgdidhbomdfcpaa
/- The law FillAny's helpers at a book's handfuls: the least and the most of so many. -/
namespace Go.Proofs.Ytgdidhbomdfcpaa
open Go.RowKit Go.Maps

theorem least_low {b : Bf} (hok : BfOk b) (h0 : 0 < b.hs.length) {m : Nat} (hm : m ≤ b.hs.length) (p : Option Addr) (c : Nat) (w : World) (hI : IntsAt w p (endL Hd.lo b.hs)) :
    Calls Try.prog 50 #[.slice p b.hs.length c, .int .i64 (m : Int)] w fun e w' => e = .returned (.int .i64 (lowAny b m)) ∧ Below w.heap.size w w' := by
  have h8 := hok.n8
  have h := least5_any p c (endL Hd.lo b.hs) m w hI (by rw [endL_length]; omega) (by rw [endL_length]; exact h0) (by rw [endL_length]; exact hm) (fun x hx => by have := (ends_in hok).1 x hx; omega)
  rw [endL_length] at h
  exact h
theorem turned_high {b : Bf} (hok : BfOk b) (p : Option Addr) (c : Nat) (w : World) (hI : IntsAt w p (endL Hd.hi b.hs)) :
    Calls Try.prog 51 #[.slice p b.hs.length c] w fun e w' => ∃ q cq, e = .returned (.slice q b.hs.length cq) ∧ IntsAt w' q (negL (endL Hd.hi b.hs)) ∧ Below w.heap.size w w' := by
  have h8 := hok.n8
  have h := turned_any p c (endL Hd.hi b.hs) w hI (by rw [endL_length]; omega) (fun x hx => by have := (ends_in hok).2 x hx; omega)
  rw [endL_length] at h
  exact h
theorem least_neg {b : Bf} (hok : BfOk b) (h0 : 0 < b.hs.length) {m : Nat} (hm : m ≤ b.hs.length) (p : Option Addr) (c : Nat) (w : World) (hI : IntsAt w p (negL (endL Hd.hi b.hs))) :
    Calls Try.prog 50 #[.slice p b.hs.length c, .int .i64 (m : Int)] w fun e w' => e = .returned (.int .i64 (-(highAny b m))) ∧ Below w.heap.size w w' := by
  have h8 := hok.n8
  have h := least5_any p c (negL (endL Hd.hi b.hs)) m w hI (by rw [negL_length, endL_length]; omega) (by rw [negL_length, endL_length]; exact h0) (by rw [negL_length, endL_length]; exact hm) (fun x hx => by have := negs_in (ends_in hok).2 x hx; omega)
  rw [negL_length, endL_length] at h
  rw [← great_eq b hm, Int.neg_neg]
  exact h
theorem low_range {b : Bf} (hok : BfOk b) (m : Nat) : -1600 ≤ lowAny b m ∧ lowAny b m ≤ 1600 := least_in (ends_in hok).1 (by rw [endL_length]; exact hok.n8) m
theorem high_range {b : Bf} (hok : BfOk b) {m : Nat} (hm : m ≤ b.hs.length) : -1600 ≤ highAny b m ∧ highAny b m ≤ 1600 := by
  have h := least_in (negs_in (ends_in hok).2) (by rw [negL_length, endL_length]; exact hok.n8) m
  rw [← great_eq b hm]
  generalize ((sortL (negL (endL Hd.hi b.hs))).take m).sum = s at h ⊢
  omega
/-- Is a number allowed? -/
theorem allow_is {b : Bf} (hok : BfOk b) {n : Int} {f : Bool} (hf : decide (b.pr - b.le ≤ n ∧ n ≤ b.pr + b.mo) = f) (p : Option Addr) (c : Nat) (w : World) :
    Calls Try.prog 44 #[.agg (bfA b p c), .int .i64 n] w fun e w' => e = .returned (.bool f) ∧ Below w.heap.size w w' := by
  have h := allowed_any b p c n w hok
  have e : fits n (b.pr - b.le) (b.pr + b.mo) = f := by
    rw [← hf]
    unfold fits
    by_cases h1 : b.pr - b.le ≤ n <;> by_cases h2 : n ≤ b.pr + b.mo <;> simp [h1, h2]
  rw [e] at h
  exact h
end Go.Proofs.Ytgdidhbomdfcpaa
/- The law FillAny: any so many handfuls make a right box just if those with the fewest splints and those with the most do. -/
namespace Go.Proofs.Ytgdidhbomdfcpaa
open Go.RowKit Go.Maps
attribute [local go_sem] Oper.semAt_some

set_option maxRecDepth 100000 in
set_option maxHeartbeats 6400000 in
theorem FillAny_any (b : Bf) (p : Option Addr) (c : Nat) (n : Int) (ps : Option Addr) (cs : Nat) (ss : List Int) (pt : Option Addr) (ct : Nat) (bits : List Int) (w : World) (hB : BfAt w p c b) (hs : IntsAt w ps ss) (hn : ss.length ≤ maxLen) (ht : IntsAt w pt bits) (htn : bits.length ≤ maxLen) :
    Calls Try.prog 9 #[.agg (bfA b p c), .int .i64 n, .slice ps ss.length cs, .slice pt bits.length ct] w fun e w' => e = .returned (.bool true) ∧ Below w.heap.size w w' := by
  obtain ⟨W0, hW0⟩ : ∃ W, W = w.alloc (.cells (bfA b p c) 24) := ⟨_, rfl⟩
  have HW0 := Lib.hid hW0
  have HE := Lib.hid (show Below w.heap.size w W0 by rw [hW0]; exact below_alloc _ _)
  have HR := Lib.hid (show Row W0 w.heap.size (bfA b p c) 24 by rw [hW0]; exact Row.new w _ _)
  have g0 := HR.out.cell 0 (v := .int .i64 b.pr) rfl
  have g1 := HR.out.cell 1 (v := .int .i64 b.le) rfl
  have g2 := HR.out.cell 2 (v := .int .i64 b.mo) rfl
  have g3 := HR.out.cell 3 (v := .int .i64 b.gr) rfl
  have g4 := HR.out.cell 4 (v := .slice p b.hs.length c) rfl
  clear hW0
  obtain ⟨z0, hz0⟩ : ∃ z : Later W0, W0 = z.w := ⟨⟨W0, Below.refl _ _⟩, rfl⟩
  have HZ0 := Lib.hid hz0
  clear hz0
  have HB := Lib.hid (hB.below HE.out)
  have HT := Lib.hid (ht.below HE.out)
  have HTN := Lib.hid htn
  have HS := Lib.hid (hs.below HE.out)
  have HN := Lib.hid hn
  clear hB hs hn ht htn
  by_cases hbad : bookB b = false ∨ b.hs.length = 0
  · have HX : ∃ f : Bool, (f = false ∨ f = true ∧ b.hs.length = 0) ∧ ∀ w' (_ : From W0 w'), Calls Try.prog 37 #[.agg (bfA b p c)] w' fun e w'' => e = .returned (.bool f) ∧ Below w'.heap.size w' w'' := by
      cases hb : bookB b
      · exact ⟨false, .inl rfl, fun w' k => sound_no b p c w' (HB.out.below k.b) hb⟩
      · exact ⟨true, .inr ⟨rfl, hbad.resolve_left (by rw [hb]; decide)⟩, fun w' k => sound_yes b p c w' (HB.out.below k.b) hb⟩
    obtain ⟨f, hf, hc⟩ := HX
    have HK := Lib.hid hc
    clear hc hbad
    rcases hf with rfl | ⟨rfl, h0⟩
    · go_enter Try.func9, Try.ntmps9
      go_wp2_with fail
      rw [← HW0.out, HZ0.out]
      refine (HK.out _ z0.fr).mono ?_
      rintro e u ⟨rfl, hbu⟩
      obtain ⟨z1, hz⟩ := z0.on hbu
      subst hz
      clear hbu
      go_wp2_with fail
      refine (filled_any _).mono ?_
      rintro e u ⟨rfl, hbu⟩
      obtain ⟨z2, hz⟩ := z1.on hbu
      subst hz
      clear hbu
      go_wp2_with fail
      go_ret
      exact ⟨rfl, z2.base HE.out⟩
    · have hlz : ((b.hs.length : Int) == 0) = true := by rw [h0]; rfl
      clear h0
      go_enter Try.func9, Try.ntmps9
      go_wp2_with fail
      rw [← HW0.out, HZ0.out]
      refine (HK.out _ z0.fr).mono ?_
      rintro e u ⟨rfl, hbu⟩
      obtain ⟨z1, hz⟩ := z0.on hbu
      subst hz
      clear hbu
      go_wp2_with fail
      refine (filled_any _).mono ?_
      rintro e u ⟨rfl, hbu⟩
      obtain ⟨z2, hz⟩ := z1.on hbu
      subst hz
      clear hbu
      go_wp2_with fail
      go_ret
      exact ⟨rfl, z2.base HE.out⟩
  · have hb : bookB b = true := by simpa using fun h => hbad (.inl h)
    have hpos : 0 < b.hs.length := Nat.pos_of_ne_zero fun h => hbad (.inr h)
    have hok := bookB_iff.1 hb
    have hn8 := hok.n8
    have HOK := Lib.hid hok
    have hlz : ((b.hs.length : Int) == 0) = false := beq_eq_false_iff_ne.2 (by omega)
    have hlz2 : ¬ ((b.hs.length : Int) = 0) := by omega
    have hsr := spin_range n b.hs.length (by omega)
    obtain ⟨m, hm⟩ : ∃ m : Nat, 1 + spin n b.hs.length = m := ⟨(1 + spin n b.hs.length).toNat, by omega⟩
    obtain ⟨s, hs⟩ : ∃ s, spin n b.hs.length = s := ⟨_, rfl⟩
    have HSP := Lib.hid (fun w' => by have h := Spin_any n b.hs.length w' ⟨by omega, by omega⟩; rw [hs] at h; exact h)
    rw [hs] at hsr hm
    have hm1 : 1 ≤ m := by omega
    have hmn : m ≤ b.hs.length := by omega
    have e1 : IntKind.i64.wrap (1 + s) = (m : Int) := by rw [hm]; exact IntWalk.i64_in _ (by omega)
    obtain ⟨is, his⟩ : ∃ is, (kindS b (lowAny b m) (highAny b m) == 0) = is := ⟨_, rfl⟩
    have HIS := Lib.hid his
    have HK := Lib.hid (fun w' (k : From W0 w') => sound_yes b p c w' (HB.out.below k.b) hb)
    have HAN := Lib.hid (fun w' (k : From W0 w') => by have h := Any_yes b p c m w' (HB.out.below k.b) hb hm1 hmn; rw [his] at h; exact h)
    have HTR := Lib.hid (fun w' (k : From W0 w') => truly5_any b p c pt ct bits w' (HB.out.below k.b) HOK.out (HT.out.below k.b) HTN.out)
    clear hs hbad hb hok his
    go_enter Try.func9, Try.ntmps9
    go_wp2_with fail
    rw [← HW0.out, HZ0.out]
    refine (HK.out _ z0.fr).mono ?_
    rintro e u ⟨rfl, hbu⟩
    obtain ⟨z1, hz⟩ := z0.on hbu
    subst hz
    clear hbu
    go_wp2_with fail
    refine (HSP.out _).mono ?_
    rintro e u ⟨rfl, hu⟩
    subst hu
    go_wp2_with fail
    refine (HAN.out _ z1.fr).mono ?_
    rintro e u ⟨rfl, hbu⟩
    obtain ⟨z2, hz⟩ := z1.on hbu
    subst hz
    clear hbu
    go_wp2_with fail
    refine (HTR.out _ z2.fr).mono ?_
    rintro e u ⟨qt, cht, rfl, hi, hcht, hbu⟩
    have HH := Lib.hid hi
    obtain ⟨z3, hz⟩ := z2.on hbu
    subst hz
    clear hbu hi HK HAN HTR HSP
    go_wp2_with fail
    go_loopw [13, 14, 15, 16] (fun la lb lc i wr => ∃ (k : Nat) (v : Nat → Value) (xs : Nat → List Int), k ≤ b.hs.length ∧ i = .int .i64 (k : Int) ∧ la = v 0 ∧ lb = v 1 ∧ lc = v 2 ∧ Hid (xs 0 = trulyL b bits k ∧ xs 1 = endL Hd.lo (b.hs.take k) ∧ xs 2 = endL Hd.hi (b.hs.take k)) ∧ Fam wr z3.w.heap.size v xs ∧ Below z3.w.heap.size z3.w wr) (fun _ _ _ i _ => b.hs.length - (intOf i).toNat)
    case atStart => exact ⟨0, fun _ => .slice none 0 0, fun _ => [], by omega, rfl, rfl, rfl, rfl, Lib.hid ⟨rfl, rfl, rfl⟩, Fam.nil _ _, Below.refl _ _⟩
    case round =>
      obtain ⟨k, v, xs, hk, rfl, rfl, rfl, rfl, HX, hfam, hbw⟩ := hrel
      have HF := Lib.hid hfam
      have HBW := Lib.hid hbw
      clear hfam hbw
      by_cases hlt : k < b.hs.length
      · obtain ⟨bq, oq, rfl, hct⟩ := HH.out k (by rw [trulyL_length]; exact hlt)
        obtain ⟨bb, o, rfl, hcl, hch⟩ := (HB.out.h.below z3.b) k hlt
        have hta : at0 (trulyL b bits b.hs.length) k = drawn (handAt b k).lo (handAt b k).hi (item bits k) := by
          rw [at0_lt (by rw [trulyL_length]; exact hlt)]
          simp [trulyL]
        rw [hta] at hct
        have HTS := Lib.hid (trulyL_succ b bits k)
        have HLS := Lib.hid (endL_succ Hd.lo hlt)
        have HHS := Lib.hid (endL_succ Hd.hi hlt)
        obtain ⟨tk, htk⟩ : ∃ t, drawn (handAt b k).lo (handAt b k).hi (item bits k) = t := ⟨_, rfl⟩
        obtain ⟨lo, hlo⟩ : ∃ t, b.hs[k].lo = t := ⟨_, rfl⟩
        obtain ⟨hi, hhi⟩ : ∃ t, b.hs[k].hi = t := ⟨_, rfl⟩
        rw [htk] at hct HTS
        rw [hlo] at hcl HLS
        rw [hhi] at hch HHS
        clear hta htk hlo hhi
        have CT := Lib.hid (fun u (h : Below z3.w.heap.size z3.w u) => (h.cell (cell_block hct)).trans hct)
        have CL := Lib.hid (fun u (h : Below z3.w.heap.size z3.w u) => (h.cell (cell_block hcl)).trans hcl)
        have CH := Lib.hid (fun u (h : Below z3.w.heap.size z3.w u) => (h.cell (cell_block hch)).trans hch)
        have C4 := Lib.hid (fun u (h : Below z3.w.heap.size z3.w u) => ((HR.out.below z3.b HR.out.lt).below h (by have := z3.b.size; have := HR.out.lt; omega)).cell 4 (v := .slice (some ⟨bb, o, none⟩) b.hs.length c) rfl)
        have HXL := Lib.hid (show (xs 0).length ≤ 1000 ∧ (xs 1).length ≤ 1000 ∧ (xs 2).length ≤ 1000 by
          rw [HX.out.1, HX.out.2.1, HX.out.2.2, trulyL_length, endL_length, endL_length, List.length_take]
          omega)
        clear hct hcl hch
        have i1 : (0 : Int) ≤ (k : Int) := by omega
        have i2 : (k : Int) < (b.hs.length : Int) := by omega
        go_upto_region 12 with (fail)
        refine region_inv rfl (by kernel_rfl) (fun L a u => ∃ x : Nat → Value, a = { tmps := #[.agg (bfA b (some ⟨bb, o, none⟩) c), .int .i64 n, .slice ps ss.length cs, .slice pt bits.length ct, .pointer (some ⟨w.heap.size, 0, none⟩), undef, undef, undef, .bool false, .int .i64 (m : Int), .bool is, .int .i64 0, .slice (some ⟨bq, oq, none⟩) b.hs.length cht, x 13, x 14, x 15, .int .i64 (k : Int), undef, undef, undef, undef, undef, .agg #[.int .i64 b.pr, .int .i64 b.le, .int .i64 b.mo, .int .i64 b.gr, .slice (some ⟨bb, o, none⟩) b.hs.length c], .bool true, .bool false, .bool false, .pointer (some ⟨w.heap.size, 4, none⟩), .slice (some ⟨bb, o, none⟩) b.hs.length c, .int .i64 (b.hs.length : Int), .bool false, .bool false, undef, .int .i64 n, .pointer (some ⟨w.heap.size, 4, none⟩), .slice (some ⟨bb, o, none⟩) b.hs.length c, .int .i64 (b.hs.length : Int), .int .i64 s, .int .i64 (m : Int), .tuple #[.bool is, .int .i64 0], .agg #[.int .i64 b.pr, .int .i64 b.le, .int .i64 b.mo, .int .i64 b.gr, .slice (some ⟨bb, o, none⟩) b.hs.length c], .int .i64 (m : Int), .tuple #[.bool is, .int .i64 0], .bool is, .int .i64 0, .int .i64 0, .bool false, .agg #[.int .i64 b.pr, .int .i64 b.le, .int .i64 b.mo, .int .i64 b.gr, .slice (some ⟨bb, o, none⟩) b.hs.length c], .slice pt bits.length ct, .slice (some ⟨bq, oq, none⟩) b.hs.length cht, .int .i64 (k : Int), .slice (some ⟨bq, oq, none⟩) b.hs.length cht, .int .i64 (b.hs.length : Int), .bool true, u53, u54, x 55, x 56, x 57, x 58, x 59, x 60, x 61, x 62, x 63, x 64, x 65, x 66, x 67, x 68, x 69, x 70, x 71, x 72, x 73, x 74, x 75, x 76, x 77, x 78, x 79, undef, undef, undef, undef, undef, undef, undef, undef, undef, undef, undef, undef, undef, undef, undef, undef, undef, undef, undef, undef, undef, undef, undef, undef, undef, undef, undef, undef, undef, undef, undef, undef, undef, undef, undef, undef, undef, undef, undef, undef, undef, undef, undef, undef, undef, undef, undef, undef, undef, undef, undef, undef, undef, undef, undef], defers := [] } ∧ Hid (L 0 = true → x 55 = v 0) ∧ Hid (L 1 = true → x 56 = .slice (some ⟨bq, oq, none⟩) b.hs.length cht) ∧ Hid (L 2 = true → x 57 = .int .i64 (k : Int)) ∧ Hid (L 3 = true → x 58 = .pointer (some ⟨bq, oq + k, none⟩)) ∧ Hid (L 4 = true → x 59 = .int .i64 tk) ∧ Hid (L 7 = true → x 62 = v 1) ∧ Hid (L 8 = true → x 63 = .pointer (some ⟨w.heap.size, 4, none⟩)) ∧ Hid (L 9 = true → x 64 = .slice (some ⟨bb, o, none⟩) b.hs.length c) ∧ Hid (L 10 = true → x 65 = .int .i64 (k : Int)) ∧ Hid (L 11 = true → x 66 = .pointer (some ⟨bb, o + k * 2, none⟩)) ∧ Hid (L 12 = true → x 67 = .pointer (some ⟨bb, o + k * 2, none⟩)) ∧ Hid (L 13 = true → x 68 = .int .i64 lo) ∧ Hid (L 16 = true → x 71 = v 2) ∧ Hid (L 17 = true → x 72 = .pointer (some ⟨w.heap.size, 4, none⟩)) ∧ Hid (L 18 = true → x 73 = .slice (some ⟨bb, o, none⟩) b.hs.length c) ∧ Hid (L 19 = true → x 74 = .int .i64 (k : Int)) ∧ Hid (L 20 = true → x 75 = .pointer (some ⟨bb, o + k * 2, none⟩)) ∧ Hid (L 21 = true → x 76 = .pointer (some ⟨bb, o + k * 2 + 1, none⟩)) ∧ Hid (L 22 = true → x 77 = .int .i64 hi) ∧ Hid (Fam u z3.w.heap.size (famV (L 5) (L 6) (L 14) (L 15) (L 23) (L 24) (v 0) (v 1) (v 2) (x 60) (x 61) (x 69) (x 70) (x 78) (x 79)) (famX (L 5) (L 6) (L 14) (L 15) (L 23) (L 24) (xs 0) (xs 1) (xs 2) tk lo hi)) ∧ Hid (Below z3.w.heap.size z3.w u) ∧ Hid (L 25 = false → (x 13) = v 0) ∧ Hid (L 26 = false → (x 14) = v 1) ∧ Hid (L 27 = false → (x 15) = v 2) ∧ Hid (L 25 = true → (x 13) = (x 61)) ∧ Hid (L 26 = true → (x 14) = (x 70)) ∧ Hid (L 27 = true → (x 15) = (x 79)) ∧ Hid (Ord3 L)) ?h0 ?steps ?hd
        case h0 => exact ⟨fun i => if i = 13 then v 0 else if i = 14 then v 1 else if i = 15 then v 2 else if i = 55 then u55 else if i = 56 then u56 else if i = 57 then u57 else if i = 58 then u58 else if i = 59 then u59 else if i = 60 then u60 else if i = 61 then u61 else if i = 62 then u62 else if i = 63 then u63 else if i = 64 then u64 else if i = 65 then u65 else if i = 66 then u66 else if i = 67 then u67 else if i = 68 then u68 else if i = 69 then u69 else if i = 70 then u70 else if i = 71 then u71 else if i = 72 then u72 else if i = 73 then u73 else if i = 74 then u74 else if i = 75 then u75 else if i = 76 then u76 else if i = 77 then u77 else if i = 78 then u78 else if i = 79 then u79 else undef, rfl, Lib.hid nofun, Lib.hid nofun, Lib.hid nofun, Lib.hid nofun, Lib.hid nofun, Lib.hid nofun, Lib.hid nofun, Lib.hid nofun, Lib.hid nofun, Lib.hid nofun, Lib.hid nofun, Lib.hid nofun, Lib.hid nofun, Lib.hid nofun, Lib.hid nofun, Lib.hid nofun, Lib.hid nofun, Lib.hid nofun, Lib.hid nofun, Lib.hid ((fam_start HF.out).below (Below.refl _ _).drew), Lib.hid (HBW.out.drew), Lib.hid (fun _ => rfl), Lib.hid (fun _ => rfl), Lib.hid (fun _ => rfl), Lib.hid (nofun), Lib.hid (nofun), Lib.hid (nofun), Lib.hid (⟨nofun, nofun, nofun⟩)⟩
        case hd =>
          rintro L a u hL ⟨x, rfl, hI⟩
          have HIV := Lib.hid hI
          clear hI
          have HFM := Lib.hid ((HIV.out.2.2.2.2.2.2.2.2.2.2.2.2.2.2.2.2.2.2.2.1).out)
          rw [hL 5 (by decide), hL 6 (by decide), hL 14 (by decide), hL 15 (by decide), hL 23 (by decide), hL 24 (by decide)] at HFM
          have HBE := Lib.hid ((HIV.out.2.2.2.2.2.2.2.2.2.2.2.2.2.2.2.2.2.2.2.2.1).out)
          rw [(HIV.out.2.2.2.2.2.2.2.2.2.2.2.2.2.2.2.2.2.2.2.2.2.2.2.2.1).out (hL 25 (by decide)), (HIV.out.2.2.2.2.2.2.2.2.2.2.2.2.2.2.2.2.2.2.2.2.2.2.2.2.2.1).out (hL 26 (by decide)), (HIV.out.2.2.2.2.2.2.2.2.2.2.2.2.2.2.2.2.2.2.2.2.2.2.2.2.2.2.1).out (hL 27 (by decide))]
          clear hL HIV
          go_wp2_with fail
          trace_state
          go_roundw
          case rel => exact ⟨k + 1, _, _, by omega, by go_num, rfl, rfl, rfl, Lib.hid ⟨by rw [HTS.out, ← HX.out.1]; rfl, by rw [HLS.out, ← HX.out.2.1]; rfl, by rw [HHS.out, ← HX.out.2.2]; rfl⟩, HFM.out, HBE.out⟩
          case measure => simp [intOf]; omega
        case steps =>
          refine ⟨?_, ?_, ?_, ?_, ?_, ?_, ?_, ?_, ?_, ?_, ?_, ?_, ?_, ?_, ?_, ?_, ?_, ?_, ?_, ?_, ?_, ?_, ?_, ?_, ?_, ?_, ?_, ?_, trivial⟩
          · rintro L a u hL hk ⟨x, rfl, hI⟩ K hK
            have HK0 := Lib.hid hK
            clear hK
            have HIV := Lib.hid hI
            clear hI
            have h25 : L 25 = false := by cases h7 : L 25; rfl; exact absurd ((HIV.out.2.2.2.2.2.2.2.2.2.2.2.2.2.2.2.2.2.2.2.2.2.2.2.2.2.2.2).out.1 h7).1 (by simp [hk])
            have e13 := (HIV.out.2.2.2.2.2.2.2.2.2.2.2.2.2.2.2.2.2.2.2.2.2.1).out h25
            rw [e13]
            clear hk
            clear hL
            go_wp2
            exact HK0.out _ _ ⟨fun i => if i = 55 then v 0 else if i = 13 then v 0 else x i, rfl, Lib.hid (fun _ => rfl), (HIV.out.2.1), (HIV.out.2.2.1), (HIV.out.2.2.2.1), (HIV.out.2.2.2.2.1), (HIV.out.2.2.2.2.2.1), (HIV.out.2.2.2.2.2.2.1), (HIV.out.2.2.2.2.2.2.2.1), (HIV.out.2.2.2.2.2.2.2.2.1), (HIV.out.2.2.2.2.2.2.2.2.2.1), (HIV.out.2.2.2.2.2.2.2.2.2.2.1), (HIV.out.2.2.2.2.2.2.2.2.2.2.2.1), (HIV.out.2.2.2.2.2.2.2.2.2.2.2.2.1), (HIV.out.2.2.2.2.2.2.2.2.2.2.2.2.2.1), (HIV.out.2.2.2.2.2.2.2.2.2.2.2.2.2.2.1), (HIV.out.2.2.2.2.2.2.2.2.2.2.2.2.2.2.2.1), (HIV.out.2.2.2.2.2.2.2.2.2.2.2.2.2.2.2.2.1), (HIV.out.2.2.2.2.2.2.2.2.2.2.2.2.2.2.2.2.2.1), (HIV.out.2.2.2.2.2.2.2.2.2.2.2.2.2.2.2.2.2.2.1), (HIV.out.2.2.2.2.2.2.2.2.2.2.2.2.2.2.2.2.2.2.2.1), (HIV.out.2.2.2.2.2.2.2.2.2.2.2.2.2.2.2.2.2.2.2.2.1), Lib.hid (fun _ => rfl), (HIV.out.2.2.2.2.2.2.2.2.2.2.2.2.2.2.2.2.2.2.2.2.2.2.1), (HIV.out.2.2.2.2.2.2.2.2.2.2.2.2.2.2.2.2.2.2.2.2.2.2.2.1), Lib.hid (fun h => absurd (h25.symm.trans h) (by decide)), (HIV.out.2.2.2.2.2.2.2.2.2.2.2.2.2.2.2.2.2.2.2.2.2.2.2.2.2.1), (HIV.out.2.2.2.2.2.2.2.2.2.2.2.2.2.2.2.2.2.2.2.2.2.2.2.2.2.2.1), Lib.hid ((HIV.out.2.2.2.2.2.2.2.2.2.2.2.2.2.2.2.2.2.2.2.2.2.2.2.2.2.2.2).out.upd 0 (by decide))⟩
          · rintro L a u hL hk ⟨x, rfl, hI⟩ K hK
            have HK0 := Lib.hid hK
            clear hK
            have HIV := Lib.hid hI
            clear hI
            clear hL
            clear hk
            go_wp2
            exact HK0.out _ _ ⟨fun i => if i = 56 then .slice (some ⟨bq, oq, none⟩) b.hs.length cht else x i, rfl, (HIV.out.1), Lib.hid (fun _ => rfl), (HIV.out.2.2.1), (HIV.out.2.2.2.1), (HIV.out.2.2.2.2.1), (HIV.out.2.2.2.2.2.1), (HIV.out.2.2.2.2.2.2.1), (HIV.out.2.2.2.2.2.2.2.1), (HIV.out.2.2.2.2.2.2.2.2.1), (HIV.out.2.2.2.2.2.2.2.2.2.1), (HIV.out.2.2.2.2.2.2.2.2.2.2.1), (HIV.out.2.2.2.2.2.2.2.2.2.2.2.1), (HIV.out.2.2.2.2.2.2.2.2.2.2.2.2.1), (HIV.out.2.2.2.2.2.2.2.2.2.2.2.2.2.1), (HIV.out.2.2.2.2.2.2.2.2.2.2.2.2.2.2.1), (HIV.out.2.2.2.2.2.2.2.2.2.2.2.2.2.2.2.1), (HIV.out.2.2.2.2.2.2.2.2.2.2.2.2.2.2.2.2.1), (HIV.out.2.2.2.2.2.2.2.2.2.2.2.2.2.2.2.2.2.1), (HIV.out.2.2.2.2.2.2.2.2.2.2.2.2.2.2.2.2.2.2.1), (HIV.out.2.2.2.2.2.2.2.2.2.2.2.2.2.2.2.2.2.2.2.1), (HIV.out.2.2.2.2.2.2.2.2.2.2.2.2.2.2.2.2.2.2.2.2.1), (HIV.out.2.2.2.2.2.2.2.2.2.2.2.2.2.2.2.2.2.2.2.2.2.1), (HIV.out.2.2.2.2.2.2.2.2.2.2.2.2.2.2.2.2.2.2.2.2.2.2.1), (HIV.out.2.2.2.2.2.2.2.2.2.2.2.2.2.2.2.2.2.2.2.2.2.2.2.1), (HIV.out.2.2.2.2.2.2.2.2.2.2.2.2.2.2.2.2.2.2.2.2.2.2.2.2.1), (HIV.out.2.2.2.2.2.2.2.2.2.2.2.2.2.2.2.2.2.2.2.2.2.2.2.2.2.1), (HIV.out.2.2.2.2.2.2.2.2.2.2.2.2.2.2.2.2.2.2.2.2.2.2.2.2.2.2.1), Lib.hid ((HIV.out.2.2.2.2.2.2.2.2.2.2.2.2.2.2.2.2.2.2.2.2.2.2.2.2.2.2.2).out.upd 1 (by decide))⟩
          · rintro L a u hL hk ⟨x, rfl, hI⟩ K hK
            have HK0 := Lib.hid hK
            clear hK
            have HIV := Lib.hid hI
            clear hI
            clear hL
            clear hk
            go_wp2
            exact HK0.out _ _ ⟨fun i => if i = 57 then .int .i64 (k : Int) else x i, rfl, (HIV.out.1), (HIV.out.2.1), Lib.hid (fun _ => rfl), (HIV.out.2.2.2.1), (HIV.out.2.2.2.2.1), (HIV.out.2.2.2.2.2.1), (HIV.out.2.2.2.2.2.2.1), (HIV.out.2.2.2.2.2.2.2.1), (HIV.out.2.2.2.2.2.2.2.2.1), (HIV.out.2.2.2.2.2.2.2.2.2.1), (HIV.out.2.2.2.2.2.2.2.2.2.2.1), (HIV.out.2.2.2.2.2.2.2.2.2.2.2.1), (HIV.out.2.2.2.2.2.2.2.2.2.2.2.2.1), (HIV.out.2.2.2.2.2.2.2.2.2.2.2.2.2.1), (HIV.out.2.2.2.2.2.2.2.2.2.2.2.2.2.2.1), (HIV.out.2.2.2.2.2.2.2.2.2.2.2.2.2.2.2.1), (HIV.out.2.2.2.2.2.2.2.2.2.2.2.2.2.2.2.2.1), (HIV.out.2.2.2.2.2.2.2.2.2.2.2.2.2.2.2.2.2.1), (HIV.out.2.2.2.2.2.2.2.2.2.2.2.2.2.2.2.2.2.2.1), (HIV.out.2.2.2.2.2.2.2.2.2.2.2.2.2.2.2.2.2.2.2.1), (HIV.out.2.2.2.2.2.2.2.2.2.2.2.2.2.2.2.2.2.2.2.2.1), (HIV.out.2.2.2.2.2.2.2.2.2.2.2.2.2.2.2.2.2.2.2.2.2.1), (HIV.out.2.2.2.2.2.2.2.2.2.2.2.2.2.2.2.2.2.2.2.2.2.2.1), (HIV.out.2.2.2.2.2.2.2.2.2.2.2.2.2.2.2.2.2.2.2.2.2.2.2.1), (HIV.out.2.2.2.2.2.2.2.2.2.2.2.2.2.2.2.2.2.2.2.2.2.2.2.2.1), (HIV.out.2.2.2.2.2.2.2.2.2.2.2.2.2.2.2.2.2.2.2.2.2.2.2.2.2.1), (HIV.out.2.2.2.2.2.2.2.2.2.2.2.2.2.2.2.2.2.2.2.2.2.2.2.2.2.2.1), Lib.hid ((HIV.out.2.2.2.2.2.2.2.2.2.2.2.2.2.2.2.2.2.2.2.2.2.2.2.2.2.2.2).out.upd 2 (by decide))⟩
          · rintro L a u hL hk ⟨x, rfl, hI⟩ K hK
            have HK0 := Lib.hid hK
            clear hK
            have HIV := Lib.hid hI
            clear hI
            rw [(HIV.out.2.1).out (after_on hL 1 rfl)]
            rw [(HIV.out.2.2.1).out (after_on hL 2 rfl)]
            clear hL
            clear hk
            go_wp2
            exact HK0.out _ _ ⟨fun i => if i = 56 then .slice (some ⟨bq, oq, none⟩) b.hs.length cht else if i = 57 then .int .i64 (k : Int) else if i = 58 then .pointer (some ⟨bq, oq + k, none⟩) else x i, rfl, (HIV.out.1), Lib.hid (fun _ => rfl), Lib.hid (fun _ => rfl), Lib.hid (fun _ => rfl), (HIV.out.2.2.2.2.1), (HIV.out.2.2.2.2.2.1), (HIV.out.2.2.2.2.2.2.1), (HIV.out.2.2.2.2.2.2.2.1), (HIV.out.2.2.2.2.2.2.2.2.1), (HIV.out.2.2.2.2.2.2.2.2.2.1), (HIV.out.2.2.2.2.2.2.2.2.2.2.1), (HIV.out.2.2.2.2.2.2.2.2.2.2.2.1), (HIV.out.2.2.2.2.2.2.2.2.2.2.2.2.1), (HIV.out.2.2.2.2.2.2.2.2.2.2.2.2.2.1), (HIV.out.2.2.2.2.2.2.2.2.2.2.2.2.2.2.1), (HIV.out.2.2.2.2.2.2.2.2.2.2.2.2.2.2.2.1), (HIV.out.2.2.2.2.2.2.2.2.2.2.2.2.2.2.2.2.1), (HIV.out.2.2.2.2.2.2.2.2.2.2.2.2.2.2.2.2.2.1), (HIV.out.2.2.2.2.2.2.2.2.2.2.2.2.2.2.2.2.2.2.1), (HIV.out.2.2.2.2.2.2.2.2.2.2.2.2.2.2.2.2.2.2.2.1), (HIV.out.2.2.2.2.2.2.2.2.2.2.2.2.2.2.2.2.2.2.2.2.1), (HIV.out.2.2.2.2.2.2.2.2.2.2.2.2.2.2.2.2.2.2.2.2.2.1), (HIV.out.2.2.2.2.2.2.2.2.2.2.2.2.2.2.2.2.2.2.2.2.2.2.1), (HIV.out.2.2.2.2.2.2.2.2.2.2.2.2.2.2.2.2.2.2.2.2.2.2.2.1), (HIV.out.2.2.2.2.2.2.2.2.2.2.2.2.2.2.2.2.2.2.2.2.2.2.2.2.1), (HIV.out.2.2.2.2.2.2.2.2.2.2.2.2.2.2.2.2.2.2.2.2.2.2.2.2.2.1), (HIV.out.2.2.2.2.2.2.2.2.2.2.2.2.2.2.2.2.2.2.2.2.2.2.2.2.2.2.1), Lib.hid ((HIV.out.2.2.2.2.2.2.2.2.2.2.2.2.2.2.2.2.2.2.2.2.2.2.2.2.2.2.2).out.upd 3 (by decide))⟩
          · rintro L a u hL hk ⟨x, rfl, hI⟩ K hK
            have HK0 := Lib.hid hK
            clear hK
            have HIV := Lib.hid hI
            clear hI
            rw [(HIV.out.2.2.2.1).out (after_on hL 3 rfl)]
            have c0 := CT.out u (HIV.out.2.2.2.2.2.2.2.2.2.2.2.2.2.2.2.2.2.2.2.2.1).out
            clear hL
            clear hk
            go_wp2
            exact HK0.out _ _ ⟨fun i => if i = 58 then .pointer (some ⟨bq, oq + k, none⟩) else if i = 59 then .int .i64 tk else x i, rfl, (HIV.out.1), (HIV.out.2.1), (HIV.out.2.2.1), Lib.hid (fun _ => rfl), Lib.hid (fun _ => rfl), (HIV.out.2.2.2.2.2.1), (HIV.out.2.2.2.2.2.2.1), (HIV.out.2.2.2.2.2.2.2.1), (HIV.out.2.2.2.2.2.2.2.2.1), (HIV.out.2.2.2.2.2.2.2.2.2.1), (HIV.out.2.2.2.2.2.2.2.2.2.2.1), (HIV.out.2.2.2.2.2.2.2.2.2.2.2.1), (HIV.out.2.2.2.2.2.2.2.2.2.2.2.2.1), (HIV.out.2.2.2.2.2.2.2.2.2.2.2.2.2.1), (HIV.out.2.2.2.2.2.2.2.2.2.2.2.2.2.2.1), (HIV.out.2.2.2.2.2.2.2.2.2.2.2.2.2.2.2.1), (HIV.out.2.2.2.2.2.2.2.2.2.2.2.2.2.2.2.2.1), (HIV.out.2.2.2.2.2.2.2.2.2.2.2.2.2.2.2.2.2.1), (HIV.out.2.2.2.2.2.2.2.2.2.2.2.2.2.2.2.2.2.2.1), (HIV.out.2.2.2.2.2.2.2.2.2.2.2.2.2.2.2.2.2.2.2.1), (HIV.out.2.2.2.2.2.2.2.2.2.2.2.2.2.2.2.2.2.2.2.2.1), (HIV.out.2.2.2.2.2.2.2.2.2.2.2.2.2.2.2.2.2.2.2.2.2.1), (HIV.out.2.2.2.2.2.2.2.2.2.2.2.2.2.2.2.2.2.2.2.2.2.2.1), (HIV.out.2.2.2.2.2.2.2.2.2.2.2.2.2.2.2.2.2.2.2.2.2.2.2.1), (HIV.out.2.2.2.2.2.2.2.2.2.2.2.2.2.2.2.2.2.2.2.2.2.2.2.2.1), (HIV.out.2.2.2.2.2.2.2.2.2.2.2.2.2.2.2.2.2.2.2.2.2.2.2.2.2.1), (HIV.out.2.2.2.2.2.2.2.2.2.2.2.2.2.2.2.2.2.2.2.2.2.2.2.2.2.2.1), Lib.hid ((HIV.out.2.2.2.2.2.2.2.2.2.2.2.2.2.2.2.2.2.2.2.2.2.2.2.2.2.2.2).out.upd 4 (by decide))⟩
          · rintro L a u hL hk ⟨x, rfl, hI⟩ K hK
            have HK0 := Lib.hid hK
            clear hK
            have HIV := Lib.hid hI
            clear hI
            rw [(HIV.out.2.2.2.2.1).out (after_on hL 4 rfl)]
            have HFM := Lib.hid ((HIV.out.2.2.2.2.2.2.2.2.2.2.2.2.2.2.2.2.2.2.2.1).out)
            rw [hk] at HFM
            clear hk
            clear hL
            go_wp2
            exact HK0.out _ _ ⟨fun i => if i = 59 then .int .i64 tk else if i = 60 then .slice (some ⟨u.heap.size, 0, none⟩) 1 1 else x i, rfl, (HIV.out.1), (HIV.out.2.1), (HIV.out.2.2.1), (HIV.out.2.2.2.1), Lib.hid (fun _ => rfl), (HIV.out.2.2.2.2.2.1), (HIV.out.2.2.2.2.2.2.1), (HIV.out.2.2.2.2.2.2.2.1), (HIV.out.2.2.2.2.2.2.2.2.1), (HIV.out.2.2.2.2.2.2.2.2.2.1), (HIV.out.2.2.2.2.2.2.2.2.2.2.1), (HIV.out.2.2.2.2.2.2.2.2.2.2.2.1), (HIV.out.2.2.2.2.2.2.2.2.2.2.2.2.1), (HIV.out.2.2.2.2.2.2.2.2.2.2.2.2.2.1), (HIV.out.2.2.2.2.2.2.2.2.2.2.2.2.2.2.1), (HIV.out.2.2.2.2.2.2.2.2.2.2.2.2.2.2.2.1), (HIV.out.2.2.2.2.2.2.2.2.2.2.2.2.2.2.2.2.1), (HIV.out.2.2.2.2.2.2.2.2.2.2.2.2.2.2.2.2.2.1), (HIV.out.2.2.2.2.2.2.2.2.2.2.2.2.2.2.2.2.2.2.1), Lib.hid (fam_lit0 HFM.out (HIV.out.2.2.2.2.2.2.2.2.2.2.2.2.2.2.2.2.2.2.2.2.1).out.size), Lib.hid ((HIV.out.2.2.2.2.2.2.2.2.2.2.2.2.2.2.2.2.2.2.2.2.1).out.trans ((below_alloc u _).mono (HIV.out.2.2.2.2.2.2.2.2.2.2.2.2.2.2.2.2.2.2.2.2.1).out.size)), (HIV.out.2.2.2.2.2.2.2.2.2.2.2.2.2.2.2.2.2.2.2.2.2.1), (HIV.out.2.2.2.2.2.2.2.2.2.2.2.2.2.2.2.2.2.2.2.2.2.2.1), (HIV.out.2.2.2.2.2.2.2.2.2.2.2.2.2.2.2.2.2.2.2.2.2.2.2.1), (HIV.out.2.2.2.2.2.2.2.2.2.2.2.2.2.2.2.2.2.2.2.2.2.2.2.2.1), (HIV.out.2.2.2.2.2.2.2.2.2.2.2.2.2.2.2.2.2.2.2.2.2.2.2.2.2.1), (HIV.out.2.2.2.2.2.2.2.2.2.2.2.2.2.2.2.2.2.2.2.2.2.2.2.2.2.2.1), Lib.hid ((HIV.out.2.2.2.2.2.2.2.2.2.2.2.2.2.2.2.2.2.2.2.2.2.2.2.2.2.2.2).out.upd 5 (by decide))⟩
          · rintro L a u hL hk ⟨x, rfl, hI⟩ K hK
            have HK0 := Lib.hid hK
            clear hK
            have HIV := Lib.hid hI
            clear hI
            rw [(HIV.out.1).out (after_on hL 0 rfl)]
            have hc := after_on hL 5 rfl
            have HFM := Lib.hid ((HIV.out.2.2.2.2.2.2.2.2.2.2.2.2.2.2.2.2.2.2.2.1).out)
            rw [hk, hc] at HFM
            have HK6 := Lib.hid hk
            have HC5 := Lib.hid hc
            clear hL hk hc
            refine wp_append_fam (i := 0) (j := 3) _ _ rfl HFM.out (HIV.out.2.2.2.2.2.2.2.2.2.2.2.2.2.2.2.2.2.2.2.2.1).out.size rfl rfl (by decide) rfl (by have := HXL.out; simp only [famX, cond_false]; omega) ?_
            intro v' u' hF2 hB2
            exact HK0.out _ _ ⟨fun i => if i = 55 then v 0 else if i = 61 then v' else x i, rfl, Lib.hid (fun _ => rfl), (HIV.out.2.1), (HIV.out.2.2.1), (HIV.out.2.2.2.1), (HIV.out.2.2.2.2.1), (HIV.out.2.2.2.2.2.1), (HIV.out.2.2.2.2.2.2.1), (HIV.out.2.2.2.2.2.2.2.1), (HIV.out.2.2.2.2.2.2.2.2.1), (HIV.out.2.2.2.2.2.2.2.2.2.1), (HIV.out.2.2.2.2.2.2.2.2.2.2.1), (HIV.out.2.2.2.2.2.2.2.2.2.2.2.1), (HIV.out.2.2.2.2.2.2.2.2.2.2.2.2.1), (HIV.out.2.2.2.2.2.2.2.2.2.2.2.2.2.1), (HIV.out.2.2.2.2.2.2.2.2.2.2.2.2.2.2.1), (HIV.out.2.2.2.2.2.2.2.2.2.2.2.2.2.2.2.1), (HIV.out.2.2.2.2.2.2.2.2.2.2.2.2.2.2.2.2.1), (HIV.out.2.2.2.2.2.2.2.2.2.2.2.2.2.2.2.2.2.1), (HIV.out.2.2.2.2.2.2.2.2.2.2.2.2.2.2.2.2.2.2.1), Lib.hid (fam_app0 hF2 HC5.out), Lib.hid ((HIV.out.2.2.2.2.2.2.2.2.2.2.2.2.2.2.2.2.2.2.2.2.1).out.trans hB2), (HIV.out.2.2.2.2.2.2.2.2.2.2.2.2.2.2.2.2.2.2.2.2.2.1), (HIV.out.2.2.2.2.2.2.2.2.2.2.2.2.2.2.2.2.2.2.2.2.2.2.1), (HIV.out.2.2.2.2.2.2.2.2.2.2.2.2.2.2.2.2.2.2.2.2.2.2.2.1), Lib.hid (fun h => absurd (((HIV.out.2.2.2.2.2.2.2.2.2.2.2.2.2.2.2.2.2.2.2.2.2.2.2.2.2.2.2).out.1 h).2) (by rw [HK6.out]; decide)), (HIV.out.2.2.2.2.2.2.2.2.2.2.2.2.2.2.2.2.2.2.2.2.2.2.2.2.2.1), (HIV.out.2.2.2.2.2.2.2.2.2.2.2.2.2.2.2.2.2.2.2.2.2.2.2.2.2.2.1), Lib.hid ((HIV.out.2.2.2.2.2.2.2.2.2.2.2.2.2.2.2.2.2.2.2.2.2.2.2.2.2.2.2).out.upd 6 (by decide))⟩
          · rintro L a u hL hk ⟨x, rfl, hI⟩ K hK
            have HK0 := Lib.hid hK
            clear hK
            have HIV := Lib.hid hI
            clear hI
            have h25 : L 26 = false := by cases h7 : L 26; rfl; exact absurd ((HIV.out.2.2.2.2.2.2.2.2.2.2.2.2.2.2.2.2.2.2.2.2.2.2.2.2.2.2.2).out.2.1 h7).1 (by simp [hk])
            have e13 := (HIV.out.2.2.2.2.2.2.2.2.2.2.2.2.2.2.2.2.2.2.2.2.2.2.1).out h25
            rw [e13]
            clear hk
            clear hL
            go_wp2
            exact HK0.out _ _ ⟨fun i => if i = 62 then v 1 else if i = 14 then v 1 else x i, rfl, (HIV.out.1), (HIV.out.2.1), (HIV.out.2.2.1), (HIV.out.2.2.2.1), (HIV.out.2.2.2.2.1), Lib.hid (fun _ => rfl), (HIV.out.2.2.2.2.2.2.1), (HIV.out.2.2.2.2.2.2.2.1), (HIV.out.2.2.2.2.2.2.2.2.1), (HIV.out.2.2.2.2.2.2.2.2.2.1), (HIV.out.2.2.2.2.2.2.2.2.2.2.1), (HIV.out.2.2.2.2.2.2.2.2.2.2.2.1), (HIV.out.2.2.2.2.2.2.2.2.2.2.2.2.1), (HIV.out.2.2.2.2.2.2.2.2.2.2.2.2.2.1), (HIV.out.2.2.2.2.2.2.2.2.2.2.2.2.2.2.1), (HIV.out.2.2.2.2.2.2.2.2.2.2.2.2.2.2.2.1), (HIV.out.2.2.2.2.2.2.2.2.2.2.2.2.2.2.2.2.1), (HIV.out.2.2.2.2.2.2.2.2.2.2.2.2.2.2.2.2.2.1), (HIV.out.2.2.2.2.2.2.2.2.2.2.2.2.2.2.2.2.2.2.1), (HIV.out.2.2.2.2.2.2.2.2.2.2.2.2.2.2.2.2.2.2.2.1), (HIV.out.2.2.2.2.2.2.2.2.2.2.2.2.2.2.2.2.2.2.2.2.1), (HIV.out.2.2.2.2.2.2.2.2.2.2.2.2.2.2.2.2.2.2.2.2.2.1), Lib.hid (fun _ => rfl), (HIV.out.2.2.2.2.2.2.2.2.2.2.2.2.2.2.2.2.2.2.2.2.2.2.2.1), (HIV.out.2.2.2.2.2.2.2.2.2.2.2.2.2.2.2.2.2.2.2.2.2.2.2.2.1), Lib.hid (fun h => absurd (h25.symm.trans h) (by decide)), (HIV.out.2.2.2.2.2.2.2.2.2.2.2.2.2.2.2.2.2.2.2.2.2.2.2.2.2.2.1), Lib.hid ((HIV.out.2.2.2.2.2.2.2.2.2.2.2.2.2.2.2.2.2.2.2.2.2.2.2.2.2.2.2).out.upd 7 (by decide))⟩
          · rintro L a u hL hk ⟨x, rfl, hI⟩ K hK
            have HK0 := Lib.hid hK
            clear hK
            have HIV := Lib.hid hI
            clear hI
            clear hL
            clear hk
            go_wp2
            exact HK0.out _ _ ⟨fun i => if i = 63 then .pointer (some ⟨w.heap.size, 4, none⟩) else x i, rfl, (HIV.out.1), (HIV.out.2.1), (HIV.out.2.2.1), (HIV.out.2.2.2.1), (HIV.out.2.2.2.2.1), (HIV.out.2.2.2.2.2.1), Lib.hid (fun _ => rfl), (HIV.out.2.2.2.2.2.2.2.1), (HIV.out.2.2.2.2.2.2.2.2.1), (HIV.out.2.2.2.2.2.2.2.2.2.1), (HIV.out.2.2.2.2.2.2.2.2.2.2.1), (HIV.out.2.2.2.2.2.2.2.2.2.2.2.1), (HIV.out.2.2.2.2.2.2.2.2.2.2.2.2.1), (HIV.out.2.2.2.2.2.2.2.2.2.2.2.2.2.1), (HIV.out.2.2.2.2.2.2.2.2.2.2.2.2.2.2.1), (HIV.out.2.2.2.2.2.2.2.2.2.2.2.2.2.2.2.1), (HIV.out.2.2.2.2.2.2.2.2.2.2.2.2.2.2.2.2.1), (HIV.out.2.2.2.2.2.2.2.2.2.2.2.2.2.2.2.2.2.1), (HIV.out.2.2.2.2.2.2.2.2.2.2.2.2.2.2.2.2.2.2.1), (HIV.out.2.2.2.2.2.2.2.2.2.2.2.2.2.2.2.2.2.2.2.1), (HIV.out.2.2.2.2.2.2.2.2.2.2.2.2.2.2.2.2.2.2.2.2.1), (HIV.out.2.2.2.2.2.2.2.2.2.2.2.2.2.2.2.2.2.2.2.2.2.1), (HIV.out.2.2.2.2.2.2.2.2.2.2.2.2.2.2.2.2.2.2.2.2.2.2.1), (HIV.out.2.2.2.2.2.2.2.2.2.2.2.2.2.2.2.2.2.2.2.2.2.2.2.1), (HIV.out.2.2.2.2.2.2.2.2.2.2.2.2.2.2.2.2.2.2.2.2.2.2.2.2.1), (HIV.out.2.2.2.2.2.2.2.2.2.2.2.2.2.2.2.2.2.2.2.2.2.2.2.2.2.1), (HIV.out.2.2.2.2.2.2.2.2.2.2.2.2.2.2.2.2.2.2.2.2.2.2.2.2.2.2.1), Lib.hid ((HIV.out.2.2.2.2.2.2.2.2.2.2.2.2.2.2.2.2.2.2.2.2.2.2.2.2.2.2.2).out.upd 8 (by decide))⟩
          · rintro L a u hL hk ⟨x, rfl, hI⟩ K hK
            have HK0 := Lib.hid hK
            clear hK
            have HIV := Lib.hid hI
            clear hI
            rw [(HIV.out.2.2.2.2.2.2.1).out (after_on hL 8 rfl)]
            have c0 := C4.out u (HIV.out.2.2.2.2.2.2.2.2.2.2.2.2.2.2.2.2.2.2.2.2.1).out
            clear hL
            clear hk
            go_wp2
            exact HK0.out _ _ ⟨fun i => if i = 63 then .pointer (some ⟨w.heap.size, 4, none⟩) else if i = 64 then .slice (some ⟨bb, o, none⟩) b.hs.length c else x i, rfl, (HIV.out.1), (HIV.out.2.1), (HIV.out.2.2.1), (HIV.out.2.2.2.1), (HIV.out.2.2.2.2.1), (HIV.out.2.2.2.2.2.1), Lib.hid (fun _ => rfl), Lib.hid (fun _ => rfl), (HIV.out.2.2.2.2.2.2.2.2.1), (HIV.out.2.2.2.2.2.2.2.2.2.1), (HIV.out.2.2.2.2.2.2.2.2.2.2.1), (HIV.out.2.2.2.2.2.2.2.2.2.2.2.1), (HIV.out.2.2.2.2.2.2.2.2.2.2.2.2.1), (HIV.out.2.2.2.2.2.2.2.2.2.2.2.2.2.1), (HIV.out.2.2.2.2.2.2.2.2.2.2.2.2.2.2.1), (HIV.out.2.2.2.2.2.2.2.2.2.2.2.2.2.2.2.1), (HIV.out.2.2.2.2.2.2.2.2.2.2.2.2.2.2.2.2.1), (HIV.out.2.2.2.2.2.2.2.2.2.2.2.2.2.2.2.2.2.1), (HIV.out.2.2.2.2.2.2.2.2.2.2.2.2.2.2.2.2.2.2.1), (HIV.out.2.2.2.2.2.2.2.2.2.2.2.2.2.2.2.2.2.2.2.1), (HIV.out.2.2.2.2.2.2.2.2.2.2.2.2.2.2.2.2.2.2.2.2.1), (HIV.out.2.2.2.2.2.2.2.2.2.2.2.2.2.2.2.2.2.2.2.2.2.1), (HIV.out.2.2.2.2.2.2.2.2.2.2.2.2.2.2.2.2.2.2.2.2.2.2.1), (HIV.out.2.2.2.2.2.2.2.2.2.2.2.2.2.2.2.2.2.2.2.2.2.2.2.1), (HIV.out.2.2.2.2.2.2.2.2.2.2.2.2.2.2.2.2.2.2.2.2.2.2.2.2.1), (HIV.out.2.2.2.2.2.2.2.2.2.2.2.2.2.2.2.2.2.2.2.2.2.2.2.2.2.1), (HIV.out.2.2.2.2.2.2.2.2.2.2.2.2.2.2.2.2.2.2.2.2.2.2.2.2.2.2.1), Lib.hid ((HIV.out.2.2.2.2.2.2.2.2.2.2.2.2.2.2.2.2.2.2.2.2.2.2.2.2.2.2.2).out.upd 9 (by decide))⟩
          · rintro L a u hL hk ⟨x, rfl, hI⟩ K hK
            have HK0 := Lib.hid hK
            clear hK
            have HIV := Lib.hid hI
            clear hI
            clear hL
            clear hk
            go_wp2
            exact HK0.out _ _ ⟨fun i => if i = 65 then .int .i64 (k : Int) else x i, rfl, (HIV.out.1), (HIV.out.2.1), (HIV.out.2.2.1), (HIV.out.2.2.2.1), (HIV.out.2.2.2.2.1), (HIV.out.2.2.2.2.2.1), (HIV.out.2.2.2.2.2.2.1), (HIV.out.2.2.2.2.2.2.2.1), Lib.hid (fun _ => rfl), (HIV.out.2.2.2.2.2.2.2.2.2.1), (HIV.out.2.2.2.2.2.2.2.2.2.2.1), (HIV.out.2.2.2.2.2.2.2.2.2.2.2.1), (HIV.out.2.2.2.2.2.2.2.2.2.2.2.2.1), (HIV.out.2.2.2.2.2.2.2.2.2.2.2.2.2.1), (HIV.out.2.2.2.2.2.2.2.2.2.2.2.2.2.2.1), (HIV.out.2.2.2.2.2.2.2.2.2.2.2.2.2.2.2.1), (HIV.out.2.2.2.2.2.2.2.2.2.2.2.2.2.2.2.2.1), (HIV.out.2.2.2.2.2.2.2.2.2.2.2.2.2.2.2.2.2.1), (HIV.out.2.2.2.2.2.2.2.2.2.2.2.2.2.2.2.2.2.2.1), (HIV.out.2.2.2.2.2.2.2.2.2.2.2.2.2.2.2.2.2.2.2.1), (HIV.out.2.2.2.2.2.2.2.2.2.2.2.2.2.2.2.2.2.2.2.2.1), (HIV.out.2.2.2.2.2.2.2.2.2.2.2.2.2.2.2.2.2.2.2.2.2.1), (HIV.out.2.2.2.2.2.2.2.2.2.2.2.2.2.2.2.2.2.2.2.2.2.2.1), (HIV.out.2.2.2.2.2.2.2.2.2.2.2.2.2.2.2.2.2.2.2.2.2.2.2.1), (HIV.out.2.2.2.2.2.2.2.2.2.2.2.2.2.2.2.2.2.2.2.2.2.2.2.2.1), (HIV.out.2.2.2.2.2.2.2.2.2.2.2.2.2.2.2.2.2.2.2.2.2.2.2.2.2.1), (HIV.out.2.2.2.2.2.2.2.2.2.2.2.2.2.2.2.2.2.2.2.2.2.2.2.2.2.2.1), Lib.hid ((HIV.out.2.2.2.2.2.2.2.2.2.2.2.2.2.2.2.2.2.2.2.2.2.2.2.2.2.2.2).out.upd 10 (by decide))⟩
          · rintro L a u hL hk ⟨x, rfl, hI⟩ K hK
            have HK0 := Lib.hid hK
            clear hK
            have HIV := Lib.hid hI
            clear hI
            rw [(HIV.out.2.2.2.2.2.2.2.1).out (after_on hL 9 rfl)]
            rw [(HIV.out.2.2.2.2.2.2.2.2.1).out (after_on hL 10 rfl)]
            clear hL
            clear hk
            go_wp2
            exact HK0.out _ _ ⟨fun i => if i = 64 then .slice (some ⟨bb, o, none⟩) b.hs.length c else if i = 65 then .int .i64 (k : Int) else if i = 66 then .pointer (some ⟨bb, o + k * 2, none⟩) else x i, rfl, (HIV.out.1), (HIV.out.2.1), (HIV.out.2.2.1), (HIV.out.2.2.2.1), (HIV.out.2.2.2.2.1), (HIV.out.2.2.2.2.2.1), (HIV.out.2.2.2.2.2.2.1), Lib.hid (fun _ => rfl), Lib.hid (fun _ => rfl), Lib.hid (fun _ => rfl), (HIV.out.2.2.2.2.2.2.2.2.2.2.1), (HIV.out.2.2.2.2.2.2.2.2.2.2.2.1), (HIV.out.2.2.2.2.2.2.2.2.2.2.2.2.1), (HIV.out.2.2.2.2.2.2.2.2.2.2.2.2.2.1), (HIV.out.2.2.2.2.2.2.2.2.2.2.2.2.2.2.1), (HIV.out.2.2.2.2.2.2.2.2.2.2.2.2.2.2.2.1), (HIV.out.2.2.2.2.2.2.2.2.2.2.2.2.2.2.2.2.1), (HIV.out.2.2.2.2.2.2.2.2.2.2.2.2.2.2.2.2.2.1), (HIV.out.2.2.2.2.2.2.2.2.2.2.2.2.2.2.2.2.2.2.1), (HIV.out.2.2.2.2.2.2.2.2.2.2.2.2.2.2.2.2.2.2.2.1), (HIV.out.2.2.2.2.2.2.2.2.2.2.2.2.2.2.2.2.2.2.2.2.1), (HIV.out.2.2.2.2.2.2.2.2.2.2.2.2.2.2.2.2.2.2.2.2.2.1), (HIV.out.2.2.2.2.2.2.2.2.2.2.2.2.2.2.2.2.2.2.2.2.2.2.1), (HIV.out.2.2.2.2.2.2.2.2.2.2.2.2.2.2.2.2.2.2.2.2.2.2.2.1), (HIV.out.2.2.2.2.2.2.2.2.2.2.2.2.2.2.2.2.2.2.2.2.2.2.2.2.1), (HIV.out.2.2.2.2.2.2.2.2.2.2.2.2.2.2.2.2.2.2.2.2.2.2.2.2.2.1), (HIV.out.2.2.2.2.2.2.2.2.2.2.2.2.2.2.2.2.2.2.2.2.2.2.2.2.2.2.1), Lib.hid ((HIV.out.2.2.2.2.2.2.2.2.2.2.2.2.2.2.2.2.2.2.2.2.2.2.2.2.2.2.2).out.upd 11 (by decide))⟩
          · rintro L a u hL hk ⟨x, rfl, hI⟩ K hK
            have HK0 := Lib.hid hK
            clear hK
            have HIV := Lib.hid hI
            clear hI
            rw [(HIV.out.2.2.2.2.2.2.2.2.2.1).out (after_on hL 11 rfl)]
            clear hL
            clear hk
            go_wp2
            exact HK0.out _ _ ⟨fun i => if i = 66 then .pointer (some ⟨bb, o + k * 2, none⟩) else if i = 67 then .pointer (some ⟨bb, o + k * 2, none⟩) else x i, rfl, (HIV.out.1), (HIV.out.2.1), (HIV.out.2.2.1), (HIV.out.2.2.2.1), (HIV.out.2.2.2.2.1), (HIV.out.2.2.2.2.2.1), (HIV.out.2.2.2.2.2.2.1), (HIV.out.2.2.2.2.2.2.2.1), (HIV.out.2.2.2.2.2.2.2.2.1), Lib.hid (fun _ => rfl), Lib.hid (fun _ => rfl), (HIV.out.2.2.2.2.2.2.2.2.2.2.2.1), (HIV.out.2.2.2.2.2.2.2.2.2.2.2.2.1), (HIV.out.2.2.2.2.2.2.2.2.2.2.2.2.2.1), (HIV.out.2.2.2.2.2.2.2.2.2.2.2.2.2.2.1), (HIV.out.2.2.2.2.2.2.2.2.2.2.2.2.2.2.2.1), (HIV.out.2.2.2.2.2.2.2.2.2.2.2.2.2.2.2.2.1), (HIV.out.2.2.2.2.2.2.2.2.2.2.2.2.2.2.2.2.2.1), (HIV.out.2.2.2.2.2.2.2.2.2.2.2.2.2.2.2.2.2.2.1), (HIV.out.2.2.2.2.2.2.2.2.2.2.2.2.2.2.2.2.2.2.2.1), (HIV.out.2.2.2.2.2.2.2.2.2.2.2.2.2.2.2.2.2.2.2.2.1), (HIV.out.2.2.2.2.2.2.2.2.2.2.2.2.2.2.2.2.2.2.2.2.2.1), (HIV.out.2.2.2.2.2.2.2.2.2.2.2.2.2.2.2.2.2.2.2.2.2.2.1), (HIV.out.2.2.2.2.2.2.2.2.2.2.2.2.2.2.2.2.2.2.2.2.2.2.2.1), (HIV.out.2.2.2.2.2.2.2.2.2.2.2.2.2.2.2.2.2.2.2.2.2.2.2.2.1), (HIV.out.2.2.2.2.2.2.2.2.2.2.2.2.2.2.2.2.2.2.2.2.2.2.2.2.2.1), (HIV.out.2.2.2.2.2.2.2.2.2.2.2.2.2.2.2.2.2.2.2.2.2.2.2.2.2.2.1), Lib.hid ((HIV.out.2.2.2.2.2.2.2.2.2.2.2.2.2.2.2.2.2.2.2.2.2.2.2.2.2.2.2).out.upd 12 (by decide))⟩
          · rintro L a u hL hk ⟨x, rfl, hI⟩ K hK
            have HK0 := Lib.hid hK
            clear hK
            have HIV := Lib.hid hI
            clear hI
            rw [(HIV.out.2.2.2.2.2.2.2.2.2.2.1).out (after_on hL 12 rfl)]
            have c0 := CL.out u (HIV.out.2.2.2.2.2.2.2.2.2.2.2.2.2.2.2.2.2.2.2.2.1).out
            clear hL
            clear hk
            go_wp2
            exact HK0.out _ _ ⟨fun i => if i = 67 then .pointer (some ⟨bb, o + k * 2, none⟩) else if i = 68 then .int .i64 lo else x i, rfl, (HIV.out.1), (HIV.out.2.1), (HIV.out.2.2.1), (HIV.out.2.2.2.1), (HIV.out.2.2.2.2.1), (HIV.out.2.2.2.2.2.1), (HIV.out.2.2.2.2.2.2.1), (HIV.out.2.2.2.2.2.2.2.1), (HIV.out.2.2.2.2.2.2.2.2.1), (HIV.out.2.2.2.2.2.2.2.2.2.1), Lib.hid (fun _ => rfl), Lib.hid (fun _ => rfl), (HIV.out.2.2.2.2.2.2.2.2.2.2.2.2.1), (HIV.out.2.2.2.2.2.2.2.2.2.2.2.2.2.1), (HIV.out.2.2.2.2.2.2.2.2.2.2.2.2.2.2.1), (HIV.out.2.2.2.2.2.2.2.2.2.2.2.2.2.2.2.1), (HIV.out.2.2.2.2.2.2.2.2.2.2.2.2.2.2.2.2.1), (HIV.out.2.2.2.2.2.2.2.2.2.2.2.2.2.2.2.2.2.1), (HIV.out.2.2.2.2.2.2.2.2.2.2.2.2.2.2.2.2.2.2.1), (HIV.out.2.2.2.2.2.2.2.2.2.2.2.2.2.2.2.2.2.2.2.1), (HIV.out.2.2.2.2.2.2.2.2.2.2.2.2.2.2.2.2.2.2.2.2.1), (HIV.out.2.2.2.2.2.2.2.2.2.2.2.2.2.2.2.2.2.2.2.2.2.1), (HIV.out.2.2.2.2.2.2.2.2.2.2.2.2.2.2.2.2.2.2.2.2.2.2.1), (HIV.out.2.2.2.2.2.2.2.2.2.2.2.2.2.2.2.2.2.2.2.2.2.2.2.1), (HIV.out.2.2.2.2.2.2.2.2.2.2.2.2.2.2.2.2.2.2.2.2.2.2.2.2.1), (HIV.out.2.2.2.2.2.2.2.2.2.2.2.2.2.2.2.2.2.2.2.2.2.2.2.2.2.1), (HIV.out.2.2.2.2.2.2.2.2.2.2.2.2.2.2.2.2.2.2.2.2.2.2.2.2.2.2.1), Lib.hid ((HIV.out.2.2.2.2.2.2.2.2.2.2.2.2.2.2.2.2.2.2.2.2.2.2.2.2.2.2.2).out.upd 13 (by decide))⟩
          · rintro L a u hL hk ⟨x, rfl, hI⟩ K hK
            have HK0 := Lib.hid hK
            clear hK
            have HIV := Lib.hid hI
            clear hI
            rw [(HIV.out.2.2.2.2.2.2.2.2.2.2.2.1).out (after_on hL 13 rfl)]
            have HFM := Lib.hid ((HIV.out.2.2.2.2.2.2.2.2.2.2.2.2.2.2.2.2.2.2.2.1).out)
            rw [hk] at HFM
            clear hk
            clear hL
            go_wp2
            exact HK0.out _ _ ⟨fun i => if i = 68 then .int .i64 lo else if i = 69 then .slice (some ⟨u.heap.size, 0, none⟩) 1 1 else x i, rfl, (HIV.out.1), (HIV.out.2.1), (HIV.out.2.2.1), (HIV.out.2.2.2.1), (HIV.out.2.2.2.2.1), (HIV.out.2.2.2.2.2.1), (HIV.out.2.2.2.2.2.2.1), (HIV.out.2.2.2.2.2.2.2.1), (HIV.out.2.2.2.2.2.2.2.2.1), (HIV.out.2.2.2.2.2.2.2.2.2.1), (HIV.out.2.2.2.2.2.2.2.2.2.2.1), Lib.hid (fun _ => rfl), (HIV.out.2.2.2.2.2.2.2.2.2.2.2.2.1), (HIV.out.2.2.2.2.2.2.2.2.2.2.2.2.2.1), (HIV.out.2.2.2.2.2.2.2.2.2.2.2.2.2.2.1), (HIV.out.2.2.2.2.2.2.2.2.2.2.2.2.2.2.2.1), (HIV.out.2.2.2.2.2.2.2.2.2.2.2.2.2.2.2.2.1), (HIV.out.2.2.2.2.2.2.2.2.2.2.2.2.2.2.2.2.2.1), (HIV.out.2.2.2.2.2.2.2.2.2.2.2.2.2.2.2.2.2.2.1), Lib.hid (fam_lit1 HFM.out (HIV.out.2.2.2.2.2.2.2.2.2.2.2.2.2.2.2.2.2.2.2.2.1).out.size), Lib.hid ((HIV.out.2.2.2.2.2.2.2.2.2.2.2.2.2.2.2.2.2.2.2.2.1).out.trans ((below_alloc u _).mono (HIV.out.2.2.2.2.2.2.2.2.2.2.2.2.2.2.2.2.2.2.2.2.1).out.size)), (HIV.out.2.2.2.2.2.2.2.2.2.2.2.2.2.2.2.2.2.2.2.2.2.1), (HIV.out.2.2.2.2.2.2.2.2.2.2.2.2.2.2.2.2.2.2.2.2.2.2.1), (HIV.out.2.2.2.2.2.2.2.2.2.2.2.2.2.2.2.2.2.2.2.2.2.2.2.1), (HIV.out.2.2.2.2.2.2.2.2.2.2.2.2.2.2.2.2.2.2.2.2.2.2.2.2.1), (HIV.out.2.2.2.2.2.2.2.2.2.2.2.2.2.2.2.2.2.2.2.2.2.2.2.2.2.1), (HIV.out.2.2.2.2.2.2.2.2.2.2.2.2.2.2.2.2.2.2.2.2.2.2.2.2.2.2.1), Lib.hid ((HIV.out.2.2.2.2.2.2.2.2.2.2.2.2.2.2.2.2.2.2.2.2.2.2.2.2.2.2.2).out.upd 14 (by decide))⟩
          · rintro L a u hL hk ⟨x, rfl, hI⟩ K hK
            have HK0 := Lib.hid hK
            clear hK
            have HIV := Lib.hid hI
            clear hI
            rw [(HIV.out.2.2.2.2.2.1).out (after_on hL 7 rfl)]
            have hc := after_on hL 14 rfl
            have HFM := Lib.hid ((HIV.out.2.2.2.2.2.2.2.2.2.2.2.2.2.2.2.2.2.2.2.1).out)
            rw [hk, hc] at HFM
            have HK6 := Lib.hid hk
            have HC5 := Lib.hid hc
            clear hL hk hc
            refine wp_append_fam (i := 1) (j := 4) _ _ rfl HFM.out (HIV.out.2.2.2.2.2.2.2.2.2.2.2.2.2.2.2.2.2.2.2.2.1).out.size rfl rfl (by decide) rfl (by have := HXL.out; simp only [famX, cond_false]; omega) ?_
            intro v' u' hF2 hB2
            exact HK0.out _ _ ⟨fun i => if i = 62 then v 1 else if i = 70 then v' else x i, rfl, (HIV.out.1), (HIV.out.2.1), (HIV.out.2.2.1), (HIV.out.2.2.2.1), (HIV.out.2.2.2.2.1), Lib.hid (fun _ => rfl), (HIV.out.2.2.2.2.2.2.1), (HIV.out.2.2.2.2.2.2.2.1), (HIV.out.2.2.2.2.2.2.2.2.1), (HIV.out.2.2.2.2.2.2.2.2.2.1), (HIV.out.2.2.2.2.2.2.2.2.2.2.1), (HIV.out.2.2.2.2.2.2.2.2.2.2.2.1), (HIV.out.2.2.2.2.2.2.2.2.2.2.2.2.1), (HIV.out.2.2.2.2.2.2.2.2.2.2.2.2.2.1), (HIV.out.2.2.2.2.2.2.2.2.2.2.2.2.2.2.1), (HIV.out.2.2.2.2.2.2.2.2.2.2.2.2.2.2.2.1), (HIV.out.2.2.2.2.2.2.2.2.2.2.2.2.2.2.2.2.1), (HIV.out.2.2.2.2.2.2.2.2.2.2.2.2.2.2.2.2.2.1), (HIV.out.2.2.2.2.2.2.2.2.2.2.2.2.2.2.2.2.2.2.1), Lib.hid (fam_app1 hF2 HC5.out), Lib.hid ((HIV.out.2.2.2.2.2.2.2.2.2.2.2.2.2.2.2.2.2.2.2.2.1).out.trans hB2), (HIV.out.2.2.2.2.2.2.2.2.2.2.2.2.2.2.2.2.2.2.2.2.2.1), (HIV.out.2.2.2.2.2.2.2.2.2.2.2.2.2.2.2.2.2.2.2.2.2.2.1), (HIV.out.2.2.2.2.2.2.2.2.2.2.2.2.2.2.2.2.2.2.2.2.2.2.2.1), (HIV.out.2.2.2.2.2.2.2.2.2.2.2.2.2.2.2.2.2.2.2.2.2.2.2.2.1), Lib.hid (fun h => absurd (((HIV.out.2.2.2.2.2.2.2.2.2.2.2.2.2.2.2.2.2.2.2.2.2.2.2.2.2.2.2).out.2.1 h).2) (by rw [HK6.out]; decide)), (HIV.out.2.2.2.2.2.2.2.2.2.2.2.2.2.2.2.2.2.2.2.2.2.2.2.2.2.2.1), Lib.hid ((HIV.out.2.2.2.2.2.2.2.2.2.2.2.2.2.2.2.2.2.2.2.2.2.2.2.2.2.2.2).out.upd 15 (by decide))⟩
          · rintro L a u hL hk ⟨x, rfl, hI⟩ K hK
            have HK0 := Lib.hid hK
            clear hK
            have HIV := Lib.hid hI
            clear hI
            have h25 : L 27 = false := by cases h7 : L 27; rfl; exact absurd ((HIV.out.2.2.2.2.2.2.2.2.2.2.2.2.2.2.2.2.2.2.2.2.2.2.2.2.2.2.2).out.2.2 h7).1 (by simp [hk])
            have e13 := (HIV.out.2.2.2.2.2.2.2.2.2.2.2.2.2.2.2.2.2.2.2.2.2.2.2.1).out h25
            rw [e13]
            clear hk
            clear hL
            go_wp2
            exact HK0.out _ _ ⟨fun i => if i = 71 then v 2 else if i = 15 then v 2 else x i, rfl, (HIV.out.1), (HIV.out.2.1), (HIV.out.2.2.1), (HIV.out.2.2.2.1), (HIV.out.2.2.2.2.1), (HIV.out.2.2.2.2.2.1), (HIV.out.2.2.2.2.2.2.1), (HIV.out.2.2.2.2.2.2.2.1), (HIV.out.2.2.2.2.2.2.2.2.1), (HIV.out.2.2.2.2.2.2.2.2.2.1), (HIV.out.2.2.2.2.2.2.2.2.2.2.1), (HIV.out.2.2.2.2.2.2.2.2.2.2.2.1), Lib.hid (fun _ => rfl), (HIV.out.2.2.2.2.2.2.2.2.2.2.2.2.2.1), (HIV.out.2.2.2.2.2.2.2.2.2.2.2.2.2.2.1), (HIV.out.2.2.2.2.2.2.2.2.2.2.2.2.2.2.2.1), (HIV.out.2.2.2.2.2.2.2.2.2.2.2.2.2.2.2.2.1), (HIV.out.2.2.2.2.2.2.2.2.2.2.2.2.2.2.2.2.2.1), (HIV.out.2.2.2.2.2.2.2.2.2.2.2.2.2.2.2.2.2.2.1), (HIV.out.2.2.2.2.2.2.2.2.2.2.2.2.2.2.2.2.2.2.2.1), (HIV.out.2.2.2.2.2.2.2.2.2.2.2.2.2.2.2.2.2.2.2.2.1), (HIV.out.2.2.2.2.2.2.2.2.2.2.2.2.2.2.2.2.2.2.2.2.2.1), (HIV.out.2.2.2.2.2.2.2.2.2.2.2.2.2.2.2.2.2.2.2.2.2.2.1), Lib.hid (fun _ => rfl), (HIV.out.2.2.2.2.2.2.2.2.2.2.2.2.2.2.2.2.2.2.2.2.2.2.2.2.1), (HIV.out.2.2.2.2.2.2.2.2.2.2.2.2.2.2.2.2.2.2.2.2.2.2.2.2.2.1), Lib.hid (fun h => absurd (h25.symm.trans h) (by decide)), Lib.hid ((HIV.out.2.2.2.2.2.2.2.2.2.2.2.2.2.2.2.2.2.2.2.2.2.2.2.2.2.2.2).out.upd 16 (by decide))⟩
          · rintro L a u hL hk ⟨x, rfl, hI⟩ K hK
            have HK0 := Lib.hid hK
            clear hK
            have HIV := Lib.hid hI
            clear hI
            clear hL
            clear hk
            go_wp2
            exact HK0.out _ _ ⟨fun i => if i = 72 then .pointer (some ⟨w.heap.size, 4, none⟩) else x i, rfl, (HIV.out.1), (HIV.out.2.1), (HIV.out.2.2.1), (HIV.out.2.2.2.1), (HIV.out.2.2.2.2.1), (HIV.out.2.2.2.2.2.1), (HIV.out.2.2.2.2.2.2.1), (HIV.out.2.2.2.2.2.2.2.1), (HIV.out.2.2.2.2.2.2.2.2.1), (HIV.out.2.2.2.2.2.2.2.2.2.1), (HIV.out.2.2.2.2.2.2.2.2.2.2.1), (HIV.out.2.2.2.2.2.2.2.2.2.2.2.1), (HIV.out.2.2.2.2.2.2.2.2.2.2.2.2.1), Lib.hid (fun _ => rfl), (HIV.out.2.2.2.2.2.2.2.2.2.2.2.2.2.2.1), (HIV.out.2.2.2.2.2.2.2.2.2.2.2.2.2.2.2.1), (HIV.out.2.2.2.2.2.2.2.2.2.2.2.2.2.2.2.2.1), (HIV.out.2.2.2.2.2.2.2.2.2.2.2.2.2.2.2.2.2.1), (HIV.out.2.2.2.2.2.2.2.2.2.2.2.2.2.2.2.2.2.2.1), (HIV.out.2.2.2.2.2.2.2.2.2.2.2.2.2.2.2.2.2.2.2.1), (HIV.out.2.2.2.2.2.2.2.2.2.2.2.2.2.2.2.2.2.2.2.2.1), (HIV.out.2.2.2.2.2.2.2.2.2.2.2.2.2.2.2.2.2.2.2.2.2.1), (HIV.out.2.2.2.2.2.2.2.2.2.2.2.2.2.2.2.2.2.2.2.2.2.2.1), (HIV.out.2.2.2.2.2.2.2.2.2.2.2.2.2.2.2.2.2.2.2.2.2.2.2.1), (HIV.out.2.2.2.2.2.2.2.2.2.2.2.2.2.2.2.2.2.2.2.2.2.2.2.2.1), (HIV.out.2.2.2.2.2.2.2.2.2.2.2.2.2.2.2.2.2.2.2.2.2.2.2.2.2.1), (HIV.out.2.2.2.2.2.2.2.2.2.2.2.2.2.2.2.2.2.2.2.2.2.2.2.2.2.2.1), Lib.hid ((HIV.out.2.2.2.2.2.2.2.2.2.2.2.2.2.2.2.2.2.2.2.2.2.2.2.2.2.2.2).out.upd 17 (by decide))⟩
          · rintro L a u hL hk ⟨x, rfl, hI⟩ K hK
            have HK0 := Lib.hid hK
            clear hK
            have HIV := Lib.hid hI
            clear hI
            rw [(HIV.out.2.2.2.2.2.2.2.2.2.2.2.2.2.1).out (after_on hL 17 rfl)]
            have c0 := C4.out u (HIV.out.2.2.2.2.2.2.2.2.2.2.2.2.2.2.2.2.2.2.2.2.1).out
            clear hL
            clear hk
            go_wp2
            exact HK0.out _ _ ⟨fun i => if i = 72 then .pointer (some ⟨w.heap.size, 4, none⟩) else if i = 73 then .slice (some ⟨bb, o, none⟩) b.hs.length c else x i, rfl, (HIV.out.1), (HIV.out.2.1), (HIV.out.2.2.1), (HIV.out.2.2.2.1), (HIV.out.2.2.2.2.1), (HIV.out.2.2.2.2.2.1), (HIV.out.2.2.2.2.2.2.1), (HIV.out.2.2.2.2.2.2.2.1), (HIV.out.2.2.2.2.2.2.2.2.1), (HIV.out.2.2.2.2.2.2.2.2.2.1), (HIV.out.2.2.2.2.2.2.2.2.2.2.1), (HIV.out.2.2.2.2.2.2.2.2.2.2.2.1), (HIV.out.2.2.2.2.2.2.2.2.2.2.2.2.1), Lib.hid (fun _ => rfl), Lib.hid (fun _ => rfl), (HIV.out.2.2.2.2.2.2.2.2.2.2.2.2.2.2.2.1), (HIV.out.2.2.2.2.2.2.2.2.2.2.2.2.2.2.2.2.1), (HIV.out.2.2.2.2.2.2.2.2.2.2.2.2.2.2.2.2.2.1), (HIV.out.2.2.2.2.2.2.2.2.2.2.2.2.2.2.2.2.2.2.1), (HIV.out.2.2.2.2.2.2.2.2.2.2.2.2.2.2.2.2.2.2.2.1), (HIV.out.2.2.2.2.2.2.2.2.2.2.2.2.2.2.2.2.2.2.2.2.1), (HIV.out.2.2.2.2.2.2.2.2.2.2.2.2.2.2.2.2.2.2.2.2.2.1), (HIV.out.2.2.2.2.2.2.2.2.2.2.2.2.2.2.2.2.2.2.2.2.2.2.1), (HIV.out.2.2.2.2.2.2.2.2.2.2.2.2.2.2.2.2.2.2.2.2.2.2.2.1), (HIV.out.2.2.2.2.2.2.2.2.2.2.2.2.2.2.2.2.2.2.2.2.2.2.2.2.1), (HIV.out.2.2.2.2.2.2.2.2.2.2.2.2.2.2.2.2.2.2.2.2.2.2.2.2.2.1), (HIV.out.2.2.2.2.2.2.2.2.2.2.2.2.2.2.2.2.2.2.2.2.2.2.2.2.2.2.1), Lib.hid ((HIV.out.2.2.2.2.2.2.2.2.2.2.2.2.2.2.2.2.2.2.2.2.2.2.2.2.2.2.2).out.upd 18 (by decide))⟩
          · rintro L a u hL hk ⟨x, rfl, hI⟩ K hK
            have HK0 := Lib.hid hK
            clear hK
            have HIV := Lib.hid hI
            clear hI
            clear hL
            clear hk
            go_wp2
            exact HK0.out _ _ ⟨fun i => if i = 74 then .int .i64 (k : Int) else x i, rfl, (HIV.out.1), (HIV.out.2.1), (HIV.out.2.2.1), (HIV.out.2.2.2.1), (HIV.out.2.2.2.2.1), (HIV.out.2.2.2.2.2.1), (HIV.out.2.2.2.2.2.2.1), (HIV.out.2.2.2.2.2.2.2.1), (HIV.out.2.2.2.2.2.2.2.2.1), (HIV.out.2.2.2.2.2.2.2.2.2.1), (HIV.out.2.2.2.2.2.2.2.2.2.2.1), (HIV.out.2.2.2.2.2.2.2.2.2.2.2.1), (HIV.out.2.2.2.2.2.2.2.2.2.2.2.2.1), (HIV.out.2.2.2.2.2.2.2.2.2.2.2.2.2.1), (HIV.out.2.2.2.2.2.2.2.2.2.2.2.2.2.2.1), Lib.hid (fun _ => rfl), (HIV.out.2.2.2.2.2.2.2.2.2.2.2.2.2.2.2.2.1), (HIV.out.2.2.2.2.2.2.2.2.2.2.2.2.2.2.2.2.2.1), (HIV.out.2.2.2.2.2.2.2.2.2.2.2.2.2.2.2.2.2.2.1), (HIV.out.2.2.2.2.2.2.2.2.2.2.2.2.2.2.2.2.2.2.2.1), (HIV.out.2.2.2.2.2.2.2.2.2.2.2.2.2.2.2.2.2.2.2.2.1), (HIV.out.2.2.2.2.2.2.2.2.2.2.2.2.2.2.2.2.2.2.2.2.2.1), (HIV.out.2.2.2.2.2.2.2.2.2.2.2.2.2.2.2.2.2.2.2.2.2.2.1), (HIV.out.2.2.2.2.2.2.2.2.2.2.2.2.2.2.2.2.2.2.2.2.2.2.2.1), (HIV.out.2.2.2.2.2.2.2.2.2.2.2.2.2.2.2.2.2.2.2.2.2.2.2.2.1), (HIV.out.2.2.2.2.2.2.2.2.2.2.2.2.2.2.2.2.2.2.2.2.2.2.2.2.2.1), (HIV.out.2.2.2.2.2.2.2.2.2.2.2.2.2.2.2.2.2.2.2.2.2.2.2.2.2.2.1), Lib.hid ((HIV.out.2.2.2.2.2.2.2.2.2.2.2.2.2.2.2.2.2.2.2.2.2.2.2.2.2.2.2).out.upd 19 (by decide))⟩
          · rintro L a u hL hk ⟨x, rfl, hI⟩ K hK
            have HK0 := Lib.hid hK
            clear hK
            have HIV := Lib.hid hI
            clear hI
            rw [(HIV.out.2.2.2.2.2.2.2.2.2.2.2.2.2.2.1).out (after_on hL 18 rfl)]
            rw [(HIV.out.2.2.2.2.2.2.2.2.2.2.2.2.2.2.2.1).out (after_on hL 19 rfl)]
            clear hL
            clear hk
            go_wp2
            exact HK0.out _ _ ⟨fun i => if i = 73 then .slice (some ⟨bb, o, none⟩) b.hs.length c else if i = 74 then .int .i64 (k : Int) else if i = 75 then .pointer (some ⟨bb, o + k * 2, none⟩) else x i, rfl, (HIV.out.1), (HIV.out.2.1), (HIV.out.2.2.1), (HIV.out.2.2.2.1), (HIV.out.2.2.2.2.1), (HIV.out.2.2.2.2.2.1), (HIV.out.2.2.2.2.2.2.1), (HIV.out.2.2.2.2.2.2.2.1), (HIV.out.2.2.2.2.2.2.2.2.1), (HIV.out.2.2.2.2.2.2.2.2.2.1), (HIV.out.2.2.2.2.2.2.2.2.2.2.1), (HIV.out.2.2.2.2.2.2.2.2.2.2.2.1), (HIV.out.2.2.2.2.2.2.2.2.2.2.2.2.1), (HIV.out.2.2.2.2.2.2.2.2.2.2.2.2.2.1), Lib.hid (fun _ => rfl), Lib.hid (fun _ => rfl), Lib.hid (fun _ => rfl), (HIV.out.2.2.2.2.2.2.2.2.2.2.2.2.2.2.2.2.2.1), (HIV.out.2.2.2.2.2.2.2.2.2.2.2.2.2.2.2.2.2.2.1), (HIV.out.2.2.2.2.2.2.2.2.2.2.2.2.2.2.2.2.2.2.2.1), (HIV.out.2.2.2.2.2.2.2.2.2.2.2.2.2.2.2.2.2.2.2.2.1), (HIV.out.2.2.2.2.2.2.2.2.2.2.2.2.2.2.2.2.2.2.2.2.2.1), (HIV.out.2.2.2.2.2.2.2.2.2.2.2.2.2.2.2.2.2.2.2.2.2.2.1), (HIV.out.2.2.2.2.2.2.2.2.2.2.2.2.2.2.2.2.2.2.2.2.2.2.2.1), (HIV.out.2.2.2.2.2.2.2.2.2.2.2.2.2.2.2.2.2.2.2.2.2.2.2.2.1), (HIV.out.2.2.2.2.2.2.2.2.2.2.2.2.2.2.2.2.2.2.2.2.2.2.2.2.2.1), (HIV.out.2.2.2.2.2.2.2.2.2.2.2.2.2.2.2.2.2.2.2.2.2.2.2.2.2.2.1), Lib.hid ((HIV.out.2.2.2.2.2.2.2.2.2.2.2.2.2.2.2.2.2.2.2.2.2.2.2.2.2.2.2).out.upd 20 (by decide))⟩
          · rintro L a u hL hk ⟨x, rfl, hI⟩ K hK
            have HK0 := Lib.hid hK
            clear hK
            have HIV := Lib.hid hI
            clear hI
            rw [(HIV.out.2.2.2.2.2.2.2.2.2.2.2.2.2.2.2.2.1).out (after_on hL 20 rfl)]
            clear hL
            clear hk
            go_wp2
            exact HK0.out _ _ ⟨fun i => if i = 75 then .pointer (some ⟨bb, o + k * 2, none⟩) else if i = 76 then .pointer (some ⟨bb, o + k * 2 + 1, none⟩) else x i, rfl, (HIV.out.1), (HIV.out.2.1), (HIV.out.2.2.1), (HIV.out.2.2.2.1), (HIV.out.2.2.2.2.1), (HIV.out.2.2.2.2.2.1), (HIV.out.2.2.2.2.2.2.1), (HIV.out.2.2.2.2.2.2.2.1), (HIV.out.2.2.2.2.2.2.2.2.1), (HIV.out.2.2.2.2.2.2.2.2.2.1), (HIV.out.2.2.2.2.2.2.2.2.2.2.1), (HIV.out.2.2.2.2.2.2.2.2.2.2.2.1), (HIV.out.2.2.2.2.2.2.2.2.2.2.2.2.1), (HIV.out.2.2.2.2.2.2.2.2.2.2.2.2.2.1), (HIV.out.2.2.2.2.2.2.2.2.2.2.2.2.2.2.1), (HIV.out.2.2.2.2.2.2.2.2.2.2.2.2.2.2.2.1), Lib.hid (fun _ => rfl), Lib.hid (fun _ => rfl), (HIV.out.2.2.2.2.2.2.2.2.2.2.2.2.2.2.2.2.2.2.1), (HIV.out.2.2.2.2.2.2.2.2.2.2.2.2.2.2.2.2.2.2.2.1), (HIV.out.2.2.2.2.2.2.2.2.2.2.2.2.2.2.2.2.2.2.2.2.1), (HIV.out.2.2.2.2.2.2.2.2.2.2.2.2.2.2.2.2.2.2.2.2.2.1), (HIV.out.2.2.2.2.2.2.2.2.2.2.2.2.2.2.2.2.2.2.2.2.2.2.1), (HIV.out.2.2.2.2.2.2.2.2.2.2.2.2.2.2.2.2.2.2.2.2.2.2.2.1), (HIV.out.2.2.2.2.2.2.2.2.2.2.2.2.2.2.2.2.2.2.2.2.2.2.2.2.1), (HIV.out.2.2.2.2.2.2.2.2.2.2.2.2.2.2.2.2.2.2.2.2.2.2.2.2.2.1), (HIV.out.2.2.2.2.2.2.2.2.2.2.2.2.2.2.2.2.2.2.2.2.2.2.2.2.2.2.1), Lib.hid ((HIV.out.2.2.2.2.2.2.2.2.2.2.2.2.2.2.2.2.2.2.2.2.2.2.2.2.2.2.2).out.upd 21 (by decide))⟩
          · rintro L a u hL hk ⟨x, rfl, hI⟩ K hK
            have HK0 := Lib.hid hK
            clear hK
            have HIV := Lib.hid hI
            clear hI
            rw [(HIV.out.2.2.2.2.2.2.2.2.2.2.2.2.2.2.2.2.2.1).out (after_on hL 21 rfl)]
            have c0 := CH.out u (HIV.out.2.2.2.2.2.2.2.2.2.2.2.2.2.2.2.2.2.2.2.2.1).out
            clear hL
            clear hk
            go_wp2
            exact HK0.out _ _ ⟨fun i => if i = 76 then .pointer (some ⟨bb, o + k * 2 + 1, none⟩) else if i = 77 then .int .i64 hi else x i, rfl, (HIV.out.1), (HIV.out.2.1), (HIV.out.2.2.1), (HIV.out.2.2.2.1), (HIV.out.2.2.2.2.1), (HIV.out.2.2.2.2.2.1), (HIV.out.2.2.2.2.2.2.1), (HIV.out.2.2.2.2.2.2.2.1), (HIV.out.2.2.2.2.2.2.2.2.1), (HIV.out.2.2.2.2.2.2.2.2.2.1), (HIV.out.2.2.2.2.2.2.2.2.2.2.1), (HIV.out.2.2.2.2.2.2.2.2.2.2.2.1), (HIV.out.2.2.2.2.2.2.2.2.2.2.2.2.1), (HIV.out.2.2.2.2.2.2.2.2.2.2.2.2.2.1), (HIV.out.2.2.2.2.2.2.2.2.2.2.2.2.2.2.1), (HIV.out.2.2.2.2.2.2.2.2.2.2.2.2.2.2.2.1), (HIV.out.2.2.2.2.2.2.2.2.2.2.2.2.2.2.2.2.1), Lib.hid (fun _ => rfl), Lib.hid (fun _ => rfl), (HIV.out.2.2.2.2.2.2.2.2.2.2.2.2.2.2.2.2.2.2.2.1), (HIV.out.2.2.2.2.2.2.2.2.2.2.2.2.2.2.2.2.2.2.2.2.1), (HIV.out.2.2.2.2.2.2.2.2.2.2.2.2.2.2.2.2.2.2.2.2.2.1), (HIV.out.2.2.2.2.2.2.2.2.2.2.2.2.2.2.2.2.2.2.2.2.2.2.1), (HIV.out.2.2.2.2.2.2.2.2.2.2.2.2.2.2.2.2.2.2.2.2.2.2.2.1), (HIV.out.2.2.2.2.2.2.2.2.2.2.2.2.2.2.2.2.2.2.2.2.2.2.2.2.1), (HIV.out.2.2.2.2.2.2.2.2.2.2.2.2.2.2.2.2.2.2.2.2.2.2.2.2.2.1), (HIV.out.2.2.2.2.2.2.2.2.2.2.2.2.2.2.2.2.2.2.2.2.2.2.2.2.2.2.1), Lib.hid ((HIV.out.2.2.2.2.2.2.2.2.2.2.2.2.2.2.2.2.2.2.2.2.2.2.2.2.2.2.2).out.upd 22 (by decide))⟩
          · rintro L a u hL hk ⟨x, rfl, hI⟩ K hK
            have HK0 := Lib.hid hK
            clear hK
            have HIV := Lib.hid hI
            clear hI
            rw [(HIV.out.2.2.2.2.2.2.2.2.2.2.2.2.2.2.2.2.2.2.1).out (after_on hL 22 rfl)]
            have HFM := Lib.hid ((HIV.out.2.2.2.2.2.2.2.2.2.2.2.2.2.2.2.2.2.2.2.1).out)
            rw [hk] at HFM
            clear hk
            clear hL
            go_wp2
            exact HK0.out _ _ ⟨fun i => if i = 77 then .int .i64 hi else if i = 78 then .slice (some ⟨u.heap.size, 0, none⟩) 1 1 else x i, rfl, (HIV.out.1), (HIV.out.2.1), (HIV.out.2.2.1), (HIV.out.2.2.2.1), (HIV.out.2.2.2.2.1), (HIV.out.2.2.2.2.2.1), (HIV.out.2.2.2.2.2.2.1), (HIV.out.2.2.2.2.2.2.2.1), (HIV.out.2.2.2.2.2.2.2.2.1), (HIV.out.2.2.2.2.2.2.2.2.2.1), (HIV.out.2.2.2.2.2.2.2.2.2.2.1), (HIV.out.2.2.2.2.2.2.2.2.2.2.2.1), (HIV.out.2.2.2.2.2.2.2.2.2.2.2.2.1), (HIV.out.2.2.2.2.2.2.2.2.2.2.2.2.2.1), (HIV.out.2.2.2.2.2.2.2.2.2.2.2.2.2.2.1), (HIV.out.2.2.2.2.2.2.2.2.2.2.2.2.2.2.2.1), (HIV.out.2.2.2.2.2.2.2.2.2.2.2.2.2.2.2.2.1), (HIV.out.2.2.2.2.2.2.2.2.2.2.2.2.2.2.2.2.2.1), Lib.hid (fun _ => rfl), Lib.hid (fam_lit2 HFM.out (HIV.out.2.2.2.2.2.2.2.2.2.2.2.2.2.2.2.2.2.2.2.2.1).out.size), Lib.hid ((HIV.out.2.2.2.2.2.2.2.2.2.2.2.2.2.2.2.2.2.2.2.2.1).out.trans ((below_alloc u _).mono (HIV.out.2.2.2.2.2.2.2.2.2.2.2.2.2.2.2.2.2.2.2.2.1).out.size)), (HIV.out.2.2.2.2.2.2.2.2.2.2.2.2.2.2.2.2.2.2.2.2.2.1), (HIV.out.2.2.2.2.2.2.2.2.2.2.2.2.2.2.2.2.2.2.2.2.2.2.1), (HIV.out.2.2.2.2.2.2.2.2.2.2.2.2.2.2.2.2.2.2.2.2.2.2.2.1), (HIV.out.2.2.2.2.2.2.2.2.2.2.2.2.2.2.2.2.2.2.2.2.2.2.2.2.1), (HIV.out.2.2.2.2.2.2.2.2.2.2.2.2.2.2.2.2.2.2.2.2.2.2.2.2.2.1), (HIV.out.2.2.2.2.2.2.2.2.2.2.2.2.2.2.2.2.2.2.2.2.2.2.2.2.2.2.1), Lib.hid ((HIV.out.2.2.2.2.2.2.2.2.2.2.2.2.2.2.2.2.2.2.2.2.2.2.2.2.2.2.2).out.upd 23 (by decide))⟩
          · rintro L a u hL hk ⟨x, rfl, hI⟩ K hK
            have HK0 := Lib.hid hK
            clear hK
            have HIV := Lib.hid hI
            clear hI
            rw [(HIV.out.2.2.2.2.2.2.2.2.2.2.2.2.1).out (after_on hL 16 rfl)]
            have hc := after_on hL 23 rfl
            have HFM := Lib.hid ((HIV.out.2.2.2.2.2.2.2.2.2.2.2.2.2.2.2.2.2.2.2.1).out)
            rw [hk, hc] at HFM
            have HK6 := Lib.hid hk
            have HC5 := Lib.hid hc
            clear hL hk hc
            refine wp_append_fam (i := 2) (j := 5) _ _ rfl HFM.out (HIV.out.2.2.2.2.2.2.2.2.2.2.2.2.2.2.2.2.2.2.2.2.1).out.size rfl rfl (by decide) rfl (by have := HXL.out; simp only [famX, cond_false]; omega) ?_
            intro v' u' hF2 hB2
            exact HK0.out _ _ ⟨fun i => if i = 71 then v 2 else if i = 79 then v' else x i, rfl, (HIV.out.1), (HIV.out.2.1), (HIV.out.2.2.1), (HIV.out.2.2.2.1), (HIV.out.2.2.2.2.1), (HIV.out.2.2.2.2.2.1), (HIV.out.2.2.2.2.2.2.1), (HIV.out.2.2.2.2.2.2.2.1), (HIV.out.2.2.2.2.2.2.2.2.1), (HIV.out.2.2.2.2.2.2.2.2.2.1), (HIV.out.2.2.2.2.2.2.2.2.2.2.1), (HIV.out.2.2.2.2.2.2.2.2.2.2.2.1), Lib.hid (fun _ => rfl), (HIV.out.2.2.2.2.2.2.2.2.2.2.2.2.2.1), (HIV.out.2.2.2.2.2.2.2.2.2.2.2.2.2.2.1), (HIV.out.2.2.2.2.2.2.2.2.2.2.2.2.2.2.2.1), (HIV.out.2.2.2.2.2.2.2.2.2.2.2.2.2.2.2.2.1), (HIV.out.2.2.2.2.2.2.2.2.2.2.2.2.2.2.2.2.2.1), (HIV.out.2.2.2.2.2.2.2.2.2.2.2.2.2.2.2.2.2.2.1), Lib.hid (fam_app2 hF2 HC5.out), Lib.hid ((HIV.out.2.2.2.2.2.2.2.2.2.2.2.2.2.2.2.2.2.2.2.2.1).out.trans hB2), (HIV.out.2.2.2.2.2.2.2.2.2.2.2.2.2.2.2.2.2.2.2.2.2.1), (HIV.out.2.2.2.2.2.2.2.2.2.2.2.2.2.2.2.2.2.2.2.2.2.2.1), (HIV.out.2.2.2.2.2.2.2.2.2.2.2.2.2.2.2.2.2.2.2.2.2.2.2.1), (HIV.out.2.2.2.2.2.2.2.2.2.2.2.2.2.2.2.2.2.2.2.2.2.2.2.2.1), (HIV.out.2.2.2.2.2.2.2.2.2.2.2.2.2.2.2.2.2.2.2.2.2.2.2.2.2.1), Lib.hid (fun h => absurd (((HIV.out.2.2.2.2.2.2.2.2.2.2.2.2.2.2.2.2.2.2.2.2.2.2.2.2.2.2.2).out.2.2 h).2) (by rw [HK6.out]; decide)), Lib.hid ((HIV.out.2.2.2.2.2.2.2.2.2.2.2.2.2.2.2.2.2.2.2.2.2.2.2.2.2.2.2).out.upd 24 (by decide))⟩
          · rintro L a u hL hk ⟨x, rfl, hI⟩ K hK
            have HK0 := Lib.hid hK
            clear hK
            have HIV := Lib.hid hI
            clear hI
            have hq1 := after_on hL 6 rfl
            have hq2 := after_on hL 0 rfl
            clear hk
            go_wp2
            exact HK0.out _ _ ⟨fun i => if i = 13 then x 61 else x i, rfl, (HIV.out.1), (HIV.out.2.1), (HIV.out.2.2.1), (HIV.out.2.2.2.1), (HIV.out.2.2.2.2.1), (HIV.out.2.2.2.2.2.1), (HIV.out.2.2.2.2.2.2.1), (HIV.out.2.2.2.2.2.2.2.1), (HIV.out.2.2.2.2.2.2.2.2.1), (HIV.out.2.2.2.2.2.2.2.2.2.1), (HIV.out.2.2.2.2.2.2.2.2.2.2.1), (HIV.out.2.2.2.2.2.2.2.2.2.2.2.1), (HIV.out.2.2.2.2.2.2.2.2.2.2.2.2.1), (HIV.out.2.2.2.2.2.2.2.2.2.2.2.2.2.1), (HIV.out.2.2.2.2.2.2.2.2.2.2.2.2.2.2.1), (HIV.out.2.2.2.2.2.2.2.2.2.2.2.2.2.2.2.1), (HIV.out.2.2.2.2.2.2.2.2.2.2.2.2.2.2.2.2.1), (HIV.out.2.2.2.2.2.2.2.2.2.2.2.2.2.2.2.2.2.1), (HIV.out.2.2.2.2.2.2.2.2.2.2.2.2.2.2.2.2.2.2.1), (HIV.out.2.2.2.2.2.2.2.2.2.2.2.2.2.2.2.2.2.2.2.1), (HIV.out.2.2.2.2.2.2.2.2.2.2.2.2.2.2.2.2.2.2.2.2.1), Lib.hid (fun h => by simp [upd] at h), (HIV.out.2.2.2.2.2.2.2.2.2.2.2.2.2.2.2.2.2.2.2.2.2.2.1), (HIV.out.2.2.2.2.2.2.2.2.2.2.2.2.2.2.2.2.2.2.2.2.2.2.2.1), Lib.hid (fun _ => rfl), (HIV.out.2.2.2.2.2.2.2.2.2.2.2.2.2.2.2.2.2.2.2.2.2.2.2.2.2.1), (HIV.out.2.2.2.2.2.2.2.2.2.2.2.2.2.2.2.2.2.2.2.2.2.2.2.2.2.2.1), Lib.hid ((HIV.out.2.2.2.2.2.2.2.2.2.2.2.2.2.2.2.2.2.2.2.2.2.2.2.2.2.2.2).out.put0 hq2 hq1)⟩
          · rintro L a u hL hk ⟨x, rfl, hI⟩ K hK
            have HK0 := Lib.hid hK
            clear hK
            have HIV := Lib.hid hI
            clear hI
            have hq1 := after_on hL 15 rfl
            have hq2 := after_on hL 7 rfl
            clear hk
            go_wp2
            exact HK0.out _ _ ⟨fun i => if i = 14 then x 70 else x i, rfl, (HIV.out.1), (HIV.out.2.1), (HIV.out.2.2.1), (HIV.out.2.2.2.1), (HIV.out.2.2.2.2.1), (HIV.out.2.2.2.2.2.1), (HIV.out.2.2.2.2.2.2.1), (HIV.out.2.2.2.2.2.2.2.1), (HIV.out.2.2.2.2.2.2.2.2.1), (HIV.out.2.2.2.2.2.2.2.2.2.1), (HIV.out.2.2.2.2.2.2.2.2.2.2.1), (HIV.out.2.2.2.2.2.2.2.2.2.2.2.1), (HIV.out.2.2.2.2.2.2.2.2.2.2.2.2.1), (HIV.out.2.2.2.2.2.2.2.2.2.2.2.2.2.1), (HIV.out.2.2.2.2.2.2.2.2.2.2.2.2.2.2.1), (HIV.out.2.2.2.2.2.2.2.2.2.2.2.2.2.2.2.1), (HIV.out.2.2.2.2.2.2.2.2.2.2.2.2.2.2.2.2.1), (HIV.out.2.2.2.2.2.2.2.2.2.2.2.2.2.2.2.2.2.1), (HIV.out.2.2.2.2.2.2.2.2.2.2.2.2.2.2.2.2.2.2.1), (HIV.out.2.2.2.2.2.2.2.2.2.2.2.2.2.2.2.2.2.2.2.1), (HIV.out.2.2.2.2.2.2.2.2.2.2.2.2.2.2.2.2.2.2.2.2.1), (HIV.out.2.2.2.2.2.2.2.2.2.2.2.2.2.2.2.2.2.2.2.2.2.1), Lib.hid (fun h => by simp [upd] at h), (HIV.out.2.2.2.2.2.2.2.2.2.2.2.2.2.2.2.2.2.2.2.2.2.2.2.1), (HIV.out.2.2.2.2.2.2.2.2.2.2.2.2.2.2.2.2.2.2.2.2.2.2.2.2.1), Lib.hid (fun _ => rfl), (HIV.out.2.2.2.2.2.2.2.2.2.2.2.2.2.2.2.2.2.2.2.2.2.2.2.2.2.2.1), Lib.hid ((HIV.out.2.2.2.2.2.2.2.2.2.2.2.2.2.2.2.2.2.2.2.2.2.2.2.2.2.2.2).out.put1 hq2 hq1)⟩
          · rintro L a u hL hk ⟨x, rfl, hI⟩ K hK
            have HK0 := Lib.hid hK
            clear hK
            have HIV := Lib.hid hI
            clear hI
            have hq1 := after_on hL 24 rfl
            have hq2 := after_on hL 16 rfl
            clear hk
            go_wp2
            exact HK0.out _ _ ⟨fun i => if i = 15 then x 79 else x i, rfl, (HIV.out.1), (HIV.out.2.1), (HIV.out.2.2.1), (HIV.out.2.2.2.1), (HIV.out.2.2.2.2.1), (HIV.out.2.2.2.2.2.1), (HIV.out.2.2.2.2.2.2.1), (HIV.out.2.2.2.2.2.2.2.1), (HIV.out.2.2.2.2.2.2.2.2.1), (HIV.out.2.2.2.2.2.2.2.2.2.1), (HIV.out.2.2.2.2.2.2.2.2.2.2.1), (HIV.out.2.2.2.2.2.2.2.2.2.2.2.1), (HIV.out.2.2.2.2.2.2.2.2.2.2.2.2.1), (HIV.out.2.2.2.2.2.2.2.2.2.2.2.2.2.1), (HIV.out.2.2.2.2.2.2.2.2.2.2.2.2.2.2.1), (HIV.out.2.2.2.2.2.2.2.2.2.2.2.2.2.2.2.1), (HIV.out.2.2.2.2.2.2.2.2.2.2.2.2.2.2.2.2.1), (HIV.out.2.2.2.2.2.2.2.2.2.2.2.2.2.2.2.2.2.1), (HIV.out.2.2.2.2.2.2.2.2.2.2.2.2.2.2.2.2.2.2.1), (HIV.out.2.2.2.2.2.2.2.2.2.2.2.2.2.2.2.2.2.2.2.1), (HIV.out.2.2.2.2.2.2.2.2.2.2.2.2.2.2.2.2.2.2.2.2.1), (HIV.out.2.2.2.2.2.2.2.2.2.2.2.2.2.2.2.2.2.2.2.2.2.1), (HIV.out.2.2.2.2.2.2.2.2.2.2.2.2.2.2.2.2.2.2.2.2.2.2.1), Lib.hid (fun h => by simp [upd] at h), (HIV.out.2.2.2.2.2.2.2.2.2.2.2.2.2.2.2.2.2.2.2.2.2.2.2.2.1), (HIV.out.2.2.2.2.2.2.2.2.2.2.2.2.2.2.2.2.2.2.2.2.2.2.2.2.2.1), Lib.hid (fun _ => rfl), Lib.hid ((HIV.out.2.2.2.2.2.2.2.2.2.2.2.2.2.2.2.2.2.2.2.2.2.2.2.2.2.2.2).out.put2 hq2 hq1)⟩
      · obtain rfl : k = b.hs.length := by omega
        have hx0 := HX.out.1
        have hx1 := HX.out.2.1
        have hx2 := HX.out.2.2
        rw [List.take_length] at hx1 hx2
        obtain ⟨p0, c0, v0, hi0, hc0, _⟩ := ints_of_owns2 (HF.out.own 0)
        obtain ⟨p1, c1, v1, hi1, _⟩ := ints_of_owns2 (HF.out.own 1)
        obtain ⟨p2, c2, v2, hi2, _⟩ := ints_of_owns2 (HF.out.own 2)
        rw [hx0] at v0 hi0 hc0
        rw [hx1] at v1 hi1
        rw [hx2] at v2 hi2
        rw [trulyL_length] at v0 hc0
        rw [endL_length] at v1 v2
        rw [v0, v1, v2]
        obtain ⟨z4, hz⟩ := z3.on HBW.out
        subst hz
        clear v0 v1 v2 hx0 hx1 hx2 HX HF HBW
        obtain ⟨tv, htv⟩ : ∃ tv : Nat → Int, (fun i => drawn (handAt b i).lo (handAt b i).hi (item bits i)) = tv := ⟨_, rfl⟩
        have HI0 := Lib.hid (show IntsAt z4.w p0 ((List.range b.hs.length).map tv) by rw [← htv]; exact hi0)
        have HTV := Lib.hid htv
        have HTB := Lib.hid (fun (T R : List Nat) (h : (T ++ R).Perm (List.range b.hs.length)) => by have h2 := taken_between HOK.out bits h; rw [htv] at h2; exact h2)
        have HTR := Lib.hid (show ∀ i, i < b.hs.length → 0 ≤ tv i ∧ tv i ≤ 200 by
          intro i hi
          have h1 := tv_range HOK.out bits hi
          rw [← htv]
          exact h1)
        have HLO := Lib.hid hi1
        have HHI := Lib.hid hi2
        clear hi0 hi1 hi2 htv
        go_wp2_with fail
        go_loopw [13, 17, 18] (fun la sa i wr => ∃ (T R : List Nat) (q : Option Addr) (cq : Nat) (xx : Later z4.w), wr = xx.w ∧ T.length ≤ m ∧ i = .int .i64 (T.length : Int) ∧ sa = .int .i64 (T.map tv).sum ∧ la = .slice q R.length cq ∧ Hid (R.length ≤ cq) ∧ Hid ((T ++ R).Perm (List.range b.hs.length)) ∧ Hid (IntsAt xx.w q (R.map tv))) (fun _ _ i _ => m - (intOf i).toNat)
        case atStart => exact ⟨[], List.range b.hs.length, p0, c0, ⟨z4.w, Below.refl _ _⟩, rfl, by simp, rfl, rfl, by rw [List.length_range], Lib.hid (by rw [List.length_range]; exact hc0), Lib.hid (by rw [List.nil_append]), HI0⟩
        case round =>
          obtain ⟨T, R, q, cq, xx, rfl, hTm, rfl, rfl, rfl, HRC, HP, HIR⟩ := hrel
          have hlen := HP.out.length_eq
          rw [List.length_append, List.length_range] at hlen
          obtain ⟨i, hTi⟩ : ∃ i, T.length = i := ⟨_, rfl⟩
          obtain ⟨r, hRr⟩ : ∃ r, R.length = r := ⟨_, rfl⟩
          obtain ⟨sa, hTa⟩ : ∃ a, (T.map tv).sum = a := ⟨_, rfl⟩
          have HRC := Lib.hid (show r ≤ cq by have h := HRC.out; rw [hRr] at h; exact h)
          have HTI := Lib.hid hTi
          have HRR := Lib.hid hRr
          have HTA := Lib.hid hTa
          rw [hTi, hRr] at hlen
          rw [hTi] at hTm ⊢
          rw [hRr, hTa]
          clear hTi hRr hTa
          by_cases hlt : i < m
          · have hsp := spin_range (item ss (i : Int)) (r : Int) (by omega)
            obtain ⟨j, hj⟩ : ∃ j : Nat, spin (item ss (i : Int)) (r : Int) = j := ⟨(spin (item ss (i : Int)) (r : Int)).toNat, by omega⟩
            have HSP := Lib.hid (fun w' => by have h := Spin_any (item ss (i : Int)) (r : Int) w' ⟨by omega, by omega⟩; rw [hj] at h; exact h)
            have hjr : j < r := by omega
            clear hsp hj
            go_wp2_with fail
            refine (Item_any ps cs ss _ _ HN.out (HS.out.below (z4.fr.trans xx.fr).b)).mono ?_
            rintro e u ⟨rfl, hu⟩
            subst hu
            go_wp2_with fail
            refine (HSP.out _).mono ?_
            rintro e u ⟨rfl, hu⟩
            subst hu
            obtain ⟨XS, hXS⟩ : ∃ X, R.map tv = X := ⟨_, rfl⟩
            have HXE := Lib.hid hXS
            have HXS := Lib.hid (show XS.length = r by rw [← hXS, List.length_map, HRR.out])
            have hir := HIR.out
            have hat : at0 XS j = tv (R[j]'(by rw [HRR.out]; exact hjr)) := by rw [← hXS, at0_lt (by rw [List.length_map, HRR.out]; exact hjr), List.getElem_map]
            rw [hXS] at hir
            obtain ⟨g, og, rfl, hcl⟩ := hir j (by rw [HXS.out]; exact hjr)
            have HIR := Lib.hid hir
            have hmemj : R[j]'(by rw [HRR.out]; exact hjr) < b.hs.length := List.mem_range.1 (HP.out.mem_iff.1 (List.mem_append_right _ (List.getElem_mem _)))
            have htr := HTR.out _ hmemj
            have hsr2 := sum_in tv T (fun i hi => HTR.out i (List.mem_range.1 (HP.out.mem_iff.1 (List.mem_append_left _ hi))))
            rw [HTA.out, HTI.out] at hsr2
            have HPT := Lib.hid (take_out HP.out (by rw [HRR.out]; exact hjr))
            obtain ⟨t, ht⟩ : ∃ t, tv (R[j]'(by rw [HRR.out]; exact hjr)) = t := ⟨_, rfl⟩
            have HTT := Lib.hid ht
            obtain ⟨rj, hrj⟩ : ∃ e, R[j]'(by rw [HRR.out]; exact hjr) = e := ⟨_, rfl⟩
            rw [hrj] at HPT HTT
            rw [hrj] at hat hmemj htr
            rw [hrj] at ht
            clear hrj
            rw [hat, ht] at hcl
            rw [ht] at htr
            have e1 : IntKind.i64.wrap (sa + t) = sa + t := IntWalk.i64_in _ (by omega)
            have ej : IntKind.i64.wrap ((j : Int) + 1) = (j : Int) + 1 := IntWalk.i64_in _ (by omega)
            have i1 : (0 : Int) ≤ (j : Int) := by omega
            have i2 : (j : Int) < (r : Int) := by omega
            clear hXS hir hat hmemj ht hsr2 htr
            go_upto_region 19 with (fail)
            clear hcl
            refine region_inv rfl (by kernel_rfl) (fun L a u => ∃ x : Nat → Value, a = { tmps := #[.agg (bfA b p c), .int .i64 n, .slice ps ss.length cs, .slice pt bits.length ct, .pointer (some ⟨w.heap.size, 0, none⟩), undef, undef, undef, .bool false, .int .i64 (m : Int), .bool is, .int .i64 0, .slice qt b.hs.length cht, x 13, .slice p1 b.hs.length c1, .slice p2 b.hs.length c2, .int .i64 (b.hs.length : Int), .int .i64 (sa + t), .int .i64 (i : Int), .int .i64 (j : Int), undef, undef, .agg #[.int .i64 b.pr, .int .i64 b.le, .int .i64 b.mo, .int .i64 b.gr, .slice p b.hs.length c], .bool true, .bool false, .bool false, .pointer (some ⟨w.heap.size, 4, none⟩), .slice p b.hs.length c, .int .i64 (b.hs.length : Int), .bool false, .bool false, undef, .int .i64 n, .pointer (some ⟨w.heap.size, 4, none⟩), .slice p b.hs.length c, .int .i64 (b.hs.length : Int), .int .i64 s, .int .i64 (m : Int), .tuple #[.bool is, .int .i64 0], .agg #[.int .i64 b.pr, .int .i64 b.le, .int .i64 b.mo, .int .i64 b.gr, .slice p b.hs.length c], .int .i64 (m : Int), .tuple #[.bool is, .int .i64 0], .bool is, .int .i64 0, .int .i64 0, .bool false, .agg #[.int .i64 b.pr, .int .i64 b.le, .int .i64 b.mo, .int .i64 b.gr, .slice p b.hs.length c], .slice pt bits.length ct, .slice qt b.hs.length cht, .int .i64 (b.hs.length : Int), .slice qt b.hs.length cht, .int .i64 (b.hs.length : Int), .bool false, u53, u54, u55, u56, u57, u58, u59, u60, u61, u62, u63, u64, u65, u66, u67, u68, u69, u70, u71, u72, u73, u74, u75, u76, u77, u78, u79, .int .i64 (i : Int), .int .i64 (m : Int), .bool true, u83, u84, .slice ps ss.length cs, .int .i64 (i : Int), .int .i64 (item ss (i : Int)), .slice (some ⟨g, og, none⟩) r cq, .int .i64 (r : Int), .int .i64 (j : Int), .int .i64 sa, .slice (some ⟨g, og, none⟩) r cq, .int .i64 (j : Int), .pointer (some ⟨g, og + j, none⟩), .int .i64 t, .int .i64 (sa + t), x 97, x 98, x 99, x 100, x 101, x 102, x 103, x 104, x 105, x 106, undef, undef, undef, undef, undef, undef, undef, undef, undef, undef, undef, undef, undef, undef, undef, undef, undef, undef, undef, undef, undef, undef, undef, undef, undef, undef, undef, undef], defers := [] } ∧ Hid (L 1 = true → x 98 = .slice (some ⟨g, og, none⟩) r cq) ∧ Hid (L 2 = true → x 99 = .int .i64 (j : Int)) ∧ Hid (L 3 = true → x 100 = .slice (some ⟨g, og, none⟩) j cq) ∧ Hid (L 5 = true → x 102 = .slice (some ⟨g, og, none⟩) r cq) ∧ Hid (L 6 = true → x 103 = .int .i64 (j : Int)) ∧ Hid (L 7 = true → x 104 = .int .i64 ((j : Int) + 1)) ∧ Hid (Below xx.w.heap.size xx.w u) ∧ Hid (L 10 = false → (x 13) = .slice (some ⟨g, og, none⟩) r cq) ∧ Hid (L 10 = true → (x 13) = (x 106)) ∧ Hid (Ord1 L) ∧ Hid (L 0 = true → L 4 = false → u.ownsRow xx.w.heap.size 3 1 (x 97) 0 (([]).map (Value.int .i64))) ∧ Hid (L 4 = true → L 9 = false → u.ownsRow xx.w.heap.size 3 1 (x 101) j ((XS.take j).map (Value.int .i64))) ∧ Hid (L 9 = true → u.ownsRow xx.w.heap.size 3 1 (x 106) (j + (r - (j + 1))) ((XS.take j ++ XS.drop (j + 1)).map (Value.int .i64))) ∧ Hid (L 8 = true → ∃ o' c', (x 105) = .slice (some ⟨g, o', none⟩) (r - (j + 1) : Nat) c' ∧ (o' = og + (j + 1) ∨ r = j + 1))) ?h0 ?steps ?hd
            case h0 => exact ⟨fun i => if i = 13 then .slice (some ⟨g, og, none⟩) r cq else if i = 97 then u97 else if i = 98 then u98 else if i = 99 then u99 else if i = 100 then u100 else if i = 101 then u101 else if i = 102 then u102 else if i = 103 then u103 else if i = 104 then u104 else if i = 105 then u105 else if i = 106 then u106 else undef, rfl, Lib.hid nofun, Lib.hid nofun, Lib.hid nofun, Lib.hid nofun, Lib.hid nofun, Lib.hid nofun, Lib.hid ((Below.refl _ _).drew), Lib.hid (fun _ => rfl), Lib.hid (nofun), Lib.hid (⟨nofun, nofun⟩), Lib.hid (nofun), Lib.hid (nofun), Lib.hid (nofun), Lib.hid (nofun)⟩
            case hd =>
              rintro L a u hL ⟨x, rfl, hI⟩
              have HIV := Lib.hid hI
              clear hI
              have HO3 := Lib.hid ((HIV.out.2.2.2.2.2.2.2.2.2.2.2.2.1).out (hL 9 (by decide)))
              have HBE := Lib.hid ((HIV.out.2.2.2.2.2.2.1).out)
              rw [(HIV.out.2.2.2.2.2.2.2.2.1).out (hL 10 (by decide))]
              clear hL HIV
              have HMP := Lib.hid (show (R.take j ++ R.drop (j + 1)).map tv = XS.take j ++ XS.drop (j + 1) by rw [← HXE.out, List.map_append, List.map_take, List.map_drop])
              have hl2 : (R.take j ++ R.drop (j + 1)).length = j + (r - (j + 1)) := by rw [List.length_append, List.length_take, List.length_drop, HRR.out]; omega
              have hl3 : (XS.take j ++ XS.drop (j + 1)).length = j + (r - (j + 1)) := by rw [← HMP.out, List.length_map, hl2]
              obtain ⟨q', c', hv, hi, hc, _⟩ := ints_of_owns2 (xs := XS.take j ++ XS.drop (j + 1)) (by rw [hl3]; exact HO3.out)
              rw [hl3, ← hl2] at hv hc
              rw [← HMP.out] at hi
              have HV := Lib.hid hv
              have HIN := Lib.hid hi
              have HCN := Lib.hid hc
              obtain ⟨xn, hxn⟩ := xx.on HBE.out
              subst hxn
              clear hv hi hc hl2 hl3 HO3
              go_wp2_with fail
              go_roundw
              case rel => exact ⟨T ++ [rj], R.take j ++ R.drop (j + 1), q', c', xn, rfl, by rw [List.length_append, HTI.out, List.length_singleton]; omega, by rw [List.length_append, HTI.out, List.length_singleton]; go_num, by rw [List.map_append, List.sum_append, HTA.out, List.map_singleton, HTT.out, List.sum_singleton], HV.out, HCN, HPT, HIN⟩
              case measure => simp [intOf]; omega
            case steps =>
              refine ⟨?_, ?_, ?_, ?_, ?_, ?_, ?_, ?_, ?_, ?_, ?_, trivial⟩
              · rintro L a u hL hk ⟨x, rfl, hI⟩ K hK
                have HK0 := Lib.hid hK
                clear hK
                have HIV := Lib.hid hI
                clear hI
                clear hL
                clear hk
                go_wp2
                exact HK0.out _ _ ⟨fun i => if i = 97 then .slice (some ⟨u.heap.size, 0, none⟩) 0 0 else x i, rfl, (HIV.out.1), (HIV.out.2.1), (HIV.out.2.2.1), (HIV.out.2.2.2.1), (HIV.out.2.2.2.2.1), (HIV.out.2.2.2.2.2.1), Lib.hid ((HIV.out.2.2.2.2.2.2.1).out.trans ((below_alloc u _).mono (HIV.out.2.2.2.2.2.2.1).out.size)), (HIV.out.2.2.2.2.2.2.2.1), (HIV.out.2.2.2.2.2.2.2.2.1), Lib.hid ((HIV.out.2.2.2.2.2.2.2.2.2.1).out.upd 0 (by decide)), Lib.hid (fun _ _ => ⟨rfl, .inr ⟨u.heap.size, 0, #[], rfl, (HIV.out.2.2.2.2.2.2.1).out.size, heap_alloc_new u _, Nat.le_refl _, by unfold maxLen; omega, rfl, rfl⟩⟩), Lib.hid (fun h h2 => owns_below ((HIV.out.2.2.2.2.2.2.2.2.2.2.2.1).out h h2) (below_alloc u _)), Lib.hid (fun h => owns_below ((HIV.out.2.2.2.2.2.2.2.2.2.2.2.2.1).out h) (below_alloc u _)), (HIV.out.2.2.2.2.2.2.2.2.2.2.2.2.2)⟩
              · rintro L a u hL hk ⟨x, rfl, hI⟩ K hK
                have HK0 := Lib.hid hK
                clear hK
                have HIV := Lib.hid hI
                clear hI
                have h10 : L 10 = false := by cases h7 : L 10; rfl; exact absurd ((HIV.out.2.2.2.2.2.2.2.2.2.1).out.1 h7).1 (by simp [hk])
                have e13 := (HIV.out.2.2.2.2.2.2.2.1).out h10
                rw [e13]
                clear hk
                clear hL
                go_wp2
                exact HK0.out _ _ ⟨fun i => if i = 98 then .slice (some ⟨g, og, none⟩) r cq else if i = 13 then .slice (some ⟨g, og, none⟩) r cq else x i, rfl, Lib.hid (fun _ => rfl), (HIV.out.2.1), (HIV.out.2.2.1), (HIV.out.2.2.2.1), (HIV.out.2.2.2.2.1), (HIV.out.2.2.2.2.2.1), (HIV.out.2.2.2.2.2.2.1), Lib.hid (fun _ => rfl), Lib.hid (fun h => absurd (h10.symm.trans h) (by decide)), Lib.hid ((HIV.out.2.2.2.2.2.2.2.2.2.1).out.upd 1 (by decide)), (HIV.out.2.2.2.2.2.2.2.2.2.2.1), (HIV.out.2.2.2.2.2.2.2.2.2.2.2.1), (HIV.out.2.2.2.2.2.2.2.2.2.2.2.2.1), (HIV.out.2.2.2.2.2.2.2.2.2.2.2.2.2)⟩
              · rintro L a u hL hk ⟨x, rfl, hI⟩ K hK
                have HK0 := Lib.hid hK
                clear hK
                have HIV := Lib.hid hI
                clear hI
                clear hL
                clear hk
                go_wp2
                exact HK0.out _ _ ⟨fun i => if i = 99 then .int .i64 (j : Int) else x i, rfl, (HIV.out.1), Lib.hid (fun _ => rfl), (HIV.out.2.2.1), (HIV.out.2.2.2.1), (HIV.out.2.2.2.2.1), (HIV.out.2.2.2.2.2.1), (HIV.out.2.2.2.2.2.2.1), (HIV.out.2.2.2.2.2.2.2.1), (HIV.out.2.2.2.2.2.2.2.2.1), Lib.hid ((HIV.out.2.2.2.2.2.2.2.2.2.1).out.upd 2 (by decide)), (HIV.out.2.2.2.2.2.2.2.2.2.2.1), (HIV.out.2.2.2.2.2.2.2.2.2.2.2.1), (HIV.out.2.2.2.2.2.2.2.2.2.2.2.2.1), (HIV.out.2.2.2.2.2.2.2.2.2.2.2.2.2)⟩
              · rintro L a u hL hk ⟨x, rfl, hI⟩ K hK
                have HK0 := Lib.hid hK
                clear hK
                have HIV := Lib.hid hI
                clear hI
                rw [(HIV.out.1).out (after_on hL 1 rfl)]
                rw [(HIV.out.2.1).out (after_on hL 2 rfl)]
                clear hL
                clear hk
                refine wp_slice_run rfl (cut_front g og r cq j (by omega) HRC.out _) ?_
                exact HK0.out _ _ ⟨fun i => if i = 98 then .slice (some ⟨g, og, none⟩) r cq else if i = 99 then .int .i64 (j : Int) else if i = 100 then .slice (some ⟨g, og, none⟩) j cq else x i, rfl, Lib.hid (fun _ => rfl), Lib.hid (fun _ => rfl), Lib.hid (fun _ => rfl), (HIV.out.2.2.2.1), (HIV.out.2.2.2.2.1), (HIV.out.2.2.2.2.2.1), (HIV.out.2.2.2.2.2.2.1), (HIV.out.2.2.2.2.2.2.2.1), (HIV.out.2.2.2.2.2.2.2.2.1), Lib.hid ((HIV.out.2.2.2.2.2.2.2.2.2.1).out.upd 3 (by decide)), (HIV.out.2.2.2.2.2.2.2.2.2.2.1), (HIV.out.2.2.2.2.2.2.2.2.2.2.2.1), (HIV.out.2.2.2.2.2.2.2.2.2.2.2.2.1), (HIV.out.2.2.2.2.2.2.2.2.2.2.2.2.2)⟩
              · rintro L a u hL hk ⟨x, rfl, hI⟩ K hK
                have HK0 := Lib.hid hK
                clear hK
                have HIV := Lib.hid hI
                clear hI
                rw [(HIV.out.2.2.1).out (after_on hL 3 rfl)]
                have hown := (HIV.out.2.2.2.2.2.2.2.2.2.2.1).out (after_on hL 0 rfl) hk
                have HK4 := Lib.hid hk
                clear hL hk
                obtain ⟨v', u', hr, ho, hb⟩ := append_own_ints u _ (HIV.out.2.2.2.2.2.2.1).out.size _ 0 [] hown g og cq (XS.take j) (ints_take (HIR.out.below (HIV.out.2.2.2.2.2.2.1).out) j) j (by rw [List.length_take, HXS.out]; omega) (by omega) 38
                have HO2 := Lib.hid (show u'.ownsRow xx.w.heap.size 3 1 v' j ((XS.take j).map (Value.int .i64)) by rw [Nat.zero_add, List.nil_append] at ho; exact ho)
                refine wp_append_run _ _ _ _ rfl _ _ _ rfl rfl hr ?_
                exact HK0.out _ _ ⟨fun i => if i = 100 then .slice (some ⟨g, og, none⟩) j cq else if i = 101 then v' else x i, rfl, (HIV.out.1), (HIV.out.2.1), Lib.hid (fun _ => rfl), (HIV.out.2.2.2.1), (HIV.out.2.2.2.2.1), (HIV.out.2.2.2.2.2.1), Lib.hid ((HIV.out.2.2.2.2.2.2.1).out.trans hb), (HIV.out.2.2.2.2.2.2.2.1), (HIV.out.2.2.2.2.2.2.2.2.1), Lib.hid ((HIV.out.2.2.2.2.2.2.2.2.2.1).out.upd 4 (by decide)), Lib.hid (fun _ h => by simp [upd] at h), Lib.hid (fun _ _ => HO2.out), Lib.hid (fun h => absurd ((HIV.out.2.2.2.2.2.2.2.2.2.1).out.2 h) (by rw [HK4.out]; decide)), (HIV.out.2.2.2.2.2.2.2.2.2.2.2.2.2)⟩
              · rintro L a u hL hk ⟨x, rfl, hI⟩ K hK
                have HK0 := Lib.hid hK
                clear hK
                have HIV := Lib.hid hI
                clear hI
                have h10 : L 10 = false := by cases h7 : L 10; rfl; exact absurd ((HIV.out.2.2.2.2.2.2.2.2.2.1).out.1 h7).2.1 (by simp [hk])
                have e13 := (HIV.out.2.2.2.2.2.2.2.1).out h10
                rw [e13]
                clear hk
                clear hL
                go_wp2
                exact HK0.out _ _ ⟨fun i => if i = 102 then .slice (some ⟨g, og, none⟩) r cq else if i = 13 then .slice (some ⟨g, og, none⟩) r cq else x i, rfl, (HIV.out.1), (HIV.out.2.1), (HIV.out.2.2.1), Lib.hid (fun _ => rfl), (HIV.out.2.2.2.2.1), (HIV.out.2.2.2.2.2.1), (HIV.out.2.2.2.2.2.2.1), Lib.hid (fun _ => rfl), Lib.hid (fun h => absurd (h10.symm.trans h) (by decide)), Lib.hid ((HIV.out.2.2.2.2.2.2.2.2.2.1).out.upd 5 (by decide)), (HIV.out.2.2.2.2.2.2.2.2.2.2.1), (HIV.out.2.2.2.2.2.2.2.2.2.2.2.1), (HIV.out.2.2.2.2.2.2.2.2.2.2.2.2.1), (HIV.out.2.2.2.2.2.2.2.2.2.2.2.2.2)⟩
              · rintro L a u hL hk ⟨x, rfl, hI⟩ K hK
                have HK0 := Lib.hid hK
                clear hK
                have HIV := Lib.hid hI
                clear hI
                clear hL
                clear hk
                go_wp2
                exact HK0.out _ _ ⟨fun i => if i = 103 then .int .i64 (j : Int) else x i, rfl, (HIV.out.1), (HIV.out.2.1), (HIV.out.2.2.1), (HIV.out.2.2.2.1), Lib.hid (fun _ => rfl), (HIV.out.2.2.2.2.2.1), (HIV.out.2.2.2.2.2.2.1), (HIV.out.2.2.2.2.2.2.2.1), (HIV.out.2.2.2.2.2.2.2.2.1), Lib.hid ((HIV.out.2.2.2.2.2.2.2.2.2.1).out.upd 6 (by decide)), (HIV.out.2.2.2.2.2.2.2.2.2.2.1), (HIV.out.2.2.2.2.2.2.2.2.2.2.2.1), (HIV.out.2.2.2.2.2.2.2.2.2.2.2.2.1), (HIV.out.2.2.2.2.2.2.2.2.2.2.2.2.2)⟩
              · rintro L a u hL hk ⟨x, rfl, hI⟩ K hK
                have HK0 := Lib.hid hK
                clear hK
                have HIV := Lib.hid hI
                clear hI
                rw [(HIV.out.2.2.2.2.1).out (after_on hL 6 rfl)]
                clear hL
                clear hk
                go_wp2
                exact HK0.out _ _ ⟨fun i => if i = 103 then .int .i64 (j : Int) else if i = 104 then .int .i64 ((j : Int) + 1) else x i, rfl, (HIV.out.1), (HIV.out.2.1), (HIV.out.2.2.1), (HIV.out.2.2.2.1), Lib.hid (fun _ => rfl), Lib.hid (fun _ => rfl), (HIV.out.2.2.2.2.2.2.1), (HIV.out.2.2.2.2.2.2.2.1), (HIV.out.2.2.2.2.2.2.2.2.1), Lib.hid ((HIV.out.2.2.2.2.2.2.2.2.2.1).out.upd 7 (by decide)), (HIV.out.2.2.2.2.2.2.2.2.2.2.1), (HIV.out.2.2.2.2.2.2.2.2.2.2.2.1), (HIV.out.2.2.2.2.2.2.2.2.2.2.2.2.1), (HIV.out.2.2.2.2.2.2.2.2.2.2.2.2.2)⟩
              · rintro L a u hL hk ⟨x, rfl, hI⟩ K hK
                have HK0 := Lib.hid hK
                clear hK
                have HIV := Lib.hid hI
                clear hI
                rw [(HIV.out.2.2.2.1).out (after_on hL 5 rfl)]
                rw [(HIV.out.2.2.2.2.2.1).out (after_on hL 7 rfl)]
                clear hL
                clear hk
                obtain ⟨o', c', hsl, ho'⟩ := cut_back g og r cq (j + 1) (by omega) HRC.out u
                rw [show ((j + 1 : Nat) : Int) = (j : Int) + 1 from rfl] at hsl
                refine wp_slice_run rfl hsl ?_
                exact HK0.out _ _ ⟨fun i => if i = 102 then .slice (some ⟨g, og, none⟩) r cq else if i = 104 then .int .i64 ((j : Int) + 1) else if i = 105 then .slice (some ⟨g, o', none⟩) (r - (j + 1) : Nat) c' else x i, rfl, (HIV.out.1), (HIV.out.2.1), (HIV.out.2.2.1), Lib.hid (fun _ => rfl), (HIV.out.2.2.2.2.1), Lib.hid (fun _ => rfl), (HIV.out.2.2.2.2.2.2.1), (HIV.out.2.2.2.2.2.2.2.1), (HIV.out.2.2.2.2.2.2.2.2.1), Lib.hid ((HIV.out.2.2.2.2.2.2.2.2.2.1).out.upd 8 (by decide)), (HIV.out.2.2.2.2.2.2.2.2.2.2.1), (HIV.out.2.2.2.2.2.2.2.2.2.2.2.1), (HIV.out.2.2.2.2.2.2.2.2.2.2.2.2.1), Lib.hid (fun _ => ⟨_, _, rfl, ho'⟩)⟩
              · rintro L a u hL hk ⟨x, rfl, hI⟩ K hK
                have HK0 := Lib.hid hK
                clear hK
                have HIV := Lib.hid hI
                clear hI
                have h4t := after_on hL 4 rfl
                have hown := (HIV.out.2.2.2.2.2.2.2.2.2.2.2.1).out h4t hk
                have HK9 := Lib.hid hk
                obtain ⟨o', c', e105, ho'⟩ := (HIV.out.2.2.2.2.2.2.2.2.2.2.2.2.2).out (after_on hL 8 rfl)
                rw [e105]
                clear hL hk e105
                have hy : IntsAt u (some ⟨g, o', none⟩) (XS.drop (j + 1)) := by
                  rcases ho' with rfl | e
                  · exact ints_drop (HIR.out.below (HIV.out.2.2.2.2.2.2.1).out) (j + 1)
                  · rw [List.drop_eq_nil_of_le (by rw [HXS.out]; omega)]; intro i hi; simp at hi
                obtain ⟨v', u', hr, ho, hb⟩ := append_own_ints u _ (HIV.out.2.2.2.2.2.2.1).out.size _ j (XS.take j) hown g o' c' (XS.drop (j + 1)) hy (r - (j + 1)) (by rw [List.length_drop, HXS.out]) (by omega) 38
                have HO3 := Lib.hid ho
                refine wp_append_run _ _ _ _ rfl _ _ _ rfl rfl hr ?_
                exact HK0.out _ _ ⟨fun i => if i = 105 then .slice (some ⟨g, o', none⟩) (r - (j + 1) : Nat) c' else if i = 106 then v' else x i, rfl, (HIV.out.1), (HIV.out.2.1), (HIV.out.2.2.1), (HIV.out.2.2.2.1), (HIV.out.2.2.2.2.1), (HIV.out.2.2.2.2.2.1), Lib.hid ((HIV.out.2.2.2.2.2.2.1).out.trans hb), (HIV.out.2.2.2.2.2.2.2.1), Lib.hid (fun h => absurd ((HIV.out.2.2.2.2.2.2.2.2.2.1).out.1 h).2.2 (by rw [HK9.out]; decide)), Lib.hid ((HIV.out.2.2.2.2.2.2.2.2.2.1).out.put9 h4t), Lib.hid (fun _ h => absurd (h4t.symm.trans h) (by decide)), Lib.hid (fun _ h => by simp [upd] at h), Lib.hid (fun _ => HO3.out), Lib.hid (fun _ => ⟨_, _, rfl, ho'⟩)⟩
              · rintro L a u hL hk ⟨x, rfl, hI⟩ K hK
                have HK0 := Lib.hid hK
                clear hK
                have HIV := Lib.hid hI
                clear hI
                have q1 := after_on hL 1 rfl
                have q5 := after_on hL 5 rfl
                have q9 := after_on hL 9 rfl
                clear hk
                go_wp2
                exact HK0.out _ _ ⟨fun i => if i = 13 then x 106 else x i, rfl, (HIV.out.1), (HIV.out.2.1), (HIV.out.2.2.1), (HIV.out.2.2.2.1), (HIV.out.2.2.2.2.1), (HIV.out.2.2.2.2.2.1), (HIV.out.2.2.2.2.2.2.1), Lib.hid (fun h => by simp [upd] at h), Lib.hid (fun _ => rfl), Lib.hid ((HIV.out.2.2.2.2.2.2.2.2.2.1).out.put10 q1 q5 q9), (HIV.out.2.2.2.2.2.2.2.2.2.2.1), (HIV.out.2.2.2.2.2.2.2.2.2.2.2.1), (HIV.out.2.2.2.2.2.2.2.2.2.2.2.2.1), (HIV.out.2.2.2.2.2.2.2.2.2.2.2.2.2)⟩
          · obtain rfl : i = m := by omega
            have hbt := HTB.out T R HP.out
            rw [HTA.out, HTI.out] at hbt
            have hr1 := low_range HOK.out i
            have hr2 := high_range HOK.out hmn
            have HL1 := Lib.hid (fun w' (k : From z4.w w') => least_low HOK.out hpos hmn p1 c1 w' (HLO.out.below k.b))
            have HTU := Lib.hid (fun w' (k : From z4.w w') => turned_high HOK.out p2 c2 w' (HHI.out.below k.b))
            have HL2 := Lib.hid (fun (q3 : Option Addr) (c3 : Nat) w' (hi : IntsAt w' q3 (negL (endL Hd.hi b.hs))) => least_neg HOK.out hpos hmn q3 c3 w' hi)
            have his := HIS.out
            obtain ⟨lo, hlo⟩ : ∃ l, lowAny b i = l := ⟨_, rfl⟩
            obtain ⟨hi, hhi⟩ : ∃ l, highAny b i = l := ⟨_, rfl⟩
            rw [hlo] at HL1 hr1 hbt his
            rw [hhi] at HL2 hr2 hbt his
            have e1 : IntKind.i64.wrap (- -hi) = hi := by rw [Int.neg_neg]; exact IntWalk.i64_in _ (by omega)
            have e2 : IntKind.i64.wrap hi = hi := IntWalk.i64_in _ (by omega)
            clear hhi hlo
            by_cases hright : b.pr - b.le ≤ lo ∧ hi ≤ b.pr + b.mo
            · have hit : is = true := by rw [← his, kindS_zero.2 hright]; rfl
              subst hit
              have HA1 := Lib.hid (fun w' => allow_is HOK.out (n := sa) (decide_eq_true (by omega)) p c w')
              have HA2 := Lib.hid (fun w' => allow_is HOK.out (n := lo) (decide_eq_true (by omega)) p c w')
              have HA3 := Lib.hid (fun w' => allow_is HOK.out (n := hi) (decide_eq_true (by omega)) p c w')
              clear his hbt hright HIS hr1 hr2
              go_wp2_with fail
              refine (HA1.out _).mono ?_
              rintro e u ⟨rfl, hbu⟩
              obtain ⟨y1, hz⟩ := xx.on hbu
              subst hz
              clear hbu
              go_wp2_with fail
              refine (HL1.out _ y1.fr).mono ?_
              rintro e u ⟨rfl, hbu⟩
              obtain ⟨y2, hz⟩ := y1.on hbu
              subst hz
              clear hbu
              go_wp2_with fail
              refine (HTU.out _ y2.fr).mono ?_
              rintro e u ⟨q3, c3, rfl, hi3, hbu⟩
              have HI3 := Lib.hid hi3
              obtain ⟨y3, hz⟩ := y2.on hbu
              subst hz
              clear hbu hi3
              go_wp2_with fail
              refine (HL2.out q3 c3 _ HI3.out).mono ?_
              rintro e u ⟨rfl, hbu⟩
              obtain ⟨y4, hz⟩ := y3.on hbu
              subst hz
              clear hbu
              go_wp2_with fail
              refine (HA2.out _).mono ?_
              rintro e u ⟨rfl, hbu⟩
              obtain ⟨y5, hz⟩ := y4.on hbu
              subst hz
              clear hbu
              go_wp2_with fail
              refine (HA3.out _).mono ?_
              rintro e u ⟨rfl, hbu⟩
              obtain ⟨y6, hz⟩ := y5.on hbu
              subst hz
              clear hbu
              go_wp2_with fail
              refine (filled_any _).mono ?_
              rintro e u ⟨rfl, hbu⟩
              obtain ⟨y7, hz⟩ := y6.on hbu
              subst hz
              clear hbu
              go_wp2_with fail
              go_ret
              exact ⟨rfl, y7.base (z4.base HE.out)⟩
            · have hit : is = false := by rw [← his]; exact beq_eq_false_iff_ne.2 fun h => hright (kindS_zero.1 h)
              subst hit
              by_cases hlow : b.pr - b.le ≤ lo ∧ lo ≤ b.pr + b.mo
              · have HA2 := Lib.hid (fun w' => allow_is HOK.out (n := lo) (decide_eq_true hlow) p c w')
                have HA3 := Lib.hid (fun w' => allow_is HOK.out (n := hi) (decide_eq_false (by omega)) p c w')
                clear his hbt hright HIS hr1 hr2 hlow
                go_wp2_with fail
                refine (HL1.out _ xx.fr).mono ?_
                rintro e u ⟨rfl, hbu⟩
                obtain ⟨y2, hz⟩ := xx.on hbu
                subst hz
                clear hbu
                go_wp2_with fail
                refine (HTU.out _ y2.fr).mono ?_
                rintro e u ⟨q3, c3, rfl, hi3, hbu⟩
                have HI3 := Lib.hid hi3
                obtain ⟨y3, hz⟩ := y2.on hbu
                subst hz
                clear hbu hi3
                go_wp2_with fail
                refine (HL2.out q3 c3 _ HI3.out).mono ?_
                rintro e u ⟨rfl, hbu⟩
                obtain ⟨y4, hz⟩ := y3.on hbu
                subst hz
                clear hbu
                go_wp2_with fail
                refine (HA2.out _).mono ?_
                rintro e u ⟨rfl, hbu⟩
                obtain ⟨y5, hz⟩ := y4.on hbu
                subst hz
                clear hbu
                go_wp2_with fail
                refine (HA3.out _).mono ?_
                rintro e u ⟨rfl, hbu⟩
                obtain ⟨y6, hz⟩ := y5.on hbu
                subst hz
                clear hbu
                go_wp2_with fail
                refine (filled_any _).mono ?_
                rintro e u ⟨rfl, hbu⟩
                obtain ⟨y7, hz⟩ := y6.on hbu
                subst hz
                clear hbu
                go_wp2_with fail
                go_ret
                exact ⟨rfl, y7.base (z4.base HE.out)⟩
              · have HA2 := Lib.hid (fun w' => allow_is HOK.out (n := lo) (decide_eq_false hlow) p c w')
                clear his hbt hright HIS hr1 hr2 hlow
                go_wp2_with fail
                refine (HL1.out _ xx.fr).mono ?_
                rintro e u ⟨rfl, hbu⟩
                obtain ⟨y2, hz⟩ := xx.on hbu
                subst hz
                clear hbu
                go_wp2_with fail
                refine (HTU.out _ y2.fr).mono ?_
                rintro e u ⟨q3, c3, rfl, hi3, hbu⟩
                have HI3 := Lib.hid hi3
                obtain ⟨y3, hz⟩ := y2.on hbu
                subst hz
                clear hbu hi3
                go_wp2_with fail
                refine (HL2.out q3 c3 _ HI3.out).mono ?_
                rintro e u ⟨rfl, hbu⟩
                obtain ⟨y4, hz⟩ := y3.on hbu
                subst hz
                clear hbu
                go_wp2_with fail
                refine (HA2.out _).mono ?_
                rintro e u ⟨rfl, hbu⟩
                obtain ⟨y5, hz⟩ := y4.on hbu
                subst hz
                clear hbu
                go_wp2_with fail
                refine (filled_any _).mono ?_
                rintro e u ⟨rfl, hbu⟩
                obtain ⟨y6, hz⟩ := y5.on hbu
                subst hz
                clear hbu
                go_wp2_with fail
                go_ret
                exact ⟨rfl, y6.base (z4.base HE.out)⟩
end Go.Proofs.Ytgdidhbomdfcpaa
