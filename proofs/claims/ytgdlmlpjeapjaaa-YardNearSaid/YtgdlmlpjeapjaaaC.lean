/- What all layers share: blocks of the call's own, lists of numbers in memory, append. -/
import Derived.Test.YtgdlmlpjeapjaaaB
import Derived.Test.YtgdlmlpjeapjaaaM
import Derived.Maps.AppendAt
import Derived.Deep.OwnRows
import Derived.Deep.RegionHeld3
import Derived.Deep.DeepCutAuto
import Derived.Deep.CutRange
namespace Go.Proofs.Ytgdlmlpjeapjaaa
open Go.RowKit Go.Maps
attribute [local go_sem] Oper.semAt_some

/-- A block of the call's own, and all that was there before. -/
structure Kept (l : Nat) (cs : Array Value) (t : TypeId) (w0 w : World) : Prop where
  r : Row w l cs t
  hb : Below w0.heap.size w0 w
section
variable {l : Nat} {cs : Array Value} {t : TypeId} {w0 w w' : World}
theorem Kept.below (h : Kept l cs t w0 w) (hb : Below w.heap.size w w') : Kept l cs t w0 w' := ⟨h.r.below hb h.r.lt, h.hb.trans (hb.mono h.hb.size)⟩
theorem Kept.drew (h : Kept l cs t w0 w) : Kept l cs t w0 w.drew := ⟨h.r.drew, h.hb.drew⟩
theorem Kept.drewN (h : Kept l cs t w0 w) (n : Nat) : Kept l cs t w0 (w.drewN n) := ⟨h.r.drewN n, below_drewN h.hb n⟩
theorem Kept.alloc (h : Kept l cs t w0 w) (o : Obj) : Kept l cs t w0 (w.alloc o) := ⟨h.r.alloc o, h.hb.alloc h.hb.size o⟩
theorem Kept.new (w0 : World) (cs : Array Value) (t : TypeId) : Kept w0.heap.size cs t w0 (w0.alloc (.cells cs t)) := ⟨Row.new _ _ _, below_alloc _ _⟩
theorem Kept.set (h : Kept l cs t w0 w) (hl : w0.heap.size ≤ l) (i : Nat) (v : Value) : Kept l (cs.setIfInBounds i v) t w0 (w.setCell ⟨l, i, none⟩ v) := ⟨h.r.set i v, h.hb.setCell hl v⟩
theorem Kept.s3 {x y z : Value} (h : Kept l #[x, y, z] t w0 w) : w.cell? ⟨l, 0, none⟩ = some x ∧ w.cell? ⟨l, 1, none⟩ = some y ∧ w.cell? ⟨l, 2, none⟩ = some z := ⟨h.r.cell 0 rfl, h.r.cell 1 rfl, h.r.cell 2 rfl⟩
theorem Kept.s2 {x y : Value} (h : Kept l #[x, y] t w0 w) : w.cell? ⟨l, 0, none⟩ = some x ∧ w.cell? ⟨l, 1, none⟩ = some y := ⟨h.r.cell 0 rfl, h.r.cell 1 rfl⟩
end
theorem owns_below {w w1 : World} {base e size : Nat} {v : Value} {n : Nat} {xs : List Value} (h : w.ownsRow base e size v n xs) (hb : Below w.heap.size w w1) : w1.ownsRow base e size v n xs := by
  refine ⟨h.1, ?_⟩
  rcases h.2 with h2 | ⟨g, cap, cur, hv, hg, hh, r⟩
  · exact .inl h2
  · exact .inr ⟨g, cap, cur, hv, hg, by rw [hb.block g (Array.getElem?_eq_some_iff.1 hh).1]; exact hh, r⟩
theorem ints_of_owns {w : World} {base e : Nat} {v : Value} {xs : List Int} (h : w.ownsRow base e 1 v xs.length (xs.map (Value.int .i64))) :
    ∃ p c, v = .slice p xs.length c ∧ IntsAt w p xs ∧ xs.length ≤ c ∧ c ≤ maxLen ∧ (p = none ∨ ∃ g, p = some ⟨g, 0, none⟩) := by
  rcases h.2 with ⟨hv, h0⟩ | ⟨g, cap, cur, hv, hg, hh, h1, h2, h3, h4⟩
  · exact ⟨none, 0, by rw [hv, h0], fun i hi => by omega, by omega, by unfold maxLen; omega, .inl rfl⟩
  · refine ⟨_, cap, hv, fun i hi => ⟨g, 0, rfl, ?_⟩, h1, h2, .inr ⟨g, rfl⟩⟩
    rw [cell_of_row w g (0 + i) cur e (0, 0) hh, Nat.zero_add]
    have : (cur.toList.take (xs.length * 1))[i]? = (xs.map (Value.int .i64))[i]? := by rw [h4]
    rw [List.getElem?_take_of_lt (by omega)] at this
    simp only [Array.getElem?_toList] at this
    rw [this]
    simp [hi, at0]
/-- The call returned a slice that reads as a list; what was there is as it was. -/
def GaveInts (xs : List Int) (w : World) (e : Ending) (w' : World) : Prop := ∃ p c, e = .returned (.slice p xs.length c) ∧ IntsAt w' p xs ∧ Below w.heap.size w w'
theorem Try.infoInt : (Try.prog.info? 3).map (fun i => (i.zero, i.size, i.bytes)) = some (some (.int .i64 0), 1, 8) := by kernel_rfl
/-- The cells of a list of numbers. -/
def intsA (l : List Int) : Array Value := (l.map (Value.int .i64)).toArray
theorem intsA_at {l : List Int} {k : Nat} (h : k < l.length) : (intsA l)[k]? = some (.int .i64 (at0 l k)) := by simp [intsA, h, at0]
theorem intsA_set (l : List Int) (k : Nat) (v : Int) : (intsA l).setIfInBounds k (.int .i64 v) = intsA (l.set k v) := by simp [intsA, List.map_set]
theorem ints_row {w : World} {b : Nat} {l : List Int} {t : TypeId} (h : Row w b (intsA l) t) : IntsAt w (some ⟨b, 0, none⟩) l := by
  intro i hi
  exact ⟨b, 0, rfl, by rw [Nat.zero_add]; exact h.cell i (intsA_at hi)⟩
theorem make_ints (n : Nat) (hn : n ≤ 1000) (w : World) : (Instr.makeSlice 27 (.int .i64 (n : Int)) (.int .i64 (n : Int))).run Try.prog w = .ok (.slice (some ⟨w.heap.size, 0, none⟩) n n) (w.alloc (.cells (intsA (List.replicate n 0)) 3)) := by
  have e : madeCells #[.int .i64 0] n = intsA (List.replicate n 0) := by
    apply Array.ext
    · simp [madeCells, intsA]
    · intro i h1 h2
      simp [madeCells, intsA, Nat.mod_one]
  rw [run_make_row' 27 3 (.int .i64 0) 8 Try.underlying27 Try.infoInt rfl .i64 .i64 n (by omega) (by omega) w, e]
theorem wp_append_run {P : Program} {o : Oper} {a : Act} {w w' : World} {Q : Exit → Act → World → Prop} {K : Act → World → Prop} (s x : Operand) (t t' : TypeId) (ho : o.op = Op.call { callee := Callee.builtin Builtin.append, args := #[s, x], argTypes := #[t, t'] }) (vs vx v : Value) (hs : a.eval s = vs) (hx : a.eval x = vx)
    (hr : (Builtin.append_ #[t, t'] o.type #[vs, vx]).run P w = .ok v w') (h : K (a.put o.dst v) w') : o.wp P a w K Q := by
  unfold Oper.wp
  simp [execOp, ho, resolve, invoke, builtin, hs, hx, hr, Result.andThen]
  exact h
theorem wpList_append_run {P : Program} {ops : Array Oper} {rest : List Oper} {o : Oper} {a : Act} {w w' : World} {Q : Exit → Act → World → Prop} (hgd : o.guard = none) (s x : Operand) (t t' : TypeId) (ho : o.op = Op.call { callee := Callee.builtin Builtin.append, args := #[s, x], argTypes := #[t, t'] }) (vs vx v : Value) (hs : a.eval s = vs) (hx : a.eval x = vx)
    (hr : (Builtin.append_ #[t, t'] o.type #[vs, vx]).run P w = .ok v w') (h : wpList P ops Q rest (a.put o.dst v) w') : wpList P ops Q (o :: rest) a w :=
  wpList_plain hgd fun _ hK => wp_append_run s x t t' ho vs vx v hs hx hr (hK _ _ h)
/-- append, as one step of a region that draws. -/
theorem step_append_ex {P : Program} {ops : Array Oper} {o : Oper} {a : Act} {w : World} {K : Act → World → Prop} {Q : Exit → Act → World → Prop} {E : Prop}
    (hg : o.guard = none) (s x : Operand) (tys : Array TypeId) (hop : o.op = Op.call { callee := Callee.builtin Builtin.append, args := #[s, x], argTypes := tys })
    (vs vx : Value) (hs : a.eval s = vs) (hx : a.eval x = vx) (R : Value → World → Prop) (hrun : ∃ v' w', (Builtin.append_ tys o.type #[vs, vx]).run P w = .ok v' w' ∧ R v' w')
    (hK : ∀ v' w', R v' w' → K (a.put o.dst v') w') :
    if Region.wanted o (yielded ops a.tmps) = true then Oper.wp P o a w K Q else E := by
  have hw : Region.wanted o (yielded ops a.tmps) = true := by simp [Region.wanted, hg]
  rw [if_pos hw]
  obtain ⟨v', w', hrun, hR⟩ := hrun
  unfold Oper.wp
  simp [execOp, hop, resolve, invoke, builtin, hs, hx, hrun, Result.andThen]
  exact hK v' w' hR
theorem Fits_yes (n lo hi : Int) (w : World) (h1 : lo ≤ n) (h2 : n ≤ hi) : Calls Try.prog 43 #[.int .i64 n, .int .i64 lo, .int .i64 hi] w fun e w' => e = .returned (.bool true) ∧ w = w' := by
  have h := Fits_any n lo hi w
  rw [show fits n lo hi = true by unfold fits; simp; omega] at h
  exact h
theorem Fits_no (n lo hi : Int) (w : World) (h : n < lo ∨ hi < n) : Calls Try.prog 43 #[.int .i64 n, .int .i64 lo, .int .i64 hi] w fun e w' => e = .returned (.bool false) ∧ w = w' := by
  have h2 := Fits_any n lo hi w
  rw [show fits n lo hi = false by unfold fits; simp; omega] at h2
  exact h2
end Go.Proofs.Ytgdlmlpjeapjaaa
