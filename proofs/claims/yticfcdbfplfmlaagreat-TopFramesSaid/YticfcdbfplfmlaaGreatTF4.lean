/- The region that appends to two lists at once: what it starts from, what its last stores leave. -/
import Derived.Test.YticfcdbfplfmlaaGreatTF0
import Derived.Test.YticfcdbfplfmlaaGreatLN
import Derived.Test.YticfcdbfplfmlaaGreatLM
namespace Go.Proofs.YticfcdbfplfmlaaGreat
open Go.RowKit Go.Maps

/-- append, as one step of a region that draws. -/
theorem step_app {P : Program} {ops : Array Oper} {o : Oper} {a : Act} {w : World} {K : Act → World → Prop} {Q : Exit → Act → World → Prop} {E : Prop}
    (hg : o.guard = none) (s x : Operand) (tys : Array TypeId) (hop : o.op = Op.call { callee := Callee.builtin Builtin.append, args := #[s, x], argTypes := tys })
    (vs vx : Value) (hs : a.eval s = vs) (hx : a.eval x = vx) (R : Value → World → Prop) (hrun : ∃ v' w', (Builtin.append_ tys o.type #[vs, vx]).run P w = .ok v' w' ∧ R v' w')
    (hK : ∀ v' w', R v' w' → K (a.put o.dst v') w') :
    if Region.wanted o (yielded ops a.tmps) = true then Oper.wp P o a w K Q else E := by
  have hw : Region.wanted o (yielded ops a.tmps) = true := by simp [Region.wanted, hg]
  rw [if_pos hw]
  obtain ⟨v', w', hrun, hR⟩ := hrun
  unfold Oper.wp
  simp [execOp, hop, resolve, invoke, builtin, hs, hx, hrun, Result.andThen]
  exact hK v' w' hR
section
variable {base X Z S1 S2 : Nat} {cx cz : Array Value} {lo hi lo2 hi2 : Int} {vx vz : Value} {HX HZ : List Hd} {W w : World}
theorem Reg.s {ux uz : Value} (h : Reg base X Z S1 S2 cx cz lo hi lo2 hi2 vx vz HX HZ W w) (e1 : cx[4]? = some ux) (e2 : cz[4]? = some uz) : RegS X Z S1 S2 ux uz lo hi lo2 hi2 w :=
  ⟨h.rx.cell 4 e1, h.rz.cell 4 e2, h.r1.cell 0 rfl, h.r1.cell 1 rfl, h.r2.cell 0 rfl, h.r2.cell 1 rfl⟩
/-- What the two stores leave. -/
theorem Reg.stores (h : Reg base X Z S1 S2 cx cz lo hi lo2 hi2 vx vz HX HZ W w) (hXZ : X ≠ Z) (hX : W.heap.size ≤ X) (hZ : W.heap.size ≤ Z) :
    ∃ x : Later W, (w.setCell ⟨X, 4, none⟩ vx).setCell ⟨Z, 4, none⟩ vz = x.w ∧ Row x.w X (cx.setIfInBounds 4 vx) 28 ∧ Row x.w Z (cz.setIfInBounds 4 vz) 28 ∧ x.w.ownsRow base 43 2 vx HX.length (hdV HX) ∧ x.w.ownsRow base 43 2 vz HZ.length (hdV HZ) ∧ (∀ g, vx.ownBlock = some g → vz.ownBlock ≠ some g) ∧ base ≤ x.w.heap.size := by
  have hb : Below W.heap.size W ((w.setCell ⟨X, 4, none⟩ vx).setCell ⟨Z, 4, none⟩ vz) := (h.fr.b.setCell (by dsimp only; omega) _).setCell (by dsimp only; omega) _
  have hk : ∀ (g Y : Nat) (i : Nat) (v : Value) (A : World), Y < base → base ≤ g → ¬ (g = Y) := fun g Y _ _ _ h1 h2 => by omega
  have o1 : ∀ (v : Value) (HS : List Hd), w.ownsRow base 43 2 v HS.length (hdV HS) → ((w.setCell ⟨X, 4, none⟩ vx).setCell ⟨Z, 4, none⟩ vz).ownsRow base 43 2 v HS.length (hdV HS) := fun v HS ho => by
    have lx := h.lx
    have lz := h.lz
    have a1 := owns_keeps ho (set_keeps w X 4 vx) (fun g hg => by have := (ho.lt g hg).1; omega)
    exact owns_keeps a1 (set_keeps _ Z 4 vz) (fun g hg => by have := (ho.lt g hg).1; omega)
  obtain ⟨x, hx⟩ := later_of hb
  have hs : ((w.setCell ⟨X, 4, none⟩ vx).setCell ⟨Z, 4, none⟩ vz).heap.size = w.heap.size := by simp [World.setCell]
  refine ⟨x, hx, ?_⟩
  rw [← hx]
  refine ⟨(h.rx.set 4 vx).set_other ⟨Z, 4, none⟩ vz (by dsimp only; exact hXZ), (h.rz.set_other ⟨X, 4, none⟩ vx (by dsimp only; exact fun e => hXZ e.symm)).set 4 vz, o1 _ _ h.x, o1 _ _ h.z, h.ne, by rw [hs]; exact h.hb⟩
end
theorem plan_nums_any {b : Bf} {l : List Int} (hok : BfOk b) (hp : planB b l = true) : ∀ i, i < l.length → I64 (at0 l i) := by
  intro i hi
  unfold planB at hp
  rw [Bool.and_eq_true] at hp
  have h := planTo_all hp.1 hi
  have hn := hok.n8
  unfold boxI boxB at h
  simp only [decide_eq_true_eq] at h
  unfold I64
  omega
theorem hds_cap {w : World} {base : Nat} {v : Value} {hs : List Hd} (h : w.ownsRow base 43 2 v hs.length (hdV hs)) :
    ∃ p c, v = .slice p hs.length c ∧ HdsAt w p hs ∧ hs.length ≤ c := by
  obtain ⟨p, c, hv, hd⟩ := hds_of_owns h
  refine ⟨p, c, hv, hd, ?_⟩
  rcases h.2 with ⟨hv', h0⟩ | ⟨g, cap, cur, hv', _, _, h1, h2, h3, h4⟩
  · omega
  · rw [hv] at hv'
    cases hv'
    omega
end Go.Proofs.YticfcdbfplfmlaaGreat
