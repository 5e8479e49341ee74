/- Two lists of handfuls, each in a block of its own: appending to the one leaves the other. -/
import Derived.Test.YticfcdbfplfmlaaGreatFCX
import Derived.Test.YticfcdbfplfmlaaGreatFAX
import Derived.Test.YticfcdbfplfmlaaGreatFDX
namespace Go.Proofs.YticfcdbfplfmlaaGreat
open Go.RowKit Go.Maps

theorem Below.grown' {n : Nat} {w w' : World} {r : Option Nat} (hg : w.grownBy w' r) (hn : n ≤ w.heap.size) (hr : ∀ k, r = some k → n ≤ k) : Below n w w' :=
  ⟨hg.os, hg.tape, hg.output, hg.size, fun k hk => hg.block k (by omega) (fun e => by have := hr k e.symm; omega)⟩
/-- Two lists of handfuls of one's own, the blocks that a region reads, and all that was there. -/
structure Reg (base X Z S1 S2 : Nat) (cx cz : Array Value) (lo hi lo2 hi2 : Int) (vx vz : Value) (HX HZ : List Hd) (W w : World) : Prop where
  x : w.ownsRow base 43 2 vx HX.length (hdV HX)
  z : w.ownsRow base 43 2 vz HZ.length (hdV HZ)
  ne : ∀ g, vx.ownBlock = some g → vz.ownBlock ≠ some g
  rx : Row w X cx 28
  rz : Row w Z cz 28
  r1 : Row w S1 #[.int .i64 lo, .int .i64 hi] 43
  r2 : Row w S2 #[.int .i64 lo2, .int .i64 hi2] 43
  x1 : vx.ownBlock ≠ some S1
  x2 : vx.ownBlock ≠ some S2
  z1 : vz.ownBlock ≠ some S1
  z2 : vz.ownBlock ≠ some S2
  lx : X < base
  lz : Z < base
  lw : W.heap.size ≤ base
  hb : base ≤ w.heap.size
  fr : From W w
section
variable {base X Z S1 S2 : Nat} {cx cz : Array Value} {lo hi lo2 hi2 : Int} {vx vz : Value} {HX HZ : List Hd} {W w w' : World}
theorem Reg.below (h : Reg base X Z S1 S2 cx cz lo hi lo2 hi2 vx vz HX HZ W w) (hb : Below w.heap.size w w') : Reg base X Z S1 S2 cx cz lo hi lo2 hi2 vx vz HX HZ W w' :=
  ⟨owns_below h.x hb, owns_below h.z hb, h.ne, h.rx.below hb h.rx.lt, h.rz.below hb h.rz.lt, h.r1.below hb h.r1.lt, h.r2.below hb h.r2.lt, h.x1, h.x2, h.z1, h.z2, h.lx, h.lz, h.lw, Nat.le_trans h.hb hb.size, h.fr.below hb⟩
theorem Reg.drew (h : Reg base X Z S1 S2 cx cz lo hi lo2 hi2 vx vz HX HZ W w) : Reg base X Z S1 S2 cx cz lo hi lo2 hi2 vx vz HX HZ W w.drew := h.below (Below.refl _ _).drew
theorem Reg.alloc (h : Reg base X Z S1 S2 cx cz lo hi lo2 hi2 vx vz HX HZ W w) (o : Obj) : Reg base X Z S1 S2 cx cz lo hi lo2 hi2 vx vz HX HZ W (w.alloc o) := h.below (below_alloc _ _)
theorem hdV_ones (hs : List Hd) : ∀ u ∈ hdV hs, u.oneCell' = true := hdV_one hs
/-- One handful more in the first list. -/
theorem Reg.appx (h : Reg base X Z S1 S2 cx cz lo hi lo2 hi2 vx vz HX HZ W w) (hn : HX.length ≤ 100) (g : Nat) (hg : Row w g #[.int .i64 lo, .int .i64 hi] 43) (ty : TypeId) :
    ∃ v' w', (Builtin.append_ #[26, 26] ty #[vx, .slice (some ⟨g, 0, none⟩) 1 1]).run Tryz.prog w = .ok v' w' ∧ (Reg base X Z S1 S2 cx cz lo hi lo2 hi2 v' vz (HX ++ [⟨lo, hi⟩]) HZ W w' ∧ Below base w w' ∧ ∀ b cs t, Row w b cs t → vx.ownBlock ≠ some b → Row w' b cs t) := by
  obtain ⟨i0, hi0, hi1, hi2', hi3⟩ := info_parts Tryz.infoSpan
  obtain ⟨v', w', hr, ho, hgr, _, hat⟩ := run_append_own_at (P := Tryz.prog) (w := w) base 26 ty 43 i0 _ 2 16 Tryz.underlying26 hi0 hi1 hi2' hi3 rfl (by decide) vx HX.length (hdV HX) h.x ⟨g, 0, none⟩ 1 1 [.int .i64 lo, .int .i64 hi] rfl
    (fun j u hj => by rw [Addr.add_lit, Nat.zero_add]; exact hg.cell j (by simpa using hj)) (by simp [Value.oneCell']) (by unfold maxLen; omega) (by omega) h.hb
  have hl : ∀ k, vx.ownBlock = some k → base ≤ k ∧ k < w.heap.size := fun k hk => h.x.lt k hk
  have hbl : Below base w w' := Below.grown' hgr h.hb (fun k hk => (hl k hk).1)
  have keep : ∀ b cs t, Row w b cs t → vx.ownBlock ≠ some b → Row w' b cs t := fun b cs t hr hne => hr.grown hgr (fun e => hne e.symm)
  have nz : ∀ g, vz.ownBlock = some g → vx.ownBlock ≠ some g := fun g hg e => h.ne g e hg
  refine ⟨v', w', hr, ⟨?_, ?_, ?_, h.rx.below hbl h.lx, h.rz.below hbl h.lz, keep _ _ _ h.r1 h.x1, keep _ _ _ h.r2 h.x2, ?_, ?_, h.z1, h.z2, h.lx, h.lz, h.lw, Nat.le_trans h.hb hbl.size, ⟨h.fr.b.trans (hbl.mono h.lw)⟩⟩, hbl, keep⟩
  · rw [hdV_append, List.length_append]
    simpa [hdV] using ho
  · exact owns_keeps h.z (grown_keeps (M := fun g => vx.ownBlock = some g) hgr fun g hg => hg) (fun g hg => nz g hg)
  · intro g hg
    rcases hat with h' | h'
    · exact h.ne g (h' ▸ hg)
    · rw [h'] at hg
      cases hg
      intro e
      have := (h.z.lt _ e).2
      omega
  · rcases hat with h' | h'
    · rw [h']; exact h.x1
    · rw [h']; intro e; cases e; have := h.r1.lt; omega
  · rcases hat with h' | h'
    · rw [h']; exact h.x2
    · rw [h']; intro e; cases e; have := h.r2.lt; omega
/-- One handful more in the second list. -/
theorem Reg.appz (h : Reg base X Z S1 S2 cx cz lo hi lo2 hi2 vx vz HX HZ W w) (hn : HZ.length ≤ 100) (g : Nat) (hg : Row w g #[.int .i64 lo2, .int .i64 hi2] 43) (ty : TypeId) :
    ∃ v' w', (Builtin.append_ #[26, 26] ty #[vz, .slice (some ⟨g, 0, none⟩) 1 1]).run Tryz.prog w = .ok v' w' ∧ (Reg base X Z S1 S2 cx cz lo hi lo2 hi2 vx v' HX (HZ ++ [⟨lo2, hi2⟩]) W w' ∧ Below base w w' ∧ ∀ b cs t, Row w b cs t → vz.ownBlock ≠ some b → Row w' b cs t) := by
  obtain ⟨i0, hi0, hi1, hi2', hi3⟩ := info_parts Tryz.infoSpan
  obtain ⟨v', w', hr, ho, hgr, _, hat⟩ := run_append_own_at (P := Tryz.prog) (w := w) base 26 ty 43 i0 _ 2 16 Tryz.underlying26 hi0 hi1 hi2' hi3 rfl (by decide) vz HZ.length (hdV HZ) h.z ⟨g, 0, none⟩ 1 1 [.int .i64 lo2, .int .i64 hi2] rfl
    (fun j u hj => by rw [Addr.add_lit, Nat.zero_add]; exact hg.cell j (by simpa using hj)) (by simp [Value.oneCell']) (by unfold maxLen; omega) (by omega) h.hb
  have hl : ∀ k, vz.ownBlock = some k → base ≤ k ∧ k < w.heap.size := fun k hk => h.z.lt k hk
  have hbl : Below base w w' := Below.grown' hgr h.hb (fun k hk => (hl k hk).1)
  have keep : ∀ b cs t, Row w b cs t → vz.ownBlock ≠ some b → Row w' b cs t := fun b cs t hr hne => hr.grown hgr (fun e => hne e.symm)
  refine ⟨v', w', hr, ⟨?_, ?_, ?_, h.rx.below hbl h.lx, h.rz.below hbl h.lz, keep _ _ _ h.r1 h.z1, keep _ _ _ h.r2 h.z2, h.x1, h.x2, ?_, ?_, h.lx, h.lz, h.lw, Nat.le_trans h.hb hbl.size, ⟨h.fr.b.trans (hbl.mono h.lw)⟩⟩, hbl, keep⟩
  · exact owns_keeps h.x (grown_keeps (M := fun g => vz.ownBlock = some g) hgr fun g hg => hg) (fun g hg => h.ne g hg)
  · rw [hdV_append, List.length_append]
    simpa [hdV] using ho
  · intro g hg e
    rcases hat with h' | h'
    · exact h.ne g hg (h' ▸ e)
    · rw [h'] at e
      cases e
      have := (h.x.lt _ hg).2
      omega
  · rcases hat with h' | h'
    · rw [h']; exact h.z1
    · rw [h']; intro e; cases e; have := h.r1.lt; omega
  · rcases hat with h' | h'
    · rw [h']; exact h.z2
    · rw [h']; intro e; cases e; have := h.r2.lt; omega
/-- What the region reads. -/
def RegS (X Z S1 S2 : Nat) (vx vz : Value) (lo hi lo2 hi2 : Int) (w : World) : Prop :=
  w.cell? ⟨X, 4, none⟩ = some vx ∧ w.cell? ⟨Z, 4, none⟩ = some vz ∧ w.cell? ⟨S1, 0, none⟩ = some (.int .i64 lo) ∧ w.cell? ⟨S1, 1, none⟩ = some (.int .i64 hi) ∧ w.cell? ⟨S2, 0, none⟩ = some (.int .i64 lo2) ∧ w.cell? ⟨S2, 1, none⟩ = some (.int .i64 hi2)
end
/-- Two lists of handfuls: of those of the second one no less is known. -/
structure Fair (HX HZ : List Hd) : Prop where
  n : HZ.length = HX.length
  h : ∀ j (h : j < HX.length) (h' : j < HZ.length), HdOk HX[j] ∧ HdOk HZ[j] ∧ HX[j].lo ≤ HZ[j].lo ∧ HZ[j].hi ≤ HX[j].hi
theorem Fair.nil : Fair [] [] := ⟨rfl, fun j h => by simp at h⟩
theorem Fair.snoc {HX HZ : List Hd} (h : Fair HX HZ) {x z : Hd} (hx : HdOk x) (hz : HdOk z) (h1 : x.lo ≤ z.lo) (h2 : z.hi ≤ x.hi) : Fair (HX ++ [x]) (HZ ++ [z]) := by
  refine ⟨by simp [h.n], fun j hj hj' => ?_⟩
  have hn := h.n
  by_cases e : j < HX.length
  · rw [List.getElem_append_left e, List.getElem_append_left (show j < HZ.length by omega)]
    exact h.h j e (by omega)
  · have e2 : j = HX.length := by simp at hj; omega
    subst e2
    simp only [List.getElem_append_right (Nat.le_refl _), Nat.sub_self, List.getElem_singleton]
    rw [List.getElem_append_right (by omega)]
    simp only [hn, Nat.sub_self, List.getElem_singleton]
    exact ⟨hx, hz, h1, h2⟩
/-- A list from one of its elements on, as a slice. -/
theorem ints_from {w : World} {b o : Nat} {l : List Int} (h : IntsAt w (some ⟨b, o, none⟩) l) (m : Nat) : IntsAt w (some ⟨b, o + m, none⟩) (l.drop m) := by
  intro i hi
  rw [List.length_drop] at hi
  obtain ⟨b', o', e, hc⟩ := h (m + i) (by omega)
  cases e
  refine ⟨b, o + m, rfl, ?_⟩
  rw [Nat.add_assoc, hc]
  congr 2
  simp [at0]
theorem ints_empty {w : World} {p : Option Addr} {l : List Int} {m : Nat} (h : l.length ≤ m) : IntsAt w p (l.drop m) := by
  intro i hi
  rw [List.length_drop] at hi
  omega
theorem book_ok {b : Bf} (hb : BfOk b) {HX : List Hd} (h8 : HX.length ≤ 8) (h : ∀ x ∈ HX, HdOk x) : bookB { b with hs := HX } = true :=
  bookB_iff.2 ⟨hb.p1, hb.p2, hb.l1, hb.l2, hb.l3, hb.m1, hb.m2, hb.g1, hb.g2, h8, h⟩
end Go.Proofs.YticfcdbfplfmlaaGreat
