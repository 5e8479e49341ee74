/- A list of handfuls and a list of numbers, each in a block of its own: appending to the one leaves the other. -/
import Derived.Test.YticfcdbfplfmlaaGreatTF4
namespace Go.Proofs.YticfcdbfplfmlaaGreat
open Go.RowKit Go.Maps

structure Reg2 (base X S1 : Nat) (cx : Array Value) (lo hi : Int) (vx vt : Value) (HX : List Hd) (T : List Int) (W w : World) : Prop where
  x : w.ownsRow base 43 2 vx HX.length (hdV HX)
  t : w.ownsRow base 3 1 vt T.length (T.map (Value.int .i64))
  ne : ∀ g, vx.ownBlock = some g → vt.ownBlock ≠ some g
  rx : Row w X cx 28
  r1 : Row w S1 #[.int .i64 lo, .int .i64 hi] 43
  x1 : vx.ownBlock ≠ some S1
  t1 : vt.ownBlock ≠ some S1
  lx : X < base
  lw : W.heap.size ≤ base
  hb : base ≤ w.heap.size
  fr : From W w
section
variable {base X S1 : Nat} {cx : Array Value} {lo hi : Int} {vx vt : Value} {HX : List Hd} {T : List Int} {W w w' : World}
theorem Reg2.below (h : Reg2 base X S1 cx lo hi vx vt HX T W w) (hb : Below w.heap.size w w') : Reg2 base X S1 cx lo hi vx vt HX T W w' :=
  ⟨owns_below h.x hb, owns_below h.t hb, h.ne, h.rx.below hb h.rx.lt, h.r1.below hb h.r1.lt, h.x1, h.t1, h.lx, h.lw, Nat.le_trans h.hb hb.size, h.fr.below hb⟩
theorem Reg2.drew (h : Reg2 base X S1 cx lo hi vx vt HX T W w) : Reg2 base X S1 cx lo hi vx vt HX T W w.drew := h.below (Below.refl _ _).drew
theorem Reg2.alloc (h : Reg2 base X S1 cx lo hi vx vt HX T W w) (o : Obj) : Reg2 base X S1 cx lo hi vx vt HX T W (w.alloc o) := h.below (below_alloc _ _)
/-- One handful more. -/
theorem Reg2.appx (h : Reg2 base X S1 cx lo hi vx vt HX T W w) (hn : HX.length ≤ 100) (g : Nat) (hg : Row w g #[.int .i64 lo, .int .i64 hi] 43) (ty : TypeId) :
    ∃ v' w', (Builtin.append_ #[26, 26] ty #[vx, .slice (some ⟨g, 0, none⟩) 1 1]).run Tryz.prog w = .ok v' w' ∧ (Reg2 base X S1 cx lo hi v' vt (HX ++ [⟨lo, hi⟩]) T W w' ∧ Below base w w' ∧ ∀ b cs t, Row w b cs t → vx.ownBlock ≠ some b → Row w' b cs t) := by
  obtain ⟨i0, hi0, hi1, hi2', hi3⟩ := info_parts Tryz.infoSpan
  obtain ⟨v', w', hr, ho, hgr, _, hat⟩ := run_append_own_at (P := Tryz.prog) (w := w) base 26 ty 43 i0 _ 2 16 Tryz.underlying26 hi0 hi1 hi2' hi3 rfl (by decide) vx HX.length (hdV HX) h.x ⟨g, 0, none⟩ 1 1 [.int .i64 lo, .int .i64 hi] rfl
    (fun j u hj => by rw [Addr.add_lit, Nat.zero_add]; exact hg.cell j (by simpa using hj)) (by simp [Value.oneCell']) (by unfold maxLen; omega) (by omega) h.hb
  have hl : ∀ k, vx.ownBlock = some k → base ≤ k ∧ k < w.heap.size := fun k hk => h.x.lt k hk
  have hbl : Below base w w' := Below.grown' hgr h.hb (fun k hk => (hl k hk).1)
  have keep : ∀ b cs t, Row w b cs t → vx.ownBlock ≠ some b → Row w' b cs t := fun b cs t hr hne => hr.grown hgr (fun e => hne e.symm)
  refine ⟨v', w', hr, ⟨?_, ?_, ?_, h.rx.below hbl h.lx, keep _ _ _ h.r1 h.x1, ?_, h.t1, h.lx, h.lw, Nat.le_trans h.hb hbl.size, ⟨h.fr.b.trans (hbl.mono h.lw)⟩⟩, hbl, keep⟩
  · rw [hdV_append, List.length_append]
    simpa [hdV] using ho
  · exact owns_keeps h.t (grown_keeps (M := fun g => vx.ownBlock = some g) hgr fun g hg => hg) (fun g hg e => h.ne g e hg)
  · intro g hg
    rcases hat with h' | h'
    · exact h.ne g (h' ▸ hg)
    · rw [h'] at hg
      cases hg
      intro e
      have := (h.t.lt _ e).2
      omega
  · rcases hat with h' | h'
    · rw [h']; exact h.x1
    · rw [h']; intro e; cases e; have := h.r1.lt; omega
/-- One number more. -/
theorem Reg2.appt (h : Reg2 base X S1 cx lo hi vx vt HX T W w) (hn : T.length ≤ 100) (g : Nat) (n : Int) (hg : Row w g #[.int .i64 n] 3) (ty : TypeId) :
    ∃ v' w', (Builtin.append_ #[29, 29] ty #[vt, .slice (some ⟨g, 0, none⟩) 1 1]).run Tryz.prog w = .ok v' w' ∧ (Reg2 base X S1 cx lo hi vx v' HX (T ++ [n]) W w' ∧ Below base w w' ∧ ∀ b cs t, Row w b cs t → vt.ownBlock ≠ some b → Row w' b cs t) := by
  obtain ⟨i0, hi0, hi1, hi2', hi3⟩ := info_parts Tryz.infoInt
  obtain ⟨v', w', hr, ho, hgr, _, hat⟩ := run_append_own_at (P := Tryz.prog) (w := w) base 29 ty 3 i0 _ 1 8 Tryz.underlying29 hi0 hi1 hi2' hi3 rfl (by decide) vt T.length (T.map (Value.int .i64)) h.t ⟨g, 0, none⟩ 1 1 [.int .i64 n] rfl
    (fun j u hj => by rw [Addr.add_lit, Nat.zero_add]; exact hg.cell j (by simpa using hj)) (by simp [Value.oneCell']) (by unfold maxLen; omega) (by omega) h.hb
  have hl : ∀ k, vt.ownBlock = some k → base ≤ k ∧ k < w.heap.size := fun k hk => h.t.lt k hk
  have hbl : Below base w w' := Below.grown' hgr h.hb (fun k hk => (hl k hk).1)
  have keep : ∀ b cs t, Row w b cs t → vt.ownBlock ≠ some b → Row w' b cs t := fun b cs t hr hne => hr.grown hgr (fun e => hne e.symm)
  refine ⟨v', w', hr, ⟨?_, ?_, ?_, h.rx.below hbl h.lx, keep _ _ _ h.r1 h.t1, h.x1, ?_, h.lx, h.lw, Nat.le_trans h.hb hbl.size, ⟨h.fr.b.trans (hbl.mono h.lw)⟩⟩, hbl, keep⟩
  · exact owns_keeps h.x (grown_keeps (M := fun g => vt.ownBlock = some g) hgr fun g hg => hg) (fun g hg => h.ne g hg)
  · rw [List.map_append, List.length_append]
    simpa using ho
  · intro g hg e
    rcases hat with h' | h'
    · exact h.ne g hg (h' ▸ e)
    · rw [h'] at e
      cases e
      have := (h.x.lt _ hg).2
      omega
  · rcases hat with h' | h'
    · rw [h']; exact h.t1
    · rw [h']; intro e; cases e; have := h.r1.lt; omega
/-- What the region reads. -/
def Reg2S (X S1 : Nat) (vx : Value) (lo hi : Int) (w : World) : Prop :=
  w.cell? ⟨X, 4, none⟩ = some vx ∧ w.cell? ⟨S1, 0, none⟩ = some (.int .i64 lo) ∧ w.cell? ⟨S1, 1, none⟩ = some (.int .i64 hi)
theorem Reg2.s {ux : Value} (h : Reg2 base X S1 cx lo hi vx vt HX T W w) (e1 : cx[4]? = some ux) : Reg2S X S1 ux lo hi w :=
  ⟨h.rx.cell 4 e1, h.r1.cell 0 rfl, h.r1.cell 1 rfl⟩
/-- What the store leaves. -/
theorem Reg2.stores (h : Reg2 base X S1 cx lo hi vx vt HX T W w) (hX : W.heap.size ≤ X) :
    ∃ x : Later W, w.setCell ⟨X, 4, none⟩ vx = x.w ∧ Row x.w X (cx.setIfInBounds 4 vx) 28 ∧ x.w.ownsRow base 43 2 vx HX.length (hdV HX) ∧ x.w.ownsRow base 3 1 vt T.length (T.map (Value.int .i64)) ∧ (∀ g, vx.ownBlock = some g → vt.ownBlock ≠ some g) ∧ base ≤ x.w.heap.size := by
  have hb : Below W.heap.size W (w.setCell ⟨X, 4, none⟩ vx) := h.fr.b.setCell (by dsimp only; omega) _
  have lx := h.lx
  have o1 := owns_keeps h.x (set_keeps w X 4 vx) (fun g hg => by have := (h.x.lt g hg).1; omega)
  have o2 := owns_keeps h.t (set_keeps w X 4 vx) (fun g hg => by have := (h.t.lt g hg).1; omega)
  obtain ⟨x, hx⟩ := later_of hb
  have hs : (w.setCell ⟨X, 4, none⟩ vx).heap.size = w.heap.size := by simp [World.setCell]
  refine ⟨x, hx, ?_⟩
  rw [← hx]
  exact ⟨h.rx.set 4 vx, o1, o2, h.ne, by rw [hs]; exact h.hb⟩
end
/-- Handfuls, and how many splints truly are in each. -/
structure Frm (HX : List Hd) (T : List Int) (lost : Bool) : Prop where
  n : T.length = HX.length
  h : ∀ i (h : i < HX.length) (h' : i < T.length), 0 ≤ HX[i].lo ∧ HX[i].lo ≤ T[i] ∧ T[i] ≤ HX[i].hi ∧ HX[i].hi ≤ 10
  e : lost = false → ∀ x ∈ HX, x.lo = x.hi
theorem Frm.nil : Frm [] [] false := ⟨rfl, fun i h => by simp at h, fun _ x h => by simp at h⟩
theorem Frm.snoc {HX : List Hd} {T : List Int} {l l' : Bool} (h : Frm HX T l) {x : Hd} {n : Int} (h0 : 0 ≤ x.lo) (h1 : x.lo ≤ n) (h2 : n ≤ x.hi) (h3 : x.hi ≤ 10) (hl : l' = false → l = false ∧ x.lo = x.hi) : Frm (HX ++ [x]) (T ++ [n]) l' := by
  have hn := h.n
  refine ⟨by simp [hn], fun i hi hi' => ?_, fun e y hy => ?_⟩
  · by_cases e : i < HX.length
    · rw [List.getElem_append_left e, List.getElem_append_left (show i < T.length by omega)]
      exact h.h i e (by omega)
    · have e2 : i = HX.length := by simp at hi; omega
      subst e2
      simp only [List.getElem_append_right (Nat.le_refl _), Nat.sub_self, List.getElem_singleton]
      rw [List.getElem_append_right (by omega)]
      simp only [hn, Nat.sub_self, List.getElem_singleton]
      exact ⟨h0, h1, h2, h3⟩
  · rcases List.mem_append.1 hy with hy | hy
    · exact h.e (hl e).1 y hy
    · simp at hy
      rw [hy]
      exact (hl e).2
theorem Frm.ok {HX : List Hd} {T : List Int} {l : Bool} (h : Frm HX T l) : ∀ x ∈ HX, HdOk x := fun x hx => by
  obtain ⟨i, hi, rfl⟩ := List.getElem_of_mem hx
  have := h.h i hi (by have := h.n; omega)
  exact ⟨by omega, by omega, by omega, by omega⟩
/-- If all is known of each handful, all is known of what is given away. -/
theorem over_same {b : Bf} (h : ∀ x ∈ b.hs, x.lo = x.hi) (l : List Int) : overV Hd.lo b l = overV Hd.hi b l := by
  have key : ∀ x y, loB b x y = hiB b x y := fun x y => by
    unfold loB hiB sumF
    congr 1
    refine List.map_congr_left fun z hz => h z ?_
    unfold partL at hz
    exact List.mem_of_mem_drop (List.mem_of_mem_take hz)
  have hr : ∀ k, sumF Hd.lo (rightTo b l k) = sumF Hd.hi (rightTo b l k) := fun k => by
    unfold sumF
    congr 1
    refine List.map_congr_left fun z hz => ?_
    unfold rightTo at hz
    obtain ⟨i, _, rfl⟩ := List.mem_map.1 hz
    exact key _ _
  unfold overV
  rw [show sumF Hd.lo (rightL b l) = sumF Hd.hi (rightL b l) from hr _]
end Go.Proofs.YticfcdbfplfmlaaGreat
