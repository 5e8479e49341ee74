/- Layer 3: what the law on a frame less calls, ahead of its walk. -/
import Derived.Test.YtfppcmechfjpoaaXA
import Derived.Test.YtfppcmechfjpoaaWT
import Derived.Test.YtfppcmechfjpoaaLT
namespace Go.Proofs.Ytfppcmechfjpoaa
open Go.RowKit

theorem copyP_ex {w1 w : World} {ps : List Pt} {b o cp : Nat} (hp : PtsAt w1 (some ⟨b, o, none⟩) ps) (h1 : 0 < ps.length) (h3 : ps.length ≤ 10) (h : From w1 w) (ty : TypeId) (z : Nat) :
    ∃ v' w', (Builtin.append_ #[22, 22] ty #[.slice (some ⟨z, 0, none⟩) 0 0, .slice (some ⟨b, o, none⟩) ps.length cp]).run Try.prog w = .ok v' w' ∧ (∃ g cap cur, v' = .slice (some ⟨g, 0, none⟩) ps.length cap ∧ Row w' g cur 64 ∧ HoldsP (cur[·]?) ps ∧ w.heap.size ≤ g ∧ Below w.heap.size w w') := by
  obtain ⟨v, g, cap, cur, w2, hr, ⟨rfl, hrow, hg, _, hb2⟩, hh⟩ := copy_parts w ps b o cp (hp.below h.b) h1 h3 ty z
  exact ⟨_, _, hr, g, cap, cur, rfl, hrow, hh, hg, hb2⟩
theorem copyF_ex {w1 w : World} {ms : List FrM} {b o cf : Nat} (hp : FrsAt w1 (some ⟨b, o, none⟩) ms) (h1 : 0 < ms.length) (h3 : ms.length ≤ 10) (h : From w1 w) (ty : TypeId) (z : Nat) :
    ∃ v' w', (Builtin.append_ #[23, 23] ty #[.slice (some ⟨z, 0, none⟩) 0 0, .slice (some ⟨b, o, none⟩) ms.length cf]).run Try.prog w = .ok v' w' ∧ (∃ g cap cur, v' = .slice (some ⟨g, 0, none⟩) ms.length cap ∧ Row w' g cur 55 ∧ HoldsF (cur[·]?) ms ∧ w.heap.size ≤ g ∧ Below w.heap.size w w') := by
  obtain ⟨v, g, cap, cur, w2, hr, ⟨rfl, hrow, hg, _, hb2⟩, hh⟩ := copy_frames w ms b o cf (hp.below h.b) h1 h3 ty z
  exact ⟨_, _, hr, g, cap, cur, rfl, hrow, hh, hg, hb2⟩
theorem From.newer {W w : World} {b g : Nat} (h : From W w) (hb : b < W.heap.size) (hg : w.heap.size ≤ g) : b < g := Nat.lt_of_lt_of_le hb (Nat.le_trans h.b.size hg)
/-- What the law's second book is. -/
structure Second (W0 : World) (ps : List Pt) (ms : List FrM) (bx : Nat) (mm : Int) (wx : World) : Prop where
  ex : ∃ pq cq fq dq qs ns, ∃ m : Nat, mm = (m : Int) ∧ m ≤ 1 ∧ Row wx bx #[.slice pq qs.length cq, .slice fq ns.length dq] 25 ∧ BkAt wx pq fq qs ns ∧ Easier ps (frsM ms) qs (frsM ns) m
  fr : From W0 wx
theorem second_of {W0 wx : World} {ps qs : List Pt} {ms ns : List FrM} {bx : Nat} {pq fq : Option Addr} {cq dq m : Nat} (rx : Row wx bx #[.slice pq qs.length cq, .slice fq ns.length dq] 25) (hp : PtsAt wx pq qs) (hf : FrsAt wx fq ns) (e : Easier ps (frsM ms) qs (frsM ns) m) (k : From W0 wx) (hm : m ≤ 1) : Second W0 ps ms bx (m : Int) wx := by
  have h4 := e.ok.p4
  have h5 := e.ok.f5
  rw [frsM_length] at h5
  refine ⟨⟨pq, cq, fq, dq, qs, ns, m, rfl, hm, rx, ⟨hp, hf, by omega, by omega, fun x hx => ?_⟩, e⟩, k⟩
  have := (e.ok.f x.f (List.mem_map.2 ⟨x, hx, rfl⟩)).n
  omega
section
variable {W0 wx : World} {ps : List Pt} {ms : List FrM} {pp : Option Addr} {fb fo bx gp gf cq dq : Nat} {curp curf : Array Value} {t t' : TypeId}
theorem second_need (hB : BkAt W0 pp (some ⟨fb, fo, none⟩) ps ms) (hok : BookOk ps (frsM ms)) {k : Nat} (hk : k < ms.length) {lo hi : Int} (h0 : 0 ≤ lo) (h1 : lo ≤ ms[k].f.lo) (h2 : ms[k].f.hi ≤ hi) (h3 : hi ≤ 999)
    (rx : Row wx bx #[.slice (some ⟨gp, 0, none⟩) ps.length cq, .slice (some ⟨gf, 0, none⟩) ms.length dq] 25) (rp : Row wx gp curp t) (hp : HoldsP (curp[·]?) ps) (rf : Row wx gf ((curf.setIfInBounds (k * 3 + 1) (.int .i64 lo)).setIfInBounds (k * 3 + 2) (.int .i64 hi)) t') (hf : HoldsF (curf[·]?) ms) (q : From W0 wx) : Second W0 ps ms bx 0 wx := by
  have hl : (ms.set k (needM ms[k] lo hi)).length = ms.length := List.length_set
  have hkf : k < (frsM ms).length := by rw [frsM_length]; exact hk
  have e := easier_need hok hkf (lo := lo) (hi := hi) h0 (by rw [frsM_get hk]; exact h1) (by rw [frsM_get hk]; exact h2) h3
  rw [← frsM_need hk] at e
  rw [← hl] at rx
  have hB2 := hB.below q.b
  refine second_of (m := 0) rx (pts_row rp hp) (frs_row rf (holdsN_set hf hk lo hi) fun i hi' => ?_) e q (by omega)
  have hi2 : i < ms.length := by rwa [hl] at hi'
  obtain ⟨_, _, _, _, _, _, h⟩ := hB2.f i hi2
  by_cases e2 : k = i
  · subst e2
    simp only [List.getElem_set_self, needM]
    exact h
  · simp only [List.getElem_set_ne e2]
    exact h
theorem second_damp (hB : BkAt W0 pp (some ⟨fb, fo, none⟩) ps ms) (hok : BookOk ps (frsM ms)) {p : Nat} (hp0 : p < ps.length) {lo hi : Int} (h0 : ps[p].lo ≤ lo) (h1 : hi ≤ ps[p].hi) (h2 : lo ≤ hi)
    (rx : Row wx bx #[.slice (some ⟨gp, 0, none⟩) ps.length cq, .slice (some ⟨gf, 0, none⟩) ms.length dq] 25) (rp : Row wx gp ((curp.setIfInBounds (p * 6 + 4) (.int .i64 lo)).setIfInBounds (p * 6 + 5) (.int .i64 hi)) t) (hp : HoldsP (curp[·]?) ps) (rf : Row wx gf curf t') (hf : HoldsF (curf[·]?) ms) (q : From W0 wx) : Second W0 ps ms bx 0 wx := by
  have hB2 := hB.below q.b
  rw [← dampP_length ps p lo hi] at rx
  refine second_of (m := 0) rx (pts_row rp (holdsP_set hp hp0 lo hi)) (frs_row rf hf fun i hi' => ?_) (easier_damp hok hp0 h0 h1 h2) q (by omega)
  obtain ⟨_, _, _, _, _, _, h⟩ := hB2.f i hi'
  exact h
theorem mem_erase_idx {ms : List FrM} {k i : Nat} (h : i < (ms.eraseIdx k).length) : ∃ j, ∃ hj : j < ms.length, (ms.eraseIdx k)[i] = ms[j] := by
  have hm : (ms.eraseIdx k)[i] ∈ ms := List.mem_of_mem_eraseIdx (List.getElem_mem h)
  obtain ⟨j, hj, e⟩ := List.mem_iff_getElem.1 hm
  exact ⟨j, hj, e.symm⟩
/-- What the second append leaves. -/
def Erased (ms : List FrM) (k z : Nat) (w1 : World) (v2 : Value) (w2 : World) : Prop :=
  ∃ q c, v2 = .slice q (ms.eraseIdx k).length c ∧ Below z w1 w2 ∧ ((q = none ∧ (ms.eraseIdx k).length = 0) ∨ ∃ g cur, q = some (⟨g, 0, none⟩ : Addr) ∧ z ≤ g ∧ Row w2 g cur 55 ∧ HoldsF (cur[·]?) (ms.eraseIdx k))
theorem erase_second (w1 : World) (b o c z : Nat) (hy : FrsAt w1 (some ⟨b, o, none⟩) ms) (h3 : ms.length ≤ 10) (k : Nat) (hk : k < ms.length) (v1 : Value) (hz : z ≤ w1.heap.size) (ho : w1.ownsRow z 55 3 v1 k (frVals (ms.take k))) (b' o' : Nat) (hbo : some (⟨b', o', none⟩ : Addr) = if c = k + 1 then some ⟨b, o, none⟩ else some ⟨b, o + (k + 1) * 3, none⟩) (hc : ms.length ≤ c) (ty : TypeId) :
    ∃ v2 w2, (Builtin.append_ #[23, 23] ty #[v1, .slice (some ⟨b', o', none⟩) (ms.length - (k + 1)) (c - (k + 1))]).run Try.prog w1 = .ok v2 w2 ∧ Erased ms k z w1 v2 w2 := by
  have hel : (ms.eraseIdx k).length = ms.length - 1 := by rw [List.length_eraseIdx]; simp [hk]
  have key : ∃ v2 w2, (Builtin.append_ #[23, 23] ty #[v1, .slice (some ⟨b', o', none⟩) (ms.length - (k + 1)) (c - (k + 1))]).run Try.prog w1 = .ok v2 w2 ∧ w2.ownsRow z 55 3 v2 (k + (ms.length - (k + 1))) (frVals (ms.take k ++ ms.drop (k + 1))) ∧ Below z w1 w2 := by
    by_cases hck : c = k + 1
    · rw [if_pos hck] at hbo
      cases hbo
      exact append_own_frames w1 z hz v1 k (ms.take k) (by rw [List.length_take]; omega) ho b o _ (ms.drop (k + 1)) (by rw [List.drop_eq_nil_of_le (by omega)]; intro i hi; simp at hi) _ (by rw [List.length_drop]) (by omega) _
    · rw [if_neg hck] at hbo
      cases hbo
      exact append_own_frames w1 z hz v1 k (ms.take k) (by rw [List.length_take]; omega) ho b (o + (k + 1) * 3) _ (ms.drop (k + 1)) (hy.drop (k + 1)) _ (by rw [List.length_drop]) (by omega) _
  obtain ⟨v2, w2, hr, ho2, hb⟩ := key
  rw [← List.eraseIdx_eq_take_drop_succ, show k + (ms.length - (k + 1)) = (ms.eraseIdx k).length by omega] at ho2
  refine ⟨v2, w2, hr, ?_⟩
  rcases ho2.2 with ⟨hv, hn⟩ | ⟨g, cap, cur, hv, hg0, hh, h2, h3, h4, h5⟩
  · exact ⟨none, 0, by rw [hv, hn], hb, .inl ⟨rfl, hn⟩⟩
  · refine ⟨some ⟨g, 0, none⟩, cap, hv, hb, .inr ⟨g, cur, rfl, hg0, hh, fun i hi => ?_⟩⟩
    obtain ⟨a0, a1, a2⟩ := frVals_at (ms.eraseIdx k) i hi
    exact ⟨cur_of_take h5 a0, cur_of_take h5 a1, cur_of_take h5 a2⟩
theorem second_less (hB : BkAt W0 pp (some ⟨fb, fo, none⟩) ps ms) (hok : BookOk ps (frsM ms)) {k : Nat} (hk : k < ms.length) {W2 w1 w2 : World} {c : Nat} {q : Option Addr} {F : Value} (hbx : W0.heap.size ≤ bx) (hxp : bx ≠ gp)
    (rx : Row W2 bx #[.slice (some ⟨gp, 0, none⟩) ps.length cq, F] 25) (rp : Row W2 gp curp t) (hp : HoldsP (curp[·]?) ps) (q0 : From W0 W2) (q1 : From W2 w1) (hb : Below W2.heap.size w1 w2)
    (hq : (q = none ∧ (ms.eraseIdx k).length = 0) ∨ ∃ g cur, q = some (⟨g, 0, none⟩ : Addr) ∧ W2.heap.size ≤ g ∧ Row w2 g cur 55 ∧ HoldsF (cur[·]?) (ms.eraseIdx k)) : Second W0 ps ms bx 1 (w2.setCell ⟨bx, 1, none⟩ (.slice q (ms.eraseIdx k).length c)) := by
  have q2 : From W2 w2 := ⟨q1.b.trans (hb.mono (Nat.le_refl _))⟩
  have hlt := rx.lt
  have qx : From W0 (w2.setCell ⟨bx, 1, none⟩ (.slice q (ms.eraseIdx k).length c)) := ⟨(q0.b.trans (q2.b.mono q0.b.size)).setCell hbx _⟩
  have hB2 := hB.below qx.b
  have hF : FrsAt (w2.setCell ⟨bx, 1, none⟩ (.slice q (ms.eraseIdx k).length c)) q (ms.eraseIdx k) := by
    rcases hq with ⟨rfl, hn⟩ | ⟨g, cur, rfl, hg, hr, hh⟩
    · intro i hi
      omega
    · refine frs_row (hr.set_other _ _ (by show g ≠ bx; omega)) hh fun i hi => ?_
      obtain ⟨j, hj, e⟩ := mem_erase_idx hi
      rw [e]
      obtain ⟨_, _, _, _, _, _, h⟩ := hB2.f j hj
      exact h
  have e := easier_less hok (k := k) (by rw [frsM_length]; exact hk)
  rw [← frsM_erase] at e
  exact second_of (m := 1) ((q2.row rx).set 1 _) (pts_row ((q2.row rp).set_other _ _ (by show gp ≠ bx; omega)) hp) hF e qx (by omega)
end
section
variable {W3 w0 : World} {bx zb nb gf : Nat} {x0 x1 z0 z1 a0 a1 a2 a3 : Value} {t1 t2 t3 : TypeId}
theorem need_held (rx : Row W3 bx #[x0, x1] t1) (rz : Row W3 zb #[z0, z1] t2) (rn : Row W3 nb #[a0, a1, a2, a3] t3) : ∀ w', From W3 w' → w'.cell? ⟨bx, 1, none⟩ = some x1 ∧ w'.cell? ⟨zb, 0, none⟩ = some z0 ∧ w'.cell? ⟨zb, 1, none⟩ = some z1 ∧ w'.cell? ⟨nb, 2, none⟩ = some a2 ∧ w'.cell? ⟨nb, 3, none⟩ = some a3 :=
  fun _ q => ⟨(q.row rx).cell 1 rfl, (q.row rz).cell 0 rfl, (q.row rz).cell 1 rfl, (q.row rn).cell 2 rfl, (q.row rn).cell 3 rfl⟩
theorem need_stored (rx : Row W3 bx #[x0, x1] t1) (rz : Row W3 zb #[z0, z1] t2) (rn : Row W3 nb #[a0, a1, a2, a3] t3) (h1 : bx ≠ gf) (h2 : zb ≠ gf) (h3 : nb ≠ gf) : ∀ w', From W3 w' → ∀ i j u v, ((w'.setCell ⟨gf, i, none⟩ u).setCell ⟨gf, j, none⟩ v).cell? ⟨bx, 1, none⟩ = some x1 ∧ ((w'.setCell ⟨gf, i, none⟩ u).setCell ⟨gf, j, none⟩ v).cell? ⟨zb, 0, none⟩ = some z0 ∧ ((w'.setCell ⟨gf, i, none⟩ u).setCell ⟨gf, j, none⟩ v).cell? ⟨zb, 1, none⟩ = some z1 ∧ ((w'.setCell ⟨gf, i, none⟩ u).setCell ⟨gf, j, none⟩ v).cell? ⟨nb, 2, none⟩ = some a2 ∧ ((w'.setCell ⟨gf, i, none⟩ u).setCell ⟨gf, j, none⟩ v).cell? ⟨nb, 3, none⟩ = some a3 := fun _ q i j u v =>
  have hx := ((q.row rx).set_other ⟨gf, i, none⟩ u h1).set_other ⟨gf, j, none⟩ v h1
  have hz := ((q.row rz).set_other ⟨gf, i, none⟩ u h2).set_other ⟨gf, j, none⟩ v h2
  have hn := ((q.row rn).set_other ⟨gf, i, none⟩ u h3).set_other ⟨gf, j, none⟩ v h3
  ⟨hx.cell 1 rfl, hz.cell 0 rfl, hz.cell 1 rfl, hn.cell 2 rfl, hn.cell 3 rfl⟩
theorem damp_held {pb po i : Nat} {hi : Value} {m0 m1 : Value} {mb : Nat} (rx : Row W3 bx #[x0, x1] t1) (rm : Row W3 mb #[m0, m1] t2) (rn : Row W3 nb #[a0, a1, a2, a3] t3) (hp : W3.cell? ⟨pb, po + i * 6 + 5, none⟩ = some hi) : ∀ w', From W3 w' → w'.cell? ⟨bx, 0, none⟩ = some x0 ∧ w'.cell? ⟨mb, 0, none⟩ = some m0 ∧ w'.cell? ⟨pb, po + i * 6 + 5, none⟩ = some hi ∧ w'.cell? ⟨nb, 3, none⟩ = some a3 :=
  fun _ q => ⟨(q.row rx).cell 0 rfl, (q.row rm).cell 0 rfl, q.cell hp, (q.row rn).cell 3 rfl⟩
theorem damp_stored {gp pb po k : Nat} {hi : Value} {m0 m1 : Value} {mb : Nat} (rx : Row W3 bx #[x0, x1] t1) (rm : Row W3 mb #[m0, m1] t2) (rn : Row W3 nb #[a0, a1, a2, a3] t3) (hp : W3.cell? ⟨pb, po + k * 6 + 5, none⟩ = some hi) (h1 : bx ≠ gp) (h2 : mb ≠ gp) (h3 : nb ≠ gp) (h4 : pb ≠ gp) : ∀ w', From W3 w' → ∀ i j u v, ((w'.setCell ⟨gp, i, none⟩ u).setCell ⟨gp, j, none⟩ v).cell? ⟨bx, 0, none⟩ = some x0 ∧ ((w'.setCell ⟨gp, i, none⟩ u).setCell ⟨gp, j, none⟩ v).cell? ⟨mb, 0, none⟩ = some m0 ∧ ((w'.setCell ⟨gp, i, none⟩ u).setCell ⟨gp, j, none⟩ v).cell? ⟨pb, po + k * 6 + 5, none⟩ = some hi ∧ ((w'.setCell ⟨gp, i, none⟩ u).setCell ⟨gp, j, none⟩ v).cell? ⟨nb, 3, none⟩ = some a3 := fun _ q i j u v =>
  have hx := ((q.row rx).set_other ⟨gp, i, none⟩ u h1).set_other ⟨gp, j, none⟩ v h1
  have hz := ((q.row rm).set_other ⟨gp, i, none⟩ u h2).set_other ⟨gp, j, none⟩ v h2
  have hn := ((q.row rn).set_other ⟨gp, i, none⟩ u h3).set_other ⟨gp, j, none⟩ v h3
  ⟨hx.cell 0 rfl, hz.cell 0 rfl, by rw [World.cell?_setCell_far _ _ _ _ (fun e => h4 e.symm), World.cell?_setCell_far _ _ _ _ (fun e => h4 e.symm)]; exact q.cell hp, hn.cell 3 rfl⟩
end
end Go.Proofs.Ytfppcmechfjpoaa
