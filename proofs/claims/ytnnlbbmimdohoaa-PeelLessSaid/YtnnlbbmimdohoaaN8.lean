/- A knot less, or more that is known: the law returns true, whatever the log and the numbers. -/
import Derived.Test.YtnnlbbmimdohoaaT8
namespace Go.Proofs.Ytnnlbbmimdohoaa
open Go.RowKit Go.Maps
attribute [local go_sem] Oper.semAt_some

/-- What the law keeps. -/
structure LInv (p1 : Option Addr) (c1 : Nat) (p2 : Option Addr) (c2 : Nat) (long : List Int) (sz : Int) (ks : List K4) (n0 n1 n2 n3 : Int) (l nb : Nat) (w0 w : World) : Prop where
  rl : Row w l #[.slice p1 long.length c1, .int .i64 sz, .slice p2 ks.length c2] 25
  rn : Row w nb #[.int .i64 n0, .int .i64 n1, .int .i64 n2, .int .i64 n3] 58
  hl : LogAt w0 p1 p2 long ks
  hb : Below w0.heap.size w0 w
  ln : w0.heap.size ≤ l ∧ w0.heap.size ≤ nb
section
variable {p1 : Option Addr} {c1 : Nat} {p2 : Option Addr} {c2 : Nat} {long : List Int} {sz : Int} {ks : List K4} {n0 n1 n2 n3 : Int} {l nb : Nat} {w0 w w' : World}
theorem LInv.log (h : LInv p1 c1 p2 c2 long sz ks n0 n1 n2 n3 l nb w0 w) : LogAt w p1 p2 long ks := h.hl.below h.hb
theorem LInv.below (h : LInv p1 c1 p2 c2 long sz ks n0 n1 n2 n3 l nb w0 w) (hb : Below w.heap.size w w') : LInv p1 c1 p2 c2 long sz ks n0 n1 n2 n3 l nb w0 w' := ⟨h.rl.below hb h.rl.lt, h.rn.below hb h.rn.lt, h.hl, h.hb.trans (hb.mono h.hb.size), h.ln⟩
theorem LInv.drew (h : LInv p1 c1 p2 c2 long sz ks n0 n1 n2 n3 l nb w0 w) : LInv p1 c1 p2 c2 long sz ks n0 n1 n2 n3 l nb w0 w.drew := ⟨h.rl.drew, h.rn.drew, h.hl, h.hb.drew, h.ln⟩
theorem LInv.alloc (h : LInv p1 c1 p2 c2 long sz ks n0 n1 n2 n3 l nb w0 w) (o : Obj) : LInv p1 c1 p2 c2 long sz ks n0 n1 n2 n3 l nb w0 (w.alloc o) := ⟨h.rl.alloc o, h.rn.alloc o, h.hl, h.hb.alloc h.hb.size o, h.ln⟩
theorem LInv.set (h : LInv p1 c1 p2 c2 long sz ks n0 n1 n2 n3 l nb w0 w) (a : Addr) (v : Value) (h1 : l < a.block) (h2 : nb < a.block) : LInv p1 c1 p2 c2 long sz ks n0 n1 n2 n3 l nb w0 (w.setCell a v) := ⟨h.rl.set_other _ _ (by omega), h.rn.set_other _ _ (by omega), h.hl, h.hb.setCell (by have := h.ln; omega) v, h.ln⟩
end

theorem append_own_knots (w : World) (base : Nat) (hbase : base ≤ w.heap.size) (v : Value) (n : Nat) (xs : List K4) (_hn : xs.length = n) (hown : w.ownsRow base 61 4 v n (knotVals xs)) (b o c' : Nat) (ys : List K4) (hy : KnotsAt w (some ⟨b, o, none⟩) ys) (m : Nat) (hm : ys.length = m) (hlen : n + m ≤ 10) (ty : TypeId) :
    ∃ v' w', (Builtin.append_ #[23, 23] ty #[v, .slice (some ⟨b, o, none⟩) m c']).run Try.prog w = .ok v' w' ∧ w'.ownsRow base 61 4 v' (n + m) (knotVals (xs ++ ys)) ∧ Below base w w' := by
  obtain ⟨i0, hi, hi0, hi1, hi2⟩ := info_parts Try.infoKnot
  obtain ⟨v', w', hr, ho, hg, _⟩ := run_append_own (P := Try.prog) w base 23 ty 61 i0 _ 4 32 Try.underlying23 hi hi0 hi1 hi2 rfl (by decide) v n (knotVals xs) hown ⟨b, o, none⟩ m c' (knotVals ys) (by rw [knotVals_length, hm]) (fun j u h => by rw [Addr.add_lit]; exact hy.cells j u h) (knotVals_one ys) (by unfold maxLen; omega) (by omega) hbase
  rw [← knotVals_append] at ho
  exact ⟨v', w', hr, ho, (Below.refl base w).grown hg hbase (fun k hk => (hown.lt k hk).1)⟩
theorem knots_of_owns_far {w : World} {base : Nat} {v : Value} {n : Nat} {ks : List K4} (hn : ks.length = n) (h : w.ownsRow base 61 4 v n (knotVals ks)) :
    ∃ p c, v = .slice p n c ∧ n ≤ c ∧ (∀ bq oq, p = some ⟨bq, oq, none⟩ → base ≤ bq) ∧ ∀ w1 : World, (∀ g, base ≤ g → g < w.heap.size → w1.heap[g]? = w.heap[g]?) → KnotsAt w1 p ks := by
  obtain ⟨p, c, hv, hc, hk⟩ := knots_of_owns hn h
  refine ⟨p, c, hv, hc, ?_, hk⟩
  intro bq oq e
  rcases h.2 with ⟨hv2, _⟩ | ⟨g, cap, cur, hv2, hg, _⟩
  · rw [hv, e] at hv2; cases hv2
  · rw [hv, e] at hv2
    simp at hv2
    omega
theorem KnotsAt.lt {w : World} {q : Option Addr} {ys : List K4} (h : KnotsAt w q ys) (hne : ys ≠ []) {bq oq : Nat} (e : q = some ⟨bq, oq, none⟩) : bq < w.heap.size := by
  obtain ⟨b', o', e', h0, _⟩ := h 0 (List.length_pos_iff.2 hne)
  rw [e] at e'
  cases e'
  exact cell_block h0
theorem KnotsAt.set_other {w : World} {q : Option Addr} {ys : List K4} (h : KnotsAt w q ys) (a : Addr) (v : Value) (hne : ys ≠ [] → ∀ bq oq, q = some ⟨bq, oq, none⟩ → bq ≠ a.block) : KnotsAt (w.setCell a v) q ys := by
  intro i hi
  obtain ⟨b', o', e, h0, h1, h2, h3⟩ := h i hi
  have hb := hne (fun h => by rw [h] at hi; simp at hi) b' o' e
  have key : ∀ o2, (w.setCell a v).cell? ⟨b', o2, none⟩ = w.cell? ⟨b', o2, none⟩ := fun o2 => World.cell?_setCell_far w a _ v (fun e2 => hb e2.symm)
  exact ⟨b', o', e, by rw [key]; exact h0, by rw [key]; exact h1, by rw [key]; exact h2, by rw [key]; exact h3⟩
/-- What the law keeps, once all copies are made. -/
structure KInv (p1 : Option Addr) (c1 : Nat) (p2 : Option Addr) (c2 : Nat) (long : List Int) (sz : Int) (ks : List K4) (n0 n1 n2 n3 : Int) (l nb : Nat) (k g1 g2 g3 cap cq : Nat) (q : Option Addr) (cur : Array Value) (w0 w : World) : Prop where
  li : LInv p1 c1 p2 c2 long sz ks n0 n1 n2 n3 l nb w0 w
  r1 : Row w g1 #[.slice p1 long.length c1, .int .i64 sz, .slice q (ks.eraseIdx k).length cq] 25
  kq : KnotsAt w q (ks.eraseIdx k)
  r2 : Row w g2 #[.slice p1 long.length c1, .int .i64 sz, .slice (some ⟨g3, 0, none⟩) ks.length cap] 25
  r3 : Row w g3 cur 61
  e1 : g3 ≠ g1
  e2 : g3 ≠ g2
  e3 : l < g3
  e4 : nb < g3
  e5 : ks.eraseIdx k ≠ [] → ∀ bq oq, q = some ⟨bq, oq, none⟩ → bq ≠ g3
section
variable {p1 : Option Addr} {c1 : Nat} {p2 : Option Addr} {c2 : Nat} {long : List Int} {sz : Int} {ks : List K4} {n0 n1 n2 n3 : Int} {l nb k g1 g2 g3 cap cq : Nat} {q : Option Addr} {cur : Array Value} {w0 w w' : World}
theorem KInv.below (h : KInv p1 c1 p2 c2 long sz ks n0 n1 n2 n3 l nb k g1 g2 g3 cap cq q cur w0 w) (hb : Below w.heap.size w w') : KInv p1 c1 p2 c2 long sz ks n0 n1 n2 n3 l nb k g1 g2 g3 cap cq q cur w0 w' := ⟨h.li.below hb, h.r1.below hb h.r1.lt, h.kq.below hb, h.r2.below hb h.r2.lt, h.r3.below hb h.r3.lt, h.e1, h.e2, h.e3, h.e4, h.e5⟩
theorem KInv.drew (h : KInv p1 c1 p2 c2 long sz ks n0 n1 n2 n3 l nb k g1 g2 g3 cap cq q cur w0 w) : KInv p1 c1 p2 c2 long sz ks n0 n1 n2 n3 l nb k g1 g2 g3 cap cq q cur w0 w.drew := ⟨h.li.drew, h.r1.drew, h.kq, h.r2.drew, h.r3.drew, h.e1, h.e2, h.e3, h.e4, h.e5⟩
theorem KInv.set (h : KInv p1 c1 p2 c2 long sz ks n0 n1 n2 n3 l nb k g1 g2 g3 cap cq q cur w0 w) (i : Nat) (v : Value) : KInv p1 c1 p2 c2 long sz ks n0 n1 n2 n3 l nb k g1 g2 g3 cap cq q (cur.setIfInBounds i v) w0 (w.setCell ⟨g3, i, none⟩ v) := ⟨h.li.set _ _ h.e3 h.e4, h.r1.set_other _ _ (fun e => h.e1 e.symm), h.kq.set_other _ _ h.e5, h.r2.set_other _ _ (fun e => h.e2 e.symm), h.r3.set i v, h.e1, h.e2, h.e3, h.e4, h.e5⟩
theorem KInv.s {b o : Nat} (h : KInv p1 c1 (some ⟨b, o, none⟩) c2 long sz ks n0 n1 n2 n3 l nb k g1 g2 g3 cap cq q cur w0 w) (hk : k < ks.length) : w.cell? ⟨g2, 2, none⟩ = some (.slice (some ⟨g3, 0, none⟩) ks.length cap) ∧ w.cell? ⟨l, 2, none⟩ = some (.slice (some ⟨b, o, none⟩) ks.length c2) ∧ w.cell? ⟨b, o + k * 4, none⟩ = some (.int .i64 ks[k].al) ∧ w.cell? ⟨b, o + k * 4 + 1, none⟩ = some (.int .i64 ks[k].ah) ∧ w.cell? ⟨b, o + k * 4 + 2, none⟩ = some (.int .i64 ks[k].fl) ∧ w.cell? ⟨b, o + k * 4 + 3, none⟩ = some (.int .i64 ks[k].fh) ∧ w.cell? ⟨nb, 1, none⟩ = some (.int .i64 n1) ∧ w.cell? ⟨nb, 2, none⟩ = some (.int .i64 n2) := by
  obtain ⟨b', o', e, h0, h1, h2, h3⟩ := h.li.log.k k hk
  cases e
  exact ⟨h.r2.cell 2 rfl, h.li.rl.cell 2 rfl, h0, h1, h2, h3, h.li.rn.cell 1 rfl, h.li.rn.cell 2 rfl⟩
theorem KInv.t (h : KInv p1 c1 p2 c2 long sz ks n0 n1 n2 n3 l nb k g1 g2 g3 cap cq q cur w0 w) (ht : cur.toList.take (ks.length * 4) = knotVals ks) (hk : k < ks.length) : w.cell? ⟨g3, k * 4, none⟩ = some (.int .i64 ks[k].al) := by
  have a0 := (knotVals_at hk).1
  rw [← ht, List.getElem?_take_of_lt (by omega)] at a0
  exact h.r3.cell _ (by simpa using a0)
theorem KInv.t3 {v : Value} (h : KInv p1 c1 p2 c2 long sz ks n0 n1 n2 n3 l nb k g1 g2 g3 cap cq q (cur.setIfInBounds (k * 4) v) w0 w) (ht : cur.toList.take (ks.length * 4) = knotVals ks) (hk : k < ks.length) : w.cell? ⟨g3, k * 4 + 3, none⟩ = some (.int .i64 ks[k].fh) := by
  have a0 := (knotVals_at hk).2.2.2
  rw [← ht, List.getElem?_take_of_lt (by omega)] at a0
  refine h.r3.cell _ ?_
  rw [Array.getElem?_setIfInBounds_ne (by omega)]
  simpa using a0
end
theorem size_valid {long : List Int} {sz sl : Int} {ks : List K4} (h : validB long sz ks = true) (h1 : 1 ≤ sl) (h6 : sl ≤ 6) : validB long sl ks = true := by
  simp only [validB, Bool.and_eq_true, decide_eq_true_eq] at h ⊢
  obtain ⟨⟨⟨⟨⟨⟨a, b⟩, _⟩, _⟩, e⟩, f⟩, g⟩ := h
  exact ⟨⟨⟨⟨⟨⟨a, b⟩, h1⟩, h6⟩, e⟩, f⟩, g⟩
theorem erase_valid {long : List Int} {sz : Int} {ks : List K4} (h : validB long sz ks = true) (k : Nat) : validB long sz (ks.eraseIdx k) = true := by
  simp only [validB, Bool.and_eq_true, decide_eq_true_eq] at h ⊢
  obtain ⟨⟨⟨⟨⟨⟨a, b⟩, c⟩, d⟩, e⟩, f⟩, g⟩ := h
  refine ⟨⟨⟨⟨⟨⟨a, b⟩, c⟩, d⟩, by rw [List.length_eraseIdx]; split <;> omega⟩, f⟩, ?_⟩
  rw [List.all_eq_true] at g ⊢
  exact fun y hy => g y (List.mem_of_mem_eraseIdx hy)
/-- A knot of which more is known. -/
def knownK (k : K4) (n1 n2 : Int) : K4 := ⟨drawn k.al k.ah n1, k.ah, k.fl, drawn k.fl k.fh n2⟩
theorem knownK_in {k : K4} (h : K4Ok k) (n1 n2 : Int) : k.al ≤ drawn k.al k.ah n1 ∧ drawn k.al k.ah n1 ≤ k.ah ∧ k.fl ≤ drawn k.fl k.fh n2 ∧ drawn k.fl k.fh n2 ≤ k.fh := by
  have h1 := drawn_in (n := n1) h.a0 h.a (by have := h.a1; omega)
  have h2 := drawn_in (n := n2) h.f0 h.f (by have := h.f1; omega)
  omega
theorem known_places {k : K4} (h : K4Ok k) (n1 n2 : Int) {p : Int × Int} (hp : p ∈ placesL (knownK k n1 n2)) : p ∈ placesL k := by
  obtain ⟨a1, a2, a3, a4⟩ := places_in hp
  have := knownK_in h n1 n2
  simp only [knownK] at a1 a2 a3 a4
  exact mem_places (by omega) (by omega) (by omega) (by omega)
theorem known_valid {long : List Int} {sz : Int} {ks : List K4} (h : validB long sz ks = true) {k : Nat} (hk : k < ks.length) (n1 n2 : Int) : validB long sz (ks.set k (knownK ks[k] n1 n2)) = true := by
  have hv := valid_ok h
  simp only [validB, Bool.and_eq_true, decide_eq_true_eq] at h ⊢
  obtain ⟨⟨⟨⟨⟨⟨a, b⟩, c⟩, d⟩, e⟩, f⟩, g⟩ := h
  refine ⟨⟨⟨⟨⟨⟨a, b⟩, c⟩, d⟩, by rw [List.length_set]; exact e⟩, f⟩, ?_⟩
  rw [List.all_eq_true] at g ⊢
  intro y hy
  rcases List.mem_or_eq_of_mem_set hy with hy | rfl
  · exact g y hy
  · have hm := List.getElem_mem hk
    have hi := knownK_in (hv.ok _ hm) n1 n2
    have h1 := hv.ok _ hm
    have h2 := hv.fh _ hm
    have h3 := hv.aw _ hm
    have h4 := hv.fw _ hm
    obtain ⟨x1, x2, x3, x4, x5, x6⟩ := h1
    have e0 : wrap64 ((long.length : Int) + 1) = long.length + 1 := IntWalk.wrap64_in _ (by omega)
    have e1 : wrap64 (ks[k].ah - drawn ks[k].al ks[k].ah n1) = ks[k].ah - drawn ks[k].al ks[k].ah n1 := IntWalk.wrap64_in _ (by omega)
    have e2 : wrap64 (drawn ks[k].fl ks[k].fh n2 - ks[k].fl) = drawn ks[k].fl ks[k].fh n2 - ks[k].fl := IntWalk.wrap64_in _ (by omega)
    simp only [knownK, kvalidB, showsB, narrowB, e0, e1, e2, Bool.and_eq_true, decide_eq_true_eq]
    clear e0 e1 e2
    (repeat' apply And.intro) <;> first | omega | (apply decide_eq_true; omega)
theorem best_erase {long : List Int} {sz : Int} (h1 : 1 ≤ sz) {ks : List K4} (k : Nat) : (bestD long sz ks).length ≤ (bestD long sz (ks.eraseIdx k)).length :=
  cutD_mono h1 fun i hi => reachD_mono (ks := ks.eraseIdx k) (ks' := ks) (fun y hy _ hp => ⟨y, List.mem_of_mem_eraseIdx hy, hp⟩) i hi
theorem best_known {long : List Int} {sz : Int} {ks : List K4} (hv : LogOk long sz ks) {k : Nat} (hk : k < ks.length) (n1 n2 : Int) : (bestD long sz ks).length ≤ (bestD long sz (ks.set k (knownK ks[k] n1 n2))).length :=
  cutD_mono hv.s1 fun i hi => reachD_mono (ks := ks.set k (knownK ks[k] n1 n2)) (ks' := ks) (fun y hy p hp => by
    rcases List.mem_or_eq_of_mem_set hy with hy | rfl
    · exact ⟨y, hy, hp⟩
    · exact ⟨ks[k], List.getElem_mem hk, known_places (hv.ok _ (List.getElem_mem hk)) n1 n2 hp⟩) i hi
theorem hope_known {long : List Int} {sz : Int} {ks : List K4} (hv : LogOk long sz ks) {k : Nat} (hk : k < ks.length) (n1 n2 : Int) : hopeD long sz (ks.set k (knownK ks[k] n1 n2)) ≤ hopeD long sz ks := by
  rcases (maxF ((truthsD long (ks.set k (knownK ks[k] n1 n2))).map fun kn => ((cutD long sz kn).length : Int)) 0).2.2 with h | h
  · have e : hopeD long sz (ks.set k (knownK ks[k] n1 n2)) = 0 := h
    have := (hopeD_range hv).1
    omega
  · obtain ⟨kn, hm, e⟩ := List.mem_map.1 h
    have hm2 : kn ∈ truthsD long ks := truthsL_mono _ _ _ List.length_set (fun j hj hj' p hp => by
      rw [List.getElem_set] at hp
      split at hp
      · rename_i he
        subst he
        exact known_places (hv.ok _ (List.getElem_mem hk)) n1 n2 hp
      · exact hp) kn hm
    have h2 := hope_ge (sz := sz) hm2
    have e2 : hopeD long sz (ks.set k (knownK ks[k] n1 n2)) = ((cutD long sz kn).length : Int) := e.symm
    omega
theorem knots_known {w : World} {ks : List K4} {cur : Array Value} {g k : Nat} {n1 n2 : Int} (hk : k < ks.length) (hg : Row w g ((cur.setIfInBounds (k * 4) (.int .i64 (drawn ks[k].al ks[k].ah n1))).setIfInBounds (k * 4 + 3) (.int .i64 (drawn ks[k].fl ks[k].fh n2))) 61) (ht : cur.toList.take (ks.length * 4) = knotVals ks) : KnotsAt w (some ⟨g, 0, none⟩) (ks.set k (knownK ks[k] n1 n2)) := by
  refine knots_of_cells fun i u hi => ?_
  rw [Nat.zero_add]
  refine hg.cell i ?_
  have hlt : i < ks.length * 4 := by
    have := (List.getElem?_eq_some_iff.1 hi).1
    rwa [knotVals_length, List.length_set] at this
  have hs : knotVals (ks.set k (knownK ks[k] n1 n2)) = ((knotVals ks).set (k * 4) (.int .i64 (drawn ks[k].al ks[k].ah n1))).set (k * 4 + 3) (.int .i64 (drawn ks[k].fl ks[k].fh n2)) := by
    obtain ⟨_, a1, a2, _⟩ := knotVals_at hk
    rw [knotVals_set]
    simp only [knownK]
    congr 1
    apply List.ext_getElem?
    intro i
    by_cases e2 : k * 4 + 2 = i
    · subst e2
      rw [List.getElem?_set_self (by simp; rw [knotVals_length]; omega), List.getElem?_set_ne (by omega), a2]
    · rw [List.getElem?_set_ne e2]
      by_cases e1 : k * 4 + 1 = i
      · subst e1
        rw [List.getElem?_set_self (by simp; rw [knotVals_length]; omega), List.getElem?_set_ne (by omega), a1]
      · rw [List.getElem?_set_ne e1]
  rw [hs, ← ht, ← List.take_set, ← List.take_set, List.getElem?_take_of_lt hlt] at hi
  rw [← Array.getElem?_toList]
  simpa using hi
/-- Longer pieces, no more of them. -/
theorem best_longer {long : List Int} {sz sl : Int} {ks : List K4} (h1 : 1 ≤ sz) (h : sz ≤ sl) : (bestD long sl ks).length ≤ (bestD long sz ks).length := by
  unfold bestD cutD
  refine greedy_mono (by omega) (by omega) ?_
  intro i hi
  rw [b0_wholesD] at hi ⊢
  exact ⟨hi.1, by omega, fun j hj => hi.2.2 j (by omega)⟩

set_option maxRecDepth 10000 in
set_option maxHeartbeats 1600000 in
theorem PeelLess_any (p1 : Option Addr) (c1 : Nat) (p2 : Option Addr) (c2 : Nat) (long : List Int) (sz : Int) (ks : List K4) (w0 : World) (h : LogAt w0 p1 p2 long ks) (hcap : ks.length ≤ c2) (n0 n1 n2 n3 : Int) :
    Calls Try.prog 10 #[.agg #[.slice p1 long.length c1, .int .i64 sz, .slice p2 ks.length c2], .agg #[.int .i64 n0, .int .i64 n1, .int .i64 n2, .int .i64 n3]] w0 fun e w' => e = .returned (.bool true) ∧ Below w0.heap.size w0 w' := by
  go_enter Try.func10, Try.ntmps10
  have h0 : LInv p1 c1 p2 c2 long sz ks n0 n1 n2 n3 w0.heap.size (w0.heap.size + 1) w0 ((w0.alloc (.cells #[.slice p1 long.length c1, .int .i64 sz, .slice p2 ks.length c2] 25)).alloc (.cells #[.int .i64 n0, .int .i64 n1, .int .i64 n2, .int .i64 n3] 58)) :=
    ⟨(Row.new _ _ _).alloc _, Row.new' (by simp) _ _, h, (below_alloc _ _).alloc (by simp) _, by omega⟩
  have L0 := Lib.hid h0
  clear h h0
  cases hb : validB long sz ks
  · go_wp2_with (first | (refine (sound_no p1 c1 p2 c2 long sz ks _ L0.out.log hb).mono ?_; rintro e w1 ⟨rfl, hb1⟩; have HB := Lib.hid (L0.out.below hb1).hb; clear hb1) | (refine (peeled_any _).mono ?_; rintro e w2 ⟨rfl, hb2⟩))
    go_ret
    exact ⟨rfl, HB.out.trans (hb2.mono HB.out.size)⟩
  · have hok := valid_ok hb
    have hk3 := hok.k3
    have hs1 := hok.s1
    have hs6 := hok.s6
    go_wp2_with fail
    refine (sound_yes p1 c1 p2 c2 long sz ks _ L0.out.log hb).mono ?_
    rintro e w1 ⟨rfl, hb1⟩
    have L1 := Lib.hid (L0.out.below hb1)
    clear hb1 L0
    go_wp2_with (first | (refine load_row rfl 25 _ rfl _ rfl 25 _ _ L1.out.rl Try.underlying25 rfl (by kernel_rfl) ?_))
    refine (Best_good p1 c1 p2 c2 long sz ks _ L1.out.log hb).mono ?_
    rintro e w2 ⟨pb, cb, rfl, _, hb2⟩
    have L2 := Lib.hid (L1.out.below hb2)
    clear hb2 L1
    go_wp2_with (first | (refine load_row rfl 25 _ rfl _ rfl 25 _ _ L2.out.rl Try.underlying25 rfl (by kernel_rfl) ?_))
    refine (Hope_good p1 c1 p2 c2 long sz ks _ L2.out.log hb).mono ?_
    rintro e w3 ⟨rfl, hb3⟩
    have L3 := Lib.hid (L2.out.below hb3)
    clear hb3 L2
    have hsp := spin_range n3 2 (by omega)
    have e1 : IntKind.i64.wrap (sz + 1) = sz + 1 := IntWalk.i64_in _ (by omega)
    have e2 : IntKind.i64.wrap (sz + 1 + spin n3 2) = sz + 1 + spin n3 2 := IntWalk.i64_in _ (by omega)
    have hlt := L3.out.rl.lt
    have hnt := L3.out.rn.lt
    go_wp2_with (first | (refine load_row rfl 25 _ rfl _ rfl 25 _ _ L3.out.rl Try.underlying25 rfl (by kernel_rfl) ?_))
    have L4 := Lib.hid (L3.out.alloc (.cells #[.slice p1 long.length c1, .int .i64 sz, .slice p2 ks.length c2] 25))
    have X4 := Lib.hid (Row.new w3 #[.slice p1 long.length c1, .int .i64 sz, .slice p2 ks.length c2] 25)
    generalize w3.alloc (.cells #[.slice p1 long.length c1, .int .i64 sz, .slice p2 ks.length c2] 25) = w4 at *
    generalize w3.heap.size = x at *
    have LD := Lib.hid L4.out.drew
    have hs0 : w4.cell? ⟨w0.heap.size, 1, none⟩ = some (.int .i64 sz) ∧ w4.cell? ⟨w0.heap.size + 1, 3, none⟩ = some (.int .i64 n3) := ⟨L4.out.rl.cell 1 rfl, L4.out.rn.cell 3 rfl⟩
    have hs1' : ∀ v, (w4.drew.setCell ⟨x, 1, none⟩ v).cell? ⟨w0.heap.size, 1, none⟩ = some (.int .i64 sz) ∧ (w4.drew.setCell ⟨x, 1, none⟩ v).cell? ⟨w0.heap.size + 1, 3, none⟩ = some (.int .i64 n3) := fun v => by
      have h := LD.out.set ⟨x, 1, none⟩ v (by dsimp only; omega) (by dsimp only; omega)
      exact ⟨h.rl.cell 1 rfl, h.rn.cell 3 rfl⟩
    have HS1 := Lib.hid hs1'
    have x1 := X4.out.cell 1 (v := .int .i64 sz) rfl
    have x1f := X4.out.free 1
    have HX1 := Lib.hid (fun V hV => by rw [← hV]; exact (X4.out.set 1 (.int .i64 V)).drew : ∀ V : Int, V = min 6 (sz + 1 + spin n3 2) → Row (w4.setCell ⟨x, 1, none⟩ (.int .i64 V)).drew x #[.slice p1 long.length c1, .int .i64 (min 6 (sz + 1 + spin n3 2)), .slice p2 ks.length c2] 25)
    clear hs1'
    go_cut [] from 20 to 173 (fun wx => LInv p1 c1 p2 c2 long sz ks n0 n1 n2 n3 w0.heap.size (w0.heap.size + 1) w0 wx ∧ Row wx x #[.slice p1 long.length c1, .int .i64 (min 6 (sz + 1 + spin n3 2)), .slice p2 ks.length c2] 25)
    case first =>
      go_region_held3 (fun w' => w'.cell? ⟨w0.heap.size, 1, none⟩ = some (.int .i64 sz) ∧ w'.cell? ⟨w0.heap.size + 1, 3, none⟩ = some (.int .i64 n3)) (first | exact hs0 | exact HS1.out _)
        (first | (go_at_call 49; refine (Spin_any _ _ _ ⟨by omega, by omega⟩).mono ?_; rintro e u ⟨rfl, rfl⟩))
      all_goals
        go_wp2_with fail
        all_goals
          go_meet
          exact ⟨(L4.out.set ⟨x, 1, none⟩ _ (by dsimp only; omega) (by dsimp only; omega)).drew, HX1.out _ (by first | omega | (split <;> omega))⟩
    case rest =>
      obtain ⟨cl, cx⟩ := hcut
      have L5 := Lib.hid cl
      have X5 := Lib.hid cx
      clear cl cx L4 X4 LD hs0 HS1 HX1 x1 x1f L3 e1 e2
      generalize hsl : min 6 (sz + 1 + spin n3 2) = sl at *
      have hsl1 : sz ≤ sl ∧ sl ≤ 6 := by omega
      have hvl := size_valid hb (show 1 ≤ sl by omega) hsl1.2
      have hbl := best_longer (ks := ks) (long := long) hs1 hsl1.1
      clear hsl hsp
      go_wp2_with (first | (refine load_row rfl 25 _ rfl _ rfl 25 _ _ X5.out Try.underlying25 rfl (by kernel_rfl) ?_))
      refine (Best_good p1 c1 p2 c2 long sl ks _ L5.out.log hvl).mono ?_
      generalize (bestD long sl ks) = bestl at *
      rintro e w6 ⟨pl, cl, rfl, _, hb6⟩
      have L6 := Lib.hid (L5.out.below hb6)
      clear hb6 L5 X5 hvl
      have k2 := L6.out.rl.cell 2 (v := .slice p2 ks.length c2) rfl
      by_cases hk0 : ks.length = 0
      · have hk2 : ((ks.length : Int) == 0) = true := by rw [hk0]; rfl
        have HK0 := Lib.hid hk0
        clear hk0
        go_wp2_with (first | (refine (peeled_any _).mono ?_; rintro e w7 ⟨rfl, hb7⟩))
        all_goals first | (go_ret; exact ⟨rfl, L6.out.hb.trans (hb7.mono L6.out.hb.size)⟩) | (exfalso; have := HK0.out; omega)
      · have hk2 : ((ks.length : Int) == 0) = false := by simp; simpa using hk0
        have hsp := spin_range n0 ks.length (by omega)
        obtain ⟨k, hkk⟩ : ∃ k : Nat, spin n0 ks.length = k := ⟨(spin n0 ks.length).toNat, by omega⟩
        have hkl : k < ks.length := by omega
        have n0c := L6.out.rn.cell 0 (v := .int .i64 n0) rfl
        have HSPN := Lib.hid (show Calls Try.prog 49 #[.int .i64 n0, .int .i64 (ks.length : Int)] w6 fun e w' => e = .returned (.int .i64 (k : Int)) ∧ w6 = w' from by have h := Spin_any n0 ks.length w6 ⟨by omega, by omega⟩; rw [hkk] at h; exact h)
        clear hsp hkk
        go_wp2_with (first | (refine HSPN.out.mono ?_; rintro e u ⟨rfl, rfl⟩))
        have HKL := Lib.hid hkl
        have hlt6 := L6.out.rl.lt
        have hnt6 := L6.out.rn.lt
        have c0 := L6.out.rl.cell 0 (v := .slice p1 long.length c1) rfl
        have c1' := L6.out.rl.cell 1 (v := .int .i64 sz) rfl
        have q0 := World.new_ne _ _ c0
        have q1 := World.new_ne _ _ c1'
        have q2 := World.new_ne _ _ k2
        clear HSPN n0c hk2 hk0 hkl
        go_cut [13, 14] from 20 to 173 (fun s13 s14 wx => ∃ g1 g2, s13 = .pointer (some ⟨g1, 0, none⟩) ∧ s14 = .pointer (some ⟨g2, 0, none⟩) ∧ g1 ≠ g2 ∧ w0.heap.size + 1 < g1 ∧ w0.heap.size + 1 < g2 ∧ LInv p1 c1 p2 c2 long sz ks n0 n1 n2 n3 w0.heap.size (w0.heap.size + 1) w0 wx ∧ Row wx g1 #[.slice p1 long.length c1, .int .i64 sz, .slice p2 ks.length c2] 25 ∧ Row wx g2 #[.slice p1 long.length c1, .int .i64 sz, .slice p2 ks.length c2] 25)
        case first =>
          go_region_held3 (fun w' => w'.cell? ⟨w0.heap.size, 0, none⟩ = some (.slice p1 long.length c1) ∧ w'.cell? ⟨w0.heap.size, 1, none⟩ = some (.int .i64 sz) ∧ w'.cell? ⟨w0.heap.size, 2, none⟩ = some (.slice p2 ks.length c2)) (go_keep) (fail)
          all_goals
            go_wp2_with fail
            go_meet
            first
              | exact ⟨_, _, rfl, rfl, by omega, by omega, by omega, ((L6.out.alloc _).alloc _).drew, ((Row.new _ _ _).alloc _).drew, (Row.new' (by simp) _ _).drew⟩
              | exact ⟨_, _, rfl, rfl, by omega, by omega, by omega, ((L6.out.alloc _).alloc _).drew, (Row.new' (by simp) _ _).drew, ((Row.new _ _ _).alloc _).drew⟩
        case rest =>
          obtain ⟨g1, g2, rfl, rfl, hne, hg1, hg2, l7, r1, r2⟩ := hcut
          have L7 := Lib.hid l7
          have R1 := Lib.hid r1
          have R2 := Lib.hid r2
          have hg1z := r1.lt
          have hg2z := r2.lt
          clear l7 r1 r2 L6 c0 c1' k2 q0 q1 q2 hlt6 hnt6 hlt hnt
          generalize w6.heap.size = z6 at *
          generalize wc = w7 at *
          have hkl := HKL.out
          obtain ⟨b, o, rfl, _⟩ := L7.out.log.k k hkl
          have k2 := L7.out.rl.cell 2 (v := .slice (some ⟨b, o, none⟩) ks.length c2) rfl
          have q2 := World.new_ne _ _ k2
          have i0 : (0 : Int) ≤ (k : Int) := by omega
          have i1 : (k : Int) ≤ (ks.length : Int) := by omega
          have i2 : (k : Int) ≤ (c2 : Int) := by omega
          have i3 : IntKind.i64.wrap ((k : Int) + 1) = (k : Int) + 1 := IntWalk.i64_in _ (by omega)
          have i4 : (0 : Int) ≤ (k : Int) + 1 := by omega
          have i5 : (k : Int) + 1 ≤ (ks.length : Int) := by omega
          have i6 : ((k : Int) + 1).toNat = k + 1 := by omega
          have i7 : (ks.length : Int) ≤ (c2 : Int) := by omega
          have i8 : (k : Int) + 1 ≤ (c2 : Int) := by omega
          go_wp2_with fail
          have hel : (ks.eraseIdx k).length = ks.length - 1 := by rw [List.length_eraseIdx]; simp [hkl]
          have hW1 : ((w7.alloc (.cells #[] 61)).drew).ownsRow w7.heap.size 61 4 (.slice (some ⟨w7.heap.size, 0, none⟩) 0 0) 0 (knotVals []) :=
            ⟨rfl, .inr ⟨w7.heap.size, 0, #[], rfl, Nat.le_refl _, Row.new w7 #[] 61, by omega, by unfold maxLen; omega, rfl, rfl⟩⟩
          have hb7 : Below w7.heap.size w7 (w7.alloc (.cells #[] 61)).drew := (below_alloc w7 _).drew
          have LA := L7.out.below hb7
          obtain ⟨v1, u1, hr1, ho1, hbu1⟩ := append_own_knots _ w7.heap.size (by simp [World.drew]) _ 0 [] rfl hW1 b o c2 (ks.take k) (LA.log.k.take k) k (by rw [List.length_take]; omega) (by omega) 23
          rw [List.nil_append, Nat.zero_add] at ho1
          have hb71 := hb7.trans hbu1
          have LB := L7.out.below hb71
          have HR1 := Lib.hid hr1
          have hz1 := hb71.size
          have HK1 := Lib.hid (LB.rl.cell 2 (v := .slice (some ⟨b, o, none⟩) ks.length c2) rfl)
          obtain ⟨b', o', hq2, v2, u2, hr2, ho2, hbu2⟩ : ∃ b' o', (some (⟨b', o', none⟩ : Addr) = if c2 = k + 1 then some ⟨b, o, none⟩ else some ⟨b, o + (k + 1) * 4, none⟩) ∧ ∃ v2 u2, (Builtin.append_ #[23, 23] 23 #[v1, .slice (some ⟨b', o', none⟩) (ks.length - (k + 1)) (c2 - (k + 1))]).run Try.prog u1 = .ok v2 u2 ∧ u2.ownsRow w7.heap.size 61 4 v2 (k + (ks.length - (k + 1))) (knotVals (ks.take k ++ ks.drop (k + 1))) ∧ Below w7.heap.size u1 u2 := by
            by_cases hck : c2 = k + 1
            · refine ⟨b, o, by rw [if_pos hck], ?_⟩
              exact append_own_knots u1 w7.heap.size hz1 v1 k (ks.take k) (by rw [List.length_take]; omega) ho1 b o _ (ks.drop (k + 1)) (by rw [List.drop_eq_nil_of_le (by omega)]; intro i hi; simp at hi) _ (by rw [List.length_drop]) (by omega) _
            · refine ⟨b, o + (k + 1) * 4, by rw [if_neg hck], ?_⟩
              exact append_own_knots u1 w7.heap.size hz1 v1 k (ks.take k) (by rw [List.length_take]; omega) ho1 b (o + (k + 1) * 4) _ (ks.drop (k + 1)) (LB.log.k.drop (k + 1)) _ (by rw [List.length_drop]) (by omega) _
          rw [← List.eraseIdx_eq_take_drop_succ, show k + (ks.length - (k + 1)) = (ks.eraseIdx k).length by omega] at ho2
          obtain ⟨qn, cn, rfl, hcn, hfar, hkn⟩ := knots_of_owns_far rfl ho2
          have hb72 := hb71.trans hbu2
          have LC := Lib.hid (L7.out.below hb72)
          have HR2 := Lib.hid hr2
          have HQ2 := Lib.hid hq2
          have HK2 := Lib.hid (LC.out.rl.cell 2 (v := .slice (some ⟨b, o, none⟩) ks.length c2) rfl)
          have R1C := Lib.hid (R1.out.below hb72 hg1z)
          have R2C := Lib.hid (R2.out.below hb72 hg2z)
          have LF := Lib.hid (LC.out.set ⟨g1, 2, none⟩ (.slice qn (ks.eraseIdx k).length cn) (by dsimp only; omega) hg1)
          have HK3 := Lib.hid (LF.out.rl.cell 2 (v := .slice (some ⟨b, o, none⟩) ks.length c2) rfl)
          have HKN := Lib.hid (hkn (u2.setCell ⟨g1, 2, none⟩ (.slice qn (ks.eraseIdx k).length cn)) (fun g hg hgz => Below.heap_setCell _ _ _ _ (by dsimp only; omega)))
          have HFAR := Lib.hid (fun bq oq e => (by have := hfar bq oq e; omega) : ∀ bq oq, qn = some (⟨bq, oq, none⟩ : Addr) → bq ≠ g2)
          clear hfar
          have c1c := R1C.out.cell 2 (v := .slice (some ⟨b, o, none⟩) ks.length c2) rfl
          have c1f := R1C.out.free 2
          clear hr1 hr2 ho1 ho2 hbu1 hbu2 hb71 hb72 LA LB hW1 hb7 hq2 hkn L7 hel
          go_cut [] from 20 to 173 (fun wx => ∃ q c, LInv p1 c1 (some ⟨b, o, none⟩) c2 long sz ks n0 n1 n2 n3 w0.heap.size (w0.heap.size + 1) w0 wx ∧ Row wx g1 #[.slice p1 long.length c1, .int .i64 sz, .slice q (ks.eraseIdx k).length c] 25 ∧ Row wx g2 #[.slice p1 long.length c1, .int .i64 sz, .slice (some ⟨b, o, none⟩) ks.length c2] 25 ∧ KnotsAt wx q (ks.eraseIdx k) ∧ ∀ bq oq, q = some (⟨bq, oq, none⟩ : Addr) → bq ≠ g2)
          case first =>
            by_cases hck : c2 = k + 1
            · have hq := HQ2.out
              rw [if_pos hck] at hq
              obtain ⟨rfl, rfl⟩ : b' = b ∧ o' = o := by simpa using hq
              clear hq HQ2
              have hckT : (c2 = k + 1) = True := by simp [hck]
              clear hck
              go_region_held3 (fun w' => w'.cell? ⟨w0.heap.size, 2, none⟩ = some (.slice (some ⟨b', o', none⟩) ks.length c2)) (first | exact HK1.out | exact HK2.out | exact HK3.out | go_keep) (first | (rw [if_pos (by rfl)]; refine wp_append_run _ _ _ _ rfl (.slice (some ⟨w7.heap.size, 0, none⟩) 0 0) (.slice (some ⟨b', o', none⟩) k c2) _ rfl rfl HR1.out ?_) | (rw [if_pos (by rfl)]; refine wp_append_run _ _ _ _ rfl v1 _ _ rfl rfl HR2.out ?_))
              all_goals
                go_wp2_with fail
                go_meet
                exact ⟨_, _, LF.out, R1C.out.set 2 _, R2C.out.set_other _ _ (by dsimp only; omega), HKN.out, HFAR.out⟩
            · have hq := HQ2.out
              rw [if_neg hck] at hq
              obtain ⟨rfl, rfl⟩ : b' = b ∧ o' = o + (k + 1) * 4 := by simpa using hq
              clear hq HQ2
              go_region_held3 (fun w' => w'.cell? ⟨w0.heap.size, 2, none⟩ = some (.slice (some ⟨b', o, none⟩) ks.length c2)) (first | exact HK1.out | exact HK2.out | exact HK3.out | go_keep) (first | (rw [if_pos (by rfl)]; refine wp_append_run _ _ _ _ rfl (.slice (some ⟨w7.heap.size, 0, none⟩) 0 0) (.slice (some ⟨b', o, none⟩) k c2) _ rfl rfl HR1.out ?_) | (rw [if_pos (by rfl)]; refine wp_append_run _ _ _ _ rfl v1 _ _ rfl rfl HR2.out ?_))
              all_goals
                go_wp2_with fail
                go_meet
                exact ⟨_, _, LF.out, R1C.out.set 2 _, R2C.out.set_other _ _ (by dsimp only; omega), HKN.out, HFAR.out⟩
          case rest =>
            obtain ⟨q1, cq1, l8, r1, r2, kn1, qf⟩ := hcut
            clear LF HK1 HK2 HK3 HKN LC R1C R2C c1c c1f HR1 HR2 HQ2 hcn R1 R2 k2 q2 i0 i1 i2 i3 i4 i5 i6 i7 i8
            have L8 := Lib.hid l8
            have R1 := Lib.hid r1
            have R2 := Lib.hid r2
            have KN1 := Lib.hid kn1
            have hg1w := r1.lt
            have hg2w := r2.lt
            clear l8 r1 r2
            generalize wc = w8 at *
            have k2 := (L8.out.alloc (.cells #[] 61)).rl.cell 2 (v := .slice (some ⟨b, o, none⟩) ks.length c2) rfl
            have HZ := Lib.hid (fun z => (by have h := copy_knots ((w8.alloc (.cells #[] 61))) ks b o c2 (L8.out.alloc _).log.k (by omega) hk3 23 z; exact h) : ∀ z : Nat, ∃ g cap cur w', (Builtin.append_ #[23, 23] 23 #[.slice (some ⟨z, 0, none⟩) 0 0, .slice (some ⟨b, o, none⟩) ks.length c2]).run Try.prog (w8.alloc (.cells #[] 61)) = .ok (.slice (some ⟨g, 0, none⟩) ks.length cap) w' ∧ Row w' g cur 61 ∧ (w8.alloc (.cells #[] 61)).heap.size ≤ g ∧ cur.toList.take (ks.length * 4) = knotVals ks ∧ ks.length ≤ cap ∧ Below (w8.alloc (.cells #[] 61)).heap.size (w8.alloc (.cells #[] 61)) w')
            obtain ⟨g3, cap3, cur, w9, hr3, hr3row, hg3, htake, hcap3, hb9⟩ := HZ.out w8.heap.size
            simp at hg3
            have hb89 : Below w8.heap.size w8 w9 := (below_alloc w8 _).trans (hb9.mono (by simp))
            have HR3 := Lib.hid hr3
            have HT := Lib.hid htake
            have L9 := Lib.hid (L8.out.below hb89)
            have R19 := Lib.hid (R1.out.below hb89 hg1w)
            have R29 := Lib.hid (R2.out.below hb89 hg2w)
            have KN9 := Lib.hid (KN1.out.below hb89)
            have R39 := Lib.hid hr3row
            have hqf3 := Lib.hid (fun bq oq e hne => (by have := KN1.out.lt hne e; omega) : ∀ bq oq, q1 = some (⟨bq, oq, none⟩ : Addr) → ks.eraseIdx k ≠ [] → bq ≠ g3)
            have c2c := R29.out.cell 2 (v := .slice (some ⟨b, o, none⟩) ks.length c2) rfl
            have c2f := R29.out.free 2
            have KI := Lib.hid (KInv.mk (L9.out.set ⟨g2, 2, none⟩ (.slice (some ⟨g3, 0, none⟩) ks.length cap3) (by dsimp only; omega) (by dsimp only; omega)) (R19.out.set_other _ _ (by dsimp only; omega)) (KN9.out.set_other _ _ (fun _ bq oq e => qf bq oq e)) (R29.out.set 2 (.slice (some ⟨g3, 0, none⟩) ks.length cap3)) (R39.out.set_other _ _ (by dsimp only; omega)) (by omega) (by omega) (by omega) (by omega) (fun h bq oq e => hqf3.out bq oq e h))
            clear hr3 htake hr3row hb9 hb89 HZ L8 R1 R2 KN1 L9 R19 R29 KN9 R39 qf kn1
            go_wp2_with (first | (at_builtin; refine wpList_append_run rfl _ _ _ _ rfl _ _ _ rfl rfl HR3.out ?_))
            clear k2 c2c c2f HR3
            generalize w9.setCell ⟨g2, 2, none⟩ (.slice (some ⟨g3, 0, none⟩) ks.length cap3) = w10 at *
            have hko := hok.ok ks[k] (List.getElem_mem hkl)
            obtain ⟨hA1, hA2, hA3, hF1, hF2, hF3⟩ : -1000000000 ≤ ks[k].al ∧ ks[k].al ≤ ks[k].ah ∧ ks[k].ah ≤ 1000000000 ∧ -1000000000 ≤ ks[k].fl ∧ ks[k].fl ≤ ks[k].fh ∧ ks[k].fh ≤ 1000000000 := by
              obtain ⟨a, f, a0, a1, f0, f1⟩ := hko
              omega
            have i0 : (0 : Int) ≤ (k : Int) := by omega
            have i1 : (k : Int) < (ks.length : Int) := by omega
            have KD := Lib.hid KI.out.drew
            have KS0 := Lib.hid (KI.out.s hkl)
            have KF := Lib.hid (KI.out.r3.free (k * 4))
            go_cut [] from 20 to 173 (fun wx => KInv p1 c1 (some ⟨b, o, none⟩) c2 long sz ks n0 n1 n2 n3 w0.heap.size (w0.heap.size + 1) k g1 g2 g3 cap3 cq1 q1 (cur.setIfInBounds (k * 4) (.int .i64 (drawn ks[k].al ks[k].ah n1))) w0 wx)
            case first =>
              go_region_held3 (fun w' => w'.cell? ⟨g2, 2, none⟩ = some (.slice (some ⟨g3, 0, none⟩) ks.length cap3) ∧ w'.cell? ⟨w0.heap.size, 2, none⟩ = some (.slice (some ⟨b, o, none⟩) ks.length c2) ∧ w'.cell? ⟨b, o + k * 4, none⟩ = some (.int .i64 ks[k].al) ∧ w'.cell? ⟨b, o + k * 4 + 1, none⟩ = some (.int .i64 ks[k].ah) ∧ w'.cell? ⟨b, o + k * 4 + 2, none⟩ = some (.int .i64 ks[k].fl) ∧ w'.cell? ⟨b, o + k * 4 + 3, none⟩ = some (.int .i64 ks[k].fh) ∧ w'.cell? ⟨w0.heap.size + 1, 1, none⟩ = some (.int .i64 n1) ∧ w'.cell? ⟨w0.heap.size + 1, 2, none⟩ = some (.int .i64 n2)) (first | exact KS0.out | exact KD.out.s hkl | exact (KD.out.set _ _).s hkl)
                (first | (go_at_call 50; refine (Drawn_any _ _ _ _ hA1 hA2 hA3).mono ?_; rintro e u ⟨rfl, hbu⟩; have KD := Lib.hid (KD.out.below hbu); have t0 := KD.out.t HT.out hkl; have t1 := KD.out.r3.free (k * 4)))
              all_goals
                go_wp2_with fail
                go_meet
                exact KD.out.set _ _
            case rest =>
              have KE := Lib.hid hcut
              clear hcut KD KS0 KF KI
              generalize wc = w11 at *
              have KD := Lib.hid KE.out.drew
              have KS0 := Lib.hid (KE.out.s hkl)
              go_wp2_with fail
              go_cut [] from 20 to 173 (fun wx => KInv p1 c1 (some ⟨b, o, none⟩) c2 long sz ks n0 n1 n2 n3 w0.heap.size (w0.heap.size + 1) k g1 g2 g3 cap3 cq1 q1 ((cur.setIfInBounds (k * 4) (.int .i64 (drawn ks[k].al ks[k].ah n1))).setIfInBounds (k * 4 + 3) (.int .i64 (drawn ks[k].fl ks[k].fh n2))) w0 wx)
              case first =>
                go_region_held3 (fun w' => w'.cell? ⟨g2, 2, none⟩ = some (.slice (some ⟨g3, 0, none⟩) ks.length cap3) ∧ w'.cell? ⟨w0.heap.size, 2, none⟩ = some (.slice (some ⟨b, o, none⟩) ks.length c2) ∧ w'.cell? ⟨b, o + k * 4, none⟩ = some (.int .i64 ks[k].al) ∧ w'.cell? ⟨b, o + k * 4 + 1, none⟩ = some (.int .i64 ks[k].ah) ∧ w'.cell? ⟨b, o + k * 4 + 2, none⟩ = some (.int .i64 ks[k].fl) ∧ w'.cell? ⟨b, o + k * 4 + 3, none⟩ = some (.int .i64 ks[k].fh) ∧ w'.cell? ⟨w0.heap.size + 1, 1, none⟩ = some (.int .i64 n1) ∧ w'.cell? ⟨w0.heap.size + 1, 2, none⟩ = some (.int .i64 n2)) (first | exact KS0.out | exact KD.out.s hkl | exact (KD.out.set _ _).s hkl)
                  (first | (go_at_call 50; refine (Drawn_any _ _ _ _ hF1 hF2 hF3).mono ?_; rintro e u ⟨rfl, hbu⟩; have KD := Lib.hid (KD.out.below hbu); have t0 := KD.out.t3 HT.out hkl; have t1 := KD.out.r3.free (k * 4 + 3)))
                all_goals
                  go_wp2_with fail
                  go_meet
                  exact KD.out.set _ _
              case rest =>
                have KG := Lib.hid hcut
                clear hcut KD KS0 KE
                generalize wc = w12 at *
                have hv1 := erase_valid hb k
                have hkv := known_valid hb hkl n1 n2
                have hb1 := best_erase (long := long) hs1 (ks := ks) k
                have hb2 := best_known hok hkl n1 n2
                have hb3 := hope_known hok hkl n1 n2
                have hlen : (ks.set k (knownK ks[k] n1 n2)).length = ks.length := List.length_set
                have HKN := Lib.hid (fun w _ hg => knots_known (w := w) (cur := cur) (g := g3) (n1 := n1) (n2 := n2) hkl hg HT.out : ∀ w (_ : Unit), Row w g3 ((cur.setIfInBounds (k * 4) (.int .i64 (drawn ks[k].al ks[k].ah n1))).setIfInBounds (k * 4 + 3) (.int .i64 (drawn ks[k].fl ks[k].fh n2))) 61 → KnotsAt w (some ⟨g3, 0, none⟩) (ks.set k (knownK ks[k] n1 n2)))
                have HBL := Lib.hid (fun w hk => Best_good p1 c1 q1 cq1 long sz (ks.eraseIdx k) w hk hv1 : ∀ w, LogAt w p1 q1 long (ks.eraseIdx k) → Calls Try.prog 30 #[.agg #[.slice p1 long.length c1, .int .i64 sz, .slice q1 (ks.eraseIdx k).length cq1]] w fun e w' => ∃ p c, e = .returned (.tuple #[.slice p (bestD long sz (ks.eraseIdx k)).length c, .int .i64 0]) ∧ IntsAt w' p (bestD long sz (ks.eraseIdx k)) ∧ Below w.heap.size w w')
                have HBK := Lib.hid (fun w hk => by have h := Best_good p1 c1 (some ⟨g3, 0, none⟩) cap3 long sz (ks.set k (knownK ks[k] n1 n2)) w hk hkv; rw [hlen] at h; exact h : ∀ w, LogAt w p1 (some ⟨g3, 0, none⟩) long (ks.set k (knownK ks[k] n1 n2)) → Calls Try.prog 30 #[.agg #[.slice p1 long.length c1, .int .i64 sz, .slice (some ⟨g3, 0, none⟩) ks.length cap3]] w fun e w' => ∃ p c, e = .returned (.tuple #[.slice p (bestD long sz (ks.set k (knownK ks[k] n1 n2))).length c, .int .i64 0]) ∧ IntsAt w' p (bestD long sz (ks.set k (knownK ks[k] n1 n2))) ∧ Below w.heap.size w w')
                have HHK := Lib.hid (fun w hk => by have h := Hope_good p1 c1 (some ⟨g3, 0, none⟩) cap3 long sz (ks.set k (knownK ks[k] n1 n2)) w hk hkv; rw [hlen] at h; exact h : ∀ w, LogAt w p1 (some ⟨g3, 0, none⟩) long (ks.set k (knownK ks[k] n1 n2)) → Calls Try.prog 35 #[.agg #[.slice p1 long.length c1, .int .i64 sz, .slice (some ⟨g3, 0, none⟩) ks.length cap3]] w fun e w' => e = .returned (.tuple #[.int .i64 (hopeD long sz (ks.set k (knownK ks[k] n1 n2))), .int .i64 0]) ∧ Below w.heap.size w w')
                clear hv1 hkv
                generalize bestD long sz (ks.set k (knownK ks[k] n1 n2)) = bk at *
                generalize hopeD long sz (ks.set k (knownK ks[k] n1 n2)) = hkn at *
                generalize bestD long sz (ks.eraseIdx k) = be at *
                generalize hopeD long sz ks = hp at *
                generalize bestD long sz ks = bb at *
                go_wp2_with (first | (refine load_row rfl 25 _ rfl _ rfl 25 _ _ KG.out.r1 Try.underlying25 rfl (by kernel_rfl) ?_))
                refine (HBL.out _ ⟨KG.out.li.log.l, KG.out.kq, KG.out.li.log.b1, by have := KG.out.li.log.b2; rw [List.length_eraseIdx]; split <;> omega⟩).mono ?_
                rintro e w13 ⟨pe, ce, rfl, _, hb13⟩
                have KG := Lib.hid (KG.out.below hb13)
                clear hb13
                go_wp2_with (first | (refine load_row rfl 25 _ rfl _ rfl 25 _ _ KG.out.r2 Try.underlying25 rfl (by kernel_rfl) ?_))
                refine (HBK.out _ ⟨KG.out.li.log.l, HKN.out _ () KG.out.r3, KG.out.li.log.b1, by rw [hlen]; exact KG.out.li.log.b2⟩).mono ?_
                rintro e w14 ⟨pk, ck, rfl, _, hb14⟩
                have KG := Lib.hid (KG.out.below hb14)
                clear hb14
                go_wp2_with (first | (refine load_row rfl 25 _ rfl _ rfl 25 _ _ KG.out.r2 Try.underlying25 rfl (by kernel_rfl) ?_))
                refine (HHK.out _ ⟨KG.out.li.log.l, HKN.out _ () KG.out.r3, KG.out.li.log.b1, by rw [hlen]; exact KG.out.li.log.b2⟩).mono ?_
                rintro e w15 ⟨rfl, hb15⟩
                have KB := Lib.hid (KG.out.below hb15).li.hb
                clear hb15 KG HKN HBL HBK HHK hlen
                go_wp2_with (first | (refine (peeled_any _).mono ?_; rintro e w16 ⟨rfl, hb16⟩))
                go_ret
                exact ⟨rfl, KB.out.trans (hb16.mono KB.out.size)⟩
end Go.Proofs.Ytnnlbbmimdohoaa
