/- Layer 3, in plain lists and in memory: a frame less, a wider Need, a damp of which more is known. -/
import Derived.Test.YtfppcmechfjpoaaWAX
import Derived.Test.YtfppcmechfjpoaaUM
namespace Go.Proofs.Ytfppcmechfjpoaa
open Go.RowKit

/-- Of the second book no less comes out than of the first, but for some frames. -/
structure Easier (ps : List Pt) (fs : List Fr) (qs : List Pt) (gs : List Fr) (m : Nat) : Prop where
  ok : BookOk qs gs
  l : qs.length = ps.length
  hh : ∀ s, heatD qs s = heatD ps s
  gd : ∀ s, s ∈ setsL ps.length → (goodD ps fs s).length ≤ (goodD qs gs s).length + m
  dr : ∀ s, s ∈ setsL ps.length → (∀ f ∈ fs, kindD ps s f = 0) → ∀ f ∈ gs, kindD qs s f = 0
theorem Easier.most {ps qs : List Pt} {fs gs : List Fr} {m : Nat} (h : Easier ps fs qs gs m) : (goodD ps fs (mostD ps fs)).length ≤ (goodD qs gs (mostD qs gs)).length + m := most_mono h.ok h.l h.gd
theorem Easier.cool {ps qs : List Pt} {fs gs : List Fr} {m : Nat} (h : Easier ps fs qs gs m) {x : List Int} (hx : coolD ps fs (List.range fs.length) = some x) : ∃ y, coolD qs gs (List.range gs.length) = some y ∧ heatD qs y ≤ heatD ps x := cool_mono h.l h.hh h.dr hx
theorem easier_less {ps : List Pt} {fs : List Fr} (hb : BookOk ps fs) {k : Nat} (hk : k < fs.length) : Easier ps fs ps (fs.eraseIdx k) 1 := by
  refine ⟨⟨hb.p1, hb.p4, ?_, hb.p, fun f hf => hb.f f (List.mem_of_mem_eraseIdx hf)⟩, rfl, fun _ => rfl, fun s _ => ?_, fun s _ h f hf => h f (List.mem_of_mem_eraseIdx hf)⟩
  · have := hb.f5
    have := List.length_eraseIdx_le fs k
    omega
  · rw [goodD_count, goodD_count, List.eraseIdx_eq_take_drop_succ]
    have e : fs = fs.take k ++ fs[k] :: fs.drop (k + 1) := by rw [← List.drop_eq_getElem_cons hk, List.take_append_drop]
    have e2 := congrArg (List.countP (fun f => decide (kindD ps s f = 0))) e
    rw [List.countP_append, List.countP_cons] at e2
    rw [List.countP_append, e2]
    split <;> omega
theorem easier_need {ps : List Pt} {fs : List Fr} (hb : BookOk ps fs) {k : Nat} (hk : k < fs.length) {lo hi : Int} (h0 : 0 ≤ lo) (h1 : lo ≤ fs[k].lo) (h2 : fs[k].hi ≤ hi) (h3 : hi ≤ 999) : Easier ps fs ps (fs.set k { fs[k] with lo := lo, hi := hi }) 0 := by
  have hz : ∀ s, kindD ps s fs[k] = 0 → kindD ps s { fs[k] with lo := lo, hi := hi } = 0 := by
    intro s h
    rw [kind_zero] at h ⊢
    exact ⟨by have := h.1; simp only; omega, by have := h.2; simp only; omega⟩
  refine ⟨⟨hb.p1, hb.p4, by rw [List.length_set]; exact hb.f5, hb.p, fun f hf => ?_⟩, rfl, fun _ => rfl, fun s _ => ?_, fun s _ h f hf => ?_⟩
  · have ho := hb.f fs[k] (List.getElem_mem _)
    rcases List.mem_or_eq_of_mem_set hf with h | rfl
    · exact hb.f f h
    · exact ⟨ho.s, ho.n, h0, by have := ho.l1; simp only; omega, h3⟩
  · rw [goodD_count, goodD_count, List.set_eq_take_append_cons_drop, if_pos hk]
    have e : fs = fs.take k ++ fs[k] :: fs.drop (k + 1) := by rw [← List.drop_eq_getElem_cons hk, List.take_append_drop]
    have e2 := congrArg (List.countP (fun f => decide (kindD ps s f = 0))) e
    rw [List.countP_append, List.countP_cons] at e2
    rw [List.countP_append, List.countP_cons, e2]
    by_cases h : kindD ps s fs[k] = 0
    · simp [h, hz s h]
    · simp [h]
  · rcases List.mem_or_eq_of_mem_set hf with h' | rfl
    · exact h f h'
    · exact hz s (h _ (List.getElem_mem _))
theorem easier_damp {ps : List Pt} {fs : List Fr} (hb : BookOk ps fs) {k : Nat} (hk : k < ps.length) {lo hi : Int} (h0 : ps[k].lo ≤ lo) (h1 : hi ≤ ps[k].hi) (h2 : lo ≤ hi) : Easier ps fs (dampP ps k lo hi) fs 0 := by
  have n := narrow_damp hk h0 h1
  refine ⟨damp_ok hb hk h0 h1 h2, n.l, narrow_heat n, fun s _ => narrow_good n (ok_stay hb) s, fun s _ h f hf => narrow_kind n (ok_stay hb f hf) (h f hf)⟩
/-- A frame with another Need. -/
def needM (m : FrM) (lo hi : Int) : FrM := { m with f := { m.f with lo := lo, hi := hi } }
theorem frsM_erase (ms : List FrM) (k : Nat) : frsM (ms.eraseIdx k) = (frsM ms).eraseIdx k := by
  simp [frsM, List.eraseIdx_eq_take_drop_succ]
theorem frsM_get {ms : List FrM} {k : Nat} (hk : k < ms.length) : (frsM ms)[k]'(by rw [frsM_length]; exact hk) = ms[k].f := by simp [frsM]
theorem frsM_need {ms : List FrM} {k : Nat} (hk : k < ms.length) (lo hi : Int) : frsM (ms.set k (needM ms[k] lo hi)) = (frsM ms).set k { (frsM ms)[k]'(by rw [frsM_length]; exact hk) with lo := lo, hi := hi } := by
  rw [frsM_get hk]
  simp [frsM, List.map_set, needM]
theorem holdsN_set {cur : Array Value} {ms : List FrM} (h : HoldsF (cur[·]?) ms) {k : Nat} (hk : k < ms.length) (lo hi : Int) : HoldsF (((cur.setIfInBounds (k * 3 + 1) (.int .i64 lo)).setIfInBounds (k * 3 + 2) (.int .i64 hi))[·]?) (ms.set k (needM ms[k] lo hi)) := by
  intro i hi'
  rw [List.length_set] at hi'
  obtain ⟨a0, a1, a2⟩ := h i hi'
  have s1 := (Array.getElem?_eq_some_iff.1 (h k hk).2.1).1
  have s2 := (Array.getElem?_eq_some_iff.1 (h k hk).2.2).1
  have key : ∀ (j : Nat) u, cur[j]? = some u → j ≠ k * 3 + 1 → j ≠ k * 3 + 2 → ((cur.setIfInBounds (k * 3 + 1) (.int .i64 lo)).setIfInBounds (k * 3 + 2) (.int .i64 hi))[j]? = some u := by
    intro j u hj n1 n2
    rw [Array.getElem?_setIfInBounds, if_neg (fun e => n2 e.symm), Array.getElem?_setIfInBounds, if_neg (fun e => n1 e.symm)]
    exact hj
  by_cases e : i = k
  · subst e
    simp only [List.getElem_set_self, needM]
    refine ⟨key _ _ a0 (by omega) (by omega), ?_, ?_⟩
    · show ((cur.setIfInBounds (i * 3 + 1) (.int .i64 lo)).setIfInBounds (i * 3 + 2) (.int .i64 hi))[i * 3 + 1]? = _
      rw [Array.getElem?_setIfInBounds, if_neg (by omega), Array.getElem?_setIfInBounds, if_pos rfl, if_pos s1]
    · show ((cur.setIfInBounds (i * 3 + 1) (.int .i64 lo)).setIfInBounds (i * 3 + 2) (.int .i64 hi))[i * 3 + 2]? = _
      rw [Array.getElem?_setIfInBounds, if_pos rfl, if_pos (by simpa using s2)]
  · simp only [List.getElem_set_ne (fun e2 => e e2.symm)]
    exact ⟨key _ _ a0 (by omega) (by omega), key _ _ a1 (by omega) (by omega), key _ _ a2 (by omega) (by omega)⟩
theorem frVals_append (xs ys : List FrM) : frVals (xs ++ ys) = frVals xs ++ frVals ys := by simp [frVals]
theorem frVals_one : ∀ (ms : List FrM), ∀ v ∈ frVals ms, Value.oneCell' v = true := by
  intro ms v hv
  obtain ⟨m, _, hm⟩ := List.mem_flatMap.1 hv
  simp only [FrM.A, List.mem_cons, List.not_mem_nil, or_false] at hm
  rcases hm with rfl | rfl | rfl <;> rfl
theorem append_own_frames (w : World) (base : Nat) (hbase : base ≤ w.heap.size) (v : Value) (n : Nat) (xs : List FrM) (_hn : xs.length = n) (hown : w.ownsRow base 55 3 v n (frVals xs)) (b o c' : Nat) (ys : List FrM) (hy : FrsAt w (some ⟨b, o, none⟩) ys) (m : Nat) (hm : ys.length = m) (hlen : n + m ≤ 10) (ty : TypeId) :
    ∃ v' w', (Builtin.append_ #[23, 23] ty #[v, .slice (some ⟨b, o, none⟩) m c']).run Try.prog w = .ok v' w' ∧ w'.ownsRow base 55 3 v' (n + m) (frVals (xs ++ ys)) ∧ Below base w w' := by
  obtain ⟨i0, hi, hi0, hi1, hi2⟩ := info_parts Try.infoFrame
  obtain ⟨v', w', hr, ho, hg, _⟩ := run_append_own (P := Try.prog) w base 23 ty 55 i0 _ 3 40 Try.underlying23 hi hi0 hi1 hi2 rfl (by decide) v n (frVals xs) hown ⟨b, o, none⟩ m c' (frVals ys) (by rw [frVals_length, hm]) (fun j u h => by rw [Addr.add_lit]; exact hy.cells j u h) (frVals_one ys) (by unfold maxLen; omega) (by omega) hbase
  rw [← frVals_append] at ho
  exact ⟨v', w', hr, ho, (Below.refl base w).grown hg hbase (fun k hk => (hown.lt k hk).1)⟩
theorem frames_of_owns {w : World} {base : Nat} {v : Value} {n : Nat} {ms : List FrM} (hn : ms.length = n) (h : w.ownsRow base 55 3 v n (frVals ms)) (h1 : 0 < n ∨ v ≠ .slice none 0 0) :
    ∃ g c cur, v = .slice (some ⟨g, 0, none⟩) n c ∧ base ≤ g ∧ Row w g cur 55 ∧ HoldsF (cur[·]?) ms := by
  rcases h.2 with ⟨h2, h3⟩ | ⟨g, cap, cur, hv, hg0, hh, h2, h3, h4, h5⟩
  · exfalso
    rcases h1 with h1 | h1
    · omega
    · exact h1 h2
  · refine ⟨g, cap, cur, hv, hg0, hh, fun i hi => ?_⟩
    obtain ⟨a0, a1, a2⟩ := frVals_at ms i hi
    exact ⟨cur_of_take h5 a0, cur_of_take h5 a1, cur_of_take h5 a2⟩
theorem FrsAt.take {w : World} {p : Option Addr} {ms : List FrM} (h : FrsAt w p ms) (k : Nat) : FrsAt w p (ms.take k) := by
  intro i hi
  have hi' := hi
  rw [List.length_take] at hi'
  simpa using h i (by omega)
theorem FrsAt.drop {w : World} {b o : Nat} {ms : List FrM} (h : FrsAt w (some ⟨b, o, none⟩) ms) (k : Nat) : FrsAt w (some ⟨b, o + k * 3, none⟩) (ms.drop k) := by
  intro i hi
  have hi' := hi
  rw [List.length_drop] at hi'
  obtain ⟨b', o', e, h0, h1, h2, h3⟩ := h (k + i) (by omega)
  cases e
  simp only [List.getElem_drop]
  exact ⟨b, o + k * 3, rfl, by rw [show o + k * 3 + i * 3 = o + (k + i) * 3 by omega]; exact h0, by rw [show o + k * 3 + i * 3 = o + (k + i) * 3 by omega]; exact h1, by rw [show o + k * 3 + i * 3 = o + (k + i) * 3 by omega]; exact h2, h3⟩
/-- The frames but one, by two appends. -/
theorem erase_frames (w : World) (ms : List FrM) (b o c z : Nat) (hy : FrsAt w (some ⟨b, o, none⟩) ms) (h3 : ms.length ≤ 10) (k : Nat) (hk : k < ms.length) (hz : Row w z #[] 55) (ty : TypeId) :
    ∃ v1 w1, (Builtin.append_ #[23, 23] ty #[.slice (some ⟨z, 0, none⟩) 0 0, .slice (some ⟨b, o, none⟩) k c]).run Try.prog w = .ok v1 w1 ∧ Below z w w1 ∧ w1.ownsRow z 55 3 v1 k (frVals (ms.take k)) := by
  have hown : w.ownsRow z 55 3 (.slice (some ⟨z, 0, none⟩) 0 0) 0 (frVals []) := ⟨rfl, .inr ⟨z, 0, #[], rfl, Nat.le_refl _, hz, by omega, by unfold maxLen; omega, rfl, rfl⟩⟩
  obtain ⟨v1, u1, hr1, ho1, hb1⟩ := append_own_frames w z (by have := hz.lt; omega) _ 0 [] rfl hown b o c (ms.take k) (hy.take k) k (by rw [List.length_take]; omega) (by omega) ty
  rw [List.nil_append, Nat.zero_add] at ho1
  exact ⟨v1, u1, hr1, hb1, ho1⟩
end Go.Proofs.Ytfppcmechfjpoaa
