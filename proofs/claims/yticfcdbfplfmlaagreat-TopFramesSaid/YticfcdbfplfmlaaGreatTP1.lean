/- Layer 5, in plain lists: what truly is in the handfuls, whatever numbers these are within what is known; what is given away then. -/
import Derived.Test.YticfcdbfplfmlaaGreatF52
namespace Go.Proofs.YticfcdbfplfmlaaGreat
open Go.RowKit

/-- Numbers that lie within what is known of the handfuls. -/
structure In5 (b : Bf) (T : List Int) : Prop where
  n : T.length = b.hs.length
  h : ∀ i (h : i < b.hs.length) (h' : i < T.length), b.hs[i].lo ≤ T[i] ∧ T[i] ≤ b.hs[i].hi
/-- What truly is in the handfuls from one on to the one before another. -/
def partT (T : List Int) (x y : Nat) : List Int := (T.drop x).take (y - x)
theorem partT_len {T : List Int} {x y : Nat} (h : y ≤ T.length) : (partT T x y).length = y - x := by
  unfold partT
  rw [List.length_take, List.length_drop]
  omega
theorem partT_at {T : List Int} {x y i : Nat} (h : y ≤ T.length) (hi : i < y - x) : (partT T x y)[i]'(by rw [partT_len h]; exact hi) = T[x + i]'(by omega) := by
  unfold partT
  rw [List.getElem_take, List.getElem_drop]
theorem sum_le3 : ∀ {l m : List Int}, l.length = m.length → (∀ i (h : i < l.length) (h' : i < m.length), l[i] ≤ m[i]) → l.sum ≤ m.sum
  | [], [], _, _ => Int.le_refl _
  | [], _ :: _, h, _ => by simp at h
  | _ :: _, [], h, _ => by simp at h
  | x :: l, y :: m, h, hx => by
    have h0 := hx 0 (by simp) (by simp)
    have h1 := sum_le3 (l := l) (m := m) (by simpa using h) (fun i hi hi' => by
      have := hx (i + 1) (by simpa using hi) (by simpa using hi')
      simpa using this)
    simp only [List.getElem_cons_zero] at h0
    rw [List.sum_cons, List.sum_cons]
    omega
theorem partT_between {b : Bf} {T : List Int} (hT : In5 b T) {x y : Nat} (h : y ≤ b.hs.length) : loB b x y ≤ (partT T x y).sum ∧ (partT T x y).sum ≤ hiB b x y := by
  have hn := hT.n
  have h' : y ≤ T.length := by omega
  have hl : (partL b.hs x y).length = y - x := by unfold partL; simp; omega
  have hd : ∀ i (hi : i < y - x), (partL b.hs x y)[i]'(by rw [hl]; exact hi) = b.hs[x + i]'(by omega) := fun i hi => by simp [partL]
  have key : ∀ i (hi : i < y - x), (b.hs[x + i]'(by omega)).lo ≤ (partT T x y)[i]'(by rw [partT_len h']; exact hi) ∧ (partT T x y)[i]'(by rw [partT_len h']; exact hi) ≤ (b.hs[x + i]'(by omega)).hi := fun i hi => by
    rw [partT_at h' hi]
    exact hT.h _ _ _
  refine ⟨?_, ?_⟩
  · refine sum_le3 (by rw [List.length_map, hl, partT_len h']) fun i h1 h2 => ?_
    rw [partT_len h'] at h2
    rw [List.getElem_map, hd i h2]
    exact (key i h2).1
  · refine sum_le3 (by rw [List.length_map, hl, partT_len h']) fun i h1 h2 => ?_
    rw [partT_len h'] at h1
    rw [List.getElem_map, hd i h1]
    exact (key i h1).2
theorem partT_range {b : Bf} (hok : BfOk b) {T : List Int} (hT : In5 b T) (x y : Nat) (v : Int) (hv : v ∈ partT T x y) : 0 ≤ v ∧ v ≤ 200 := by
  have hn := hT.n
  have h1 : v ∈ T := List.mem_of_mem_drop (List.mem_of_mem_take hv)
  obtain ⟨i, hi, rfl⟩ := List.mem_iff_getElem.1 h1
  have ho := hok.h _ (List.getElem_mem (show i < b.hs.length by omega))
  have := hT.h i (by omega) hi
  have := ho.l0
  have := ho.l2
  omega
theorem total_sum_aux2 : ∀ (n : Nat) (l : List Int), l.length = n → n ≤ 1000 → (∀ v ∈ l, 0 ≤ v ∧ v ≤ 200) → total l = l.sum ∧ 0 ≤ l.sum ∧ l.sum ≤ 200 * n
  | 0, l, h, _, _ => by
    have : l = [] := List.eq_nil_of_length_eq_zero h
    subst this
    simp [total]
  | n + 1, l, h, hn, hv => by
    have hne : l ≠ [] := fun e => by subst e; simp at h
    have e := List.dropLast_concat_getLast hne
    have h1 := total_sum_aux2 n l.dropLast (by simp [h]) (by omega) (fun v hv2 => hv v (List.dropLast_subset _ hv2))
    have h2 := hv _ (List.getLast_mem hne)
    rw [← e]
    generalize l.dropLast = m at *
    generalize l.getLast hne = v at *
    have e2 : total (m ++ [v]) = wrap64 (total m + v) := by simp [total]
    have e3 : (m ++ [v]).sum = m.sum + v := by simp
    rw [e2, e3, h1.1, IntWalk.wrap64_in _ (by omega)]
    exact ⟨rfl, by omega, by push_cast; omega⟩
theorem partT_total {b : Bf} (hok : BfOk b) {T : List Int} (hT : In5 b T) {x y : Nat} (h : y ≤ b.hs.length) : total (partT T x y) = (partT T x y).sum ∧ 0 ≤ (partT T x y).sum ∧ (partT T x y).sum ≤ 1600 := by
  have h8 := hok.n8
  have hn := hT.n
  have h1 := total_sum_aux2 _ (partT T x y) rfl (by rw [partT_len (by omega)]; omega) (fun v hv => partT_range hok hT x y v hv)
  rw [partT_len (by omega)] at h1
  refine ⟨h1.1, h1.2.1, ?_⟩
  have := h1.2.2
  omega
/-- What truly is in a plan's box. -/
def boxT (T l : List Int) (i : Nat) : Int := (partT T (bgn l i).toNat (at0 l i).toNat).sum
/-- How many splints truly are given away in the first boxes of a plan that are right. -/
def goneT (b : Bf) (T l : List Int) : Nat → Int
  | 0 => 0
  | k + 1 => if rightI b l k then goneT b T l k + (boxT T l k - b.pr) else goneT b T l k
theorem rightTo_succ3 (b : Bf) (l : List Int) (k : Nat) : rightTo b l (k + 1) = if rightI b l k then rightTo b l k ++ [⟨loI b l k, hiI b l k⟩] else rightTo b l k := by
  unfold rightTo
  rw [List.range_succ, List.filter_append, List.map_append]
  cases h : rightI b l k <;> simp [h]
theorem gone_between {b : Bf} (hok : BfOk b) {T : List Int} (hT : In5 b T) {l : List Int} (hp : planB b l = true) : ∀ k, k ≤ l.length →
    sumF Hd.lo (rightTo b l k) - b.pr * ((rightTo b l k).length : Int) ≤ goneT b T l k ∧ goneT b T l k ≤ sumF Hd.hi (rightTo b l k) - b.pr * ((rightTo b l k).length : Int)
  | 0, _ => by simp [goneT, rightTo, sumF]
  | k + 1, hk => by
    have ih := gone_between hok hT hp k (by omega)
    rw [rightTo_succ3, goneT]
    split
    · have hbx := planTo_all (b := b) (l := l) (k := l.length) (by unfold planB at hp; rw [Bool.and_eq_true] at hp; exact hp.1) (i := k) (by omega)
      unfold boxI boxB at hbx
      simp only [decide_eq_true_eq] at hbx
      have ht := partT_between hT (x := (bgn l k).toNat) (y := (at0 l k).toNat) (by omega)
      rw [sumF_snoc, sumF_snoc, List.length_append, List.length_singleton]
      unfold boxT
      unfold loI hiI
      have e : b.pr * (((rightTo b l k).length + 1 : Nat) : Int) = b.pr * ((rightTo b l k).length : Int) + b.pr := by
        rw [Int.natCast_add, Int.mul_add]
        simp
      rw [e]
      simp only
      omega
    · exact ih
theorem gone_over {b : Bf} (hok : BfOk b) {T : List Int} (hT : In5 b T) {l : List Int} (hp : planB b l = true) : overV Hd.lo b l ≤ goneT b T l l.length ∧ goneT b T l l.length ≤ overV Hd.hi b l := gone_between hok hT hp l.length (Nat.le_refl _)
theorem gone_range {b : Bf} (hok : BfOk b) {T : List Int} (hT : In5 b T) {l : List Int} (hp : planB b l = true) : ∀ k, k ≤ l.length → -(600 * (k : Int)) ≤ goneT b T l k ∧ goneT b T l k ≤ 1600 * (k : Int)
  | 0, _ => by simp [goneT]
  | k + 1, hk => by
    have ih := gone_range hok hT hp k (by omega)
    have hbx := planTo_all (b := b) (l := l) (k := l.length) (by unfold planB at hp; rw [Bool.and_eq_true] at hp; exact hp.1) (i := k) (by omega)
    unfold boxI boxB at hbx
    simp only [decide_eq_true_eq] at hbx
    have ht := (partT_total hok hT (x := (bgn l k).toNat) (y := (at0 l k).toNat) (by omega)).2
    have h1 := hok.p1
    have h2 := hok.p2
    rw [goneT]
    unfold boxT
    split <;> push_cast <;> omega
theorem kindS_ways (b : Bf) (lo hi t : Int) (h1 : lo ≤ t) (h2 : t ≤ hi) :
    (kindS b lo hi = 0 ∧ b.pr - b.le ≤ t ∧ t ≤ b.pr + b.mo) ∨ kindS b lo hi ≠ 0 := by
  unfold kindS fewB manyB
  by_cases e1 : lo < b.pr - b.le <;> by_cases e2 : hi > b.pr + b.mo <;> simp [e1, e2] <;> omega
/-- All that a round over a plan's boxes wants to know. -/
theorem box_round {b : Bf} (hok : BfOk b) {T : List Int} (hT : In5 b T) {P : List Int} (hp : planB b P = true) {k : Nat} (hk : k < P.length) :
    ∃ (X Y : Nat) (t ix : Int), bgn P k = X ∧ at0 P k = Y ∧ X < Y ∧ Y ≤ b.hs.length ∧ total (partT T X Y) = t ∧ 0 ≤ t ∧ t ≤ 1600 ∧ idxN (handL b P) k = ix ∧
      ((ix < 0 ∧ b.pr - b.le ≤ t ∧ t ≤ b.pr + b.mo ∧ goneT b T P (k + 1) = goneT b T P k + (t - b.pr)) ∨ (0 ≤ ix ∧ goneT b T P (k + 1) = goneT b T P k)) := by
  have hbx := planTo_all (b := b) (l := P) (k := P.length) (by unfold planB at hp; rw [Bool.and_eq_true] at hp; exact hp.1) (i := k) hk
  unfold boxI boxB at hbx
  simp only [decide_eq_true_eq] at hbx
  have h1 := partT_total hok hT (x := (bgn P k).toNat) (y := (at0 P k).toNat) (by omega)
  have h2 := partT_between hT (x := (bgn P k).toNat) (y := (at0 P k).toNat) (by omega)
  have hix := hand_index (b := b) (l := P) hk
  have haw : goneT b T P (k + 1) = if rightI b P k then goneT b T P k + (boxT T P k - b.pr) else goneT b T P k := rfl
  have hri : rightI b P k = decide (kindS b (loI b P k) (hiI b P k) = 0) := rfl
  refine ⟨(bgn P k).toNat, (at0 P k).toNat, _, _, by omega, by omega, by omega, by omega, h1.1, h1.2.1, h1.2.2, rfl, ?_⟩
  have hbt : boxT T P k = (partT T (bgn P k).toNat (at0 P k).toNat).sum := rfl
  rw [hri] at hix haw
  rw [hbt] at haw
  have h3 : loI b P k ≤ (partT T (bgn P k).toNat (at0 P k).toNat).sum ∧ (partT T (bgn P k).toNat (at0 P k).toNat).sum ≤ hiI b P k := h2
  clear h1 h2 hbt hri
  generalize (partT T (bgn P k).toNat (at0 P k).toNat).sum = t at *
  generalize idxN (handL b P) k = ix at *
  generalize goneT b T P (k + 1) = aw' at *
  generalize goneT b T P k = aw at *
  rcases kindS_ways b (loI b P k) (hiI b P k) t h3.1 h3.2 with ⟨e, h4, h5⟩ | e
  · rw [e] at hix haw
    simp at hix haw
    exact .inl ⟨hix, h4, h5, haw⟩
  · simp [e] at hix haw
    exact .inr ⟨hix, haw⟩
end Go.Proofs.YticfcdbfplfmlaaGreat
