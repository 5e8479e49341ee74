/- Layer 6, in plain lists: which choices there are, and that the best one is the best. -/
import Derived.Test.YtajkgfeockcbpaaY1
namespace Go.Proofs.Ytajkgfeockcbpaa
open Go.RowKit

theorem earlier_irrefl : ∀ l : List Int, earlier l l = false
  | [] => rfl
  | a :: l => by simp [earlier, earlier_irrefl l]
theorem earlier_total : ∀ a b : List Int, earlier a b = false → earlier b a = false → a = b
  | [], [], _, _ => rfl
  | [], _ :: _, h, _ => by simp [earlier] at h
  | _ :: _, [], _, h => by simp [earlier] at h
  | x :: a, y :: b, h1, h2 => by
    by_cases e : x = y
    · subst e
      simp only [earlier, if_true] at h1 h2
      rw [earlier_total a b h1 h2]
    · simp only [earlier, if_neg e, if_neg (Ne.symm e), decide_eq_false_iff_not] at h1 h2
      omega
theorem earlier_asym : ∀ a b : List Int, earlier a b = true → earlier b a = false
  | [], [], h => by simp [earlier] at h
  | [], _ :: _, _ => rfl
  | _ :: _, [], h => by simp [earlier] at h
  | x :: a, y :: b, h => by
    by_cases e : x = y
    · subst e
      simp only [earlier, if_true] at h ⊢
      exact earlier_asym a b h
    · simp only [earlier, if_neg e, if_neg (Ne.symm e), decide_eq_true_eq, decide_eq_false_iff_not] at h ⊢
      omega
theorem earlier_trans : ∀ a b c : List Int, earlier a b = true → earlier b c = true → earlier a c = true
  | [], [], _, h, _ => by simp [earlier] at h
  | [], _ :: _, [], _, h => by simp [earlier] at h
  | [], _ :: _, _ :: _, _, _ => rfl
  | _ :: _, [], _, h, _ => by simp [earlier] at h
  | _ :: _, _ :: _, [], _, h => by simp [earlier] at h
  | x :: a, y :: b, z :: c, h1, h2 => by
    by_cases e1 : x = y
    · subst e1
      by_cases e2 : x = z
      · subst e2
        simp only [earlier, if_true] at h1 h2 ⊢
        exact earlier_trans a b c h1 h2
      · simp only [earlier, if_neg e2] at h2 ⊢
        exact h2
    · by_cases e2 : y = z
      · subst e2
        simp only [earlier, if_neg e1] at h1 ⊢
        exact h1
      · simp only [earlier, if_neg e1, if_neg e2, decide_eq_true_eq] at h1 h2
        simp only [earlier, if_neg (show x ≠ z by omega), decide_eq_true_eq]
        omega
theorem earlier_neg {a b c : List Int} (h1 : earlier a b = false) (h2 : earlier b c = false) : earlier a c = false := by
  cases h : earlier a c
  · rfl
  · cases h3 : earlier b a
    · rw [earlier_total a b h1 h3] at h
      rw [h] at h2; cases h2
    · rw [earlier_trans b a c h3 h] at h2; cases h2
theorem befB_irrefl (l : List Int) : befB l l = false := by simp [befB, earlier_irrefl]
theorem befB_asym {l m : List Int} (h : befB l m = true) : befB m l = false := by
  unfold befB at h ⊢
  by_cases e : l.length = m.length
  · rw [if_pos e] at h
    rw [if_pos e.symm]
    exact earlier_asym _ _ h
  · rw [if_neg e, decide_eq_true_eq] at h
    rw [if_neg (Ne.symm e), decide_eq_false_iff_not]
    omega
theorem befB_neg {l m n : List Int} (h1 : befB l m = false) (h2 : befB m n = false) : befB l n = false := by
  unfold befB at h1 h2 ⊢
  by_cases e1 : l.length = m.length
  · rw [if_pos e1] at h1
    by_cases e2 : m.length = n.length
    · rw [if_pos e2] at h2
      rw [if_pos (e1.trans e2)]
      exact earlier_neg h1 h2
    · rw [if_neg e2, decide_eq_false_iff_not] at h2
      rw [if_neg (by omega), decide_eq_false_iff_not]
      omega
  · rw [if_neg e1, decide_eq_false_iff_not] at h1
    by_cases e2 : m.length = n.length
    · rw [if_neg (by omega), decide_eq_false_iff_not]
      omega
    · rw [if_neg e2, decide_eq_false_iff_not] at h2
      rw [if_neg (by omega), decide_eq_false_iff_not]
      omega
theorem befB_total {l m : List Int} (h1 : befB l m = false) (h2 : befB m l = false) : l = m := by
  unfold befB at h1 h2
  by_cases e : l.length = m.length
  · rw [if_pos e] at h1
    rw [if_pos e.symm] at h2
    exact earlier_total _ _ h1 h2
  · rw [if_neg e, decide_eq_false_iff_not] at h1
    rw [if_neg (Ne.symm e), decide_eq_false_iff_not] at h2
    omega
theorem betB_asym {l m : List Int} {g h : Int} (hb : betB l g m h = true) : betB m h l g = false := by
  unfold betB at hb ⊢
  by_cases e : g = h
  · rw [if_pos e] at hb
    rw [if_pos e.symm]
    exact befB_asym hb
  · rw [if_neg e, decide_eq_true_eq] at hb
    rw [if_neg (Ne.symm e), decide_eq_false_iff_not]
    omega
theorem betB_neg {l m n : List Int} {g h j : Int} (h1 : betB l g m h = false) (h2 : betB m h n j = false) : betB l g n j = false := by
  unfold betB at h1 h2 ⊢
  by_cases e1 : g = h
  · rw [if_pos e1] at h1
    by_cases e2 : h = j
    · rw [if_pos e2] at h2
      rw [if_pos (e1.trans e2)]
      exact befB_neg h1 h2
    · rw [if_neg e2, decide_eq_false_iff_not] at h2
      rw [if_neg (by omega), decide_eq_false_iff_not]
      omega
  · rw [if_neg e1, decide_eq_false_iff_not] at h1
    by_cases e2 : h = j
    · rw [if_neg (by omega), decide_eq_false_iff_not]
      omega
    · rw [if_neg e2, decide_eq_false_iff_not] at h2
      rw [if_neg (by omega), decide_eq_false_iff_not]
      omega
theorem betB_total {l m : List Int} {g h : Int} (h1 : betB l g m h = false) (h2 : betB m h l g = false) : l = m ∧ g = h := by
  unfold betB at h1 h2
  by_cases e : g = h
  · rw [if_pos e] at h1
    rw [if_pos e.symm] at h2
    exact ⟨befB_total h1 h2, e⟩
  · rw [if_neg e, decide_eq_false_iff_not] at h1
    rw [if_neg (Ne.symm e), decide_eq_false_iff_not] at h2
    omega
/-- The one that is kept is not worse than any other one. -/
theorem fold_best {α : Type} (R : α → α → Bool) (ha : ∀ a b, R a b = true → R b a = false) (hn : ∀ a b c, R a b = false → R b c = false → R a c = false) :
    ∀ (l : List α) (a : α), (l.foldl (fun o c => if R c o then c else o) a = a ∨ l.foldl (fun o c => if R c o then c else o) a ∈ l) ∧ R a (l.foldl (fun o c => if R c o then c else o) a) = false ∧ ∀ c ∈ l, R c (l.foldl (fun o c => if R c o then c else o) a) = false
  | [], a => ⟨.inl rfl, (by
      cases h : R a a
      · simpa using h
      · rw [ha a a h] at h; cases h), fun c h => by cases h⟩
  | c :: l, a => by
    rw [List.foldl_cons]
    cases hc : R c a
    · obtain ⟨h1, h2, h3⟩ := fold_best R ha hn l a
      simp only [Bool.false_eq_true, if_false]
      refine ⟨h1.imp id (fun h => List.mem_cons_of_mem _ h), h2, fun e he => ?_⟩
      rcases List.mem_cons.1 he with rfl | he
      · exact hn _ _ _ hc h2
      · exact h3 e he
    · obtain ⟨h1, h2, h3⟩ := fold_best R ha hn l c
      simp only [if_true]
      refine ⟨.inr (h1.elim (fun h => by rw [h]; exact List.mem_cons_self) (fun h => List.mem_cons_of_mem _ h)), hn _ _ _ (ha _ _ hc) h2, fun e he => ?_⟩
      rcases List.mem_cons.1 he with rfl | he
      · exact h2
      · exact h3 e he

/-- Those of a choice below a lot. -/
def cutF (s : Nat → Bool) (i : Nat) : Nat → Bool := fun j => s j && decide (j < i)
theorem rnd_mem (ng : Nat → (Nat → Bool) → Bool) (l : Nat → Bool) : ∀ (d x : Nat) (c : Nat → Bool), (∀ i, x ≤ i → c i = false) → ∀ s, (s = c ∨ s ∈ rnd ng l d x c) ↔ ((∀ i, ¬ (x ≤ i ∧ i < x + d) → s i = c i) ∧ ∀ i, x ≤ i → i < x + d → s i = true → l i = true ∧ ng i (cutF s i) = false)
  | 0, x, c, hc, s => by
    simp only [rnd, List.not_mem_nil, or_false]
    constructor
    · rintro rfl
      exact ⟨fun _ _ => rfl, fun i h1 h2 => by omega⟩
    · rintro ⟨h, _⟩
      funext i
      exact h i (by omega)
  | d + 1, x, c, hc, s => by
    have hw : ∀ i, x + 1 ≤ i → withF c x i = false := fun i hi => by
      unfold withF
      rw [if_neg (by omega)]
      exact hc i (by omega)
    have i1 := rnd_mem ng l d (x + 1) (withF c x) hw s
    have i2 := rnd_mem ng l d (x + 1) c (fun i hi => hc i (by omega)) s
    have hcut : (∀ j, j < x → s j = c j) → cutF s x = c := fun h => by
      funext j
      unfold cutF
      by_cases hj : j < x
      · simp [hj, h j hj]
      · simp [hj, hc j (by omega)]
    have e : (s = c ∨ s ∈ rnd ng l (d + 1) x c) ↔ ((l x = true ∧ ng x c = false) ∧ (s = withF c x ∨ s ∈ rnd ng l d (x + 1) (withF c x))) ∨ (s = c ∨ s ∈ rnd ng l d (x + 1) c) := by
      rw [rnd, List.mem_append]
      by_cases hx : (l x && !ng x c) = true
      · rw [if_pos hx, List.mem_cons]
        simp only [Bool.and_eq_true, Bool.not_eq_true'] at hx
        constructor
        · rintro (h | h | h)
          · exact .inr (.inl h)
          · exact .inl ⟨hx, h⟩
          · exact .inr (.inr h)
        · rintro (⟨_, h⟩ | h | h)
          · exact .inr (.inl h)
          · exact .inl h
          · exact .inr (.inr h)
      · rw [if_neg hx]
        simp only [Bool.and_eq_true, Bool.not_eq_true'] at hx
        constructor
        · rintro (h | h | h)
          · exact .inr (.inl h)
          · cases h
          · exact .inr (.inr h)
        · rintro (⟨h, _⟩ | h | h)
          · exact absurd h hx
          · exact .inl h
          · exact .inr (.inr h)
    rw [e, i1, i2]
    constructor
    · rintro (⟨⟨h1, h2⟩, h3, h4⟩ | ⟨h3, h4⟩)
      · have hb : ∀ j, j < x → s j = c j := fun j hj => by
          rw [h3 j (by omega)]
          unfold withF
          rw [if_neg (by omega)]
        refine ⟨fun i hi => ?_, fun i hi1 hi2 hs => ?_⟩
        · rw [h3 i (by omega)]
          unfold withF
          rw [if_neg (by omega)]
        · by_cases hix : i = x
          · subst hix
            rw [hcut hb]
            exact ⟨h1, h2⟩
          · exact h4 i (by omega) (by omega) hs
      · refine ⟨fun i hi => h3 i (by omega), fun i hi1 hi2 hs => ?_⟩
        by_cases hix : i = x
        · subst hix
          rw [h3 i (by omega), hc i (by omega)] at hs
          cases hs
        · exact h4 i (by omega) (by omega) hs
    · rintro ⟨h1, h2⟩
      have hb : ∀ j, j < x → s j = c j := fun j hj => h1 j (by omega)
      cases hs : s x
      · refine .inr ⟨fun i hi => ?_, fun i hi1 hi2 => h2 i (by omega) (by omega)⟩
        by_cases hix : i = x
        · subst hix
          rw [hs, hc i (by omega)]
        · exact h1 i (by omega)
      · have h3 := h2 x (by omega) (by omega) hs
        rw [hcut hb] at h3
        refine .inl ⟨h3, fun i hi => ?_, fun i hi1 hi2 => h2 i (by omega) (by omega)⟩
        unfold withF
        by_cases hix : i = x
        · subst hix
          rw [if_pos rfl, hs]
        · rw [if_neg hix]
          exact h1 i (by omega)
theorem ngK_cut {b : Yb} {k : Bool} {i : Nat} {s : Nat → Bool} (hi : i ≤ 7) : ngK b k i (cutF s i) = false ↔ ∀ j, j < i → s j = true → nearK b k i j = false := by
  unfold ngK
  rw [List.any_eq_false]
  constructor
  · intro h j hj hs
    have := h j (lotsL_mem.2 ⟨by omega, by simp [cutF, hs, hj]⟩)
    simpa using this
  · intro h j hj
    obtain ⟨h1, h2⟩ := lotsL_mem.1 hj
    simp only [cutF, Bool.and_eq_true, decide_eq_true_eq] at h2
    simp [h j h2.2 h2.1]
/-- The choices of some lots that are allowed. -/
theorem choK_mem {b : Yb} {k : Bool} {of : Nat → Bool} (hn : b.lots.length ≤ 7) (s : Nat → Bool) :
    s ∈ choK b k of ↔ (∀ i, s i = true → i < b.lots.length ∧ of i = true ∧ servK b k i = true) ∧ ∀ i j, j < i → s i = true → s j = true → nearK b k i j = false := by
  unfold choK
  rw [List.mem_cons, rnd_mem (ngK b k) _ b.lots.length 0 noneF (fun _ _ => rfl) s]
  constructor
  · rintro ⟨h1, h2⟩
    have hlt : ∀ i, s i = true → i < b.lots.length := fun i hs => by
      rcases Nat.lt_or_ge i b.lots.length with h | h
      · exact h
      · rw [h1 i (by omega)] at hs
        cases hs
    refine ⟨fun i hs => ?_, fun i j hj hs hsj => ?_⟩
    · have h3 := (h2 i (by omega) (by have := hlt i hs; omega) hs).1
      simp only [Bool.and_eq_true] at h3
      exact ⟨hlt i hs, h3⟩
    · have h3 := (h2 i (by omega) (by have := hlt i hs; omega) hs).2
      exact (ngK_cut (by have := hlt i hs; omega)).1 h3 j hj hsj
  · rintro ⟨h1, h2⟩
    refine ⟨fun i hi => ?_, fun i _ hi hs => ⟨?_, ?_⟩⟩
    · show s i = false
      cases hs : s i
      · rfl
      · have := (h1 i hs).1
        omega
    · simp only [Bool.and_eq_true]
      exact (h1 i hs).2
    · exact (ngK_cut (by omega)).2 fun j hj hsj => h2 i j hj hs hsj
theorem pairs_any (f : Nat → Nat → Bool) : ∀ (l : List Nat), pairsL f l = [] ↔ l.Pairwise (fun x y => f x y = false)
  | [] => by simp [pairsL]
  | x :: l => by
    rw [pairsL, List.append_eq_nil_iff, List.map_eq_nil_iff, List.filter_eq_nil_iff, pairs_any f l, List.pairwise_cons]
    simp
theorem lotsL_sorted (c : Nat → Bool) : (lotsL c).Pairwise (· < ·) := List.pairwise_lt_range.filter _
theorem pairwise_sorted {P : Nat → Nat → Prop} : ∀ {l : List Nat}, l.Pairwise (· < ·) → (l.Pairwise P ↔ ∀ i j, i ∈ l → j ∈ l → i < j → P i j)
  | [], _ => by simp
  | x :: l, h => by
    rw [List.pairwise_cons] at h ⊢
    rw [pairwise_sorted h.2]
    constructor
    · rintro ⟨h1, h2⟩ i j hi hj hij
      rcases List.mem_cons.1 hi with rfl | hi'
      · rcases List.mem_cons.1 hj with rfl | hj'
        · omega
        · exact h1 j hj'
      · rcases List.mem_cons.1 hj with e | hj'
        · have := h.1 i hi'; omega
        · exact h2 i j hi' hj' hij
    · intro h2
      exact ⟨fun j hj => h2 x j (by simp) (by simp [hj]) (h.1 j hj), fun i j hi hj => h2 i j (by simp [hi]) (by simp [hj])⟩
theorem allowK_iff {b : Yb} {k : Bool} {c : Nat → Bool} : allowK b k c = true ↔ (∀ i, i < 7 → c i = true → servK b k i = true) ∧ ∀ i j, i < 7 → j < 7 → i < j → c i = true → c j = true → nearK b k i j = false := by
  unfold allowK
  rw [Bool.and_eq_true, List.isEmpty_iff, pairs_any, pairwise_sorted (lotsL_sorted c), List.all_eq_true]
  constructor
  · rintro ⟨h1, h2⟩
    refine ⟨fun i hi hc => ?_, fun i j hi hj hij hci hcj => h1 i j (lotsL_mem.2 ⟨hi, hci⟩) (lotsL_mem.2 ⟨hj, hcj⟩) hij⟩
    have := h2 i (List.mem_range.2 hi)
    simpa [unservF, hc] using this
  · rintro ⟨h1, h2⟩
    refine ⟨fun i j hi hj hij => ?_, fun i hi => ?_⟩
    · have hi := lotsL_mem.1 hi
      have hj := lotsL_mem.1 hj
      exact h2 i j hi.1 hj.1 hij hi.2 hj.2
    · have hi := List.mem_range.1 hi
      cases hc : c i
      · simp [unservF, hc]
      · simp [unservF, hc, h1 i hi hc]
theorem cho_allow {b : Yb} {k : Bool} {of : Nat → Bool} (hn : b.lots.length ≤ 7) (s : Nat → Bool) :
    s ∈ choK b k of ↔ (∀ i, s i = true → i < b.lots.length ∧ of i = true) ∧ allowK b k s = true := by
  rw [choK_mem hn, allowK_iff]
  constructor
  · rintro ⟨h1, h2⟩
    exact ⟨fun i hs => ⟨(h1 i hs).1, (h1 i hs).2.1⟩, fun i _ hs => (h1 i hs).2.2, fun i j _ _ hij hi hj => by rw [nearK_comm]; exact h2 j i hij hj hi⟩
  · rintro ⟨h1, h2, h3⟩
    refine ⟨fun i hs => ⟨(h1 i hs).1, (h1 i hs).2, h2 i (by have := (h1 i hs).1; omega) hs⟩, fun i j hij hi hj => ?_⟩
    rw [nearK_comm]
    exact h3 j i (by have := (h1 j hj).1; omega) (by have := (h1 i hi).1; omega) hij hj hi
theorem bestK_is {b : Yb} (k : Bool) (hn : b.lots.length ≤ 7) :
    ((∀ i, bestK b k i = true → i < b.lots.length) ∧ allowK b k (bestK b k) = true) ∧ ∀ c, (∀ i, c i = true → i < b.lots.length) → allowK b k c = true → betK b k c (bestK b k) = false := by
  have h := fold_best (betK b k) (fun _ _ h => betB_asym h) (fun _ _ _ h1 h2 => betB_neg h1 h2) (choK b k (allF b)) noneF
  change (bestK b k = noneF ∨ bestK b k ∈ choK b k (allF b)) ∧ betK b k noneF (bestK b k) = false ∧ ∀ c ∈ choK b k (allF b), betK b k c (bestK b k) = false at h
  obtain ⟨h1, _, h3⟩ := h
  have h1 : bestK b k ∈ choK b k (allF b) := h1.elim (fun e => by rw [e]; exact List.mem_cons_self) id
  rw [cho_allow hn] at h1
  refine ⟨⟨fun i hi => (h1.1 i hi).1, h1.2⟩, fun c hc ha => h3 c ((cho_allow hn c).2 ⟨fun i hi => ⟨hc i hi, ?_⟩, ha⟩)⟩
  simp [allF, hc i hi]
theorem clearF_is {b : Yb} (c : Nat → Bool) (hn : b.lots.length ≤ 7) (hc : ∀ i, c i = true → i < b.lots.length) :
    ((∀ i, clearF b c i = true → c i = true) ∧ allowK b false (restF c (clearF b c)) = true) ∧
      ∀ e, (∀ i, e i = true → c i = true) → allowK b false (restF c e) = true → befB (intsN (lotsL e)) (intsN (lotsL (clearF b c))) = false := by
  have hrr : ∀ e : Nat → Bool, (∀ i, e i = true → c i = true) → restF c (restF c e) = e := fun e he => by
    funext i
    unfold restF
    cases h : e i
    · cases c i <;> rfl
    · rw [he i h]; rfl
  have hf : clearF b c = ((choK b false c).map (restF c)).foldl (fun o e => if befB (intsN (lotsL e)) (intsN (lotsL o)) then e else o) c := by
    unfold clearF
    rw [List.foldl_map]
    rfl
  have h := fold_best (fun a e => befB (intsN (lotsL a)) (intsN (lotsL e))) (fun _ _ h => befB_asym h) (fun _ _ _ h1 h2 => befB_neg h1 h2) ((choK b false c).map (restF c)) c
  rw [← hf] at h
  obtain ⟨h1, h2, h3⟩ := h
  have hmem : ∀ e, (∀ i, e i = true → c i = true) → allowK b false (restF c e) = true → befB (intsN (lotsL e)) (intsN (lotsL (clearF b c))) = false := fun e he ha => by
    have : e ∈ (choK b false c).map (restF c) := List.mem_map.2 ⟨restF c e, (cho_allow hn _).2 ⟨fun i hi => by
      simp only [restF, Bool.and_eq_true] at hi
      exact ⟨hc i hi.1, hi.1⟩, ha⟩, hrr e he⟩
    exact h3 e this
  refine ⟨?_, hmem⟩
  rcases h1 with h1 | h1
  · rw [h1]
    refine ⟨fun _ h => h, allowK_iff.2 ⟨fun i _ hi => ?_, fun i j _ _ _ hi => ?_⟩⟩
    · simp [restF] at hi
    · simp [restF] at hi
  · obtain ⟨e, he, h1⟩ := List.mem_map.1 h1
    rw [← h1]
    have := (cho_allow hn e).1 he
    refine ⟨fun i hi => ?_, ?_⟩
    · simp only [restF, Bool.and_eq_true] at hi
      exact hi.1
    · rw [hrr e (fun i hi => (this.1 i hi).2)]
      exact this.2
end Go.Proofs.Ytajkgfeockcbpaa
