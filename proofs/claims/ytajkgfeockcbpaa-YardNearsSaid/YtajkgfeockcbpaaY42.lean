/- Layer 6, in plain lists: what is so in a truth lies between its ends. -/
import Derived.Test.YtajkgfeockcbpaaY40
namespace Go.Proofs.Ytajkgfeockcbpaa
open Go.RowKit

/-- The true distance that numbers choose. -/
def trulyV (e : Int) (s t : Int × Int) (xs : List Int) (salt : Int) : Int := max 0 (told s t - e + spin (item xs salt) (2 * e + 1))
theorem truly_in {e : Int} (h0 : 0 ≤ e) (s t : Int × Int) (xs : List Int) (salt : Int) : farLo e s t ≤ trulyV e s t xs salt ∧ trulyV e s t xs salt ≤ farHi e s t := by
  have h1 := spin_range (item xs salt) (2 * e + 1) (by omega)
  have h2 := told_nn s t
  unfold trulyV farLo farHi
  omega
def closeV (b : Yb) (lot : Nat) (l : List (Int × Int)) (most : Int) (xs : List Int) (salt : Int) : Bool :=
  (List.range l.length).any fun i => decide (trulyV b.err (lotAt b lot).sp (l.getD i (0, 0)) xs (salt + 7 * (i : Int) + (lot : Int)) ≤ most)
theorem any_get {α : Type} (l : List α) (d : α) (p : α → Bool) : l.any p = (List.range l.length).any fun i => p (l.getD i d) := by
  rw [Bool.eq_iff_iff, List.any_eq_true, List.any_eq_true]
  constructor
  · rintro ⟨x, hx, h⟩
    obtain ⟨i, hi, rfl⟩ := List.mem_iff_getElem.1 hx
    exact ⟨i, List.mem_range.2 hi, by simpa [List.getD, hi] using h⟩
  · rintro ⟨i, hi, h⟩
    have hi := List.mem_range.1 hi
    exact ⟨l[i], List.getElem_mem hi, by simpa [List.getD, hi] using h⟩
theorem close_worst {b : Yb} (h0 : 0 ≤ b.err) {lot : Nat} {l : List (Int × Int)} {most : Int} (xs : List Int) (salt : Int) (h : reachK b false lot l most = true) : closeV b lot l most xs salt = true := by
  unfold reachK at h
  rw [any_get l (0, 0)] at h
  unfold closeV
  rw [List.any_eq_true] at h ⊢
  obtain ⟨i, hi, h⟩ := h
  refine ⟨i, hi, ?_⟩
  simp only [decide_eq_true_eq] at h ⊢
  have h2 := truly_in h0 (lotAt b lot).sp (l.getD i (0, 0)) xs (salt + 7 * (i : Int) + (lot : Int))
  unfold away at h
  rw [if_neg (by simp)] at h
  omega
theorem close_kind {b : Yb} (h0 : 0 ≤ b.err) {lot : Nat} {l : List (Int × Int)} {most : Int} {xs : List Int} {salt : Int} (h : closeV b lot l most xs salt = true) : reachK b true lot l most = true := by
  unfold reachK
  rw [any_get l (0, 0)]
  unfold closeV at h
  rw [List.any_eq_true] at h ⊢
  obtain ⟨i, hi, h⟩ := h
  refine ⟨i, hi, ?_⟩
  simp only [decide_eq_true_eq] at h ⊢
  have h2 := truly_in h0 (lotAt b lot).sp (l.getD i (0, 0)) xs (salt + 7 * (i : Int) + (lot : Int))
  unfold away
  rw [if_pos rfl]
  omega
/-- The two of a choice are truly apart; one of it is truly near enough, and apart from all ahead of it. -/
def apartV (b : Yb) (xs : List Int) (i j : Nat) : Bool := !decide (trulyV b.err (lotAt b i).sp (lotAt b j).sp xs (8 * (i : Int) + (j : Int)) < b.apart)
def heldI (b : Yb) (l : List Nat) (xs : List Int) (i : Nat) : Bool :=
  (closeV b (l.getD i 0) b.doors b.door xs 3 && closeV b (l.getD i 0) b.buckets b.bucket xs 5) && (List.range i).all fun k => apartV b xs (l.getD k 0) (l.getD i 0)
def heldV (b : Yb) (l : List Nat) (xs : List Int) : Bool := (List.range l.length).all (heldI b l xs)
theorem held_worst {b : Yb} (h0 : 0 ≤ b.err) {f : Nat → Bool} (xs : List Int) (h : allowK b false f = true) : heldV b (lotsL f) xs = true := by
  obtain ⟨h1, h2⟩ := allowK_iff.1 h
  have hs := List.pairwise_iff_getElem.1 (lotsL_sorted f)
  unfold heldV
  rw [List.all_eq_true]
  intro i hi
  have hi := List.mem_range.1 hi
  have hm := lotsL_mem.1 (List.getElem_mem hi)
  unfold heldI
  rw [Bool.and_eq_true, Bool.and_eq_true, List.all_eq_true]
  have e : (lotsL f).getD i 0 = (lotsL f)[i] := by simp [List.getD, hi]
  rw [e]
  have h3 := h1 _ hm.1 hm.2
  unfold servK at h3
  rw [Bool.and_eq_true] at h3
  refine ⟨⟨close_worst h0 xs 3 h3.1, close_worst h0 xs 5 h3.2⟩, fun k hk => ?_⟩
  have hk := List.mem_range.1 hk
  have hkl : k < (lotsL f).length := by omega
  have e2 : (lotsL f).getD k 0 = (lotsL f)[k] := by simp [List.getD, hkl]
  rw [e2]
  have hmk := lotsL_mem.1 (List.getElem_mem hkl)
  have h4 := h2 _ _ hmk.1 hm.1 (hs k i hkl hi hk) hmk.2 hm.2
  unfold nearK betw at h4
  rw [if_neg (by simp), decide_eq_false_iff_not] at h4
  have h5 := truly_in h0 (lotAt b (lotsL f)[k]).sp (lotAt b (lotsL f)[i]).sp xs (8 * (((lotsL f)[k] : Nat) : Int) + (((lotsL f)[i] : Nat) : Int))
  unfold apartV
  rw [decide_eq_false (by omega)]
  rfl
theorem held_kind {b : Yb} (h0 : 0 ≤ b.err) {f : Nat → Bool} {xs : List Int} (h : heldV b (lotsL f) xs = true) : allowK b true f = true := by
  unfold heldV at h
  rw [List.all_eq_true] at h
  have key : ∀ i (hi : i < (lotsL f).length), (closeV b (lotsL f)[i] b.doors b.door xs 3 = true ∧ closeV b (lotsL f)[i] b.buckets b.bucket xs 5 = true) ∧ ∀ k (hk : k < i), apartV b xs ((lotsL f)[k]'(by omega)) (lotsL f)[i] = true := by
    intro i hi
    have h1 := h i (List.mem_range.2 hi)
    unfold heldI at h1
    rw [Bool.and_eq_true, Bool.and_eq_true, List.all_eq_true] at h1
    have e : (lotsL f).getD i 0 = (lotsL f)[i] := by simp [List.getD, hi]
    rw [e] at h1
    refine ⟨h1.1, fun k hk => ?_⟩
    have h2 := h1.2 k (List.mem_range.2 hk)
    have e2 : (lotsL f).getD k 0 = (lotsL f)[k]'(by omega) := by simp [List.getD, show k < (lotsL f).length by omega]
    rw [e2] at h2
    exact h2
  refine allowK_iff.2 ⟨fun i hi hf => ?_, fun i j hi hj hij hfi hfj => ?_⟩
  · obtain ⟨q, hq, rfl⟩ := List.mem_iff_getElem.1 (lotsL_mem.2 ⟨hi, hf⟩)
    have h1 := (key q hq).1
    unfold servK
    rw [close_kind h0 h1.1, close_kind h0 h1.2]
    rfl
  · obtain ⟨q, hq, rfl⟩ := List.mem_iff_getElem.1 (lotsL_mem.2 ⟨hi, hfi⟩)
    obtain ⟨r, hr, rfl⟩ := List.mem_iff_getElem.1 (lotsL_mem.2 ⟨hj, hfj⟩)
    have hqr : q < r := by
      rcases Nat.lt_trichotomy q r with h | h | h
      · exact h
      · subst h; omega
      · have := List.pairwise_iff_getElem.1 (lotsL_sorted f) r q hr hq h
        omega
    have h1 := (key r hr).2 q hqr
    unfold apartV at h1
    simp only [Bool.not_eq_true', decide_eq_false_iff_not] at h1
    have h5 := truly_in h0 (lotAt b (lotsL f)[q]).sp (lotAt b (lotsL f)[r]).sp xs (8 * (((lotsL f)[q] : Nat) : Int) + (((lotsL f)[r] : Nat) : Int))
    unfold nearK betw
    rw [if_pos rfl, decide_eq_false_iff_not]
    omega
/-- What a lot truly has, as numbers choose it. -/
def lotV (b : Yb) (xs : List Int) (i : Nat) : Int := (lotAt b i).lo + spin (item xs i) ((lotAt b i).hi - (lotAt b i).lo + 1)
def stockV (b : Yb) (xs : List Int) (l : List Nat) : Int := (l.map (lotV b xs)).sum
theorem lotV_in {b : Yb} (hb : YbOk b) (xs : List Int) {i : Nat} (hi : i < b.lots.length) : (0 ≤ (lotAt b i).lo ∧ (lotAt b i).hi ≤ 99) ∧ (lotAt b i).lo ≤ lotV b xs i ∧ lotV b xs i ≤ (lotAt b i).hi := by
  have h := (lotB_iff.1 (lotAt_ok hb hi)).2
  have h1 := spin_range (item xs i) ((lotAt b i).hi - (lotAt b i).lo + 1) (by omega)
  unfold lotV
  omega
theorem sum_le_sum (f g : Nat → Int) : ∀ l : List Nat, (∀ i ∈ l, f i ≤ g i) → (l.map f).sum ≤ (l.map g).sum
  | [], _ => by simp
  | x :: l, h => by
    have h1 := h x (by simp)
    have h2 := sum_le_sum f g l (fun i hi => h i (by simp [hi]))
    simp only [List.map_cons, List.sum_cons]
    omega
theorem stock_in {b : Yb} (hb : YbOk b) (xs : List Int) {f : Nat → Bool} (hf : ∀ i, f i = true → i < b.lots.length) : goodsK b false f ≤ stockV b xs (lotsL f) ∧ stockV b xs (lotsL f) ≤ goodsK b true f := by
  have h : ∀ i ∈ lotsL f, i < b.lots.length := fun i hi => hf i (lotsL_mem.1 hi).2
  unfold goodsK stockV
  exact ⟨sum_le_sum _ _ _ fun i hi => (by unfold roomK; rw [if_neg (by simp)]; exact (lotV_in hb xs (h i hi)).2.1), sum_le_sum _ _ _ fun i hi => (by unfold roomK; rw [if_pos rfl]; exact (lotV_in hb xs (h i hi)).2.2)⟩
theorem goods_ends {b : Yb} (hb : YbOk b) {f : Nat → Bool} (hf : ∀ i, f i = true → i < b.lots.length) : goodsK b false f ≤ goodsK b true f := by
  have := stock_in hb [] hf
  omega
/-- What is allowed in each truth is in some. -/
theorem allow_ends {b : Yb} (h0 : 0 ≤ b.err) {f : Nat → Bool} (h : allowK b false f = true) : allowK b true f = true := held_kind h0 (held_worst h0 [] h)
theorem betK_goods {b : Yb} {k : Bool} {c e : Nat → Bool} (h : betK b k c e = false) : goodsK b k c ≤ goodsK b k e := by
  unfold betK betB at h
  split at h
  · rename_i h1
    omega
  · simp only [decide_eq_false_iff_not] at h
    omega
theorem top_is {b : Yb} (k : Bool) (hn : b.lots.length ≤ 7) {c : Nat → Bool} (hc : ∀ i, c i = true → i < b.lots.length) (ha : allowK b k c = true) : goodsK b k c ≤ topK b k := betK_goods ((bestK_is k hn).2 c hc ha)
theorem top_ends {b : Yb} (hb : YbOk b) : topK b false ≤ topK b true := by
  have h := (bestK_is (b := b) false hb.n7).1
  have h1 := top_is true hb.n7 h.1 (allow_ends hb.e0 h.2)
  have h2 := goods_ends hb h.1
  unfold topK at h1 ⊢
  omega
theorem kindN_as (f : Bool → Bool) (x y : Bool) (hx : f false = x) (hy : f true = y) : kindN f = (if x = true then 1 else 0) + (if y = true then 1 else 0) := by
  subst hx hy
  rfl
theorem allow_kind {b : Yb} (h0 : 0 ≤ b.err) (f : Nat → Bool) : (kindN (fun k => allowK b k f) = if allowK b false f then 2 else if allowK b true f then 1 else 0) := by
  have key : ∀ x y, allowK b false f = x → allowK b true f = y → (x = true → y = true) → kindN (fun k => allowK b k f) = if x then 2 else if y then 1 else 0 := by
    intro x y hx hy h
    rw [kindN_as (fun k => allowK b k f) x y hx hy]
    cases x <;> cases y <;> simp at h ⊢
  exact key _ _ rfl rfl (allow_ends h0)
end Go.Proofs.Ytajkgfeockcbpaa
