/- Layer 6, in plain lists: choices as lists of numbers, and as sets. -/
import Derived.Test.YtajkgfeockcbpaaY2
namespace Go.Proofs.Ytajkgfeockcbpaa
open Go.RowKit

/-- Is a number in a set? As the machine reckons it. -/
def inS (s i : Nat) : Bool := bits BinOp.and IntKind.i64 ((s : Int) / 2 ^ i) 1 == 1
/-- The members of a set below a number. -/
def marksN (s n : Nat) : List Nat := (List.range n).filter (inS s)
theorem marksN_succ (s n : Nat) : marksN s (n + 1) = if inS s n then marksN s n ++ [n] else marksN s n := by
  unfold marksN
  rw [List.range_succ, List.filter_append]
  cases h : inS s n <;> simp [h]
theorem marksN_length (s n : Nat) : (marksN s n).length ≤ n := by
  unfold marksN
  exact Nat.le_trans (List.length_filter_le _ _) (by simp)
def marksL (s n : Nat) : List Int := (marksN s n).map fun (i : Nat) => (i : Int)
theorem marksL_succ (s n : Nat) : marksL s (n + 1) = if inS s n then marksL s n ++ [(n : Int)] else marksL s n := by
  unfold marksL
  rw [marksN_succ]
  split <;> simp
theorem marksL_length (s n : Nat) : (marksL s n).length ≤ n := by
  unfold marksL
  rw [List.length_map]
  exact marksN_length s n
theorem bits_all : ∀ b0 b1 b2 b3 b4 b5 b6 b7 : Bool, ((List.range 256).any fun s => decide (inS s 0 = b0 ∧ inS s 1 = b1 ∧ inS s 2 = b2 ∧ inS s 3 = b3 ∧ inS s 4 = b4 ∧ inS s 5 = b5 ∧ inS s 6 = b6 ∧ inS s 7 = b7)) = true := by decide +kernel
theorem bits_low : ((List.range 9).all fun n => (List.range 256).all fun s => decide (s < 2 ^ n) || ((List.range 8).any fun i => decide (n ≤ i) && inS s i)) = true := by decide +kernel
theorem set_of (p : Nat → Bool) : ∃ s, s < 256 ∧ ∀ i, i < 8 → inS s i = p i := by
  obtain ⟨s, hs, h⟩ := List.any_eq_true.1 (bits_all (p 0) (p 1) (p 2) (p 3) (p 4) (p 5) (p 6) (p 7))
  simp only [decide_eq_true_eq] at h
  obtain ⟨h0, h1, h2, h3, h4, h5, h6, h7⟩ := h
  refine ⟨s, List.mem_range.1 hs, fun i hi => ?_⟩
  obtain rfl | rfl | rfl | rfl | rfl | rfl | rfl | rfl : i = 0 ∨ i = 1 ∨ i = 2 ∨ i = 3 ∨ i = 4 ∨ i = 5 ∨ i = 6 ∨ i = 7 := by omega
  all_goals assumption
/-- A set of numbers below another one is below its power. -/
theorem set_below {n : Nat} (hn : n ≤ 8) (p : Nat → Bool) (hp : ∀ i, p i = true → i < n) : ∃ s, s < 2 ^ n ∧ ∀ i, i < 8 → inS s i = p i := by
  obtain ⟨s, hs, hb⟩ := set_of p
  refine ⟨s, ?_, hb⟩
  have h1 := List.all_eq_true.1 bits_low n (List.mem_range.2 (by omega))
  have h2 := List.all_eq_true.1 h1 s (List.mem_range.2 hs)
  rw [Bool.or_eq_true] at h2
  rcases h2 with h2 | h2
  · simpa using h2
  · obtain ⟨i, hi, h3⟩ := List.any_eq_true.1 h2
    rw [Bool.and_eq_true] at h3
    have h4 := hb i (List.mem_range.1 hi)
    rw [h3.2] at h4
    have h5 := hp i h4.symm
    have h6 := h3.1
    simp only [decide_eq_true_eq] at h6
    omega
theorem pow_few {n : Nat} (h : n ≤ 8) : 1 ≤ 2 ^ n ∧ 2 ^ n ≤ 256 := by
  obtain rfl | rfl | rfl | rfl | rfl | rfl | rfl | rfl | rfl : n = 0 ∨ n = 1 ∨ n = 2 ∨ n = 3 ∨ n = 4 ∨ n = 5 ∨ n = 6 ∨ n = 7 ∨ n = 8 := by omega
  all_goals decide
/-- The choice that a set is. -/
def setF (n s : Nat) : Nat → Bool := fun i => decide (i < n) && inS s i
theorem setF_lt {n s i : Nat} (h : setF n s i = true) : i < n := by
  unfold setF at h
  simp only [Bool.and_eq_true, decide_eq_true_eq] at h
  exact h.1
theorem filter_below {n m : Nat} (h : n ≤ m) (p : Nat → Bool) (hp : ∀ i, p i = true → i < n) : (List.range m).filter p = (List.range n).filter p := by
  induction m with
  | zero =>
    have : n = 0 := by omega
    subst this
    rfl
  | succ m ih =>
    by_cases e : n = m + 1
    · rw [e]
    · rw [List.range_succ, List.filter_append, ih (by omega)]
      cases hq : p m
      · simp [hq]
      · have := hp m hq
        omega
theorem lotsL_set {n s : Nat} (h : n ≤ 7) : lotsL (setF n s) = marksN s n := by
  unfold lotsL
  rw [filter_below h _ (fun i hi => setF_lt hi)]
  unfold marksN
  exact List.filter_congr fun i hi => by
    have := List.mem_range.1 hi
    simp [setF, this]
theorem marksL_set {n s : Nat} (h : n ≤ 7) : marksL s n = intsN (lotsL (setF n s)) := by
  rw [lotsL_set h]
  rfl
/-- Each choice of so many lots is that of a set. -/
theorem setF_all {n : Nat} (hn : n ≤ 7) (f : Nat → Bool) (hf : ∀ i, f i = true → i < n) : ∃ s, s < 2 ^ n ∧ setF n s = f := by
  obtain ⟨s, hs, hb⟩ := set_below (n := n) (by omega) f hf
  refine ⟨s, hs, ?_⟩
  funext i
  unfold setF
  by_cases h : i < n
  · simp [h, hb i (by omega)]
  · cases hi : f i
    · simp [h]
    · exact absurd (hf i hi) h
theorem readL_sorted (many : Nat) : ∀ (l : List Nat) (nx : Nat) (c : Nat → Bool), l.Pairwise (· < ·) → (∀ x ∈ l, nx ≤ x ∧ x < many) → readL many (intsN l) nx c = some (fun i => c i || decide (i ∈ l))
  | [], nx, c, _, _ => by
    simp [intsN, readL]
  | x :: l, nx, c, h, hx => by
    have h0 := hx x (by simp)
    rw [List.pairwise_cons] at h
    have ih := readL_sorted many l (x + 1) (withF c x) h.2 (fun y hy => ⟨h.1 y hy, (hx y (by simp [hy])).2⟩)
    show readL many ((x : Int) :: intsN l) nx c = _
    rw [readL, if_pos ⟨by omega, by omega⟩, Int.toNat_natCast, show (x : Int) + 1 = ((x + 1 : Nat) : Int) by omega, ih]
    congr 1
    funext i
    unfold withF
    by_cases e : i = x
    · simp [e]
    · simp [e]
theorem lotsL_dec (f : Nat → Bool) (hf : ∀ i, f i = true → i < 7) : (fun i => noneF i || decide (i ∈ lotsL f)) = f := by
  funext i
  simp only [noneF, Bool.false_or]
  cases h : f i
  · simp [lotsL_mem, h]
  · simp [lotsL_mem, h, hf i h]
/-- A choice that is told is read. -/
theorem readL_told {many : Nat} (hm : many ≤ 7) (f : Nat → Bool) (hf : ∀ i, f i = true → i < many) : readL many (intsN (lotsL f)) 0 noneF = some f := by
  rw [show (0 : Int) = ((0 : Nat) : Int) from rfl, readL_sorted many (lotsL f) 0 noneF (lotsL_sorted f) (fun x hx => ⟨by omega, hf x (lotsL_mem.1 hx).2⟩), lotsL_dec f (fun i h => by have := hf i h; omega)]
theorem intsN_len (l : List Nat) : (intsN l).length = l.length := by simp [intsN]
theorem intsN_get {l : List Nat} {i : Nat} (h : i < l.length) : at0 (intsN l) i = ((l[i] : Nat) : Int) := by
  rw [at0_lt (by simpa [intsN] using h)]
  simp [intsN]
theorem intsN_inj {a b : List Nat} (h : intsN a = intsN b) : a = b := by
  unfold intsN at h
  exact List.map_inj_right (by intro x y e; omega) |>.1 h
theorem lotsL_inj {f g : Nat → Bool} (hf : ∀ i, f i = true → i < 7) (hg : ∀ i, g i = true → i < 7) (h : lotsL f = lotsL g) : f = g := by
  rw [← lotsL_dec f hf, ← lotsL_dec g hg, h]
/-- A sorted list of numbers of a choice is a choice. -/
theorem lotsL_of (l : List Nat) (hs : l.Pairwise (· < ·)) (h7 : ∀ x ∈ l, x < 7) : lotsL (fun i => decide (i ∈ l)) = l := by
  unfold lotsL
  have h1 : ((List.range 7).filter fun i => decide (i ∈ l)).Pairwise (· < ·) := List.pairwise_lt_range.filter _
  refine List.Perm.eq_of_pairwise (le := fun a b => a < b) (fun a b _ _ h1 h2 => by omega) h1 hs ?_
  refine (List.perm_ext_iff_of_nodup (h1.imp (fun h => by omega)) (hs.imp (fun h => by omega))).2 fun a => ?_
  simp only [List.mem_filter, List.mem_range, decide_eq_true_eq]
  exact ⟨fun h => h.2, fun h => ⟨h7 a h, h⟩⟩
/-- Those of a list whose places are in a set. -/
def pickN (s : Nat) (l : List Nat) (k : Nat) : List Nat := ((List.range k).filter (inS s)).map fun i => l.getD i 0
theorem pickN_succ (s : Nat) (l : List Nat) (k : Nat) (h : k < l.length) : pickN s l (k + 1) = if inS s k then pickN s l k ++ [l[k]] else pickN s l k := by
  unfold pickN
  rw [List.range_succ, List.filter_append, List.map_append]
  cases hq : inS s k <;> simp [hq, List.getD, h]
theorem pickN_length (s : Nat) (l : List Nat) (k : Nat) : (pickN s l k).length ≤ k := by
  unfold pickN
  rw [List.length_map]
  exact Nat.le_trans (List.length_filter_le _ _) (by simp)
theorem pickN_mem {s : Nat} {l : List Nat} {k : Nat} (hk : k ≤ l.length) {x : Nat} (h : x ∈ pickN s l k) : x ∈ l := by
  unfold pickN at h
  obtain ⟨i, hi, rfl⟩ := List.mem_map.1 h
  have := List.mem_range.1 (List.mem_filter.1 hi).1
  simp [List.getD, show i < l.length by omega]
theorem pickN_sorted {s : Nat} {l : List Nat} (hs : l.Pairwise (· < ·)) : ∀ {k : Nat}, k ≤ l.length → (pickN s l k).Pairwise (· < ·) ∧ ∀ x ∈ pickN s l k, ∀ j (h : j < l.length), k ≤ j → x < l[j]
  | 0, _ => by simp [pickN]
  | k + 1, hk => by
    obtain ⟨h1, h2⟩ := pickN_sorted hs (k := k) (by omega)
    have hget := List.pairwise_iff_getElem.1 hs
    rw [pickN_succ s l k (by omega)]
    split
    · refine ⟨List.pairwise_append.2 ⟨h1, by simp, fun a ha b hb => ?_⟩, fun x hx j hj hkj => ?_⟩
      · rw [List.mem_singleton.1 hb]
        exact h2 a ha k (by omega) (by omega)
      · rcases List.mem_append.1 hx with hx | hx
        · exact h2 x hx j hj (by omega)
        · rw [List.mem_singleton.1 hx]
          exact hget k j (by omega) hj (by omega)
    · exact ⟨h1, fun x hx j hj hkj => h2 x hx j hj (by omega)⟩
/-- Some of a choice, as a set of places says. -/
def partF (f : Nat → Bool) (s : Nat) : Nat → Bool := fun i => decide (i ∈ pickN s (lotsL f) (lotsL f).length)
theorem partF_sub {f : Nat → Bool} {s i : Nat} (h : partF f s i = true) : f i = true := by
  unfold partF at h
  simp only [decide_eq_true_eq] at h
  exact (lotsL_mem.1 (pickN_mem (Nat.le_refl _) h)).2
theorem partF_lots (f : Nat → Bool) (s : Nat) : lotsL (partF f s) = pickN s (lotsL f) (lotsL f).length :=
  lotsL_of _ (pickN_sorted (lotsL_sorted f) (Nat.le_refl _)).1 (fun _ h => (lotsL_mem.1 (pickN_mem (Nat.le_refl _) h)).1)
/-- Each part of a choice is that of a set of places. -/
theorem partF_all {f g : Nat → Bool} (hg : ∀ i, g i = true → f i = true) (h7 : ∀ i, f i = true → i < 7) : ∃ s, s < 2 ^ (lotsL f).length ∧ partF f s = g := by
  have hl := lotsL_le f
  obtain ⟨s, hs, hb⟩ := set_below (n := (lotsL f).length) (by omega) (fun i => decide (i < (lotsL f).length) && g ((lotsL f).getD i 0)) (fun i hi => by
    simp only [Bool.and_eq_true, decide_eq_true_eq] at hi
    exact hi.1)
  refine ⟨s, hs, ?_⟩
  funext i
  unfold partF
  cases hgi : g i
  · simp only [decide_eq_false_iff_not]
    intro h
    unfold pickN at h
    obtain ⟨k, hk, rfl⟩ := List.mem_map.1 h
    have hkr := List.mem_filter.1 hk
    have hkl := List.mem_range.1 hkr.1
    have h2 := hb k (by omega)
    rw [hkr.2, hgi] at h2
    simp at h2
  · have hf := hg i hgi
    have hm : i ∈ lotsL f := lotsL_mem.2 ⟨h7 i hf, hf⟩
    obtain ⟨k, hk, rfl⟩ := List.mem_iff_getElem.1 hm
    simp only [decide_eq_true_eq]
    unfold pickN
    refine List.mem_map.2 ⟨k, List.mem_filter.2 ⟨List.mem_range.2 hk, ?_⟩, by simp [List.getD, hk]⟩
    rw [hb k (by omega)]
    simp [hk, List.getD, hgi]
/-- Those of a list that are not in another one. -/
theorem rest_lots (f g : Nat → Bool) : lotsL (restF f g) = (lotsL f).filter fun i => !g i := by
  unfold lotsL restF
  rw [List.filter_filter]
  refine List.filter_congr fun i _ => ?_
  cases f i <;> cases g i <;> rfl
end Go.Proofs.Ytajkgfeockcbpaa
/- Layer 6, in plain lists: what is so in a truth lies between its ends. -/
namespace Go.Proofs.Ytajkgfeockcbpaa
open Go.RowKit

/-- The true distance that numbers choose. -/
def trulyV (e : Int) (s t : Int × Int) (xs : List Int) (salt : Int) : Int := max 0 (told s t - e + spin (item xs salt) (2 * e + 1))
theorem truly_in {e : Int} (h0 : 0 ≤ e) (s t : Int × Int) (xs : List Int) (salt : Int) : farLo e s t ≤ trulyV e s t xs salt ∧ trulyV e s t xs salt ≤ farHi e s t := by
  have h1 := spin_range (item xs salt) (2 * e + 1) (by omega)
  have h2 := told_nn s t
  unfold trulyV farLo farHi
  omega
def closeV (b : Yb) (lot : Nat) (l : List (Int × Int)) (most : Int) (xs : List Int) (salt : Int) : Bool :=
  (List.range l.length).any fun i => decide (trulyV b.err (lotAt b lot).sp (l.getD i (0, 0)) xs (salt + 7 * (i : Int) + (lot : Int)) ≤ most)
theorem any_get {α : Type} (l : List α) (d : α) (p : α → Bool) : l.any p = (List.range l.length).any fun i => p (l.getD i d) := by
  rw [Bool.eq_iff_iff, List.any_eq_true, List.any_eq_true]
  constructor
  · rintro ⟨x, hx, h⟩
    obtain ⟨i, hi, rfl⟩ := List.mem_iff_getElem.1 hx
    exact ⟨i, List.mem_range.2 hi, by simpa [List.getD, hi] using h⟩
  · rintro ⟨i, hi, h⟩
    have hi := List.mem_range.1 hi
    exact ⟨l[i], List.getElem_mem hi, by simpa [List.getD, hi] using h⟩
theorem close_worst {b : Yb} (h0 : 0 ≤ b.err) {lot : Nat} {l : List (Int × Int)} {most : Int} (xs : List Int) (salt : Int) (h : reachK b false lot l most = true) : closeV b lot l most xs salt = true := by
  unfold reachK at h
  rw [any_get l (0, 0)] at h
  unfold closeV
  rw [List.any_eq_true] at h ⊢
  obtain ⟨i, hi, h⟩ := h
  refine ⟨i, hi, ?_⟩
  simp only [decide_eq_true_eq] at h ⊢
  have h2 := truly_in h0 (lotAt b lot).sp (l.getD i (0, 0)) xs (salt + 7 * (i : Int) + (lot : Int))
  unfold away at h
  rw [if_neg (by simp)] at h
  omega
theorem close_kind {b : Yb} (h0 : 0 ≤ b.err) {lot : Nat} {l : List (Int × Int)} {most : Int} {xs : List Int} {salt : Int} (h : closeV b lot l most xs salt = true) : reachK b true lot l most = true := by
  unfold reachK
  rw [any_get l (0, 0)]
  unfold closeV at h
  rw [List.any_eq_true] at h ⊢
  obtain ⟨i, hi, h⟩ := h
  refine ⟨i, hi, ?_⟩
  simp only [decide_eq_true_eq] at h ⊢
  have h2 := truly_in h0 (lotAt b lot).sp (l.getD i (0, 0)) xs (salt + 7 * (i : Int) + (lot : Int))
  unfold away
  rw [if_pos rfl]
  omega
/-- The two of a choice are truly apart; one of it is truly near enough, and apart from all ahead of it. -/
def apartV (b : Yb) (xs : List Int) (i j : Nat) : Bool := !decide (trulyV b.err (lotAt b i).sp (lotAt b j).sp xs (8 * (i : Int) + (j : Int)) < b.apart)
def heldI (b : Yb) (l : List Nat) (xs : List Int) (i : Nat) : Bool :=
  (closeV b (l.getD i 0) b.doors b.door xs 3 && closeV b (l.getD i 0) b.buckets b.bucket xs 5) && (List.range i).all fun k => apartV b xs (l.getD k 0) (l.getD i 0)
def heldV (b : Yb) (l : List Nat) (xs : List Int) : Bool := (List.range l.length).all (heldI b l xs)
theorem held_worst {b : Yb} (h0 : 0 ≤ b.err) {f : Nat → Bool} (xs : List Int) (h : allowK b false f = true) : heldV b (lotsL f) xs = true := by
  obtain ⟨h1, h2⟩ := allowK_iff.1 h
  have hs := List.pairwise_iff_getElem.1 (lotsL_sorted f)
  unfold heldV
  rw [List.all_eq_true]
  intro i hi
  have hi := List.mem_range.1 hi
  have hm := lotsL_mem.1 (List.getElem_mem hi)
  unfold heldI
  rw [Bool.and_eq_true, Bool.and_eq_true, List.all_eq_true]
  have e : (lotsL f).getD i 0 = (lotsL f)[i] := by simp [List.getD, hi]
  rw [e]
  have h3 := h1 _ hm.1 hm.2
  unfold servK at h3
  rw [Bool.and_eq_true] at h3
  refine ⟨⟨close_worst h0 xs 3 h3.1, close_worst h0 xs 5 h3.2⟩, fun k hk => ?_⟩
  have hk := List.mem_range.1 hk
  have hkl : k < (lotsL f).length := by omega
  have e2 : (lotsL f).getD k 0 = (lotsL f)[k] := by simp [List.getD, hkl]
  rw [e2]
  have hmk := lotsL_mem.1 (List.getElem_mem hkl)
  have h4 := h2 _ _ hmk.1 hm.1 (hs k i hkl hi hk) hmk.2 hm.2
  unfold nearK betw at h4
  rw [if_neg (by simp), decide_eq_false_iff_not] at h4
  have h5 := truly_in h0 (lotAt b (lotsL f)[k]).sp (lotAt b (lotsL f)[i]).sp xs (8 * (((lotsL f)[k] : Nat) : Int) + (((lotsL f)[i] : Nat) : Int))
  unfold apartV
  rw [decide_eq_false (by omega)]
  rfl
theorem held_kind {b : Yb} (h0 : 0 ≤ b.err) {f : Nat → Bool} {xs : List Int} (h : heldV b (lotsL f) xs = true) : allowK b true f = true := by
  unfold heldV at h
  rw [List.all_eq_true] at h
  have key : ∀ i (hi : i < (lotsL f).length), (closeV b (lotsL f)[i] b.doors b.door xs 3 = true ∧ closeV b (lotsL f)[i] b.buckets b.bucket xs 5 = true) ∧ ∀ k (hk : k < i), apartV b xs ((lotsL f)[k]'(by omega)) (lotsL f)[i] = true := by
    intro i hi
    have h1 := h i (List.mem_range.2 hi)
    unfold heldI at h1
    rw [Bool.and_eq_true, Bool.and_eq_true, List.all_eq_true] at h1
    have e : (lotsL f).getD i 0 = (lotsL f)[i] := by simp [List.getD, hi]
    rw [e] at h1
    refine ⟨h1.1, fun k hk => ?_⟩
    have h2 := h1.2 k (List.mem_range.2 hk)
    have e2 : (lotsL f).getD k 0 = (lotsL f)[k]'(by omega) := by simp [List.getD, show k < (lotsL f).length by omega]
    rw [e2] at h2
    exact h2
  refine allowK_iff.2 ⟨fun i hi hf => ?_, fun i j hi hj hij hfi hfj => ?_⟩
  · obtain ⟨q, hq, rfl⟩ := List.mem_iff_getElem.1 (lotsL_mem.2 ⟨hi, hf⟩)
    have h1 := (key q hq).1
    unfold servK
    rw [close_kind h0 h1.1, close_kind h0 h1.2]
    rfl
  · obtain ⟨q, hq, rfl⟩ := List.mem_iff_getElem.1 (lotsL_mem.2 ⟨hi, hfi⟩)
    obtain ⟨r, hr, rfl⟩ := List.mem_iff_getElem.1 (lotsL_mem.2 ⟨hj, hfj⟩)
    have hqr : q < r := by
      rcases Nat.lt_trichotomy q r with h | h | h
      · exact h
      · subst h; omega
      · have := List.pairwise_iff_getElem.1 (lotsL_sorted f) r q hr hq h
        omega
    have h1 := (key r hr).2 q hqr
    unfold apartV at h1
    simp only [Bool.not_eq_true', decide_eq_false_iff_not] at h1
    have h5 := truly_in h0 (lotAt b (lotsL f)[q]).sp (lotAt b (lotsL f)[r]).sp xs (8 * (((lotsL f)[q] : Nat) : Int) + (((lotsL f)[r] : Nat) : Int))
    unfold nearK betw
    rw [if_pos rfl, decide_eq_false_iff_not]
    omega
/-- What a lot truly has, as numbers choose it. -/
def lotV (b : Yb) (xs : List Int) (i : Nat) : Int := (lotAt b i).lo + spin (item xs i) ((lotAt b i).hi - (lotAt b i).lo + 1)
def stockV (b : Yb) (xs : List Int) (l : List Nat) : Int := (l.map (lotV b xs)).sum
theorem lotV_in {b : Yb} (hb : YbOk b) (xs : List Int) {i : Nat} (hi : i < b.lots.length) : (0 ≤ (lotAt b i).lo ∧ (lotAt b i).hi ≤ 99) ∧ (lotAt b i).lo ≤ lotV b xs i ∧ lotV b xs i ≤ (lotAt b i).hi := by
  have h := (lotB_iff.1 (lotAt_ok hb hi)).2
  have h1 := spin_range (item xs i) ((lotAt b i).hi - (lotAt b i).lo + 1) (by omega)
  unfold lotV
  omega
theorem sum_le_sum (f g : Nat → Int) : ∀ l : List Nat, (∀ i ∈ l, f i ≤ g i) → (l.map f).sum ≤ (l.map g).sum
  | [], _ => by simp
  | x :: l, h => by
    have h1 := h x (by simp)
    have h2 := sum_le_sum f g l (fun i hi => h i (by simp [hi]))
    simp only [List.map_cons, List.sum_cons]
    omega
theorem stock_in {b : Yb} (hb : YbOk b) (xs : List Int) {f : Nat → Bool} (hf : ∀ i, f i = true → i < b.lots.length) : goodsK b false f ≤ stockV b xs (lotsL f) ∧ stockV b xs (lotsL f) ≤ goodsK b true f := by
  have h : ∀ i ∈ lotsL f, i < b.lots.length := fun i hi => hf i (lotsL_mem.1 hi).2
  unfold goodsK stockV
  exact ⟨sum_le_sum _ _ _ fun i hi => (by unfold roomK; rw [if_neg (by simp)]; exact (lotV_in hb xs (h i hi)).2.1), sum_le_sum _ _ _ fun i hi => (by unfold roomK; rw [if_pos rfl]; exact (lotV_in hb xs (h i hi)).2.2)⟩
theorem goods_ends {b : Yb} (hb : YbOk b) {f : Nat → Bool} (hf : ∀ i, f i = true → i < b.lots.length) : goodsK b false f ≤ goodsK b true f := by
  have := stock_in hb [] hf
  omega
/-- What is allowed in each truth is in some. -/
theorem allow_ends {b : Yb} (h0 : 0 ≤ b.err) {f : Nat → Bool} (h : allowK b false f = true) : allowK b true f = true := held_kind h0 (held_worst h0 [] h)
theorem betK_goods {b : Yb} {k : Bool} {c e : Nat → Bool} (h : betK b k c e = false) : goodsK b k c ≤ goodsK b k e := by
  unfold betK betB at h
  split at h
  · rename_i h1
    omega
  · simp only [decide_eq_false_iff_not] at h
    omega
theorem top_is {b : Yb} (k : Bool) (hn : b.lots.length ≤ 7) {c : Nat → Bool} (hc : ∀ i, c i = true → i < b.lots.length) (ha : allowK b k c = true) : goodsK b k c ≤ topK b k := betK_goods ((bestK_is k hn).2 c hc ha)
theorem top_ends {b : Yb} (hb : YbOk b) : topK b false ≤ topK b true := by
  have h := (bestK_is (b := b) false hb.n7).1
  have h1 := top_is true hb.n7 h.1 (allow_ends hb.e0 h.2)
  have h2 := goods_ends hb h.1
  unfold topK at h1 ⊢
  omega
theorem kindN_as (f : Bool → Bool) (x y : Bool) (hx : f false = x) (hy : f true = y) : kindN f = (if x = true then 1 else 0) + (if y = true then 1 else 0) := by
  subst hx hy
  rfl
theorem allow_kind {b : Yb} (h0 : 0 ≤ b.err) (f : Nat → Bool) : (kindN (fun k => allowK b k f) = if allowK b false f then 2 else if allowK b true f then 1 else 0) := by
  have key : ∀ x y, allowK b false f = x → allowK b true f = y → (x = true → y = true) → kindN (fun k => allowK b k f) = if x then 2 else if y then 1 else 0 := by
    intro x y hx hy h
    rw [kindN_as (fun k => allowK b k f) x y hx hy]
    cases x <;> cases y <;> simp at h ⊢
  exact key _ _ rfl rfl (allow_ends h0)
end Go.Proofs.Ytajkgfeockcbpaa
