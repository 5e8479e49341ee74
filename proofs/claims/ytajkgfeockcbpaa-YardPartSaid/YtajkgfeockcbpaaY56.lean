/- Layer 6: what YardPart wants: parts of a choice, pairs that break, a set with one more. -/
import Derived.Test.YtajkgfeockcbpaaY47
namespace Go.Proofs.Ytajkgfeockcbpaa
open Go.RowKit Go.Maps
attribute [local go_sem] Oper.semAt_some

def GaveClear (f : Nat → Bool) (w : World) (e : Ending) (w' : World) : Prop := ∃ q cq, e = .returned (.tuple #[.slice q (intsN (lotsL f)).length cq, .int .i64 0]) ∧ IntsAt w' q (intsN (lotsL f)) ∧ Below w.heap.size w w'
theorem clear_good {b : Yb} {P : Yp} {w : World} (hb : yardB b = true) {f : Nat → Bool} (hf : ∀ i, f i = true → i < b.lots.length) {q : Option Addr} {cq : Nat} (h : YbAt w P b) (hi : IntsAt w q (intsN (lotsL f))) :
    Calls Try.prog 35 #[.agg (ybA b P), .slice q (intsN (lotsL f)).length cq] w (GaveClear (clearF b f) w) := by
  have hl := lotsL_le f
  have hr := readL_told (yardB_ok hb).n7 f hf
  refine (clear_api b P q cq (intsN (lotsL f)) (by rw [intsN_len]; omega) w h hi).mono ?_
  rintro e w' ⟨hbw, hr2⟩
  rcases hr2 with ⟨h1, _⟩ | ⟨_, h1, _⟩ | ⟨_, g, h1, p, c, rfl, hi⟩
  · rw [hb] at h1; cases h1
  · rw [hr] at h1; cases h1
  · rw [hr] at h1
    cases h1
    exact ⟨p, c, rfl, hi, hbw⟩
theorem without_set (f h : Nat → Bool) (pm : Option Addr) (cm : Nat) (pg : Option Addr) (cg : Nat) (w : World) (hM : IntsAt w pm (intsN (lotsL f))) (hG : IntsAt w pg (intsN (lotsL h))) :
    Calls Try.prog 51 #[.slice pm (intsN (lotsL f)).length cm, .slice pg (intsN (lotsL h)).length cg] w (GaveSet (restF f h) w) := by
  have r := without_any (lotsL f) (lotsL h) (lotsL_le f) (lotsL_le h) pm cm pg cg w hM hG
  rw [lackN_all] at r
  exact r
/-- Some of a choice, as a number chooses them. -/
def partS (f : Nat → Bool) (set : Int) : Nat → Bool := partF f (spin set ((2 ^ (lotsL f).length : Nat) : Int)).toNat
theorem partS_sub {f : Nat → Bool} {set : Int} {i : Nat} (h : partS f set i = true) : f i = true := partF_sub h
theorem part_set (f : Nat → Bool) (set : Int) (pm : Option Addr) (cm : Nat) (w : World) (hM : IntsAt w pm (intsN (lotsL f))) :
    Calls Try.prog 47 #[.slice pm (intsN (lotsL f)).length cm, .int .i64 set] w (GaveSet (partS f set) w) := by
  have hl := lotsL_le f
  have hp := pow_few (n := (lotsL f).length) (by omega)
  have hs := spin_range set ((2 ^ (lotsL f).length : Nat) : Int) (by omega)
  have r := part_any (lotsL f) hl pm cm set (spin set ((2 ^ (lotsL f).length : Nat) : Int)).toNat (by omega) (by omega) w hM
  rw [← partF_lots] at r
  exact r
theorem allow_sub {b : Yb} {k : Bool} {f g : Nat → Bool} (h : ∀ i, g i = true → f i = true) (ha : allowK b k f = true) : allowK b k g = true := by
  rw [allowK_iff] at ha ⊢
  exact ⟨fun i hi hg => ha.1 i hi (h i hg), fun i j hi hj hij hgi hgj => ha.2 i j hi hj hij (h i hgi) (h j hgj)⟩
theorem kind_sub {b : Yb} {f g : Nat → Bool} (h : ∀ i, g i = true → f i = true) : kindN (fun k => allowK b k f) ≤ kindN (fun k => allowK b k g) := by
  have h1 := allow_sub (b := b) (k := false) h
  have h2 := allow_sub (b := b) (k := true) h
  rw [kindN_as (fun k => allowK b k f) _ _ rfl rfl, kindN_as (fun k => allowK b k g) _ _ rfl rfl]
  generalize allowK b false f = x1 at *
  generalize allowK b true f = x2 at *
  generalize allowK b false g = x3 at *
  generalize allowK b true g = x4 at *
  revert h1 h2
  cases x1 <;> cases x2 <;> cases x3 <;> cases x4 <;> simp
theorem pairsL_mem {f : Nat → Nat → Bool} : ∀ {l : List Nat} {x : Nat × Nat}, x ∈ pairsL f l → ∃ i j, ∃ (hi : i < j) (hj : j < l.length), x.1 = l[i] ∧ x.2 = l[j] ∧ f x.1 x.2 = true
  | [], x, h => by simp [pairsL] at h
  | a :: l, x, h => by
    rw [pairsL] at h
    rcases List.mem_append.1 h with h | h
    · obtain ⟨y, hy, rfl⟩ := List.mem_map.1 h
      obtain ⟨h1, h2⟩ := List.mem_filter.1 hy
      obtain ⟨j, hj, rfl⟩ := List.mem_iff_getElem.1 h1
      exact ⟨0, j + 1, by omega, by simpa using hj, rfl, by simp, h2⟩
    · obtain ⟨i, j, h1, h2, h3, h4, h5⟩ := pairsL_mem h
      exact ⟨i + 1, j + 1, by omega, by simpa using h2, by simpa using h3, by simpa using h4, h5⟩
theorem idx_at {l : List Nat} (hs : l.Pairwise (· < ·)) {k : Nat} (hk : k < l.length) : idxN (intsN l) ((l[k] : Nat) : Int) = (k : Int) := by
  refine idx_some (by rw [intsN_len]; exact hk) (by rw [intsN_get hk]) (fun i hi => ?_)
  rw [intsN_get (by omega)]
  have := List.pairwise_iff_getElem.1 hs i k (by omega) hk hi
  omega
theorem idx_lots (f : Nat → Bool) (i : Nat) : (0 ≤ idxN (intsN (lotsL f)) (i : Int)) ↔ (i < 7 ∧ f i = true) := by
  rw [idx_mem, ← lotsL_mem]
  unfold intsN
  rw [List.mem_map]
  constructor
  · rintro ⟨a, ha, e⟩
    obtain rfl : a = i := by omega
    exact ha
  · exact fun h => ⟨i, h, rfl⟩
/-- What breaks is one of the choice. -/
structure PairOk (b : Yb) (m : Nat → Bool) (x : Nat × Nat) : Prop where
  a : x.1 < b.lots.length
  c : x.2 < b.lots.length
  ne : x.1 ≠ x.2
  i0 : 0 ≤ idxN (intsN (lotsL m)) (x.1 : Int)
  i1 : idxN (intsN (lotsL m)) (x.1 : Int) < idxN (intsN (lotsL m)) (x.2 : Int)
  k : kindN (fun k => nearK b k x.1 x.2) ≠ 0
theorem pair_ok {b : Yb} {m : Nat → Bool} (hm : ∀ i, m i = true → i < b.lots.length) {x : Nat × Nat} (h : x ∈ pairsL (nearK b false) (lotsL m)) : PairOk b m x := by
  obtain ⟨i, j, hij, hj, e1, e2, hf⟩ := pairsL_mem h
  have hi : i < (lotsL m).length := by omega
  have hs := lotsL_sorted m
  have hlt := List.pairwise_iff_getElem.1 hs i j hi hj hij
  refine ⟨?_, ?_, ?_, ?_, ?_, ?_⟩
  · rw [e1]; exact hm _ (lotsL_mem.1 (List.getElem_mem hi)).2
  · rw [e2]; exact hm _ (lotsL_mem.1 (List.getElem_mem hj)).2
  · rw [e1, e2]; omega
  · rw [e1, idx_at hs hi]; omega
  · rw [e1, e2, idx_at hs hi, idx_at hs hj]; omega
  · rw [kindN_as (fun k => nearK b k x.1 x.2) true (nearK b true x.1 x.2) hf rfl]
    cases nearK b true x.1 x.2 <;> simp
structure LotOk (b : Yb) (m : Nat → Bool) (i : Nat) : Prop where
  a : i < b.lots.length
  i0 : 0 ≤ idxN (intsN (lotsL m)) (i : Int)
  k : kindN (fun k => servK b k i) ≠ 2
theorem lot_ok {b : Yb} {m : Nat → Bool} (hn : b.lots.length ≤ 7) (hm : ∀ i, m i = true → i < b.lots.length) {i : Nat} (h : i ∈ lotsL (unservF b false m)) : LotOk b m i := by
  obtain ⟨h7, h⟩ := lotsL_mem.1 h
  unfold unservF at h
  simp only [Bool.and_eq_true, Bool.not_eq_true'] at h
  refine ⟨hm i h.1, (idx_lots m i).2 ⟨h7, h.1⟩, ?_⟩
  rw [kindN_as (fun k => servK b k i) false (servK b true i) h.2 rfl]
  cases servK b true i <;> simp
theorem breaks_none {b : Yb} {m : Nat → Bool} : allowK b false m = true ↔ (pairsL (nearK b false) (lotsL m)).length + (lotsL (unservF b false m)).length = 0 := by
  unfold allowK
  rw [Bool.and_eq_true, List.isEmpty_iff, List.all_eq_true]
  constructor
  · rintro ⟨h1, h2⟩
    have : lotsL (unservF b false m) = [] := by
      rw [List.eq_nil_iff_forall_not_mem]
      intro i hi
      obtain ⟨h7, h⟩ := lotsL_mem.1 hi
      have := h2 i (List.mem_range.2 h7)
      rw [h] at this
      cases this
    rw [h1, this]
    rfl
  · intro h
    have h1 := List.eq_nil_of_length_eq_zero (show (pairsL (nearK b false) (lotsL m)).length = 0 by omega)
    have h2 := List.eq_nil_of_length_eq_zero (show (lotsL (unservF b false m)).length = 0 by omega)
    refine ⟨h1, fun i hi => ?_⟩
    cases hu : unservF b false m i
    · rfl
    · have := lotsL_mem.2 ⟨List.mem_range.1 hi, hu⟩
      rw [h2] at this
      cases this
/-- A set with one more member, as the machine reckons it. -/
def orN (s t : Nat) : Nat := (bits BinOp.or IntKind.i64 (s : Int) (t : Int)).toNat
theorem or_all : ((List.range 128).all fun s => (List.range 7).all fun i => decide (bits BinOp.or IntKind.i64 (s : Int) ((2 ^ i : Nat) : Int) = (orN s (2 ^ i) : Int) ∧ orN s (2 ^ i) < 128) && (List.range 8).all fun j => inS (orN s (2 ^ i)) j == (inS s j || j == i)) = true := by decide +kernel
theorem or_is {s i : Nat} (hs : s < 128) (hi : i < 7) : bits BinOp.or IntKind.i64 (s : Int) ((2 ^ i : Nat) : Int) = (orN s (2 ^ i) : Int) ∧ orN s (2 ^ i) < 128 ∧ ∀ j, j < 8 → inS (orN s (2 ^ i)) j = (inS s j || j == i) := by
  have h1 := List.all_eq_true.1 (List.all_eq_true.1 or_all s (List.mem_range.2 hs)) i (List.mem_range.2 hi)
  rw [Bool.and_eq_true, decide_eq_true_eq, List.all_eq_true] at h1
  exact ⟨h1.1.1, h1.1.2, fun j hj => eq_of_beq (h1.2 j (List.mem_range.2 hj))⟩
def groupN (l : List Nat) : Nat := l.foldl (fun s i => orN s (2 ^ i)) 0
theorem group_succ {l : List Nat} {k : Nat} (h : k < l.length) : groupN (l.take (k + 1)) = orN (groupN (l.take k)) (2 ^ l[k]) := by
  unfold groupN
  rw [List.take_succ_eq_append_getElem h, List.foldl_append]
  rfl
theorem zero_in : ((List.range 8).all fun j => inS 0 j == false) = true := by decide +kernel
theorem group_is {l : List Nat} (hl : ∀ x ∈ l, x < 7) : ∀ k, k ≤ l.length → groupN (l.take k) < 128 ∧ ∀ j, j < 8 → inS (groupN (l.take k)) j = decide (j ∈ l.take k)
  | 0, _ => ⟨by simp [groupN], fun j hj => by
      have := eq_of_beq (List.all_eq_true.1 zero_in j (List.mem_range.2 hj))
      simpa [groupN] using this⟩
  | k + 1, hk => by
    obtain ⟨h1, h2⟩ := group_is hl k (by omega)
    have h3 := or_is h1 (hl _ (List.getElem_mem (show k < l.length by omega)))
    rw [group_succ (by omega)]
    refine ⟨h3.2.1, fun j hj => ?_⟩
    rw [h3.2.2 j hj, h2 j hj, List.take_succ_eq_append_getElem (by omega)]
    generalize List.take k l = A
    generalize l[k] = v
    by_cases e : j = v
    · simp [e]
    · simp [e]
/-- The set of a choice and one more lot. -/
theorem group_with {n : Nat} (hn : n ≤ 7) {m : Nat → Bool} (hm : ∀ i, m i = true → i < n) {i : Nat} (hi : i < n) :
    groupN (lotsL m) < 128 ∧ bits BinOp.or IntKind.i64 (groupN (lotsL m) : Int) ((2 ^ i : Nat) : Int) = (orN (groupN (lotsL m)) (2 ^ i) : Int) ∧ orN (groupN (lotsL m)) (2 ^ i) < 256 ∧ setF n (orN (groupN (lotsL m)) (2 ^ i)) = withF m i := by
  have h := group_is (l := lotsL m) (fun x hx => (lotsL_mem.1 hx).1) (lotsL m).length (Nat.le_refl _)
  rw [List.take_length] at h
  have h3 := or_is h.1 (show i < 7 by omega)
  refine ⟨h.1, h3.1, by omega, ?_⟩
  funext j
  unfold setF withF
  by_cases hj : j < n
  · rw [h3.2.2 j (by omega), h.2 j (by omega)]
    by_cases e : j = i
    · simp [e, hi]
    · simp only [e, if_false, hj, decide_true, Bool.true_and, beq_iff_eq, Bool.or_false, show (j == i) = false by simp [e]]
      cases hmj : m j
      · simp [lotsL_mem, hmj]
      · simp [lotsL_mem, hmj, show j < 7 by omega]
  · have e : j ≠ i := by omega
    rw [if_neg e]
    cases hmj : m j
    · simp [hj]
    · exact absurd (hm j hmj) hj
set_option maxRecDepth 10000 in
set_option maxHeartbeats 1600000 in
theorem Group_any (m : List Nat) (hm7 : m.length ≤ 7) (hl : ∀ x ∈ m, x < 7) (pm : Option Addr) (cm : Nat) (w : World) (hM : IntsAt w pm (intsN m)) :
    Calls Try.prog 50 #[.slice pm (intsN m).length cm] w fun e w' => e = .returned (.int .i64 (groupN m : Int)) ∧ Below w.heap.size w w' := by
  have HMC := Lib.hid (fun i (hi : i < m.length) => (by
    have h := hM i (by rw [intsN_len]; exact hi)
    rw [intsN_get hi] at h
    exact h : ∃ g o, pm = some ⟨g, o, none⟩ ∧ w.cell? ⟨g, o + i, none⟩ = some (.int .i64 ((m[i] : Nat) : Int))))
  have HL := Lib.hid hl
  have HG := Lib.hid (fun k (hk : k ≤ m.length) => (group_is hl k hk).1)
  have HS := Lib.hid (fun k (hk : k < m.length) => group_succ hk)
  rw [intsN_len]
  clear hM hl
  go_enter Try.func50, Try.ntmps50
  go_wp2_with fail
  go_loopw [3, 4] (fun a i wr => ∃ (k : Nat) (x : Later w), k ≤ m.length ∧ i = .int .i64 (k : Int) ∧ a = .int .i64 (groupN (m.take k) : Int) ∧ wr = x.w) (fun _ i _ => m.length - (intOf i).toNat)
  case atStart => exact ⟨0, ⟨w, Below.refl _ _⟩, by omega, rfl, rfl, rfl⟩
  case round =>
    obtain ⟨k, x, hk, rfl, rfl, rfl⟩ := hrel
    by_cases hlt : k < m.length
    · obtain ⟨bm, om, hpm, hmc⟩ := HMC.out k hlt
      have hv7 := HL.out _ (List.getElem_mem hlt)
      have hs := HS.out k hlt
      obtain ⟨v, hv⟩ : ∃ v, m[k] = v := ⟨_, rfl⟩
      rw [hv] at hmc hv7 hs
      have ho := or_is (HG.out k (by omega)) hv7
      rw [← hs] at ho
      have HO := Lib.hid ho
      have hp := pow_few (n := v) (by omega)
      obtain ⟨N, hN⟩ : ∃ n, 2 ^ v = n := ⟨_, rfl⟩
      have HNE := Lib.hid hN
      have ex : wrap64 (2 ^ v) = ((2 ^ v : Nat) : Int) := by
        rw [show ((2 : Int) ^ v) = ((2 ^ v : Nat) : Int) by simp]
        exact IntWalk.wrap64_in _ (by omega)
      subst hpm
      have i1 : (0 : Int) ≤ (k : Int) := by omega
      have i2 : (k : Int) < (m.length : Int) := by omega
      have j1 : (0 : Int) ≤ (v : Int) := by omega
      have j2 : (v : Int) < 7 := by omega
      clear hv hs ho
      go_wp2_with fail
      go_roundw
      case rel => exact ⟨k + 1, x, by omega, by go_num, by rw [← HO.out.1, HNE.out], rfl⟩
      case measure => simp [intOf]; omega
    · obtain rfl : k = m.length := by omega
      go_wp2_with fail
      go_ret
      exact ⟨by rw [List.take_length]; rfl, x.b⟩
end Go.Proofs.Ytajkgfeockcbpaa
