/- The walks of layer 1: is a list a cutting, how many of its pieces are counted; the greatest of several numbers. -/
import Derived.Test.YtnnlbbmimdohoaaP3
import Derived.Maps.AppendAt
namespace Go.Proofs.Ytnnlbbmimdohoaa
open Go.RowKit

/-- Is a list a cutting, from a column on? -/
def cutOk (sz wide : Int) : Int → List Int → Bool
  | _, [] => true
  | free, f :: l => if f < free ∨ wide - sz < f then false else cutOk sz wide (f + sz) l
theorem cutOk_step {sz wide free : Int} {cut : List Int} {k : Nat} (h : k < cut.length) : cutOk sz wide free (cut.drop k) = if at0 cut k < free ∨ wide - sz < at0 cut k then false else cutOk sz wide (at0 cut k + sz) (cut.drop (k + 1)) := by
  rw [List.drop_eq_getElem_cons h, cutOk, at0_lt h]

set_option maxHeartbeats 800000 in
theorem isCut_any (R : Rib) (hw0 : 0 ≤ R.wide) (hw : R.wide ≤ 72) (h1 : 1 ≤ R.sz) (h6 : R.sz ≤ 6) (p : Option Addr) (c : Nat) (cut : List Int) (w : World) (hn : cut.length ≤ maxLen) (hc : IntsAt w p cut) :
    Calls Try.prog 64 #[.agg R.A, .slice p cut.length c] w fun e w' => e = .returned (.bool (cutOk R.sz R.wide 0 cut)) ∧ Below w.heap.size w w' := by
  unfold maxLen at hn
  have a1 := R.a1
  have a3 := R.a3
  go_enter Try.func64, Try.ntmps64
  go_wp2
  go_loop [5, 10] (fun f i => ∃ (k : Nat) (free : Int), k ≤ cut.length ∧ i = .int .i64 k ∧ f = .int .i64 free ∧ 0 ≤ free ∧ free ≤ 1000 ∧ Hid (cutOk R.sz R.wide free (cut.drop k) = cutOk R.sz R.wide 0 cut)) (fun _ i => cut.length - (intOf i).toNat)
  case atStart => exact ⟨0, 0, by omega, rfl, rfl, by omega, by omega, Lib.hid rfl⟩
  case round =>
    obtain ⟨k, free, hk, rfl, rfl, hf0, hf1, HE⟩ := hrel
    by_cases hlt : k < cut.length
    · obtain ⟨b, o, rfl, hcell⟩ := hc k hlt
      have hst := Lib.hid ((cutOk_step (sz := R.sz) (wide := R.wide) (free := free) hlt).symm.trans HE.out)
      have hb : b < w.heap.size := cell_block hcell
      clear hc HE
      by_cases g1 : at0 cut k < free
      · have HQ := Lib.hid (show cutOk R.sz R.wide 0 cut = false by have := hst.out; rw [if_pos (.inl g1)] at this; exact this.symm)
        clear hst
        go_wp2
        go_ret
        exact ⟨ret_bool HQ.out.symm, below_alloc _ _⟩
      · by_cases g2 : R.wide - R.sz < at0 cut k
        · have HQ := Lib.hid (show cutOk R.sz R.wide 0 cut = false by have := hst.out; rw [if_pos (.inr g2)] at this; exact this.symm)
          clear hst
          go_wp2
          go_ret
          exact ⟨ret_bool HQ.out.symm, below_alloc _ _⟩
        · have HQ := Lib.hid (show cutOk R.sz R.wide (at0 cut k + R.sz) (cut.drop (k + 1)) = cutOk R.sz R.wide 0 cut by have := hst.out; rw [if_neg (by omega)] at this; exact this)
          clear hst
          go_wp2
          go_round
          case rel => exact ⟨k + 1, at0 cut k + R.sz, by omega, by go_num, rfl, by omega, by omega, HQ⟩
          case measure => simp [intOf]; omega
    · have HQ := Lib.hid (show cutOk R.sz R.wide 0 cut = true by rw [← HE.out, List.drop_eq_nil_of_le (by omega), cutOk])
      clear hc HE
      go_wp2
      go_ret
      exact ⟨ret_bool HQ.out.symm, below_alloc _ _⟩

/-- How many of some columns are counted. -/
def countL (c : List Bool) (cut : List Int) : Int := (cut.countP fun f => b0 c f.toNat : Nat)
theorem countL_take {c : List Bool} {cut : List Int} {k : Nat} (h : k < cut.length) : countL c (cut.take (k + 1)) = countL c (cut.take k) + if b0 c (at0 cut k).toNat then 1 else 0 := by
  rw [take_snoc h, countL, countL, List.countP_append]
  by_cases hb : b0 c (at0 cut k).toNat <;> simp [hb]
theorem countL_le (c : List Bool) (cut : List Int) : 0 ≤ countL c cut ∧ countL c cut ≤ cut.length := by
  unfold countL
  have := List.countP_le_length (p := fun f : Int => b0 c f.toNat) (l := cut)
  omega

set_option maxRecDepth 10000 in
set_option maxHeartbeats 800000 in
theorem count_any (wide : Int) (sz : Nat) (cs : List Bool) (hcs : cs.length = 72) (p : Option Addr) (c : Nat) (cut : List Int) (w : World) (hn : cut.length ≤ maxLen) (hc : IntsAt w p cut) (hr : ∀ k, k < cut.length → 0 ≤ at0 cut k ∧ at0 cut k < 72) :
    Calls Try.prog 69 #[knifeV wide sz cs, .slice p cut.length c] w fun e w' => e = .returned (.int .i64 (countL cs cut)) ∧ Below w.heap.size w w' := by
  unfold maxLen at hn
  unfold knifeV
  go_enter Try.func69, Try.ntmps69
  go_wp2
  go_loopw [5, 10] (fun n i wr => ∃ k : Nat, k ≤ cut.length ∧ i = .int .i64 k ∧ n = .int .i64 (countL cs (cut.take k)) ∧ Row wr w.heap.size #[.int .i64 wide, .int .i64 sz, .func (.func 90) #[cols cs] #[]] 95 ∧ Below w.heap.size w wr) (fun _ i _ => cut.length - (intOf i).toNat)
  case atStart => exact ⟨0, by omega, rfl, rfl, Row.new _ _ _, below_alloc _ _⟩
  case round =>
    obtain ⟨k, hk, rfl, rfl, hr0, hb⟩ := hrel
    have hle := countL_le cs (cut.take k)
    have hle2 : ((cut.take k).length : Int) ≤ k := by rw [List.length_take]; omega
    have HR := Lib.hid hr0
    have HB := Lib.hid hb
    have c2 := hr0.cell 2 (v := .func (.func 90) #[cols cs] #[]) rfl
    have hz := hr0.lt
    clear hr0 hb
    by_cases hlt : k < cut.length
    · obtain ⟨b, o, rfl, hcell0⟩ := hc k hlt
      have hcell : _ = some (Value.int .i64 (at0 cut k)) := ((bcell HB.out).1 b (o + k) (cell_block hcell0)).trans hcell0
      obtain ⟨hr1, hr2⟩ := hr k hlt
      obtain ⟨f, hf⟩ : ∃ f : Nat, at0 cut k = f := ⟨(at0 cut k).toNat, by omega⟩
      have hst := countL_take (c := cs) hlt
      rw [hf] at hcell hr2 hst
      rw [Int.toNat_natCast] at hst
      clear hcell0 hc hr hr1 hf
      cases hbf : b0 cs f
      all_goals
        rw [hbf] at hst
        have HST := Lib.hid hst
        have HF := Lib.hid hbf
        clear hst hbf
        go_wp2_with fail
        refine (has_any cs f hcs (by omega) _).mono ?_
        rintro e w1 ⟨rfl, hb1⟩
        rw [HF.out]
        have hz1 := hb1.size
        have HR := Lib.hid (HR.out.below hb1 hz)
        have HB := Lib.hid (HB.out.trans (hb1.mono (by omega)))
        clear hb1 c2
        go_wp2
        go_roundw
        case rel => exact ⟨k + 1, by omega, by go_num, by rw [HST.out]; simp, HR.out, HB.out⟩
        case measure => simp [intOf]; omega
    · clear hc hr
      go_wp2
      go_ret
      exact ⟨ret_int (by rw [List.take_of_length_le (by omega)]), HB.out⟩

/-- The greatest of several numbers. -/
def maxL (n : Int) (l : List Int) : Int := l.foldl max n

set_option maxHeartbeats 400000 in
theorem greatest_any (n : Int) (p : Option Addr) (c : Nat) (xs : List Int) (w : World) (hn : xs.length ≤ maxLen) (hc : IntsAt w p xs) :
    Calls Try.prog 73 #[.int .i64 n, .slice p xs.length c] w fun e w' => e = .returned (.int .i64 (maxL n xs)) ∧ w = w' := by
  unfold maxLen at hn
  go_enter Try.func73, Try.ntmps73
  go_wp2
  go_loop [0, 9] (fun t i => ∃ k : Nat, k ≤ xs.length ∧ i = .int .i64 k ∧ t = .int .i64 (maxL n (xs.take k))) (fun _ i => xs.length - (intOf i).toNat)
  case atStart => exact ⟨0, Nat.zero_le _, rfl, rfl⟩
  case round =>
    obtain ⟨k, hk, rfl, rfl⟩ := hrel
    by_cases hlt : k < xs.length
    · obtain ⟨b, o, rfl, hcell⟩ := hc k hlt
      clear hc
      go_wp2
      all_goals
        go_round
        case rel => exact ⟨k + 1, by omega, by go_num, by rw [take_snoc hlt, maxL, maxL, List.foldl_append]; simp; omega⟩
        case measure => simp [intOf]; omega
    · clear hc
      go_wp2
      go_ret
      exact ⟨ret_int (by rw [List.take_of_length_le (by omega)]), rfl⟩

/-- Where a number stands first in a list; -1: nowhere. -/
def indexL (l : List Int) (n : Int) : Int := if n ∈ l then (l.idxOf n : Nat) else -1
theorem indexL_here {l : List Int} {n : Int} {k : Nat} (h : k < l.length) (h1 : n ∉ l.take k) (h2 : at0 l k = n) : indexL l n = k := by
  rw [at0_lt h] at h2
  have hm : n ∈ l := by rw [← h2]; exact List.getElem_mem _
  have e : l = l.take k ++ n :: l.drop (k + 1) := by rw [← h2, ← List.drop_eq_getElem_cons h, List.take_append_drop]
  have hi : l.idxOf n = k := by
    rw [e, List.idxOf_append, if_neg h1]
    simp; omega
  rw [indexL, if_pos hm, hi]

set_option maxHeartbeats 400000 in
theorem Index_any (n : Int) (p : Option Addr) (c : Nat) (xs : List Int) (w : World) (hn : xs.length ≤ maxLen) (hc : IntsAt w p xs) :
    Calls Try.prog 78 #[.slice p xs.length c, .int .i64 n] w fun e w' => e = .returned (.int .i64 (indexL xs n)) ∧ w = w' := by
  unfold maxLen at hn
  go_enter Try.func78, Try.ntmps78
  go_wp2
  go_loop [8] (fun i => ∃ k : Nat, k ≤ xs.length ∧ i = .int .i64 k ∧ Hid (n ∉ xs.take k)) (fun i => xs.length - (intOf i).toNat)
  case atStart => exact ⟨0, Nat.zero_le _, rfl, Lib.hid (by simp)⟩
  case round =>
    obtain ⟨k, hk, rfl, HN⟩ := hrel
    by_cases hlt : k < xs.length
    · obtain ⟨b, o, rfl, hcell⟩ := hc k hlt
      clear hc
      by_cases he : at0 xs k = n
      · have he' : (n == at0 xs k) = true := by simp [he]
        have HQ := Lib.hid (indexL_here hlt HN.out he)
        clear he
        go_wp2
        go_ret
        exact ⟨ret_int HQ.out.symm, rfl⟩
      · have he' : (n == at0 xs k) = false := by simp; exact fun h => he h.symm
        have HQ := Lib.hid (show n ∉ xs.take (k + 1) by rw [take_snoc hlt]; simp; exact ⟨HN.out, fun h => he h.symm⟩)
        go_wp2
        go_round
        case rel => exact ⟨k + 1, by omega, by go_num, HQ⟩
        case measure => simp [intOf]; omega
    · have HQ := Lib.hid (show indexL xs n = -1 by have := HN.out; rw [List.take_of_length_le (by omega)] at this; rw [indexL, if_neg this])
      clear hc
      go_wp2
      go_ret
      exact ⟨ret_int HQ.out.symm, rfl⟩

/-- The greedy cutting from a column on. -/
def cutG (c : List Bool) (sz wide : Nat) : Nat → Nat → List Int
  | 0, _ => []
  | f + 1, i => if i + sz ≤ wide then (if b0 c i then (i : Int) :: cutG c sz wide f (i + sz) else cutG c sz wide f (i + 1)) else []
theorem cutG_fuel (c : List Bool) (sz wide : Nat) (h1 : 1 ≤ sz) : ∀ (f g i : Nat), wide < f + i → wide < g + i → cutG c sz wide f i = cutG c sz wide g i
  | 0, 0, _, _, _ => rfl
  | 0, g + 1, i, h, _ => by rw [cutG, cutG, if_neg (by omega)]
  | f + 1, 0, i, _, h => by rw [cutG, cutG, if_neg (by omega)]
  | f + 1, g + 1, i, hf, hg => by
    rw [cutG, cutG, cutG_fuel c sz wide h1 f g (i + sz) (by omega) (by omega), cutG_fuel c sz wide h1 f g (i + 1) (by omega) (by omega)]
/-- The greedy cutting: each piece as soon as it can be. -/
def cutL (c : List Bool) (sz wide : Nat) (i : Nat) : List Int := cutG c sz wide (wide + 1) i
theorem cutL_end {c : List Bool} {sz wide i : Nat} (h : ¬ i + sz ≤ wide) : cutL c sz wide i = [] := by rw [cutL, cutG, if_neg h]
theorem cutL_yes {c : List Bool} {sz wide i : Nat} (h1 : 1 ≤ sz) (h : i + sz ≤ wide) (hb : b0 c i = true) : cutL c sz wide i = (i : Int) :: cutL c sz wide (i + sz) := by
  rw [cutL, cutG, if_pos h, if_pos hb, cutL, cutG_fuel c sz wide h1 wide (wide + 1) (i + sz) (by omega) (by omega)]
theorem cutL_no {c : List Bool} {sz wide i : Nat} (h1 : 1 ≤ sz) (h : i + sz ≤ wide) (hb : b0 c i = false) : cutL c sz wide i = cutL c sz wide (i + 1) := by
  rw [cutL, cutG, if_pos h, if_neg (by simp [hb]), cutL, cutG_fuel c sz wide h1 wide (wide + 1) (i + 1) (by omega) (by omega)]
theorem cutL_length {c : List Bool} {sz wide : Nat} (h1 : 1 ≤ sz) : ∀ (n i : Nat), wide < n + i → (cutL c sz wide i).length + i ≤ max wide i
  | 0, i, h => by rw [cutL_end (by omega)]; simp; omega
  | n + 1, i, h => by
    by_cases hi : i + sz ≤ wide
    · cases hb : b0 c i
      · rw [cutL_no h1 hi hb]; have := cutL_length (c := c) (sz := sz) (wide := wide) h1 n (i + 1) (by omega); omega
      · rw [cutL_yes h1 hi hb]; have := cutL_length (c := c) (sz := sz) (wide := wide) h1 n (i + sz) (by omega); simp; omega
    · rw [cutL_end hi]; simp; omega

theorem owns_below {w w1 : World} {base e size : Nat} {v : Value} {n : Nat} {xs : List Value} (h : w.ownsRow base e size v n xs) (hb : Below w.heap.size w w1) : w1.ownsRow base e size v n xs := by
  refine ⟨h.1, ?_⟩
  rcases h.2 with h2 | ⟨g, cap, cur, hv, hg, hh, r⟩
  · exact .inl h2
  · exact .inr ⟨g, cap, cur, hv, hg, by rw [hb.block g (Array.getElem?_eq_some_iff.1 hh).1]; exact hh, r⟩
theorem ints_of_owns {w : World} {base e : Nat} {v : Value} {xs : List Int} (h : w.ownsRow base e 1 v xs.length (xs.map (Value.int .i64))) :
    ∃ p c, v = .slice p xs.length c ∧ IntsAt w p xs ∧ xs.length ≤ c ∧ c ≤ maxLen ∧ (p = none ∨ ∃ g, p = some ⟨g, 0, none⟩) := by
  rcases h.2 with ⟨hv, h0⟩ | ⟨g, cap, cur, hv, hg, hh, h1, h2, h3, h4⟩
  · exact ⟨none, 0, by rw [hv, h0], fun i hi => by omega, by omega, by unfold maxLen; omega, .inl rfl⟩
  · refine ⟨_, cap, hv, fun i hi => ⟨g, 0, rfl, ?_⟩, h1, h2, .inr ⟨g, rfl⟩⟩
    rw [cell_of_row w g (0 + i) cur e (0, 0) hh, Nat.zero_add]
    have : (cur.toList.take (xs.length * 1))[i]? = (xs.map (Value.int .i64))[i]? := by rw [h4]
    rw [List.getElem?_take_of_lt (by omega)] at this
    simp only [Array.getElem?_toList] at this
    rw [this]
    simp [hi, at0]

/-- The call returned a slice that reads as a list; what was there is as it was. -/
def GaveInts (xs : List Int) (w : World) (e : Ending) (w' : World) : Prop := ∃ p c, e = .returned (.slice p xs.length c) ∧ IntsAt w' p xs ∧ Below w.heap.size w w'

theorem Try.infoInt : (Try.prog.info? 3).map (fun i => (i.zero, i.size, i.bytes)) = some (some (.int .i64 0), 1, 8) := by kernel_rfl

set_option maxRecDepth 10000 in
set_option maxHeartbeats 800000 in
theorem cut_any (wide sz : Nat) (h1 : 1 ≤ sz) (h6 : sz ≤ 6) (hw : wide ≤ 72) (cs : List Bool) (hcs : cs.length = 72) (w : World) :
    Calls Try.prog 74 #[knifeV wide sz cs] w (GaveInts (cutL cs sz wide 0) w) := by
  unfold knifeV
  obtain ⟨i0, hi, hi0, hi1, hi2⟩ := info_parts Try.infoInt
  go_enter Try.func74, Try.ntmps74
  go_wp2
  go_loopg [3, 4] (wide + 1) (fun g s f wr => ∃ (i : Nat) (acc : List Int), g = wide + 1 - i ∧ i ≤ 100 ∧ f = .int .i64 i ∧ Hid (acc ++ cutL cs sz wide i = cutL cs sz wide 0) ∧ acc.length ≤ i ∧ wr.ownsRow (w.heap.size + 1) 3 1 s acc.length (acc.map (Value.int .i64)) ∧ Row wr w.heap.size #[.int .i64 wide, .int .i64 sz, .func (.func 90) #[cols cs] #[]] 95 ∧ Below w.heap.size w wr)
  case atStart => exact ⟨0, [], rfl, by omega, rfl, Lib.hid rfl, by simp, World.ownsRow_nil _ _ _ _, Row.new _ _ _, below_alloc _ _⟩
  case round =>
    obtain ⟨i, acc, hg, hi100, rfl, HA, hacc, hown, hr0, hb⟩ := hrel
    have HG := Lib.hid hg
    have HO := Lib.hid hown
    have HR := Lib.hid hr0
    have HB := Lib.hid hb
    have c0 := hr0.cell 0 (v := .int .i64 wide) rfl
    have c1 := hr0.cell 1 (v := .int .i64 sz) rfl
    have c2 := hr0.cell 2 (v := .func (.func 90) #[cols cs] #[]) rfl
    have hz := hr0.lt
    clear hg hown hr0 hb
    by_cases hlt : i + sz ≤ wide
    · cases hbi : b0 cs i
      · have HQ := Lib.hid (cutL_no h1 hlt hbi)
        have HF := Lib.hid hbi
        clear hbi
        go_wp2_with fail
        refine (has_any cs i hcs (by omega) _).mono ?_
        rintro e w1 ⟨rfl, hb1⟩
        rw [HF.out]
        have hz1 := hb1.size
        have HR := Lib.hid (HR.out.below hb1 hz)
        have HO := Lib.hid (owns_below HO.out hb1)
        have HB := Lib.hid (HB.out.trans (hb1.mono (by omega)))
        clear hb1 c0 c1 c2
        go_wp2
        go_roundg (wide + 1 - (i + 1))
        case measure => have := HG.out; omega
        case rel => exact ⟨i + 1, acc, rfl, by omega, by go_num, Lib.hid (by rw [← HQ.out]; exact HA.out), by omega, HO.out, HR.out, HB.out⟩
      · have HQ := Lib.hid (cutL_yes h1 hlt hbi)
        have HF := Lib.hid hbi
        clear hbi
        go_wp2_with fail
        refine (has_any cs i hcs (by omega) _).mono ?_
        rintro e w1 ⟨rfl, hb1⟩
        rw [HF.out]
        have hz1 := hb1.size
        have HR := Lib.hid (HR.out.below hb1 hz)
        have HO1 := Lib.hid (owns_below HO.out hb1)
        have HB := Lib.hid (HB.out.trans (hb1.mono (by omega)))
        clear hb1 c0 c1 c2
        go_wp2_with (first | (at_builtin; (refine wpList_append_own _ rfl _ _ 22 rfl (w.heap.size + 1) 3 i0 (.int .i64 0) 1 8 Try.underlying22 hi hi0 hi1 hi2 rfl (by decide) _ _ _ rfl (HO1.out.alloc _) ⟨w1.heap.size, 0, none⟩ 1 1 [.int .i64 i] rfl rfl (cell_one_new _ _ _) (by simp [Value.oneCell']) (by unfold maxLen; omega) (by omega) (by simp; omega) ?_); intro v' w2 hown' hgrow _; have HO := Lib.hid hown'; have hg2 : Below (w.heap.size + 1) w1 w2 := ((Below.refl _ _).alloc (by omega) _).grown hgrow (by simp; omega) (fun k hk => (HO1.out.lt k hk).1); have hz2 := hg2.size; have HR := Lib.hid (HR.out.below hg2 (by omega)); have HB := Lib.hid (HB.out.trans (hg2.mono (by omega))); have c1 := HR.out.cell 1 (v := .int .i64 sz) rfl; clear hown' hgrow hg2))
        go_roundg (wide + 1 - (i + sz))
        case measure => have := HG.out; omega
        case rel => exact ⟨i + sz, acc ++ [(i : Int)], rfl, by omega, by congr 1; omega, Lib.hid (by rw [← HA.out, HQ.out, List.append_assoc]; rfl), by simp; omega, by simpa using HO.out, HR.out, HB.out⟩
    · have HQ := Lib.hid (show acc = cutL cs sz wide 0 by rw [← HA.out, cutL_end hlt, List.append_nil])
      obtain ⟨p, c, rfl, hints, hle, hcm, hp⟩ := ints_of_owns HO.out
      have HI := Lib.hid hints
      clear hints
      unfold maxLen at hcm
      rcases hp with rfl | ⟨g, rfl⟩
      · go_wp2
        go_ret
        refine ⟨none, acc.length, ?_⟩
        rw [← HQ.out]
        exact ⟨rfl, HI.out, HB.out⟩
      · go_wp2
        go_ret
        refine ⟨some ⟨g, 0, none⟩, acc.length, ?_⟩
        rw [← HQ.out]
        exact ⟨rfl, HI.out, HB.out⟩

end Go.Proofs.Ytnnlbbmimdohoaa
