/- The laws' own helpers of layer 5: how many splints truly are in each handful. -/
import Derived.Test.YtgdidhbomdfcpaaF40
import Derived.Test.YtgdidhbomdfcpaaF39
import Derived.Deep.RegionHeld3
import Derived.Test.YtgdidhbomdfcpaaF33
namespace Go.Proofs.Ytgdidhbomdfcpaa
open Go.RowKit Go.Maps
attribute [local go_sem] Oper.semAt_some

/-- How many splints truly are in the first handfuls, as numbers choose them. -/
def trulyL (b : Bf) (bits : List Int) (k : Nat) : List Int := (List.range k).map fun i => drawn (handAt b i).lo (handAt b i).hi (item bits i)
theorem trulyL_length (b : Bf) (bits : List Int) (k : Nat) : (trulyL b bits k).length = k := by simp [trulyL]
theorem trulyL_succ (b : Bf) (bits : List Int) (k : Nat) : trulyL b bits (k + 1) = trulyL b bits k ++ [drawn (handAt b k).lo (handAt b k).hi (item bits k)] := by simp [trulyL, List.range_succ]
theorem append_num_ex (w : World) (base : Nat) (hbase : base ≤ w.heap.size) (v : Value) (l : List Int) (n : Nat) (hl : l.length = n) (hown : w.ownsRow base 3 1 v n (l.map (Value.int .i64))) (z : Nat) (x : Int) (hz : ∀ j u, [Value.int .i64 x][j]? = some u → w.cell? ((⟨z, 0, none⟩ : Addr).add j) = some u) (hn : n ≤ 1000) (ty : TypeId) :
    ∃ v' w', (Builtin.append_ #[38, 38] ty #[v, .slice (some ⟨z, 0, none⟩) 1 1]).run Try.prog w = .ok v' w' ∧ (w'.ownsRow base 3 1 v' (n + 1) ((l ++ [x]).map (Value.int .i64)) ∧ Below base w w') := by
  obtain ⟨i0, hi, hi0, hi1, hi2⟩ := info_parts Try.infoInt
  obtain ⟨v', w', hr, ho, hg, _⟩ := run_append_own (P := Try.prog) w base 38 ty 3 i0 _ 1 8 Try.underlying38 hi hi0 hi1 hi2 rfl (by decide) v n (l.map (Value.int .i64)) hown ⟨z, 0, none⟩ 1 1 [.int .i64 x] rfl hz (by simp [Value.oneCell']) (by unfold maxLen; omega) (by omega) hbase
  exact ⟨v', w', hr, by simpa using ho, (Below.refl base w).grown hg hbase (fun k hk => (hown.lt k hk).1)⟩
/-- The numbers are returned. -/
def GaveTruly (b : Bf) (bits : List Int) (w : World) (e : Ending) (w' : World) : Prop := ∃ q c, e = .returned (.slice q b.hs.length c) ∧ IntsAt w' q (trulyL b bits b.hs.length) ∧ b.hs.length ≤ c ∧ Below w.heap.size w w'
set_option maxRecDepth 100000 in
set_option maxHeartbeats 1600000 in
theorem truly5_any (b : Bf) (p : Option Addr) (c : Nat) (ps : Option Addr) (cs : Nat) (ss : List Int) (w : World) (hB : BfAt w p c b) (hok : BfOk b) (hs : IntsAt w ps ss) (hn : ss.length ≤ maxLen) :
    Calls Try.prog 38 #[.agg (bfA b p c), .slice ps ss.length cs] w (GaveTruly b ss w) := by
  obtain ⟨W0, hW0⟩ : ∃ W, W = w.alloc (.cells (bfA b p c) 24) := ⟨_, rfl⟩
  have HW0 := Lib.hid hW0
  have HE := Lib.hid (show Below w.heap.size w W0 by rw [hW0]; exact below_alloc _ _)
  have HR := Lib.hid (show Row W0 w.heap.size (bfA b p c) 24 by rw [hW0]; exact Row.new w _ _)
  have HB := Lib.hid (hB.below HE.out)
  have HS := Lib.hid (hs.below HE.out)
  have HN := Lib.hid hn
  have HOK := Lib.hid hok
  have g4 := HR.out.cell 4 (v := .slice p b.hs.length c) rfl
  have hn8 := hok.n8
  clear hW0 hB hok hs hn
  go_enter Try.func38, Try.ntmps38
  go_wp2_with fail
  rw [← HW0.out]
  go_loopw [5, 6] (fun ls i wr => ∃ (k : Nat) (x : Later W0), k ≤ b.hs.length ∧ i = .int .i64 k ∧ wr.ownsRow W0.heap.size 3 1 ls k ((trulyL b ss k).map (Value.int .i64)) ∧ wr = x.w) (fun _ i _ => b.hs.length - (intOf i).toNat)
  case atStart => exact ⟨0, ⟨W0, Below.refl _ _⟩, by omega, rfl, World.ownsRow_nil _ _ _ _, rfl⟩
  case round =>
    obtain ⟨k, x, hk, rfl, hown, rfl⟩ := hrel
    obtain ⟨pl, cl, rfl⟩ := owns_slice hown
    have HO := Lib.hid hown
    clear hown
    by_cases hlt : k < b.hs.length
    · have HIT := Lib.hid (fun w' (kk : From W0 w') => Item_any ps cs ss k w' HN.out (HS.out.below kk.b))
      have hl1 : b.hs[k].lo ≤ b.hs[k].hi := (HOK.out.h _ (List.getElem_mem hlt)).l1
      have hl0 : 0 ≤ b.hs[k].lo := (HOK.out.h _ (List.getElem_mem hlt)).l0
      have hl2 : b.hs[k].hi ≤ 200 := (HOK.out.h _ (List.getElem_mem hlt)).l2
      obtain ⟨bb, o, hpe, c0, c1⟩ := HB.out.h k hlt
      have HTS := Lib.hid (trulyL_succ b ss k)
      have hha := handAt_eq hlt
      rw [hha] at HTS
      have HTL := Lib.hid (trulyL_length b ss k)
      obtain ⟨it, hit⟩ : ∃ x, item ss k = x := ⟨_, rfl⟩
      rw [hit] at HIT HTS
      have HDR := Lib.hid (fun w' => Drawn_any b.hs[k].lo b.hs[k].hi it w' (by omega) hl1 (by omega))
      obtain ⟨t, ht⟩ : ∃ x, drawn b.hs[k].lo b.hs[k].hi it = x := ⟨_, rfl⟩
      rw [ht] at HDR HTS
      obtain ⟨lo, hlo⟩ : ∃ x, b.hs[k].lo = x := ⟨_, rfl⟩
      obtain ⟨hi, hhi⟩ : ∃ x, b.hs[k].hi = x := ⟨_, rfl⟩
      rw [hlo, hhi] at HDR
      rw [hlo] at c0
      rw [hhi] at c1
      clear ht hlo hhi hit hl0 hl1 hl2 hha
      have HPE := Lib.hid hpe
      have g4' : W0.cell? ⟨w.heap.size, 4, none⟩ = some (.slice (some ⟨bb, o, none⟩) b.hs.length c) := by rw [← hpe]; exact g4
      clear hpe
      have i1 : (0 : Int) ≤ (k : Int) := by omega
      have i2 : (k : Int) < (b.hs.length : Int) := by omega
      have hzx := x.b.size
      go_upto_region 5 with (fail)
      have KI := Lib.hid x.fr
      have KV := Lib.hid (From.refl x.w)
      have HSS := Lib.hid (fun w' (kk : From W0 w') => (⟨kk.cell g4', kk.cell c0, kk.cell c1⟩ : w'.cell? ⟨w.heap.size, 4, none⟩ = some (.slice (some ⟨bb, o, none⟩) b.hs.length c) ∧ w'.cell? ⟨bb, o + k * 2, none⟩ = some (.int .i64 lo) ∧ w'.cell? ⟨bb, o + k * 2 + 1, none⟩ = some (.int .i64 hi)))
      go_region_held3 (fun w' => w'.cell? ⟨w.heap.size, 4, none⟩ = some (.slice (some ⟨bb, o, none⟩) b.hs.length c) ∧ w'.cell? ⟨bb, o + k * 2, none⟩ = some (.int .i64 lo) ∧ w'.cell? ⟨bb, o + k * 2 + 1, none⟩ = some (.int .i64 hi))
        (first | with_reducible exact HSS.out _ KI.out | with_reducible exact HSS.out _ KI.out.drew | with_reducible exact HSS.out _ (KI.out.below (below_alloc _ _)) | with_reducible exact HSS.out _ (KI.out.below (below_alloc _ _)).drew)
        (first
          | (go_at_call 49; (first | with_reducible refine (HIT.out _ KI.out).mono ?_ | with_reducible refine (HIT.out _ KI.out.drew).mono ?_); rintro e u ⟨rfl, rfl⟩)
          | (go_at_call 52; (with_reducible refine (HDR.out _).mono ?_); rintro e u ⟨rfl, hbu⟩; have KI := Lib.hid (by first | with_reducible exact KI.out.drew.below hbu | with_reducible exact KI.out.below hbu); have KV := Lib.hid (by first | with_reducible exact KV.out.drew.below hbu | with_reducible exact KV.out.below hbu); clear hbu)
          | (refine step_append_ex rfl _ _ _ rfl _ _ rfl rfl _ (append_num_ex _ W0.heap.size (by simp; have := KV.out.b.size; omega) _ (trulyL b ss k) k HTL.out (owns_below HO.out (KV.out.below (below_alloc _ _)).b) _ t (cell_one_new _ _ _) (by omega) _) ?_; rintro v' w9 ⟨ho, hb⟩; have HO3 := Lib.hid ho; have KI := Lib.hid (show From W0 w9 from ⟨(KI.out.below (below_alloc _ _)).b.trans hb⟩); clear ho hb))
      all_goals
        obtain ⟨x3, hx3⟩ := later_of KI.out.b
        subst hx3
        clear KI KV HSS
        go_wp2_with fail
        go_roundw
        case rel => exact ⟨k + 1, x3, by omega, by simp, by rw [HTS.out]; exact HO3.out, rfl⟩
        case measure => simp [intOf]; omega
    · obtain rfl : k = b.hs.length := by omega
      obtain ⟨p', c', hv, hints, hcc, _⟩ := ints_of_owns2 (xs := trulyL b ss b.hs.length) (by rw [trulyL_length]; exact HO.out)
      rw [trulyL_length] at hv hcc
      cases hv
      have HIN := Lib.hid hints
      clear hints
      go_wp2_with fail
      go_ret
      exact ⟨pl, cl, rfl, HIN.out, hcc, x.base HE.out⟩
end Go.Proofs.Ytgdidhbomdfcpaa
/- The walks of the shared package that the laws of layer 5 want: where a number stands in a list; does a list grow? The boxes that are by hand. -/
namespace Go.Proofs.Ytgdidhbomdfcpaa
open Go.RowKit Go.Maps
attribute [local go_sem] Oper.semAt_some

theorem fits_yes {n lo hi : Int} (h : lo ≤ n ∧ n ≤ hi) : fits n lo hi = true := by simp [fits, h.1, h.2]
set_option maxRecDepth 10000 in
set_option maxHeartbeats 1600000 in
theorem Index_any (p : Option Addr) (c : Nat) (l : List Int) (x : Int) (hn : l.length ≤ 1000) (w : World) (hI : IntsAt w p l) :
    Calls Try.prog 43 #[.slice p l.length c, .int .i64 x] w fun e w' => e = .returned (.int .i64 (idxN l x)) ∧ w' = w := by
  have HI := Lib.hid hI
  clear hI
  go_enter Try.func43, Try.ntmps43
  go_wp2
  go_loopw [5] (fun i wr => wr = w ∧ ∃ k : Nat, k ≤ l.length ∧ i = .int .i64 k ∧ Hid (∀ i, i < k → x ≠ at0 l i)) (fun i _ => l.length - (intOf i).toNat)
  case atStart => exact ⟨rfl, 0, by omega, rfl, Lib.hid (by intro i hi; omega)⟩
  case round =>
    obtain ⟨rfl, k, hk, rfl, HN⟩ := hrel
    by_cases hlt : k < l.length
    · obtain ⟨g, o, rfl, hc⟩ := HI.out k hlt
      have i1 : (0 : Int) ≤ (k : Int) := by omega
      have i2 : (k : Int) < (l.length : Int) := by omega
      by_cases hx : x = at0 l k
      · have HX := Lib.hid hx
        have HV := Lib.hid (idx_some hlt hx HN.out)
        have hx2 : (at0 l k == x) = true := by simp [hx]
        clear hx
        go_wp2
        go_ret
        exact ⟨ret_int HV.out.symm, rfl⟩
      · have HX := Lib.hid hx
        have hx2 : (at0 l k == x) = false := by simp; exact fun h => hx h.symm
        clear hx
        go_wp2
        go_roundw
        case rel => exact ⟨trivial, k + 1, by omega, by go_num, Lib.hid fun j hj => by
          by_cases e : j = k
          · subst e; exact HX.out
          · exact HN.out j (by omega)⟩
        case measure => simp [intOf]; omega
    · obtain rfl : k = l.length := by omega
      have HV := Lib.hid (idx_none HN.out)
      go_wp2
      go_ret
      exact ⟨ret_int HV.out.symm, rfl⟩
theorem idx_range (l : List Int) (x : Int) : -1 ≤ idxN l x := by
  unfold idxN
  split <;> omega
theorem idx_mem {l : List Int} {x : Int} : 0 ≤ idxN l x ↔ x ∈ l := by
  constructor
  · intro h
    unfold idxN at h
    split at h
    · rename_i i e
      have := List.find?_range_eq_some.1 e
      have h1 := this.1
      have h2 := List.mem_range.1 this.2.1
      simp only [decide_eq_true_eq] at h1
      rw [h1]; exact at0_mem h2
    · omega
  · intro h
    by_cases e : 0 ≤ idxN l x
    · exact e
    · exfalso
      have e2 : idxN l x = -1 := by have := idx_range l x; omega
      unfold idxN at e2
      split at e2
      · omega
      · rename_i e3
        obtain ⟨i, hi, rfl⟩ := List.mem_iff_getElem.1 h
        have := List.find?_range_eq_none.1 e3 i hi
        simp [at0_lt hi] at this
/-- A list that grows, of numbers from 0 to below a number. -/
def Grown (l : List Int) (n : Int) : Prop := (∀ i, i < l.length → 0 ≤ at0 l i ∧ at0 l i ≤ n - 1) ∧ ∀ i, i + 1 < l.length → at0 l i < at0 l (i + 1)
set_option maxRecDepth 10000 in
set_option maxHeartbeats 1600000 in
theorem Grows_any (p : Option Addr) (c : Nat) (l : List Int) (n : Nat) (hn : l.length ≤ 1000) (h1 : n ≤ 1000) (w : World) (hI : IntsAt w p l) (hG : Grown l n) :
    Calls Try.prog 41 #[.slice p l.length c, .int .i64 n] w fun e w' => e = .returned (.bool true) ∧ Below w.heap.size w w' := by
  have HI := Lib.hid hI
  have HG := Lib.hid hG
  clear hI hG
  go_enter Try.func41, Try.ntmps41
  go_wp2
  go_loopw [5] (fun i wr => ∃ k : Nat, k ≤ l.length ∧ i = .int .i64 k ∧ IntsAt wr p l ∧ Below w.heap.size w wr) (fun i _ => l.length - (intOf i).toNat)
  case atStart => exact ⟨0, by omega, rfl, HI.out, Below.refl _ _⟩
  case round =>
    clear HI
    obtain ⟨k, hk, rfl, hi, hb⟩ := hrel
    have HI := Lib.hid hi
    have HB := Lib.hid hb
    clear hi hb
    by_cases hlt : k < l.length
    · obtain ⟨g, o, rfl, hc⟩ := HI.out k hlt
      have i1 : (0 : Int) ≤ (k : Int) := by omega
      have i2 : (k : Int) < (l.length : Int) := by omega
      have hg := HG.out.1 k hlt
      have HF := Lib.hid (fits_yes hg)
      have e1 : IntKind.i64.wrap ((n : Int) - 1) = (n : Int) - 1 := IntWalk.i64_in _ (by omega)
      by_cases h0 : k = 0
      · subst h0
        rw [Nat.add_zero] at hc
        go_wp2
        go_quiet ((go_at_call 55; exact quiet_eq (Fits_yes _ _ _ _ hg.1 hg.2)))
        go_wp2
        go_roundw
        case rel => exact ⟨1, by omega, by go_num, HI.out, below_drewN HB.out _⟩
        case measure => simp [intOf]; omega
      · have hg2 := HG.out.2 (k - 1) (by omega)
        rw [show k - 1 + 1 = k by omega] at hg2
        obtain ⟨g', o', e', hc'⟩ := HI.out (k - 1) (by omega)
        cases e'
        have i3 : 0 < k := by omega
        have i4 : (0 : Int) ≤ (k : Int) - 1 := by omega
        have i5 : (k : Int) - 1 < (l.length : Int) := by omega
        have e2 : IntKind.i64.wrap ((k : Int) - 1) = (k : Int) - 1 := IntWalk.i64_in _ (by omega)
        have e6 : ((k : Int) - 1).toNat = k - 1 := by omega
        have e7 : decide (at0 l k ≤ at0 l (k - 1)) = false := by simp; omega
        go_wp2
        go_quiet ((go_at_call 55; exact quiet_eq (Fits_yes _ _ _ _ hg.1 hg.2)))
        go_wp2
        go_roundw
        case rel => exact ⟨k + 1, by omega, by go_num, HI.out, below_drewN HB.out _⟩
        case measure => simp [intOf]; omega
    · obtain rfl : k = l.length := by omega
      go_wp2
      go_ret
      exact ⟨rfl, HB.out⟩
theorem hand_mem {b : Bf} {l : List Int} {k : Nat} : ∀ {n : Nat}, ((k : Int) ∈ handTo b l n ↔ k < n ∧ rightI b l k = false) := by
  intro n
  unfold handTo
  rw [List.mem_map]
  constructor
  · rintro ⟨i, hi, e⟩
    have h1 := List.mem_filter.1 hi
    have h2 := List.mem_range.1 h1.1
    obtain rfl : i = k := by omega
    exact ⟨h2, by simpa using h1.2⟩
  · rintro ⟨h1, h2⟩
    exact ⟨k, List.mem_filter.2 ⟨List.mem_range.2 h1, by simp [h2]⟩, rfl⟩
/-- A box is right just if it is not in the list of those by hand. -/
theorem hand_index {b : Bf} {l : List Int} {k : Nat} (hk : k < l.length) : decide (idxN (handL b l) k < 0) = rightI b l k := by
  have h1 := idx_mem (l := handL b l) (x := (k : Int))
  have h2 := hand_mem (b := b) (l := l) (k := k) (n := l.length)
  cases h : rightI b l k
  · have h3 := h1.2 (h2.2 ⟨hk, h⟩)
    simp; omega
  · have h3 : ¬ 0 ≤ idxN (handL b l) k := fun h4 => by
      have := (h2.1 (h1.1 h4)).2
      rw [h] at this
      cases this
    simp; omega
theorem grown_hand (b : Bf) (l : List Int) (n : Nat) : Grown (handTo b l n) n := by
  induction n with
  | zero => exact ⟨fun i hi => by simp [handTo] at hi, fun i hi => by simp [handTo] at hi⟩
  | succ n ih =>
    rw [handTo_succ]
    split
    · exact ⟨fun i hi => by have := ih.1 i hi; push_cast; omega, ih.2⟩
    · refine ⟨fun i hi => ?_, fun i hi => ?_⟩
      · rw [List.length_append] at hi
        by_cases e : i < (handTo b l n).length
        · have := ih.1 i e
          rw [at0_lt (l := handTo b l n ++ [(n : Int)]) (i := i) (by simp; omega), List.getElem_append_left e, ← at0_lt e]
          push_cast; omega
        · have e2 : i = (handTo b l n).length := by simp at hi; omega
          subst e2
          rw [at0_lt (l := handTo b l n ++ [(n : Int)]) (by simp)]
          simp
      · rw [List.length_append] at hi
        have e1 : i < (handTo b l n).length := by simp at hi; omega
        rw [at0_lt (l := handTo b l n ++ [(n : Int)]) (i := i) (by simp; omega), List.getElem_append_left e1, ← at0_lt e1]
        by_cases e : i + 1 < (handTo b l n).length
        · rw [at0_lt (l := handTo b l n ++ [(n : Int)]) (i := i + 1) (by simp; omega), List.getElem_append_left e, ← at0_lt e]
          exact ih.2 i e
        · have e2 : i + 1 = (handTo b l n).length := by simp at hi; omega
          have := ih.1 i e1
          rw [at0_lt (l := handTo b l n ++ [(n : Int)]) (i := i + 1) (by simp; omega), List.getElem_append_right (by omega)]
          simp
          omega
end Go.Proofs.Ytgdidhbomdfcpaa
/- Layer 5, in plain lists: what truly is in a box lies between what is said of it. -/
namespace Go.Proofs.Ytgdidhbomdfcpaa
open Go.RowKit

theorem drawn_between {a b : Int} (n : Int) (h1 : -1000000000 ≤ a) (h2 : a ≤ b) (h3 : b ≤ 1000000000) : a ≤ drawn a b n ∧ drawn a b n ≤ b := by
  have hs := spin_range n (b - a + 1) (by omega)
  have hd : drawn a b n = a + spin n (b - a + 1) := by
    rw [drawn, IntWalk.wrap64_in (b - a) (by omega), IntWalk.wrap64_in (b - a + 1) (by omega), IntWalk.wrap64_in _ (by omega)]
  omega
/-- What truly is in the handfuls from one on to the one before another. -/
def trueP (b : Bf) (bits : List Int) (x y : Nat) : List Int := ((trulyL b bits b.hs.length).drop x).take (y - x)
theorem true_len {b : Bf} {bits : List Int} {x y : Nat} (h : y ≤ b.hs.length) : (trueP b bits x y).length = y - x := by
  unfold trueP
  rw [List.length_take, List.length_drop, trulyL_length]
  omega
theorem true_at {b : Bf} {bits : List Int} {x y i : Nat} (h : y ≤ b.hs.length) (hi : i < y - x) : (trueP b bits x y)[i]'(by rw [true_len h]; exact hi) = drawn (b.hs[x + i]'(by omega)).lo (b.hs[x + i]'(by omega)).hi (item bits (x + i : Nat)) := by
  have hx : x + i < b.hs.length := by omega
  unfold trueP
  rw [List.getElem_take, List.getElem_drop]
  simp only [trulyL, List.getElem_map, List.getElem_range]
  rw [handAt_eq hx]
theorem sum_le2 : ∀ {l m : List Int}, l.length = m.length → (∀ i (h : i < l.length) (h' : i < m.length), l[i] ≤ m[i]) → l.sum ≤ m.sum
  | [], [], _, _ => Int.le_refl _
  | [], _ :: _, h, _ => by simp at h
  | _ :: _, [], h, _ => by simp at h
  | x :: l, y :: m, h, hx => by
    have h0 := hx 0 (by simp) (by simp)
    have h1 := sum_le2 (l := l) (m := m) (by simpa using h) (fun i hi hi' => by
      have := hx (i + 1) (by simpa using hi) (by simpa using hi')
      simpa using this)
    simp only [List.getElem_cons_zero] at h0
    rw [List.sum_cons, List.sum_cons]
    omega
theorem true_between {b : Bf} (hok : BfOk b) (bits : List Int) {x y : Nat} (h : y ≤ b.hs.length) : loB b x y ≤ (trueP b bits x y).sum ∧ (trueP b bits x y).sum ≤ hiB b x y := by
  have hl : (partL b.hs x y).length = y - x := by unfold partL; simp; omega
  have hd : ∀ i (hi : i < y - x), (partL b.hs x y)[i]'(by rw [hl]; exact hi) = b.hs[x + i]'(by omega) := fun i hi => by simp [partL]
  have key : ∀ i (hi : i < y - x), (b.hs[x + i]'(by omega)).lo ≤ (trueP b bits x y)[i]'(by rw [true_len h]; exact hi) ∧ (trueP b bits x y)[i]'(by rw [true_len h]; exact hi) ≤ (b.hs[x + i]'(by omega)).hi := fun i hi => by
    rw [true_at h hi]
    have ho := hok.h _ (List.getElem_mem (show x + i < b.hs.length by omega))
    exact drawn_between _ (by have := ho.l0; omega) ho.l1 (by have := ho.l2; omega)
  refine ⟨?_, ?_⟩
  · refine sum_le2 (by rw [List.length_map, hl, true_len h]) fun i h1 h2 => ?_
    rw [true_len h] at h2
    rw [List.getElem_map, hd i h2]
    exact (key i h2).1
  · refine sum_le2 (by rw [List.length_map, hl, true_len h]) fun i h1 h2 => ?_
    rw [true_len h] at h1
    rw [List.getElem_map, hd i h1]
    exact (key i h1).2
theorem true_range {b : Bf} (hok : BfOk b) (bits : List Int) (x y : Nat) (v : Int) (hv : v ∈ trueP b bits x y) : 0 ≤ v ∧ v ≤ 200 := by
  have h1 : v ∈ trulyL b bits b.hs.length := List.mem_of_mem_drop (List.mem_of_mem_take hv)
  obtain ⟨i, hi, rfl⟩ := List.mem_map.1 h1
  have hi := List.mem_range.1 hi
  rw [handAt_eq hi]
  have ho := hok.h _ (List.getElem_mem hi)
  have := drawn_between (a := b.hs[i].lo) (b := b.hs[i].hi) (item bits i) (by have := ho.l0; omega) ho.l1 (by have := ho.l2; omega)
  have := ho.l0
  have := ho.l2
  omega
theorem total_sum_aux : ∀ (n : Nat) (l : List Int), l.length = n → n ≤ 1000 → (∀ v ∈ l, 0 ≤ v ∧ v ≤ 200) → total l = l.sum ∧ 0 ≤ l.sum ∧ l.sum ≤ 200 * n
  | 0, l, h, _, _ => by
    have : l = [] := List.eq_nil_of_length_eq_zero h
    subst this
    simp [total]
  | n + 1, l, h, hn, hv => by
    have hne : l ≠ [] := fun e => by subst e; simp at h
    have e := List.dropLast_concat_getLast hne
    have h1 := total_sum_aux n l.dropLast (by simp [h]) (by omega) (fun v hv2 => hv v (List.dropLast_subset _ hv2))
    have h2 := hv _ (List.getLast_mem hne)
    rw [← e]
    generalize l.dropLast = m at *
    generalize l.getLast hne = v at *
    have e2 : total (m ++ [v]) = wrap64 (total m + v) := by simp [total]
    have e3 : (m ++ [v]).sum = m.sum + v := by simp
    rw [e2, e3, h1.1, IntWalk.wrap64_in _ (by omega)]
    exact ⟨rfl, by omega, by push_cast; omega⟩
theorem true_total {b : Bf} (hok : BfOk b) (bits : List Int) {x y : Nat} (h : y ≤ b.hs.length) : total (trueP b bits x y) = (trueP b bits x y).sum ∧ 0 ≤ (trueP b bits x y).sum ∧ (trueP b bits x y).sum ≤ 1600 := by
  have h8 := hok.n8
  have h1 := total_sum_aux _ (trueP b bits x y) rfl (by rw [true_len h]; omega) (fun v hv => true_range hok bits x y v hv)
  rw [true_len h] at h1
  refine ⟨h1.1, h1.2.1, ?_⟩
  have := h1.2.2
  omega
/-- What truly is in a plan's box. -/
def trueI (b : Bf) (bits l : List Int) (i : Nat) : Int := (trueP b bits (bgn l i).toNat (at0 l i).toNat).sum
/-- How many splints truly are given away in the first boxes of a plan that are right. -/
def awayT (b : Bf) (bits l : List Int) : Nat → Int
  | 0 => 0
  | k + 1 => if rightI b l k then awayT b bits l k + (trueI b bits l k - b.pr) else awayT b bits l k
theorem rightTo_succ2 (b : Bf) (l : List Int) (k : Nat) : rightTo b l (k + 1) = if rightI b l k then rightTo b l k ++ [⟨loI b l k, hiI b l k⟩] else rightTo b l k := by
  unfold rightTo
  rw [List.range_succ, List.filter_append, List.map_append]
  cases h : rightI b l k <;> simp [h]
theorem away_between {b : Bf} (hok : BfOk b) (bits : List Int) {l : List Int} (hp : planB b l = true) : ∀ k, k ≤ l.length →
    sumF Hd.lo (rightTo b l k) - b.pr * ((rightTo b l k).length : Int) ≤ awayT b bits l k ∧ awayT b bits l k ≤ sumF Hd.hi (rightTo b l k) - b.pr * ((rightTo b l k).length : Int)
  | 0, _ => by simp [awayT, rightTo, sumF]
  | k + 1, hk => by
    have ih := away_between hok bits hp k (by omega)
    rw [rightTo_succ2, awayT]
    split
    · have hn := plan_nums_all hok hp k (by omega)
      have hbx := planTo_all (b := b) (l := l) (k := l.length) (by unfold planB at hp; rw [Bool.and_eq_true] at hp; exact hp.1) (i := k) (by omega)
      unfold boxI boxB at hbx
      simp only [decide_eq_true_eq] at hbx
      have ht := true_between hok bits (x := (bgn l k).toNat) (y := (at0 l k).toNat) (by omega)
      rw [sumF_snoc, sumF_snoc, List.length_append, List.length_singleton]
      unfold trueI
      unfold loI hiI
      have e : b.pr * (((rightTo b l k).length + 1 : Nat) : Int) = b.pr * ((rightTo b l k).length : Int) + b.pr := by
        rw [Int.natCast_add, Int.mul_add]
        simp
      rw [e]
      simp only
      omega
    · exact ih
/-- What FillTrue asks of all boxes together. -/
theorem away_over {b : Bf} (hok : BfOk b) (bits : List Int) {l : List Int} (hp : planB b l = true) : overV Hd.lo b l ≤ awayT b bits l l.length ∧ awayT b bits l l.length ≤ overV Hd.hi b l := away_between hok bits hp l.length (Nat.le_refl _)
end Go.Proofs.Ytgdidhbomdfcpaa
/- The law FillTrue: the theorem of the label. -/
namespace Go.Proofs.Ytgdidhbomdfcpaa
open Go.RowKit Go.Maps
attribute [local go_sem] Oper.semAt_some

theorem away_range {b : Bf} (hok : BfOk b) (bits : List Int) {l : List Int} (hp : planB b l = true) : ∀ k, k ≤ l.length → -(600 * (k : Int)) ≤ awayT b bits l k ∧ awayT b bits l k ≤ 1600 * (k : Int)
  | 0, _ => by simp [awayT]
  | k + 1, hk => by
    have ih := away_range hok bits hp k (by omega)
    have hbx := planTo_all (b := b) (l := l) (k := l.length) (by unfold planB at hp; rw [Bool.and_eq_true] at hp; exact hp.1) (i := k) (by omega)
    unfold boxI boxB at hbx
    simp only [decide_eq_true_eq] at hbx
    have ht := (true_total hok bits (x := (bgn l k).toNat) (y := (at0 l k).toNat) (by omega)).2
    have h1 := hok.p1
    have h2 := hok.p2
    rw [awayT]
    unfold trueI
    split <;> push_cast <;> omega
/-- All that a round of FillTrue wants to know of a box. -/
theorem true_box {b : Bf} (hok : BfOk b) (bits : List Int) {l : List Int} (hp : planB b l = true) {k : Nat} (hk : k < l.length) :
    ∃ x y : Nat, bgn l k = x ∧ at0 l k = y ∧ x < y ∧ y ≤ b.hs.length ∧ boxB b x y = true ∧ total (trueP b bits x y) = trueI b bits l k ∧ 0 ≤ trueI b bits l k ∧ trueI b bits l k ≤ 1600 ∧ loI b l k ≤ trueI b bits l k ∧ trueI b bits l k ≤ hiI b l k := by
  have hbx := planTo_all (b := b) (l := l) (k := l.length) (by unfold planB at hp; rw [Bool.and_eq_true] at hp; exact hp.1) (i := k) hk
  unfold boxI at hbx
  have hb2 := hbx
  unfold boxB at hb2
  simp only [decide_eq_true_eq] at hb2
  refine ⟨(bgn l k).toNat, (at0 l k).toNat, by omega, by omega, by omega, by omega, ?_, ?_⟩
  · rw [show (((bgn l k).toNat : Nat) : Int) = bgn l k by omega, show (((at0 l k).toNat : Nat) : Int) = at0 l k by omega]; exact hbx
  · have h1 := true_total hok bits (x := (bgn l k).toNat) (y := (at0 l k).toNat) (by omega)
    have h2 := true_between hok bits (x := (bgn l k).toNat) (y := (at0 l k).toNat) (by omega)
    exact ⟨h1.1, h1.2.1, h1.2.2, h2.1, h2.2⟩

theorem kind_ways (b : Bf) (lo hi t : Int) (h1 : lo ≤ t) (h2 : t ≤ hi) :
    (kindS b lo hi = 0 ∧ b.pr - b.le ≤ t ∧ t ≤ b.pr + b.mo) ∨ (kindS b lo hi = 1 ∧ t ≤ b.pr + b.mo) ∨ (kindS b lo hi = 2 ∧ b.pr - b.le ≤ t) ∨ kindS b lo hi = 3 := by
  unfold kindS fewB manyB
  by_cases e1 : lo < b.pr - b.le <;> by_cases e2 : hi > b.pr + b.mo <;> simp [e1, e2] <;> omega
/-- All that a round of FillTrue wants to know. -/
theorem true_round {b : Bf} (hok : BfOk b) (bits : List Int) {P : List Int} (hp : planB b P = true) {k : Nat} (hk : k < P.length) :
    ∃ (X Y : Nat) (kd t ix : Int), bgn P k = X ∧ at0 P k = Y ∧ X < Y ∧ Y ≤ b.hs.length ∧ boxB b X Y = true ∧ kindS b (loF b X Y) (hiF b X Y) = kd ∧ total (trueP b bits X Y) = t ∧ 0 ≤ t ∧ t ≤ 1600 ∧ idxN (handL b P) k = ix ∧
      ((kd = 0 ∧ ix < 0 ∧ b.pr - b.le ≤ t ∧ t ≤ b.pr + b.mo ∧ awayT b bits P (k + 1) = awayT b bits P k + (t - b.pr)) ∨ (kd = 1 ∧ 0 ≤ ix ∧ t ≤ b.pr + b.mo ∧ awayT b bits P (k + 1) = awayT b bits P k) ∨ (kd = 2 ∧ 0 ≤ ix ∧ b.pr - b.le ≤ t ∧ awayT b bits P (k + 1) = awayT b bits P k) ∨ (kd = 3 ∧ 0 ≤ ix ∧ awayT b bits P (k + 1) = awayT b bits P k)) := by
  obtain ⟨X, Y, hX, hY, hXY, hYn, hbox, htot, ht0, ht1, htl, hth⟩ := true_box hok bits hp hk
  have hlo : loF b X Y = loI b P k := by unfold loI; rw [hX, hY]; rfl
  have hhi : hiF b X Y = hiI b P k := by unfold hiI; rw [hX, hY]; rfl
  have hix := hand_index (b := b) (l := P) hk
  have haw : awayT b bits P (k + 1) = if rightI b P k then awayT b bits P k + (trueI b bits P k - b.pr) else awayT b bits P k := rfl
  have hri : rightI b P k = decide (kindS b (loI b P k) (hiI b P k) = 0) := rfl
  refine ⟨X, Y, _, _, _, hX, hY, hXY, hYn, hbox, rfl, htot, ht0, ht1, rfl, ?_⟩
  rw [hlo, hhi]
  rw [hri] at hix haw
  generalize idxN (handL b P) k = ix at *
  generalize awayT b bits P (k + 1) = aw' at *
  generalize awayT b bits P k = aw at *
  generalize trueI b bits P k = t at *
  rcases kind_ways b (loI b P k) (hiI b P k) t htl hth with ⟨h1, h2, h3⟩ | ⟨h1, h2⟩ | ⟨h1, h2⟩ | h1
  · rw [h1] at hix haw
    simp at hix haw
    exact .inl ⟨h1, hix, h2, h3, haw⟩
  · rw [h1] at hix haw
    simp at hix haw
    exact .inr (.inl ⟨h1, hix, h2, haw⟩)
  · rw [h1] at hix haw
    simp at hix haw
    exact .inr (.inr (.inl ⟨h1, hix, h2, haw⟩))
  · rw [h1] at hix haw
    simp at hix haw
    exact .inr (.inr (.inr ⟨h1, hix, haw⟩))
theorem tot_call {xs : List Int} {n : Nat} {t : Int} (hl : xs.length = n) (ht : total xs = t) (hn : n ≤ 1000) (p : Option Addr) (c : Nat) (w : World) (hi : IntsAt w p xs) :
    Calls Try.prog 42 #[.slice p n c] w fun e w' => e = .returned (.int .i64 t) ∧ Below w.heap.size w w' := by
  subst hl ht
  refine (Total_any p c xs w (by unfold maxLen; omega) hi).mono ?_
  rintro e w' ⟨h, rfl⟩
  exact ⟨h, Below.refl _ _⟩
theorem kind_call {b : Bf} {X Y : Nat} {kd : Int} (hb : bookB b = true) (hok : BfOk b) (hXY : X < Y) (hY : Y ≤ b.hs.length) (hbox : boxB b X Y = true) (hk : kindS b (loF b X Y) (hiF b X Y) = kd) (p : Option Addr) (c : Nat) (w : World) (hB : BfAt w p c b) :
    Calls Try.prog 19 #[.agg (bfA b p c), .int .i64 (X : Int), .int .i64 (Y : Int)] w fun e w' => e = .returned (.tuple #[.int .i64 kd, .int .i64 0]) ∧ Below w.heap.size w w' := by
  subst hk
  have := hok.n8
  exact Kind_yes b p c X Y w hB hb (I64_of (by omega) (by omega)) (I64_of (by omega) (by omega)) hbox
theorem idx_call {l : List Int} {n : Nat} {x ix : Int} (hl : l.length = n) (hn : n ≤ 1000) (hx : idxN l x = ix) (p : Option Addr) (c : Nat) (w : World) (hi : IntsAt w p l) :
    Calls Try.prog 43 #[.slice p n c, .int .i64 x] w fun e w' => e = .returned (.int .i64 ix) ∧ Below w.heap.size w w' := by
  subst hl hx
  refine (Index_any p c l x (by omega) w hi).mono ?_
  rintro e w' ⟨h, rfl⟩
  exact ⟨h, Below.refl _ _⟩
theorem allow_call {b : Bf} {t : Int} (hok : BfOk b) (h1 : b.pr - b.le ≤ t) (h2 : t ≤ b.pr + b.mo) (p : Option Addr) (c : Nat) (w : World) :
    Calls Try.prog 44 #[.agg (bfA b p c), .int .i64 t] w fun e w' => e = .returned (.bool true) ∧ Below w.heap.size w w' := by
  have h := allowed_any b p c t w hok
  rw [fits_yes ⟨h1, h2⟩] at h
  exact h

set_option maxRecDepth 100000 in
set_option maxHeartbeats 3200000 in
theorem FillTrue_any (b : Bf) (p : Option Addr) (c : Nat) (pt : Option Addr) (ct : Nat) (bits : List Int) (ps : Option Addr) (cs : Nat) (ss : List Int) (w : World) (hB : BfAt w p c b) (ht : IntsAt w pt bits) (htn : bits.length ≤ maxLen) (hs : IntsAt w ps ss) (hn : ss.length ≤ maxLen) :
    Calls Try.prog 6 #[.agg (bfA b p c), .slice pt bits.length ct, .slice ps ss.length cs] w fun e w' => e = .returned (.bool true) ∧ Below w.heap.size w w' := by
  obtain ⟨W0, hW0⟩ : ∃ W, W = w.alloc (.cells (bfA b p c) 24) := ⟨_, rfl⟩
  have HW0 := Lib.hid hW0
  have HE := Lib.hid (show Below w.heap.size w W0 by rw [hW0]; exact below_alloc _ _)
  have HR := Lib.hid (show Row W0 w.heap.size (bfA b p c) 24 by rw [hW0]; exact Row.new w _ _)
  have HB := Lib.hid (hB.below HE.out)
  have HT := Lib.hid (ht.below HE.out)
  have HTN := Lib.hid htn
  have HS := Lib.hid (hs.below HE.out)
  have HN := Lib.hid hn
  have g0 := HR.out.cell 0 (v := .int .i64 b.pr) rfl
  have g1 := HR.out.cell 1 (v := .int .i64 b.le) rfl
  have g2 := HR.out.cell 2 (v := .int .i64 b.mo) rfl
  have g3 := HR.out.cell 3 (v := .int .i64 b.gr) rfl
  have g4 := HR.out.cell 4 (v := .slice p b.hs.length c) rfl
  clear hW0 hB hs hn ht htn
  obtain ⟨z0, hz0⟩ : ∃ z : Later W0, W0 = z.w := ⟨⟨W0, Below.refl _ _⟩, rfl⟩
  have HZ0 := Lib.hid hz0
  clear hz0
  cases hb : bookB b
  · have HK := Lib.hid (fun w' (k : From W0 w') => sound_no b p c w' (HB.out.below k.b) hb)
    clear hb
    go_enter Try.func6, Try.ntmps6
    go_wp2_with fail
    rw [← HW0.out, HZ0.out]
    refine (HK.out _ z0.fr).mono ?_
    rintro e u ⟨rfl, hbu⟩
    obtain ⟨z1, hz⟩ := z0.on hbu
    subst hz
    clear hbu
    go_wp2_with fail
    refine (filled_any _).mono ?_
    rintro e u ⟨rfl, hbu⟩
    obtain ⟨z2, hz⟩ := z1.on hbu
    subst hz
    clear hbu
    go_wp2_with fail
    go_ret
    exact ⟨rfl, z2.base HE.out⟩
  · have hok := bookB_iff.1 hb
    have hn8 := hok.n8
    have h1 := hok.p1
    have h2 := hok.p2
    have h3 := hok.l1
    have h4 := hok.l2
    have h5 := hok.m1
    have h6 := hok.m2
    have HOK := Lib.hid hok
    obtain ⟨pb, hpb, hpp, _⟩ := best_few hok
    have hbq : bestQ b = pb := bestL_of hpb
    have HPP := Lib.hid hpp
    have HBO := Lib.hid hb
    have HK := Lib.hid (fun w' (k : From W0 w') => sound_yes b p c w' (HB.out.below k.b) hb)
    have HBE := Lib.hid (fun w' (k : From W0 w') => (by
      have h := Best_yes b p c w' (HB.out.below k.b) hb
      refine h.mono fun e w'' h => ?_
      obtain ⟨q, cq, h1, h2, h3⟩ := h
      rw [hbq] at h1 h2
      exact ⟨q, cq, h1, h2, h3⟩ : Calls Try.prog 31 #[.agg (bfA b p c)] w' (GaveList0 pb w')))
    have HTR := Lib.hid (fun w' (k : From W0 w') => truly5_any b p c pt ct bits w' (HB.out.below k.b) HOK.out (HT.out.below k.b) HTN.out)
    have HDR := Lib.hid (fun w' (k : From W0 w') => drawn_any b p c ps cs ss w' HOK.out (HS.out.below k.b) HN.out)
    clear hb hok hbq hpb hpp
    go_enter Try.func6, Try.ntmps6
    go_wp2_with fail
    rw [← HW0.out, HZ0.out]
    refine (HK.out _ z0.fr).mono ?_
    rintro e u ⟨rfl, hbu⟩
    obtain ⟨z1, hz⟩ := z0.on hbu
    subst hz
    clear hbu
    go_wp2_with fail
    refine (HBE.out _ z1.fr).mono ?_
    rintro e u ⟨qb, cb, rfl, hi, hbu⟩
    have HP := Lib.hid hi
    obtain ⟨z2, hz⟩ := z1.on hbu
    subst hz
    clear hbu hi
    go_wp2_with fail
    refine (HTR.out _ z2.fr).mono ?_
    rintro e u ⟨qt, cht, rfl, hi, hcht, hbu⟩
    have HP := Lib.hid (HP.out.below hbu)
    have HH := Lib.hid hi
    obtain ⟨z3, hz⟩ := z2.on hbu
    subst hz
    clear hbu hi
    go_wp2_with fail
    refine (HDR.out _ z3.fr).mono ?_
    rintro e u ⟨ql, qq, cq, rfl, hi, hpq, hbu⟩
    have HP := Lib.hid (HP.out.below hbu)
    have HH := Lib.hid (HH.out.below hbu)
    have HQ := Lib.hid hi
    have HPQ := Lib.hid hpq
    obtain ⟨z4, hz⟩ := z3.on hbu
    subst hz
    clear hbu hi hpq HK HBE HTR HDR
    go_upto_region 8 with (fail)
    obtain ⟨W1, hW1⟩ : ∃ u, z4.w.alloc (.cells #[.slice qb pb.length cb, .slice qq ql.length cq] 38) = u := ⟨_, rfl⟩
    have RP := Lib.hid (show Row W1 z4.w.heap.size #[.slice qb pb.length cb, .slice qq ql.length cq] 38 by rw [← hW1]; exact Row.new z4.w _ _)
    have hb4 : Below z4.w.heap.size z4.w W1 := by rw [← hW1]; exact below_alloc _ _
    rw [hW1]
    clear hW1
    have HP := Lib.hid (HP.out.below hb4)
    have HH := Lib.hid (HH.out.below hb4)
    have HQ := Lib.hid (HQ.out.below hb4)
    obtain ⟨PB, hPB⟩ : ∃ x, z4.w.heap.size = x := ⟨_, rfl⟩
    rw [hPB] at RP ⊢
    clear hPB
    obtain ⟨z5, hz⟩ := z4.on hb4
    subst hz
    clear hb4
    go_wp2_with fail
    go_loopw [11] (fun i wr => ∃ (m : Nat) (x : Later z5.w), m ≤ 2 ∧ i = .int .i64 (m : Int) ∧ wr = x.w) (fun i _ => 2 - (intOf i).toNat)
    case atStart => exact ⟨0, ⟨z5.w, Below.refl _ _⟩, by omega, rfl, rfl⟩
    case round =>
      obtain ⟨m, x, hm, rfl, rfl⟩ := hrel
      by_cases hlt : m < 2
      · obtain ⟨P, qP, cP, hcell, hints, hplan⟩ : ∃ P qP cP, z5.w.cell? ⟨PB, m, none⟩ = some (.slice qP P.length cP) ∧ IntsAt z5.w qP P ∧ planB b P = true := by
          match m, hlt with
          | 0, _ => exact ⟨pb, qb, cb, RP.out.cell 0 rfl, HP.out, HPP.out⟩
          | 1, _ => exact ⟨ql, qq, cq, RP.out.cell 1 rfl, HQ.out, HPQ.out⟩
        have i1 : (0 : Int) ≤ (m : Int) := by omega
        have i2 : (m : Int) < 2 := by omega
        have hlp := plan_len hplan
        have hch := count_all b P
        have HPN := Lib.hid (plan_nums_all HOK.out hplan)
        have HPL := Lib.hid hplan
        have HPI := Lib.hid hints
        have HBF := Lib.hid (fun w' (k : From z5.w w') => (HB.out.below (z5.b.trans (k.b.mono z5.b.size)) : BfAt w' p c b))
        have HBY := Lib.hid (fun w' (k : From z5.w w') => ByHand_yes b p c qP cP P w' (HBF.out w' k) HBO.out (HPI.out.below k.b) (by omega) HPN.out HPL.out)
        have HOV := Lib.hid (fun w' (k : From z5.w w') => Over_yes b p c qP cP P w' (HBF.out w' k) HBO.out (HPI.out.below k.b) (by omega) HPN.out HPL.out)
        have HPY := Lib.hid (fun w' (k : From z5.w w') => plan_yes b p c qP cP P w' (HBF.out w' k) HBO.out (HPI.out.below k.b) HPL.out)
        have HAO := Lib.hid (away_over HOK.out bits hplan)
        have HGW := Lib.hid (grown_hand b P P.length)
        clear hints hplan
        obtain ⟨lo, hlo⟩ : ∃ x, overV Hd.lo b P = x := ⟨_, rfl⟩
        obtain ⟨hi, hhi⟩ : ∃ x, overV Hd.hi b P = x := ⟨_, rfl⟩
        rw [hlo, hhi] at HOV HAO
        clear hlo hhi
        go_wp2_with fail
        refine (HBY.out _ x.fr).mono ?_
        rintro e u ⟨ph, ch, rfl, hih, hbu⟩
        have HHI := Lib.hid hih
        obtain ⟨x2, hx2⟩ := x.on hbu
        subst hx2
        clear hbu hih
        go_wp2_with fail
        refine (HOV.out _ x2.fr).mono ?_
        rintro e u ⟨rfl, hbu⟩
        have HHI := Lib.hid (HHI.out.below hbu)
        obtain ⟨x3, hx3⟩ := x2.on hbu
        subst hx3
        clear hbu
        go_upto_region 14 with (first
          | (refine store_new rfl 27 _ _ rfl #[.int .i64 lo, .int .i64 hi] #[.int .i64 0, .int .i64 0] 27 rfl rfl (by kernel_rfl) rfl (by simp [Value.oneCell']) ?_))
        obtain ⟨W2, hW2⟩ : ∃ u, x3.w.alloc (.cells #[.int .i64 lo, .int .i64 hi] 27) = u := ⟨_, rfl⟩
        have RS := Lib.hid (show Row W2 x3.w.heap.size #[.int .i64 lo, .int .i64 hi] 27 by rw [← hW2]; exact Row.new x3.w _ _)
        have hb5 : Below x3.w.heap.size x3.w W2 := by rw [← hW2]; exact below_alloc _ _
        rw [hW2]
        clear hW2
        have HHI := Lib.hid (HHI.out.below hb5)
        obtain ⟨SB, hSB⟩ : ∃ x, x3.w.heap.size = x := ⟨_, rfl⟩
        rw [hSB] at RS ⊢
        clear hSB
        obtain ⟨x4, hx4⟩ := x3.on hb5
        subst hx4
        clear hb5
        go_wp2_with fail
        refine (HPY.out _ x4.fr).mono ?_
        rintro e u ⟨rfl, hbu⟩
        have HHI := Lib.hid (HHI.out.below hbu)
        have RS := Lib.hid (RS.out.below hbu RS.out.lt)
        obtain ⟨x5, hx5⟩ := x4.on hbu
        subst hx5
        clear hbu
        go_wp2_with fail
        refine (Grows_any ph ch (handL b P) P.length (by omega) (by omega) _ HHI.out HGW.out).mono ?_
        rintro e u ⟨rfl, hbu⟩
        have HHI := Lib.hid (HHI.out.below hbu)
        have RS := Lib.hid (RS.out.below hbu RS.out.lt)
        obtain ⟨x6, hx6⟩ := x5.on hbu
        subst hx6
        clear hbu
        have HAR := Lib.hid (away_range HOK.out bits HPL.out)
        have s0 := RS.out.cell 0 (v := .int .i64 lo) rfl
        have s1 := RS.out.cell 1 (v := .int .i64 hi) rfl
        go_wp2_with fail
        go_loopw [17, 18, 19] (fun f o kk wr => ∃ (k : Nat) (v : Later x6.w), k ≤ P.length ∧ f = .int .i64 (bgn P k) ∧ o = .int .i64 (awayT b bits P k) ∧ kk = .int .i64 (k : Int) ∧ wr = v.w) (fun _ _ kk _ => P.length - (intOf kk).toNat)
        case atStart => exact ⟨0, ⟨x6.w, Below.refl _ _⟩, by omega, rfl, rfl, rfl, rfl⟩
        case round =>
          obtain ⟨k, v, hk, rfl, rfl, rfl, rfl⟩ := hrel
          by_cases hkl : k < P.length
          · obtain ⟨X, Y, kd, t, ix, hX, hY, hXY, hYn, hbox, hkd, htot, ht0, ht1, hix, hways⟩ := true_round HOK.out bits HPL.out hkl
            have har := HAR.out k hk
            have HBN := Lib.hid (show bgn P (k + 1) = (Y : Int) by rw [bgn_succ, hY])
            obtain ⟨gP, oP, eP, hcP⟩ := HPI.out k hkl
            rw [hY] at hcP
            have HCP := Lib.hid hcP
            obtain ⟨gT, oT, eT, _⟩ := HH.out 0 (by rw [trulyL_length]; omega)
            subst eT
            subst eP
            have HHT := Lib.hid (HH.out.below (x6.b.trans (v.b.mono x6.b.size)))
            have HTP := Lib.hid (show IntsAt v.w (some ⟨gT, oT + X, none⟩) (trueP b bits X Y) from ints_take (ints_drop HHT.out X) (Y - X))
            have htl := true_len (b := b) (bits := bits) (x := X) (y := Y) hYn
            have HTO := Lib.hid (fun w' (kk : From v.w w') => tot_call htl htot (by omega) (some ⟨gT, oT + X, none⟩) (cht - X) w' (HTP.out.below kk.b))
            have HBV := Lib.hid (show BfAt v.w p c b from HBF.out _ ⟨x6.b.trans (v.b.mono x6.b.size)⟩)
            have HKI := Lib.hid (fun w' (kk : From v.w w') => kind_call HBO.out HOK.out hXY hYn hbox hkd p c w' (HBV.out.below kk.b))
            have HHI2 := Lib.hid (HHI.out.below v.b)
            have HIX := Lib.hid (fun w' (kk : From v.w w') => idx_call (l := handL b P) rfl (by omega) hix ph ch w' (HHI2.out.below kk.b))
            obtain ⟨aw, haw⟩ : ∃ x, awayT b bits P k = x := ⟨_, rfl⟩
            obtain ⟨awn, hawn⟩ : ∃ x, awayT b bits P (k + 1) = x := ⟨_, rfl⟩
            have HAN := Lib.hid hawn
            rw [haw] at har ⊢
            rw [hX]
            rw [haw, hawn] at hways
            clear hX hY haw hawn htot hbox hkd hix htl hcP HHT HTP HHI2
            have hcht2 : Y ≤ cht := by omega
            have j1 : (0 : Int) ≤ (k : Int) := by omega
            have j2 : (k : Int) < (P.length : Int) := by omega
            have j3 : (0 : Int) ≤ (X : Int) := by omega
            have j4 : (X : Int) ≤ (Y : Int) := by omega
            have j5 : (Y : Int) ≤ (b.hs.length : Int) := by omega
            have j6 : (Y : Int) ≤ (cht : Int) := by omega
            have j7 : 0 < Y - X := by omega
            have hcP := HCP.out
            clear HCP
            obtain ⟨V, hV⟩ : ∃ u, v.w = u := ⟨_, rfl⟩
            have HV := Lib.hid hV
            have KX := Lib.hid (show From x6.w V by rw [← hV]; exact v.fr)
            have KZ := Lib.hid (show From z5.w V from x6.fr.trans KX.out)
            have K0 := Lib.hid (show From W0 V from z5.fr.trans KZ.out)
            have gv0 := K0.out.cell g0
            have gv1 := K0.out.cell g1
            have gv2 := K0.out.cell g2
            have gv3 := K0.out.cell g3
            have gv4 := K0.out.cell g4
            have hcV := KZ.out.cell hcP
            rw [hV] at HTO HBV HKI HIX ⊢
            have haw1 : -4800 ≤ aw := by omega
            have haw2 : aw ≤ 12800 := by omega
            have HAL := Lib.hid (fun (h1 : b.pr - b.le ≤ t) (h2 : t ≤ b.pr + b.mo) w' => allow_call HOK.out h1 h2 p c w')
            clear g0 g1 g2 g3 g4 s0 s1 hcell hcP hV har HAR
            obtain ⟨v1, hv1⟩ : ∃ z : Later V, V = z.w := ⟨⟨V, Below.refl _ _⟩, rfl⟩
            rw [hv1]
            clear hv1
            go_wp2_with fail
            refine (HTO.out _ v1.fr).mono ?_
            rintro e u ⟨rfl, hbu⟩
            obtain ⟨v2, hv2⟩ := v1.on hbu
            subst hv2
            clear hbu HTO
            go_upto_region 21 with (fail)
            refine wp_region_later (by kernel_rfl) (by kernel_rfl) ?_
            repeat (go_big_quiet_step (first
              | (go_at_call 19; with_reducible exact Calls.later_of (HKI.out _ (From.trans (Later.fr _) (Later.fr _))))))
            refine wpQuiet_nil ?_
            intro _ hw'
            obtain ⟨y, hw''⟩ := hw'
            subst hw''
            obtain ⟨v3, hv3⟩ := v2.up y
            rw [hv3]
            clear hv3
            rcases hways with ⟨rfl, hx, ha1, ha2, rfl⟩ | ⟨rfl, hx, ha2, rfl⟩ | ⟨rfl, hx, ha1, rfl⟩ | ⟨rfl, hx, rfl⟩
            · have e1 : IntKind.i64.wrap (t - b.pr) = t - b.pr := IntWalk.i64_in _ (by omega)
              have e2 : IntKind.i64.wrap (aw + (t - b.pr)) = aw + (t - b.pr) := IntWalk.i64_in _ (by omega)
              have hx2 : decide (ix < 0) = true := by simpa using hx
              go_wp2_with fail
              refine (HIX.out _ v3.fr).mono ?_
              rintro e u ⟨rfl, hbu⟩
              obtain ⟨v4, hv4⟩ := v3.on hbu
              subst hv4
              clear hbu
              go_wp2_with fail
              refine (HAL.out ha1 ha2 _).mono ?_
              rintro e u ⟨rfl, hbu⟩
              obtain ⟨v5, hv5⟩ := v4.on hbu
              subst hv5
              clear hbu
              go_wp2_with fail
              obtain ⟨x7, hx7⟩ := v.on (by rw [HV.out]; exact v5.b)
              go_roundw
              case rel => exact ⟨k + 1, x7, by omega, by rw [HBN.out], by rw [HAN.out], by go_num, by rw [← hx7]⟩
              case measure => simp [intOf]; omega
            · have e1 : IntKind.i64.wrap (b.pr + b.mo) = b.pr + b.mo := IntWalk.i64_in _ (by omega)
              have hx2 : decide (ix < 0) = false := by simp; omega
              have ha3 : ¬ b.pr + b.mo < t := by omega
              go_wp2_with fail
              refine (HIX.out _ v3.fr).mono ?_
              rintro e u ⟨rfl, hbu⟩
              obtain ⟨v4, hv4⟩ := v3.on hbu
              subst hv4
              clear hbu
              go_wp2_with fail
              obtain ⟨x7, hx7⟩ := v.on (by rw [HV.out]; exact v4.b)
              go_roundw
              case rel => exact ⟨k + 1, x7, by omega, by rw [HBN.out], by rw [HAN.out], by go_num, by rw [← hx7]⟩
              case measure => simp [intOf]; omega
            · have e1 : IntKind.i64.wrap (b.pr - b.le) = b.pr - b.le := IntWalk.i64_in _ (by omega)
              have hx2 : decide (ix < 0) = false := by simp; omega
              have ha3 : ¬ t < b.pr - b.le := by omega
              go_wp2_with fail
              refine (HIX.out _ v3.fr).mono ?_
              rintro e u ⟨rfl, hbu⟩
              obtain ⟨v4, hv4⟩ := v3.on hbu
              subst hv4
              clear hbu
              go_wp2_with fail
              obtain ⟨x7, hx7⟩ := v.on (by rw [HV.out]; exact v4.b)
              go_roundw
              case rel => exact ⟨k + 1, x7, by omega, by rw [HBN.out], by rw [HAN.out], by go_num, by rw [← hx7]⟩
              case measure => simp [intOf]; omega
            · have hx2 : decide (ix < 0) = false := by simp; omega
              go_wp2_with fail
              refine (HIX.out _ v3.fr).mono ?_
              rintro e u ⟨rfl, hbu⟩
              obtain ⟨v4, hv4⟩ := v3.on hbu
              subst hv4
              clear hbu
              go_wp2_with fail
              obtain ⟨x7, hx7⟩ := v.on (by rw [HV.out]; exact v4.b)
              go_roundw
              case rel => exact ⟨k + 1, x7, by omega, by rw [HBN.out], by rw [HAN.out], by go_num, by rw [← hx7]⟩
              case measure => simp [intOf]; omega
          · obtain rfl : k = P.length := by omega
            have hfo := HAO.out
            obtain ⟨ov, hov⟩ : ∃ x, awayT b bits P P.length = x := ⟨_, rfl⟩
            obtain ⟨fr, hfr⟩ : ∃ x, bgn P P.length = x := ⟨_, rfl⟩
            rw [hov] at hfo ⊢
            rw [hfr]
            clear hov hfr
            have HHA := Lib.hid (fun w' => by have h := Has_any lo hi ov w'; rw [fits_yes hfo] at h; exact h)
            clear hfo
            go_wp2_with fail
            refine (HHA.out _).mono ?_
            rintro e u ⟨rfl, hbu⟩
            obtain ⟨v2, hv2⟩ := v.on hbu
            subst hv2
            clear hbu
            obtain ⟨x7, hx7⟩ := x6.on v2.b
            go_wp2_with fail
            go_roundw
            case rel => exact ⟨m + 1, x7, by omega, by simp, rfl⟩
            case measure => simp [intOf]; omega
      · obtain rfl : m = 2 := by omega
        go_wp2_with fail
        refine (filled_any _).mono ?_
        rintro e u ⟨rfl, hbu⟩
        obtain ⟨x2, hx2⟩ := x.on hbu
        subst hx2
        clear hbu
        go_wp2_with fail
        go_ret
        exact ⟨rfl, HE.out.trans ((z5.b.trans (x2.b.mono z5.b.size)).mono HE.out.size)⟩
end Go.Proofs.Ytgdidhbomdfcpaa
