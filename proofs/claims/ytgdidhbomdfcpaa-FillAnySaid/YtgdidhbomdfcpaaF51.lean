/- The laws' own helpers of layer 5: how many splints truly are in each handful. -/
import Derived.Test.YtgdidhbomdfcpaaF40
import Derived.Test.YtgdidhbomdfcpaaF39
import Derived.Deep.RegionHeld3
namespace Go.Proofs.Ytgdidhbomdfcpaa
open Go.RowKit Go.Maps
attribute [local go_sem] Oper.semAt_some

/-- How many splints truly are in the first handfuls, as numbers choose them. -/
def trulyL (b : Bf) (bits : List Int) (k : Nat) : List Int := (List.range k).map fun i => drawn (handAt b i).lo (handAt b i).hi (item bits i)
theorem trulyL_length (b : Bf) (bits : List Int) (k : Nat) : (trulyL b bits k).length = k := by simp [trulyL]
theorem trulyL_succ (b : Bf) (bits : List Int) (k : Nat) : trulyL b bits (k + 1) = trulyL b bits k ++ [drawn (handAt b k).lo (handAt b k).hi (item bits k)] := by simp [trulyL, List.range_succ]
theorem append_num_ex (w : World) (base : Nat) (hbase : base ≤ w.heap.size) (v : Value) (l : List Int) (n : Nat) (hl : l.length = n) (hown : w.ownsRow base 3 1 v n (l.map (Value.int .i64))) (z : Nat) (x : Int) (hz : ∀ j u, [Value.int .i64 x][j]? = some u → w.cell? ((⟨z, 0, none⟩ : Addr).add j) = some u) (hn : n ≤ 1000) (ty : TypeId) :
    ∃ v' w', (Builtin.append_ #[38, 38] ty #[v, .slice (some ⟨z, 0, none⟩) 1 1]).run Try.prog w = .ok v' w' ∧ (w'.ownsRow base 3 1 v' (n + 1) ((l ++ [x]).map (Value.int .i64)) ∧ Below base w w') := by
  obtain ⟨i0, hi, hi0, hi1, hi2⟩ := info_parts Try.infoInt
  obtain ⟨v', w', hr, ho, hg, _⟩ := run_append_own (P := Try.prog) w base 38 ty 3 i0 _ 1 8 Try.underlying38 hi hi0 hi1 hi2 rfl (by decide) v n (l.map (Value.int .i64)) hown ⟨z, 0, none⟩ 1 1 [.int .i64 x] rfl hz (by simp [Value.oneCell']) (by unfold maxLen; omega) (by omega) hbase
  exact ⟨v', w', hr, by simpa using ho, (Below.refl base w).grown hg hbase (fun k hk => (hown.lt k hk).1)⟩
/-- The numbers are returned. -/
def GaveTruly (b : Bf) (bits : List Int) (w : World) (e : Ending) (w' : World) : Prop := ∃ q c, e = .returned (.slice q b.hs.length c) ∧ IntsAt w' q (trulyL b bits b.hs.length) ∧ b.hs.length ≤ c ∧ Below w.heap.size w w'
set_option maxRecDepth 100000 in
set_option maxHeartbeats 1600000 in
theorem truly5_any (b : Bf) (p : Option Addr) (c : Nat) (ps : Option Addr) (cs : Nat) (ss : List Int) (w : World) (hB : BfAt w p c b) (hok : BfOk b) (hs : IntsAt w ps ss) (hn : ss.length ≤ maxLen) :
    Calls Try.prog 38 #[.agg (bfA b p c), .slice ps ss.length cs] w (GaveTruly b ss w) := by
  obtain ⟨W0, hW0⟩ : ∃ W, W = w.alloc (.cells (bfA b p c) 24) := ⟨_, rfl⟩
  have HW0 := Lib.hid hW0
  have HE := Lib.hid (show Below w.heap.size w W0 by rw [hW0]; exact below_alloc _ _)
  have HR := Lib.hid (show Row W0 w.heap.size (bfA b p c) 24 by rw [hW0]; exact Row.new w _ _)
  have HB := Lib.hid (hB.below HE.out)
  have HS := Lib.hid (hs.below HE.out)
  have HN := Lib.hid hn
  have HOK := Lib.hid hok
  have g4 := HR.out.cell 4 (v := .slice p b.hs.length c) rfl
  have hn8 := hok.n8
  clear hW0 hB hok hs hn
  go_enter Try.func38, Try.ntmps38
  go_wp2_with fail
  rw [← HW0.out]
  go_loopw [5, 6] (fun ls i wr => ∃ (k : Nat) (x : Later W0), k ≤ b.hs.length ∧ i = .int .i64 k ∧ wr.ownsRow W0.heap.size 3 1 ls k ((trulyL b ss k).map (Value.int .i64)) ∧ wr = x.w) (fun _ i _ => b.hs.length - (intOf i).toNat)
  case atStart => exact ⟨0, ⟨W0, Below.refl _ _⟩, by omega, rfl, World.ownsRow_nil _ _ _ _, rfl⟩
  case round =>
    obtain ⟨k, x, hk, rfl, hown, rfl⟩ := hrel
    obtain ⟨pl, cl, rfl⟩ := owns_slice hown
    have HO := Lib.hid hown
    clear hown
    by_cases hlt : k < b.hs.length
    · have HIT := Lib.hid (fun w' (kk : From W0 w') => Item_any ps cs ss k w' HN.out (HS.out.below kk.b))
      have hl1 : b.hs[k].lo ≤ b.hs[k].hi := (HOK.out.h _ (List.getElem_mem hlt)).l1
      have hl0 : 0 ≤ b.hs[k].lo := (HOK.out.h _ (List.getElem_mem hlt)).l0
      have hl2 : b.hs[k].hi ≤ 200 := (HOK.out.h _ (List.getElem_mem hlt)).l2
      obtain ⟨bb, o, hpe, c0, c1⟩ := HB.out.h k hlt
      have HTS := Lib.hid (trulyL_succ b ss k)
      have hha := handAt_eq hlt
      rw [hha] at HTS
      have HTL := Lib.hid (trulyL_length b ss k)
      obtain ⟨it, hit⟩ : ∃ x, item ss k = x := ⟨_, rfl⟩
      rw [hit] at HIT HTS
      have HDR := Lib.hid (fun w' => Drawn_any b.hs[k].lo b.hs[k].hi it w' (by omega) hl1 (by omega))
      obtain ⟨t, ht⟩ : ∃ x, drawn b.hs[k].lo b.hs[k].hi it = x := ⟨_, rfl⟩
      rw [ht] at HDR HTS
      obtain ⟨lo, hlo⟩ : ∃ x, b.hs[k].lo = x := ⟨_, rfl⟩
      obtain ⟨hi, hhi⟩ : ∃ x, b.hs[k].hi = x := ⟨_, rfl⟩
      rw [hlo, hhi] at HDR
      rw [hlo] at c0
      rw [hhi] at c1
      clear ht hlo hhi hit hl0 hl1 hl2 hha
      have HPE := Lib.hid hpe
      have g4' : W0.cell? ⟨w.heap.size, 4, none⟩ = some (.slice (some ⟨bb, o, none⟩) b.hs.length c) := by rw [← hpe]; exact g4
      clear hpe
      have i1 : (0 : Int) ≤ (k : Int) := by omega
      have i2 : (k : Int) < (b.hs.length : Int) := by omega
      have hzx := x.b.size
      go_upto_region 5 with (fail)
      have KI := Lib.hid x.fr
      have KV := Lib.hid (From.refl x.w)
      have HSS := Lib.hid (fun w' (kk : From W0 w') => (⟨kk.cell g4', kk.cell c0, kk.cell c1⟩ : w'.cell? ⟨w.heap.size, 4, none⟩ = some (.slice (some ⟨bb, o, none⟩) b.hs.length c) ∧ w'.cell? ⟨bb, o + k * 2, none⟩ = some (.int .i64 lo) ∧ w'.cell? ⟨bb, o + k * 2 + 1, none⟩ = some (.int .i64 hi)))
      go_region_held3 (fun w' => w'.cell? ⟨w.heap.size, 4, none⟩ = some (.slice (some ⟨bb, o, none⟩) b.hs.length c) ∧ w'.cell? ⟨bb, o + k * 2, none⟩ = some (.int .i64 lo) ∧ w'.cell? ⟨bb, o + k * 2 + 1, none⟩ = some (.int .i64 hi))
        (first | with_reducible exact HSS.out _ KI.out | with_reducible exact HSS.out _ KI.out.drew | with_reducible exact HSS.out _ (KI.out.below (below_alloc _ _)) | with_reducible exact HSS.out _ (KI.out.below (below_alloc _ _)).drew)
        (first
          | (go_at_call 49; (first | with_reducible refine (HIT.out _ KI.out).mono ?_ | with_reducible refine (HIT.out _ KI.out.drew).mono ?_); rintro e u ⟨rfl, rfl⟩)
          | (go_at_call 52; (with_reducible refine (HDR.out _).mono ?_); rintro e u ⟨rfl, hbu⟩; have KI := Lib.hid (by first | with_reducible exact KI.out.drew.below hbu | with_reducible exact KI.out.below hbu); have KV := Lib.hid (by first | with_reducible exact KV.out.drew.below hbu | with_reducible exact KV.out.below hbu); clear hbu)
          | (refine step_append_ex rfl _ _ _ rfl _ _ rfl rfl _ (append_num_ex _ W0.heap.size (by simp; have := KV.out.b.size; omega) _ (trulyL b ss k) k HTL.out (owns_below HO.out (KV.out.below (below_alloc _ _)).b) _ t (cell_one_new _ _ _) (by omega) _) ?_; rintro v' w9 ⟨ho, hb⟩; have HO3 := Lib.hid ho; have KI := Lib.hid (show From W0 w9 from ⟨(KI.out.below (below_alloc _ _)).b.trans hb⟩); clear ho hb))
      all_goals
        obtain ⟨x3, hx3⟩ := later_of KI.out.b
        subst hx3
        clear KI KV HSS
        go_wp2_with fail
        go_roundw
        case rel => exact ⟨k + 1, x3, by omega, by simp, by rw [HTS.out]; exact HO3.out, rfl⟩
        case measure => simp [intOf]; omega
    · obtain rfl : k = b.hs.length := by omega
      obtain ⟨p', c', hv, hints, hcc, _⟩ := ints_of_owns2 (xs := trulyL b ss b.hs.length) (by rw [trulyL_length]; exact HO.out)
      rw [trulyL_length] at hv hcc
      cases hv
      have HIN := Lib.hid hints
      clear hints
      go_wp2_with fail
      go_ret
      exact ⟨pl, cl, rfl, HIN.out, hcc, x.base HE.out⟩
end Go.Proofs.Ytgdidhbomdfcpaa
