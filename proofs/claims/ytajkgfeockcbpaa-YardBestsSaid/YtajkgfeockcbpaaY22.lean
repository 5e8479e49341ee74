/- The walks of layer 6: one bucket more. -/
import Derived.Test.YtajkgfeockcbpaaY21
import Derived.BigQuiet
namespace Go.Proofs.Ytajkgfeockcbpaa
open Go.RowKit Go.Maps
attribute [local go_sem] Oper.semAt_some

set_option maxRecDepth 10000 in
set_option maxHeartbeats 1600000 in
theorem index_any (p : Option Addr) (c : Nat) (l : List (Int × Int)) (s0 s1 : Int) (w : World) (hS : SpotsAt w p l) (hn : l.length < 2 ^ 61) :
    Calls Try.prog 127 #[.slice p l.length c, .agg #[.int .i64 s0, .int .i64 s1]] w fun e w' => ∃ i : Int, e = .returned (.int .i64 i) ∧ decide (0 ≤ i) = l.contains (s0, s1) ∧ Below w.heap.size w w' := by
  obtain ⟨W0, hW0⟩ : ∃ W, W = w.alloc (.cells #[.int .i64 s0, .int .i64 s1] 62) := ⟨_, rfl⟩
  have HW0 := Lib.hid hW0
  have HE := Lib.hid (show Below w.heap.size w W0 by rw [hW0]; exact below_alloc _ _)
  have HR := Lib.hid (show Row W0 w.heap.size #[.int .i64 s0, .int .i64 s1] 62 by rw [hW0]; exact Row.new _ _ _)
  have HS := Lib.hid (hS.below HE.out)
  clear hS hW0
  have b0 := HR.out.cell 0 (v := .int .i64 s0) rfl
  have b1 := HR.out.cell 1 (v := .int .i64 s1) rfl
  go_enter Try.func127, Try.ntmps127
  go_upto_region 1 with (fail)
  rw [← HW0.out]
  go_wp2_with fail
  go_loopw [8] (fun i wr => ∃ k : Nat, k ≤ l.length ∧ i = .int .i64 k ∧ (∀ t ∈ l.take k, t ≠ (s0, s1)) ∧ ∃ x : Later W0, wr = x.w) (fun i _ => l.length - (intOf i).toNat)
  case atStart => exact ⟨0, by omega, rfl, by simp, ⟨W0, Below.refl _ _⟩, rfl⟩
  case round =>
    obtain ⟨k, hk, rfl, hall, x, rfl⟩ := hrel
    have HA := Lib.hid hall
    clear hall
    by_cases hlt : k < l.length
    · obtain ⟨bq, oq, hp, q0, q1⟩ := HS.out k hlt
      have HTK := Lib.hid (List.take_succ_eq_append_getElem hlt)
      have HMEM := Lib.hid (List.getElem_mem hlt)
      obtain ⟨t, ht⟩ : ∃ l', l[k] = l' := ⟨_, rfl⟩
      rw [ht] at q0 q1 HTK HMEM
      obtain ⟨t0, t1⟩ := t
      subst hp
      have i1 : (0 : Int) ≤ (k : Int) := by omega
      have i2 : (k : Int) < (l.length : Int) := by omega
      have i3 : (l.length : Int) < 2305843009213693952 := by omega
      clear ht
      by_cases he : s0 = t0 ∧ s1 = t1
      · obtain ⟨rfl, rfl⟩ := he
        go_wp2_with fail
        refine wp_region_later (by kernel_rfl) (by kernel_rfl) ?_
        repeat (go_big_quiet_step (fail))
        refine wpQuiet_nil ?_
        intro _ hw'
        obtain ⟨y, hw''⟩ := hw'
        subst hw''
        go_wp2_with fail
        go_ret
        exact ⟨(k : Int), rfl, by rw [decide_eq_true (by omega)]; exact (List.contains_iff_mem.2 HMEM.out).symm, (x.base HE.out).trans (y.b.mono (x.base HE.out).size)⟩
      · have HA2 := Lib.hid (show ∀ l' ∈ l.take (k + 1), l' ≠ (s0, s1) from fun l' hl => by
          rw [HTK.out] at hl
          rcases List.mem_append.1 hl with h | h
          · exact HA.out l' h
          · rw [List.mem_singleton.1 h]; intro e; cases e; exact he ⟨rfl, rfl⟩)
        by_cases h0 : s0 = t0
        · subst h0
          have hne : (s1 == t1) = false := by rw [beq_eq_false_iff_ne]; exact fun e => he ⟨rfl, e⟩
          clear he
          go_wp2_with fail
          refine wp_region_later (by kernel_rfl) (by kernel_rfl) ?_
          repeat (go_big_quiet_step (fail))
          refine wpQuiet_nil ?_
          intro _ hw'
          obtain ⟨y, hw''⟩ := hw'
          subst hw''
          obtain ⟨x2, hx2⟩ := x.up y
          go_wp2_with fail
          go_roundw
          case rel => exact ⟨k + 1, by omega, by go_num, HA2.out, x2, rfl⟩
          case measure => simp [intOf]; omega
        · have hne : (s0 == t0) = false := by rw [beq_eq_false_iff_ne]; exact h0
          clear he h0
          go_wp2_with fail
          refine wp_region_later (by kernel_rfl) (by kernel_rfl) ?_
          repeat (go_big_quiet_step (fail))
          refine wpQuiet_nil ?_
          intro _ hw'
          obtain ⟨y, hw''⟩ := hw'
          subst hw''
          obtain ⟨x2, hx2⟩ := x.up y
          go_wp2_with fail
          go_roundw
          case rel => exact ⟨k + 1, by omega, by go_num, HA2.out, x2, rfl⟩
          case measure => simp [intOf]; omega
    · obtain rfl : k = l.length := by omega
      go_wp2_with fail
      go_ret
      exact ⟨-1, rfl, by
        rw [show decide ((0 : Int) ≤ -1) = false from rfl]
        refine (Bool.eq_false_iff.2 (fun h => ?_)).symm
        exact HA.out _ (by rw [List.take_length]; exact List.contains_iff_mem.1 h) rfl, x.base HE.out⟩
set_option maxRecDepth 10000 in
set_option maxHeartbeats 1600000 in
theorem contains_any (p : Option Addr) (c : Nat) (l : List (Int × Int)) (s0 s1 : Int) (w : World) (hS : SpotsAt w p l) (hn : l.length < 2 ^ 61) :
    Calls Try.prog 109 #[.slice p l.length c, .agg #[.int .i64 s0, .int .i64 s1]] w fun e w' => e = .returned (.bool (l.contains (s0, s1))) ∧ Below w.heap.size w w' := by
  have hE := below_alloc w (.cells #[.int .i64 s0, .int .i64 s1] 62)
  have HX := Lib.hid (index_any p c l s0 s1 _ (hS.below hE) hn)
  have HE := Lib.hid hE
  clear hS hE
  go_enter Try.func109, Try.ntmps109
  go_wp2_with (first | (go_at_call 127; (with_reducible refine HX.out.mono ?_); rintro e u ⟨i, rfl, hi, hbu⟩; have HI := Lib.hid hi; have HBU := Lib.hid hbu; clear hi hbu))
  go_ret
  exact ⟨ret_bool HI.out, HE.out.trans (HBU.out.mono HE.out.size)⟩
abbrev ybZ : Array Value := #[.slice none 0 0, .slice none 0 0, .slice none 0 0, .slice none 0 0, .int .i64 0, .int .i64 0, .int .i64 0, .int .i64 0]
/-- A spot is appended to a list that is not one's own, and is full. -/
theorem grow_one (w : World) (p : Option Addr) (l : List (Int × Int)) (s0 s1 : Int) (g : Nat) (hs : SpotsAt w p l) (hp : p = none → l = []) (hg : Row w g #[.int .i64 s0, .int .i64 s1] 62) (hn : l.length ≤ 1000) (ty : TypeId) :
    ∃ v' w', (Builtin.append_ #[23, 23] ty #[.slice p l.length l.length, .slice (some ⟨g, 0, none⟩) 1 1]).run Try.prog w = .ok v' w' ∧ (OwnSp w' w.heap.size v' (l ++ [(s0, s1)]) ∧ Below w.heap.size w w') := by
  obtain ⟨i0, hi, hi0, hi1, hi2⟩ := info_parts Try.infoSpot
  have hsg : SpotsAt w (some ⟨g, 0, none⟩) [(s0, s1)] := by
    intro i hi
    obtain rfl : i = 0 := by simpa using hi
    exact ⟨_, 0, rfl, hg.cell 0 rfl, hg.cell 1 rfl⟩
  cases p with
  | none =>
    obtain rfl := hp rfl
    exact append_spots w w.heap.size (Nat.le_refl _) (.slice none 0 0) [] (World.ownsRow_nil _ _ _ _) (some ⟨g, 0, none⟩) 1 [(s0, s1)] hsg (by simp) ty
  | some a =>
    have hg2 := grownCap_ge w (l.length + 1) l.length 62
    have hm2 := grownCap_le_maxLen w (l.length + 1) l.length 62 (by unfold maxLen; omega)
    have hr := run_append_grow (P := Try.prog) w 23 ty 62 i0 _ Try.underlying23 hi hi0 a l.length l.length (spA l) (by rw [hi1]; exact spA_length l) (by
      rcases l with _ | ⟨x, m⟩
      · intro j u hu; simp [spA] at hu
      · obtain ⟨b, o, e, _, _⟩ := hs 0 (by simp)
        cases e
        exact spA_cells hs) ⟨g, 0, none⟩ 1 1 (spA [(s0, s1)]) (by rw [hi1]; rfl) (spA_cells hsg) (by omega) (by omega) (growslice_fits (by omega) (by rw [hi2]; omega))
    refine ⟨_, _, hr, ⟨?_, ?_⟩, (Below.refl _ _).drew.trans (below_alloc w.drew _)⟩
    · rw [spA_length]
    · refine .inr ⟨w.heap.size, _, _, ?_, Nat.le_refl _, World.alloc_heap_new w.drew _, ?_, hm2, ?_, ?_⟩
      · simp
      · simpa using hg2
      · simp [size_zeroCells, Value.cells, spA_length]; omega
      · simp only [spA_append, List.length_append, List.length_cons, List.length_nil, Nat.zero_add, Array.toList_append, List.append_assoc]
        rw [← List.append_assoc]
        exact List.take_left' (by rw [List.length_append, spA_length, spA_length]; simp; omega)
/-- A yard with a bucket more is returned. -/
def GaveWith (b : Yb) (P : Yp) (s : Int × Int) (w : World) (e : Ending) (w' : World) : Prop :=
  ∃ p c, e = .returned (.agg (ybA (withB b s) ⟨P.pl, P.cl, P.pd, P.cd, p, c, P.ps, P.cs⟩)) ∧ SpotsAt w' p (b.buckets ++ [s]) ∧ b.buckets.length + 1 ≤ c ∧ Below w.heap.size w w'
set_option maxRecDepth 100000 in
set_option maxHeartbeats 3200000 in
theorem withBucket_any (b : Yb) (P : Yp) (s0 s1 : Int) (w : World) (hU : SpotsAt w P.pb b.buckets) (hc : b.buckets.length ≤ P.cb) (hp : P.pb = none → b.buckets = []) (hn : b.buckets.length ≤ 100) :
    Calls Try.prog 110 #[.agg (ybA b P), .agg #[.int .i64 s0, .int .i64 s1]] w (GaveWith b P (s0, s1) w) := by
  obtain ⟨pl, cl, pd, cd, pb, cb, ps, cs⟩ := P
  obtain ⟨W0, hW0⟩ : ∃ W, W = ((w.alloc (.cells (ybA b ⟨pl, cl, pd, cd, pb, cb, ps, cs⟩) 25)).alloc (.cells #[.int .i64 s0, .int .i64 s1] 62)).alloc (.cells ybZ 25) := ⟨_, rfl⟩
  have HW0 := Lib.hid hW0
  have HE := Lib.hid (show Below w.heap.size w W0 by rw [hW0]; exact below_alloc3 _ _ _ _)
  have HRB := Lib.hid (show Row W0 w.heap.size (ybA b ⟨pl, cl, pd, cd, pb, cb, ps, cs⟩) 25 by rw [hW0]; exact ((Row.new _ _ _).alloc _).alloc _)
  have HRS := Lib.hid (show Row W0 (w.heap.size + 1) #[.int .i64 s0, .int .i64 s1] 62 by rw [hW0]; exact (Row.new1 _ _ _ _).alloc _)
  have HRZ := Lib.hid (show Row W0 (w.heap.size + 1 + 1) ybZ 25 by rw [hW0]; exact Row.new2 _ _ _ _ _)
  have hz0 : W0.heap.size = w.heap.size + 3 := by rw [hW0]; simp
  have HU := Lib.hid (hU.below HE.out)
  have HP := Lib.hid hp
  dsimp only at hc
  clear hU hp hW0
  have hc2 : (b.buckets.length : Int) ≤ (cb : Int) := by omega
  have i0 : (0 : Int) ≤ (b.buckets.length : Int) := by omega
  have i1 : (b.buckets.length : Int) ≤ 100 := by omega
  have c2 := HRB.out.cell 2 (v := .slice pb b.buckets.length cb) rfl
  go_enter Try.func110, Try.ntmps110
  go_upto_region 1 with (fail)
  rw [← HW0.out]
  go_upto_region 2 with (fail)
  refine wp_region_late (S := fun w' => w'.cell? ⟨w.heap.size, 2, none⟩ = some (.slice pb b.buckets.length cb) ∧ w'.cell? ⟨w.heap.size + 1, 0, none⟩ = some (.int .i64 s0) ∧ w'.cell? ⟨w.heap.size + 1, 1, none⟩ = some (.int .i64 s1)) 8 (by kernel_rfl) (by kernel_rfl) (by kernel_rfl) (by kernel_rfl) (by rfl) ⟨HRB.out.cell 2 rfl, HRS.out.cell 0 rfl, HRS.out.cell 1 rfl⟩ (fun hH => ?_)
  have KC := Lib.hid (show Below W0.heap.size W0 W0.drew from (Below.refl _ _).drew)
  obtain ⟨W1, hW1⟩ : ∃ z, W0.drew = z := ⟨_, rfl⟩
  rw [hW1] at hH KC ⊢
  clear hW1
  simp only [List.take_succ_cons, List.take_zero, List.drop_succ_cons, List.drop_zero, idled, List.map_cons, List.map_nil, idleOp, List.cons_append, List.nil_append, List.size_toArray, List.length_cons, List.length_nil, Nat.reduceAdd]
  refine wpAnyH_take_to 0 9 (.pointer (some ⟨w.heap.size, 2, none⟩)) rfl rfl (by kernel_rfl) (by kernel_rfl) (by kernel_rfl) (fun _ _ _ h => h) (Or.inl ⟨by rfl, fun w' hSw => by (obtain ⟨q0, q1, q2⟩ := hSw; go_simp)⟩) hH ?_
  refine wpAnyH_take_to 1 10 (.slice pb b.buckets.length cb) rfl rfl (by kernel_rfl) (by kernel_rfl) (by kernel_rfl) (fun _ _ _ h => h) (Or.inl ⟨by rfl, fun w' hSw => by (obtain ⟨q0, q1, q2⟩ := hSw; go_simp)⟩) hH ?_
  refine wpAnyH_take_to 2 11 (.int .i64 b.buckets.length) rfl rfl (by kernel_rfl) (by kernel_rfl) (by kernel_rfl) (fun _ _ _ h => h) (Or.inl ⟨by rfl, fun w' hSw => by (obtain ⟨q0, q1, q2⟩ := hSw; go_simp)⟩) hH ?_
  refine wpAnyH_take_to 3 12 (.int .i64 b.buckets.length) rfl rfl (by kernel_rfl) (by kernel_rfl) (by kernel_rfl) (fun _ _ _ h => h) (Or.inl ⟨by rfl, fun w' hSw => by (obtain ⟨q0, q1, q2⟩ := hSw; go_simp)⟩) hH ?_
  refine wpAnyH_take_to 4 13 (.slice pb b.buckets.length b.buckets.length) rfl rfl (by kernel_rfl) (by kernel_rfl) (by kernel_rfl) (fun _ _ _ h => h) (Or.inl ⟨by rfl, fun w' hSw => by (obtain ⟨q0, q1, q2⟩ := hSw; rcases pb with _ | a <;> go_simp)⟩) hH ?_
  refine wpAnyH_take_to 5 14 (.agg #[.int .i64 s0, .int .i64 s1]) rfl rfl (by kernel_rfl) (by kernel_rfl) (by kernel_rfl) (fun _ _ _ h => h) (Or.inl ⟨by rfl, fun w' hSw => by (obtain ⟨q0, q1, q2⟩ := hSw; go_simp)⟩) hH ?_
  try simp only [List.setIfInBounds_toArray, List.set_cons_succ, List.set_cons_zero]
  refine wpAnyH_ready (rs := [6]) (by kernel_rfl) (by simp) (AllReadyH.cons rfl (fun K hK => ?_) AllReadyH.nil)
  go_simp
  have KC := Lib.hid (KC.out.trans ((below_alloc W1 (.cells #[.int .i64 s0, .int .i64 s1] 62)).mono KC.out.size))
  have RG := Lib.hid (Row.new W1 #[.int .i64 s0, .int .i64 s1] 62)
  obtain ⟨W2, hW2⟩ : ∃ z, W1.alloc (.cells #[.int .i64 s0, .int .i64 s1] 62) = z := ⟨_, rfl⟩
  obtain ⟨g, hg⟩ : ∃ n, W1.heap.size = n := ⟨_, rfl⟩
  rw [hW2] at KC RG ⊢
  rw [hg] at RG ⊢
  clear hW2 hg
  have RS := Lib.hid (HRS.out.below KC.out (by omega))
  have RB := Lib.hid (HRB.out.below KC.out (by omega))
  refine hK.out _ _ ⟨RB.out.cell 2 rfl, RS.out.cell 0 rfl, RS.out.cell 1 rfl⟩ (fun hH => ?_)
  clear hK K
  try simp only [Act.put, List.setIfInBounds_toArray, List.set_cons_succ, List.set_cons_zero]
  refine wpAnyH_ready (rs := [7]) (by kernel_rfl) (by simp) (AllReadyH.cons rfl (fun K hK => ?_) AllReadyH.nil)
  refine step_append_ex rfl _ _ _ rfl (.slice pb b.buckets.length b.buckets.length) (.slice (some ⟨g, 0, none⟩) 1 1) rfl rfl _ (grow_one W2 pb b.buckets s0 s1 g (HU.out.below KC.out) HP.out RG.out (by omega) _) ?_
  rintro v' W3 ⟨ho, hb⟩
  have hz2 := KC.out.size
  have KC := Lib.hid (KC.out.trans (hb.mono KC.out.size))
  have RB := Lib.hid (HRB.out.below KC.out (by omega))
  have RS := Lib.hid (HRS.out.below KC.out (by omega))
  have RZ := Lib.hid (HRZ.out.below KC.out (by omega))
  refine hK.out _ _ ⟨RB.out.cell 2 rfl, RS.out.cell 0 rfl, RS.out.cell 1 rfl⟩ (fun hH => ?_)
  clear hK K
  try simp only [Act.put, List.setIfInBounds_toArray]
  refine wpAnyH_take (i := 8) (v := undef) rfl (by kernel_rfl) (by kernel_rfl) (by kernel_rfl) (fun _ _ _ h => h) (Or.inl ⟨by rfl, fun _ _ => by rfl⟩) hH ?_
  refine wpAnyH_take (i := 9) (v := undef) rfl (by kernel_rfl) (by kernel_rfl) (by kernel_rfl) (fun _ _ _ h => h) (Or.inl ⟨by rfl, fun _ _ => by rfl⟩) hH ?_
  refine wpAnyH_done (by kernel_rfl) ?_ _
  refine (id (α := wpList _ _ _ _ _ _) ?_)
  simp only [Act.put]
  obtain ⟨p', c', rfl, hsp, hc', _, hpf, _⟩ := spots_of_owns ho
  have hcell := RB.out.cell 2 (v := .slice pb b.buckets.length cb) rfl
  have hfree := RB.out.free 2
  have RB2 := Lib.hid (show Row (W3.setCell ⟨w.heap.size, 2, none⟩ (.slice p' (b.buckets ++ [(s0, s1)]).length c')) w.heap.size (ybA (withB b (s0, s1)) ⟨pl, cl, pd, cd, p', c', ps, cs⟩) 25 from RB.out.set 2 _)
  have RZ2 := Lib.hid (RZ.out.set_other ⟨w.heap.size, 2, none⟩ (.slice p' (b.buckets ++ [(s0, s1)]).length c') (by dsimp only; omega))
  have HBW := Lib.hid (show Below w.heap.size w (W3.setCell ⟨w.heap.size, 2, none⟩ (.slice p' (b.buckets ++ [(s0, s1)]).length c')) from (HE.out.trans (KC.out.mono HE.out.size)).setCell (Nat.le_refl _) _)
  have HSP := Lib.hid (show SpotsAt (W3.setCell ⟨w.heap.size, 2, none⟩ (.slice p' (b.buckets ++ [(s0, s1)]).length c')) p' (b.buckets ++ [(s0, s1)]) from hsp.fromB (m := w.heap.size) ⟨set_keeps _ _ _ _⟩ (fun q o e => by have := (hpf q o e).1; omega))
  have HC := Lib.hid hc'
  have HPF := Lib.hid hpf
  clear ho hb hsp hc' hpf RB RS RZ HU hH KC c2
  go_upto_region 3 with (fail)
  rw [show b.buckets.length + 1 = (b.buckets ++ [(s0, s1)]).length by simp]
  generalize W3.setCell ⟨w.heap.size, 2, none⟩ (.slice p' (b.buckets ++ [(s0, s1)]).length c') = W4 at *
  go_wp2_with (first
    | (refine load_row rfl 25 _ rfl w.heap.size rfl 25 (ybA (withB b (s0, s1)) ⟨pl, cl, pd, cd, p', c', ps, cs⟩) _ RB2.out Try.underlying25 rfl (by kernel_rfl) ?_)
    | (refine store_row rfl 25 _ _ rfl (w.heap.size + 1 + 1) (ybA (withB b (s0, s1)) ⟨pl, cl, pd, cd, p', c', ps, cs⟩) ybZ 25 rfl rfl RZ2.out (by kernel_rfl) rfl (by simp [Value.oneCell']) ?_))
  exact bodyPost_ret (v := .agg (ybA (withB b (s0, s1)) ⟨pl, cl, pd, cd, p', c', ps, cs⟩)) (results_cell_row Try.results110 _ _ _ _ _ _ _ rfl (RZ2.out.setRow (ybA (withB b (s0, s1)) ⟨pl, cl, pd, cd, p', c', ps, cs⟩)) Try.underlying25 rfl (by kernel_rfl)) rfl
    ⟨p', c', rfl, HSP.out.fromB (m := w.heap.size + 1 + 1) ⟨(KeepsBut.refl (fun m => m = w.heap.size + 1 + 1) W4).setRow (.inl rfl) _⟩ (fun q o e => by have := (HPF.out q o e).1; omega), by have := HC.out; simpa using this, below_setRow' HBW.out (by omega) _⟩
end Go.Proofs.Ytajkgfeockcbpaa
