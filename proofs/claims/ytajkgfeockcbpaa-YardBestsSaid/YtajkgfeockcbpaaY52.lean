/- The specification's function of layer 6: a yard with one bucket more. -/
import Derived.Test.YtajkgfeockcbpaaY28
import Derived.Test.YtajkgfeockcbpaaLX
namespace Go.Proofs.Ytajkgfeockcbpaa
open Go.RowKit Go.Maps
attribute [local go_sem] Oper.semAt_some

/-- Spots are appended to a list of one's own: all other blocks stay. -/
theorem append_spots_b (w : World) (base : Nat) (hbase : base ≤ w.heap.size) (v : Value) (l : List (Int × Int)) (hown : OwnSp w base v l) (p : Option Addr) (c : Nat) (m : List (Int × Int)) (hs : SpotsAt w p m) (hn : l.length + m.length ≤ 1000) (ty : TypeId) :
    ∃ v' w', (Builtin.append_ #[23, 23] ty #[v, .slice p m.length c]).run Try.prog w = .ok v' w' ∧ (OwnSp w' base v' (l ++ m) ∧ Below base w w' ∧ ∀ k, k < w.heap.size → some k ≠ v.ownBlock → w'.heap[k]? = w.heap[k]?) := by
  obtain ⟨i0, hi, hi0, hi1, hi2⟩ := info_parts Try.infoSpot
  have key : ∀ a : Addr, p = some a → ∃ v' w', (Builtin.append_ #[23, 23] ty #[v, .slice (some a) m.length c]).run Try.prog w = .ok v' w' ∧ (OwnSp w' base v' (l ++ m) ∧ Below base w w' ∧ ∀ k, k < w.heap.size → some k ≠ v.ownBlock → w'.heap[k]? = w.heap[k]?) := fun a ha => by
    obtain ⟨v', w', hr, ho, hg, _⟩ := run_append_own (P := Try.prog) w base 23 ty 62 i0 _ 2 16 Try.underlying23 hi hi0 hi1 hi2 rfl (by decide) v l.length (spA l) hown a m.length c (spA m) (spA_length m) (by
      rcases m with _ | ⟨x, m⟩
      · intro j u hu; simp [spA] at hu
      · obtain ⟨b, o, e, _, _⟩ := hs 0 (by simp)
        rw [ha] at e
        cases e
        exact spA_cells (by rw [ha] at hs; exact hs)) (one_spA m) (by unfold maxLen; omega) (by omega) hbase
    refine ⟨v', w', hr, ?_, (Below.refl base w).grown hg hbase (fun k hk => (hown.lt k hk).1), fun k h1 h2 => hg.block k h1 h2⟩
    rw [OwnSp, List.length_append, spA_append]
    exact ho
  cases p with
  | some a => exact key a rfl
  | none =>
    have hm : m = [] := by
      rcases m with _ | ⟨x, m⟩
      · rfl
      · obtain ⟨b, o, e, _, _⟩ := hs 0 (by simp)
        cases e
    subst hm
    obtain ⟨q, d, hv, _, hd, _⟩ := spots_of_owns hown
    refine ⟨v, w, ?_, by rw [List.append_nil]; exact hown, Below.refl _ _, fun _ _ _ => rfl⟩
    rw [hv]
    exact run_append_nothing w _ _ ty _ i0 Try.underlying23 hi q l.length d hd _ (Src.ofNil _ Try.underlying23 c)
set_option maxRecDepth 100000 in
set_option maxHeartbeats 6400000 in
theorem refPlaced_any (b : Yb) (P : Yp) (s0 s1 : Int) (w : World) (hU : SpotsAt w P.pb b.buckets) (hn : b.buckets.length ≤ 100) :
    Calls Try.prog 79 #[.agg (ybA b P), .agg #[.int .i64 s0, .int .i64 s1]] w (GaveWith b P (s0, s1) w) := by
  obtain ⟨pl, cl, pd, cd, pb, cb, ps, cs⟩ := P
  obtain ⟨V, hV⟩ : ∃ W, W = (((w.alloc (.cells (ybA b ⟨pl, cl, pd, cd, pb, cb, ps, cs⟩) 25)).alloc (.cells #[.int .i64 s0, .int .i64 s1] 62)).alloc (.cells ybZ 25)).alloc (.cells (ybA b ⟨pl, cl, pd, cd, pb, cb, ps, cs⟩) 25) := ⟨_, rfl⟩
  have HW0 := Lib.hid hV
  have HE := Lib.hid (show Below w.heap.size w V by rw [hV]; exact (below_alloc3 _ _ _ _).alloc (by simp; omega) _)
  have HBV := Lib.hid (show Row V w.heap.size (ybA b ⟨pl, cl, pd, cd, pb, cb, ps, cs⟩) 25 by rw [hV]; exact (((Row.new _ _ _).alloc _).alloc _).alloc _)
  have HSP := Lib.hid (show Row V (w.heap.size + 1) #[.int .i64 s0, .int .i64 s1] 62 by rw [hV]; exact ((Row.new1 _ _ _ _).alloc _).alloc _)
  have HRZ := Lib.hid (show Row V (w.heap.size + 1 + 1) ybZ 25 by rw [hV]; exact (Row.new2 _ _ _ _ _).alloc _)
  have HXV := Lib.hid (show Row V (w.heap.size + 1 + 1 + 1) (ybA b ⟨pl, cl, pd, cd, pb, cb, ps, cs⟩) 25 by rw [hV]; exact Row.new' (by simp) _ _)
  have HUV := Lib.hid (hU.below HE.out)
  have c2 := HBV.out.cell 2 (v := .slice pb b.buckets.length cb) rfl
  clear hV hU
  go_enter Try.func79, Try.ntmps79
  go_upto_region 2 with (fail)
  rw [← HW0.out]
  go_cut [] from 7 to 14 (fun wx => ∃ p' c', FromB (w.heap.size + 1 + 1 + 1) V wx ∧ Row wx (w.heap.size + 1 + 1 + 1) (ybA (withB b (s0, s1)) ⟨pl, cl, pd, cd, p', c', ps, cs⟩) 25 ∧ SpotsAt wx p' (b.buckets ++ [(s0, s1)]) ∧ b.buckets.length + 1 ≤ c' ∧ ∀ q o, p' = some ⟨q, o, none⟩ → V.heap.size ≤ q)
  case first =>
    have HSV := Lib.hid (fun w' (h : Below V.heap.size V w') => (⟨(HBV.out.below h HBV.out.lt).cell 2 rfl, (HSP.out.below h HSP.out.lt).cell 0 rfl, (HSP.out.below h HSP.out.lt).cell 1 rfl, trivial⟩ : (fun w' => w'.cell? ⟨w.heap.size, 2, none⟩ = some (.slice pb b.buckets.length cb) ∧ w'.cell? ⟨w.heap.size + 1, 0, none⟩ = some (.int .i64 s0) ∧ w'.cell? ⟨w.heap.size + 1, 1, none⟩ = some (.int .i64 s1) ∧ True) w'))
    refine wp_region_late (S := fun w' => w'.cell? ⟨w.heap.size, 2, none⟩ = some (.slice pb b.buckets.length cb) ∧ w'.cell? ⟨w.heap.size + 1, 0, none⟩ = some (.int .i64 s0) ∧ w'.cell? ⟨w.heap.size + 1, 1, none⟩ = some (.int .i64 s1) ∧ True) 7 (by kernel_rfl) (by kernel_rfl) (by kernel_rfl) (by kernel_rfl) (by rfl) (HSV.out _ (Below.refl _ _).drew) (fun hH => ?_)
    have KC := Lib.hid (show Below V.heap.size V V.drew from (Below.refl _ _).drew)
    obtain ⟨c0, hc0⟩ : ∃ z, V.drew = z := ⟨_, rfl⟩
    rw [hc0] at hH KC ⊢
    clear hc0
    simp only [List.take_succ_cons, List.take_zero, List.drop_succ_cons, List.drop_zero, idled, List.map_cons, List.map_nil, idleOp, List.cons_append, List.nil_append, List.size_toArray, List.length_cons, List.length_nil, Nat.reduceAdd]
    refine wpAnyH_take_to 1 8 (.pointer (some ⟨w.heap.size, 2, none⟩)) rfl rfl (by kernel_rfl) (by kernel_rfl) (by kernel_rfl) (fun _ _ _ h => h) (Or.inl ⟨by rfl, fun w' hSw => by (obtain ⟨q0, q1, q2, q3⟩ := hSw; go_simp)⟩) hH ?_
    refine wpAnyH_take_to 2 9 (.slice pb b.buckets.length cb) rfl rfl (by kernel_rfl) (by kernel_rfl) (by kernel_rfl) (fun _ _ _ h => h) (Or.inl ⟨by rfl, fun w' hSw => by (obtain ⟨q0, q1, q2, q3⟩ := hSw; go_simp)⟩) hH ?_
    refine wpAnyH_take_to 4 11 (.agg #[.int .i64 s0, .int .i64 s1]) rfl rfl (by kernel_rfl) (by kernel_rfl) (by kernel_rfl) (fun _ _ _ h => h) (Or.inl ⟨by rfl, fun w' hSw => by (obtain ⟨q0, q1, q2, q3⟩ := hSw; go_simp)⟩) hH ?_
    try simp only [Act.put, List.setIfInBounds_toArray, List.set_cons_succ, List.set_cons_zero]
    refine wpAnyH_ready (rs := [0, 5]) (by kernel_rfl) (by simp) (AllReadyH.cons rfl (fun K hK => ?_) (AllReadyH.cons rfl (fun K hK => ?_) (AllReadyH.nil)))
    · go_simp
      have hbu := below_alloc c0 (.cells #[] 62)
      have HO := Lib.hid (show OwnSp (c0.alloc (.cells #[] 62)) V.heap.size (.slice (some ⟨c0.heap.size, 0, none⟩) 0 0) [] from ⟨rfl, .inr ⟨_, 0, #[], rfl, KC.out.size, World.alloc_heap_new _ _, Nat.le_refl _, by unfold maxLen; omega, rfl, rfl⟩⟩)
      have KC := Lib.hid (KC.out.trans (hbu.mono KC.out.size))
      obtain ⟨c1, hnw⟩ : ∃ z, c0.alloc (.cells #[] 62) = z := ⟨_, rfl⟩
      obtain ⟨go, hgo⟩ : ∃ n, c0.heap.size = n := ⟨_, rfl⟩
      rw [hnw] at HO KC  ⊢
      rw [hgo] at HO  ⊢
      clear hnw hbu
      refine hK.out _ _ (HSV.out _ KC.out) (fun hH => ?_)
      clear hK K
      try simp only [Act.put, List.setIfInBounds_toArray, List.set_cons_succ, List.set_cons_zero]
      refine wpAnyH_ready (rs := [3, 5]) (by kernel_rfl) (by simp) (AllReadyH.cons rfl (fun K hK => ?_) (AllReadyH.cons rfl (fun K hK => ?_) (AllReadyH.nil)))
      · refine step_append_ex rfl _ _ _ rfl (.slice (some ⟨go, 0, none⟩) 0 0) (.slice pb b.buckets.length cb) rfl rfl _ (append_spots_b c1 V.heap.size KC.out.size _ ([] : List (Int × Int)) HO.out pb cb b.buckets (HUV.out.below KC.out) (by simp; omega) _) ?_
        rintro v1 c2 ⟨ho, hb, hk⟩
        rw [List.nil_append] at ho
        have HO := Lib.hid ho
        have KC := Lib.hid (KC.out.trans hb)
        clear ho hb hk
        refine hK.out _ _ (HSV.out _ KC.out) (fun hH => ?_)
        clear hK K
        try simp only [Act.put, List.setIfInBounds_toArray, List.set_cons_succ, List.set_cons_zero]
        refine wpAnyH_ready (rs := [5]) (by kernel_rfl) (by simp) (AllReadyH.cons rfl (fun K hK => ?_) (AllReadyH.nil))
        go_simp
        have hbu := below_alloc c2 (.cells #[.int .i64 s0, .int .i64 s1] 62)
        have HG := Lib.hid (Row.new c2 #[.int .i64 s0, .int .i64 s1] 62)
        have HO := Lib.hid (HO.out.alloc (.cells #[.int .i64 s0, .int .i64 s1] 62))
        have KC := Lib.hid (KC.out.trans (hbu.mono KC.out.size))
        obtain ⟨c3, hnw⟩ : ∃ z, c2.alloc (.cells #[.int .i64 s0, .int .i64 s1] 62) = z := ⟨_, rfl⟩
        obtain ⟨gp, hgp⟩ : ∃ n, c2.heap.size = n := ⟨_, rfl⟩
        rw [hnw] at HG KC HO ⊢
        rw [hgp] at HG  ⊢
        clear hnw hbu
        refine hK.out _ _ (HSV.out _ KC.out) (fun hH => ?_)
        clear hK K
        try simp only [Act.put, List.setIfInBounds_toArray, List.set_cons_succ, List.set_cons_zero]
        refine wpAnyH_ready (rs := [6]) (by kernel_rfl) (by simp) (AllReadyH.cons rfl (fun K hK => ?_) (AllReadyH.nil))
        refine step_append_ex rfl _ _ _ rfl v1 (.slice (some ⟨gp, 0, none⟩) 1 1) rfl rfl _ (append_spots_b c3 V.heap.size KC.out.size v1 b.buckets HO.out (some ⟨gp, 0, none⟩) 1 [(s0, s1)] (spot_one HG.out) (by simp; omega) _) ?_
        rintro v2 c4 ⟨ho, hb, _⟩
        have KC := Lib.hid (KC.out.trans hb)
        refine hK.out _ _ (HSV.out _ KC.out) (fun hH => ?_)
        clear hK K
        try simp only [Act.put, List.setIfInBounds_toArray, List.set_cons_succ, List.set_cons_zero]
        refine wpAnyH_take (i := 7) (v := undef) rfl (by kernel_rfl) (by kernel_rfl) (by kernel_rfl) (fun _ _ _ h => h) (Or.inl ⟨by rfl, fun _ _ => by rfl⟩) hH ?_
        refine wpAnyH_take (i := 8) (v := undef) rfl (by kernel_rfl) (by kernel_rfl) (by kernel_rfl) (fun _ _ _ h => h) (Or.inl ⟨by rfl, fun _ _ => by rfl⟩) hH ?_
        refine wpAnyH_done (by kernel_rfl) ?_ _
        refine (id (α := wpList _ _ _ _ _ _) ?_)
        simp only [Act.put]
        obtain ⟨p', c', rfl, hsp, hc', _, hpf, _⟩ := spots_of_owns ho
        have RX := Lib.hid (HXV.out.below KC.out HXV.out.lt)
        have hcell := RX.out.cell 2 (v := .slice pb b.buckets.length cb) rfl
        have hfree := RX.out.free 2
        have hxlt := HXV.out.lt
        go_wp2_with fail
        go_meet
        rw [show b.buckets.length + 1 = (b.buckets ++ [(s0, s1)]).length by simp]
        exact ⟨p', c', ((FromB.refl (w.heap.size + 1 + 1 + 1) V).below KC.out).set 2 _, RX.out.set 2 _, hsp.fromB (m := (w.heap.size + 1 + 1 + 1)) ((FromB.refl (w.heap.size + 1 + 1 + 1) c4).set 2 _) (fun q o e => by have := (hpf q o e).1; omega), by have := hc'; simpa using this, fun q o e => (hpf q o e).1⟩
      · go_simp
        have hbu := below_alloc c1 (.cells #[.int .i64 s0, .int .i64 s1] 62)
        have HG := Lib.hid (Row.new c1 #[.int .i64 s0, .int .i64 s1] 62)
        have hlt : c1.heap.size ≠ go := by obtain ⟨_, _, e, _, _, _, h7, _⟩ := spots_of_owns HO.out; cases e; have := (h7 _ _ rfl).2; omega
        have HO := Lib.hid (HO.out.alloc (.cells #[.int .i64 s0, .int .i64 s1] 62))
        have KC := Lib.hid (KC.out.trans (hbu.mono KC.out.size))
        obtain ⟨c2, hnw⟩ : ∃ z, c1.alloc (.cells #[.int .i64 s0, .int .i64 s1] 62) = z := ⟨_, rfl⟩
        obtain ⟨gp, hgp⟩ : ∃ n, c1.heap.size = n := ⟨_, rfl⟩
        rw [hnw] at HG KC HO ⊢
        rw [hgp] at HG hlt ⊢
        clear hnw hbu
        refine hK.out _ _ (HSV.out _ KC.out) (fun hH => ?_)
        clear hK K
        try simp only [Act.put, List.setIfInBounds_toArray, List.set_cons_succ, List.set_cons_zero]
        refine wpAnyH_ready (rs := [3]) (by kernel_rfl) (by simp) (AllReadyH.cons rfl (fun K hK => ?_) (AllReadyH.nil))
        refine step_append_ex rfl _ _ _ rfl (.slice (some ⟨go, 0, none⟩) 0 0) (.slice pb b.buckets.length cb) rfl rfl _ (append_spots_b c2 V.heap.size KC.out.size _ ([] : List (Int × Int)) HO.out pb cb b.buckets (HUV.out.below KC.out) (by simp; omega) _) ?_
        rintro v1 c3 ⟨ho, hb, hk⟩
        rw [List.nil_append] at ho
        have HO := Lib.hid ho
        have HG := Lib.hid (show Row c3 gp #[.int .i64 s0, .int .i64 s1] 62 from (hk gp HG.out.lt (by simp [Value.ownBlock]; omega)).trans HG.out)
        have KC := Lib.hid (KC.out.trans hb)
        clear ho hb hk
        refine hK.out _ _ (HSV.out _ KC.out) (fun hH => ?_)
        clear hK K
        try simp only [Act.put, List.setIfInBounds_toArray, List.set_cons_succ, List.set_cons_zero]
        refine wpAnyH_ready (rs := [6]) (by kernel_rfl) (by simp) (AllReadyH.cons rfl (fun K hK => ?_) (AllReadyH.nil))
        refine step_append_ex rfl _ _ _ rfl v1 (.slice (some ⟨gp, 0, none⟩) 1 1) rfl rfl _ (append_spots_b c3 V.heap.size KC.out.size v1 b.buckets HO.out (some ⟨gp, 0, none⟩) 1 [(s0, s1)] (spot_one HG.out) (by simp; omega) _) ?_
        rintro v2 c4 ⟨ho, hb, _⟩
        have KC := Lib.hid (KC.out.trans hb)
        refine hK.out _ _ (HSV.out _ KC.out) (fun hH => ?_)
        clear hK K
        try simp only [Act.put, List.setIfInBounds_toArray, List.set_cons_succ, List.set_cons_zero]
        refine wpAnyH_take (i := 7) (v := undef) rfl (by kernel_rfl) (by kernel_rfl) (by kernel_rfl) (fun _ _ _ h => h) (Or.inl ⟨by rfl, fun _ _ => by rfl⟩) hH ?_
        refine wpAnyH_take (i := 8) (v := undef) rfl (by kernel_rfl) (by kernel_rfl) (by kernel_rfl) (fun _ _ _ h => h) (Or.inl ⟨by rfl, fun _ _ => by rfl⟩) hH ?_
        refine wpAnyH_done (by kernel_rfl) ?_ _
        refine (id (α := wpList _ _ _ _ _ _) ?_)
        simp only [Act.put]
        obtain ⟨p', c', rfl, hsp, hc', _, hpf, _⟩ := spots_of_owns ho
        have RX := Lib.hid (HXV.out.below KC.out HXV.out.lt)
        have hcell := RX.out.cell 2 (v := .slice pb b.buckets.length cb) rfl
        have hfree := RX.out.free 2
        have hxlt := HXV.out.lt
        go_wp2_with fail
        go_meet
        rw [show b.buckets.length + 1 = (b.buckets ++ [(s0, s1)]).length by simp]
        exact ⟨p', c', ((FromB.refl (w.heap.size + 1 + 1 + 1) V).below KC.out).set 2 _, RX.out.set 2 _, hsp.fromB (m := (w.heap.size + 1 + 1 + 1)) ((FromB.refl (w.heap.size + 1 + 1 + 1) c4).set 2 _) (fun q o e => by have := (hpf q o e).1; omega), by have := hc'; simpa using this, fun q o e => (hpf q o e).1⟩
    · go_simp
      have hbu := below_alloc c0 (.cells #[.int .i64 s0, .int .i64 s1] 62)
      have HG := Lib.hid (Row.new c0 #[.int .i64 s0, .int .i64 s1] 62)
      have KC := Lib.hid (KC.out.trans (hbu.mono KC.out.size))
      obtain ⟨c1, hnw⟩ : ∃ z, c0.alloc (.cells #[.int .i64 s0, .int .i64 s1] 62) = z := ⟨_, rfl⟩
      obtain ⟨gp, hgp⟩ : ∃ n, c0.heap.size = n := ⟨_, rfl⟩
      rw [hnw] at HG KC  ⊢
      rw [hgp] at HG  ⊢
      clear hnw hbu
      refine hK.out _ _ (HSV.out _ KC.out) (fun hH => ?_)
      clear hK K
      try simp only [Act.put, List.setIfInBounds_toArray, List.set_cons_succ, List.set_cons_zero]
      refine wpAnyH_ready (rs := [0]) (by kernel_rfl) (by simp) (AllReadyH.cons rfl (fun K hK => ?_) (AllReadyH.nil))
      go_simp
      have hlt := HG.out.lt
      have hbu := below_alloc c1 (.cells #[] 62)
      have HO := Lib.hid (show OwnSp (c1.alloc (.cells #[] 62)) V.heap.size (.slice (some ⟨c1.heap.size, 0, none⟩) 0 0) [] from ⟨rfl, .inr ⟨_, 0, #[], rfl, KC.out.size, World.alloc_heap_new _ _, Nat.le_refl _, by unfold maxLen; omega, rfl, rfl⟩⟩)
      have HG := Lib.hid (HG.out.below hbu HG.out.lt)
      have KC := Lib.hid (KC.out.trans (hbu.mono KC.out.size))
      obtain ⟨c2, hnw⟩ : ∃ z, c1.alloc (.cells #[] 62) = z := ⟨_, rfl⟩
      obtain ⟨go, hgo⟩ : ∃ n, c1.heap.size = n := ⟨_, rfl⟩
      rw [hnw] at HO KC HG ⊢
      rw [hgo] at HO hlt ⊢
      clear hnw hbu
      refine hK.out _ _ (HSV.out _ KC.out) (fun hH => ?_)
      clear hK K
      try simp only [Act.put, List.setIfInBounds_toArray, List.set_cons_succ, List.set_cons_zero]
      refine wpAnyH_ready (rs := [3]) (by kernel_rfl) (by simp) (AllReadyH.cons rfl (fun K hK => ?_) (AllReadyH.nil))
      refine step_append_ex rfl _ _ _ rfl (.slice (some ⟨go, 0, none⟩) 0 0) (.slice pb b.buckets.length cb) rfl rfl _ (append_spots_b c2 V.heap.size KC.out.size _ ([] : List (Int × Int)) HO.out pb cb b.buckets (HUV.out.below KC.out) (by simp; omega) _) ?_
      rintro v1 c3 ⟨ho, hb, hk⟩
      rw [List.nil_append] at ho
      have HO := Lib.hid ho
      have HG := Lib.hid (show Row c3 gp #[.int .i64 s0, .int .i64 s1] 62 from (hk gp HG.out.lt (by simp [Value.ownBlock]; omega)).trans HG.out)
      have KC := Lib.hid (KC.out.trans hb)
      clear ho hb hk
      refine hK.out _ _ (HSV.out _ KC.out) (fun hH => ?_)
      clear hK K
      try simp only [Act.put, List.setIfInBounds_toArray, List.set_cons_succ, List.set_cons_zero]
      refine wpAnyH_ready (rs := [6]) (by kernel_rfl) (by simp) (AllReadyH.cons rfl (fun K hK => ?_) (AllReadyH.nil))
      refine step_append_ex rfl _ _ _ rfl v1 (.slice (some ⟨gp, 0, none⟩) 1 1) rfl rfl _ (append_spots_b c3 V.heap.size KC.out.size v1 b.buckets HO.out (some ⟨gp, 0, none⟩) 1 [(s0, s1)] (spot_one HG.out) (by simp; omega) _) ?_
      rintro v2 c4 ⟨ho, hb, _⟩
      have KC := Lib.hid (KC.out.trans hb)
      refine hK.out _ _ (HSV.out _ KC.out) (fun hH => ?_)
      clear hK K
      try simp only [Act.put, List.setIfInBounds_toArray, List.set_cons_succ, List.set_cons_zero]
      refine wpAnyH_take (i := 7) (v := undef) rfl (by kernel_rfl) (by kernel_rfl) (by kernel_rfl) (fun _ _ _ h => h) (Or.inl ⟨by rfl, fun _ _ => by rfl⟩) hH ?_
      refine wpAnyH_take (i := 8) (v := undef) rfl (by kernel_rfl) (by kernel_rfl) (by kernel_rfl) (fun _ _ _ h => h) (Or.inl ⟨by rfl, fun _ _ => by rfl⟩) hH ?_
      refine wpAnyH_done (by kernel_rfl) ?_ _
      refine (id (α := wpList _ _ _ _ _ _) ?_)
      simp only [Act.put]
      obtain ⟨p', c', rfl, hsp, hc', _, hpf, _⟩ := spots_of_owns ho
      have RX := Lib.hid (HXV.out.below KC.out HXV.out.lt)
      have hcell := RX.out.cell 2 (v := .slice pb b.buckets.length cb) rfl
      have hfree := RX.out.free 2
      have hxlt := HXV.out.lt
      go_wp2_with fail
      go_meet
      rw [show b.buckets.length + 1 = (b.buckets ++ [(s0, s1)]).length by simp]
      exact ⟨p', c', ((FromB.refl (w.heap.size + 1 + 1 + 1) V).below KC.out).set 2 _, RX.out.set 2 _, hsp.fromB (m := (w.heap.size + 1 + 1 + 1)) ((FromB.refl (w.heap.size + 1 + 1 + 1) c4).set 2 _) (fun q o e => by have := (hpf q o e).1; omega), by have := hc'; simpa using this, fun q o e => (hpf q o e).1⟩
  case rest =>
    obtain ⟨p', c', hF, hr, hs, hc, hq⟩ := hcut
    have RX := Lib.hid hr
    have RZ := Lib.hid (hF.row HRZ.out (by omega))
    have HS := Lib.hid hs
    have HF := Lib.hid hF
    have hle := HE.out.size
    have hlt := HXV.out.lt
    have hbw : Below w.heap.size w wc := hF.base HE.out (by omega) (by omega)
    have HBW := Lib.hid hbw
    have HC := Lib.hid hc
    have HQ := Lib.hid hq
    clear hF hr hs hbw hc hq
    go_wp2_with (first
      | (refine load_row rfl 25 _ rfl (w.heap.size + 1 + 1 + 1) rfl 25 (ybA (withB b (s0, s1)) ⟨pl, cl, pd, cd, p', c', ps, cs⟩) _ RX.out Try.underlying25 rfl (by kernel_rfl) ?_)
      | (refine store_row rfl 25 _ _ rfl (w.heap.size + 1 + 1) (ybA (withB b (s0, s1)) ⟨pl, cl, pd, cd, p', c', ps, cs⟩) ybZ 25 rfl rfl RZ.out (by kernel_rfl) rfl (by simp [Value.oneCell']) ?_))
    exact bodyPost_ret (v := .agg (ybA (withB b (s0, s1)) ⟨pl, cl, pd, cd, p', c', ps, cs⟩)) (results_cell_row Try.results79 _ _ _ _ _ _ _ rfl (RZ.out.setRow (ybA (withB b (s0, s1)) ⟨pl, cl, pd, cd, p', c', ps, cs⟩)) Try.underlying25 rfl (by kernel_rfl)) rfl
      ⟨p', c', rfl, HS.out.fromB (m := w.heap.size + 1 + 1) ⟨(KeepsBut.refl (fun m => m = w.heap.size + 1 + 1) wc).setRow (.inl rfl) _⟩ (fun q o e => by have := HQ.out q o e; omega), HC.out, below_setRow' HBW.out (by omega) _⟩
end Go.Proofs.Ytajkgfeockcbpaa
