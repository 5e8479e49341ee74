/- The specification's call of layer 6: Place; the law YardBests. -/
import Derived.Test.YtajkgfeockcbpaaRSC
import Derived.Test.YtajkgfeockcbpaaY52
import Derived.Test.YtajkgfeockcbpaaY55
namespace Go.Proofs.Ytajkgfeockcbpaa
open Go.RowKit Go.Maps
attribute [local go_sem] Oper.semAt_some

attribute [local go_sem] fieldS0 fieldS1
/-- What is kept behind some spare spots, as the specification keeps it. -/
def PlR (b : Yb) (j : Nat) (a m : Int) : Prop :=
  (a = -1 ∧ m = topK b false ∧ ∀ i, i < j → topAt b i ≤ topK b false) ∨ ∃ k : Nat, k < j ∧ a = (k : Int) ∧ m = topAt b k ∧ topK b false < topAt b k ∧ ∀ i, i < j → topAt b i < topAt b k ∨ (topAt b i = topAt b k ∧ k ≤ i)
theorem plR_less {b : Yb} {j : Nat} {a m : Int} (h : PlR b j a m) (hm : topAt b j ≤ m) : PlR b (j + 1) a m := by
  rcases h with ⟨h1, h2, h3⟩ | ⟨k, h1, h2, h3, h4, h5⟩
  · refine .inl ⟨h1, h2, fun i hi => ?_⟩
    by_cases e : i = j
    · rw [e]; omega
    · exact h3 i (by omega)
  · refine .inr ⟨k, by omega, h2, h3, h4, fun i hi => ?_⟩
    by_cases e : i = j
    · rw [e]
      by_cases e2 : topAt b j = topAt b k
      · exact .inr ⟨e2, by omega⟩
      · exact .inl (by omega)
    · exact h5 i (by omega)
theorem plR_more {b : Yb} {j : Nat} {a m : Int} (h : PlR b j a m) (hm : m < topAt b j) : PlR b (j + 1) (j : Int) (topAt b j) := by
  refine .inr ⟨j, by omega, rfl, rfl, ?_, fun i hi => ?_⟩
  · rcases h with ⟨_, h2, _⟩ | ⟨k, _, _, h3, h4, _⟩ <;> omega
  · by_cases e : i = j
    · rw [e]; exact .inr ⟨rfl, Nat.le_refl _⟩
    · rcases h with ⟨_, h2, h3⟩ | ⟨k, _, _, h3, h4, h5⟩
      · have := h3 i (by omega)
        exact .inl (by omega)
      · have := h5 i (by omega)
        exact .inl (by omega)
theorem plR_end {b : Yb} (hb : yardB b = true) {a m : Int} (h : PlR b b.spare.length a m) : (a = -1 ∧ placeA b = (0, 4)) ∨ (0 ≤ a ∧ placeA b = (a, 0)) := by
  rcases h with ⟨h1, h2, h3⟩ | ⟨k, h1, h2, h3, h4, h5⟩
  · rcases place_ways hb with ⟨p1, _⟩ | ⟨k', q1, _, q3, _⟩
    · exact .inl ⟨h1, p1⟩
    · have := h3 k' q1
      omega
  · rcases place_ways hb with ⟨_, p2⟩ | ⟨k', q1, q2, q3, q4⟩
    · have := p2 k h1
      omega
    · have e1 := h5 k' q1
      have e2 := q4 k h1
      have : k = k' := by omega
      subst this
      exact .inr ⟨by omega, by rw [q2, h2]⟩
/-- A yard with a bucket more is returned, whose list of buckets is new. -/
def GaveYbNew (b : Yb) (P : Yp) (s : Int × Int) (w : World) (e : Ending) (w' : World) : Prop :=
  ∃ p c, e = .returned (.agg (ybA (withB b s) ⟨P.pl, P.cl, P.pd, P.cd, p, c, P.ps, P.cs⟩)) ∧ SpotsAt w' p (b.buckets ++ [s]) ∧ b.buckets.length + 1 ≤ c ∧ Below w.heap.size w w' ∧ ∀ q o, p = some ⟨q, o, none⟩ → w.heap.size ≤ q
set_option maxRecDepth 100000 in
set_option maxHeartbeats 6400000 in
theorem refPlaced_new (b : Yb) (P : Yp) (s0 s1 : Int) (w : World) (hU : SpotsAt w P.pb b.buckets) (hn : b.buckets.length ≤ 100) :
    Calls Try.prog 79 #[.agg (ybA b P), .agg #[.int .i64 s0, .int .i64 s1]] w (GaveYbNew b P (s0, s1) w) := by
  obtain ⟨pl, cl, pd, cd, pb, cb, ps, cs⟩ := P
  obtain ⟨V, hV⟩ : ∃ W, W = (((w.alloc (.cells (ybA b ⟨pl, cl, pd, cd, pb, cb, ps, cs⟩) 25)).alloc (.cells #[.int .i64 s0, .int .i64 s1] 62)).alloc (.cells ybZ 25)).alloc (.cells (ybA b ⟨pl, cl, pd, cd, pb, cb, ps, cs⟩) 25) := ⟨_, rfl⟩
  have HW0 := Lib.hid hV
  have HE := Lib.hid (show Below w.heap.size w V by rw [hV]; exact (below_alloc3 _ _ _ _).alloc (by simp; omega) _)
  have HBV := Lib.hid (show Row V w.heap.size (ybA b ⟨pl, cl, pd, cd, pb, cb, ps, cs⟩) 25 by rw [hV]; exact (((Row.new _ _ _).alloc _).alloc _).alloc _)
  have HSP := Lib.hid (show Row V (w.heap.size + 1) #[.int .i64 s0, .int .i64 s1] 62 by rw [hV]; exact ((Row.new1 _ _ _ _).alloc _).alloc _)
  have HRZ := Lib.hid (show Row V (w.heap.size + 1 + 1) ybZ 25 by rw [hV]; exact (Row.new2 _ _ _ _ _).alloc _)
  have HXV := Lib.hid (show Row V (w.heap.size + 1 + 1 + 1) (ybA b ⟨pl, cl, pd, cd, pb, cb, ps, cs⟩) 25 by rw [hV]; exact Row.new' (by simp) _ _)
  have HUV := Lib.hid (hU.below HE.out)
  have c2 := HBV.out.cell 2 (v := .slice pb b.buckets.length cb) rfl
  clear hV hU
  go_enter Try.func79, Try.ntmps79
  go_upto_region 2 with (fail)
  rw [← HW0.out]
  go_cut [] from 7 to 14 (fun wx => ∃ p' c', FromB (w.heap.size + 1 + 1 + 1) V wx ∧ Row wx (w.heap.size + 1 + 1 + 1) (ybA (withB b (s0, s1)) ⟨pl, cl, pd, cd, p', c', ps, cs⟩) 25 ∧ SpotsAt wx p' (b.buckets ++ [(s0, s1)]) ∧ b.buckets.length + 1 ≤ c' ∧ ∀ q o, p' = some ⟨q, o, none⟩ → V.heap.size ≤ q)
  case first =>
    have HSV := Lib.hid (fun w' (h : Below V.heap.size V w') => (⟨(HBV.out.below h HBV.out.lt).cell 2 rfl, (HSP.out.below h HSP.out.lt).cell 0 rfl, (HSP.out.below h HSP.out.lt).cell 1 rfl, trivial⟩ : (fun w' => w'.cell? ⟨w.heap.size, 2, none⟩ = some (.slice pb b.buckets.length cb) ∧ w'.cell? ⟨w.heap.size + 1, 0, none⟩ = some (.int .i64 s0) ∧ w'.cell? ⟨w.heap.size + 1, 1, none⟩ = some (.int .i64 s1) ∧ True) w'))
    refine wp_region_late (S := fun w' => w'.cell? ⟨w.heap.size, 2, none⟩ = some (.slice pb b.buckets.length cb) ∧ w'.cell? ⟨w.heap.size + 1, 0, none⟩ = some (.int .i64 s0) ∧ w'.cell? ⟨w.heap.size + 1, 1, none⟩ = some (.int .i64 s1) ∧ True) 7 (by kernel_rfl) (by kernel_rfl) (by kernel_rfl) (by kernel_rfl) (by rfl) (HSV.out _ (Below.refl _ _).drew) (fun hH => ?_)
    have KC := Lib.hid (show Below V.heap.size V V.drew from (Below.refl _ _).drew)
    obtain ⟨c0, hc0⟩ : ∃ z, V.drew = z := ⟨_, rfl⟩
    rw [hc0] at hH KC ⊢
    clear hc0
    simp only [List.take_succ_cons, List.take_zero, List.drop_succ_cons, List.drop_zero, idled, List.map_cons, List.map_nil, idleOp, List.cons_append, List.nil_append, List.size_toArray, List.length_cons, List.length_nil, Nat.reduceAdd]
    refine wpAnyH_take_to 1 8 (.pointer (some ⟨w.heap.size, 2, none⟩)) rfl rfl (by kernel_rfl) (by kernel_rfl) (by kernel_rfl) (fun _ _ _ h => h) (Or.inl ⟨by rfl, fun w' hSw => by (obtain ⟨q0, q1, q2, q3⟩ := hSw; go_simp)⟩) hH ?_
    refine wpAnyH_take_to 2 9 (.slice pb b.buckets.length cb) rfl rfl (by kernel_rfl) (by kernel_rfl) (by kernel_rfl) (fun _ _ _ h => h) (Or.inl ⟨by rfl, fun w' hSw => by (obtain ⟨q0, q1, q2, q3⟩ := hSw; go_simp)⟩) hH ?_
    refine wpAnyH_take_to 4 11 (.agg #[.int .i64 s0, .int .i64 s1]) rfl rfl (by kernel_rfl) (by kernel_rfl) (by kernel_rfl) (fun _ _ _ h => h) (Or.inl ⟨by rfl, fun w' hSw => by (obtain ⟨q0, q1, q2, q3⟩ := hSw; go_simp)⟩) hH ?_
    try simp only [Act.put, List.setIfInBounds_toArray, List.set_cons_succ, List.set_cons_zero]
    refine wpAnyH_ready (rs := [0, 5]) (by kernel_rfl) (by simp) (AllReadyH.cons rfl (fun K hK => ?_) (AllReadyH.cons rfl (fun K hK => ?_) (AllReadyH.nil)))
    · go_simp
      have hbu := below_alloc c0 (.cells #[] 62)
      have HO := Lib.hid (show OwnSp (c0.alloc (.cells #[] 62)) V.heap.size (.slice (some ⟨c0.heap.size, 0, none⟩) 0 0) [] from ⟨rfl, .inr ⟨_, 0, #[], rfl, KC.out.size, World.alloc_heap_new _ _, Nat.le_refl _, by unfold maxLen; omega, rfl, rfl⟩⟩)
      have KC := Lib.hid (KC.out.trans (hbu.mono KC.out.size))
      obtain ⟨c1, hnw⟩ : ∃ z, c0.alloc (.cells #[] 62) = z := ⟨_, rfl⟩
      obtain ⟨go, hgo⟩ : ∃ n, c0.heap.size = n := ⟨_, rfl⟩
      rw [hnw] at HO KC  ⊢
      rw [hgo] at HO  ⊢
      clear hnw hbu
      refine hK.out _ _ (HSV.out _ KC.out) (fun hH => ?_)
      clear hK K
      try simp only [Act.put, List.setIfInBounds_toArray, List.set_cons_succ, List.set_cons_zero]
      refine wpAnyH_ready (rs := [3, 5]) (by kernel_rfl) (by simp) (AllReadyH.cons rfl (fun K hK => ?_) (AllReadyH.cons rfl (fun K hK => ?_) (AllReadyH.nil)))
      · refine step_append_ex rfl _ _ _ rfl (.slice (some ⟨go, 0, none⟩) 0 0) (.slice pb b.buckets.length cb) rfl rfl _ (append_spots_b c1 V.heap.size KC.out.size _ ([] : List (Int × Int)) HO.out pb cb b.buckets (HUV.out.below KC.out) (by simp; omega) _) ?_
        rintro v1 c2 ⟨ho, hb, hk⟩
        rw [List.nil_append] at ho
        have HO := Lib.hid ho
        have KC := Lib.hid (KC.out.trans hb)
        clear ho hb hk
        refine hK.out _ _ (HSV.out _ KC.out) (fun hH => ?_)
        clear hK K
        try simp only [Act.put, List.setIfInBounds_toArray, List.set_cons_succ, List.set_cons_zero]
        refine wpAnyH_ready (rs := [5]) (by kernel_rfl) (by simp) (AllReadyH.cons rfl (fun K hK => ?_) (AllReadyH.nil))
        go_simp
        have hbu := below_alloc c2 (.cells #[.int .i64 s0, .int .i64 s1] 62)
        have HG := Lib.hid (Row.new c2 #[.int .i64 s0, .int .i64 s1] 62)
        have HO := Lib.hid (HO.out.alloc (.cells #[.int .i64 s0, .int .i64 s1] 62))
        have KC := Lib.hid (KC.out.trans (hbu.mono KC.out.size))
        obtain ⟨c3, hnw⟩ : ∃ z, c2.alloc (.cells #[.int .i64 s0, .int .i64 s1] 62) = z := ⟨_, rfl⟩
        obtain ⟨gp, hgp⟩ : ∃ n, c2.heap.size = n := ⟨_, rfl⟩
        rw [hnw] at HG KC HO ⊢
        rw [hgp] at HG  ⊢
        clear hnw hbu
        refine hK.out _ _ (HSV.out _ KC.out) (fun hH => ?_)
        clear hK K
        try simp only [Act.put, List.setIfInBounds_toArray, List.set_cons_succ, List.set_cons_zero]
        refine wpAnyH_ready (rs := [6]) (by kernel_rfl) (by simp) (AllReadyH.cons rfl (fun K hK => ?_) (AllReadyH.nil))
        refine step_append_ex rfl _ _ _ rfl v1 (.slice (some ⟨gp, 0, none⟩) 1 1) rfl rfl _ (append_spots_b c3 V.heap.size KC.out.size v1 b.buckets HO.out (some ⟨gp, 0, none⟩) 1 [(s0, s1)] (spot_one HG.out) (by simp; omega) _) ?_
        rintro v2 c4 ⟨ho, hb, _⟩
        have KC := Lib.hid (KC.out.trans hb)
        refine hK.out _ _ (HSV.out _ KC.out) (fun hH => ?_)
        clear hK K
        try simp only [Act.put, List.setIfInBounds_toArray, List.set_cons_succ, List.set_cons_zero]
        refine wpAnyH_take (i := 7) (v := undef) rfl (by kernel_rfl) (by kernel_rfl) (by kernel_rfl) (fun _ _ _ h => h) (Or.inl ⟨by rfl, fun _ _ => by rfl⟩) hH ?_
        refine wpAnyH_take (i := 8) (v := undef) rfl (by kernel_rfl) (by kernel_rfl) (by kernel_rfl) (fun _ _ _ h => h) (Or.inl ⟨by rfl, fun _ _ => by rfl⟩) hH ?_
        refine wpAnyH_done (by kernel_rfl) ?_ _
        refine (id (α := wpList _ _ _ _ _ _) ?_)
        simp only [Act.put]
        obtain ⟨p', c', rfl, hsp, hc', _, hpf, _⟩ := spots_of_owns ho
        have RX := Lib.hid (HXV.out.below KC.out HXV.out.lt)
        have hcell := RX.out.cell 2 (v := .slice pb b.buckets.length cb) rfl
        have hfree := RX.out.free 2
        have hxlt := HXV.out.lt
        go_wp2_with fail
        go_meet
        rw [show b.buckets.length + 1 = (b.buckets ++ [(s0, s1)]).length by simp]
        exact ⟨p', c', ((FromB.refl (w.heap.size + 1 + 1 + 1) V).below KC.out).set 2 _, RX.out.set 2 _, hsp.fromB (m := (w.heap.size + 1 + 1 + 1)) ((FromB.refl (w.heap.size + 1 + 1 + 1) c4).set 2 _) (fun q o e => by have := (hpf q o e).1; omega), by have := hc'; simpa using this, fun q o e => (hpf q o e).1⟩
      · go_simp
        have hbu := below_alloc c1 (.cells #[.int .i64 s0, .int .i64 s1] 62)
        have HG := Lib.hid (Row.new c1 #[.int .i64 s0, .int .i64 s1] 62)
        have hlt : c1.heap.size ≠ go := by obtain ⟨_, _, e, _, _, _, h7, _⟩ := spots_of_owns HO.out; cases e; have := (h7 _ _ rfl).2; omega
        have HO := Lib.hid (HO.out.alloc (.cells #[.int .i64 s0, .int .i64 s1] 62))
        have KC := Lib.hid (KC.out.trans (hbu.mono KC.out.size))
        obtain ⟨c2, hnw⟩ : ∃ z, c1.alloc (.cells #[.int .i64 s0, .int .i64 s1] 62) = z := ⟨_, rfl⟩
        obtain ⟨gp, hgp⟩ : ∃ n, c1.heap.size = n := ⟨_, rfl⟩
        rw [hnw] at HG KC HO ⊢
        rw [hgp] at HG hlt ⊢
        clear hnw hbu
        refine hK.out _ _ (HSV.out _ KC.out) (fun hH => ?_)
        clear hK K
        try simp only [Act.put, List.setIfInBounds_toArray, List.set_cons_succ, List.set_cons_zero]
        refine wpAnyH_ready (rs := [3]) (by kernel_rfl) (by simp) (AllReadyH.cons rfl (fun K hK => ?_) (AllReadyH.nil))
        refine step_append_ex rfl _ _ _ rfl (.slice (some ⟨go, 0, none⟩) 0 0) (.slice pb b.buckets.length cb) rfl rfl _ (append_spots_b c2 V.heap.size KC.out.size _ ([] : List (Int × Int)) HO.out pb cb b.buckets (HUV.out.below KC.out) (by simp; omega) _) ?_
        rintro v1 c3 ⟨ho, hb, hk⟩
        rw [List.nil_append] at ho
        have HO := Lib.hid ho
        have HG := Lib.hid (show Row c3 gp #[.int .i64 s0, .int .i64 s1] 62 from (hk gp HG.out.lt (by simp [Value.ownBlock]; omega)).trans HG.out)
        have KC := Lib.hid (KC.out.trans hb)
        clear ho hb hk
        refine hK.out _ _ (HSV.out _ KC.out) (fun hH => ?_)
        clear hK K
        try simp only [Act.put, List.setIfInBounds_toArray, List.set_cons_succ, List.set_cons_zero]
        refine wpAnyH_ready (rs := [6]) (by kernel_rfl) (by simp) (AllReadyH.cons rfl (fun K hK => ?_) (AllReadyH.nil))
        refine step_append_ex rfl _ _ _ rfl v1 (.slice (some ⟨gp, 0, none⟩) 1 1) rfl rfl _ (append_spots_b c3 V.heap.size KC.out.size v1 b.buckets HO.out (some ⟨gp, 0, none⟩) 1 [(s0, s1)] (spot_one HG.out) (by simp; omega) _) ?_
        rintro v2 c4 ⟨ho, hb, _⟩
        have KC := Lib.hid (KC.out.trans hb)
        refine hK.out _ _ (HSV.out _ KC.out) (fun hH => ?_)
        clear hK K
        try simp only [Act.put, List.setIfInBounds_toArray, List.set_cons_succ, List.set_cons_zero]
        refine wpAnyH_take (i := 7) (v := undef) rfl (by kernel_rfl) (by kernel_rfl) (by kernel_rfl) (fun _ _ _ h => h) (Or.inl ⟨by rfl, fun _ _ => by rfl⟩) hH ?_
        refine wpAnyH_take (i := 8) (v := undef) rfl (by kernel_rfl) (by kernel_rfl) (by kernel_rfl) (fun _ _ _ h => h) (Or.inl ⟨by rfl, fun _ _ => by rfl⟩) hH ?_
        refine wpAnyH_done (by kernel_rfl) ?_ _
        refine (id (α := wpList _ _ _ _ _ _) ?_)
        simp only [Act.put]
        obtain ⟨p', c', rfl, hsp, hc', _, hpf, _⟩ := spots_of_owns ho
        have RX := Lib.hid (HXV.out.below KC.out HXV.out.lt)
        have hcell := RX.out.cell 2 (v := .slice pb b.buckets.length cb) rfl
        have hfree := RX.out.free 2
        have hxlt := HXV.out.lt
        go_wp2_with fail
        go_meet
        rw [show b.buckets.length + 1 = (b.buckets ++ [(s0, s1)]).length by simp]
        exact ⟨p', c', ((FromB.refl (w.heap.size + 1 + 1 + 1) V).below KC.out).set 2 _, RX.out.set 2 _, hsp.fromB (m := (w.heap.size + 1 + 1 + 1)) ((FromB.refl (w.heap.size + 1 + 1 + 1) c4).set 2 _) (fun q o e => by have := (hpf q o e).1; omega), by have := hc'; simpa using this, fun q o e => (hpf q o e).1⟩
    · go_simp
      have hbu := below_alloc c0 (.cells #[.int .i64 s0, .int .i64 s1] 62)
      have HG := Lib.hid (Row.new c0 #[.int .i64 s0, .int .i64 s1] 62)
      have KC := Lib.hid (KC.out.trans (hbu.mono KC.out.size))
      obtain ⟨c1, hnw⟩ : ∃ z, c0.alloc (.cells #[.int .i64 s0, .int .i64 s1] 62) = z := ⟨_, rfl⟩
      obtain ⟨gp, hgp⟩ : ∃ n, c0.heap.size = n := ⟨_, rfl⟩
      rw [hnw] at HG KC  ⊢
      rw [hgp] at HG  ⊢
      clear hnw hbu
      refine hK.out _ _ (HSV.out _ KC.out) (fun hH => ?_)
      clear hK K
      try simp only [Act.put, List.setIfInBounds_toArray, List.set_cons_succ, List.set_cons_zero]
      refine wpAnyH_ready (rs := [0]) (by kernel_rfl) (by simp) (AllReadyH.cons rfl (fun K hK => ?_) (AllReadyH.nil))
      go_simp
      have hlt := HG.out.lt
      have hbu := below_alloc c1 (.cells #[] 62)
      have HO := Lib.hid (show OwnSp (c1.alloc (.cells #[] 62)) V.heap.size (.slice (some ⟨c1.heap.size, 0, none⟩) 0 0) [] from ⟨rfl, .inr ⟨_, 0, #[], rfl, KC.out.size, World.alloc_heap_new _ _, Nat.le_refl _, by unfold maxLen; omega, rfl, rfl⟩⟩)
      have HG := Lib.hid (HG.out.below hbu HG.out.lt)
      have KC := Lib.hid (KC.out.trans (hbu.mono KC.out.size))
      obtain ⟨c2, hnw⟩ : ∃ z, c1.alloc (.cells #[] 62) = z := ⟨_, rfl⟩
      obtain ⟨go, hgo⟩ : ∃ n, c1.heap.size = n := ⟨_, rfl⟩
      rw [hnw] at HO KC HG ⊢
      rw [hgo] at HO hlt ⊢
      clear hnw hbu
      refine hK.out _ _ (HSV.out _ KC.out) (fun hH => ?_)
      clear hK K
      try simp only [Act.put, List.setIfInBounds_toArray, List.set_cons_succ, List.set_cons_zero]
      refine wpAnyH_ready (rs := [3]) (by kernel_rfl) (by simp) (AllReadyH.cons rfl (fun K hK => ?_) (AllReadyH.nil))
      refine step_append_ex rfl _ _ _ rfl (.slice (some ⟨go, 0, none⟩) 0 0) (.slice pb b.buckets.length cb) rfl rfl _ (append_spots_b c2 V.heap.size KC.out.size _ ([] : List (Int × Int)) HO.out pb cb b.buckets (HUV.out.below KC.out) (by simp; omega) _) ?_
      rintro v1 c3 ⟨ho, hb, hk⟩
      rw [List.nil_append] at ho
      have HO := Lib.hid ho
      have HG := Lib.hid (show Row c3 gp #[.int .i64 s0, .int .i64 s1] 62 from (hk gp HG.out.lt (by simp [Value.ownBlock]; omega)).trans HG.out)
      have KC := Lib.hid (KC.out.trans hb)
      clear ho hb hk
      refine hK.out _ _ (HSV.out _ KC.out) (fun hH => ?_)
      clear hK K
      try simp only [Act.put, List.setIfInBounds_toArray, List.set_cons_succ, List.set_cons_zero]
      refine wpAnyH_ready (rs := [6]) (by kernel_rfl) (by simp) (AllReadyH.cons rfl (fun K hK => ?_) (AllReadyH.nil))
      refine step_append_ex rfl _ _ _ rfl v1 (.slice (some ⟨gp, 0, none⟩) 1 1) rfl rfl _ (append_spots_b c3 V.heap.size KC.out.size v1 b.buckets HO.out (some ⟨gp, 0, none⟩) 1 [(s0, s1)] (spot_one HG.out) (by simp; omega) _) ?_
      rintro v2 c4 ⟨ho, hb, _⟩
      have KC := Lib.hid (KC.out.trans hb)
      refine hK.out _ _ (HSV.out _ KC.out) (fun hH => ?_)
      clear hK K
      try simp only [Act.put, List.setIfInBounds_toArray, List.set_cons_succ, List.set_cons_zero]
      refine wpAnyH_take (i := 7) (v := undef) rfl (by kernel_rfl) (by kernel_rfl) (by kernel_rfl) (fun _ _ _ h => h) (Or.inl ⟨by rfl, fun _ _ => by rfl⟩) hH ?_
      refine wpAnyH_take (i := 8) (v := undef) rfl (by kernel_rfl) (by kernel_rfl) (by kernel_rfl) (fun _ _ _ h => h) (Or.inl ⟨by rfl, fun _ _ => by rfl⟩) hH ?_
      refine wpAnyH_done (by kernel_rfl) ?_ _
      refine (id (α := wpList _ _ _ _ _ _) ?_)
      simp only [Act.put]
      obtain ⟨p', c', rfl, hsp, hc', _, hpf, _⟩ := spots_of_owns ho
      have RX := Lib.hid (HXV.out.below KC.out HXV.out.lt)
      have hcell := RX.out.cell 2 (v := .slice pb b.buckets.length cb) rfl
      have hfree := RX.out.free 2
      have hxlt := HXV.out.lt
      go_wp2_with fail
      go_meet
      rw [show b.buckets.length + 1 = (b.buckets ++ [(s0, s1)]).length by simp]
      exact ⟨p', c', ((FromB.refl (w.heap.size + 1 + 1 + 1) V).below KC.out).set 2 _, RX.out.set 2 _, hsp.fromB (m := (w.heap.size + 1 + 1 + 1)) ((FromB.refl (w.heap.size + 1 + 1 + 1) c4).set 2 _) (fun q o e => by have := (hpf q o e).1; omega), by have := hc'; simpa using this, fun q o e => (hpf q o e).1⟩
  case rest =>
    obtain ⟨p', c', hF, hr, hs, hc, hq⟩ := hcut
    have RX := Lib.hid hr
    have RZ := Lib.hid (hF.row HRZ.out (by omega))
    have HS := Lib.hid hs
    have HF := Lib.hid hF
    have hle := HE.out.size
    have hlt := HXV.out.lt
    have hbw : Below w.heap.size w wc := hF.base HE.out (by omega) (by omega)
    have HBW := Lib.hid hbw
    have HC := Lib.hid hc
    have HQ := Lib.hid hq
    clear hF hr hs hbw hc hq
    go_wp2_with (first
      | (refine load_row rfl 25 _ rfl (w.heap.size + 1 + 1 + 1) rfl 25 (ybA (withB b (s0, s1)) ⟨pl, cl, pd, cd, p', c', ps, cs⟩) _ RX.out Try.underlying25 rfl (by kernel_rfl) ?_)
      | (refine store_row rfl 25 _ _ rfl (w.heap.size + 1 + 1) (ybA (withB b (s0, s1)) ⟨pl, cl, pd, cd, p', c', ps, cs⟩) ybZ 25 rfl rfl RZ.out (by kernel_rfl) rfl (by simp [Value.oneCell']) ?_))
    exact bodyPost_ret (v := .agg (ybA (withB b (s0, s1)) ⟨pl, cl, pd, cd, p', c', ps, cs⟩)) (results_cell_row Try.results79 _ _ _ _ _ _ _ rfl (RZ.out.setRow (ybA (withB b (s0, s1)) ⟨pl, cl, pd, cd, p', c', ps, cs⟩)) Try.underlying25 rfl (by kernel_rfl)) rfl
      ⟨p', c', rfl, HS.out.fromB (m := w.heap.size + 1 + 1) ⟨(KeepsBut.refl (fun m => m = w.heap.size + 1 + 1) wc).setRow (.inl rfl) _⟩ (fun q o e => by have := HQ.out q o e; omega), HC.out, below_setRow' HBW.out (by omega) _, fun q o e => by have := HQ.out q o e; omega⟩
set_option maxRecDepth 100000 in
set_option maxHeartbeats 6400000 in
theorem refPlace_api (b : Yb) (P : Yp) (w : World) (hB : YbAt w P b) :
    Calls Try.prog 29 #[.agg (ybA b P)] w fun e w' => e = .returned (.tuple #[.int .i64 (placeA b).1, .int .i64 (placeA b).2]) ∧ Below w.heap.size w w' := by
  obtain ⟨pl, cl, pd, cd, pb, cb, ps, cs⟩ := P
  obtain ⟨W0, hW0⟩ : ∃ W, W = w.alloc (.cells (ybA b ⟨pl, cl, pd, cd, pb, cb, ps, cs⟩) 25) := ⟨_, rfl⟩
  have HW0 := Lib.hid hW0
  have HE := Lib.hid (show Below w.heap.size w W0 by rw [hW0]; exact below_alloc _ _)
  have HRx := Lib.hid (show Row W0 w.heap.size (ybA b ⟨pl, cl, pd, cd, pb, cb, ps, cs⟩) 25 by rw [hW0]; exact Row.new _ _ _)
  have HB := Lib.hid (hB.below HE.out)
  have g0 := HRx.out.cell 0 (v := .slice pl b.lots.length cl) rfl
  have g1 := HRx.out.cell 1 (v := .slice pd b.doors.length cd) rfl
  have g2 := HRx.out.cell 2 (v := .slice pb b.buckets.length cb) rfl
  have g3 := HRx.out.cell 3 (v := .slice ps b.spare.length cs) rfl
  have g4 := HRx.out.cell 4 (v := .int .i64 b.apart) rfl
  have g5 := HRx.out.cell 5 (v := .int .i64 b.door) rfl
  have g6 := HRx.out.cell 6 (v := .int .i64 b.bucket) rfl
  have g7 := HRx.out.cell 7 (v := .int .i64 b.err) rfl
  have HCK := Lib.hid (refCheck_any b ⟨pl, cl, pd, cd, pb, cb, ps, cs⟩ W0 HB.out)
  clear hW0 hB
  cases hb : yardB b
  · rw [yardE_bad hb] at HCK
    have HV : Hid (placeA b = (0, 60)) := Lib.hid (by unfold placeA; rw [hb]; rfl)
    clear hb
    go_enter Try.func29, Try.ntmps29
    go_upto_region 1 with (fail)
    rw [← HW0.out]
    go_wp2_with (first | (go_at_call 17; (with_reducible refine HCK.out.mono ?_); rintro e u ⟨rfl, hbu⟩; obtain ⟨x0, hx0⟩ := later_of hbu; subst hx0; clear hbu))
    exact bodyPost_ret (v := .tuple #[.int .i64 0, .int .i64 60]) (results_tmp2 Try.results29 _ _ _) rfl ⟨by rw [HV.out], x0.base HE.out⟩
  rw [yardE_ok hb] at HCK
  have hok := yardB_ok hb
  have n7 := hok.n7
  have hb3 := (yardB_iff.1 hb).2
  have HEND := Lib.hid (fun a m (h : PlR b b.spare.length a m) => plR_end hb h)
  have hbk := (bestK_is (b := b) false n7).1.1
  have HBE := Lib.hid (fun w' (h : Below W0.heap.size W0 w') => refBest_any b ⟨pl, cl, pd, cd, pb, cb, ps, cs⟩ hok w' (HB.out.below h))
  have HGB := Lib.hid (fun q cq w' (h : Below W0.heap.size W0 w') hi => refGoods_any b ⟨pl, cl, pd, cd, pb, cb, ps, cs⟩ hok (lotsL (bestK b false)) (lotsL_le _) (fun x hx => hbk x (lotsL_mem.1 hx).2) q cq w' (HB.out.below h) hi)
  have htl : lowS b (lotsL (bestK b false)) = topK b false := rfl
  have HPL := Lib.hid (fun s0 s1 w' (h : Below W0.heap.size W0 w') => refPlaced_new b ⟨pl, cl, pd, cd, pb, cb, ps, cs⟩ s0 s1 w' (HB.out.u.below h) (by omega))
  have HXB := Lib.hid (fun (s : Int × Int) (hs : spB s = true) Q w' (h : YbAt w' Q (withB b s)) => refBest_any (withB b s) Q (withB_ok hok hb3 hs) w' h)
  have HXG := Lib.hid (fun (s : Int × Int) (hs : spB s = true) Q q cq w' (h : YbAt w' Q (withB b s)) hi => refGoods_any (withB b s) Q (withB_ok hok hb3 hs) (lotsL (bestK (withB b s) false)) (lotsL_le _) (fun x hx => (bestK_is (b := withB b s) false n7).1.1 x (lotsL_mem.1 hx).2) q cq w' h hi)
  have HSS := Lib.hid (fun i (hi : i < b.spare.length) => hok.ss _ (List.getElem_mem hi))
  have HTA := Lib.hid (fun i (hi : i < b.spare.length) => (by simp [topAt, List.getD, hi] : topAt b i = topK (withB b b.spare[i]) false))
  have hs3 : (b.spare.length : Int) ≤ 3 := by have := hok.s3; omega
  have hP0 : PlR b 0 (-1) (topK b false) := .inl ⟨rfl, rfl, fun i hi => absurd hi (Nat.not_lt_zero _)⟩
  obtain ⟨TL, hTL⟩ : ∃ v, topK b false = v := ⟨_, rfl⟩
  rw [hTL] at htl hP0
  rw [htl] at HGB
  obtain ⟨hb2, hhb⟩ : ∃ v, hiS b (lotsL (bestK b false)) = v := ⟨_, rfl⟩
  rw [hhb] at HGB
  unfold GaveSet at HBE
  obtain ⟨LB, hLB⟩ : ∃ v, intsN (lotsL (bestK b false)) = v := ⟨_, rfl⟩
  rw [hLB] at HBE HGB
  have HP0 := Lib.hid hP0
  clear hb hTL htl hhb hLB hok hbk hP0
  go_enter Try.func29, Try.ntmps29
  go_upto_region 1 with (fail)
  rw [← HW0.out]
  go_upto_region 4 with (first | (go_at_call 17; (with_reducible refine HCK.out.mono ?_); rintro e u ⟨rfl, hbu⟩; obtain ⟨x0, hx0⟩ := later_of hbu; subst hx0; clear hbu))
  refine wp_region_held_drew (S := fun w' => Row w' w.heap.size (ybA b ⟨pl, cl, pd, cd, pb, cb, ps, cs⟩) 25) (by kernel_rfl) (HRx.out.below x0.b.drew HRx.out.lt) (fun hH => ?_)
  have hbu : Below x0.w.heap.size x0.w x0.w.drew := (Below.refl _ _).drew
  obtain ⟨x1, hx1⟩ := x0.on hbu
  clear hbu
  rw [hx1] at hH ⊢
  clear hx1
  refine wpAnyH_take_to 0 15 (.agg (ybA b ⟨pl, cl, pd, cd, pb, cb, ps, cs⟩)) rfl rfl (by kernel_rfl) (by kernel_rfl) (by kernel_rfl) (fun _ _ _ h => h) (yields_row (by rfl) 25 _ rfl (w.heap.size) rfl 25 (ybA b ⟨pl, cl, pd, cd, pb, cb, ps, cs⟩) _ (fun _ h => h) Try.underlying25 rfl (by kernel_rfl)) hH ?_
  refine wpAnyH_take_to 1 16 (.agg (ybA b ⟨pl, cl, pd, cd, pb, cb, ps, cs⟩)) rfl rfl (by kernel_rfl) (by kernel_rfl) (by kernel_rfl) (fun _ _ _ h => h) (yields_row (by rfl) 25 _ rfl (w.heap.size) rfl 25 (ybA b ⟨pl, cl, pd, cd, pb, cb, ps, cs⟩) _ (fun _ h => h) Try.underlying25 rfl (by kernel_rfl)) hH ?_
  try simp only [Act.put, List.setIfInBounds_toArray, List.set_cons_succ, List.set_cons_zero]
  refine wpAnyH_ready (rs := [2]) (by kernel_rfl) (by simp) (AllReadyH.cons rfl (fun K hK => ?_) AllReadyH.nil)
  go_simp
  refine (HBE.out _ (Later.b _)).mono ?_
  rintro e u ⟨q, cq, rfl, hi1, hbu⟩
  have HIQ := Lib.hid hi1
  obtain ⟨x2, hx2⟩ := x1.on hbu
  subst hx2
  clear hbu hi1
  refine hK.out _ _ (HRx.out.below x2.b HRx.out.lt) (fun hH => ?_)
  clear hK K
  try simp only [Act.put, List.setIfInBounds_toArray, List.set_cons_succ, List.set_cons_zero]
  refine wpAnyH_ready (rs := [3]) (by kernel_rfl) (by simp) (AllReadyH.cons rfl (fun K hK => ?_) AllReadyH.nil)
  go_simp
  refine (HGB.out _ _ _ (Later.b _) HIQ.out).mono ?_
  rintro e u ⟨rfl, hbu⟩
  obtain ⟨x3, hx3⟩ := x2.on hbu
  subst hx3
  clear hbu
  refine hK.out _ _ (HRx.out.below x3.b HRx.out.lt) (fun hH => ?_)
  clear hK K
  try simp only [Act.put, List.setIfInBounds_toArray, List.set_cons_succ, List.set_cons_zero]
  refine wpAnyH_take_to 4 19 (.int .i64 TL) rfl rfl (by kernel_rfl) (by kernel_rfl) (by kernel_rfl) (fun _ _ _ h => h) (Or.inl ⟨by rfl, fun w' hSw => by go_simp⟩) hH ?_
  refine wpAnyH_take_to 5 5 (.int .i64 (-1)) rfl rfl (by kernel_rfl) (by kernel_rfl) (by kernel_rfl) (fun _ _ _ h => h) (Or.inl ⟨by rfl, fun w' hSw => by go_simp⟩) hH ?_
  refine wpAnyH_take_to 6 6 (.int .i64 TL) rfl rfl (by kernel_rfl) (by kernel_rfl) (by kernel_rfl) (fun _ _ _ h => h) (Or.inl ⟨by rfl, fun w' hSw => by go_simp⟩) hH ?_
  try simp only [Act.put, List.setIfInBounds_toArray, List.set_cons_succ, List.set_cons_zero]
  refine wpAnyH_done (by kernel_rfl) ?_ _
  simp only [Exit.then, Act.put]
  go_wp2_with fail
  go_loopw [5, 6, 7] (fun a m i wr => ∃ (k : Nat) (x : Later W0) (av mv : Int), k ≤ b.spare.length ∧ i = .int .i64 (k : Int) ∧ a = .int .i64 av ∧ m = .int .i64 mv ∧ Hid (PlR b k av mv) ∧ wr = x.w) (fun _ _ i _ => b.spare.length - (intOf i).toNat)
  case atStart => exact ⟨0, x3, -1, TL, by omega, rfl, rfl, rfl, HP0, rfl⟩
  case round =>
    obtain ⟨k, x, av, mv, hk, rfl, rfl, rfl, HPR, rfl⟩ := hrel
    by_cases hlt : k < b.spare.length
    · obtain ⟨bs, os, hps, q0', q1'⟩ := HB.out.s k hlt
      have hsp := HSS.out k hlt
      have hta := HTA.out k hlt
      obtain ⟨t, htt⟩ : ∃ t, b.spare[k] = t := ⟨_, rfl⟩
      rw [htt] at q0' q1' hsp hta
      obtain ⟨s0, s1⟩ := t
      dsimp only at q0' q1' hps
      have HPS := Lib.hid hps
      have HB2 := Lib.hid (HXB.out (s0, s1) hsp)
      have HG2 := Lib.hid (HXG.out (s0, s1) hsp)
      have hte : lowS (withB b (s0, s1)) (lotsL (bestK (withB b (s0, s1)) false)) = topK (withB b (s0, s1)) false := rfl
      rw [hte, ← hta] at HG2
      have HPL2 := Lib.hid (HPL.out s0 s1)
      have HL := Lib.hid (fun h => plR_less HPR.out h)
      have HM := Lib.hid (fun h => plR_more HPR.out h)
      obtain ⟨tv, htv⟩ : ∃ v, topAt b k = v := ⟨_, rfl⟩
      rw [htv] at HG2 HL HM
      unfold GaveSet at HB2
      have i1 : (0 : Int) ≤ (k : Int) := by omega
      have i2 : (k : Int) < (b.spare.length : Int) := by omega
      clear htt hps hsp hta hte htv
      go_upto_region 8 with (fail)
      obtain ⟨V, hV⟩ : ∃ V, x.w = V := ⟨_, rfl⟩
      have HKV := Lib.hid (show Below W0.heap.size W0 V by rw [← hV]; exact x.b)
      rw [hV]
      clear hV
      have HRV := Lib.hid (HRx.out.below HKV.out HRx.out.lt)
      have q0 := ((bcell HKV.out).1 _ _ (cell_block q0')).trans q0'
      have q1 := ((bcell HKV.out).1 _ _ (cell_block q1')).trans q1'
      go_cut [8] from 27 to 33 (fun a8 wx => ∃ g Q, a8 = .pointer (some ⟨g, 0, none⟩) ∧ Row wx g (ybA (withB b (s0, s1)) Q) 25 ∧ YbAt wx Q (withB b (s0, s1)) ∧ Below V.heap.size V wx)
      case first =>
        have HSV := Lib.hid (fun w' (h : Below V.heap.size V w') => (⟨HRV.out.below h HRV.out.lt, ((bcell h).1 _ _ (cell_block q0)).trans q0, ((bcell h).1 _ _ (cell_block q1)).trans q1⟩ : (fun w' => Row w' w.heap.size (ybA b ⟨pl, cl, pd, cd, pb, cb, ps, cs⟩) 25 ∧ w'.cell? ⟨bs, os + k * 2, none⟩ = some (.int .i64 s0) ∧ w'.cell? ⟨bs, os + k * 2 + 1, none⟩ = some (.int .i64 s1)) w'))
        refine wp_region_late (S := fun w' => Row w' w.heap.size (ybA b ⟨pl, cl, pd, cd, pb, cb, ps, cs⟩) 25 ∧ w'.cell? ⟨bs, os + k * 2, none⟩ = some (.int .i64 s0) ∧ w'.cell? ⟨bs, os + k * 2 + 1, none⟩ = some (.int .i64 s1)) 8 (by kernel_rfl) (by kernel_rfl) (by kernel_rfl) (by kernel_rfl) (by rfl) (HSV.out _ (Below.refl _ _).drew) (fun hH => ?_)
        have KC := Lib.hid (show Below V.heap.size V V.drew from (Below.refl _ _).drew)
        simp only [List.take_succ_cons, List.take_zero, List.drop_succ_cons, List.drop_zero, idled, List.map_cons, List.map_nil, idleOp, List.cons_append, List.nil_append, List.size_toArray, List.length_cons, List.length_nil, Nat.reduceAdd]
        obtain ⟨c0, hc0⟩ : ∃ z, V.drew = z := ⟨_, rfl⟩
        rw [hc0] at hH KC ⊢
        clear hc0
        refine wpAnyH_take_to 0 27 (.agg (ybA b ⟨pl, cl, pd, cd, pb, cb, ps, cs⟩)) rfl rfl (by kernel_rfl) (by kernel_rfl) (by kernel_rfl) (fun _ _ _ h => h) (yields_row (by rfl) 25 _ rfl (w.heap.size) rfl 25 (ybA b ⟨pl, cl, pd, cd, pb, cb, ps, cs⟩) _ (fun _ h => h.1) Try.underlying25 rfl (by kernel_rfl)) hH ?_
        refine wpAnyH_take_to 1 28 (.pointer (some ⟨w.heap.size, 3, none⟩)) rfl rfl (by kernel_rfl) (by kernel_rfl) (by kernel_rfl) (fun _ _ _ h => h) (Or.inl ⟨by rfl, fun w' hSw => by (obtain ⟨w0, w1, w2⟩ := hSw; have e3 := w0.cell 3 (v := .slice ps b.spare.length cs) rfl; go_simp)⟩) hH ?_
        refine wpAnyH_take_to 2 29 (.slice ps b.spare.length cs) rfl rfl (by kernel_rfl) (by kernel_rfl) (by kernel_rfl) (fun _ _ _ h => h) (Or.inl ⟨by rfl, fun w' hSw => by (obtain ⟨w0, w1, w2⟩ := hSw; have e3 := w0.cell 3 (v := .slice ps b.spare.length cs) rfl; go_simp)⟩) hH ?_
        refine wpAnyH_take_to 3 30 (.int .i64 (k : Int)) rfl rfl (by kernel_rfl) (by kernel_rfl) (by kernel_rfl) (fun _ _ _ h => h) (Or.inl ⟨by rfl, fun w' hSw => by (obtain ⟨w0, w1, w2⟩ := hSw; have e3 := w0.cell 3 (v := .slice ps b.spare.length cs) rfl; go_simp)⟩) hH ?_
        refine wpAnyH_take_to 4 31 (.pointer (some ⟨bs, os + k * 2, none⟩)) rfl rfl (by kernel_rfl) (by kernel_rfl) (by kernel_rfl) (fun _ _ _ h => h) (Or.inl ⟨by rfl, fun w' hSw => by (obtain ⟨w0, w1, w2⟩ := hSw; have e3 := w0.cell 3 (v := .slice ps b.spare.length cs) rfl; have ee := HPS.out; go_simp)⟩) hH ?_
        refine wpAnyH_take_to 5 32 (.agg #[.int .i64 s0, .int .i64 s1]) rfl rfl (by kernel_rfl) (by kernel_rfl) (by kernel_rfl) (fun _ _ _ h => h) (Or.inl ⟨by rfl, fun w' hSw => by (obtain ⟨w0, w1, w2⟩ := hSw; have e3 := w0.cell 3 (v := .slice ps b.spare.length cs) rfl; go_simp)⟩) hH ?_
        try simp only [Act.put, List.setIfInBounds_toArray, List.set_cons_succ, List.set_cons_zero]
        refine wpAnyH_ready (rs := [6, 7]) (by kernel_rfl) (by simp) (AllReadyH.cons rfl (fun K hK => ?_) (AllReadyH.cons rfl (fun K hK => ?_) (AllReadyH.nil)))
        · go_simp
          refine (HPL2.out c0 (HKV.out.trans (KC.out.mono HKV.out.size))).mono ?_
          rintro e c1 ⟨p', c', rfl, hsp2, hc2, hbu, hnew⟩
          have HSP2 := Lib.hid hsp2
          have HC2 := Lib.hid hc2
          have HNEW := Lib.hid hnew
          have KC := Lib.hid (KC.out.trans (hbu.mono KC.out.size))
          clear hbu hsp2 hc2 hnew
          refine hK.out _ _ (HSV.out _ KC.out) (fun hH => ?_)
          clear hK K
          try simp only [Act.put, List.setIfInBounds_toArray, List.set_cons_succ, List.set_cons_zero]
          have hplt : ∀ q o, p' = some ⟨q, o, none⟩ → q < c1.heap.size := fun q o e => by
            obtain ⟨q2, o2, e2, hc, _⟩ := HSP2.out 0 (by simp)
            rw [e] at e2
            cases e2
            exact cell_block hc
          have HPLT := Lib.hid hplt
          clear hplt
          refine wpAnyH_ready (rs := [7]) (by kernel_rfl) (by simp) (AllReadyH.cons rfl (fun K hK => ?_) (AllReadyH.nil))
          have hgpe : ∀ g, c1.heap.size = g → ∀ q o, p' = some ⟨q, o, none⟩ → q ≠ g := fun g hg q o e => by have := HPLT.out q o e; omega
          have HGPE := Lib.hid hgpe
          clear hgpe
          go_simp
          have hbu := below_alloc c1 (.cells ybZ 25)
          have HG := Lib.hid (Row.new c1 ybZ 25)
          have hgz := KC.out.size
          have HSP2 := Lib.hid (HSP2.out.below hbu)
          have KC := Lib.hid (KC.out.trans (hbu.mono KC.out.size))
          obtain ⟨c2, hnw⟩ : ∃ z, c1.alloc (.cells ybZ 25) = z := ⟨_, rfl⟩
          obtain ⟨gp, hgp⟩ : ∃ n, c1.heap.size = n := ⟨_, rfl⟩
          rw [hnw] at HG KC HSP2 ⊢
          rw [hgp] at HG hgz ⊢
          have HQ := Lib.hid (HGPE.out gp hgp)
          clear hnw hbu hgp
          refine hK.out _ _ (HSV.out _ KC.out) (fun hH => ?_)
          clear hK K
          try simp only [Act.put, List.setIfInBounds_toArray, List.set_cons_succ, List.set_cons_zero]
          have hne : ∀ q o, p' = some ⟨q, o, none⟩ → q ≠ gp := HQ.out
          refine wpAnyH_take (i := 8) (v := undef) rfl (by kernel_rfl) (by kernel_rfl) (by kernel_rfl) (fun _ _ _ h => h) (Or.inl ⟨by rfl, fun _ _ => by rfl⟩) hH ?_
          refine wpAnyH_done (by kernel_rfl) ?_ _
          refine (id (α := wpList _ _ _ _ _ _) ?_)
          simp only [Act.put]
          go_wp2_with (first
            | (refine store_row rfl 25 _ _ rfl gp (ybA (withB b (s0, s1)) ⟨pl, cl, pd, cd, p', c', ps, cs⟩) ybZ 25 rfl rfl HG.out (by kernel_rfl) rfl (by simp [Value.oneCell']) ?_))
          go_meet
          have hbs := below_setRow' KC.out hgz (ybA (withB b (s0, s1)) ⟨pl, cl, pd, cd, p', c', ps, cs⟩)
          exact ⟨gp, _, rfl, HG.out.setRow _, more_at (HB.out.below (HKV.out.trans (hbs.mono HKV.out.size))) (by omega) (HSP2.out.fromB (m := gp) ⟨(KeepsBut.refl (fun m => m = gp) _).setRow (.inl rfl) _⟩ hne) HC2.out, hbs⟩
        · go_simp
          have hbu := below_alloc c0 (.cells ybZ 25)
          have HG := Lib.hid (Row.new c0 ybZ 25)
          have hgz := KC.out.size
          have KC := Lib.hid (KC.out.trans (hbu.mono KC.out.size))
          obtain ⟨c1, hnw⟩ : ∃ z, c0.alloc (.cells ybZ 25) = z := ⟨_, rfl⟩
          obtain ⟨gp, hgp⟩ : ∃ n, c0.heap.size = n := ⟨_, rfl⟩
          rw [hnw] at HG KC  ⊢
          rw [hgp] at HG hgz ⊢
          clear hnw hbu hgp
          refine hK.out _ _ (HSV.out _ KC.out) (fun hH => ?_)
          clear hK K
          try simp only [Act.put, List.setIfInBounds_toArray, List.set_cons_succ, List.set_cons_zero]
          refine wpAnyH_ready (rs := [6]) (by kernel_rfl) (by simp) (AllReadyH.cons rfl (fun K hK => ?_) (AllReadyH.nil))
          have hgl := HG.out.lt
          go_simp
          refine (HPL2.out c1 (HKV.out.trans (KC.out.mono HKV.out.size))).mono ?_
          rintro e c2 ⟨p', c', rfl, hsp2, hc2, hbu, hnew⟩
          have HG := Lib.hid (HG.out.below hbu HG.out.lt)
          have HSP2 := Lib.hid hsp2
          have HC2 := Lib.hid hc2
          have HNEW := Lib.hid hnew
          have KC := Lib.hid (KC.out.trans (hbu.mono KC.out.size))
          clear hbu hsp2 hc2 hnew
          refine hK.out _ _ (HSV.out _ KC.out) (fun hH => ?_)
          clear hK K
          try simp only [Act.put, List.setIfInBounds_toArray, List.set_cons_succ, List.set_cons_zero]
          have HQ := Lib.hid (show ∀ q o, p' = some ⟨q, o, none⟩ → q ≠ gp from fun q o e => by have := HNEW.out q o e; omega)
          have hne : ∀ q o, p' = some ⟨q, o, none⟩ → q ≠ gp := HQ.out
          refine wpAnyH_take (i := 8) (v := undef) rfl (by kernel_rfl) (by kernel_rfl) (by kernel_rfl) (fun _ _ _ h => h) (Or.inl ⟨by rfl, fun _ _ => by rfl⟩) hH ?_
          refine wpAnyH_done (by kernel_rfl) ?_ _
          refine (id (α := wpList _ _ _ _ _ _) ?_)
          simp only [Act.put]
          go_wp2_with (first
            | (refine store_row rfl 25 _ _ rfl gp (ybA (withB b (s0, s1)) ⟨pl, cl, pd, cd, p', c', ps, cs⟩) ybZ 25 rfl rfl HG.out (by kernel_rfl) rfl (by simp [Value.oneCell']) ?_))
          go_meet
          have hbs := below_setRow' KC.out hgz (ybA (withB b (s0, s1)) ⟨pl, cl, pd, cd, p', c', ps, cs⟩)
          exact ⟨gp, _, rfl, HG.out.setRow _, more_at (HB.out.below (HKV.out.trans (hbs.mono HKV.out.size))) (by omega) (HSP2.out.fromB (m := gp) ⟨(KeepsBut.refl (fun m => m = gp) _).setRow (.inl rfl) _⟩ hne) HC2.out, hbs⟩
      case rest =>
        obtain ⟨g, Q, rfl, hr, hy, hbv⟩ := hcut
        have HXR := Lib.hid hr
        have HYX := Lib.hid hy
        obtain ⟨z, hz⟩ := later_of (W := W0) (HKV.out.trans (hbv.mono HKV.out.size))
        subst hz
        clear hr hy hbv q0 q1 HRV HKV
        go_upto_region 9 with (fail)
        refine wp_region_held_drew (S := fun w' => Row w' g (ybA (withB b (s0, s1)) Q) 25) (by kernel_rfl) (HXR.out.below (Below.refl _ _).drew HXR.out.lt) (fun hH => ?_)
        have hbu : Below z.w.heap.size z.w z.w.drew := (Below.refl _ _).drew
        have HXR := Lib.hid (HXR.out.below hbu HXR.out.lt)
        have HYX := Lib.hid (HYX.out.below hbu)
        obtain ⟨z1, hz1⟩ := z.on hbu
        clear hbu
        rw [hz1] at hH HXR HYX ⊢
        clear hz1
        refine wpAnyH_take_to 0 34 (.agg (ybA (withB b (s0, s1)) Q)) rfl rfl (by kernel_rfl) (by kernel_rfl) (by kernel_rfl) (fun _ _ _ h => h) (yields_row (by rfl) 25 _ rfl (g) rfl 25 (ybA (withB b (s0, s1)) Q) _ (fun _ h => h) Try.underlying25 rfl (by kernel_rfl)) hH ?_
        refine wpAnyH_take_to 1 35 (.agg (ybA (withB b (s0, s1)) Q)) rfl rfl (by kernel_rfl) (by kernel_rfl) (by kernel_rfl) (fun _ _ _ h => h) (yields_row (by rfl) 25 _ rfl (g) rfl 25 (ybA (withB b (s0, s1)) Q) _ (fun _ h => h) Try.underlying25 rfl (by kernel_rfl)) hH ?_
        try simp only [Act.put, List.setIfInBounds_toArray, List.set_cons_succ, List.set_cons_zero]
        refine wpAnyH_ready (rs := [2]) (by kernel_rfl) (by simp) (AllReadyH.cons rfl (fun K hK => ?_) AllReadyH.nil)
        go_simp
        refine (HB2.out _ _ HYX.out).mono ?_
        rintro e u ⟨q, cq, rfl, hi1, hbu⟩
        have HIQ := Lib.hid hi1
        have HXR := Lib.hid (HXR.out.below hbu HXR.out.lt)
        have HYX := Lib.hid (HYX.out.below hbu)
        obtain ⟨z2, hz2⟩ := z1.on hbu
        subst hz2
        clear hbu hi1
        refine hK.out _ _ HXR.out (fun hH => ?_)
        clear hK K
        try simp only [Act.put, List.setIfInBounds_toArray, List.set_cons_succ, List.set_cons_zero]
        refine wpAnyH_ready (rs := [3]) (by kernel_rfl) (by simp) (AllReadyH.cons rfl (fun K hK => ?_) AllReadyH.nil)
        go_simp
        refine (HG2.out _ _ _ _ HYX.out HIQ.out).mono ?_
        rintro e u ⟨rfl, hbu⟩
        have HXR := Lib.hid (HXR.out.below hbu HXR.out.lt)
        obtain ⟨z3, hz3⟩ := z2.on hbu
        subst hz3
        clear hbu
        refine hK.out _ _ HXR.out (fun hH => ?_)
        clear hK K
        try simp only [Act.put, List.setIfInBounds_toArray, List.set_cons_succ, List.set_cons_zero]
        refine wpAnyH_take_to 4 38 (.int .i64 tv) rfl rfl (by kernel_rfl) (by kernel_rfl) (by kernel_rfl) (fun _ _ _ h => h) (Or.inl ⟨by rfl, fun w' hSw => by go_simp⟩) hH ?_
        refine wpAnyH_take_to 5 9 (.int .i64 tv) rfl rfl (by kernel_rfl) (by kernel_rfl) (by kernel_rfl) (fun _ _ _ h => h) (Or.inl ⟨by rfl, fun w' hSw => by go_simp⟩) hH ?_
        try simp only [Act.put, List.setIfInBounds_toArray, List.set_cons_succ, List.set_cons_zero]
        refine wpAnyH_done (by kernel_rfl) ?_ _
        simp only [Exit.then, Act.put]
        by_cases hgt : mv < tv
        · have HPN := Lib.hid (HM.out hgt)
          go_wp2_with fail
          go_roundw
          case rel => exact ⟨k + 1, z3, (k : Int), tv, by omega, by go_num, rfl, rfl, HPN, rfl⟩
          case measure => simp [intOf]; omega
        · have HPN := Lib.hid (HL.out (by omega))
          have hgt' := eq_false hgt
          go_wp2_with fail
          go_roundw
          case rel => exact ⟨k + 1, z3, av, mv, by omega, by go_num, rfl, rfl, HPN, rfl⟩
          case measure => simp [intOf]; omega
    · obtain rfl : k = b.spare.length := by omega
      have hend := HEND.out av mv HPR.out
      rcases hend with ⟨rfl, hp⟩ | ⟨h0, hp⟩
      · have HV := Lib.hid hp
        clear hp
        go_wp2_with fail
        exact bodyPost_ret (v := .tuple #[.int .i64 0, .int .i64 4]) (results_tmp2 Try.results29 _ _ _) rfl ⟨by rw [HV.out], x.base HE.out⟩
      · have HV := Lib.hid hp
        have h1 : ¬ av < 0 := by omega
        have h1' := eq_false h1
        clear hp
        go_wp2_with fail
        exact bodyPost_ret (v := .tuple #[.int .i64 av, .int .i64 0]) (results_tmp2 Try.results29 _ _ _) rfl ⟨by rw [HV.out], x.base HE.out⟩
end Go.Proofs.Ytajkgfeockcbpaa
