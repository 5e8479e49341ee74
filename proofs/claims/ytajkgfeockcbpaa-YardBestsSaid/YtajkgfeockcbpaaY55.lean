/- The law YardPlace. -/
import Derived.Test.YtajkgfeockcbpaaY53
import Derived.Test.YtajkgfeockcbpaaY52
import Derived.Deep.CutBlock
namespace Go.Proofs.Ytajkgfeockcbpaa
open Go.RowKit Go.Maps
attribute [local go_sem] Oper.semAt_some

/-- The most goods at least with a bucket at a spare spot. -/
def topAt (b : Yb) (i : Nat) : Int := topK (withB b (b.spare.getD i (0, 0))) false
theorem with_dup {b : Yb} {s : Int × Int} (h : b.buckets.contains s = true) : Easy (withB b s) b := by
  refine ⟨rfl, fun i j h => h, fun i h2 => ?_⟩
  unfold servK at h2 ⊢
  rw [Bool.and_eq_true] at h2 ⊢
  refine ⟨h2.1, ?_⟩
  have h3 := h2.2
  unfold reachK at h3 ⊢
  rw [List.any_eq_true] at h3 ⊢
  obtain ⟨t, ht, h4⟩ := h3
  have ht : t ∈ b.buckets ++ [s] := ht
  rcases List.mem_append.1 ht with ht | ht
  · exact ⟨t, ht, h4⟩
  · rw [List.mem_singleton.1 ht] at h4
    exact ⟨s, List.contains_iff_mem.1 h, h4⟩
/-- What is kept behind some spare spots. -/
def Placed (b : Yb) (j : Nat) (o : Int × Bool × Int) : Prop :=
  (o = (0, false, topK b false) ∧ ∀ i, i < j → topAt b i ≤ topK b false) ∨
    ∃ k : Nat, k < j ∧ o = ((k : Int), true, topAt b k) ∧ topK b false < topAt b k ∧ ∀ i, i < j → topAt b i < topAt b k ∨ (topAt b i = topAt b k ∧ k ≤ i)
theorem placed_is {b : Yb} (hn : b.lots.length ≤ 7) : ∀ j, Placed b j ((List.range j).foldl (placeS b) (0, false, topK b false))
  | 0 => .inl ⟨rfl, fun i hi => absurd hi (Nat.not_lt_zero _)⟩
  | j + 1 => by
    have ih := placed_is hn j
    rw [List.range_succ, List.foldl_append]
    generalize (List.range j).foldl (placeS b) (0, false, topK b false) = o at ih
    show Placed b (j + 1) (placeS b o j)
    unfold placeS
    by_cases hd : b.buckets.contains (b.spare.getD j (0, 0)) = true
    · rw [if_pos hd]
      have ht : topAt b j ≤ topK b false := (with_dup hd).top hn
      rcases ih with ⟨h1, h2⟩ | ⟨k, h1, h2, h3, h4⟩
      · exact .inl ⟨h1, fun i hi => by
          by_cases e : i = j
          · rw [e]; exact ht
          · exact h2 i (by omega)⟩
      · exact .inr ⟨k, by omega, h2, h3, fun i hi => by
          by_cases e : i = j
          · rw [e]; exact .inl (by omega)
          · exact h4 i (by omega)⟩
    · rw [if_neg hd]
      change Placed b (j + 1) (if o.2.2 < topAt b j then ((j : Int), true, topAt b j) else o)
      rcases ih with ⟨rfl, h2⟩ | ⟨k, h1, rfl, h3, h4⟩
      · by_cases hl : topK b false < topAt b j
        · rw [if_pos hl]
          refine .inr ⟨j, by omega, rfl, hl, fun i hi => ?_⟩
          by_cases e : i = j
          · rw [e]; exact .inr ⟨rfl, Nat.le_refl _⟩
          · have := h2 i (by omega)
            exact .inl (by omega)
        · rw [if_neg hl]
          exact .inl ⟨rfl, fun i hi => by
            by_cases e : i = j
            · rw [e]; omega
            · exact h2 i (by omega)⟩
      · by_cases hl : topAt b k < topAt b j
        · rw [if_pos hl]
          refine .inr ⟨j, by omega, rfl, by omega, fun i hi => ?_⟩
          by_cases e : i = j
          · rw [e]; exact .inr ⟨rfl, Nat.le_refl _⟩
          · have := h4 i (by omega)
            exact .inl (by omega)
        · rw [if_neg hl]
          refine .inr ⟨k, by omega, rfl, h3, fun i hi => ?_⟩
          by_cases e : i = j
          · rw [e]; by_cases e2 : topAt b j = topAt b k
            · exact .inr ⟨e2, by omega⟩
            · exact .inl (by omega)
          · exact h4 i (by omega)
theorem place_ways {b : Yb} (hb : yardB b = true) : (placeA b = (0, 4) ∧ ∀ i, i < b.spare.length → topAt b i ≤ topK b false) ∨
    ∃ k : Nat, k < b.spare.length ∧ placeA b = ((k : Int), 0) ∧ topK b false < topAt b k ∧ ∀ i, i < b.spare.length → topAt b i < topAt b k ∨ (topAt b i = topAt b k ∧ k ≤ i) := by
  have h := placed_is (yardB_ok hb).n7 b.spare.length
  change Placed b b.spare.length (placeO b) at h
  unfold placeA
  rw [hb, if_pos rfl]
  rcases h with ⟨h1, h2⟩ | ⟨k, h1, h2, h3, h4⟩
  · rw [h1]
    exact .inl ⟨rfl, h2⟩
  · rw [h2]
    exact .inr ⟨k, h1, rfl, h3, h4⟩
set_option maxRecDepth 100000 in
set_option maxHeartbeats 6400000 in
theorem YardPlace_any (b : Yb) (P : Yp) (n : Int) (w : World) (hB : YbAt w P b)  :
    Calls Try.prog 12 #[.agg (ybA b P), .int .i64 n] w fun e w' => e = .returned (.bool true) ∧ Below w.heap.size w w' := by
  obtain ⟨pl, cl, pd, cd, pb, cb, ps, cs⟩ := P
  obtain ⟨W0, hW0⟩ : ∃ W, W = w.alloc (.cells (ybA b ⟨pl, cl, pd, cd, pb, cb, ps, cs⟩) 25) := ⟨_, rfl⟩
  have HW0 := Lib.hid hW0
  have HE := Lib.hid (show Below w.heap.size w W0 by rw [hW0]; exact below_alloc _ _)
  have HRx := Lib.hid (show Row W0 w.heap.size (ybA b ⟨pl, cl, pd, cd, pb, cb, ps, cs⟩) 25 by rw [hW0]; exact Row.new _ _ _)
  have HB := Lib.hid (hB.below HE.out)
  have hn61 := hB.n1
  clear hW0 hB
  cases hb : yardB b
  · have HSO := Lib.hid (sound_no b ⟨pl, cl, pd, cd, pb, cb, ps, cs⟩ W0 HB.out hb)
    clear hb
    go_enter Try.func12, Try.ntmps12
    go_upto_region 1 with (fail)
    rw [← HW0.out]
    go_wp2_with (first
      | (refine load_row rfl 25 _ rfl w.heap.size rfl 25 _ _ HRx.out Try.underlying25 rfl (by kernel_rfl) ?_)
      | (go_at_call 37; (with_reducible refine HSO.out.mono ?_); rintro e u ⟨rfl, hbu⟩; have HU := Lib.hid (HE.out.trans (hbu.mono HE.out.size)); clear hbu)
      | (go_at_call 22; (with_reducible refine (stacked_any _).mono ?_); rintro e v ⟨rfl, hbu⟩; have HV := Lib.hid (HU.out.trans (hbu.mono HU.out.size)); clear hbu))
    go_ret
    exact ⟨rfl, HV.out⟩
  have HSO := Lib.hid (sound_yes b ⟨pl, cl, pd, cd, pb, cb, ps, cs⟩ W0 HB.out hb)
  have HOK := Lib.hid (yardB_ok hb)
  have HBB := Lib.hid hb
  have hok := HOK.out
  have hL1 := hok.n1
  have hL7 := hok.n7
  have he0 := hok.e0
  have g0 := HRx.out.cell 0 (v := .slice pl b.lots.length cl) rfl
  have g1 := HRx.out.cell 1 (v := .slice pd b.doors.length cd) rfl
  have g2 := HRx.out.cell 2 (v := .slice pb b.buckets.length cb) rfl
  have g3 := HRx.out.cell 3 (v := .slice ps b.spare.length cs) rfl
  have g4 := HRx.out.cell 4 (v := .int .i64 b.apart) rfl
  have g5 := HRx.out.cell 5 (v := .int .i64 b.door) rfl
  have g6 := HRx.out.cell 6 (v := .int .i64 b.bucket) rfl
  have g7 := HRx.out.cell 7 (v := .int .i64 b.err) rfl
  have hb3 := (yardB_iff.1 hb).2
  have hs3 := hok.s3
  have hss := hok.ss
  have HGO := Lib.hid (fun w' (h : Below W0.heap.size W0 w') => goods_good HBB.out (HB.out.below h))
  have HPL := Lib.hid (fun w' (h : Below W0.heap.size W0 w') => place_api b ⟨pl, cl, pd, cd, pb, cb, ps, cs⟩ w' (HB.out.below h))
  have hways := place_ways hb
  have HGY := Lib.hid (fun (hlt : b.buckets.length < 3) i (hi : i < b.spare.length) Q w' (h : YbAt w' Q (withB b b.spare[i])) => goods_good (with_ok HBB.out hlt (hss _ (List.getElem_mem hi))) h)
  have hge : ∀ i (hi : i < b.spare.length), topAt b i = topK (withB b b.spare[i]) false := fun i hi => by simp [topAt, List.getD, hi]
  obtain ⟨lo, hlo⟩ : ∃ v, topK b false = v := ⟨_, rfl⟩
  obtain ⟨hi, hhi⟩ : ∃ v, topK b true = v := ⟨_, rfl⟩
  rw [hlo] at HGO hways
  rw [hhi] at HGO
  clear hlo hhi hb hok
  have g8 : (b.buckets.length : Int) ≤ 3 := by omega
  by_cases hbk : b.buckets.length = 3
  · have hq : ((b.buckets.length : Int) == 3) = true := by rw [hbk]; rfl
    clear hbk
    go_enter Try.func12, Try.ntmps12
    go_upto_region 1 with (fail)
    rw [← HW0.out]
    go_wp2_with (first
      | (go_at_call 37; (with_reducible refine HSO.out.mono ?_); rintro e u ⟨rfl, hbu⟩; obtain ⟨x0, hx0⟩ := later_of hbu; subst hx0; clear hbu)
      | (go_at_call 22; (with_reducible refine (stacked_any _).mono ?_); rintro e v ⟨rfl, hbu⟩; obtain ⟨x1, hx1⟩ := x0.on hbu; subst hx1; clear hbu))
    go_ret
    exact ⟨rfl, x1.base HE.out⟩
  have hq : ((b.buckets.length : Int) == 3) = false := by rw [beq_eq_false_iff_ne]; omega
  have hlt3 : b.buckets.length < 3 := by omega
  rcases hways with ⟨hp, htop⟩ | ⟨k, hk, hp, htk, htop⟩
  · rw [hp] at HPL
    clear hp
    by_cases hs0 : b.spare.length = 0
    · have hz : ((b.spare.length : Int) == 0) = true := by rw [hs0]; rfl
      clear hs0
      go_enter Try.func12, Try.ntmps12
      go_upto_region 1 with (fail)
      rw [← HW0.out]
      go_upto_region 5 with (first
        | (go_at_call 37; (with_reducible refine HSO.out.mono ?_); rintro e u ⟨rfl, hbu⟩; obtain ⟨x0, hx0⟩ := later_of hbu; subst hx0; clear hbu)
        | (go_at_call 28; (with_reducible refine (HPL.out _ (Later.b _)).mono ?_); rintro e u ⟨rfl, hbu⟩; obtain ⟨x1, hx1⟩ := x0.on hbu; subst hx1; clear hbu)
        | (go_at_call 26; (with_reducible refine (HGO.out _ (Later.b _)).mono ?_); rintro e u ⟨rfl, hbu⟩; obtain ⟨x2, hx2⟩ := x1.on hbu; subst hx2; clear hbu; have rS := Row.new x2.w #[.int .i64 lo, .int .i64 hi] 40; obtain ⟨x3, hx3⟩ := x2.on (below_alloc x2.w (.cells #[.int .i64 lo, .int .i64 hi] 40)); rw [hx3] at rS; have HRS := Lib.hid rS; clear rS)
        | (refine store_new rfl 40 _ _ rfl #[.int .i64 lo, .int .i64 hi] #[.int .i64 0, .int .i64 0] 40 rfl rfl (by kernel_rfl) rfl (by simp [Value.oneCell']) ?_))
      obtain ⟨gS, hgS⟩ : ∃ n, x2.w.heap.size = n := ⟨_, rfl⟩
      rw [hgS] at HRS ⊢
      clear hgS hx3
      go_wp2_with (first
        | (go_at_call 22; (with_reducible refine (stacked_any _).mono ?_); rintro e v ⟨rfl, hbu⟩; obtain ⟨x4, hx4⟩ := x3.on hbu; subst hx4; clear hbu))
      go_ret
      exact ⟨rfl, x4.base HE.out⟩
    · have hz : ((b.spare.length : Int) == 0) = false := by rw [beq_eq_false_iff_ne]; omega
      obtain ⟨r, hr, hrL⟩ := spin_nat (n := n) (m := (b.spare.length : Int)) (by omega)
      have hrN : r < b.spare.length := by omega
      have HSR := Lib.hid (fun w' => (by have q := Spin_any n (b.spare.length : Int) w' (by unfold I64; omega); rw [hr] at q; exact q))
      have hr0 : (0 : Int) ≤ (r : Int) := by omega
      clear hr
      go_enter Try.func12, Try.ntmps12
      go_upto_region 1 with (fail)
      rw [← HW0.out]
      go_upto_region 5 with (first
        | (go_at_call 37; (with_reducible refine HSO.out.mono ?_); rintro e u ⟨rfl, hbu⟩; obtain ⟨x0, hx0⟩ := later_of hbu; subst hx0; clear hbu)
        | (go_at_call 28; (with_reducible refine (HPL.out _ (Later.b _)).mono ?_); rintro e u ⟨rfl, hbu⟩; obtain ⟨x1, hx1⟩ := x0.on hbu; subst hx1; clear hbu)
        | (go_at_call 26; (with_reducible refine (HGO.out _ (Later.b _)).mono ?_); rintro e u ⟨rfl, hbu⟩; obtain ⟨x2, hx2⟩ := x1.on hbu; subst hx2; clear hbu; have rS := Row.new x2.w #[.int .i64 lo, .int .i64 hi] 40; obtain ⟨x3, hx3⟩ := x2.on (below_alloc x2.w (.cells #[.int .i64 lo, .int .i64 hi] 40)); rw [hx3] at rS; have HRS := Lib.hid rS; clear rS)
        | (refine store_new rfl 40 _ _ rfl #[.int .i64 lo, .int .i64 hi] #[.int .i64 0, .int .i64 0] 40 rfl rfl (by kernel_rfl) rfl (by simp [Value.oneCell']) ?_))
      obtain ⟨gS, hgS⟩ : ∃ n, x2.w.heap.size = n := ⟨_, rfl⟩
      rw [hgS] at HRS ⊢
      clear hgS hx3
      obtain ⟨gXA, hgA⟩ : ∃ n, x3.w.heap.size = n := ⟨_, rfl⟩
      have rX := Row.new x3.w (ybA b ⟨pl, cl, pd, cd, pb, cb, ps, cs⟩) 25
      have hba := below_alloc x3.w (.cells (ybA b ⟨pl, cl, pd, cd, pb, cb, ps, cs⟩) 25)
      have ltHRSA := HRS.out.lt
      have HRS := Lib.hid (HRS.out.below hba HRS.out.lt)
      obtain ⟨VA, hVA⟩ : ∃ z, x3.w.alloc (.cells (ybA b ⟨pl, cl, pd, cd, pb, cb, ps, cs⟩) 25) = z := ⟨_, rfl⟩
      have HKVA := Lib.hid (show Below W0.heap.size W0 VA by rw [← hVA]; exact x3.b.trans (hba.mono x3.b.size))
      have hgWA : W0.heap.size ≤ gXA := by rw [← hgA]; exact x3.b.size
      rw [hVA] at rX HRS
      rw [hgA] at rX ltHRSA
      have HXVA := Lib.hid rX
      clear rX hba
      go_upto_region 11 with ((go_at_call 44; (with_reducible refine (HSR.out _).mono ?_); rintro e u ⟨rfl, rfl⟩))
      try rw [hVA]
      clear hVA hgA
      have HBVA := Lib.hid (HRx.out.below HKVA.out HRx.out.lt)
      have HUVA := Lib.hid (HB.out.u.below HKVA.out)
      have HCSA := Lib.hid ((HB.out.s.below HKVA.out) r hrN)
      have HGZA := Lib.hid (HGY.out hlt3 r hrN)
      have httA := hge r hrN
      obtain ⟨spA, hspA⟩ : ∃ t, b.spare[r] = t := ⟨_, rfl⟩
      have HSPEA := Lib.hid hspA
      rw [hspA] at HCSA HGZA httA
      obtain ⟨s0A, s1A⟩ := spA
      obtain ⟨bsA, osA, hpsA, q0A, q1A⟩ := HCSA.out
      dsimp only at q0A q1A hpsA
      have HPSA := Lib.hid hpsA
      clear hpsA
      obtain ⟨tl, htlA⟩ : ∃ v, topK (withB b (s0A, s1A)) false = v := ⟨_, rfl⟩
      obtain ⟨th, hthA⟩ : ∃ v, topK (withB b (s0A, s1A)) true = v := ⟨_, rfl⟩
      rw [htlA] at HGZA httA
      rw [hthA] at HGZA
      clear hspA htlA hthA HCSA
      go_cut [] from 78 to 89 (fun wx => ∃ p' c', FromB gXA VA wx ∧ Row wx gXA (ybA (withB b (s0A, s1A)) ⟨pl, cl, pd, cd, p', c', ps, cs⟩) 25 ∧ SpotsAt wx p' (b.buckets ++ [(s0A, s1A)]) ∧ b.buckets.length + 1 ≤ c' ∧ ∀ q o, p' = some ⟨q, o, none⟩ → VA.heap.size ≤ q)
      case first =>
        have HSV := Lib.hid (fun w' (h : Below VA.heap.size VA w') => (⟨(HBVA.out.below h HBVA.out.lt).cell 2 rfl, (HBVA.out.below h HBVA.out.lt).cell 3 rfl, ((bcell h).1 _ _ (cell_block q0A)).trans q0A, ((bcell h).1 _ _ (cell_block q1A)).trans q1A⟩ : (fun w' => w'.cell? ⟨w.heap.size, 2, none⟩ = some (.slice pb b.buckets.length cb) ∧ w'.cell? ⟨w.heap.size, 3, none⟩ = some (.slice ps b.spare.length cs) ∧ w'.cell? ⟨bsA, osA + r * 2, none⟩ = some (.int .i64 s0A) ∧ w'.cell? ⟨bsA, osA + r * 2 + 1, none⟩ = some (.int .i64 s1A)) w'))
        refine wp_region_late (S := fun w' => w'.cell? ⟨w.heap.size, 2, none⟩ = some (.slice pb b.buckets.length cb) ∧ w'.cell? ⟨w.heap.size, 3, none⟩ = some (.slice ps b.spare.length cs) ∧ w'.cell? ⟨bsA, osA + r * 2, none⟩ = some (.int .i64 s0A) ∧ w'.cell? ⟨bsA, osA + r * 2 + 1, none⟩ = some (.int .i64 s1A)) 11 (by kernel_rfl) (by kernel_rfl) (by kernel_rfl) (by kernel_rfl) (by rfl) (HSV.out _ (Below.refl _ _).drew) (fun hH => ?_)
        have KC := Lib.hid (show Below VA.heap.size VA VA.drew from (Below.refl _ _).drew)
        obtain ⟨c0, hc0⟩ : ∃ z, VA.drew = z := ⟨_, rfl⟩
        rw [hc0] at hH KC ⊢
        clear hc0
        simp only [List.take_succ_cons, List.take_zero, List.drop_succ_cons, List.drop_zero, idled, List.map_cons, List.map_nil, idleOp, List.cons_append, List.nil_append, List.size_toArray, List.length_cons, List.length_nil, Nat.reduceAdd]
        refine wpAnyH_take_to 1 79 (.pointer (some ⟨w.heap.size, 2, none⟩)) rfl rfl (by kernel_rfl) (by kernel_rfl) (by kernel_rfl) (fun _ _ _ h => h) (Or.inl ⟨by rfl, fun w' hSw => by (obtain ⟨w0, w1, w2, w3⟩ := hSw; go_simp)⟩) hH ?_
        refine wpAnyH_take_to 2 80 (.slice pb b.buckets.length cb) rfl rfl (by kernel_rfl) (by kernel_rfl) (by kernel_rfl) (fun _ _ _ h => h) (Or.inl ⟨by rfl, fun w' hSw => by (obtain ⟨w0, w1, w2, w3⟩ := hSw; go_simp)⟩) hH ?_
        refine wpAnyH_take_to 4 82 (.pointer (some ⟨w.heap.size, 3, none⟩)) rfl rfl (by kernel_rfl) (by kernel_rfl) (by kernel_rfl) (fun _ _ _ h => h) (Or.inl ⟨by rfl, fun w' hSw => by (obtain ⟨w0, w1, w2, w3⟩ := hSw; go_simp)⟩) hH ?_
        refine wpAnyH_take_to 5 83 (.slice ps b.spare.length cs) rfl rfl (by kernel_rfl) (by kernel_rfl) (by kernel_rfl) (fun _ _ _ h => h) (Or.inl ⟨by rfl, fun w' hSw => by (obtain ⟨w0, w1, w2, w3⟩ := hSw; go_simp)⟩) hH ?_
        refine wpAnyH_take_to 6 84 (.int .i64 (r : Int)) rfl rfl (by kernel_rfl) (by kernel_rfl) (by kernel_rfl) (fun _ _ _ h => h) (Or.inl ⟨by rfl, fun w' hSw => by (obtain ⟨w0, w1, w2, w3⟩ := hSw; go_simp)⟩) hH ?_
        refine wpAnyH_take_to 7 85 (.pointer (some ⟨bsA, osA + r * 2, none⟩)) rfl rfl (by kernel_rfl) (by kernel_rfl) (by kernel_rfl) (fun _ _ _ h => h) (Or.inl ⟨by rfl, fun w' hSw => by (obtain ⟨w0, w1, w2, w3⟩ := hSw; have ee := HPSA.out; go_simp)⟩) hH ?_
        refine wpAnyH_take_to 8 86 (.agg #[.int .i64 s0A, .int .i64 s1A]) rfl rfl (by kernel_rfl) (by kernel_rfl) (by kernel_rfl) (fun _ _ _ h => h) (Or.inl ⟨by rfl, fun w' hSw => by (obtain ⟨w0, w1, w2, w3⟩ := hSw; go_simp)⟩) hH ?_
        try simp only [Act.put, List.setIfInBounds_toArray, List.set_cons_succ, List.set_cons_zero]
        refine wpAnyH_ready (rs := [0, 9]) (by kernel_rfl) (by simp) (AllReadyH.cons rfl (fun K hK => ?_) (AllReadyH.cons rfl (fun K hK => ?_) (AllReadyH.nil)))
        · go_simp
          have hbu := below_alloc c0 (.cells #[] 62)
          have HO := Lib.hid (show OwnSp (c0.alloc (.cells #[] 62)) VA.heap.size (.slice (some ⟨c0.heap.size, 0, none⟩) 0 0) [] from ⟨rfl, .inr ⟨_, 0, #[], rfl, KC.out.size, World.alloc_heap_new _ _, Nat.le_refl _, by unfold maxLen; omega, rfl, rfl⟩⟩)
          have KC := Lib.hid (KC.out.trans (hbu.mono KC.out.size))
          obtain ⟨c1, hnw⟩ : ∃ z, c0.alloc (.cells #[] 62) = z := ⟨_, rfl⟩
          obtain ⟨go, hgo⟩ : ∃ n, c0.heap.size = n := ⟨_, rfl⟩
          rw [hnw] at HO KC  ⊢
          rw [hgo] at HO  ⊢
          clear hnw hbu
          refine hK.out _ _ (HSV.out _ KC.out) (fun hH => ?_)
          clear hK K
          try simp only [Act.put, List.setIfInBounds_toArray, List.set_cons_succ, List.set_cons_zero]
          refine wpAnyH_ready (rs := [3, 9]) (by kernel_rfl) (by simp) (AllReadyH.cons rfl (fun K hK => ?_) (AllReadyH.cons rfl (fun K hK => ?_) (AllReadyH.nil)))
          · refine step_append_ex rfl _ _ _ rfl (.slice (some ⟨go, 0, none⟩) 0 0) (.slice pb b.buckets.length cb) rfl rfl _ (append_spots_b c1 VA.heap.size KC.out.size _ ([] : List (Int × Int)) HO.out pb cb b.buckets (HUVA.out.below KC.out) (by simp; omega) _) ?_
            rintro v1 c2 ⟨ho, hb, hk⟩
            rw [List.nil_append] at ho
            have HO := Lib.hid ho
            have KC := Lib.hid (KC.out.trans hb)
            clear ho hb hk
            refine hK.out _ _ (HSV.out _ KC.out) (fun hH => ?_)
            clear hK K
            try simp only [Act.put, List.setIfInBounds_toArray, List.set_cons_succ, List.set_cons_zero]
            refine wpAnyH_ready (rs := [9]) (by kernel_rfl) (by simp) (AllReadyH.cons rfl (fun K hK => ?_) (AllReadyH.nil))
            go_simp
            have hbu := below_alloc c2 (.cells #[.int .i64 s0A, .int .i64 s1A] 62)
            have HG := Lib.hid (Row.new c2 #[.int .i64 s0A, .int .i64 s1A] 62)
            have HO := Lib.hid (HO.out.alloc (.cells #[.int .i64 s0A, .int .i64 s1A] 62))
            have KC := Lib.hid (KC.out.trans (hbu.mono KC.out.size))
            obtain ⟨c3, hnw⟩ : ∃ z, c2.alloc (.cells #[.int .i64 s0A, .int .i64 s1A] 62) = z := ⟨_, rfl⟩
            obtain ⟨gp, hgp⟩ : ∃ n, c2.heap.size = n := ⟨_, rfl⟩
            rw [hnw] at HG KC HO ⊢
            rw [hgp] at HG  ⊢
            clear hnw hbu
            refine hK.out _ _ (HSV.out _ KC.out) (fun hH => ?_)
            clear hK K
            try simp only [Act.put, List.setIfInBounds_toArray, List.set_cons_succ, List.set_cons_zero]
            refine wpAnyH_ready (rs := [10]) (by kernel_rfl) (by simp) (AllReadyH.cons rfl (fun K hK => ?_) (AllReadyH.nil))
            refine step_append_ex rfl _ _ _ rfl v1 (.slice (some ⟨gp, 0, none⟩) 1 1) rfl rfl _ (append_spots_b c3 VA.heap.size KC.out.size v1 b.buckets HO.out (some ⟨gp, 0, none⟩) 1 [(s0A, s1A)] (spot_one HG.out) (by simp; omega) _) ?_
            rintro v2 c4 ⟨ho, hb, _⟩
            have KC := Lib.hid (KC.out.trans hb)
            refine hK.out _ _ (HSV.out _ KC.out) (fun hH => ?_)
            clear hK K
            try simp only [Act.put, List.setIfInBounds_toArray, List.set_cons_succ, List.set_cons_zero]
            refine wpAnyH_take (i := 11) (v := undef) rfl (by kernel_rfl) (by kernel_rfl) (by kernel_rfl) (fun _ _ _ h => h) (Or.inl ⟨by rfl, fun _ _ => by rfl⟩) hH ?_
            refine wpAnyH_take (i := 12) (v := undef) rfl (by kernel_rfl) (by kernel_rfl) (by kernel_rfl) (fun _ _ _ h => h) (Or.inl ⟨by rfl, fun _ _ => by rfl⟩) hH ?_
            refine wpAnyH_done (by kernel_rfl) ?_ _
            refine (id (α := wpList _ _ _ _ _ _) ?_)
            simp only [Act.put]
            obtain ⟨p', c', rfl, hsp, hc', _, hpf, _⟩ := spots_of_owns ho
            have RX := Lib.hid (HXVA.out.below KC.out HXVA.out.lt)
            have hcell := RX.out.cell 2 (v := .slice pb b.buckets.length cb) rfl
            have hfree := RX.out.free 2
            have hxlt := HXVA.out.lt
            go_wp2_with fail
            go_meet
            rw [show b.buckets.length + 1 = (b.buckets ++ [(s0A, s1A)]).length by simp]
            exact ⟨p', c', ((FromB.refl gXA VA).below KC.out).set 2 _, RX.out.set 2 _, hsp.fromB (m := gXA) ((FromB.refl gXA c4).set 2 _) (fun q o e => by have := (hpf q o e).1; omega), by have := hc'; simpa using this, fun q o e => (hpf q o e).1⟩
          · go_simp
            have hbu := below_alloc c1 (.cells #[.int .i64 s0A, .int .i64 s1A] 62)
            have HG := Lib.hid (Row.new c1 #[.int .i64 s0A, .int .i64 s1A] 62)
            have hlt : c1.heap.size ≠ go := by obtain ⟨_, _, e, _, _, _, h7, _⟩ := spots_of_owns HO.out; cases e; have := (h7 _ _ rfl).2; omega
            have HO := Lib.hid (HO.out.alloc (.cells #[.int .i64 s0A, .int .i64 s1A] 62))
            have KC := Lib.hid (KC.out.trans (hbu.mono KC.out.size))
            obtain ⟨c2, hnw⟩ : ∃ z, c1.alloc (.cells #[.int .i64 s0A, .int .i64 s1A] 62) = z := ⟨_, rfl⟩
            obtain ⟨gp, hgp⟩ : ∃ n, c1.heap.size = n := ⟨_, rfl⟩
            rw [hnw] at HG KC HO ⊢
            rw [hgp] at HG hlt ⊢
            clear hnw hbu
            refine hK.out _ _ (HSV.out _ KC.out) (fun hH => ?_)
            clear hK K
            try simp only [Act.put, List.setIfInBounds_toArray, List.set_cons_succ, List.set_cons_zero]
            refine wpAnyH_ready (rs := [3]) (by kernel_rfl) (by simp) (AllReadyH.cons rfl (fun K hK => ?_) (AllReadyH.nil))
            refine step_append_ex rfl _ _ _ rfl (.slice (some ⟨go, 0, none⟩) 0 0) (.slice pb b.buckets.length cb) rfl rfl _ (append_spots_b c2 VA.heap.size KC.out.size _ ([] : List (Int × Int)) HO.out pb cb b.buckets (HUVA.out.below KC.out) (by simp; omega) _) ?_
            rintro v1 c3 ⟨ho, hb, hk⟩
            rw [List.nil_append] at ho
            have HO := Lib.hid ho
            have HG := Lib.hid (show Row c3 gp #[.int .i64 s0A, .int .i64 s1A] 62 from (hk gp HG.out.lt (by simp [Value.ownBlock]; omega)).trans HG.out)
            have KC := Lib.hid (KC.out.trans hb)
            clear ho hb hk
            refine hK.out _ _ (HSV.out _ KC.out) (fun hH => ?_)
            clear hK K
            try simp only [Act.put, List.setIfInBounds_toArray, List.set_cons_succ, List.set_cons_zero]
            refine wpAnyH_ready (rs := [10]) (by kernel_rfl) (by simp) (AllReadyH.cons rfl (fun K hK => ?_) (AllReadyH.nil))
            refine step_append_ex rfl _ _ _ rfl v1 (.slice (some ⟨gp, 0, none⟩) 1 1) rfl rfl _ (append_spots_b c3 VA.heap.size KC.out.size v1 b.buckets HO.out (some ⟨gp, 0, none⟩) 1 [(s0A, s1A)] (spot_one HG.out) (by simp; omega) _) ?_
            rintro v2 c4 ⟨ho, hb, _⟩
            have KC := Lib.hid (KC.out.trans hb)
            refine hK.out _ _ (HSV.out _ KC.out) (fun hH => ?_)
            clear hK K
            try simp only [Act.put, List.setIfInBounds_toArray, List.set_cons_succ, List.set_cons_zero]
            refine wpAnyH_take (i := 11) (v := undef) rfl (by kernel_rfl) (by kernel_rfl) (by kernel_rfl) (fun _ _ _ h => h) (Or.inl ⟨by rfl, fun _ _ => by rfl⟩) hH ?_
            refine wpAnyH_take (i := 12) (v := undef) rfl (by kernel_rfl) (by kernel_rfl) (by kernel_rfl) (fun _ _ _ h => h) (Or.inl ⟨by rfl, fun _ _ => by rfl⟩) hH ?_
            refine wpAnyH_done (by kernel_rfl) ?_ _
            refine (id (α := wpList _ _ _ _ _ _) ?_)
            simp only [Act.put]
            obtain ⟨p', c', rfl, hsp, hc', _, hpf, _⟩ := spots_of_owns ho
            have RX := Lib.hid (HXVA.out.below KC.out HXVA.out.lt)
            have hcell := RX.out.cell 2 (v := .slice pb b.buckets.length cb) rfl
            have hfree := RX.out.free 2
            have hxlt := HXVA.out.lt
            go_wp2_with fail
            go_meet
            rw [show b.buckets.length + 1 = (b.buckets ++ [(s0A, s1A)]).length by simp]
            exact ⟨p', c', ((FromB.refl gXA VA).below KC.out).set 2 _, RX.out.set 2 _, hsp.fromB (m := gXA) ((FromB.refl gXA c4).set 2 _) (fun q o e => by have := (hpf q o e).1; omega), by have := hc'; simpa using this, fun q o e => (hpf q o e).1⟩
        · go_simp
          have hbu := below_alloc c0 (.cells #[.int .i64 s0A, .int .i64 s1A] 62)
          have HG := Lib.hid (Row.new c0 #[.int .i64 s0A, .int .i64 s1A] 62)
          have KC := Lib.hid (KC.out.trans (hbu.mono KC.out.size))
          obtain ⟨c1, hnw⟩ : ∃ z, c0.alloc (.cells #[.int .i64 s0A, .int .i64 s1A] 62) = z := ⟨_, rfl⟩
          obtain ⟨gp, hgp⟩ : ∃ n, c0.heap.size = n := ⟨_, rfl⟩
          rw [hnw] at HG KC  ⊢
          rw [hgp] at HG  ⊢
          clear hnw hbu
          refine hK.out _ _ (HSV.out _ KC.out) (fun hH => ?_)
          clear hK K
          try simp only [Act.put, List.setIfInBounds_toArray, List.set_cons_succ, List.set_cons_zero]
          refine wpAnyH_ready (rs := [0]) (by kernel_rfl) (by simp) (AllReadyH.cons rfl (fun K hK => ?_) (AllReadyH.nil))
          go_simp
          have hlt := HG.out.lt
          have hbu := below_alloc c1 (.cells #[] 62)
          have HO := Lib.hid (show OwnSp (c1.alloc (.cells #[] 62)) VA.heap.size (.slice (some ⟨c1.heap.size, 0, none⟩) 0 0) [] from ⟨rfl, .inr ⟨_, 0, #[], rfl, KC.out.size, World.alloc_heap_new _ _, Nat.le_refl _, by unfold maxLen; omega, rfl, rfl⟩⟩)
          have HG := Lib.hid (HG.out.below hbu HG.out.lt)
          have KC := Lib.hid (KC.out.trans (hbu.mono KC.out.size))
          obtain ⟨c2, hnw⟩ : ∃ z, c1.alloc (.cells #[] 62) = z := ⟨_, rfl⟩
          obtain ⟨go, hgo⟩ : ∃ n, c1.heap.size = n := ⟨_, rfl⟩
          rw [hnw] at HO KC HG ⊢
          rw [hgo] at HO hlt ⊢
          clear hnw hbu
          refine hK.out _ _ (HSV.out _ KC.out) (fun hH => ?_)
          clear hK K
          try simp only [Act.put, List.setIfInBounds_toArray, List.set_cons_succ, List.set_cons_zero]
          refine wpAnyH_ready (rs := [3]) (by kernel_rfl) (by simp) (AllReadyH.cons rfl (fun K hK => ?_) (AllReadyH.nil))
          refine step_append_ex rfl _ _ _ rfl (.slice (some ⟨go, 0, none⟩) 0 0) (.slice pb b.buckets.length cb) rfl rfl _ (append_spots_b c2 VA.heap.size KC.out.size _ ([] : List (Int × Int)) HO.out pb cb b.buckets (HUVA.out.below KC.out) (by simp; omega) _) ?_
          rintro v1 c3 ⟨ho, hb, hk⟩
          rw [List.nil_append] at ho
          have HO := Lib.hid ho
          have HG := Lib.hid (show Row c3 gp #[.int .i64 s0A, .int .i64 s1A] 62 from (hk gp HG.out.lt (by simp [Value.ownBlock]; omega)).trans HG.out)
          have KC := Lib.hid (KC.out.trans hb)
          clear ho hb hk
          refine hK.out _ _ (HSV.out _ KC.out) (fun hH => ?_)
          clear hK K
          try simp only [Act.put, List.setIfInBounds_toArray, List.set_cons_succ, List.set_cons_zero]
          refine wpAnyH_ready (rs := [10]) (by kernel_rfl) (by simp) (AllReadyH.cons rfl (fun K hK => ?_) (AllReadyH.nil))
          refine step_append_ex rfl _ _ _ rfl v1 (.slice (some ⟨gp, 0, none⟩) 1 1) rfl rfl _ (append_spots_b c3 VA.heap.size KC.out.size v1 b.buckets HO.out (some ⟨gp, 0, none⟩) 1 [(s0A, s1A)] (spot_one HG.out) (by simp; omega) _) ?_
          rintro v2 c4 ⟨ho, hb, _⟩
          have KC := Lib.hid (KC.out.trans hb)
          refine hK.out _ _ (HSV.out _ KC.out) (fun hH => ?_)
          clear hK K
          try simp only [Act.put, List.setIfInBounds_toArray, List.set_cons_succ, List.set_cons_zero]
          refine wpAnyH_take (i := 11) (v := undef) rfl (by kernel_rfl) (by kernel_rfl) (by kernel_rfl) (fun _ _ _ h => h) (Or.inl ⟨by rfl, fun _ _ => by rfl⟩) hH ?_
          refine wpAnyH_take (i := 12) (v := undef) rfl (by kernel_rfl) (by kernel_rfl) (by kernel_rfl) (fun _ _ _ h => h) (Or.inl ⟨by rfl, fun _ _ => by rfl⟩) hH ?_
          refine wpAnyH_done (by kernel_rfl) ?_ _
          refine (id (α := wpList _ _ _ _ _ _) ?_)
          simp only [Act.put]
          obtain ⟨p', c', rfl, hsp, hc', _, hpf, _⟩ := spots_of_owns ho
          have RX := Lib.hid (HXVA.out.below KC.out HXVA.out.lt)
          have hcell := RX.out.cell 2 (v := .slice pb b.buckets.length cb) rfl
          have hfree := RX.out.free 2
          have hxlt := HXVA.out.lt
          go_wp2_with fail
          go_meet
          rw [show b.buckets.length + 1 = (b.buckets ++ [(s0A, s1A)]).length by simp]
          exact ⟨p', c', ((FromB.refl gXA VA).below KC.out).set 2 _, RX.out.set 2 _, hsp.fromB (m := gXA) ((FromB.refl gXA c4).set 2 _) (fun q o e => by have := (hpf q o e).1; omega), by have := hc'; simpa using this, fun q o e => (hpf q o e).1⟩
      case rest =>
        obtain ⟨pA, cA, hF, hrX, hsX, hcX, _⟩ := hcut
        have hbw := hF.base HKVA.out hgWA HKVA.out.size
        have HYX := Lib.hid (more_at (HB.out.below hbw) (by omega) hsX hcX)
        have HXR := Lib.hid hrX
        have HRS := Lib.hid (hF.row HRS.out (by omega))
        obtain ⟨zaA, hza⟩ := later_of hbw
        subst hza
        clear hF hrX hsX hcX hbw HXVA HKVA HBVA HUVA q0A q1A
        have d0 := HXR.out.cell 0 (v := .slice pl (withB b (s0A, s1A)).lots.length cl) rfl
        have d1 := HXR.out.cell 1 (v := .slice pd (withB b (s0A, s1A)).doors.length cd) rfl
        have d2 := HXR.out.cell 2 (v := .slice pA (withB b (s0A, s1A)).buckets.length cA) rfl
        have d3 := HXR.out.cell 3 (v := .slice ps (withB b (s0A, s1A)).spare.length cs) rfl
        have d4 := HXR.out.cell 4 (v := .int .i64 (withB b (s0A, s1A)).apart) rfl
        have d5 := HXR.out.cell 5 (v := .int .i64 (withB b (s0A, s1A)).door) rfl
        have d6 := HXR.out.cell 6 (v := .int .i64 (withB b (s0A, s1A)).bucket) rfl
        have d7 := HXR.out.cell 7 (v := .int .i64 (withB b (s0A, s1A)).err) rfl
        go_upto_region 13 with (first
          | (go_at_call 26; (with_reducible refine (HGZA.out _ _ HYX.out).mono ?_); rintro e u ⟨rfl, hbu⟩; have HRS := Lib.hid (HRS.out.below hbu HRS.out.lt); obtain ⟨zbA, hzb⟩ := zaA.on hbu; subst hzb; clear hbu; have rS := Row.new zbA.w #[.int .i64 tl, .int .i64 th] 40; have hbu := below_alloc zbA.w (.cells #[.int .i64 tl, .int .i64 th] 40); have HRS := Lib.hid (HRS.out.below hbu HRS.out.lt); obtain ⟨zcA, hzcA⟩ := zbA.on hbu; rw [hzcA] at rS HRS; have HRTA := Lib.hid rS; clear rS hbu)
          | (refine store_new rfl 40 _ _ rfl #[.int .i64 tl, .int .i64 th] #[.int .i64 0, .int .i64 0] 40 rfl rfl (by kernel_rfl) rfl (by simp [Value.oneCell']) ?_))
        obtain ⟨gTA, hgTA⟩ : ∃ n, zbA.w.heap.size = n := ⟨_, rfl⟩
        rw [hgTA] at HRTA ⊢
        clear hgTA hzcA d0 d1 d2 d3 d4 d5 d6 d7
        have hle := htop r hrN
        rw [httA] at hle
        have w0 := HRS.out.cell 0 (v := .int .i64 lo) rfl
        have w1 := HRTA.out.cell 0 (v := .int .i64 tl) rfl
        go_wp2_with (first | (go_at_call 22; (with_reducible refine (stacked_any _).mono ?_); rintro e u ⟨rfl, hbu⟩; obtain ⟨ze, hze⟩ := zcA.on hbu; subst hze; clear hbu))
        go_ret
        exact ⟨rfl, ze.base HE.out⟩
  · rw [hp] at HPL
    clear hp
    have hs0 : b.spare.length ≠ 0 := by omega
    have hz : ((b.spare.length : Int) == 0) = false := by rw [beq_eq_false_iff_ne]; omega
    have hki : (k : Int) < (b.spare.length : Int) := by omega
    have hk0 : (0 : Int) ≤ (k : Int) := by omega
    obtain ⟨r, hr, hrL⟩ := spin_nat (n := n) (m := (b.spare.length : Int)) (by omega)
    have hrN : r < b.spare.length := by omega
    have HSR := Lib.hid (fun w' => (by have q := Spin_any n (b.spare.length : Int) w' (by unfold I64; omega); rw [hr] at q; exact q))
    have hr0 : (0 : Int) ≤ (r : Int) := by omega
    clear hr
    have HFI := Lib.hid (fun w' => Fits_yes (k : Int) 0 ((b.spare.length : Int) - 1) w' (by omega) (by omega))
    have ew : IntKind.i64.wrap ((b.spare.length : Int) - 1) = (b.spare.length : Int) - 1 := IntWalk.i64_in _ (by omega)
    go_enter Try.func12, Try.ntmps12
    go_upto_region 1 with (fail)
    rw [← HW0.out]
    go_upto_region 5 with (first
      | (go_at_call 37; (with_reducible refine HSO.out.mono ?_); rintro e u ⟨rfl, hbu⟩; obtain ⟨x0, hx0⟩ := later_of hbu; subst hx0; clear hbu)
      | (go_at_call 28; (with_reducible refine (HPL.out _ (Later.b _)).mono ?_); rintro e u ⟨rfl, hbu⟩; obtain ⟨x1, hx1⟩ := x0.on hbu; subst hx1; clear hbu)
      | (go_at_call 26; (with_reducible refine (HGO.out _ (Later.b _)).mono ?_); rintro e u ⟨rfl, hbu⟩; obtain ⟨x2, hx2⟩ := x1.on hbu; subst hx2; clear hbu; have rS := Row.new x2.w #[.int .i64 lo, .int .i64 hi] 40; obtain ⟨x3, hx3⟩ := x2.on (below_alloc x2.w (.cells #[.int .i64 lo, .int .i64 hi] 40)); rw [hx3] at rS; have HRS := Lib.hid rS; clear rS)
      | (refine store_new rfl 40 _ _ rfl #[.int .i64 lo, .int .i64 hi] #[.int .i64 0, .int .i64 0] 40 rfl rfl (by kernel_rfl) rfl (by simp [Value.oneCell']) ?_))
    obtain ⟨gS, hgS⟩ : ∃ n, x2.w.heap.size = n := ⟨_, rfl⟩
    rw [hgS] at HRS ⊢
    clear hgS hx3
    obtain ⟨gXA, hgA⟩ : ∃ n, x3.w.heap.size = n := ⟨_, rfl⟩
    have rX := Row.new x3.w (ybA b ⟨pl, cl, pd, cd, pb, cb, ps, cs⟩) 25
    have hba := below_alloc x3.w (.cells (ybA b ⟨pl, cl, pd, cd, pb, cb, ps, cs⟩) 25)
    have ltHRSA := HRS.out.lt
    have HRS := Lib.hid (HRS.out.below hba HRS.out.lt)
    obtain ⟨VA, hVA⟩ : ∃ z, x3.w.alloc (.cells (ybA b ⟨pl, cl, pd, cd, pb, cb, ps, cs⟩) 25) = z := ⟨_, rfl⟩
    have HKVA := Lib.hid (show Below W0.heap.size W0 VA by rw [← hVA]; exact x3.b.trans (hba.mono x3.b.size))
    have hgWA : W0.heap.size ≤ gXA := by rw [← hgA]; exact x3.b.size
    rw [hVA] at rX HRS
    rw [hgA] at rX ltHRSA
    have HXVA := Lib.hid rX
    clear rX hba
    go_upto_region 11 with (first | (go_at_call 43; (with_reducible refine (HFI.out _).mono ?_); rintro e u ⟨rfl, rfl⟩) | (go_at_call 44; (with_reducible refine (HSR.out _).mono ?_); rintro e u ⟨rfl, rfl⟩))
    try rw [hVA]
    clear hVA hgA
    have HBVA := Lib.hid (HRx.out.below HKVA.out HRx.out.lt)
    have HUVA := Lib.hid (HB.out.u.below HKVA.out)
    have HCSA := Lib.hid ((HB.out.s.below HKVA.out) r hrN)
    have HGZA := Lib.hid (HGY.out hlt3 r hrN)
    have httA := hge r hrN
    obtain ⟨spA, hspA⟩ : ∃ t, b.spare[r] = t := ⟨_, rfl⟩
    have HSPEA := Lib.hid hspA
    rw [hspA] at HCSA HGZA httA
    obtain ⟨s0A, s1A⟩ := spA
    obtain ⟨bsA, osA, hpsA, q0A, q1A⟩ := HCSA.out
    dsimp only at q0A q1A hpsA
    have HPSA := Lib.hid hpsA
    clear hpsA
    obtain ⟨tl, htlA⟩ : ∃ v, topK (withB b (s0A, s1A)) false = v := ⟨_, rfl⟩
    obtain ⟨th, hthA⟩ : ∃ v, topK (withB b (s0A, s1A)) true = v := ⟨_, rfl⟩
    rw [htlA] at HGZA httA
    rw [hthA] at HGZA
    clear hspA htlA hthA HCSA
    go_cut [] from 78 to 89 (fun wx => ∃ p' c', FromB gXA VA wx ∧ Row wx gXA (ybA (withB b (s0A, s1A)) ⟨pl, cl, pd, cd, p', c', ps, cs⟩) 25 ∧ SpotsAt wx p' (b.buckets ++ [(s0A, s1A)]) ∧ b.buckets.length + 1 ≤ c' ∧ ∀ q o, p' = some ⟨q, o, none⟩ → VA.heap.size ≤ q)
    case first =>
      have HSV := Lib.hid (fun w' (h : Below VA.heap.size VA w') => (⟨(HBVA.out.below h HBVA.out.lt).cell 2 rfl, (HBVA.out.below h HBVA.out.lt).cell 3 rfl, ((bcell h).1 _ _ (cell_block q0A)).trans q0A, ((bcell h).1 _ _ (cell_block q1A)).trans q1A⟩ : (fun w' => w'.cell? ⟨w.heap.size, 2, none⟩ = some (.slice pb b.buckets.length cb) ∧ w'.cell? ⟨w.heap.size, 3, none⟩ = some (.slice ps b.spare.length cs) ∧ w'.cell? ⟨bsA, osA + r * 2, none⟩ = some (.int .i64 s0A) ∧ w'.cell? ⟨bsA, osA + r * 2 + 1, none⟩ = some (.int .i64 s1A)) w'))
      refine wp_region_late (S := fun w' => w'.cell? ⟨w.heap.size, 2, none⟩ = some (.slice pb b.buckets.length cb) ∧ w'.cell? ⟨w.heap.size, 3, none⟩ = some (.slice ps b.spare.length cs) ∧ w'.cell? ⟨bsA, osA + r * 2, none⟩ = some (.int .i64 s0A) ∧ w'.cell? ⟨bsA, osA + r * 2 + 1, none⟩ = some (.int .i64 s1A)) 11 (by kernel_rfl) (by kernel_rfl) (by kernel_rfl) (by kernel_rfl) (by rfl) (HSV.out _ (Below.refl _ _).drew) (fun hH => ?_)
      have KC := Lib.hid (show Below VA.heap.size VA VA.drew from (Below.refl _ _).drew)
      obtain ⟨c0, hc0⟩ : ∃ z, VA.drew = z := ⟨_, rfl⟩
      rw [hc0] at hH KC ⊢
      clear hc0
      simp only [List.take_succ_cons, List.take_zero, List.drop_succ_cons, List.drop_zero, idled, List.map_cons, List.map_nil, idleOp, List.cons_append, List.nil_append, List.size_toArray, List.length_cons, List.length_nil, Nat.reduceAdd]
      refine wpAnyH_take_to 1 79 (.pointer (some ⟨w.heap.size, 2, none⟩)) rfl rfl (by kernel_rfl) (by kernel_rfl) (by kernel_rfl) (fun _ _ _ h => h) (Or.inl ⟨by rfl, fun w' hSw => by (obtain ⟨w0, w1, w2, w3⟩ := hSw; go_simp)⟩) hH ?_
      refine wpAnyH_take_to 2 80 (.slice pb b.buckets.length cb) rfl rfl (by kernel_rfl) (by kernel_rfl) (by kernel_rfl) (fun _ _ _ h => h) (Or.inl ⟨by rfl, fun w' hSw => by (obtain ⟨w0, w1, w2, w3⟩ := hSw; go_simp)⟩) hH ?_
      refine wpAnyH_take_to 4 82 (.pointer (some ⟨w.heap.size, 3, none⟩)) rfl rfl (by kernel_rfl) (by kernel_rfl) (by kernel_rfl) (fun _ _ _ h => h) (Or.inl ⟨by rfl, fun w' hSw => by (obtain ⟨w0, w1, w2, w3⟩ := hSw; go_simp)⟩) hH ?_
      refine wpAnyH_take_to 5 83 (.slice ps b.spare.length cs) rfl rfl (by kernel_rfl) (by kernel_rfl) (by kernel_rfl) (fun _ _ _ h => h) (Or.inl ⟨by rfl, fun w' hSw => by (obtain ⟨w0, w1, w2, w3⟩ := hSw; go_simp)⟩) hH ?_
      refine wpAnyH_take_to 6 84 (.int .i64 (r : Int)) rfl rfl (by kernel_rfl) (by kernel_rfl) (by kernel_rfl) (fun _ _ _ h => h) (Or.inl ⟨by rfl, fun w' hSw => by (obtain ⟨w0, w1, w2, w3⟩ := hSw; go_simp)⟩) hH ?_
      refine wpAnyH_take_to 7 85 (.pointer (some ⟨bsA, osA + r * 2, none⟩)) rfl rfl (by kernel_rfl) (by kernel_rfl) (by kernel_rfl) (fun _ _ _ h => h) (Or.inl ⟨by rfl, fun w' hSw => by (obtain ⟨w0, w1, w2, w3⟩ := hSw; have ee := HPSA.out; go_simp)⟩) hH ?_
      refine wpAnyH_take_to 8 86 (.agg #[.int .i64 s0A, .int .i64 s1A]) rfl rfl (by kernel_rfl) (by kernel_rfl) (by kernel_rfl) (fun _ _ _ h => h) (Or.inl ⟨by rfl, fun w' hSw => by (obtain ⟨w0, w1, w2, w3⟩ := hSw; go_simp)⟩) hH ?_
      try simp only [Act.put, List.setIfInBounds_toArray, List.set_cons_succ, List.set_cons_zero]
      refine wpAnyH_ready (rs := [0, 9]) (by kernel_rfl) (by simp) (AllReadyH.cons rfl (fun K hK => ?_) (AllReadyH.cons rfl (fun K hK => ?_) (AllReadyH.nil)))
      · go_simp
        have hbu := below_alloc c0 (.cells #[] 62)
        have HO := Lib.hid (show OwnSp (c0.alloc (.cells #[] 62)) VA.heap.size (.slice (some ⟨c0.heap.size, 0, none⟩) 0 0) [] from ⟨rfl, .inr ⟨_, 0, #[], rfl, KC.out.size, World.alloc_heap_new _ _, Nat.le_refl _, by unfold maxLen; omega, rfl, rfl⟩⟩)
        have KC := Lib.hid (KC.out.trans (hbu.mono KC.out.size))
        obtain ⟨c1, hnw⟩ : ∃ z, c0.alloc (.cells #[] 62) = z := ⟨_, rfl⟩
        obtain ⟨go, hgo⟩ : ∃ n, c0.heap.size = n := ⟨_, rfl⟩
        rw [hnw] at HO KC  ⊢
        rw [hgo] at HO  ⊢
        clear hnw hbu
        refine hK.out _ _ (HSV.out _ KC.out) (fun hH => ?_)
        clear hK K
        try simp only [Act.put, List.setIfInBounds_toArray, List.set_cons_succ, List.set_cons_zero]
        refine wpAnyH_ready (rs := [3, 9]) (by kernel_rfl) (by simp) (AllReadyH.cons rfl (fun K hK => ?_) (AllReadyH.cons rfl (fun K hK => ?_) (AllReadyH.nil)))
        · refine step_append_ex rfl _ _ _ rfl (.slice (some ⟨go, 0, none⟩) 0 0) (.slice pb b.buckets.length cb) rfl rfl _ (append_spots_b c1 VA.heap.size KC.out.size _ ([] : List (Int × Int)) HO.out pb cb b.buckets (HUVA.out.below KC.out) (by simp; omega) _) ?_
          rintro v1 c2 ⟨ho, hb, hk⟩
          rw [List.nil_append] at ho
          have HO := Lib.hid ho
          have KC := Lib.hid (KC.out.trans hb)
          clear ho hb hk
          refine hK.out _ _ (HSV.out _ KC.out) (fun hH => ?_)
          clear hK K
          try simp only [Act.put, List.setIfInBounds_toArray, List.set_cons_succ, List.set_cons_zero]
          refine wpAnyH_ready (rs := [9]) (by kernel_rfl) (by simp) (AllReadyH.cons rfl (fun K hK => ?_) (AllReadyH.nil))
          go_simp
          have hbu := below_alloc c2 (.cells #[.int .i64 s0A, .int .i64 s1A] 62)
          have HG := Lib.hid (Row.new c2 #[.int .i64 s0A, .int .i64 s1A] 62)
          have HO := Lib.hid (HO.out.alloc (.cells #[.int .i64 s0A, .int .i64 s1A] 62))
          have KC := Lib.hid (KC.out.trans (hbu.mono KC.out.size))
          obtain ⟨c3, hnw⟩ : ∃ z, c2.alloc (.cells #[.int .i64 s0A, .int .i64 s1A] 62) = z := ⟨_, rfl⟩
          obtain ⟨gp, hgp⟩ : ∃ n, c2.heap.size = n := ⟨_, rfl⟩
          rw [hnw] at HG KC HO ⊢
          rw [hgp] at HG  ⊢
          clear hnw hbu
          refine hK.out _ _ (HSV.out _ KC.out) (fun hH => ?_)
          clear hK K
          try simp only [Act.put, List.setIfInBounds_toArray, List.set_cons_succ, List.set_cons_zero]
          refine wpAnyH_ready (rs := [10]) (by kernel_rfl) (by simp) (AllReadyH.cons rfl (fun K hK => ?_) (AllReadyH.nil))
          refine step_append_ex rfl _ _ _ rfl v1 (.slice (some ⟨gp, 0, none⟩) 1 1) rfl rfl _ (append_spots_b c3 VA.heap.size KC.out.size v1 b.buckets HO.out (some ⟨gp, 0, none⟩) 1 [(s0A, s1A)] (spot_one HG.out) (by simp; omega) _) ?_
          rintro v2 c4 ⟨ho, hb, _⟩
          have KC := Lib.hid (KC.out.trans hb)
          refine hK.out _ _ (HSV.out _ KC.out) (fun hH => ?_)
          clear hK K
          try simp only [Act.put, List.setIfInBounds_toArray, List.set_cons_succ, List.set_cons_zero]
          refine wpAnyH_take (i := 11) (v := undef) rfl (by kernel_rfl) (by kernel_rfl) (by kernel_rfl) (fun _ _ _ h => h) (Or.inl ⟨by rfl, fun _ _ => by rfl⟩) hH ?_
          refine wpAnyH_take (i := 12) (v := undef) rfl (by kernel_rfl) (by kernel_rfl) (by kernel_rfl) (fun _ _ _ h => h) (Or.inl ⟨by rfl, fun _ _ => by rfl⟩) hH ?_
          refine wpAnyH_done (by kernel_rfl) ?_ _
          refine (id (α := wpList _ _ _ _ _ _) ?_)
          simp only [Act.put]
          obtain ⟨p', c', rfl, hsp, hc', _, hpf, _⟩ := spots_of_owns ho
          have RX := Lib.hid (HXVA.out.below KC.out HXVA.out.lt)
          have hcell := RX.out.cell 2 (v := .slice pb b.buckets.length cb) rfl
          have hfree := RX.out.free 2
          have hxlt := HXVA.out.lt
          go_wp2_with fail
          go_meet
          rw [show b.buckets.length + 1 = (b.buckets ++ [(s0A, s1A)]).length by simp]
          exact ⟨p', c', ((FromB.refl gXA VA).below KC.out).set 2 _, RX.out.set 2 _, hsp.fromB (m := gXA) ((FromB.refl gXA c4).set 2 _) (fun q o e => by have := (hpf q o e).1; omega), by have := hc'; simpa using this, fun q o e => (hpf q o e).1⟩
        · go_simp
          have hbu := below_alloc c1 (.cells #[.int .i64 s0A, .int .i64 s1A] 62)
          have HG := Lib.hid (Row.new c1 #[.int .i64 s0A, .int .i64 s1A] 62)
          have hlt : c1.heap.size ≠ go := by obtain ⟨_, _, e, _, _, _, h7, _⟩ := spots_of_owns HO.out; cases e; have := (h7 _ _ rfl).2; omega
          have HO := Lib.hid (HO.out.alloc (.cells #[.int .i64 s0A, .int .i64 s1A] 62))
          have KC := Lib.hid (KC.out.trans (hbu.mono KC.out.size))
          obtain ⟨c2, hnw⟩ : ∃ z, c1.alloc (.cells #[.int .i64 s0A, .int .i64 s1A] 62) = z := ⟨_, rfl⟩
          obtain ⟨gp, hgp⟩ : ∃ n, c1.heap.size = n := ⟨_, rfl⟩
          rw [hnw] at HG KC HO ⊢
          rw [hgp] at HG hlt ⊢
          clear hnw hbu
          refine hK.out _ _ (HSV.out _ KC.out) (fun hH => ?_)
          clear hK K
          try simp only [Act.put, List.setIfInBounds_toArray, List.set_cons_succ, List.set_cons_zero]
          refine wpAnyH_ready (rs := [3]) (by kernel_rfl) (by simp) (AllReadyH.cons rfl (fun K hK => ?_) (AllReadyH.nil))
          refine step_append_ex rfl _ _ _ rfl (.slice (some ⟨go, 0, none⟩) 0 0) (.slice pb b.buckets.length cb) rfl rfl _ (append_spots_b c2 VA.heap.size KC.out.size _ ([] : List (Int × Int)) HO.out pb cb b.buckets (HUVA.out.below KC.out) (by simp; omega) _) ?_
          rintro v1 c3 ⟨ho, hb, hk⟩
          rw [List.nil_append] at ho
          have HO := Lib.hid ho
          have HG := Lib.hid (show Row c3 gp #[.int .i64 s0A, .int .i64 s1A] 62 from (hk gp HG.out.lt (by simp [Value.ownBlock]; omega)).trans HG.out)
          have KC := Lib.hid (KC.out.trans hb)
          clear ho hb hk
          refine hK.out _ _ (HSV.out _ KC.out) (fun hH => ?_)
          clear hK K
          try simp only [Act.put, List.setIfInBounds_toArray, List.set_cons_succ, List.set_cons_zero]
          refine wpAnyH_ready (rs := [10]) (by kernel_rfl) (by simp) (AllReadyH.cons rfl (fun K hK => ?_) (AllReadyH.nil))
          refine step_append_ex rfl _ _ _ rfl v1 (.slice (some ⟨gp, 0, none⟩) 1 1) rfl rfl _ (append_spots_b c3 VA.heap.size KC.out.size v1 b.buckets HO.out (some ⟨gp, 0, none⟩) 1 [(s0A, s1A)] (spot_one HG.out) (by simp; omega) _) ?_
          rintro v2 c4 ⟨ho, hb, _⟩
          have KC := Lib.hid (KC.out.trans hb)
          refine hK.out _ _ (HSV.out _ KC.out) (fun hH => ?_)
          clear hK K
          try simp only [Act.put, List.setIfInBounds_toArray, List.set_cons_succ, List.set_cons_zero]
          refine wpAnyH_take (i := 11) (v := undef) rfl (by kernel_rfl) (by kernel_rfl) (by kernel_rfl) (fun _ _ _ h => h) (Or.inl ⟨by rfl, fun _ _ => by rfl⟩) hH ?_
          refine wpAnyH_take (i := 12) (v := undef) rfl (by kernel_rfl) (by kernel_rfl) (by kernel_rfl) (fun _ _ _ h => h) (Or.inl ⟨by rfl, fun _ _ => by rfl⟩) hH ?_
          refine wpAnyH_done (by kernel_rfl) ?_ _
          refine (id (α := wpList _ _ _ _ _ _) ?_)
          simp only [Act.put]
          obtain ⟨p', c', rfl, hsp, hc', _, hpf, _⟩ := spots_of_owns ho
          have RX := Lib.hid (HXVA.out.below KC.out HXVA.out.lt)
          have hcell := RX.out.cell 2 (v := .slice pb b.buckets.length cb) rfl
          have hfree := RX.out.free 2
          have hxlt := HXVA.out.lt
          go_wp2_with fail
          go_meet
          rw [show b.buckets.length + 1 = (b.buckets ++ [(s0A, s1A)]).length by simp]
          exact ⟨p', c', ((FromB.refl gXA VA).below KC.out).set 2 _, RX.out.set 2 _, hsp.fromB (m := gXA) ((FromB.refl gXA c4).set 2 _) (fun q o e => by have := (hpf q o e).1; omega), by have := hc'; simpa using this, fun q o e => (hpf q o e).1⟩
      · go_simp
        have hbu := below_alloc c0 (.cells #[.int .i64 s0A, .int .i64 s1A] 62)
        have HG := Lib.hid (Row.new c0 #[.int .i64 s0A, .int .i64 s1A] 62)
        have KC := Lib.hid (KC.out.trans (hbu.mono KC.out.size))
        obtain ⟨c1, hnw⟩ : ∃ z, c0.alloc (.cells #[.int .i64 s0A, .int .i64 s1A] 62) = z := ⟨_, rfl⟩
        obtain ⟨gp, hgp⟩ : ∃ n, c0.heap.size = n := ⟨_, rfl⟩
        rw [hnw] at HG KC  ⊢
        rw [hgp] at HG  ⊢
        clear hnw hbu
        refine hK.out _ _ (HSV.out _ KC.out) (fun hH => ?_)
        clear hK K
        try simp only [Act.put, List.setIfInBounds_toArray, List.set_cons_succ, List.set_cons_zero]
        refine wpAnyH_ready (rs := [0]) (by kernel_rfl) (by simp) (AllReadyH.cons rfl (fun K hK => ?_) (AllReadyH.nil))
        go_simp
        have hlt := HG.out.lt
        have hbu := below_alloc c1 (.cells #[] 62)
        have HO := Lib.hid (show OwnSp (c1.alloc (.cells #[] 62)) VA.heap.size (.slice (some ⟨c1.heap.size, 0, none⟩) 0 0) [] from ⟨rfl, .inr ⟨_, 0, #[], rfl, KC.out.size, World.alloc_heap_new _ _, Nat.le_refl _, by unfold maxLen; omega, rfl, rfl⟩⟩)
        have HG := Lib.hid (HG.out.below hbu HG.out.lt)
        have KC := Lib.hid (KC.out.trans (hbu.mono KC.out.size))
        obtain ⟨c2, hnw⟩ : ∃ z, c1.alloc (.cells #[] 62) = z := ⟨_, rfl⟩
        obtain ⟨go, hgo⟩ : ∃ n, c1.heap.size = n := ⟨_, rfl⟩
        rw [hnw] at HO KC HG ⊢
        rw [hgo] at HO hlt ⊢
        clear hnw hbu
        refine hK.out _ _ (HSV.out _ KC.out) (fun hH => ?_)
        clear hK K
        try simp only [Act.put, List.setIfInBounds_toArray, List.set_cons_succ, List.set_cons_zero]
        refine wpAnyH_ready (rs := [3]) (by kernel_rfl) (by simp) (AllReadyH.cons rfl (fun K hK => ?_) (AllReadyH.nil))
        refine step_append_ex rfl _ _ _ rfl (.slice (some ⟨go, 0, none⟩) 0 0) (.slice pb b.buckets.length cb) rfl rfl _ (append_spots_b c2 VA.heap.size KC.out.size _ ([] : List (Int × Int)) HO.out pb cb b.buckets (HUVA.out.below KC.out) (by simp; omega) _) ?_
        rintro v1 c3 ⟨ho, hb, hk⟩
        rw [List.nil_append] at ho
        have HO := Lib.hid ho
        have HG := Lib.hid (show Row c3 gp #[.int .i64 s0A, .int .i64 s1A] 62 from (hk gp HG.out.lt (by simp [Value.ownBlock]; omega)).trans HG.out)
        have KC := Lib.hid (KC.out.trans hb)
        clear ho hb hk
        refine hK.out _ _ (HSV.out _ KC.out) (fun hH => ?_)
        clear hK K
        try simp only [Act.put, List.setIfInBounds_toArray, List.set_cons_succ, List.set_cons_zero]
        refine wpAnyH_ready (rs := [10]) (by kernel_rfl) (by simp) (AllReadyH.cons rfl (fun K hK => ?_) (AllReadyH.nil))
        refine step_append_ex rfl _ _ _ rfl v1 (.slice (some ⟨gp, 0, none⟩) 1 1) rfl rfl _ (append_spots_b c3 VA.heap.size KC.out.size v1 b.buckets HO.out (some ⟨gp, 0, none⟩) 1 [(s0A, s1A)] (spot_one HG.out) (by simp; omega) _) ?_
        rintro v2 c4 ⟨ho, hb, _⟩
        have KC := Lib.hid (KC.out.trans hb)
        refine hK.out _ _ (HSV.out _ KC.out) (fun hH => ?_)
        clear hK K
        try simp only [Act.put, List.setIfInBounds_toArray, List.set_cons_succ, List.set_cons_zero]
        refine wpAnyH_take (i := 11) (v := undef) rfl (by kernel_rfl) (by kernel_rfl) (by kernel_rfl) (fun _ _ _ h => h) (Or.inl ⟨by rfl, fun _ _ => by rfl⟩) hH ?_
        refine wpAnyH_take (i := 12) (v := undef) rfl (by kernel_rfl) (by kernel_rfl) (by kernel_rfl) (fun _ _ _ h => h) (Or.inl ⟨by rfl, fun _ _ => by rfl⟩) hH ?_
        refine wpAnyH_done (by kernel_rfl) ?_ _
        refine (id (α := wpList _ _ _ _ _ _) ?_)
        simp only [Act.put]
        obtain ⟨p', c', rfl, hsp, hc', _, hpf, _⟩ := spots_of_owns ho
        have RX := Lib.hid (HXVA.out.below KC.out HXVA.out.lt)
        have hcell := RX.out.cell 2 (v := .slice pb b.buckets.length cb) rfl
        have hfree := RX.out.free 2
        have hxlt := HXVA.out.lt
        go_wp2_with fail
        go_meet
        rw [show b.buckets.length + 1 = (b.buckets ++ [(s0A, s1A)]).length by simp]
        exact ⟨p', c', ((FromB.refl gXA VA).below KC.out).set 2 _, RX.out.set 2 _, hsp.fromB (m := gXA) ((FromB.refl gXA c4).set 2 _) (fun q o e => by have := (hpf q o e).1; omega), by have := hc'; simpa using this, fun q o e => (hpf q o e).1⟩
    case rest =>
      obtain ⟨pA, cA, hF, hrX, hsX, hcX, _⟩ := hcut
      have hbw := hF.base HKVA.out hgWA HKVA.out.size
      have HYX := Lib.hid (more_at (HB.out.below hbw) (by omega) hsX hcX)
      have HXR := Lib.hid hrX
      have HRS := Lib.hid (hF.row HRS.out (by omega))
      obtain ⟨zaA, hza⟩ := later_of hbw
      subst hza
      clear hF hrX hsX hcX hbw HXVA HKVA HBVA HUVA q0A q1A
      have d0 := HXR.out.cell 0 (v := .slice pl (withB b (s0A, s1A)).lots.length cl) rfl
      have d1 := HXR.out.cell 1 (v := .slice pd (withB b (s0A, s1A)).doors.length cd) rfl
      have d2 := HXR.out.cell 2 (v := .slice pA (withB b (s0A, s1A)).buckets.length cA) rfl
      have d3 := HXR.out.cell 3 (v := .slice ps (withB b (s0A, s1A)).spare.length cs) rfl
      have d4 := HXR.out.cell 4 (v := .int .i64 (withB b (s0A, s1A)).apart) rfl
      have d5 := HXR.out.cell 5 (v := .int .i64 (withB b (s0A, s1A)).door) rfl
      have d6 := HXR.out.cell 6 (v := .int .i64 (withB b (s0A, s1A)).bucket) rfl
      have d7 := HXR.out.cell 7 (v := .int .i64 (withB b (s0A, s1A)).err) rfl
      go_upto_region 13 with (first
        | (go_at_call 26; (with_reducible refine (HGZA.out _ _ HYX.out).mono ?_); rintro e u ⟨rfl, hbu⟩; have HRS := Lib.hid (HRS.out.below hbu HRS.out.lt); obtain ⟨zbA, hzb⟩ := zaA.on hbu; subst hzb; clear hbu; have rS := Row.new zbA.w #[.int .i64 tl, .int .i64 th] 40; have hbu := below_alloc zbA.w (.cells #[.int .i64 tl, .int .i64 th] 40); have HRS := Lib.hid (HRS.out.below hbu HRS.out.lt); obtain ⟨zcA, hzcA⟩ := zbA.on hbu; rw [hzcA] at rS HRS; have HRTA := Lib.hid rS; clear rS hbu)
        | (refine store_new rfl 40 _ _ rfl #[.int .i64 tl, .int .i64 th] #[.int .i64 0, .int .i64 0] 40 rfl rfl (by kernel_rfl) rfl (by simp [Value.oneCell']) ?_))
      obtain ⟨gTA, hgTA⟩ : ∃ n, zbA.w.heap.size = n := ⟨_, rfl⟩
      rw [hgTA] at HRTA ⊢
      clear hgTA hzcA d0 d1 d2 d3 d4 d5 d6 d7
      obtain ⟨gXB, hgB⟩ : ∃ n, zcA.w.heap.size = n := ⟨_, rfl⟩
      have rX := Row.new zcA.w (ybA b ⟨pl, cl, pd, cd, pb, cb, ps, cs⟩) 25
      have hba := below_alloc zcA.w (.cells (ybA b ⟨pl, cl, pd, cd, pb, cb, ps, cs⟩) 25)
      have ltHRSB := HRS.out.lt
      have HRS := Lib.hid (HRS.out.below hba HRS.out.lt)
      have ltHRTAB := HRTA.out.lt
      have HRTA := Lib.hid (HRTA.out.below hba HRTA.out.lt)
      obtain ⟨VB, hVB⟩ : ∃ z, zcA.w.alloc (.cells (ybA b ⟨pl, cl, pd, cd, pb, cb, ps, cs⟩) 25) = z := ⟨_, rfl⟩
      have HKVB := Lib.hid (show Below W0.heap.size W0 VB by rw [← hVB]; exact zcA.b.trans (hba.mono zcA.b.size))
      have hgWB : W0.heap.size ≤ gXB := by rw [← hgB]; exact zcA.b.size
      rw [hVB] at rX HRS HRTA
      rw [hgB] at rX ltHRSB ltHRTAB
      have HXVB := Lib.hid rX
      clear rX hba
      go_upto_region 18 with (fail)
      try rw [hVB]
      clear hVB hgB
      have HBVB := Lib.hid (HRx.out.below HKVB.out HRx.out.lt)
      have HUVB := Lib.hid (HB.out.u.below HKVB.out)
      have HCSB := Lib.hid ((HB.out.s.below HKVB.out) k hk)
      have HGZB := Lib.hid (HGY.out hlt3 k hk)
      have httB := hge k hk
      obtain ⟨spB, hspB⟩ : ∃ t, b.spare[k] = t := ⟨_, rfl⟩
      have HSPEB := Lib.hid hspB
      rw [hspB] at HCSB HGZB httB
      obtain ⟨s0B, s1B⟩ := spB
      obtain ⟨bsB, osB, hpsB, q0B, q1B⟩ := HCSB.out
      dsimp only at q0B q1B hpsB
      have HPSB := Lib.hid hpsB
      clear hpsB
      obtain ⟨ul, htlB⟩ : ∃ v, topK (withB b (s0B, s1B)) false = v := ⟨_, rfl⟩
      obtain ⟨uh, hthB⟩ : ∃ v, topK (withB b (s0B, s1B)) true = v := ⟨_, rfl⟩
      rw [htlB] at HGZB httB
      rw [hthB] at HGZB
      clear hspB htlB hthB HCSB
      go_cut [] from 108 to 119 (fun wx => ∃ p' c', FromB gXB VB wx ∧ Row wx gXB (ybA (withB b (s0B, s1B)) ⟨pl, cl, pd, cd, p', c', ps, cs⟩) 25 ∧ SpotsAt wx p' (b.buckets ++ [(s0B, s1B)]) ∧ b.buckets.length + 1 ≤ c' ∧ ∀ q o, p' = some ⟨q, o, none⟩ → VB.heap.size ≤ q)
      case first =>
        have HSV := Lib.hid (fun w' (h : Below VB.heap.size VB w') => (⟨(HBVB.out.below h HBVB.out.lt).cell 2 rfl, (HBVB.out.below h HBVB.out.lt).cell 3 rfl, ((bcell h).1 _ _ (cell_block q0B)).trans q0B, ((bcell h).1 _ _ (cell_block q1B)).trans q1B⟩ : (fun w' => w'.cell? ⟨w.heap.size, 2, none⟩ = some (.slice pb b.buckets.length cb) ∧ w'.cell? ⟨w.heap.size, 3, none⟩ = some (.slice ps b.spare.length cs) ∧ w'.cell? ⟨bsB, osB + k * 2, none⟩ = some (.int .i64 s0B) ∧ w'.cell? ⟨bsB, osB + k * 2 + 1, none⟩ = some (.int .i64 s1B)) w'))
        refine wp_region_late (S := fun w' => w'.cell? ⟨w.heap.size, 2, none⟩ = some (.slice pb b.buckets.length cb) ∧ w'.cell? ⟨w.heap.size, 3, none⟩ = some (.slice ps b.spare.length cs) ∧ w'.cell? ⟨bsB, osB + k * 2, none⟩ = some (.int .i64 s0B) ∧ w'.cell? ⟨bsB, osB + k * 2 + 1, none⟩ = some (.int .i64 s1B)) 11 (by kernel_rfl) (by kernel_rfl) (by kernel_rfl) (by kernel_rfl) (by rfl) (HSV.out _ (Below.refl _ _).drew) (fun hH => ?_)
        have KC := Lib.hid (show Below VB.heap.size VB VB.drew from (Below.refl _ _).drew)
        obtain ⟨c0, hc0⟩ : ∃ z, VB.drew = z := ⟨_, rfl⟩
        rw [hc0] at hH KC ⊢
        clear hc0
        simp only [List.take_succ_cons, List.take_zero, List.drop_succ_cons, List.drop_zero, idled, List.map_cons, List.map_nil, idleOp, List.cons_append, List.nil_append, List.size_toArray, List.length_cons, List.length_nil, Nat.reduceAdd]
        refine wpAnyH_take_to 1 109 (.pointer (some ⟨w.heap.size, 2, none⟩)) rfl rfl (by kernel_rfl) (by kernel_rfl) (by kernel_rfl) (fun _ _ _ h => h) (Or.inl ⟨by rfl, fun w' hSw => by (obtain ⟨w0, w1, w2, w3⟩ := hSw; go_simp)⟩) hH ?_
        refine wpAnyH_take_to 2 110 (.slice pb b.buckets.length cb) rfl rfl (by kernel_rfl) (by kernel_rfl) (by kernel_rfl) (fun _ _ _ h => h) (Or.inl ⟨by rfl, fun w' hSw => by (obtain ⟨w0, w1, w2, w3⟩ := hSw; go_simp)⟩) hH ?_
        refine wpAnyH_take_to 4 112 (.pointer (some ⟨w.heap.size, 3, none⟩)) rfl rfl (by kernel_rfl) (by kernel_rfl) (by kernel_rfl) (fun _ _ _ h => h) (Or.inl ⟨by rfl, fun w' hSw => by (obtain ⟨w0, w1, w2, w3⟩ := hSw; go_simp)⟩) hH ?_
        refine wpAnyH_take_to 5 113 (.slice ps b.spare.length cs) rfl rfl (by kernel_rfl) (by kernel_rfl) (by kernel_rfl) (fun _ _ _ h => h) (Or.inl ⟨by rfl, fun w' hSw => by (obtain ⟨w0, w1, w2, w3⟩ := hSw; go_simp)⟩) hH ?_
        refine wpAnyH_take_to 6 114 (.int .i64 (k : Int)) rfl rfl (by kernel_rfl) (by kernel_rfl) (by kernel_rfl) (fun _ _ _ h => h) (Or.inl ⟨by rfl, fun w' hSw => by (obtain ⟨w0, w1, w2, w3⟩ := hSw; go_simp)⟩) hH ?_
        refine wpAnyH_take_to 7 115 (.pointer (some ⟨bsB, osB + k * 2, none⟩)) rfl rfl (by kernel_rfl) (by kernel_rfl) (by kernel_rfl) (fun _ _ _ h => h) (Or.inl ⟨by rfl, fun w' hSw => by (obtain ⟨w0, w1, w2, w3⟩ := hSw; have ee := HPSB.out; go_simp)⟩) hH ?_
        refine wpAnyH_take_to 8 116 (.agg #[.int .i64 s0B, .int .i64 s1B]) rfl rfl (by kernel_rfl) (by kernel_rfl) (by kernel_rfl) (fun _ _ _ h => h) (Or.inl ⟨by rfl, fun w' hSw => by (obtain ⟨w0, w1, w2, w3⟩ := hSw; go_simp)⟩) hH ?_
        try simp only [Act.put, List.setIfInBounds_toArray, List.set_cons_succ, List.set_cons_zero]
        refine wpAnyH_ready (rs := [0, 9]) (by kernel_rfl) (by simp) (AllReadyH.cons rfl (fun K hK => ?_) (AllReadyH.cons rfl (fun K hK => ?_) (AllReadyH.nil)))
        · go_simp
          have hbu := below_alloc c0 (.cells #[] 62)
          have HO := Lib.hid (show OwnSp (c0.alloc (.cells #[] 62)) VB.heap.size (.slice (some ⟨c0.heap.size, 0, none⟩) 0 0) [] from ⟨rfl, .inr ⟨_, 0, #[], rfl, KC.out.size, World.alloc_heap_new _ _, Nat.le_refl _, by unfold maxLen; omega, rfl, rfl⟩⟩)
          have KC := Lib.hid (KC.out.trans (hbu.mono KC.out.size))
          obtain ⟨c1, hnw⟩ : ∃ z, c0.alloc (.cells #[] 62) = z := ⟨_, rfl⟩
          obtain ⟨go, hgo⟩ : ∃ n, c0.heap.size = n := ⟨_, rfl⟩
          rw [hnw] at HO KC  ⊢
          rw [hgo] at HO  ⊢
          clear hnw hbu
          refine hK.out _ _ (HSV.out _ KC.out) (fun hH => ?_)
          clear hK K
          try simp only [Act.put, List.setIfInBounds_toArray, List.set_cons_succ, List.set_cons_zero]
          refine wpAnyH_ready (rs := [3, 9]) (by kernel_rfl) (by simp) (AllReadyH.cons rfl (fun K hK => ?_) (AllReadyH.cons rfl (fun K hK => ?_) (AllReadyH.nil)))
          · refine step_append_ex rfl _ _ _ rfl (.slice (some ⟨go, 0, none⟩) 0 0) (.slice pb b.buckets.length cb) rfl rfl _ (append_spots_b c1 VB.heap.size KC.out.size _ ([] : List (Int × Int)) HO.out pb cb b.buckets (HUVB.out.below KC.out) (by simp; omega) _) ?_
            rintro v1 c2 ⟨ho, hb, hk⟩
            rw [List.nil_append] at ho
            have HO := Lib.hid ho
            have KC := Lib.hid (KC.out.trans hb)
            clear ho hb hk
            refine hK.out _ _ (HSV.out _ KC.out) (fun hH => ?_)
            clear hK K
            try simp only [Act.put, List.setIfInBounds_toArray, List.set_cons_succ, List.set_cons_zero]
            refine wpAnyH_ready (rs := [9]) (by kernel_rfl) (by simp) (AllReadyH.cons rfl (fun K hK => ?_) (AllReadyH.nil))
            go_simp
            have hbu := below_alloc c2 (.cells #[.int .i64 s0B, .int .i64 s1B] 62)
            have HG := Lib.hid (Row.new c2 #[.int .i64 s0B, .int .i64 s1B] 62)
            have HO := Lib.hid (HO.out.alloc (.cells #[.int .i64 s0B, .int .i64 s1B] 62))
            have KC := Lib.hid (KC.out.trans (hbu.mono KC.out.size))
            obtain ⟨c3, hnw⟩ : ∃ z, c2.alloc (.cells #[.int .i64 s0B, .int .i64 s1B] 62) = z := ⟨_, rfl⟩
            obtain ⟨gp, hgp⟩ : ∃ n, c2.heap.size = n := ⟨_, rfl⟩
            rw [hnw] at HG KC HO ⊢
            rw [hgp] at HG  ⊢
            clear hnw hbu
            refine hK.out _ _ (HSV.out _ KC.out) (fun hH => ?_)
            clear hK K
            try simp only [Act.put, List.setIfInBounds_toArray, List.set_cons_succ, List.set_cons_zero]
            refine wpAnyH_ready (rs := [10]) (by kernel_rfl) (by simp) (AllReadyH.cons rfl (fun K hK => ?_) (AllReadyH.nil))
            refine step_append_ex rfl _ _ _ rfl v1 (.slice (some ⟨gp, 0, none⟩) 1 1) rfl rfl _ (append_spots_b c3 VB.heap.size KC.out.size v1 b.buckets HO.out (some ⟨gp, 0, none⟩) 1 [(s0B, s1B)] (spot_one HG.out) (by simp; omega) _) ?_
            rintro v2 c4 ⟨ho, hb, _⟩
            have KC := Lib.hid (KC.out.trans hb)
            refine hK.out _ _ (HSV.out _ KC.out) (fun hH => ?_)
            clear hK K
            try simp only [Act.put, List.setIfInBounds_toArray, List.set_cons_succ, List.set_cons_zero]
            refine wpAnyH_take (i := 11) (v := undef) rfl (by kernel_rfl) (by kernel_rfl) (by kernel_rfl) (fun _ _ _ h => h) (Or.inl ⟨by rfl, fun _ _ => by rfl⟩) hH ?_
            refine wpAnyH_take (i := 12) (v := undef) rfl (by kernel_rfl) (by kernel_rfl) (by kernel_rfl) (fun _ _ _ h => h) (Or.inl ⟨by rfl, fun _ _ => by rfl⟩) hH ?_
            refine wpAnyH_done (by kernel_rfl) ?_ _
            refine (id (α := wpList _ _ _ _ _ _) ?_)
            simp only [Act.put]
            obtain ⟨p', c', rfl, hsp, hc', _, hpf, _⟩ := spots_of_owns ho
            have RX := Lib.hid (HXVB.out.below KC.out HXVB.out.lt)
            have hcell := RX.out.cell 2 (v := .slice pb b.buckets.length cb) rfl
            have hfree := RX.out.free 2
            have hxlt := HXVB.out.lt
            go_wp2_with fail
            go_meet
            rw [show b.buckets.length + 1 = (b.buckets ++ [(s0B, s1B)]).length by simp]
            exact ⟨p', c', ((FromB.refl gXB VB).below KC.out).set 2 _, RX.out.set 2 _, hsp.fromB (m := gXB) ((FromB.refl gXB c4).set 2 _) (fun q o e => by have := (hpf q o e).1; omega), by have := hc'; simpa using this, fun q o e => (hpf q o e).1⟩
          · go_simp
            have hbu := below_alloc c1 (.cells #[.int .i64 s0B, .int .i64 s1B] 62)
            have HG := Lib.hid (Row.new c1 #[.int .i64 s0B, .int .i64 s1B] 62)
            have hlt : c1.heap.size ≠ go := by obtain ⟨_, _, e, _, _, _, h7, _⟩ := spots_of_owns HO.out; cases e; have := (h7 _ _ rfl).2; omega
            have HO := Lib.hid (HO.out.alloc (.cells #[.int .i64 s0B, .int .i64 s1B] 62))
            have KC := Lib.hid (KC.out.trans (hbu.mono KC.out.size))
            obtain ⟨c2, hnw⟩ : ∃ z, c1.alloc (.cells #[.int .i64 s0B, .int .i64 s1B] 62) = z := ⟨_, rfl⟩
            obtain ⟨gp, hgp⟩ : ∃ n, c1.heap.size = n := ⟨_, rfl⟩
            rw [hnw] at HG KC HO ⊢
            rw [hgp] at HG hlt ⊢
            clear hnw hbu
            refine hK.out _ _ (HSV.out _ KC.out) (fun hH => ?_)
            clear hK K
            try simp only [Act.put, List.setIfInBounds_toArray, List.set_cons_succ, List.set_cons_zero]
            refine wpAnyH_ready (rs := [3]) (by kernel_rfl) (by simp) (AllReadyH.cons rfl (fun K hK => ?_) (AllReadyH.nil))
            refine step_append_ex rfl _ _ _ rfl (.slice (some ⟨go, 0, none⟩) 0 0) (.slice pb b.buckets.length cb) rfl rfl _ (append_spots_b c2 VB.heap.size KC.out.size _ ([] : List (Int × Int)) HO.out pb cb b.buckets (HUVB.out.below KC.out) (by simp; omega) _) ?_
            rintro v1 c3 ⟨ho, hb, hk⟩
            rw [List.nil_append] at ho
            have HO := Lib.hid ho
            have HG := Lib.hid (show Row c3 gp #[.int .i64 s0B, .int .i64 s1B] 62 from (hk gp HG.out.lt (by simp [Value.ownBlock]; omega)).trans HG.out)
            have KC := Lib.hid (KC.out.trans hb)
            clear ho hb hk
            refine hK.out _ _ (HSV.out _ KC.out) (fun hH => ?_)
            clear hK K
            try simp only [Act.put, List.setIfInBounds_toArray, List.set_cons_succ, List.set_cons_zero]
            refine wpAnyH_ready (rs := [10]) (by kernel_rfl) (by simp) (AllReadyH.cons rfl (fun K hK => ?_) (AllReadyH.nil))
            refine step_append_ex rfl _ _ _ rfl v1 (.slice (some ⟨gp, 0, none⟩) 1 1) rfl rfl _ (append_spots_b c3 VB.heap.size KC.out.size v1 b.buckets HO.out (some ⟨gp, 0, none⟩) 1 [(s0B, s1B)] (spot_one HG.out) (by simp; omega) _) ?_
            rintro v2 c4 ⟨ho, hb, _⟩
            have KC := Lib.hid (KC.out.trans hb)
            refine hK.out _ _ (HSV.out _ KC.out) (fun hH => ?_)
            clear hK K
            try simp only [Act.put, List.setIfInBounds_toArray, List.set_cons_succ, List.set_cons_zero]
            refine wpAnyH_take (i := 11) (v := undef) rfl (by kernel_rfl) (by kernel_rfl) (by kernel_rfl) (fun _ _ _ h => h) (Or.inl ⟨by rfl, fun _ _ => by rfl⟩) hH ?_
            refine wpAnyH_take (i := 12) (v := undef) rfl (by kernel_rfl) (by kernel_rfl) (by kernel_rfl) (fun _ _ _ h => h) (Or.inl ⟨by rfl, fun _ _ => by rfl⟩) hH ?_
            refine wpAnyH_done (by kernel_rfl) ?_ _
            refine (id (α := wpList _ _ _ _ _ _) ?_)
            simp only [Act.put]
            obtain ⟨p', c', rfl, hsp, hc', _, hpf, _⟩ := spots_of_owns ho
            have RX := Lib.hid (HXVB.out.below KC.out HXVB.out.lt)
            have hcell := RX.out.cell 2 (v := .slice pb b.buckets.length cb) rfl
            have hfree := RX.out.free 2
            have hxlt := HXVB.out.lt
            go_wp2_with fail
            go_meet
            rw [show b.buckets.length + 1 = (b.buckets ++ [(s0B, s1B)]).length by simp]
            exact ⟨p', c', ((FromB.refl gXB VB).below KC.out).set 2 _, RX.out.set 2 _, hsp.fromB (m := gXB) ((FromB.refl gXB c4).set 2 _) (fun q o e => by have := (hpf q o e).1; omega), by have := hc'; simpa using this, fun q o e => (hpf q o e).1⟩
        · go_simp
          have hbu := below_alloc c0 (.cells #[.int .i64 s0B, .int .i64 s1B] 62)
          have HG := Lib.hid (Row.new c0 #[.int .i64 s0B, .int .i64 s1B] 62)
          have KC := Lib.hid (KC.out.trans (hbu.mono KC.out.size))
          obtain ⟨c1, hnw⟩ : ∃ z, c0.alloc (.cells #[.int .i64 s0B, .int .i64 s1B] 62) = z := ⟨_, rfl⟩
          obtain ⟨gp, hgp⟩ : ∃ n, c0.heap.size = n := ⟨_, rfl⟩
          rw [hnw] at HG KC  ⊢
          rw [hgp] at HG  ⊢
          clear hnw hbu
          refine hK.out _ _ (HSV.out _ KC.out) (fun hH => ?_)
          clear hK K
          try simp only [Act.put, List.setIfInBounds_toArray, List.set_cons_succ, List.set_cons_zero]
          refine wpAnyH_ready (rs := [0]) (by kernel_rfl) (by simp) (AllReadyH.cons rfl (fun K hK => ?_) (AllReadyH.nil))
          go_simp
          have hlt := HG.out.lt
          have hbu := below_alloc c1 (.cells #[] 62)
          have HO := Lib.hid (show OwnSp (c1.alloc (.cells #[] 62)) VB.heap.size (.slice (some ⟨c1.heap.size, 0, none⟩) 0 0) [] from ⟨rfl, .inr ⟨_, 0, #[], rfl, KC.out.size, World.alloc_heap_new _ _, Nat.le_refl _, by unfold maxLen; omega, rfl, rfl⟩⟩)
          have HG := Lib.hid (HG.out.below hbu HG.out.lt)
          have KC := Lib.hid (KC.out.trans (hbu.mono KC.out.size))
          obtain ⟨c2, hnw⟩ : ∃ z, c1.alloc (.cells #[] 62) = z := ⟨_, rfl⟩
          obtain ⟨go, hgo⟩ : ∃ n, c1.heap.size = n := ⟨_, rfl⟩
          rw [hnw] at HO KC HG ⊢
          rw [hgo] at HO hlt ⊢
          clear hnw hbu
          refine hK.out _ _ (HSV.out _ KC.out) (fun hH => ?_)
          clear hK K
          try simp only [Act.put, List.setIfInBounds_toArray, List.set_cons_succ, List.set_cons_zero]
          refine wpAnyH_ready (rs := [3]) (by kernel_rfl) (by simp) (AllReadyH.cons rfl (fun K hK => ?_) (AllReadyH.nil))
          refine step_append_ex rfl _ _ _ rfl (.slice (some ⟨go, 0, none⟩) 0 0) (.slice pb b.buckets.length cb) rfl rfl _ (append_spots_b c2 VB.heap.size KC.out.size _ ([] : List (Int × Int)) HO.out pb cb b.buckets (HUVB.out.below KC.out) (by simp; omega) _) ?_
          rintro v1 c3 ⟨ho, hb, hk⟩
          rw [List.nil_append] at ho
          have HO := Lib.hid ho
          have HG := Lib.hid (show Row c3 gp #[.int .i64 s0B, .int .i64 s1B] 62 from (hk gp HG.out.lt (by simp [Value.ownBlock]; omega)).trans HG.out)
          have KC := Lib.hid (KC.out.trans hb)
          clear ho hb hk
          refine hK.out _ _ (HSV.out _ KC.out) (fun hH => ?_)
          clear hK K
          try simp only [Act.put, List.setIfInBounds_toArray, List.set_cons_succ, List.set_cons_zero]
          refine wpAnyH_ready (rs := [10]) (by kernel_rfl) (by simp) (AllReadyH.cons rfl (fun K hK => ?_) (AllReadyH.nil))
          refine step_append_ex rfl _ _ _ rfl v1 (.slice (some ⟨gp, 0, none⟩) 1 1) rfl rfl _ (append_spots_b c3 VB.heap.size KC.out.size v1 b.buckets HO.out (some ⟨gp, 0, none⟩) 1 [(s0B, s1B)] (spot_one HG.out) (by simp; omega) _) ?_
          rintro v2 c4 ⟨ho, hb, _⟩
          have KC := Lib.hid (KC.out.trans hb)
          refine hK.out _ _ (HSV.out _ KC.out) (fun hH => ?_)
          clear hK K
          try simp only [Act.put, List.setIfInBounds_toArray, List.set_cons_succ, List.set_cons_zero]
          refine wpAnyH_take (i := 11) (v := undef) rfl (by kernel_rfl) (by kernel_rfl) (by kernel_rfl) (fun _ _ _ h => h) (Or.inl ⟨by rfl, fun _ _ => by rfl⟩) hH ?_
          refine wpAnyH_take (i := 12) (v := undef) rfl (by kernel_rfl) (by kernel_rfl) (by kernel_rfl) (fun _ _ _ h => h) (Or.inl ⟨by rfl, fun _ _ => by rfl⟩) hH ?_
          refine wpAnyH_done (by kernel_rfl) ?_ _
          refine (id (α := wpList _ _ _ _ _ _) ?_)
          simp only [Act.put]
          obtain ⟨p', c', rfl, hsp, hc', _, hpf, _⟩ := spots_of_owns ho
          have RX := Lib.hid (HXVB.out.below KC.out HXVB.out.lt)
          have hcell := RX.out.cell 2 (v := .slice pb b.buckets.length cb) rfl
          have hfree := RX.out.free 2
          have hxlt := HXVB.out.lt
          go_wp2_with fail
          go_meet
          rw [show b.buckets.length + 1 = (b.buckets ++ [(s0B, s1B)]).length by simp]
          exact ⟨p', c', ((FromB.refl gXB VB).below KC.out).set 2 _, RX.out.set 2 _, hsp.fromB (m := gXB) ((FromB.refl gXB c4).set 2 _) (fun q o e => by have := (hpf q o e).1; omega), by have := hc'; simpa using this, fun q o e => (hpf q o e).1⟩
      case rest =>
        obtain ⟨pB, cB, hF, hrX, hsX, hcX, _⟩ := hcut
        have hbw := hF.base HKVB.out hgWB HKVB.out.size
        have HYX := Lib.hid (more_at (HB.out.below hbw) (by omega) hsX hcX)
        have HXR := Lib.hid hrX
        have HRS := Lib.hid (hF.row HRS.out (by omega))
        have HRTA := Lib.hid (hF.row HRTA.out (by omega))
        obtain ⟨zaB, hza⟩ := later_of hbw
        subst hza
        clear hF hrX hsX hcX hbw HXVB HKVB HBVB HUVB q0B q1B
        have d0 := HXR.out.cell 0 (v := .slice pl (withB b (s0B, s1B)).lots.length cl) rfl
        have d1 := HXR.out.cell 1 (v := .slice pd (withB b (s0B, s1B)).doors.length cd) rfl
        have d2 := HXR.out.cell 2 (v := .slice pB (withB b (s0B, s1B)).buckets.length cB) rfl
        have d3 := HXR.out.cell 3 (v := .slice ps (withB b (s0B, s1B)).spare.length cs) rfl
        have d4 := HXR.out.cell 4 (v := .int .i64 (withB b (s0B, s1B)).apart) rfl
        have d5 := HXR.out.cell 5 (v := .int .i64 (withB b (s0B, s1B)).door) rfl
        have d6 := HXR.out.cell 6 (v := .int .i64 (withB b (s0B, s1B)).bucket) rfl
        have d7 := HXR.out.cell 7 (v := .int .i64 (withB b (s0B, s1B)).err) rfl
        go_upto_region 20 with (first
          | (go_at_call 26; (with_reducible refine (HGZB.out _ _ HYX.out).mono ?_); rintro e u ⟨rfl, hbu⟩; have HRS := Lib.hid (HRS.out.below hbu HRS.out.lt); have HRTA := Lib.hid (HRTA.out.below hbu HRTA.out.lt); obtain ⟨zbB, hzb⟩ := zaB.on hbu; subst hzb; clear hbu; have rS := Row.new zbB.w #[.int .i64 ul, .int .i64 uh] 40; have hbu := below_alloc zbB.w (.cells #[.int .i64 ul, .int .i64 uh] 40); have HRS := Lib.hid (HRS.out.below hbu HRS.out.lt); have HRTA := Lib.hid (HRTA.out.below hbu HRTA.out.lt); obtain ⟨zcB, hzcB⟩ := zbB.on hbu; rw [hzcB] at rS HRS HRTA; have HRTB := Lib.hid rS; clear rS hbu)
          | (refine store_new rfl 40 _ _ rfl #[.int .i64 ul, .int .i64 uh] #[.int .i64 0, .int .i64 0] 40 rfl rfl (by kernel_rfl) rfl (by simp [Value.oneCell']) ?_))
        obtain ⟨gTB, hgTB⟩ : ∃ n, zbB.w.heap.size = n := ⟨_, rfl⟩
        rw [hgTB] at HRTB ⊢
        clear hgTB hzcB d0 d1 d2 d3 d4 d5 d6 d7
        have hle := htop r hrN
        rw [httA, httB] at hle
        rw [httB] at htk
        have w0 := HRS.out.cell 0 (v := .int .i64 lo) rfl
        have w1 := HRTA.out.cell 0 (v := .int .i64 tl) rfl
        have w2 := HRTB.out.cell 0 (v := .int .i64 ul) rfl
        clear htop httA httB
        rcases hle with h | ⟨h1, h2⟩
        · go_wp2_with (first | (go_at_call 22; (with_reducible refine (stacked_any _).mono ?_); rintro e u ⟨rfl, hbu⟩; obtain ⟨ze, hze⟩ := zcB.on hbu; subst hze; clear hbu))
          go_ret
          exact ⟨rfl, ze.base HE.out⟩
        · subst h1
          have h3 : (k : Int) ≤ (r : Int) := by omega
          have h4 : ¬ tl < tl := by omega
          go_wp2_with (first | (go_at_call 22; (with_reducible refine (stacked_any _).mono ?_); rintro e u ⟨rfl, hbu⟩; obtain ⟨ze, hze⟩ := zcB.on hbu; subst hze; clear hbu))
          go_ret
          exact ⟨rfl, ze.base HE.out⟩
end Go.Proofs.Ytajkgfeockcbpaa
