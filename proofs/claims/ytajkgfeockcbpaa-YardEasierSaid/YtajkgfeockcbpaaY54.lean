/- The law YardEasier. -/
import Derived.Test.YtajkgfeockcbpaaY53
import Derived.Test.YtajkgfeockcbpaaY52
import Derived.Deep.CutBlock
namespace Go.Proofs.Ytajkgfeockcbpaa
open Go.RowKit Go.Maps
attribute [local go_sem] Oper.semAt_some

/-- Behind the switch: there is a yard that is easier. -/
def Eased (b : Yb) (gX : Nat) (W0 wx : World) : Prop := ∃ (x : Yb) (Q : Yp), Row wx gX (ybA x Q) 25 ∧ YbAt wx Q x ∧ yardB x = true ∧ Easy b x ∧ Below W0.heap.size W0 wx
theorem ease_kind {b x : Yb} (h : Easy b x) (h0 : 0 ≤ x.err) (m : Nat → Bool) : kindN (fun k => allowK b k m) < 2 ∨ kindN (fun k => allowK x k m) = 2 := by
  cases ha : allowK b false m
  · left
    rw [kindN_as (fun k => allowK b k m) false (allowK b true m) ha rfl]
    cases allowK b true m <;> simp
  · right
    rw [allow_kind h0, h.allow ha]
    rfl
set_option maxRecDepth 10000 in
set_option maxHeartbeats 1600000 in
theorem spots_single (p : Option Addr) (c : Nat) (s0 s1 : Int) (w : World) (hS : SpotsAt w p [(s0, s1)]) :
    Calls Try.prog 52 #[.slice p 1 c] w fun e w' => e = .returned (.bool (spB (s0, s1))) ∧ w = w' := by
  obtain ⟨bq, oq, hp, q0, q1⟩ := hS 0 (by simp)
  subst hp
  have q0 : w.cell? ⟨bq, oq, none⟩ = some (.int .i64 s0) := q0
  have q1 : w.cell? ⟨bq, oq + 1, none⟩ = some (.int .i64 s1) := q1
  have HX := Lib.hid (fun w' => Fits_any s0 0 99 w')
  have HY := Lib.hid (fun w' => Fits_any s1 0 99 w')
  have HV := Lib.hid (spB_fits (s0, s1))
  obtain ⟨fx, hfx⟩ : ∃ v, fits s0 0 99 = v := ⟨_, rfl⟩
  obtain ⟨fy, hfy⟩ : ∃ v, fits s1 0 99 = v := ⟨_, rfl⟩
  obtain ⟨V, hV⟩ : ∃ v, spB (s0, s1) = v := ⟨_, rfl⟩
  dsimp only at HV
  rw [hfx] at HX HV
  rw [hfy] at HY HV
  rw [hV] at HV ⊢
  clear hS hfx hfy hV
  go_enter Try.func52, Try.ntmps52
  go_wp2_with fail
  go_loop [3, 4] (fun ok i => (ok = .bool true ∧ i = .int .i64 0) ∨ (ok = .bool V ∧ i = .int .i64 1)) (fun _ i => 1 - (intOf i).toNat)
  case atStart => exact .inl ⟨rfl, rfl⟩
  case round =>
    rcases hrel with ⟨rfl, rfl⟩ | ⟨rfl, rfl⟩
    · cases fx
      · have hv : V = false := by rw [HV.out]; rfl
        subst hv
        go_wp2_with (first | (go_at_call 43; (with_reducible refine (HX.out _).mono ?_); rintro e u ⟨rfl, rfl⟩))
        go_round
        case rel => exact .inr ⟨rfl, rfl⟩
        case measure => simp [intOf]
      · have hv : V = fy := by rw [HV.out]; rfl
        subst hv
        go_wp2_with (first | (go_at_call 43; (with_reducible refine (HX.out _).mono ?_); rintro e u ⟨rfl, rfl⟩) | (go_at_call 43; (with_reducible refine (HY.out _).mono ?_); rintro e u ⟨rfl, rfl⟩))
        go_round
        case rel => exact .inr ⟨rfl, rfl⟩
        case measure => simp [intOf]
    · cases V
      all_goals
        go_wp2_with fail
        go_ret
        exact ⟨rfl, rfl⟩
set_option maxRecDepth 100000 in
set_option maxHeartbeats 6400000 in
theorem YardEasier_any (b : Yb) (P : Yp) (n0 n1 n2 s0 s1 : Int) (w : World) (hB : YbAt w P b)  :
    Calls Try.prog 11 #[.agg (ybA b P), .agg #[.int .i64 n0, .int .i64 n1, .int .i64 n2], .agg #[.int .i64 s0, .int .i64 s1]] w fun e w' => e = .returned (.bool true) ∧ Below w.heap.size w w' := by
  obtain ⟨pl, cl, pd, cd, pb, cb, ps, cs⟩ := P
  obtain ⟨W0, hW0⟩ : ∃ W, W = ((w.alloc (.cells (ybA b ⟨pl, cl, pd, cd, pb, cb, ps, cs⟩) 25)).alloc (.cells #[.int .i64 n0, .int .i64 n1, .int .i64 n2] 58)).alloc (.cells #[.int .i64 s0, .int .i64 s1] 62) := ⟨_, rfl⟩
  have HW0 := Lib.hid hW0
  have HE := Lib.hid (show Below w.heap.size w W0 by rw [hW0]; exact below_alloc3 _ _ _ _)
  have HRx := Lib.hid (show Row W0 w.heap.size (ybA b ⟨pl, cl, pd, cd, pb, cb, ps, cs⟩) 25 by rw [hW0]; exact ((Row.new _ _ _).alloc _).alloc _)
  have HRN := Lib.hid (show Row W0 (w.heap.size + 1) #[.int .i64 n0, .int .i64 n1, .int .i64 n2] 58 by rw [hW0]; exact (Row.new1 _ _ _ _).alloc _)
  have HRM := Lib.hid (show Row W0 (w.heap.size + 1 + 1) #[.int .i64 s0, .int .i64 s1] 62 by rw [hW0]; exact Row.new' (by simp) _ _)
  have HB := Lib.hid (hB.below HE.out)
  have hn61 := hB.n1
  clear hW0 hB
  cases hb : yardB b
  · have HSO := Lib.hid (sound_no b ⟨pl, cl, pd, cd, pb, cb, ps, cs⟩ W0 HB.out hb)
    clear hb
    go_enter Try.func11, Try.ntmps11
    go_upto_region 1 with (fail)
    rw [← HW0.out]
    go_wp2_with (first
      | (refine load_row rfl 25 _ rfl w.heap.size rfl 25 _ _ HRx.out Try.underlying25 rfl (by kernel_rfl) ?_)
      | (go_at_call 37; (with_reducible refine HSO.out.mono ?_); rintro e u ⟨rfl, hbu⟩; have HU := Lib.hid (HE.out.trans (hbu.mono HE.out.size)); clear hbu)
      | (go_at_call 22; (with_reducible refine (stacked_any _).mono ?_); rintro e v ⟨rfl, hbu⟩; have HV := Lib.hid (HU.out.trans (hbu.mono HU.out.size)); clear hbu))
    go_ret
    exact ⟨rfl, HV.out⟩
  have HSO := Lib.hid (sound_yes b ⟨pl, cl, pd, cd, pb, cb, ps, cs⟩ W0 HB.out hb)
  have HOK := Lib.hid (yardB_ok hb)
  have HBB := Lib.hid hb
  have hok := HOK.out
  have hL1 := hok.n1
  have hL7 := hok.n7
  have he0 := hok.e0
  have g0 := HRx.out.cell 0 (v := .slice pl b.lots.length cl) rfl
  have g1 := HRx.out.cell 1 (v := .slice pd b.doors.length cd) rfl
  have g2 := HRx.out.cell 2 (v := .slice pb b.buckets.length cb) rfl
  have g3 := HRx.out.cell 3 (v := .slice ps b.spare.length cs) rfl
  have g4 := HRx.out.cell 4 (v := .int .i64 b.apart) rfl
  have g5 := HRx.out.cell 5 (v := .int .i64 b.door) rfl
  have g6 := HRx.out.cell 6 (v := .int .i64 b.bucket) rfl
  have g7 := HRx.out.cell 7 (v := .int .i64 b.err) rfl
  have r0 := HRN.out.cell 0 (v := .int .i64 n0) rfl
  have r1 := HRN.out.cell 1 (v := .int .i64 n1) rfl
  have r2 := HRN.out.cell 2 (v := .int .i64 n2) rfl
  have m0 := HRM.out.cell 0 (v := .int .i64 s0) rfl
  have m1 := HRM.out.cell 1 (v := .int .i64 s1) rfl
  have hok := HOK.out
  have he1 := hok.e1
  have ha0 := hok.a0
  have ha1 := hok.a1
  have ho0 := hok.o0
  have ho1 := hok.o1
  have hu0 := hok.u0
  have hu1 := hok.u1
  have hb3 := (yardB_iff.1 hb).2
  have hmlt : ∀ i, drawnF b n2 i = true → i < b.lots.length := fun i h => drawnF_lt h
  have HDR := Lib.hid (fun w' => drawn_any b ⟨pl, cl, pd, cd, pb, cb, ps, cs⟩ hL7 n2 w')
  have HAL := Lib.hid (fun q cq w' (h : Below W0.heap.size W0 w') hi => allowed_good (q := q) (cq := cq) HBB.out hmlt (HB.out.below h) hi)
  have HGO := Lib.hid (fun w' (h : Below W0.heap.size W0 w') => goods_good HBB.out (HB.out.below h))
  obtain ⟨kk, hkk, hk5⟩ := spin_nat (n := n0) (m := 5) (by omega)
  obtain ⟨by', hby, hby15⟩ := spin_nat (n := n1) (m := 15) (by omega)
  have HS1 := Lib.hid (fun w' => (by have q := Spin_any n0 5 w' (by unfold I64; omega); rw [hkk] at q; exact q))
  have HS2 := Lib.hid (fun w' => (by have q := Spin_any n1 15 w' (by unfold I64; omega); rw [hby] at q; exact q))
  obtain ⟨m, hm⟩ : ∃ v, drawnF b n2 = v := ⟨_, rfl⟩
  rw [hm] at HDR HAL hmlt
  unfold GaveSet at HDR
  clear hkk hby hm hb hok
  go_enter Try.func11, Try.ntmps11
  go_upto_region 1 with (fail)
  rw [← HW0.out]
  go_upto_region 3 with (first
    | (go_at_call 37; (with_reducible refine HSO.out.mono ?_); rintro e u ⟨rfl, hbu⟩; obtain ⟨x0, hx0⟩ := later_of hbu; subst hx0; clear hbu))
  go_cut [7, 8] from 22 to 25 (fun a7 a8 wx => ∃ gX, a7 = .pointer (some ⟨gX, 0, none⟩) ∧ a8 = .int .i64 (by' : Int) ∧ W0.heap.size ≤ gX ∧ Row wx gX (ybA b ⟨pl, cl, pd, cd, pb, cb, ps, cs⟩) 25 ∧ Below W0.heap.size W0 wx)
  case first =>
    have HSV := Lib.hid (fun w' (h : Below W0.heap.size W0 w') => (⟨HRx.out.below h HRx.out.lt, (HRN.out.below h HRN.out.lt).cell 1 rfl⟩ : Row w' w.heap.size (ybA b ⟨pl, cl, pd, cd, pb, cb, ps, cs⟩) 25 ∧ w'.cell? ⟨w.heap.size + 1, 1, none⟩ = some (.int .i64 n1)))
    refine wp_region_late (S := fun w' => Row w' w.heap.size (ybA b ⟨pl, cl, pd, cd, pb, cb, ps, cs⟩) 25 ∧ w'.cell? ⟨w.heap.size + 1, 1, none⟩ = some (.int .i64 n1)) 5 (by kernel_rfl) (by kernel_rfl) (by kernel_rfl) (by kernel_rfl) (by rfl) (HSV.out _ x0.b.drew) (fun hH => ?_)
    have hbu : Below x0.w.heap.size x0.w x0.w.drew := (Below.refl _ _).drew
    obtain ⟨x1, hx1⟩ := x0.on hbu
    clear hbu
    rw [hx1] at hH ⊢
    clear hx1
    simp only [List.take_succ_cons, List.take_zero, List.drop_succ_cons, List.drop_zero, idled, List.map_cons, List.map_nil, idleOp, List.cons_append, List.nil_append, List.size_toArray, List.length_cons, List.length_nil, Nat.reduceAdd]
    refine wpAnyH_take_to 0 22 (.agg (ybA b ⟨pl, cl, pd, cd, pb, cb, ps, cs⟩)) rfl rfl (by kernel_rfl) (by kernel_rfl) (by kernel_rfl) (fun _ _ _ h => h) (yields_row (by rfl) 25 _ rfl (w.heap.size) rfl 25 (ybA b ⟨pl, cl, pd, cd, pb, cb, ps, cs⟩) _ (fun _ h => h.1) Try.underlying25 rfl (by kernel_rfl)) hH ?_
    refine wpAnyH_take_to 1 23 (.pointer (some ⟨w.heap.size + 1, 1, none⟩)) rfl rfl (by kernel_rfl) (by kernel_rfl) (by kernel_rfl) (fun _ _ _ h => h) (Or.inl ⟨by rfl, fun w' hSw => by (obtain ⟨q0, q1⟩ := hSw; go_simp)⟩) hH ?_
    refine wpAnyH_take_to 2 24 (.int .i64 n1) rfl rfl (by kernel_rfl) (by kernel_rfl) (by kernel_rfl) (fun _ _ _ h => h) (Or.inl ⟨by rfl, fun w' hSw => by (obtain ⟨q0, q1⟩ := hSw; go_simp)⟩) hH ?_
    try simp only [Act.put, List.setIfInBounds_toArray, List.set_cons_succ, List.set_cons_zero]
    refine wpAnyH_ready (rs := [3, 4]) (by kernel_rfl) (by simp) (AllReadyH.cons rfl (fun K hK => ?_) (AllReadyH.cons rfl (fun K hK => ?_) AllReadyH.nil))
    · go_simp
      refine (HS2.out _).mono ?_
      rintro e u ⟨rfl, rfl⟩
      refine hK.out _ _ (HSV.out _ x1.b) (fun hH => ?_)
      clear hK K
      try simp only [Act.put, List.setIfInBounds_toArray, List.set_cons_succ, List.set_cons_zero]
      refine wpAnyH_ready (rs := [4]) (by kernel_rfl) (by simp) (AllReadyH.cons rfl (fun K hK => ?_) AllReadyH.nil)
      go_simp
      refine hK.out _ _ (HSV.out _ (x1.b.alloc x1.b.size _)) (fun hH => ?_)
      clear hK K
      try simp only [Act.put, List.setIfInBounds_toArray, List.set_cons_succ, List.set_cons_zero]
      refine wpAnyH_take (i := 5) (v := undef) rfl (by kernel_rfl) (by kernel_rfl) (by kernel_rfl) (fun _ _ _ h => h) (Or.inl ⟨by rfl, fun _ _ => by rfl⟩) hH ?_
      refine wpAnyH_take (i := 6) (v := undef) rfl (by kernel_rfl) (by kernel_rfl) (by kernel_rfl) (fun _ _ _ h => h) (Or.inl ⟨by rfl, fun _ _ => by rfl⟩) hH ?_
      refine wpAnyH_done (by kernel_rfl) ?_ _
      refine (id (α := wpList _ _ _ _ _ _) ?_)
      simp only [Act.put]
      have RZ := Lib.hid (Row.new x1.w ybZ 25)
      have hz1 := x1.b.size
      go_wp2_with (first
        | (refine store_row rfl 25 _ _ rfl x1.w.heap.size (ybA b ⟨pl, cl, pd, cd, pb, cb, ps, cs⟩) ybZ 25 rfl rfl RZ.out (by kernel_rfl) rfl (by simp [Value.oneCell']) ?_))
      go_meet
      exact ⟨_, rfl, rfl, x1.b.size, RZ.out.setRow _, below_setRow' (x1.b.alloc x1.b.size _) x1.b.size _⟩
    · go_simp
      refine hK.out _ _ (HSV.out _ (x1.b.alloc x1.b.size _)) (fun hH => ?_)
      clear hK K
      try simp only [Act.put, List.setIfInBounds_toArray, List.set_cons_succ, List.set_cons_zero]
      refine wpAnyH_ready (rs := [3]) (by kernel_rfl) (by simp) (AllReadyH.cons rfl (fun K hK => ?_) AllReadyH.nil)
      go_simp
      refine (HS2.out _).mono ?_
      rintro e u ⟨rfl, rfl⟩
      refine hK.out _ _ (HSV.out _ (x1.b.alloc x1.b.size _)) (fun hH => ?_)
      clear hK K
      try simp only [Act.put, List.setIfInBounds_toArray, List.set_cons_succ, List.set_cons_zero]
      refine wpAnyH_take (i := 5) (v := undef) rfl (by kernel_rfl) (by kernel_rfl) (by kernel_rfl) (fun _ _ _ h => h) (Or.inl ⟨by rfl, fun _ _ => by rfl⟩) hH ?_
      refine wpAnyH_take (i := 6) (v := undef) rfl (by kernel_rfl) (by kernel_rfl) (by kernel_rfl) (fun _ _ _ h => h) (Or.inl ⟨by rfl, fun _ _ => by rfl⟩) hH ?_
      refine wpAnyH_done (by kernel_rfl) ?_ _
      refine (id (α := wpList _ _ _ _ _ _) ?_)
      simp only [Act.put]
      have RZ := Lib.hid (Row.new x1.w ybZ 25)
      have hz1 := x1.b.size
      go_wp2_with (first
        | (refine store_row rfl 25 _ _ rfl x1.w.heap.size (ybA b ⟨pl, cl, pd, cd, pb, cb, ps, cs⟩) ybZ 25 rfl rfl RZ.out (by kernel_rfl) rfl (by simp [Value.oneCell']) ?_))
      go_meet
      exact ⟨_, rfl, rfl, x1.b.size, RZ.out.setRow _, below_setRow' (x1.b.alloc x1.b.size _) x1.b.size _⟩
  case rest =>
    obtain ⟨gX, rfl, rfl, hgX, hrX, hbX⟩ := hcut
    have HXV := Lib.hid hrX
    have KV := Lib.hid (⟨hbX⟩ : From W0 wc)
    have hwlt := HRM.out.lt
    clear hrX hbX x0
    obtain ⟨V, hV⟩ : ∃ V, wc = V := ⟨_, rfl⟩
    rw [hV] at HXV KV ⊢
    clear hV
    have HBV := Lib.hid (HB.out.below KV.out.b)
    have f0 := KV.out.cell g0
    have f1 := KV.out.cell g1
    have f2 := KV.out.cell g2
    have f3 := KV.out.cell g3
    have f4 := KV.out.cell g4
    have f5 := KV.out.cell g5
    have f6 := KV.out.cell g6
    have f7 := KV.out.cell g7
    have p0 := KV.out.cell r0
    have k0 := KV.out.cell m0
    have k1 := KV.out.cell m1
    have hbi : (b.buckets.length : Int) ≤ 3 := by omega
    have hbi0 : (0 : Int) ≤ (b.buckets.length : Int) := by omega
    go_upto_block 0 with (first
      | (go_at_call 44; (with_reducible refine (HS1.out _).mono ?_); rintro e u ⟨rfl, rfl⟩))
    go_cut [] from 29 to 77 (fun wx => Eased b gX W0 wx)
    case first =>
      have hk : kk = 0 ∨ kk = 1 ∨ kk = 2 ∨ kk = 3 ∨ kk = 4 := by omega
      rcases hk with rfl | rfl | rfl | rfl | rfl
      · obtain ⟨d, hd⟩ : ∃ d, b.err - (by' : Int) = d := ⟨_, rfl⟩
        have e1 : IntKind.i64.wrap (b.err - (by' : Int)) = d := by rw [hd]; exact IntWalk.i64_in _ (by omega)
        have hc := HXV.out.cell 7 (v := .int .i64 b.err) rfl
        have hf := HXV.out.free 7
        by_cases hq : 0 < d
        · go_wp2_with fail
          have RX := HXV.out.set 7 (.int .i64 d)
          have hbs := below_set KV.out.b gX 7 hgX (.int .i64 d)
          all_goals go_meet
          all_goals first | (exfalso; omega) | ((have b0 : (0 : Int) ≤ d := by omega); (have b1 : (d : Int) ≤ 20 := by omega); (have b2 : (d : Int) ≤ b.err := by omega); exact ⟨errB b d, ⟨pl, cl, pd, cd, pb, cb, ps, cs⟩, RX, nums_at (HB.out.below hbs) rfl rfl rfl rfl, num_ok HBB.out rfl rfl rfl rfl ha0 ha1 ho0 ho1 hu0 hu1 b0 b1, easy_le rfl b2 (Int.le_refl _) (Int.le_refl _) (Int.le_refl _) rfl rfl, hbs⟩)
        · have hq' := eq_false hq
          go_wp2_with fail
          have RX := HXV.out.set 7 (.int .i64 0)
          have hbs := below_set KV.out.b gX 7 hgX (.int .i64 0)
          all_goals go_meet
          all_goals first | (exfalso; omega) | ((have b0 : (0 : Int) ≤ 0 := by omega); (have b1 : (0 : Int) ≤ 20 := by omega); (have b2 : (0 : Int) ≤ b.err := by omega); exact ⟨errB b 0, ⟨pl, cl, pd, cd, pb, cb, ps, cs⟩, RX, nums_at (HB.out.below hbs) rfl rfl rfl rfl, num_ok HBB.out rfl rfl rfl rfl ha0 ha1 ho0 ho1 hu0 hu1 b0 b1, easy_le rfl b2 (Int.le_refl _) (Int.le_refl _) (Int.le_refl _) rfl rfl, hbs⟩)
      · obtain ⟨d, hd⟩ : ∃ d, b.apart - (by' : Int) = d := ⟨_, rfl⟩
        have e1 : IntKind.i64.wrap (b.apart - (by' : Int)) = d := by rw [hd]; exact IntWalk.i64_in _ (by omega)
        have hc := HXV.out.cell 4 (v := .int .i64 b.apart) rfl
        have hf := HXV.out.free 4
        by_cases hq : 0 < d
        · go_wp2_with fail
          have RX := HXV.out.set 4 (.int .i64 d)
          have hbs := below_set KV.out.b gX 4 hgX (.int .i64 d)
          all_goals go_meet
          all_goals first | (exfalso; omega) | ((have b0 : (0 : Int) ≤ d := by omega); (have b1 : (d : Int) ≤ 200 := by omega); (have b2 : (d : Int) ≤ b.apart := by omega); exact ⟨apartB b d, ⟨pl, cl, pd, cd, pb, cb, ps, cs⟩, RX, nums_at (HB.out.below hbs) rfl rfl rfl rfl, num_ok HBB.out rfl rfl rfl rfl b0 b1 ho0 ho1 hu0 hu1 he0 he1, easy_le rfl (Int.le_refl _) b2 (Int.le_refl _) (Int.le_refl _) rfl rfl, hbs⟩)
        · have hq' := eq_false hq
          go_wp2_with fail
          have RX := HXV.out.set 4 (.int .i64 0)
          have hbs := below_set KV.out.b gX 4 hgX (.int .i64 0)
          all_goals go_meet
          all_goals first | (exfalso; omega) | ((have b0 : (0 : Int) ≤ 0 := by omega); (have b1 : (0 : Int) ≤ 200 := by omega); (have b2 : (0 : Int) ≤ b.apart := by omega); exact ⟨apartB b 0, ⟨pl, cl, pd, cd, pb, cb, ps, cs⟩, RX, nums_at (HB.out.below hbs) rfl rfl rfl rfl, num_ok HBB.out rfl rfl rfl rfl b0 b1 ho0 ho1 hu0 hu1 he0 he1, easy_le rfl (Int.le_refl _) b2 (Int.le_refl _) (Int.le_refl _) rfl rfl, hbs⟩)
      · obtain ⟨d, hd⟩ : ∃ d, b.door + (by' : Int) = d := ⟨_, rfl⟩
        have e1 : IntKind.i64.wrap (b.door + (by' : Int)) = d := by rw [hd]; exact IntWalk.i64_in _ (by omega)
        have hc := HXV.out.cell 5 (v := .int .i64 b.door) rfl
        have hf := HXV.out.free 5
        by_cases hq : d < 200
        · go_wp2_with fail
          have RX := HXV.out.set 5 (.int .i64 d)
          have hbs := below_set KV.out.b gX 5 hgX (.int .i64 d)
          all_goals go_meet
          all_goals first | (exfalso; omega) | ((have b0 : (0 : Int) ≤ d := by omega); (have b1 : (d : Int) ≤ 200 := by omega); (have b2 : b.door ≤ (d : Int) := by omega); exact ⟨doorB b d, ⟨pl, cl, pd, cd, pb, cb, ps, cs⟩, RX, nums_at (HB.out.below hbs) rfl rfl rfl rfl, num_ok HBB.out rfl rfl rfl rfl ha0 ha1 b0 b1 hu0 hu1 he0 he1, easy_le rfl (Int.le_refl _) (Int.le_refl _) b2 (Int.le_refl _) rfl rfl, hbs⟩)
        · have hq' := eq_false hq
          go_wp2_with fail
          have RX := HXV.out.set 5 (.int .i64 200)
          have hbs := below_set KV.out.b gX 5 hgX (.int .i64 200)
          all_goals go_meet
          all_goals first | (exfalso; omega) | ((have b0 : (0 : Int) ≤ 200 := by omega); (have b1 : (200 : Int) ≤ 200 := by omega); (have b2 : b.door ≤ (200 : Int) := by omega); exact ⟨doorB b 200, ⟨pl, cl, pd, cd, pb, cb, ps, cs⟩, RX, nums_at (HB.out.below hbs) rfl rfl rfl rfl, num_ok HBB.out rfl rfl rfl rfl ha0 ha1 b0 b1 hu0 hu1 he0 he1, easy_le rfl (Int.le_refl _) (Int.le_refl _) b2 (Int.le_refl _) rfl rfl, hbs⟩)
      · obtain ⟨d, hd⟩ : ∃ d, b.bucket + (by' : Int) = d := ⟨_, rfl⟩
        have e1 : IntKind.i64.wrap (b.bucket + (by' : Int)) = d := by rw [hd]; exact IntWalk.i64_in _ (by omega)
        have hc := HXV.out.cell 6 (v := .int .i64 b.bucket) rfl
        have hf := HXV.out.free 6
        by_cases hq : d < 200
        · go_wp2_with fail
          have RX := HXV.out.set 6 (.int .i64 d)
          have hbs := below_set KV.out.b gX 6 hgX (.int .i64 d)
          all_goals go_meet
          all_goals first | (exfalso; omega) | ((have b0 : (0 : Int) ≤ d := by omega); (have b1 : (d : Int) ≤ 200 := by omega); (have b2 : b.bucket ≤ (d : Int) := by omega); exact ⟨buckB b d, ⟨pl, cl, pd, cd, pb, cb, ps, cs⟩, RX, nums_at (HB.out.below hbs) rfl rfl rfl rfl, num_ok HBB.out rfl rfl rfl rfl ha0 ha1 ho0 ho1 b0 b1 he0 he1, easy_le rfl (Int.le_refl _) (Int.le_refl _) (Int.le_refl _) b2 rfl rfl, hbs⟩)
        · have hq' := eq_false hq
          go_wp2_with fail
          have RX := HXV.out.set 6 (.int .i64 200)
          have hbs := below_set KV.out.b gX 6 hgX (.int .i64 200)
          all_goals go_meet
          all_goals first | (exfalso; omega) | ((have b0 : (0 : Int) ≤ 200 := by omega); (have b1 : (200 : Int) ≤ 200 := by omega); (have b2 : b.bucket ≤ (200 : Int) := by omega); exact ⟨buckB b 200, ⟨pl, cl, pd, cd, pb, cb, ps, cs⟩, RX, nums_at (HB.out.below hbs) rfl rfl rfl rfl, num_ok HBB.out rfl rfl rfl rfl ha0 ha1 ho0 ho1 b0 b1 he0 he1, easy_le rfl (Int.le_refl _) (Int.le_refl _) (Int.le_refl _) b2 rfl rfl, hbs⟩)
      · by_cases hl : (b.buckets.length : Int) < 3
        · have HSG := Lib.hid (spots_single (some ⟨V.heap.size, 0, none⟩) 1 s0 s1 _ (spot_one (Row.new V #[.int .i64 s0, .int .i64 s1] 62)))
          have hba := below_alloc V (.cells #[.int .i64 s0, .int .i64 s1] 62)
          cases hsb : spB (s0, s1)
          · rw [hsb] at HSG
            clear hsb
            go_wp2_with (first
              | (go_at_call 52; (with_reducible refine HSG.out.mono ?_); rintro e u ⟨rfl, hu⟩; subst hu))
            go_meet
            exact ⟨b, ⟨pl, cl, pd, cd, pb, cb, ps, cs⟩, HXV.out.alloc _, HBV.out.below hba, HBB.out, Easy.refl b, KV.out.b.trans (hba.mono KV.out.b.size)⟩
          · rw [hsb] at HSG
            have HSB := Lib.hid hsb
            clear hsb
            go_upto_region 6 with (first
              | (go_at_call 52; (with_reducible refine HSG.out.mono ?_); rintro e u ⟨rfl, hu⟩; subst hu))
            have HX2 := Lib.hid (HXV.out.alloc (.cells #[.int .i64 s0, .int .i64 s1] 62))
            have KV2 := Lib.hid (KV.out.b.trans (hba.mono KV.out.b.size))
            obtain ⟨V2, hV2⟩ : ∃ z, V.alloc (.cells #[.int .i64 s0, .int .i64 s1] 62) = z := ⟨_, rfl⟩
            rw [hV2] at HX2 KV2 ⊢
            clear hV2 hba HSG
            have HB2 := Lib.hid (HRx.out.below KV2.out HRx.out.lt)
            have HS2' := Lib.hid (HRM.out.below KV2.out HRM.out.lt)
            have HU2 := Lib.hid (HB.out.u.below KV2.out)
            have HSV := Lib.hid (fun w' (h : Below V2.heap.size V2 w') => (⟨(HB2.out.below h HB2.out.lt).cell 2 rfl, (HS2'.out.below h HS2'.out.lt).cell 0 rfl, (HS2'.out.below h HS2'.out.lt).cell 1 rfl, trivial⟩ : (fun w' => w'.cell? ⟨w.heap.size, 2, none⟩ = some (.slice pb b.buckets.length cb) ∧ w'.cell? ⟨w.heap.size + 1 + 1, 0, none⟩ = some (.int .i64 s0) ∧ w'.cell? ⟨w.heap.size + 1 + 1, 1, none⟩ = some (.int .i64 s1) ∧ True) w'))
            refine wp_region_late (S := fun w' => w'.cell? ⟨w.heap.size, 2, none⟩ = some (.slice pb b.buckets.length cb) ∧ w'.cell? ⟨w.heap.size + 1 + 1, 0, none⟩ = some (.int .i64 s0) ∧ w'.cell? ⟨w.heap.size + 1 + 1, 1, none⟩ = some (.int .i64 s1) ∧ True) 7 (by kernel_rfl) (by kernel_rfl) (by kernel_rfl) (by kernel_rfl) (by rfl) (HSV.out _ (Below.refl _ _).drew) (fun hH => ?_)
            have KC := Lib.hid (show Below V2.heap.size V2 V2.drew from (Below.refl _ _).drew)
            obtain ⟨c0, hc0⟩ : ∃ z, V2.drew = z := ⟨_, rfl⟩
            rw [hc0] at hH KC ⊢
            clear hc0
            simp only [List.take_succ_cons, List.take_zero, List.drop_succ_cons, List.drop_zero, idled, List.map_cons, List.map_nil, idleOp, List.cons_append, List.nil_append, List.size_toArray, List.length_cons, List.length_nil, Nat.reduceAdd]
            refine wpAnyH_take_to 1 39 (.pointer (some ⟨w.heap.size, 2, none⟩)) rfl rfl (by kernel_rfl) (by kernel_rfl) (by kernel_rfl) (fun _ _ _ h => h) (Or.inl ⟨by rfl, fun w' hSw => by (obtain ⟨q0, q1, q2, q3⟩ := hSw; go_simp)⟩) hH ?_
            refine wpAnyH_take_to 2 40 (.slice pb b.buckets.length cb) rfl rfl (by kernel_rfl) (by kernel_rfl) (by kernel_rfl) (fun _ _ _ h => h) (Or.inl ⟨by rfl, fun w' hSw => by (obtain ⟨q0, q1, q2, q3⟩ := hSw; go_simp)⟩) hH ?_
            refine wpAnyH_take_to 4 42 (.agg #[.int .i64 s0, .int .i64 s1]) rfl rfl (by kernel_rfl) (by kernel_rfl) (by kernel_rfl) (fun _ _ _ h => h) (Or.inl ⟨by rfl, fun w' hSw => by (obtain ⟨q0, q1, q2, q3⟩ := hSw; go_simp)⟩) hH ?_
            try simp only [Act.put, List.setIfInBounds_toArray, List.set_cons_succ, List.set_cons_zero]
            refine wpAnyH_ready (rs := [0, 5]) (by kernel_rfl) (by simp) (AllReadyH.cons rfl (fun K hK => ?_) (AllReadyH.cons rfl (fun K hK => ?_) (AllReadyH.nil)))
            · go_simp
              have hbu := below_alloc c0 (.cells #[] 62)
              have HO := Lib.hid (show OwnSp (c0.alloc (.cells #[] 62)) V2.heap.size (.slice (some ⟨c0.heap.size, 0, none⟩) 0 0) [] from ⟨rfl, .inr ⟨_, 0, #[], rfl, KC.out.size, World.alloc_heap_new _ _, Nat.le_refl _, by unfold maxLen; omega, rfl, rfl⟩⟩)
              have KC := Lib.hid (KC.out.trans (hbu.mono KC.out.size))
              obtain ⟨c1, hnw⟩ : ∃ z, c0.alloc (.cells #[] 62) = z := ⟨_, rfl⟩
              obtain ⟨go, hgo⟩ : ∃ n, c0.heap.size = n := ⟨_, rfl⟩
              rw [hnw] at HO KC  ⊢
              rw [hgo] at HO  ⊢
              clear hnw hbu
              refine hK.out _ _ (HSV.out _ KC.out) (fun hH => ?_)
              clear hK K
              try simp only [Act.put, List.setIfInBounds_toArray, List.set_cons_succ, List.set_cons_zero]
              refine wpAnyH_ready (rs := [3, 5]) (by kernel_rfl) (by simp) (AllReadyH.cons rfl (fun K hK => ?_) (AllReadyH.cons rfl (fun K hK => ?_) (AllReadyH.nil)))
              · refine step_append_ex rfl _ _ _ rfl (.slice (some ⟨go, 0, none⟩) 0 0) (.slice pb b.buckets.length cb) rfl rfl _ (append_spots_b c1 V2.heap.size KC.out.size _ ([] : List (Int × Int)) HO.out pb cb b.buckets (HU2.out.below KC.out) (by simp; omega) _) ?_
                rintro v1 c2 ⟨ho, hb, hk⟩
                rw [List.nil_append] at ho
                have HO := Lib.hid ho
                have KC := Lib.hid (KC.out.trans hb)
                clear ho hb hk
                refine hK.out _ _ (HSV.out _ KC.out) (fun hH => ?_)
                clear hK K
                try simp only [Act.put, List.setIfInBounds_toArray, List.set_cons_succ, List.set_cons_zero]
                refine wpAnyH_ready (rs := [5]) (by kernel_rfl) (by simp) (AllReadyH.cons rfl (fun K hK => ?_) (AllReadyH.nil))
                go_simp
                have hbu := below_alloc c2 (.cells #[.int .i64 s0, .int .i64 s1] 62)
                have HG := Lib.hid (Row.new c2 #[.int .i64 s0, .int .i64 s1] 62)
                have HO := Lib.hid (HO.out.alloc (.cells #[.int .i64 s0, .int .i64 s1] 62))
                have KC := Lib.hid (KC.out.trans (hbu.mono KC.out.size))
                obtain ⟨c3, hnw⟩ : ∃ z, c2.alloc (.cells #[.int .i64 s0, .int .i64 s1] 62) = z := ⟨_, rfl⟩
                obtain ⟨gp, hgp⟩ : ∃ n, c2.heap.size = n := ⟨_, rfl⟩
                rw [hnw] at HG KC HO ⊢
                rw [hgp] at HG  ⊢
                clear hnw hbu
                refine hK.out _ _ (HSV.out _ KC.out) (fun hH => ?_)
                clear hK K
                try simp only [Act.put, List.setIfInBounds_toArray, List.set_cons_succ, List.set_cons_zero]
                refine wpAnyH_ready (rs := [6]) (by kernel_rfl) (by simp) (AllReadyH.cons rfl (fun K hK => ?_) (AllReadyH.nil))
                refine step_append_ex rfl _ _ _ rfl v1 (.slice (some ⟨gp, 0, none⟩) 1 1) rfl rfl _ (append_spots_b c3 V2.heap.size KC.out.size v1 b.buckets HO.out (some ⟨gp, 0, none⟩) 1 [(s0, s1)] (spot_one HG.out) (by simp; omega) _) ?_
                rintro v2 c4 ⟨ho, hb, _⟩
                have KC := Lib.hid (KC.out.trans hb)
                refine hK.out _ _ (HSV.out _ KC.out) (fun hH => ?_)
                clear hK K
                try simp only [Act.put, List.setIfInBounds_toArray, List.set_cons_succ, List.set_cons_zero]
                refine wpAnyH_take (i := 7) (v := undef) rfl (by kernel_rfl) (by kernel_rfl) (by kernel_rfl) (fun _ _ _ h => h) (Or.inl ⟨by rfl, fun _ _ => by rfl⟩) hH ?_
                refine wpAnyH_take (i := 8) (v := undef) rfl (by kernel_rfl) (by kernel_rfl) (by kernel_rfl) (fun _ _ _ h => h) (Or.inl ⟨by rfl, fun _ _ => by rfl⟩) hH ?_
                refine wpAnyH_done (by kernel_rfl) ?_ _
                refine (id (α := wpList _ _ _ _ _ _) ?_)
                simp only [Act.put]
                obtain ⟨p', c', rfl, hsp, hc', _, hpf, _⟩ := spots_of_owns ho
                have RX := Lib.hid (HX2.out.below KC.out HX2.out.lt)
                have hcell := RX.out.cell 2 (v := .slice pb b.buckets.length cb) rfl
                have hfree := RX.out.free 2
                have hxlt := HX2.out.lt
                go_wp2_with fail
                go_meet
                rw [show b.buckets.length + 1 = (b.buckets ++ [(s0, s1)]).length by simp]
                have hbs := (((FromB.refl gX V2).below KC.out).set 2 (.slice p' (b.buckets ++ [(s0, s1)]).length c')).base KV2.out hgX KV2.out.size
                exact ⟨withB b (s0, s1), ⟨pl, cl, pd, cd, p', c', ps, cs⟩, RX.out.set 2 _, more_at (HB.out.below hbs) (by omega) (hsp.fromB (m := gX) ((FromB.refl gX c4).set 2 _) (fun q o e => by have := (hpf q o e).1; omega)) (by have := hc'; simpa using this), with_ok HBB.out (by omega) HSB.out, easy_with b _, hbs⟩
              · go_simp
                have hbu := below_alloc c1 (.cells #[.int .i64 s0, .int .i64 s1] 62)
                have HG := Lib.hid (Row.new c1 #[.int .i64 s0, .int .i64 s1] 62)
                have hlt : c1.heap.size ≠ go := by obtain ⟨_, _, e, _, _, _, h7, _⟩ := spots_of_owns HO.out; cases e; have := (h7 _ _ rfl).2; omega
                have HO := Lib.hid (HO.out.alloc (.cells #[.int .i64 s0, .int .i64 s1] 62))
                have KC := Lib.hid (KC.out.trans (hbu.mono KC.out.size))
                obtain ⟨c2, hnw⟩ : ∃ z, c1.alloc (.cells #[.int .i64 s0, .int .i64 s1] 62) = z := ⟨_, rfl⟩
                obtain ⟨gp, hgp⟩ : ∃ n, c1.heap.size = n := ⟨_, rfl⟩
                rw [hnw] at HG KC HO ⊢
                rw [hgp] at HG hlt ⊢
                clear hnw hbu
                refine hK.out _ _ (HSV.out _ KC.out) (fun hH => ?_)
                clear hK K
                try simp only [Act.put, List.setIfInBounds_toArray, List.set_cons_succ, List.set_cons_zero]
                refine wpAnyH_ready (rs := [3]) (by kernel_rfl) (by simp) (AllReadyH.cons rfl (fun K hK => ?_) (AllReadyH.nil))
                refine step_append_ex rfl _ _ _ rfl (.slice (some ⟨go, 0, none⟩) 0 0) (.slice pb b.buckets.length cb) rfl rfl _ (append_spots_b c2 V2.heap.size KC.out.size _ ([] : List (Int × Int)) HO.out pb cb b.buckets (HU2.out.below KC.out) (by simp; omega) _) ?_
                rintro v1 c3 ⟨ho, hb, hk⟩
                rw [List.nil_append] at ho
                have HO := Lib.hid ho
                have HG := Lib.hid (show Row c3 gp #[.int .i64 s0, .int .i64 s1] 62 from (hk gp HG.out.lt (by simp [Value.ownBlock]; omega)).trans HG.out)
                have KC := Lib.hid (KC.out.trans hb)
                clear ho hb hk
                refine hK.out _ _ (HSV.out _ KC.out) (fun hH => ?_)
                clear hK K
                try simp only [Act.put, List.setIfInBounds_toArray, List.set_cons_succ, List.set_cons_zero]
                refine wpAnyH_ready (rs := [6]) (by kernel_rfl) (by simp) (AllReadyH.cons rfl (fun K hK => ?_) (AllReadyH.nil))
                refine step_append_ex rfl _ _ _ rfl v1 (.slice (some ⟨gp, 0, none⟩) 1 1) rfl rfl _ (append_spots_b c3 V2.heap.size KC.out.size v1 b.buckets HO.out (some ⟨gp, 0, none⟩) 1 [(s0, s1)] (spot_one HG.out) (by simp; omega) _) ?_
                rintro v2 c4 ⟨ho, hb, _⟩
                have KC := Lib.hid (KC.out.trans hb)
                refine hK.out _ _ (HSV.out _ KC.out) (fun hH => ?_)
                clear hK K
                try simp only [Act.put, List.setIfInBounds_toArray, List.set_cons_succ, List.set_cons_zero]
                refine wpAnyH_take (i := 7) (v := undef) rfl (by kernel_rfl) (by kernel_rfl) (by kernel_rfl) (fun _ _ _ h => h) (Or.inl ⟨by rfl, fun _ _ => by rfl⟩) hH ?_
                refine wpAnyH_take (i := 8) (v := undef) rfl (by kernel_rfl) (by kernel_rfl) (by kernel_rfl) (fun _ _ _ h => h) (Or.inl ⟨by rfl, fun _ _ => by rfl⟩) hH ?_
                refine wpAnyH_done (by kernel_rfl) ?_ _
                refine (id (α := wpList _ _ _ _ _ _) ?_)
                simp only [Act.put]
                obtain ⟨p', c', rfl, hsp, hc', _, hpf, _⟩ := spots_of_owns ho
                have RX := Lib.hid (HX2.out.below KC.out HX2.out.lt)
                have hcell := RX.out.cell 2 (v := .slice pb b.buckets.length cb) rfl
                have hfree := RX.out.free 2
                have hxlt := HX2.out.lt
                go_wp2_with fail
                go_meet
                rw [show b.buckets.length + 1 = (b.buckets ++ [(s0, s1)]).length by simp]
                have hbs := (((FromB.refl gX V2).below KC.out).set 2 (.slice p' (b.buckets ++ [(s0, s1)]).length c')).base KV2.out hgX KV2.out.size
                exact ⟨withB b (s0, s1), ⟨pl, cl, pd, cd, p', c', ps, cs⟩, RX.out.set 2 _, more_at (HB.out.below hbs) (by omega) (hsp.fromB (m := gX) ((FromB.refl gX c4).set 2 _) (fun q o e => by have := (hpf q o e).1; omega)) (by have := hc'; simpa using this), with_ok HBB.out (by omega) HSB.out, easy_with b _, hbs⟩
            · go_simp
              have hbu := below_alloc c0 (.cells #[.int .i64 s0, .int .i64 s1] 62)
              have HG := Lib.hid (Row.new c0 #[.int .i64 s0, .int .i64 s1] 62)
              have KC := Lib.hid (KC.out.trans (hbu.mono KC.out.size))
              obtain ⟨c1, hnw⟩ : ∃ z, c0.alloc (.cells #[.int .i64 s0, .int .i64 s1] 62) = z := ⟨_, rfl⟩
              obtain ⟨gp, hgp⟩ : ∃ n, c0.heap.size = n := ⟨_, rfl⟩
              rw [hnw] at HG KC  ⊢
              rw [hgp] at HG  ⊢
              clear hnw hbu
              refine hK.out _ _ (HSV.out _ KC.out) (fun hH => ?_)
              clear hK K
              try simp only [Act.put, List.setIfInBounds_toArray, List.set_cons_succ, List.set_cons_zero]
              refine wpAnyH_ready (rs := [0]) (by kernel_rfl) (by simp) (AllReadyH.cons rfl (fun K hK => ?_) (AllReadyH.nil))
              go_simp
              have hlt := HG.out.lt
              have hbu := below_alloc c1 (.cells #[] 62)
              have HO := Lib.hid (show OwnSp (c1.alloc (.cells #[] 62)) V2.heap.size (.slice (some ⟨c1.heap.size, 0, none⟩) 0 0) [] from ⟨rfl, .inr ⟨_, 0, #[], rfl, KC.out.size, World.alloc_heap_new _ _, Nat.le_refl _, by unfold maxLen; omega, rfl, rfl⟩⟩)
              have HG := Lib.hid (HG.out.below hbu HG.out.lt)
              have KC := Lib.hid (KC.out.trans (hbu.mono KC.out.size))
              obtain ⟨c2, hnw⟩ : ∃ z, c1.alloc (.cells #[] 62) = z := ⟨_, rfl⟩
              obtain ⟨go, hgo⟩ : ∃ n, c1.heap.size = n := ⟨_, rfl⟩
              rw [hnw] at HO KC HG ⊢
              rw [hgo] at HO hlt ⊢
              clear hnw hbu
              refine hK.out _ _ (HSV.out _ KC.out) (fun hH => ?_)
              clear hK K
              try simp only [Act.put, List.setIfInBounds_toArray, List.set_cons_succ, List.set_cons_zero]
              refine wpAnyH_ready (rs := [3]) (by kernel_rfl) (by simp) (AllReadyH.cons rfl (fun K hK => ?_) (AllReadyH.nil))
              refine step_append_ex rfl _ _ _ rfl (.slice (some ⟨go, 0, none⟩) 0 0) (.slice pb b.buckets.length cb) rfl rfl _ (append_spots_b c2 V2.heap.size KC.out.size _ ([] : List (Int × Int)) HO.out pb cb b.buckets (HU2.out.below KC.out) (by simp; omega) _) ?_
              rintro v1 c3 ⟨ho, hb, hk⟩
              rw [List.nil_append] at ho
              have HO := Lib.hid ho
              have HG := Lib.hid (show Row c3 gp #[.int .i64 s0, .int .i64 s1] 62 from (hk gp HG.out.lt (by simp [Value.ownBlock]; omega)).trans HG.out)
              have KC := Lib.hid (KC.out.trans hb)
              clear ho hb hk
              refine hK.out _ _ (HSV.out _ KC.out) (fun hH => ?_)
              clear hK K
              try simp only [Act.put, List.setIfInBounds_toArray, List.set_cons_succ, List.set_cons_zero]
              refine wpAnyH_ready (rs := [6]) (by kernel_rfl) (by simp) (AllReadyH.cons rfl (fun K hK => ?_) (AllReadyH.nil))
              refine step_append_ex rfl _ _ _ rfl v1 (.slice (some ⟨gp, 0, none⟩) 1 1) rfl rfl _ (append_spots_b c3 V2.heap.size KC.out.size v1 b.buckets HO.out (some ⟨gp, 0, none⟩) 1 [(s0, s1)] (spot_one HG.out) (by simp; omega) _) ?_
              rintro v2 c4 ⟨ho, hb, _⟩
              have KC := Lib.hid (KC.out.trans hb)
              refine hK.out _ _ (HSV.out _ KC.out) (fun hH => ?_)
              clear hK K
              try simp only [Act.put, List.setIfInBounds_toArray, List.set_cons_succ, List.set_cons_zero]
              refine wpAnyH_take (i := 7) (v := undef) rfl (by kernel_rfl) (by kernel_rfl) (by kernel_rfl) (fun _ _ _ h => h) (Or.inl ⟨by rfl, fun _ _ => by rfl⟩) hH ?_
              refine wpAnyH_take (i := 8) (v := undef) rfl (by kernel_rfl) (by kernel_rfl) (by kernel_rfl) (fun _ _ _ h => h) (Or.inl ⟨by rfl, fun _ _ => by rfl⟩) hH ?_
              refine wpAnyH_done (by kernel_rfl) ?_ _
              refine (id (α := wpList _ _ _ _ _ _) ?_)
              simp only [Act.put]
              obtain ⟨p', c', rfl, hsp, hc', _, hpf, _⟩ := spots_of_owns ho
              have RX := Lib.hid (HX2.out.below KC.out HX2.out.lt)
              have hcell := RX.out.cell 2 (v := .slice pb b.buckets.length cb) rfl
              have hfree := RX.out.free 2
              have hxlt := HX2.out.lt
              go_wp2_with fail
              go_meet
              rw [show b.buckets.length + 1 = (b.buckets ++ [(s0, s1)]).length by simp]
              have hbs := (((FromB.refl gX V2).below KC.out).set 2 (.slice p' (b.buckets ++ [(s0, s1)]).length c')).base KV2.out hgX KV2.out.size
              exact ⟨withB b (s0, s1), ⟨pl, cl, pd, cd, p', c', ps, cs⟩, RX.out.set 2 _, more_at (HB.out.below hbs) (by omega) (hsp.fromB (m := gX) ((FromB.refl gX c4).set 2 _) (fun q o e => by have := (hpf q o e).1; omega)) (by have := hc'; simpa using this), with_ok HBB.out (by omega) HSB.out, easy_with b _, hbs⟩
        · have hl' := eq_false hl
          go_wp2_with fail
          go_meet
          exact ⟨b, ⟨pl, cl, pd, cd, pb, cb, ps, cs⟩, HXV.out, HBV.out, HBB.out, Easy.refl b, KV.out.b⟩
    case rest =>
      obtain ⟨x, Q, hrx, hyx, hyb, hez, hbw⟩ := hcut
      have HRX := Lib.hid hrx
      have HYX := Lib.hid hyx
      have HXB := Lib.hid hyb
      have hxl : x.lots = b.lots := hez.l
      have hxe := (yardB_ok hyb).e0
      have htop := hez.top hL7
      have hkind := ease_kind hez hxe m
      have HAX := Lib.hid (fun q cq w' (h : YbAt w' Q x) hi => allowed_good (q := q) (cq := cq) HXB.out (f := m) (fun i hi => by rw [hxl]; exact hmlt i hi) h hi)
      have HGX := Lib.hid (fun w' (h : YbAt w' Q x) => goods_good HXB.out h)
      obtain ⟨lo, hlo⟩ : ∃ v, topK b false = v := ⟨_, rfl⟩
      obtain ⟨hi, hhi⟩ : ∃ v, topK b true = v := ⟨_, rfl⟩
      obtain ⟨lx, hlx⟩ : ∃ v, topK x false = v := ⟨_, rfl⟩
      obtain ⟨hx, hhx⟩ : ∃ v, topK x true = v := ⟨_, rfl⟩
      rw [hlo, hhi] at HGO
      rw [hlx, hhx] at HGX
      rw [hlo, hlx] at htop
      obtain ⟨kd, hkd⟩ : ∃ v, kindN (fun k => allowK b k m) = v := ⟨_, rfl⟩
      obtain ⟨kx, hkx⟩ : ∃ v, kindN (fun k => allowK x k m) = v := ⟨_, rfl⟩
      rw [hkd] at HAL hkind
      rw [hkx] at HAX hkind
      obtain ⟨LM, hLM⟩ : ∃ v, intsN (lotsL m) = v := ⟨_, rfl⟩
      rw [hLM] at HDR HAL HAX
      obtain ⟨z0, hz0⟩ := later_of hbw
      subst hz0
      have HKD := Lib.hid hkind
      clear hrx hyx hyb hez hbw hxl hxe hlo hhi hlx hhx hkd hkx hLM hkind hmlt f0 f1 f2 f3 f4 f5 f6 f7 p0 k0 k1 HXV KV HBV
      go_upto_region 17 with (first
        | (go_at_call 42; (with_reducible refine (HDR.out _).mono ?_); rintro e u ⟨qm, cqm, rfl, hi1, hbu⟩; have HIM := Lib.hid hi1; have HRX := Lib.hid (HRX.out.below hbu HRX.out.lt); have HYX := Lib.hid (HYX.out.below hbu); obtain ⟨z1, hz1⟩ := z0.on hbu; subst hz1; clear hbu; clear hi1)
        | (go_at_call 20; (with_reducible refine (HAL.out _ _ _ (Later.b _) HIM.out).mono ?_); rintro e u ⟨rfl, hbu⟩; have HRX := Lib.hid (HRX.out.below hbu HRX.out.lt); have HYX := Lib.hid (HYX.out.below hbu); have HIM := Lib.hid (HIM.out.below hbu); obtain ⟨z2, hz2⟩ := z1.on hbu; subst hz2; clear hbu))
      have d0 := HRX.out.cell 0 (v := .slice Q.pl x.lots.length Q.cl) rfl
      have d1 := HRX.out.cell 1 (v := .slice Q.pd x.doors.length Q.cd) rfl
      have d2 := HRX.out.cell 2 (v := .slice Q.pb x.buckets.length Q.cb) rfl
      have d3 := HRX.out.cell 3 (v := .slice Q.ps x.spare.length Q.cs) rfl
      have d4 := HRX.out.cell 4 (v := .int .i64 x.apart) rfl
      have d5 := HRX.out.cell 5 (v := .int .i64 x.door) rfl
      have d6 := HRX.out.cell 6 (v := .int .i64 x.bucket) rfl
      have d7 := HRX.out.cell 7 (v := .int .i64 x.err) rfl
      go_upto_region 18 with (first
        | (go_at_call 20; (with_reducible refine (HAX.out _ _ _ HYX.out HIM.out).mono ?_); rintro e u ⟨rfl, hbu⟩; have HRX := Lib.hid (HRX.out.below hbu HRX.out.lt); have HYX := Lib.hid (HYX.out.below hbu); obtain ⟨z3, hz3⟩ := z2.on hbu; subst hz3; clear hbu))
      clear d0 d1 d2 d3 d4 d5 d6 d7
      go_upto_region 19 with (first
        | (go_at_call 26; (with_reducible refine (HGO.out _ (Later.b _)).mono ?_); rintro e u ⟨rfl, hbu⟩; have HRX := Lib.hid (HRX.out.below hbu HRX.out.lt); have HYX := Lib.hid (HYX.out.below hbu); obtain ⟨z4, hz4⟩ := z3.on hbu; subst hz4; clear hbu; have rS := Row.new z4.w #[.int .i64 lo, .int .i64 hi] 40; have hbu := below_alloc z4.w (.cells #[.int .i64 lo, .int .i64 hi] 40); have HRX := Lib.hid (HRX.out.below hbu HRX.out.lt); have HYX := Lib.hid (HYX.out.below hbu); obtain ⟨z5, hz5⟩ := z4.on hbu; rw [hz5] at rS HRX HYX; have HRS := Lib.hid rS; clear rS hbu)
        | (refine store_new rfl 40 _ _ rfl #[.int .i64 lo, .int .i64 hi] #[.int .i64 0, .int .i64 0] 40 rfl rfl (by kernel_rfl) rfl (by simp [Value.oneCell']) ?_))
      obtain ⟨gS, hgS⟩ : ∃ n, z4.w.heap.size = n := ⟨_, rfl⟩
      rw [hgS] at HRS ⊢
      clear hgS hz5
      have d0 := HRX.out.cell 0 (v := .slice Q.pl x.lots.length Q.cl) rfl
      have d1 := HRX.out.cell 1 (v := .slice Q.pd x.doors.length Q.cd) rfl
      have d2 := HRX.out.cell 2 (v := .slice Q.pb x.buckets.length Q.cb) rfl
      have d3 := HRX.out.cell 3 (v := .slice Q.ps x.spare.length Q.cs) rfl
      have d4 := HRX.out.cell 4 (v := .int .i64 x.apart) rfl
      have d5 := HRX.out.cell 5 (v := .int .i64 x.door) rfl
      have d6 := HRX.out.cell 6 (v := .int .i64 x.bucket) rfl
      have d7 := HRX.out.cell 7 (v := .int .i64 x.err) rfl
      go_upto_region 20 with (first
        | (go_at_call 26; (with_reducible refine (HGX.out _ HYX.out).mono ?_); rintro e u ⟨rfl, hbu⟩; have HRS := Lib.hid (HRS.out.below hbu HRS.out.lt); obtain ⟨z6, hz6⟩ := z5.on hbu; subst hz6; clear hbu; have rT := Row.new z6.w #[.int .i64 lx, .int .i64 hx] 40; have hbu := below_alloc z6.w (.cells #[.int .i64 lx, .int .i64 hx] 40); have HRS := Lib.hid (HRS.out.below hbu HRS.out.lt); obtain ⟨z7, hz7⟩ := z6.on hbu; rw [hz7] at rT HRS; have s0' := HRS.out.cell 0 (v := .int .i64 lo) rfl; have t0' := rT.cell 0 (v := .int .i64 lx) rfl; clear hbu)
        | (refine store_new rfl 40 _ _ rfl #[.int .i64 lx, .int .i64 hx] #[.int .i64 0, .int .i64 0] 40 rfl rfl (by kernel_rfl) rfl (by simp [Value.oneCell']) ?_))
      clear d0 d1 d2 d3 d4 d5 d6 d7 HDR HAL HGO HAX HGX
      by_cases hk : kd < 2
      · go_wp2_with (first
          | (go_at_call 22; (with_reducible refine (stacked_any _).mono ?_); rintro e u ⟨rfl, hbu⟩; obtain ⟨z8, hz8⟩ := z7.on hbu; subst hz8; clear hbu))
        go_ret
        exact ⟨rfl, z8.base HE.out⟩
      · have hk' := eq_false hk
        rcases HKD.out with h | h
        · exact absurd h hk
        · subst h
          go_wp2_with (first
            | (go_at_call 22; (with_reducible refine (stacked_any _).mono ?_); rintro e u ⟨rfl, hbu⟩; obtain ⟨z8, hz8⟩ := z7.on hbu; subst hz8; clear hbu))
          go_ret
          exact ⟨rfl, z8.base HE.out⟩
end Go.Proofs.Ytajkgfeockcbpaa
