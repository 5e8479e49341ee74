/- The specification's functions of layer 6: what is within reach, served. -/
import Derived.Test.YtajkgfeockcbpaaRSA
import Derived.Test.YtajkgfeockcbpaaY47
namespace Go.Proofs.Ytajkgfeockcbpaa
open Go.RowKit Go.Maps
attribute [local go_sem] Oper.semAt_some

theorem kindN_two' {f : Bool → Bool} (h : f false = true → f true = true) : (f false = true ∧ kindN f = 2) ∨ (f false = false ∧ f true = true ∧ kindN f = 1) ∨ (f false = false ∧ f true = false ∧ kindN f = 0) := by
  have e := kindN_as f _ _ rfl rfl
  rw [e]
  generalize f false = x at *
  generalize f true = y at *
  revert h
  cases x <;> cases y <;> simp
/-- The less of two kinds. -/
theorem kind_and {P Q : Bool → Bool} (hP : P false = true → P true = true) (hQ : Q false = true → Q true = true) : kindN (fun k => P k && Q k) = min (kindN P) (kindN Q) := by
  rw [kindN_as (fun k => P k && Q k) (P false && Q false) (P true && Q true) rfl rfl, kindN_as P _ _ rfl rfl, kindN_as Q _ _ rfl rfl]
  generalize P false = x at *
  generalize P true = y at *
  generalize Q false = z at *
  generalize Q true = u at *
  revert hP hQ
  cases x <;> cases y <;> cases z <;> cases u <;> simp <;> omega
theorem far_le {e : Int} (h : 0 ≤ e) (s t : Int × Int) : farLo e s t ≤ farHi e s t := by
  have := told_nn s t
  unfold farLo farHi
  omega
theorem reach_ends {b : Yb} (h0 : 0 ≤ b.err) {i : Nat} {l : List (Int × Int)} {m : Int} (h : reachK b false i l m = true) : reachK b true i l m = true := by
  unfold reachK away at h ⊢
  rw [List.any_eq_true] at h ⊢
  obtain ⟨s, hs, h⟩ := h
  refine ⟨s, hs, ?_⟩
  have := far_le h0 (lotAt b i).sp s
  simp only [Bool.false_eq_true, if_false, if_true, decide_eq_true_eq] at h ⊢
  omega
theorem serv_ends {b : Yb} (h0 : 0 ≤ b.err) {i : Nat} (h : servK b false i = true) : servK b true i = true := by
  unfold servK at h ⊢
  rw [Bool.and_eq_true] at h ⊢
  exact ⟨reach_ends h0 h.1, reach_ends h0 h.2⟩
theorem reach_take {b : Yb} {k : Bool} {i : Nat} {l : List (Int × Int)} {m : Int} {j : Nat} (h : j < l.length) : reachK b k i (l.take (j + 1)) m = (reachK b k i (l.take j) m || decide (away b.err k (lotAt b i).sp l[j] ≤ m)) := by
  unfold reachK
  rw [List.take_succ_eq_append_getElem h, List.any_append]
  simp
/-- The kind of what is within reach, with one more spot. -/
theorem within_succ {b : Yb} (h0 : 0 ≤ b.err) {i : Nat} {l : List (Int × Int)} {m : Int} {j : Nat} (h : j < l.length) :
    kindN (fun k => reachK b k i (l.take (j + 1)) m) = if farHi b.err (lotAt b i).sp l[j] ≤ m then 2 else if farLo b.err (lotAt b i).sp l[j] ≤ m then max (kindN (fun k => reachK b k i (l.take j) m)) 1 else kindN (fun k => reachK b k i (l.take j) m) := by
  have h1 := reach_ends (b := b) h0 (i := i) (l := l.take j) (m := m)
  have h2 := far_le h0 (lotAt b i).sp l[j]
  have e1 : reachK b false i (l.take (j + 1)) m = (reachK b false i (l.take j) m || decide (farHi b.err (lotAt b i).sp l[j] ≤ m)) := reach_take h
  have e2 : reachK b true i (l.take (j + 1)) m = (reachK b true i (l.take j) m || decide (farLo b.err (lotAt b i).sp l[j] ≤ m)) := reach_take h
  rw [kindN_as (fun k => reachK b k i (l.take (j + 1)) m) _ _ e1 e2, kindN_as (fun k => reachK b k i (l.take j) m) _ _ rfl rfl]
  generalize reachK b false i (l.take j) m = x at *
  generalize reachK b true i (l.take j) m = y at *
  by_cases a : farHi b.err (lotAt b i).sp l[j] ≤ m
  · have a2 : farLo b.err (lotAt b i).sp l[j] ≤ m := by omega
    simp [a, a2]
  · by_cases a2 : farLo b.err (lotAt b i).sp l[j] ≤ m
    · revert h1
      cases x <;> cases y <;> simp [a, a2] <;> omega
    · simp [a, a2]
set_option maxRecDepth 100000 in
set_option maxHeartbeats 6400000 in
theorem refWithin_any (b : Yb) (P : Yp) (hok : YbOk b) (lot : Nat) (hlot : lot < b.lots.length) (p1 : Option Addr) (c1 : Nat) (l : List (Int × Int)) (hl4 : l.length ≤ 4) (hsp : ∀ s ∈ l, spB s = true) (most : Int) (w : World) (hL : LotsAt w P.pl b.lots) (hS : SpotsAt w p1 l) :
    Calls Try.prog 100 #[.agg (ybA b P), .int .i64 (lot : Int), .slice p1 l.length c1, .int .i64 most] w fun e w' => e = .returned (.int .i64 (kindN (fun k => reachK b k lot l most))) ∧ Below w.heap.size w w' := by
  obtain ⟨pl, cl, pd, cd, pb, cb, ps, cs⟩ := P
  dsimp only at hL
  obtain ⟨W0, hW0⟩ : ∃ W, W = w.alloc (.cells (ybA b ⟨pl, cl, pd, cd, pb, cb, ps, cs⟩) 25) := ⟨_, rfl⟩
  have HW0 := Lib.hid hW0
  have HE := Lib.hid (show Below w.heap.size w W0 by rw [hW0]; exact below_alloc _ _)
  have HRx := Lib.hid (show Row W0 w.heap.size (ybA b ⟨pl, cl, pd, cd, pb, cb, ps, cs⟩) 25 by rw [hW0]; exact Row.new _ _ _)
  have HS := Lib.hid (hS.below HE.out)
  have HSP := Lib.hid hsp
  have n7 := hok.n7
  have h0 := hok.e0
  have h1 := hok.e1
  obtain ⟨bl, ol, hpl, x0', x1', _, _⟩ := (hL.below HE.out).at hlot
  subst hpl
  have hq1 := lotAt_sp hok hlot
  have HFA := Lib.hid (fun (t0 t1 : Int) (ht : spB (t0, t1) = true) w' => refFar_any b ⟨some ⟨bl, ol, none⟩, cl, pd, cd, pb, cb, ps, cs⟩ (lotAt b lot).sp.1 (lotAt b lot).sp.2 t0 t1 hq1 ht h0 h1 w')
  have HWS := Lib.hid (fun j (hj : j < l.length) => within_succ (b := b) h0 (i := lot) (m := most) hj)
  have HSE : Hid ((lotAt b lot).sp = ((lotAt b lot).sp.1, (lotAt b lot).sp.2)) := Lib.hid rfl
  have HW3 := Lib.hid (fun j => kindN_two' (f := fun k => reachK b k lot (l.take j) most) (fun h => reach_ends h0 h))
  have HWZ : Hid (kindN (fun k => reachK b k lot (l.take 0) most) = 0) := Lib.hid rfl
  have HWE := Lib.hid (show kindN (fun k => reachK b k lot (l.take l.length) most) = kindN (fun k => reachK b k lot l most) by rw [List.take_length])
  obtain ⟨WV, hWV⟩ : ∃ f : Nat → Int, f = fun j => kindN (fun k => reachK b k lot (l.take j) most) := ⟨_, rfl⟩
  have HS2 := Lib.hid (fun j (hj : j < l.length) => (by have q := HWS.out j hj; rw [hWV]; exact q : WV (j + 1) = if farHi b.err (lotAt b lot).sp l[j] ≤ most then 2 else if farLo b.err (lotAt b lot).sp l[j] ≤ most then max (WV j) 1 else WV j))
  have HW4 := Lib.hid (fun j => (by rw [hWV]; rcases HW3.out j with ⟨_, h⟩ | ⟨_, _, h⟩ | ⟨_, _, h⟩ <;> simp [h] : WV j = 0 ∨ WV j = 1 ∨ WV j = 2))
  have HZ := Lib.hid (show WV 0 = 0 by rw [hWV]; exact HWZ.out)
  have HLn := Lib.hid (show WV l.length = kindN (fun k => reachK b k lot l most) by rw [hWV]; exact HWE.out)
  obtain ⟨KV, hKV⟩ : ∃ v, kindN (fun k => reachK b k lot l most) = v := ⟨_, rfl⟩
  rw [hKV] at HLn ⊢
  clear hWV hKV HWS HW3 HWZ HWE hW0 hL hS hsp hq1
  rw [HSE.out] at HS2
  clear HSE
  generalize (lotAt b lot).sp.1 = s0 at *
  generalize (lotAt b lot).sp.2 = s1 at *
  have z1 : (0 : Int) ≤ (lot : Int) := by omega
  have z2 : (lot : Int) < (b.lots.length : Int) := by omega
  have z5 : (b.lots.length : Int) ≤ 7 := by omega
  go_enter Try.func100, Try.ntmps100
  go_upto_region 1 with (fail)
  rw [← HW0.out]
  go_wp2_with fail
  go_loopw [9, 10] (fun a i wr => ∃ (k : Nat) (x : Later W0), k ≤ l.length ∧ i = .int .i64 (k : Int) ∧ a = .int .i64 (WV k) ∧ wr = x.w) (fun _ i _ => l.length - (intOf i).toNat)
  case atStart => exact ⟨0, ⟨W0, Below.refl _ _⟩, by omega, rfl, by rw [HZ.out], rfl⟩
  case round =>
    obtain ⟨k, x, hk, rfl, rfl, rfl⟩ := hrel
    by_cases hlt : k < l.length
    · obtain ⟨bq, oq, hp, q0', q1'⟩ := HS.out k hlt
      have ht := HSP.out _ (List.getElem_mem hlt)
      have hws := HS2.out k hlt
      have h3 := HW4.out k
      obtain ⟨t, htt⟩ : ∃ t, l[k] = t := ⟨_, rfl⟩
      rw [htt] at q0' q1' ht hws
      obtain ⟨t0, t1⟩ := t
      dsimp only at q0' q1'
      have HF := Lib.hid (HFA.out t0 t1 ht)
      obtain ⟨lo, hlo⟩ : ∃ v, farLo b.err (s0, s1) (t0, t1) = v := ⟨_, rfl⟩
      obtain ⟨hv, hhv⟩ : ∃ v, farHi b.err (s0, s1) (t0, t1) = v := ⟨_, rfl⟩
      rw [hlo] at HF hws
      rw [hhv] at HF hws
      obtain ⟨wv, hwv⟩ : ∃ v, WV k = v := ⟨_, rfl⟩
      rw [hwv] at hws h3 ⊢
      have HWV := Lib.hid hws
      have i1 : (0 : Int) ≤ (k : Int) := by omega
      have i2 : (k : Int) < (l.length : Int) := by omega
      subst hp
      clear htt hlo hhv ht hws hwv
      go_upto_region 5 with (fail)
      obtain ⟨V, hV⟩ : ∃ V, x.w = V := ⟨_, rfl⟩
      have HKV := Lib.hid (show Below W0.heap.size W0 V by rw [← hV]; exact x.b)
      rw [hV]
      clear hV
      have HRV := Lib.hid (HRx.out.below HKV.out HRx.out.lt)
      have x0 := ((bcell HKV.out).1 _ _ (cell_block x0')).trans x0'
      have x1 := ((bcell HKV.out).1 _ _ (cell_block x1')).trans x1'
      have q0 := ((bcell HKV.out).1 _ _ (cell_block q0')).trans q0'
      have q1 := ((bcell HKV.out).1 _ _ (cell_block q1')).trans q1'
      go_cut [11] from 18 to 29 (fun a11 wx => ∃ g, a11 = .pointer (some ⟨g, 0, none⟩) ∧ Row wx g #[.int .i64 lo, .int .i64 hv] 40 ∧ Below V.heap.size V wx)
      case first =>
        have HSV := Lib.hid (fun w' (h : Below V.heap.size V w') => (⟨HRV.out.below h HRV.out.lt, ((bcell h).1 _ _ (cell_block x0)).trans x0, ((bcell h).1 _ _ (cell_block x1)).trans x1, ((bcell h).1 _ _ (cell_block q0)).trans q0, ((bcell h).1 _ _ (cell_block q1)).trans q1⟩ : (fun w' => Row w' w.heap.size (ybA b ⟨some ⟨bl, ol, none⟩, cl, pd, cd, pb, cb, ps, cs⟩) 25 ∧ w'.cell? ⟨bl, ol + lot * 4, none⟩ = some (.int .i64 s0) ∧ w'.cell? ⟨bl, ol + lot * 4 + 1, none⟩ = some (.int .i64 s1) ∧ w'.cell? ⟨bq, oq + k * 2, none⟩ = some (.int .i64 t0) ∧ w'.cell? ⟨bq, oq + k * 2 + 1, none⟩ = some (.int .i64 t1)) w'))
        refine wp_region_late (S := fun w' => Row w' w.heap.size (ybA b ⟨some ⟨bl, ol, none⟩, cl, pd, cd, pb, cb, ps, cs⟩) 25 ∧ w'.cell? ⟨bl, ol + lot * 4, none⟩ = some (.int .i64 s0) ∧ w'.cell? ⟨bl, ol + lot * 4 + 1, none⟩ = some (.int .i64 s1) ∧ w'.cell? ⟨bq, oq + k * 2, none⟩ = some (.int .i64 t0) ∧ w'.cell? ⟨bq, oq + k * 2 + 1, none⟩ = some (.int .i64 t1)) 13 (by kernel_rfl) (by kernel_rfl) (by kernel_rfl) (by kernel_rfl) (by rfl) (HSV.out _ (Below.refl V.heap.size V).drew) (fun hH => ?_)
        have KC := Lib.hid (Below.refl V.heap.size V).drew
        simp only [List.take_succ_cons, List.take_zero, List.drop_succ_cons, List.drop_zero, idled, List.map_cons, List.map_nil, idleOp, List.cons_append, List.nil_append, List.size_toArray, List.length_cons, List.length_nil, Nat.reduceAdd]
        obtain ⟨c0, hc0⟩ : ∃ z, V.drew = z := ⟨_, rfl⟩
        rw [hc0] at hH KC ⊢
        clear hc0
        refine wpAnyH_take_to 0 18 (.agg (ybA b ⟨some ⟨bl, ol, none⟩, cl, pd, cd, pb, cb, ps, cs⟩)) rfl rfl (by kernel_rfl) (by kernel_rfl) (by kernel_rfl) (fun _ _ _ h => h) (yields_row (by rfl) 25 _ rfl (w.heap.size) rfl 25 (ybA b ⟨some ⟨bl, ol, none⟩, cl, pd, cd, pb, cb, ps, cs⟩) _ (fun _ h => h.1) Try.underlying25 rfl (by kernel_rfl)) hH ?_
        refine wpAnyH_take_to 1 19 (.pointer (some ⟨w.heap.size, 0, none⟩)) rfl rfl (by kernel_rfl) (by kernel_rfl) (by kernel_rfl) (fun _ _ _ h => h) (Or.inl ⟨by rfl, fun w' hSw => by (obtain ⟨q0, q1, q2, q3, q4⟩ := hSw; have e0 := q0.cell 0 (v := .slice (some ⟨bl, ol, none⟩) b.lots.length cl) rfl; go_simp)⟩) hH ?_
        refine wpAnyH_take_to 2 20 (.slice (some ⟨bl, ol, none⟩) b.lots.length cl) rfl rfl (by kernel_rfl) (by kernel_rfl) (by kernel_rfl) (fun _ _ _ h => h) (Or.inl ⟨by rfl, fun w' hSw => by (obtain ⟨q0, q1, q2, q3, q4⟩ := hSw; have e0 := q0.cell 0 (v := .slice (some ⟨bl, ol, none⟩) b.lots.length cl) rfl; go_simp)⟩) hH ?_
        refine wpAnyH_take_to 3 21 (.int .i64 (lot : Int)) rfl rfl (by kernel_rfl) (by kernel_rfl) (by kernel_rfl) (fun _ _ _ h => h) (Or.inl ⟨by rfl, fun w' hSw => by (obtain ⟨q0, q1, q2, q3, q4⟩ := hSw; have e0 := q0.cell 0 (v := .slice (some ⟨bl, ol, none⟩) b.lots.length cl) rfl; go_simp)⟩) hH ?_
        refine wpAnyH_take_to 4 22 (.pointer (some ⟨bl, ol + lot * 4, none⟩)) rfl rfl (by kernel_rfl) (by kernel_rfl) (by kernel_rfl) (fun _ _ _ h => h) (Or.inl ⟨by rfl, fun w' hSw => by (obtain ⟨q0, q1, q2, q3, q4⟩ := hSw; have e0 := q0.cell 0 (v := .slice (some ⟨bl, ol, none⟩) b.lots.length cl) rfl; go_simp)⟩) hH ?_
        refine wpAnyH_take_to 5 23 (.pointer (some ⟨bl, ol + lot * 4, none⟩)) rfl rfl (by kernel_rfl) (by kernel_rfl) (by kernel_rfl) (fun _ _ _ h => h) (Or.inl ⟨by rfl, fun w' hSw => by (obtain ⟨q0, q1, q2, q3, q4⟩ := hSw; have e0 := q0.cell 0 (v := .slice (some ⟨bl, ol, none⟩) b.lots.length cl) rfl; go_simp)⟩) hH ?_
        refine wpAnyH_take_to 6 24 (.agg #[.int .i64 s0, .int .i64 s1]) rfl rfl (by kernel_rfl) (by kernel_rfl) (by kernel_rfl) (fun _ _ _ h => h) (Or.inl ⟨by rfl, fun w' hSw => by (obtain ⟨q0, q1, q2, q3, q4⟩ := hSw; have e0 := q0.cell 0 (v := .slice (some ⟨bl, ol, none⟩) b.lots.length cl) rfl; go_simp)⟩) hH ?_
        refine wpAnyH_take_to 7 25 (.slice (some ⟨bq, oq, none⟩) l.length c1) rfl rfl (by kernel_rfl) (by kernel_rfl) (by kernel_rfl) (fun _ _ _ h => h) (Or.inl ⟨by rfl, fun w' hSw => by (obtain ⟨q0, q1, q2, q3, q4⟩ := hSw; have e0 := q0.cell 0 (v := .slice (some ⟨bl, ol, none⟩) b.lots.length cl) rfl; go_simp)⟩) hH ?_
        refine wpAnyH_take_to 8 26 (.int .i64 (k : Int)) rfl rfl (by kernel_rfl) (by kernel_rfl) (by kernel_rfl) (fun _ _ _ h => h) (Or.inl ⟨by rfl, fun w' hSw => by (obtain ⟨q0, q1, q2, q3, q4⟩ := hSw; have e0 := q0.cell 0 (v := .slice (some ⟨bl, ol, none⟩) b.lots.length cl) rfl; go_simp)⟩) hH ?_
        refine wpAnyH_take_to 9 27 (.pointer (some ⟨bq, oq + k * 2, none⟩)) rfl rfl (by kernel_rfl) (by kernel_rfl) (by kernel_rfl) (fun _ _ _ h => h) (Or.inl ⟨by rfl, fun w' hSw => by (obtain ⟨q0, q1, q2, q3, q4⟩ := hSw; have e0 := q0.cell 0 (v := .slice (some ⟨bl, ol, none⟩) b.lots.length cl) rfl; go_simp)⟩) hH ?_
        refine wpAnyH_take_to 10 28 (.agg #[.int .i64 t0, .int .i64 t1]) rfl rfl (by kernel_rfl) (by kernel_rfl) (by kernel_rfl) (fun _ _ _ h => h) (Or.inl ⟨by rfl, fun w' hSw => by (obtain ⟨q0, q1, q2, q3, q4⟩ := hSw; have e0 := q0.cell 0 (v := .slice (some ⟨bl, ol, none⟩) b.lots.length cl) rfl; go_simp)⟩) hH ?_
        try simp only [Act.put, List.setIfInBounds_toArray, List.set_cons_succ, List.set_cons_zero]
        refine wpAnyH_ready (rs := [11, 12]) (by kernel_rfl) (by simp) (AllReadyH.cons rfl (fun K hK => ?_) (AllReadyH.cons rfl (fun K hK => ?_) (AllReadyH.nil)))
        · go_simp
          refine (HF.out c0).mono ?_
          rintro e c1 ⟨rfl, hbu⟩
          have KC := Lib.hid (KC.out.trans (hbu.mono KC.out.size))
          clear hbu
          refine hK.out _ _ (HSV.out _ KC.out) (fun hH => ?_)
          clear hK K
          try simp only [Act.put, List.setIfInBounds_toArray, List.set_cons_succ, List.set_cons_zero]
          refine wpAnyH_ready (rs := [12]) (by kernel_rfl) (by simp) (AllReadyH.cons rfl (fun K hK => ?_) (AllReadyH.nil))
          go_simp
          have hbu := below_alloc c1 (.cells #[.int .i64 0, .int .i64 0] 40)
          have HG := Lib.hid (Row.new c1 #[.int .i64 0, .int .i64 0] 40)
          have hgz := KC.out.size
          have KC := Lib.hid (KC.out.trans (hbu.mono KC.out.size))
          obtain ⟨c2, hnw⟩ : ∃ z, c1.alloc (.cells #[.int .i64 0, .int .i64 0] 40) = z := ⟨_, rfl⟩
          obtain ⟨gp, hgp⟩ : ∃ n, c1.heap.size = n := ⟨_, rfl⟩
          rw [hnw] at HG KC ⊢
          rw [hgp] at HG hgz ⊢
          clear hnw hbu hgp
          refine hK.out _ _ (HSV.out _ KC.out) (fun hH => ?_)
          clear hK K
          try simp only [Act.put, List.setIfInBounds_toArray, List.set_cons_succ, List.set_cons_zero]
          refine wpAnyH_take (i := 13) (v := undef) rfl (by kernel_rfl) (by kernel_rfl) (by kernel_rfl) (fun _ _ _ h => h) (Or.inl ⟨by rfl, fun _ _ => by rfl⟩) hH ?_
          refine wpAnyH_done (by kernel_rfl) ?_ _
          refine (id (α := wpList _ _ _ _ _ _) ?_)
          simp only [Act.put]
          go_wp2_with (first
            | (refine store_row rfl 40 _ _ rfl gp #[.int .i64 (lo), .int .i64 (hv)] #[.int .i64 0, .int .i64 0] 40 rfl rfl HG.out (by kernel_rfl) rfl (by simp [Value.oneCell']) ?_))
          go_meet
          exact ⟨gp, rfl, HG.out.setRow _, below_setRow' KC.out hgz _⟩
        · go_simp
          have hbu := below_alloc c0 (.cells #[.int .i64 0, .int .i64 0] 40)
          have HG := Lib.hid (Row.new c0 #[.int .i64 0, .int .i64 0] 40)
          have hgz := KC.out.size
          have KC := Lib.hid (KC.out.trans (hbu.mono KC.out.size))
          obtain ⟨c1, hnw⟩ : ∃ z, c0.alloc (.cells #[.int .i64 0, .int .i64 0] 40) = z := ⟨_, rfl⟩
          obtain ⟨gp, hgp⟩ : ∃ n, c0.heap.size = n := ⟨_, rfl⟩
          rw [hnw] at HG KC ⊢
          rw [hgp] at HG hgz ⊢
          clear hnw hbu hgp
          refine hK.out _ _ (HSV.out _ KC.out) (fun hH => ?_)
          clear hK K
          try simp only [Act.put, List.setIfInBounds_toArray, List.set_cons_succ, List.set_cons_zero]
          refine wpAnyH_ready (rs := [11]) (by kernel_rfl) (by simp) (AllReadyH.cons rfl (fun K hK => ?_) (AllReadyH.nil))
          go_simp
          refine (HF.out c1).mono ?_
          rintro e c2 ⟨rfl, hbu⟩
          have HG := Lib.hid (HG.out.below hbu HG.out.lt)
          have KC := Lib.hid (KC.out.trans (hbu.mono KC.out.size))
          clear hbu
          refine hK.out _ _ (HSV.out _ KC.out) (fun hH => ?_)
          clear hK K
          try simp only [Act.put, List.setIfInBounds_toArray, List.set_cons_succ, List.set_cons_zero]
          refine wpAnyH_take (i := 13) (v := undef) rfl (by kernel_rfl) (by kernel_rfl) (by kernel_rfl) (fun _ _ _ h => h) (Or.inl ⟨by rfl, fun _ _ => by rfl⟩) hH ?_
          refine wpAnyH_done (by kernel_rfl) ?_ _
          refine (id (α := wpList _ _ _ _ _ _) ?_)
          simp only [Act.put]
          go_wp2_with (first
            | (refine store_row rfl 40 _ _ rfl gp #[.int .i64 (lo), .int .i64 (hv)] #[.int .i64 0, .int .i64 0] 40 rfl rfl HG.out (by kernel_rfl) rfl (by simp [Value.oneCell']) ?_))
          go_meet
          exact ⟨gp, rfl, HG.out.setRow _, below_setRow' KC.out hgz _⟩
      case rest =>
        obtain ⟨g, rfl, hr, hb⟩ := hcut
        obtain ⟨z, hz⟩ := later_of (W := W0) (HKV.out.trans (hb.mono HKV.out.size))
        subst hz
        have c0 := hr.cell 0 (v := .int .i64 lo) rfl
        have c1 := hr.cell 1 (v := .int .i64 hv) rfl
        clear hr hb x0 x1 q0 q1
        by_cases a1 : hv ≤ most
        · have hw2 : WV (k + 1) = 2 := by rw [HWV.out, if_pos a1]
          have HW2 := Lib.hid hw2
          clear hw2 HWV
          go_wp2_with fail
          go_roundw
          case rel => exact ⟨k + 1, z, by omega, by go_num, by rw [HW2.out], rfl⟩
          case measure => simp [intOf]; omega
        · have a1' := eq_false a1
          by_cases a2 : lo ≤ most
          · have hw2 : WV (k + 1) = max wv 1 := by rw [HWV.out, if_neg a1, if_pos a2]
            have HW2 := Lib.hid hw2
            clear hw2 HWV
            rcases h3 with rfl | rfl | rfl
            all_goals
              go_wp2_with fail
              go_roundw
              case rel => exact ⟨k + 1, z, by omega, by go_num, by rw [HW2.out]; rfl, rfl⟩
              case measure => simp [intOf]; omega
          · have a2' := eq_false a2
            have hw2 : WV (k + 1) = wv := by rw [HWV.out, if_neg a1, if_neg a2]
            have HW2 := Lib.hid hw2
            clear hw2 HWV
            go_wp2_with fail
            go_roundw
            case rel => exact ⟨k + 1, z, by omega, by go_num, by rw [HW2.out], rfl⟩
            case measure => simp [intOf]; omega
    · obtain rfl : k = l.length := by omega
      go_wp2_with fail
      go_ret
      exact ⟨by rw [← HLn.out]; rfl, x.base HE.out⟩
set_option maxRecDepth 100000 in
set_option maxHeartbeats 6400000 in
theorem refServed_any (b : Yb) (P : Yp) (hok : YbOk b) (i : Nat) (hi : i < b.lots.length) (w : World) (hB : YbAt w P b) :
    Calls Try.prog 67 #[.agg (ybA b P), .int .i64 (i : Int)] w fun e w' => e = .returned (.int .i64 (kindN (fun k => servK b k i))) ∧ Below w.heap.size w w' := by
  obtain ⟨pl, cl, pd, cd, pb, cb, ps, cs⟩ := P
  obtain ⟨W0, hW0⟩ : ∃ W, W = w.alloc (.cells (ybA b ⟨pl, cl, pd, cd, pb, cb, ps, cs⟩) 25) := ⟨_, rfl⟩
  have HW0 := Lib.hid hW0
  have HE := Lib.hid (show Below w.heap.size w W0 by rw [hW0]; exact below_alloc _ _)
  have HRx := Lib.hid (show Row W0 w.heap.size (ybA b ⟨pl, cl, pd, cd, pb, cb, ps, cs⟩) 25 by rw [hW0]; exact Row.new _ _ _)
  have HB := Lib.hid (hB.below HE.out)
  have h0 := hok.e0
  have g0 := HRx.out.cell 0 (v := .slice pl b.lots.length cl) rfl
  have g1 := HRx.out.cell 1 (v := .slice pd b.doors.length cd) rfl
  have g2 := HRx.out.cell 2 (v := .slice pb b.buckets.length cb) rfl
  have g3 := HRx.out.cell 3 (v := .slice ps b.spare.length cs) rfl
  have g4 := HRx.out.cell 4 (v := .int .i64 b.apart) rfl
  have g5 := HRx.out.cell 5 (v := .int .i64 b.door) rfl
  have g6 := HRx.out.cell 6 (v := .int .i64 b.bucket) rfl
  have g7 := HRx.out.cell 7 (v := .int .i64 b.err) rfl
  have HD := Lib.hid (fun w' (h : Below W0.heap.size W0 w') => refWithin_any b ⟨pl, cl, pd, cd, pb, cb, ps, cs⟩ hok i hi pd cd b.doors (by have := hok.d3; omega) hok.sd b.door w' (HB.out.l.below h) (HB.out.d.below h))
  have HU := Lib.hid (fun w' (h : Below W0.heap.size W0 w') => refWithin_any b ⟨pl, cl, pd, cd, pb, cb, ps, cs⟩ hok i hi pb cb b.buckets hok.b4 hok.sb b.bucket w' (HB.out.l.below h) (HB.out.u.below h))
  have hk : kindN (fun k => servK b k i) = min (kindN (fun k => reachK b k i b.doors b.door)) (kindN (fun k => reachK b k i b.buckets b.bucket)) := kind_and (P := fun k => reachK b k i b.doors b.door) (Q := fun k => reachK b k i b.buckets b.bucket) (fun h => reach_ends h0 h) (fun h => reach_ends h0 h)
  have hd3 : kindN (fun k => reachK b k i b.doors b.door) = 0 ∨ kindN (fun k => reachK b k i b.doors b.door) = 1 ∨ kindN (fun k => reachK b k i b.doors b.door) = 2 := by
    rcases kindN_two' (f := fun k => reachK b k i b.doors b.door) (fun h => reach_ends h0 h) with ⟨_, h⟩ | ⟨_, _, h⟩ | ⟨_, _, h⟩ <;> simp [h]
  have hu3 : kindN (fun k => reachK b k i b.buckets b.bucket) = 0 ∨ kindN (fun k => reachK b k i b.buckets b.bucket) = 1 ∨ kindN (fun k => reachK b k i b.buckets b.bucket) = 2 := by
    rcases kindN_two' (f := fun k => reachK b k i b.buckets b.bucket) (fun h => reach_ends h0 h) with ⟨_, h⟩ | ⟨_, _, h⟩ | ⟨_, _, h⟩ <;> simp [h]
  rw [hk]
  obtain ⟨dv, hdv⟩ : ∃ v, kindN (fun k => reachK b k i b.doors b.door) = v := ⟨_, rfl⟩
  obtain ⟨uv, huv⟩ : ∃ v, kindN (fun k => reachK b k i b.buckets b.bucket) = v := ⟨_, rfl⟩
  rw [hdv] at HD hd3 ⊢
  rw [huv] at HU hu3 ⊢
  clear hk hdv huv hW0 hB hok
  rcases hd3 with rfl | rfl | rfl <;> rcases hu3 with rfl | rfl | rfl
  all_goals
    go_enter Try.func67, Try.ntmps67
    go_upto_region 1 with (fail)
    rw [← HW0.out]
    refine wp_region_later (by kernel_rfl) (by kernel_rfl) ?_
    repeat (go_big_quiet_step (first
      | (go_at_call 100; with_reducible exact Calls.later_of (HD.out _ (Later.b _)))
      | (go_at_call 100; with_reducible exact Calls.later_of (HU.out _ (Later.b _)))))
    refine wpQuiet_nil ?_
    intro _ hw'
    obtain ⟨y, hw''⟩ := hw'
    subst hw''
    go_wp2_with fail
    go_ret
    exact ⟨rfl, y.base HE.out⟩
end Go.Proofs.Ytajkgfeockcbpaa
/- The specification's functions of layer 6: what is allowed, what is asked. -/
namespace Go.Proofs.Ytajkgfeockcbpaa
open Go.RowKit Go.Maps
attribute [local go_sem] Oper.semAt_some

/-- Is one of a choice served, and near to none ahead of it? At an end of the truths. -/
def oneK (b : Yb) (k : Bool) (l : List Nat) (i : Nat) : Bool := servK b k (l.getD i 0) && (List.range i).all fun q => !nearK b k (l.getD q 0) (l.getD i 0)
def allK (b : Yb) (k : Bool) (l : List Nat) (i : Nat) : Bool := (List.range i).all (oneK b k l)
def midK (b : Yb) (k : Bool) (l : List Nat) (i j : Nat) : Bool := allK b k l i && (servK b k (l.getD i 0) && (List.range j).all fun q => !nearK b k (l.getD q 0) (l.getD i 0))
theorem allK_succ (b : Yb) (k : Bool) (l : List Nat) (i : Nat) : allK b k l (i + 1) = midK b k l i i := by
  show (List.range (i + 1)).all (oneK b k l) = ((List.range i).all (oneK b k l) && oneK b k l i)
  rw [List.range_succ, List.all_append]
  simp
theorem midK_zero (b : Yb) (k : Bool) (l : List Nat) (i : Nat) : midK b k l i 0 = (allK b k l i && servK b k (l.getD i 0)) := by
  unfold midK
  simp
theorem midK_succ (b : Yb) (k : Bool) (l : List Nat) (i j : Nat) : midK b k l i (j + 1) = (midK b k l i j && !nearK b k (l.getD j 0) (l.getD i 0)) := by
  unfold midK
  rw [List.range_succ, List.all_append]
  simp [Bool.and_assoc]
theorem near_ends {b : Yb} (h0 : 0 ≤ b.err) {i j : Nat} (h : nearK b true i j = true) : nearK b false i j = true := by
  unfold nearK betw at h ⊢
  have := far_le h0 (lotAt b i).sp (lotAt b j).sp
  simp only [Bool.false_eq_true, if_false, if_true, decide_eq_true_eq] at h ⊢
  omega
theorem apart_ends {b : Yb} (h0 : 0 ≤ b.err) {i j : Nat} (h : (!nearK b false i j) = true) : (!nearK b true i j) = true := by
  cases h2 : nearK b true i j
  · rfl
  · rw [near_ends h0 h2] at h
    cases h
theorem oneK_ends {b : Yb} (h0 : 0 ≤ b.err) {l : List Nat} {i : Nat} (h : oneK b false l i = true) : oneK b true l i = true := by
  unfold oneK at h ⊢
  rw [Bool.and_eq_true, List.all_eq_true] at h ⊢
  exact ⟨serv_ends h0 h.1, fun q hq => apart_ends h0 (h.2 q hq)⟩
theorem allK_ends {b : Yb} (h0 : 0 ≤ b.err) {l : List Nat} {i : Nat} (h : allK b false l i = true) : allK b true l i = true := by
  unfold allK at h ⊢
  rw [List.all_eq_true] at h ⊢
  exact fun q hq => oneK_ends h0 (h q hq)
theorem midK_ends {b : Yb} (h0 : 0 ≤ b.err) {l : List Nat} {i j : Nat} (h : midK b false l i j = true) : midK b true l i j = true := by
  unfold midK at h ⊢
  rw [Bool.and_eq_true, Bool.and_eq_true, List.all_eq_true] at h ⊢
  exact ⟨allK_ends h0 h.1, serv_ends h0 h.2.1, fun q hq => apart_ends h0 (h.2.2 q hq)⟩
theorem kind_apart (b : Yb) (i j : Nat) : kindN (fun k => !nearK b k i j) = 2 - kindN (fun k => nearK b k i j) := by
  rw [kindN_as (fun k => !nearK b k i j) (!nearK b false i j) (!nearK b true i j) rfl rfl, kindN_as (fun k => nearK b k i j) _ _ rfl rfl]
  generalize nearK b false i j = x
  generalize nearK b true i j = y
  cases x <;> cases y <;> rfl
def allV (b : Yb) (l : List Nat) (i : Nat) : Int := kindN fun k => allK b k l i
def midV (b : Yb) (l : List Nat) (i j : Nat) : Int := kindN fun k => midK b k l i j
theorem allV_zero (b : Yb) (l : List Nat) : allV b l 0 = 2 := rfl
theorem allV_succ (b : Yb) (l : List Nat) (i : Nat) : allV b l (i + 1) = midV b l i i := by
  unfold allV midV
  simp only [allK_succ]
theorem midV_zero {b : Yb} (h0 : 0 ≤ b.err) (l : List Nat) (i : Nat) : midV b l i 0 = min (allV b l i) (kindN fun k => servK b k (l.getD i 0)) := by
  unfold midV allV
  simp only [midK_zero]
  exact kind_and (P := fun k => allK b k l i) (Q := fun k => servK b k (l.getD i 0)) (fun h => allK_ends h0 h) (fun h => serv_ends h0 h)
theorem midV_succ {b : Yb} (h0 : 0 ≤ b.err) (l : List Nat) (i j : Nat) : midV b l i (j + 1) = min (midV b l i j) (2 - kindN fun k => nearK b k (l.getD j 0) (l.getD i 0)) := by
  rw [← kind_apart]
  unfold midV
  simp only [midK_succ]
  exact kind_and (P := fun k => midK b k l i j) (Q := fun k => !nearK b k (l.getD j 0) (l.getD i 0)) (fun h => midK_ends h0 h) (fun h => apart_ends h0 h)
theorem kind3 {f : Bool → Bool} : kindN f = 0 ∨ kindN f = 1 ∨ kindN f = 2 := by
  rw [kindN_as f _ _ rfl rfl]
  generalize f false = x
  generalize f true = y
  cases x <;> cases y <;> simp
theorem allK_is (b : Yb) (k : Bool) (f : Nat → Bool) : allK b k (lotsL f) (lotsL f).length = allowK b k f := by
  rw [Bool.eq_iff_iff, allowK_iff]
  have hs := List.pairwise_iff_getElem.1 (lotsL_sorted f)
  have hg : ∀ i (hi : i < (lotsL f).length), (lotsL f).getD i 0 = (lotsL f)[i] := fun i hi => by simp [List.getD, hi]
  unfold allK oneK
  rw [List.all_eq_true]
  constructor
  · intro h
    have key : ∀ i (hi : i < (lotsL f).length), servK b k (lotsL f)[i] = true ∧ ∀ q (hq : q < i), nearK b k ((lotsL f)[q]'(by omega)) (lotsL f)[i] = false := fun i hi => by
      have h1 := h i (List.mem_range.2 hi)
      rw [Bool.and_eq_true, List.all_eq_true, hg i hi] at h1
      refine ⟨h1.1, fun q hq => ?_⟩
      have h2 := h1.2 q (List.mem_range.2 hq)
      rw [hg q (by omega)] at h2
      simpa using h2
    refine ⟨fun i hi hf => ?_, fun i j hi hj hij hfi hfj => ?_⟩
    · obtain ⟨q, hq, rfl⟩ := List.mem_iff_getElem.1 (lotsL_mem.2 ⟨hi, hf⟩)
      exact (key q hq).1
    · obtain ⟨q, hq, rfl⟩ := List.mem_iff_getElem.1 (lotsL_mem.2 ⟨hi, hfi⟩)
      obtain ⟨r, hr, rfl⟩ := List.mem_iff_getElem.1 (lotsL_mem.2 ⟨hj, hfj⟩)
      have hqr : q < r := by
        rcases Nat.lt_trichotomy q r with h | h | h
        · exact h
        · subst h; omega
        · have := hs r q hr hq h
          omega
      exact (key r hr).2 q hqr
  · rintro ⟨h1, h2⟩ i hi
    have hi := List.mem_range.1 hi
    have hm := lotsL_mem.1 (List.getElem_mem hi)
    rw [Bool.and_eq_true, List.all_eq_true, hg i hi]
    refine ⟨h1 _ hm.1 hm.2, fun q hq => ?_⟩
    have hq := List.mem_range.1 hq
    have hmq := lotsL_mem.1 (List.getElem_mem (show q < (lotsL f).length by omega))
    rw [hg q (by omega), h2 _ _ hmq.1 hm.1 (hs q i (by omega) hi hq) hmq.2 hm.2]
    rfl
set_option maxRecDepth 100000 in
set_option maxHeartbeats 6400000 in
theorem refAllowed_any (b : Yb) (P : Yp) (hok : YbOk b) (m : List Nat) (hm7 : m.length ≤ 7) (hml : ∀ x ∈ m, x < b.lots.length) (pm : Option Addr) (cm : Nat) (w : World) (hB : YbAt w P b) (hM : IntsAt w pm (intsN m)) :
    Calls Try.prog 72 #[.agg (ybA b P), .slice pm (intsN m).length cm] w fun e w' => e = .returned (.int .i64 (allV b m m.length)) ∧ Below w.heap.size w w' := by
  obtain ⟨pl, cl, pd, cd, pb, cb, ps, cs⟩ := P
  obtain ⟨W0, hW0⟩ : ∃ W, W = w.alloc (.cells (ybA b ⟨pl, cl, pd, cd, pb, cb, ps, cs⟩) 25) := ⟨_, rfl⟩
  have HW0 := Lib.hid hW0
  have HE := Lib.hid (show Below w.heap.size w W0 by rw [hW0]; exact below_alloc _ _)
  have HRx := Lib.hid (show Row W0 w.heap.size (ybA b ⟨pl, cl, pd, cd, pb, cb, ps, cs⟩) 25 by rw [hW0]; exact Row.new _ _ _)
  have HB := Lib.hid (hB.below HE.out)
  have h0 := hok.e0
  have g0 := HRx.out.cell 0 (v := .slice pl b.lots.length cl) rfl
  have g1 := HRx.out.cell 1 (v := .slice pd b.doors.length cd) rfl
  have g2 := HRx.out.cell 2 (v := .slice pb b.buckets.length cb) rfl
  have g3 := HRx.out.cell 3 (v := .slice ps b.spare.length cs) rfl
  have g4 := HRx.out.cell 4 (v := .int .i64 b.apart) rfl
  have g5 := HRx.out.cell 5 (v := .int .i64 b.door) rfl
  have g6 := HRx.out.cell 6 (v := .int .i64 b.bucket) rfl
  have g7 := HRx.out.cell 7 (v := .int .i64 b.err) rfl
  have HSV := Lib.hid (fun i (hi : i < b.lots.length) w' (h : From W0 w') => refServed_any b ⟨pl, cl, pd, cd, pb, cb, ps, cs⟩ hok i hi w' (HB.out.below h.b))
  have HNR := Lib.hid (fun i j (hi : i < b.lots.length) (hj : j < b.lots.length) w' (h : From W0 w') => refNear_any b ⟨pl, cl, pd, cd, pb, cb, ps, cs⟩ hok i j hi hj w' (HB.out.l.below h.b))
  have HMC := Lib.hid (fun i (hi : i < m.length) => (by
    have h := (hM.below HE.out) i (by rw [intsN_len]; exact hi)
    rw [intsN_get hi] at h
    exact h : ∃ g o, pm = some ⟨g, o, none⟩ ∧ W0.cell? ⟨g, o + i, none⟩ = some (.int .i64 ((m[i] : Nat) : Int))))
  have HML := Lib.hid (fun i (hi : i < m.length) => hml _ (List.getElem_mem hi))
  have HGD := Lib.hid (fun i (hi : i < m.length) => (by simp [List.getD, hi] : m.getD i 0 = m[i]))
  have HA0 := Lib.hid (allV_zero b m)
  have HAS := Lib.hid (fun i => allV_succ b m i)
  have HM0 := Lib.hid (fun i => midV_zero h0 m i)
  have HMS := Lib.hid (fun i j => midV_succ h0 m i j)
  have HA3 : Hid (∀ i, allV b m i = 0 ∨ allV b m i = 1 ∨ allV b m i = 2) := Lib.hid (fun i => kind3)
  have HM3 : Hid (∀ i j, midV b m i j = 0 ∨ midV b m i j = 1 ∨ midV b m i j = 2) := Lib.hid (fun i j => kind3)
  obtain ⟨AV, hAV⟩ : ∃ f, allV b m = f := ⟨_, rfl⟩
  obtain ⟨MV, hMV⟩ : ∃ f, midV b m = f := ⟨_, rfl⟩
  rw [hAV] at HA0 HAS HM0 HA3 ⊢
  rw [hMV] at HAS HM0 HMS HM3
  rw [intsN_len]
  have z4 : (m.length : Int) ≤ 7 := by omega
  clear hAV hMV hW0 hB hM hml hok
  go_enter Try.func72, Try.ntmps72
  go_upto_region 1 with (fail)
  rw [← HW0.out]
  go_wp2_with fail
  go_loopw [5, 6] (fun a i wr => ∃ (k : Nat) (x : Later W0), k ≤ m.length ∧ i = .int .i64 (k : Int) ∧ a = .int .i64 (AV k) ∧ wr = x.w) (fun _ i _ => m.length - (intOf i).toNat)
  case atStart => exact ⟨0, ⟨W0, Below.refl _ _⟩, by omega, rfl, by rw [HA0.out], rfl⟩
  case round =>
    obtain ⟨k, x, hk, rfl, rfl, rfl⟩ := hrel
    by_cases hlt : k < m.length
    · obtain ⟨bm, om, hpm, hmc⟩ := HMC.out k hlt
      have hvl := HML.out k hlt
      have hgd := HGD.out k hlt
      have hm0 := HM0.out k
      obtain ⟨v, hv⟩ : ∃ v, m[k] = v := ⟨_, rfl⟩
      rw [hv] at hmc hvl hgd
      rw [hgd] at hm0
      have HG := Lib.hid hgd
      have HS := Lib.hid (HSV.out v hvl)
      have ha3 := HA3.out k
      have hs3 := kind3 (f := fun k => servK b k v)
      obtain ⟨av, hav⟩ : ∃ t, AV k = t := ⟨_, rfl⟩
      obtain ⟨sv, hsv⟩ : ∃ t, kindN (fun k => servK b k v) = t := ⟨_, rfl⟩
      rw [hav] at hm0 ha3 ⊢
      rw [hsv] at hm0 hs3 HS
      have HM := Lib.hid hm0
      subst hpm
      have i1 : (0 : Int) ≤ (k : Int) := by omega
      have i2 : (k : Int) < (m.length : Int) := by omega
      clear hv hgd hm0 hav hsv
      go_upto_region 5 with (fail)
      go_cut [5] from 14 to 21 (fun a5 wx => a5 = .int .i64 (MV k 0) ∧ ∃ z : Later W0, wx = z.w)
      case first =>
        rcases ha3 with rfl | rfl | rfl <;> rcases hs3 with rfl | rfl | rfl
        all_goals
          refine wp_region_later (by kernel_rfl) (by kernel_rfl) ?_
          repeat (go_big_quiet_step (first
            | (go_at_call 67; with_reducible exact Calls.later_of (HS.out _ (From.trans (Later.fr _) (Later.fr _))))))
          refine wpQuiet_nil ?_
          intro _ hw'
          obtain ⟨y, hw''⟩ := hw'
          subst hw''
          obtain ⟨x2, hx2⟩ := x.up y
          rw [hx2]
          go_wp2_with fail
          go_meet
          exact ⟨by rw [HM.out]; rfl, x2, rfl⟩
      case rest =>
        obtain ⟨rfl, z, rfl⟩ := hcut
        clear HS HM hs3 ha3
        go_wp2_with fail
        go_loopw [5, 7] (fun a i wr => ∃ (q : Nat) (x : Later W0), q ≤ k ∧ i = .int .i64 (q : Int) ∧ a = .int .i64 (MV k q) ∧ wr = x.w) (fun _ i _ => k - (intOf i).toNat)
        case atStart => exact ⟨0, z, by omega, rfl, rfl, rfl⟩
        case round =>
          clear x z
          obtain ⟨q, x, hq, rfl, rfl, rfl⟩ := hrel
          by_cases hqk : q < k
          · have hqm : q < m.length := by omega
            obtain ⟨bm', om', hpm', hmq⟩ := HMC.out q hqm
            cases hpm'
            have hul := HML.out q hqm
            have hgq := HGD.out q hqm
            have hms := HMS.out k q
            obtain ⟨u, hu⟩ : ∃ v, m[q] = v := ⟨_, rfl⟩
            rw [hu] at hmq hul hgq
            rw [hgq, HG.out] at hms
            have HN := Lib.hid (HNR.out u v hul hvl)
            have hm3 := HM3.out k q
            have hn3 := kind3 (f := fun k => nearK b k u v)
            obtain ⟨mv, hmv⟩ : ∃ t, MV k q = t := ⟨_, rfl⟩
            obtain ⟨nv, hnv⟩ : ∃ t, kindN (fun k => nearK b k u v) = t := ⟨_, rfl⟩
            rw [hmv] at hms hm3 ⊢
            rw [hnv] at hms hn3 HN
            have HM := Lib.hid hms
            have k1 : (0 : Int) ≤ (q : Int) := by omega
            have k2 : (q : Int) < (k : Int) := by omega
            have k3 : (q : Int) < (m.length : Int) := by omega
            clear hu hgq hms hmv hnv
            rcases hm3 with rfl | rfl | rfl <;> rcases hn3 with rfl | rfl | rfl
            all_goals
              go_wp2_with fail
              refine wp_region_later (by kernel_rfl) (by kernel_rfl) ?_
              repeat (go_big_quiet_step (first
                | (go_at_call 60; with_reducible exact Calls.later_of (HN.out _ (From.trans (Later.fr _) (Later.fr _))))))
              refine wpQuiet_nil ?_
              intro _ hw'
              obtain ⟨y, hw''⟩ := hw'
              subst hw''
              obtain ⟨x2, hx2⟩ := x.up y
              rw [hx2]
              clear hx2
              go_wp2_with fail
              go_roundw
              case rel => exact ⟨q + 1, x2, by omega, by go_num, by rw [HM.out]; rfl, rfl⟩
              case measure => simp [intOf]; omega
          · obtain rfl : q = k := by omega
            have HA := Lib.hid (HAS.out q)
            go_wp2_with fail
            go_roundw
            case rel => exact ⟨q + 1, x, by omega, by go_num, by rw [HA.out], rfl⟩
            case measure => simp [intOf]; omega
    · obtain rfl : k = m.length := by omega
      go_wp2_with fail
      go_ret
      exact ⟨rfl, x.base HE.out⟩
end Go.Proofs.Ytajkgfeockcbpaa
/- The specification's calls of layer 6: Near, Served, Allowed. -/
namespace Go.Proofs.Ytajkgfeockcbpaa
open Go.RowKit Go.Maps
attribute [local go_sem] Oper.semAt_some

/-- Behind which number the next one of a choice must be. -/
def nextK (l : List Int) (k : Nat) : Int := if k = 0 then 0 else at0 l (k - 1) + 1
theorem readL_step (many : Nat) {l : List Int} {k : Nat} (h : k < l.length) (nx : Int) (c : Nat → Bool) : readL many (l.drop k) nx c = if nx ≤ at0 l k ∧ at0 l k < many then readL many (l.drop (k + 1)) (at0 l k + 1) (withF c (at0 l k).toNat) else none := by
  rw [List.drop_eq_getElem_cons h, readL, at0_lt h]
theorem next_succ (l : List Int) (k : Nat) : nextK l (k + 1) = at0 l k + 1 := by
  unfold nextK
  rw [if_neg (by omega), Nat.add_sub_cancel]
set_option maxRecDepth 10000 in
set_option maxHeartbeats 3200000 in
theorem GrowsAll_any (p : Option Addr) (c : Nat) (l : List Int) (n : Nat) (hn : l.length < 2 ^ 61) (h1 : n ≤ 1000) (w : World) (hI : IntsAt w p l) :
    Calls Try.prog 38 #[.slice p l.length c, .int .i64 (n : Int)] w fun e w' => e = .returned (.bool (readL n l 0 noneF).isSome) ∧ Below w.heap.size w w' := by
  have HI := Lib.hid hI
  have HST := Lib.hid (fun k (hk : k < l.length) nx c => readL_step n hk nx c)
  have HNX := Lib.hid (fun k => next_succ l k)
  have HN0 : Hid (nextK l 0 = 0) := Lib.hid rfl
  have HNP : Hid (∀ k, 0 < k → nextK l k = at0 l (k - 1) + 1) := Lib.hid (fun k hk => by unfold nextK; rw [if_neg (by omega)])
  have HD0 : Hid (readL n (l.drop l.length) = fun _ c => some c) := Lib.hid (by funext a c; rw [List.drop_length, readL])
  have HDZ : Hid (l.drop 0 = l) := Lib.hid rfl
  obtain ⟨R, hR⟩ : ∃ r, readL n l 0 noneF = r := ⟨_, rfl⟩
  obtain ⟨D, hD⟩ : ∃ f : Nat → Int → (Nat → Bool) → Option (Nat → Bool), f = fun k => readL n (l.drop k) := ⟨_, rfl⟩
  have HDS := Lib.hid (fun k (hk : k < l.length) nx c => (by rw [hD]; exact HST.out k hk nx c : D k nx c = if nx ≤ at0 l k ∧ at0 l k < n then D (k + 1) (at0 l k + 1) (withF c (at0 l k).toNat) else none))
  have HDL := Lib.hid (fun nx c => (by rw [hD]; show readL n (l.drop l.length) nx c = some c; rw [HD0.out] : D l.length nx c = some c))
  have HD1 := Lib.hid (show D 0 (nextK l 0) noneF = R by rw [hD, HN0.out, ← hR]; show readL n (l.drop 0) 0 noneF = _; rw [HDZ.out])
  rw [hR]
  have e1 : IntKind.i64.wrap ((n : Int) - 1) = (n : Int) - 1 := IntWalk.i64_in _ (by omega)
  clear hI hR hD HD0 HDZ HST
  go_enter Try.func38, Try.ntmps38
  go_wp2_with fail
  go_loopw [5] (fun i wr => ∃ (k : Nat) (x : Later w), k ≤ l.length ∧ i = .int .i64 (k : Int) ∧ Hid (0 ≤ nextK l k ∧ ∃ c, D k (nextK l k) c = R) ∧ wr = x.w) (fun i _ => l.length - (intOf i).toNat)
  case atStart => exact ⟨0, ⟨w, Below.refl _ _⟩, by omega, rfl, Lib.hid ⟨by rw [HN0.out]; omega, noneF, HD1.out⟩, rfl⟩
  case round =>
    obtain ⟨k, x, hk, rfl, HQ, rfl⟩ := hrel
    by_cases hlt : k < l.length
    · obtain ⟨g, o, rfl, hc⟩ := HI.out k hlt
      have i1 : (0 : Int) ≤ (k : Int) := by omega
      have i2 : (k : Int) < (l.length : Int) := by omega
      have i3 : (l.length : Int) < 2305843009213693952 := by omega
      have hds := HDS.out k hlt (nextK l k)
      have hnx := HNX.out k
      obtain ⟨hq0, c', hq⟩ := HQ.out
      have hds := hds c'
      rw [hq] at hds
      have hnp := HNP.out k
      obtain ⟨nx, hnxe⟩ : ∃ v, nextK l k = v := ⟨_, rfl⟩
      have HNE := Lib.hid hnxe
      rw [hnxe] at hq0 hds hnp
      have HFT := Lib.hid (fun w' => Fits_any (at0 l k) 0 ((n : Int) - 1) w')
      obtain ⟨v, hv⟩ : ∃ v, at0 l k = v := ⟨_, rfl⟩
      rw [hv] at hc hds hnx HFT
      clear hq hnxe
      by_cases hf : 0 ≤ v ∧ v ≤ (n : Int) - 1
      · rw [show fits v 0 ((n : Int) - 1) = true by simp [fits]; omega] at HFT
        by_cases h0 : k = 0
        · subst h0
          rw [Nat.add_zero] at hc
          have hn0 : nx = 0 := by rw [← HNE.out]; exact HN0.out
          have HG : Hid (0 ≤ nextK l (0 + 1) ∧ ∃ c, D (0 + 1) (nextK l (0 + 1)) c = R) := Lib.hid ⟨by rw [hnx]; omega, _, by rw [hnx, hds, if_pos ⟨by omega, by omega⟩]⟩
          clear hds hnp hnx
          go_wp2_with fail
          refine wp_region_later (by kernel_rfl) (by kernel_rfl) ?_
          repeat (go_big_quiet_step (first
            | (go_at_call 43; with_reducible exact Calls.later_same (HFT.out _))))
          refine wpQuiet_nil ?_
          intro _ hw'
          obtain ⟨y, hw''⟩ := hw'
          subst hw''
          obtain ⟨x2, hx2⟩ := x.up y
          rw [hx2]
          clear hx2
          go_wp2_with fail
          go_roundw
          case rel => exact ⟨(0 + 1), x2, by omega, by go_num, HG, rfl⟩
          case measure => simp [intOf]; omega
        · have i4 : 0 < k := by omega
          obtain ⟨g', o', e', hc'⟩ := HI.out (k - 1) (by omega)
          cases e'
          have hnp2 := hnp i4
          obtain ⟨u, hu⟩ : ∃ v, at0 l (k - 1) = v := ⟨_, rfl⟩
          rw [hu] at hc' hnp2
          have e2 : IntKind.i64.wrap ((k : Int) - 1) = (k : Int) - 1 := IntWalk.i64_in _ (by omega)
          have e6 : ((k : Int) - 1).toNat = k - 1 := by omega
          have i5 : (0 : Int) ≤ (k : Int) - 1 := by omega
          have i6 : (k : Int) - 1 < (l.length : Int) := by omega
          have i7 : (0 : Int) < (k : Int) := by omega
          by_cases hle : v ≤ u
          · have HRN := Lib.hid (show R.isSome = false by rw [hds, if_neg (by omega)]; rfl)
            clear hds hnp hnx
            go_wp2_with fail
            refine wp_region_later (by kernel_rfl) (by kernel_rfl) ?_
            repeat (go_big_quiet_step (first
              | (go_at_call 43; with_reducible exact Calls.later_same (HFT.out _))))
            refine wpQuiet_nil ?_
            intro _ hw'
            obtain ⟨y, hw''⟩ := hw'
            subst hw''
            obtain ⟨x2, hx2⟩ := x.up y
            rw [hx2]
            clear hx2
            go_wp2_with fail
            go_ret
            exact ⟨by rw [HRN.out]; rfl, x2.b⟩
          · have hle' := eq_false hle
            have HG : Hid (0 ≤ nextK l (k + 1) ∧ ∃ c, D (k + 1) (nextK l (k + 1)) c = R) := Lib.hid ⟨by rw [hnx]; omega, _, by rw [hnx, hds, if_pos ⟨by omega, by omega⟩]⟩
            clear hds hnp hnx
            go_wp2_with fail
            refine wp_region_later (by kernel_rfl) (by kernel_rfl) ?_
            repeat (go_big_quiet_step (first
              | (go_at_call 43; with_reducible exact Calls.later_same (HFT.out _))))
            refine wpQuiet_nil ?_
            intro _ hw'
            obtain ⟨y, hw''⟩ := hw'
            subst hw''
            obtain ⟨x2, hx2⟩ := x.up y
            rw [hx2]
            clear hx2
            go_wp2_with fail
            go_roundw
            case rel => exact ⟨(k + 1), x2, by omega, by go_num, HG, rfl⟩
            case measure => simp [intOf]; omega
      · rw [show fits v 0 ((n : Int) - 1) = false by simp [fits]; omega] at HFT
        have HRN := Lib.hid (show R.isSome = false by rw [hds, if_neg (by omega)]; rfl)
        clear hds hnp hnx
        go_wp2_with fail
        refine wp_region_later (by kernel_rfl) (by kernel_rfl) ?_
        repeat (go_big_quiet_step (first
          | (go_at_call 43; with_reducible exact Calls.later_same (HFT.out _))))
        refine wpQuiet_nil ?_
        intro _ hw'
        obtain ⟨y, hw''⟩ := hw'
        subst hw''
        obtain ⟨x2, hx2⟩ := x.up y
        rw [hx2]
        clear hx2
        go_wp2_with fail
        go_ret
        exact ⟨by rw [HRN.out]; rfl, x2.b⟩
    · obtain rfl : k = l.length := by omega
      have hR : R.isSome = true := by
        obtain ⟨_, c', hq⟩ := HQ.out
        rw [HDL.out] at hq
        rw [← hq]; rfl
      have HR := Lib.hid hR
      clear hR
      go_wp2_with fail
      go_ret
      exact ⟨by rw [HR.out]; rfl, x.b⟩
set_option maxRecDepth 100000 in
set_option maxHeartbeats 3200000 in
theorem refServed_api (b : Yb) (P : Yp) (i : Int) (w : World) (hB : YbAt w P b)  :
    Calls Try.prog 19 #[.agg (ybA b P), .int .i64 i] w fun e w' => e = .returned (.tuple #[.int .i64 (servA b i).1, .int .i64 (servA b i).2]) ∧ Below w.heap.size w w' := by
  obtain ⟨pl, cl, pd, cd, pb, cb, ps, cs⟩ := P
  obtain ⟨W0, hW0⟩ : ∃ W, W = w.alloc (.cells (ybA b ⟨pl, cl, pd, cd, pb, cb, ps, cs⟩) 25) := ⟨_, rfl⟩
  have HW0 := Lib.hid hW0
  have HE := Lib.hid (show Below w.heap.size w W0 by rw [hW0]; exact below_alloc _ _)
  have HRx := Lib.hid (show Row W0 w.heap.size (ybA b ⟨pl, cl, pd, cd, pb, cb, ps, cs⟩) 25 by rw [hW0]; exact Row.new _ _ _)
  have HB := Lib.hid (hB.below HE.out)
  have g0 := HRx.out.cell 0 (v := .slice pl b.lots.length cl) rfl
  have g1 := HRx.out.cell 1 (v := .slice pd b.doors.length cd) rfl
  have g2 := HRx.out.cell 2 (v := .slice pb b.buckets.length cb) rfl
  have g3 := HRx.out.cell 3 (v := .slice ps b.spare.length cs) rfl
  have g4 := HRx.out.cell 4 (v := .int .i64 b.apart) rfl
  have g5 := HRx.out.cell 5 (v := .int .i64 b.door) rfl
  have g6 := HRx.out.cell 6 (v := .int .i64 b.bucket) rfl
  have g7 := HRx.out.cell 7 (v := .int .i64 b.err) rfl
  have HCK := Lib.hid (refCheck_any b ⟨pl, cl, pd, cd, pb, cb, ps, cs⟩ W0 HB.out)
  clear hW0 hB
  cases hb : yardB b
  · rw [yardE_bad hb] at HCK
    have HV : Hid (servA b i = (0, 60)) := Lib.hid (by unfold servA; rw [hb]; rfl)
    clear hb
    go_enter Try.func19, Try.ntmps19
    go_upto_region 1 with (fail)
    rw [← HW0.out]
    go_wp2_with (first | (go_at_call 17; (with_reducible refine HCK.out.mono ?_); rintro e u ⟨rfl, hbu⟩; obtain ⟨x0, hx0⟩ := later_of hbu; subst hx0; clear hbu))
    exact bodyPost_ret (v := .tuple #[.int .i64 (0), .int .i64 60]) (results_tmp2 Try.results19 _ _ _) rfl ⟨by rw [HV.out], x0.base HE.out⟩
  rw [yardE_ok hb] at HCK
  have hok := yardB_ok hb
  have hn7 := hok.n7
  have HL := Lib.hid (fun w' => refIsLot_any b ⟨pl, cl, pd, cd, pb, cb, ps, cs⟩ i (by omega) w')
  cases hl : lotOk b i
  · rw [hl] at HL
    have HV : Hid (servA b i = (0, 61)) := Lib.hid (by unfold servA; rw [hb, if_pos rfl, hl]; rfl)
    clear hb hl hok
    go_enter Try.func19, Try.ntmps19
    go_upto_region 1 with (fail)
    rw [← HW0.out]
    go_wp2_with (first
      | (go_at_call 17; (with_reducible refine HCK.out.mono ?_); rintro e u ⟨rfl, hbu⟩; obtain ⟨x0, hx0⟩ := later_of hbu; subst hx0; clear hbu)
      | (go_at_call 59; (with_reducible refine (HL.out _).mono ?_); rintro e u ⟨rfl, hbu⟩; obtain ⟨x1, hz⟩ := x0.on hbu; subst hz; clear hbu))
    exact bodyPost_ret (v := .tuple #[.int .i64 (0), .int .i64 61]) (results_tmp2 Try.results19 _ _ _) rfl ⟨by rw [HV.out], x1.base HE.out⟩
  · rw [hl] at HL
    have hli := (lotOk_iff b i).1 hl
    obtain ⟨j, rfl⟩ : ∃ j : Nat, i = j := ⟨i.toNat, by omega⟩
    have HS := Lib.hid (fun w' (h : Below W0.heap.size W0 w') => refServed_any b ⟨pl, cl, pd, cd, pb, cb, ps, cs⟩ hok j (by omega) w' (HB.out.below h))
    have HV : Hid (servA b (j : Int) = (kindN (fun k => servK b k j), 0)) := Lib.hid (by unfold servA; rw [hb, if_pos rfl, hl]; rfl)
    clear hb hl hok
    go_enter Try.func19, Try.ntmps19
    go_upto_region 1 with (fail)
    rw [← HW0.out]
    go_wp2_with (first
      | (go_at_call 17; (with_reducible refine HCK.out.mono ?_); rintro e u ⟨rfl, hbu⟩; obtain ⟨x0, hx0⟩ := later_of hbu; subst hx0; clear hbu)
      | (go_at_call 59; (with_reducible refine (HL.out _).mono ?_); rintro e u ⟨rfl, hbu⟩; obtain ⟨x1, hz⟩ := x0.on hbu; subst hz; clear hbu)
      | (go_at_call 67; (with_reducible refine (HS.out _ (Later.b _)).mono ?_); rintro e u ⟨rfl, hbu⟩; obtain ⟨x2, hz⟩ := x1.on hbu; subst hz; clear hbu))
    exact bodyPost_ret (v := .tuple #[.int .i64 (kindN (fun k => servK b k j)), .int .i64 0]) (results_tmp2 Try.results19 _ _ _) rfl ⟨by rw [HV.out], x2.base HE.out⟩
set_option maxRecDepth 100000 in
set_option maxHeartbeats 3200000 in
theorem refNear_api (b : Yb) (P : Yp) (i j : Int) (w : World) (hB : YbAt w P b)  :
    Calls Try.prog 15 #[.agg (ybA b P), .int .i64 i, .int .i64 j] w fun e w' => e = .returned (.tuple #[.int .i64 (nearA b i j).1, .int .i64 (nearA b i j).2]) ∧ Below w.heap.size w w' := by
  obtain ⟨pl, cl, pd, cd, pb, cb, ps, cs⟩ := P
  obtain ⟨W0, hW0⟩ : ∃ W, W = w.alloc (.cells (ybA b ⟨pl, cl, pd, cd, pb, cb, ps, cs⟩) 25) := ⟨_, rfl⟩
  have HW0 := Lib.hid hW0
  have HE := Lib.hid (show Below w.heap.size w W0 by rw [hW0]; exact below_alloc _ _)
  have HRx := Lib.hid (show Row W0 w.heap.size (ybA b ⟨pl, cl, pd, cd, pb, cb, ps, cs⟩) 25 by rw [hW0]; exact Row.new _ _ _)
  have HB := Lib.hid (hB.below HE.out)
  have g0 := HRx.out.cell 0 (v := .slice pl b.lots.length cl) rfl
  have g1 := HRx.out.cell 1 (v := .slice pd b.doors.length cd) rfl
  have g2 := HRx.out.cell 2 (v := .slice pb b.buckets.length cb) rfl
  have g3 := HRx.out.cell 3 (v := .slice ps b.spare.length cs) rfl
  have g4 := HRx.out.cell 4 (v := .int .i64 b.apart) rfl
  have g5 := HRx.out.cell 5 (v := .int .i64 b.door) rfl
  have g6 := HRx.out.cell 6 (v := .int .i64 b.bucket) rfl
  have g7 := HRx.out.cell 7 (v := .int .i64 b.err) rfl
  have HCK := Lib.hid (refCheck_any b ⟨pl, cl, pd, cd, pb, cb, ps, cs⟩ W0 HB.out)
  clear hW0 hB
  cases hb : yardB b
  · rw [yardE_bad hb] at HCK
    have HV : Hid (nearA b i j = (0, 60)) := Lib.hid (by unfold nearA; rw [hb]; rfl)
    clear hb
    go_enter Try.func15, Try.ntmps15
    go_upto_region 1 with (fail)
    rw [← HW0.out]
    go_wp2_with (first | (go_at_call 17; (with_reducible refine HCK.out.mono ?_); rintro e u ⟨rfl, hbu⟩; obtain ⟨x0, hx0⟩ := later_of hbu; subst hx0; clear hbu))
    exact bodyPost_ret (v := .tuple #[.int .i64 (0), .int .i64 60]) (results_tmp2 Try.results15 _ _ _) rfl ⟨by rw [HV.out], x0.base HE.out⟩
  rw [yardE_ok hb] at HCK
  have hok := yardB_ok hb
  have hn7 := hok.n7
  have HL := Lib.hid (fun w' => refIsLot_any b ⟨pl, cl, pd, cd, pb, cb, ps, cs⟩ i (by omega) w')
  have HM := Lib.hid (fun w' => refIsLot_any b ⟨pl, cl, pd, cd, pb, cb, ps, cs⟩ j (by omega) w')
  cases hl : lotOk b i
  · rw [hl] at HL
    have HV : Hid (nearA b i j = (0, 61)) := Lib.hid (by unfold nearA; rw [hb, if_pos rfl, hl]; rfl)
    clear hb hl hok
    go_enter Try.func15, Try.ntmps15
    go_upto_region 1 with (fail)
    rw [← HW0.out]
    go_wp2_with (first
      | (go_at_call 17; (with_reducible refine HCK.out.mono ?_); rintro e u ⟨rfl, hbu⟩; obtain ⟨x0, hx0⟩ := later_of hbu; subst hx0; clear hbu)
      | (go_at_call 59; (with_reducible refine (HL.out _).mono ?_); rintro e u ⟨rfl, hbu⟩; obtain ⟨x1, hz⟩ := x0.on hbu; subst hz; clear hbu))
    exact bodyPost_ret (v := .tuple #[.int .i64 (0), .int .i64 61]) (results_tmp2 Try.results15 _ _ _) rfl ⟨by rw [HV.out], x1.base HE.out⟩
  cases hm : lotOk b j
  · rw [hl] at HL
    rw [hm] at HM
    have HV : Hid (nearA b i j = (0, 61)) := Lib.hid (by unfold nearA; rw [hb, if_pos rfl, hl, hm]; rfl)
    have hij : i ≠ j := by rintro rfl; rw [hl] at hm; cases hm
    clear hb hl hm hok
    go_enter Try.func15, Try.ntmps15
    go_upto_region 1 with (fail)
    rw [← HW0.out]
    go_wp2_with (first
      | (go_at_call 17; (with_reducible refine HCK.out.mono ?_); rintro e u ⟨rfl, hbu⟩; obtain ⟨x0, hx0⟩ := later_of hbu; subst hx0; clear hbu)
      | (go_at_call 59; (with_reducible refine (HL.out _).mono ?_); rintro e u ⟨rfl, hbu⟩; obtain ⟨x1, hz⟩ := x0.on hbu; subst hz; clear hbu)
      | (go_at_call 59; (with_reducible refine (HM.out _).mono ?_); rintro e u ⟨rfl, hbu⟩; obtain ⟨x2, hz⟩ := x1.on hbu; subst hz; clear hbu))
    exact bodyPost_ret (v := .tuple #[.int .i64 (0), .int .i64 61]) (results_tmp2 Try.results15 _ _ _) rfl ⟨by rw [HV.out], x2.base HE.out⟩
  rw [hl] at HL
  rw [hm] at HM
  by_cases hij : i = j
  · subst hij
    have HV : Hid (nearA b i i = (0, 61)) := Lib.hid (by unfold nearA; rw [hb, if_pos rfl, hl, if_pos (by rfl), if_pos rfl])
    clear hb hl hm hok
    go_enter Try.func15, Try.ntmps15
    go_upto_region 1 with (fail)
    rw [← HW0.out]
    go_wp2_with (first
      | (go_at_call 17; (with_reducible refine HCK.out.mono ?_); rintro e u ⟨rfl, hbu⟩; obtain ⟨x0, hx0⟩ := later_of hbu; subst hx0; clear hbu)
      | (go_at_call 59; (with_reducible refine (HL.out _).mono ?_); rintro e u ⟨rfl, hbu⟩; obtain ⟨x1, hz⟩ := x0.on hbu; subst hz; clear hbu)
      | (go_at_call 59; (with_reducible refine (HM.out _).mono ?_); rintro e u ⟨rfl, hbu⟩; obtain ⟨x2, hz⟩ := x1.on hbu; subst hz; clear hbu))
    exact bodyPost_ret (v := .tuple #[.int .i64 (0), .int .i64 61]) (results_tmp2 Try.results15 _ _ _) rfl ⟨by rw [HV.out], x2.base HE.out⟩
  · have hq : (i == j) = false := by rw [beq_eq_false_iff_ne]; exact hij
    have hli := (lotOk_iff b i).1 hl
    have hlj := (lotOk_iff b j).1 hm
    have HV : Hid (nearA b i j = (kindN (fun k => nearK b k i.toNat j.toNat), 0)) := Lib.hid (by unfold nearA; rw [hb, if_pos rfl, hl, hm, if_pos (by rfl), if_neg hij])
    have HS := Lib.hid (fun w' (h : Below W0.heap.size W0 w') => (by have q := refNear_any b ⟨pl, cl, pd, cd, pb, cb, ps, cs⟩ hok i.toNat j.toNat (by omega) (by omega) w' (HB.out.l.below h); rw [Int.toNat_of_nonneg hli.1, Int.toNat_of_nonneg hlj.1] at q; exact q))
    clear hb hl hm hok
    go_enter Try.func15, Try.ntmps15
    go_upto_region 1 with (fail)
    rw [← HW0.out]
    go_wp2_with (first
      | (go_at_call 17; (with_reducible refine HCK.out.mono ?_); rintro e u ⟨rfl, hbu⟩; obtain ⟨x0, hx0⟩ := later_of hbu; subst hx0; clear hbu)
      | (go_at_call 59; (with_reducible refine (HL.out _).mono ?_); rintro e u ⟨rfl, hbu⟩; obtain ⟨x1, hz⟩ := x0.on hbu; subst hz; clear hbu)
      | (go_at_call 59; (with_reducible refine (HM.out _).mono ?_); rintro e u ⟨rfl, hbu⟩; obtain ⟨x2, hz⟩ := x1.on hbu; subst hz; clear hbu)
      | (go_at_call 60; (with_reducible refine (HS.out _ (Later.b _)).mono ?_); rintro e u ⟨rfl, hbu⟩; obtain ⟨x3, hz⟩ := x2.on hbu; subst hz; clear hbu))
    exact bodyPost_ret (v := .tuple #[.int .i64 (kindN (fun k => nearK b k i.toNat j.toNat)), .int .i64 0]) (results_tmp2 Try.results15 _ _ _) rfl ⟨by rw [HV.out], x3.base HE.out⟩
/-- A choice that is read is the list of its numbers. -/
theorem readL_back (many : Nat) : ∀ (l : List Int) (nx : Nat) (c f : Nat → Bool), readL many l nx c = some f → ∃ m : List Nat, l = intsN m ∧ m.Pairwise (· < ·) ∧ (∀ x ∈ m, nx ≤ x ∧ x < many) ∧ f = fun i => c i || decide (i ∈ m)
  | [], nx, c, f, h => by
    rw [readL] at h
    cases h
    exact ⟨[], rfl, by simp, by simp, by funext i; simp⟩
  | x :: l, nx, c, f, h => by
    rw [readL] at h
    split at h
    · rename_i hx
      obtain ⟨y, rfl⟩ : ∃ y : Nat, x = y := ⟨x.toNat, by omega⟩
      rw [Int.toNat_natCast, show (y : Int) + 1 = ((y + 1 : Nat) : Int) by omega] at h
      obtain ⟨m, h1, h2, h3, h4⟩ := readL_back many l (y + 1) (withF c y) f h
      refine ⟨y :: m, by rw [h1]; rfl, ?_, ?_, ?_⟩
      · rw [List.pairwise_cons]
        exact ⟨fun z hz => by have := (h3 z hz).1; omega, h2⟩
      · intro z hz
        rcases List.mem_cons.1 hz with rfl | hz
        · omega
        · have := h3 z hz
          omega
      · rw [h4]
        funext i
        unfold withF
        by_cases e : i = y
        · simp [e]
        · simp [e]
    · cases h
theorem read_ints {many : Nat} (hm : many ≤ 7) {l : List Int} {f : Nat → Bool} (h : readL many l 0 noneF = some f) : l = intsN (lotsL f) := by
  obtain ⟨m, h1, h2, h3, h4⟩ := readL_back many l 0 noneF f h
  rw [h1, h4]
  congr 1
  have e : (fun i => noneF i || decide (i ∈ m)) = fun i => decide (i ∈ m) := by
    funext i
    simp [noneF]
  rw [e, lotsL_of m h2 (fun x hx => by have := (h3 x hx).2; omega)]
def askE6 (b : Yb) (l : List Int) : Int := if yardB b then (if (readL b.lots.length l 0 noneF).isSome then 0 else 61) else 60
set_option maxRecDepth 100000 in
set_option maxHeartbeats 3200000 in
theorem refAsked_any (b : Yb) (P : Yp) (p : Option Addr) (c : Nat) (l : List Int) (hl : l.length < 2 ^ 61) (w : World) (hB : YbAt w P b) (hI : IntsAt w p l) :
    Calls Try.prog 71 #[.agg (ybA b P), .slice p l.length c] w fun e w' => e = .returned (.int .i64 (askE6 b l)) ∧ Below w.heap.size w w' := by
  obtain ⟨pl, cl, pd, cd, pb, cb, ps, cs⟩ := P
  obtain ⟨W0, hW0⟩ : ∃ W, W = w.alloc (.cells (ybA b ⟨pl, cl, pd, cd, pb, cb, ps, cs⟩) 25) := ⟨_, rfl⟩
  have HW0 := Lib.hid hW0
  have HE := Lib.hid (show Below w.heap.size w W0 by rw [hW0]; exact below_alloc _ _)
  have HRx := Lib.hid (show Row W0 w.heap.size (ybA b ⟨pl, cl, pd, cd, pb, cb, ps, cs⟩) 25 by rw [hW0]; exact Row.new _ _ _)
  have HB := Lib.hid (hB.below HE.out)
  have g0 := HRx.out.cell 0 (v := .slice pl b.lots.length cl) rfl
  have g1 := HRx.out.cell 1 (v := .slice pd b.doors.length cd) rfl
  have g2 := HRx.out.cell 2 (v := .slice pb b.buckets.length cb) rfl
  have g3 := HRx.out.cell 3 (v := .slice ps b.spare.length cs) rfl
  have g4 := HRx.out.cell 4 (v := .int .i64 b.apart) rfl
  have g5 := HRx.out.cell 5 (v := .int .i64 b.door) rfl
  have g6 := HRx.out.cell 6 (v := .int .i64 b.bucket) rfl
  have g7 := HRx.out.cell 7 (v := .int .i64 b.err) rfl
  have HCK := Lib.hid (refCheck_any b ⟨pl, cl, pd, cd, pb, cb, ps, cs⟩ W0 HB.out)
  clear hW0 hB
  cases hb : yardB b
  · rw [yardE_bad hb] at HCK
    have HV : Hid (askE6 b l = 60) := Lib.hid (by unfold askE6; rw [hb]; rfl)
    clear hb
    go_enter Try.func71, Try.ntmps71
    go_upto_region 1 with (fail)
    rw [← HW0.out]
    go_wp2_with (first | (go_at_call 17; (with_reducible refine HCK.out.mono ?_); rintro e u ⟨rfl, hbu⟩; obtain ⟨x0, hx0⟩ := later_of hbu; subst hx0; clear hbu))
    go_ret
    exact ⟨by rw [HV.out]; rfl, x0.base HE.out⟩
  rw [yardE_ok hb] at HCK
  have hok := yardB_ok hb
  have hn7 := hok.n7
  have HG := Lib.hid (fun w' (h : Below W0.heap.size W0 w') => GrowsAll_any p c l b.lots.length hl (by omega) w' (hI.below (HE.out.trans (h.mono HE.out.size))))
  have hv : askE6 b l = if (readL b.lots.length l 0 noneF).isSome then 0 else 61 := by unfold askE6; rw [hb]; rfl
  obtain ⟨R, hR⟩ : ∃ v, (readL b.lots.length l 0 noneF).isSome = v := ⟨_, rfl⟩
  rw [hR] at HG hv
  have HV := Lib.hid hv
  clear hb hok hv hR hI
  cases R
  all_goals
    go_enter Try.func71, Try.ntmps71
    go_upto_region 1 with (fail)
    rw [← HW0.out]
    go_wp2_with (first
      | (go_at_call 17; (with_reducible refine HCK.out.mono ?_); rintro e u ⟨rfl, hbu⟩; obtain ⟨x0, hx0⟩ := later_of hbu; subst hx0; clear hbu)
      | (go_at_call 38; (with_reducible refine (HG.out _ (Later.b _)).mono ?_); rintro e u ⟨rfl, hbu⟩; obtain ⟨x1, hz⟩ := x0.on hbu; subst hz; clear hbu))
    go_ret
    exact ⟨by rw [HV.out]; rfl, x1.base HE.out⟩
set_option maxRecDepth 100000 in
set_option maxHeartbeats 3200000 in
theorem refAllowed_api (b : Yb) (P : Yp) (p : Option Addr) (c : Nat) (l : List Int) (hl : l.length < 2 ^ 61) (w : World) (hB : YbAt w P b) (hI : IntsAt w p l) :
    Calls Try.prog 21 #[.agg (ybA b P), .slice p l.length c] w fun e w' => e = .returned (.tuple #[.int .i64 (allowA b l).1, .int .i64 (allowA b l).2]) ∧ Below w.heap.size w w' := by
  obtain ⟨pl, cl, pd, cd, pb, cb, ps, cs⟩ := P
  obtain ⟨W0, hW0⟩ : ∃ W, W = w.alloc (.cells (ybA b ⟨pl, cl, pd, cd, pb, cb, ps, cs⟩) 25) := ⟨_, rfl⟩
  have HW0 := Lib.hid hW0
  have HE := Lib.hid (show Below w.heap.size w W0 by rw [hW0]; exact below_alloc _ _)
  have HRx := Lib.hid (show Row W0 w.heap.size (ybA b ⟨pl, cl, pd, cd, pb, cb, ps, cs⟩) 25 by rw [hW0]; exact Row.new _ _ _)
  have HB := Lib.hid (hB.below HE.out)
  have g0 := HRx.out.cell 0 (v := .slice pl b.lots.length cl) rfl
  have g1 := HRx.out.cell 1 (v := .slice pd b.doors.length cd) rfl
  have g2 := HRx.out.cell 2 (v := .slice pb b.buckets.length cb) rfl
  have g3 := HRx.out.cell 3 (v := .slice ps b.spare.length cs) rfl
  have g4 := HRx.out.cell 4 (v := .int .i64 b.apart) rfl
  have g5 := HRx.out.cell 5 (v := .int .i64 b.door) rfl
  have g6 := HRx.out.cell 6 (v := .int .i64 b.bucket) rfl
  have g7 := HRx.out.cell 7 (v := .int .i64 b.err) rfl
  have HCK := Lib.hid (refCheck_any b ⟨pl, cl, pd, cd, pb, cb, ps, cs⟩ W0 HB.out)
  clear hW0 hB
  have HAS := Lib.hid (refAsked_any b ⟨pl, cl, pd, cd, pb, cb, ps, cs⟩ p c l hl W0 HB.out (hI.below HE.out))
  clear HCK
  cases hb : yardB b
  · have HV : Hid (allowA b l = (0, 60)) := Lib.hid (by unfold allowA; rw [hb]; rfl)
    rw [show askE6 b l = 60 by unfold askE6; rw [hb]; rfl] at HAS
    clear hb
    go_enter Try.func21, Try.ntmps21
    go_upto_region 1 with (fail)
    rw [← HW0.out]
    go_wp2_with (first | (go_at_call 71; (with_reducible refine HAS.out.mono ?_); rintro e u ⟨rfl, hbu⟩; obtain ⟨x0, hx0⟩ := later_of hbu; subst hx0; clear hbu))
    exact bodyPost_ret (v := .tuple #[.int .i64 (0), .int .i64 60]) (results_tmp2 Try.results21 _ _ _) rfl ⟨by rw [HV.out], x0.base HE.out⟩
  cases hr : readL b.lots.length l 0 noneF with
  | none =>
    have HV : Hid (allowA b l = (0, 61)) := Lib.hid (by unfold allowA; rw [hb, if_pos rfl, hr])
    rw [show askE6 b l = 61 by unfold askE6; rw [hb, hr]; rfl] at HAS
    clear hb hr
    go_enter Try.func21, Try.ntmps21
    go_upto_region 1 with (fail)
    rw [← HW0.out]
    go_wp2_with (first | (go_at_call 71; (with_reducible refine HAS.out.mono ?_); rintro e u ⟨rfl, hbu⟩; obtain ⟨x0, hx0⟩ := later_of hbu; subst hx0; clear hbu))
    exact bodyPost_ret (v := .tuple #[.int .i64 (0), .int .i64 61]) (results_tmp2 Try.results21 _ _ _) rfl ⟨by rw [HV.out], x0.base HE.out⟩
  | some f =>
    have hok := yardB_ok hb
    have hf := read_lots hr
    have hle := read_ints hok.n7 hr
    have HV : Hid (allowA b l = (kindN (fun k => allowK b k f), 0)) := Lib.hid (by unfold allowA; rw [hb, if_pos rfl, hr])
    rw [show askE6 b l = 0 by unfold askE6; rw [hb, hr]; rfl] at HAS
    have HAW := Lib.hid (fun w' (h : Below W0.heap.size W0 w') => (by
      have q := refAllowed_any b ⟨pl, cl, pd, cd, pb, cb, ps, cs⟩ hok (lotsL f) (lotsL_le f) (fun x hx => hf x (lotsL_mem.1 hx).2) p c w' (HB.out.below h) (by rw [← hle]; exact hI.below (HE.out.trans (h.mono HE.out.size)))
      unfold allV at q
      simp only [allK_is] at q
      rw [← hle] at q
      exact q))
    clear hb hr hok hle hf hI
    go_enter Try.func21, Try.ntmps21
    go_upto_region 1 with (fail)
    rw [← HW0.out]
    go_wp2_with (first
      | (go_at_call 71; (with_reducible refine HAS.out.mono ?_); rintro e u ⟨rfl, hbu⟩; obtain ⟨x0, hx0⟩ := later_of hbu; subst hx0; clear hbu)
      | (go_at_call 72; (with_reducible refine (HAW.out _ (Later.b _)).mono ?_); rintro e u ⟨rfl, hbu⟩; obtain ⟨x1, hz⟩ := x0.on hbu; subst hz; clear hbu))
    exact bodyPost_ret (v := .tuple #[.int .i64 (kindN (fun k => allowK b k f)), .int .i64 0]) (results_tmp2 Try.results21 _ _ _) rfl ⟨by rw [HV.out], x1.base HE.out⟩
end Go.Proofs.Ytajkgfeockcbpaa
