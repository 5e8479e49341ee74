/- The specification's functions of layer 6: the goods of a choice; is a choice better? -/
import Derived.Test.YtajkgfeockcbpaaRSB
import Derived.Test.YtajkgfeockcbpaaY50
namespace Go.Proofs.Ytajkgfeockcbpaa
open Go.RowKit Go.Maps
attribute [local go_sem] Oper.semAt_some

def hiS (b : Yb) (l : List Nat) : Int := (l.map fun i => (lotAt b i).hi).sum
theorem hi_succ (b : Yb) {l : List Nat} {k : Nat} (h : k < l.length) : hiS b (l.take (k + 1)) = hiS b (l.take k) + (lotAt b l[k]).hi := by
  unfold hiS
  rw [List.take_succ_eq_append_getElem h, List.map_append, List.sum_append]
  simp
theorem hi_range {b : Yb} (hok : YbOk b) : ∀ {l : List Nat}, (∀ x ∈ l, x < b.lots.length) → 0 ≤ hiS b l ∧ hiS b l ≤ 99 * (l.length : Int)
  | [], _ => by simp [hiS]
  | x :: l, h => by
    have h1 := (lotB_iff.1 (lotAt_ok hok (h x (by simp)))).2
    have h2 := hi_range hok (l := l) (fun y hy => h y (by simp [hy]))
    unfold hiS at h2 ⊢
    simp only [List.map_cons, List.sum_cons, List.length_cons]
    omega
theorem fieldS0 (a b : Int) (w : World) : (Instr.field 40 (.agg #[.int .i64 a, .int .i64 b]) 0).run Try.prog w = .ok (.int .i64 a) w := by
  simp [Instr.field, go_sem, Try.underlying40, asAgg]
theorem fieldS1 (a b : Int) (w : World) : (Instr.field 40 (.agg #[.int .i64 a, .int .i64 b]) 1).run Try.prog w = .ok (.int .i64 b) w := by
  simp [Instr.field, go_sem, Try.underlying40, asAgg]
attribute [local go_sem] fieldS0 fieldS1
set_option maxRecDepth 100000 in
set_option maxHeartbeats 6400000 in
theorem refGoods_any (b : Yb) (P : Yp) (hok : YbOk b) (m : List Nat) (hm7 : m.length ≤ 7) (hml : ∀ x ∈ m, x < b.lots.length) (pm : Option Addr) (cm : Nat) (w : World) (hB : YbAt w P b) (hM : IntsAt w pm (intsN m)) :
    Calls Try.prog 77 #[.agg (ybA b P), .slice pm (intsN m).length cm] w fun e w' => e = .returned (.agg #[.int .i64 (lowS b m), .int .i64 (hiS b m)]) ∧ Below w.heap.size w w' := by
  obtain ⟨pl, cl, pd, cd, pb, cb, ps, cs⟩ := P
  obtain ⟨W0, hW0⟩ : ∃ W, W = (w.alloc (.cells (ybA b ⟨pl, cl, pd, cd, pb, cb, ps, cs⟩) 25)).alloc (.cells #[.int .i64 0, .int .i64 0] 40) := ⟨_, rfl⟩
  have HW0 := Lib.hid hW0
  have HE := Lib.hid (show Below w.heap.size w W0 by rw [hW0]; exact below_alloc2 _ _ _)
  have HRx := Lib.hid (show Row W0 w.heap.size (ybA b ⟨pl, cl, pd, cd, pb, cb, ps, cs⟩) 25 by rw [hW0]; exact (Row.new _ _ _).alloc _)
  have HRZ := Lib.hid (show Row W0 (w.heap.size + 1) #[.int .i64 0, .int .i64 0] 40 by rw [hW0]; exact Row.new1 _ _ _ _)
  have hzz : W0.heap.size = w.heap.size + 2 := by rw [hW0]; simp
  have HZZ := Lib.hid hzz
  have HB := Lib.hid (hB.below HE.out)
  have HMC := Lib.hid (fun i (hi : i < m.length) => (by
    have h := (hM.below HE.out) i (by rw [intsN_len]; exact hi)
    rw [intsN_get hi] at h
    exact h : ∃ g o, pm = some ⟨g, o, none⟩ ∧ W0.cell? ⟨g, o + i, none⟩ = some (.int .i64 ((m[i] : Nat) : Int))))
  have HML := Lib.hid (fun i (hi : i < m.length) => hml _ (List.getElem_mem hi))
  have HRL := Lib.hid (fun k => low_range hok (l := m.take k) (fun y hy => hml y (List.mem_of_mem_take hy)))
  have HRH := Lib.hid (fun k => hi_range hok (l := m.take k) (fun y hy => hml y (List.mem_of_mem_take hy)))
  have HLE := Lib.hid (fun k => (by simp; omega : (m.take k).length ≤ 7))
  have HLS := Lib.hid (fun k (hk : k < m.length) => low_succ b hk)
  have HHS := Lib.hid (fun k (hk : k < m.length) => hi_succ b hk)
  have HOK := Lib.hid hok
  have HT := Lib.hid (show m.take m.length = m from List.take_length)
  have n7 := hok.n7
  have g0 := HRx.out.cell 0 (v := .slice pl b.lots.length cl) rfl
  rw [intsN_len]
  have z3 : (b.lots.length : Int) ≤ 7 := by omega
  have z4 : (m.length : Int) ≤ 7 := by omega
  clear hW0 hB hM hml hok hzz
  go_enter Try.func77, Try.ntmps77
  go_upto_region 1 with (fail)
  rw [← HW0.out]
  go_wp2_with (first
    | (go_at_call 92; (with_reducible refine (Only_any _ _).mono ?_); rintro e u ⟨rfl, hbu⟩; obtain ⟨x0, hx0⟩ := later_of hbu; subst hx0; clear hbu; have rO := Row.new x0.w #[.int .i64 0, .int .i64 0] 40; obtain ⟨x1, hx1⟩ := x0.on (below_alloc x0.w (.cells #[.int .i64 0, .int .i64 0] 40)); rw [hx1] at rO; have HRO := Lib.hid rO; clear rO)
    | (refine store_row rfl 40 _ _ rfl x0.w.heap.size #[.int .i64 0, .int .i64 0] #[.int .i64 0, .int .i64 0] 40 rfl rfl HRO.out (by kernel_rfl) rfl (by simp [Value.oneCell']) ?_))
  have hgz := x0.b.size
  have HRO := Lib.hid (HRO.out.setRow #[.int .i64 0, .int .i64 0])
  obtain ⟨x1', hx1'⟩ := later_of (below_setRow' x1.b hgz #[.int .i64 0, .int .i64 0])
  rw [hx1'] at HRO ⊢
  obtain ⟨gO, hgO⟩ : ∃ n, x0.w.heap.size = n := ⟨_, rfl⟩
  rw [hgO] at HRO hgz ⊢
  clear hgO hx1 hx1'
  go_loopw [6] (fun i wr => ∃ (k : Nat) (x : Later W0), k ≤ m.length ∧ i = .int .i64 (k : Int) ∧ Row x.w gO #[.int .i64 (lowS b (m.take k)), .int .i64 (hiS b (m.take k))] 40 ∧ wr = x.w) (fun i _ => m.length - (intOf i).toNat)
  case atStart => exact ⟨0, x1', by omega, rfl, HRO.out, rfl⟩
  case round =>
    obtain ⟨k, x, hk, rfl, hro, rfl⟩ := hrel
    have HRO := Lib.hid hro
    clear hro
    by_cases hlt : k < m.length
    · obtain ⟨bm, om, hpm, hmc'⟩ := HMC.out k hlt
      have hvl := HML.out k hlt
      have hls := HLS.out k hlt
      have hhs := HHS.out k hlt
      have hrl := HRL.out k
      have hrh := HRH.out k
      have hle := HLE.out k
      obtain ⟨v, hv⟩ : ∃ v, m[k] = v := ⟨_, rfl⟩
      rw [hv] at hmc' hvl hls hhs
      obtain ⟨bl, ol, hpl, _, _, l2', l3'⟩ := HB.out.l.at hvl
      have hlv := (lotB_iff.1 (lotAt_ok HOK.out hvl)).2
      dsimp only at hpl
      generalize (lotAt b v).lo = lo at *
      generalize (lotAt b v).hi = hv' at *
      have HL := Lib.hid hls
      have HH := Lib.hid hhs
      obtain ⟨sl, hsl⟩ : ∃ t, lowS b (m.take k) = t := ⟨_, rfl⟩
      obtain ⟨sh, hsh⟩ : ∃ t, hiS b (m.take k) = t := ⟨_, rfl⟩
      rw [hsl] at HL hrl HRO
      rw [hsh] at HH hrh HRO
      have i1 : (0 : Int) ≤ (k : Int) := by omega
      have i2 : (k : Int) < (m.length : Int) := by omega
      have j1 : (0 : Int) ≤ (v : Int) := by omega
      have j2 : (v : Int) < (b.lots.length : Int) := by omega
      have e1 : IntKind.i64.wrap (sl + lo) = sl + lo := IntWalk.i64_in _ (by omega)
      have e2 : IntKind.i64.wrap (sh + hv') = sh + hv' := IntWalk.i64_in _ (by omega)
      subst hpm hpl
      clear hv hls hhs hrl hrh hle hlv hsl hsh
      go_upto_region 5 with (fail)
      obtain ⟨V, hV⟩ : ∃ V, x.w = V := ⟨_, rfl⟩
      have HKV := Lib.hid (show Below W0.heap.size W0 V by rw [← hV]; exact x.b)
      rw [hV] at HRO ⊢
      clear hV
      have q0 := ((bcell HKV.out).1 _ _ (cell_block g0)).trans g0
      have q1 := ((bcell HKV.out).1 _ _ (cell_block hmc')).trans hmc'
      have q2 := ((bcell HKV.out).1 _ _ (cell_block l2')).trans l2'
      have q3 := ((bcell HKV.out).1 _ _ (cell_block l3')).trans l3'
      go_cut [7] from 15 to 23 (fun a7 wx => ∃ g, a7 = .pointer (some ⟨g, 0, none⟩) ∧ g ≠ gO ∧ Row wx g #[.int .i64 lo, .int .i64 hv'] 40 ∧ Below V.heap.size V wx)
      case first =>
        have HSV := Lib.hid (fun w' (h : Below V.heap.size V w') => (⟨((bcell h).1 _ _ (cell_block q0)).trans q0, ((bcell h).1 _ _ (cell_block q1)).trans q1, ((bcell h).1 _ _ (cell_block q2)).trans q2, ((bcell h).1 _ _ (cell_block q3)).trans q3⟩ : (fun w' => w'.cell? ⟨w.heap.size, 0, none⟩ = some (.slice (some ⟨bl, ol, none⟩) b.lots.length cl) ∧ w'.cell? ⟨bm, om + k, none⟩ = some (.int .i64 (v : Int)) ∧ w'.cell? ⟨bl, ol + v * 4 + 2, none⟩ = some (.int .i64 lo) ∧ w'.cell? ⟨bl, ol + v * 4 + 3, none⟩ = some (.int .i64 hv')) w'))
        refine wp_region_late (S := fun w' => w'.cell? ⟨w.heap.size, 0, none⟩ = some (.slice (some ⟨bl, ol, none⟩) b.lots.length cl) ∧ w'.cell? ⟨bm, om + k, none⟩ = some (.int .i64 (v : Int)) ∧ w'.cell? ⟨bl, ol + v * 4 + 2, none⟩ = some (.int .i64 lo) ∧ w'.cell? ⟨bl, ol + v * 4 + 3, none⟩ = some (.int .i64 hv')) 10 (by kernel_rfl) (by kernel_rfl) (by kernel_rfl) (by kernel_rfl) (by rfl) (HSV.out _ (Below.refl _ _).drew) (fun hH => ?_)
        have KC := Lib.hid (show Below V.heap.size V V.drew from (Below.refl _ _).drew)
        have hlo := HRO.out.lt
        simp only [List.take_succ_cons, List.take_zero, List.drop_succ_cons, List.drop_zero, idled, List.map_cons, List.map_nil, idleOp, List.cons_append, List.nil_append, List.size_toArray, List.length_cons, List.length_nil, Nat.reduceAdd]
        obtain ⟨c0, hc0⟩ : ∃ z, V.drew = z := ⟨_, rfl⟩
        rw [hc0] at hH KC ⊢
        clear hc0
        refine wpAnyH_take_to 0 15 (.pointer (some ⟨w.heap.size, 0, none⟩)) rfl rfl (by kernel_rfl) (by kernel_rfl) (by kernel_rfl) (fun _ _ _ h => h) (Or.inl ⟨by rfl, fun w' hSw => by (obtain ⟨s0, s1, s2, s3⟩ := hSw; go_simp)⟩) hH ?_
        refine wpAnyH_take_to 1 16 (.slice (some ⟨bl, ol, none⟩) b.lots.length cl) rfl rfl (by kernel_rfl) (by kernel_rfl) (by kernel_rfl) (fun _ _ _ h => h) (Or.inl ⟨by rfl, fun w' hSw => by (obtain ⟨s0, s1, s2, s3⟩ := hSw; go_simp)⟩) hH ?_
        refine wpAnyH_take_to 2 17 (.slice (some ⟨bm, om, none⟩) m.length cm) rfl rfl (by kernel_rfl) (by kernel_rfl) (by kernel_rfl) (fun _ _ _ h => h) (Or.inl ⟨by rfl, fun w' hSw => by (obtain ⟨s0, s1, s2, s3⟩ := hSw; go_simp)⟩) hH ?_
        refine wpAnyH_take_to 3 18 (.int .i64 (k : Int)) rfl rfl (by kernel_rfl) (by kernel_rfl) (by kernel_rfl) (fun _ _ _ h => h) (Or.inl ⟨by rfl, fun w' hSw => by (obtain ⟨s0, s1, s2, s3⟩ := hSw; go_simp)⟩) hH ?_
        refine wpAnyH_take_to 4 19 (.pointer (some ⟨bm, om + k, none⟩)) rfl rfl (by kernel_rfl) (by kernel_rfl) (by kernel_rfl) (fun _ _ _ h => h) (Or.inl ⟨by rfl, fun w' hSw => by (obtain ⟨s0, s1, s2, s3⟩ := hSw; go_simp)⟩) hH ?_
        refine wpAnyH_take_to 5 20 (.int .i64 (v : Int)) rfl rfl (by kernel_rfl) (by kernel_rfl) (by kernel_rfl) (fun _ _ _ h => h) (Or.inl ⟨by rfl, fun w' hSw => by (obtain ⟨s0, s1, s2, s3⟩ := hSw; go_simp)⟩) hH ?_
        refine wpAnyH_take_to 6 21 (.pointer (some ⟨bl, ol + v * 4, none⟩)) rfl rfl (by kernel_rfl) (by kernel_rfl) (by kernel_rfl) (fun _ _ _ h => h) (Or.inl ⟨by rfl, fun w' hSw => by (obtain ⟨s0, s1, s2, s3⟩ := hSw; go_simp)⟩) hH ?_
        refine wpAnyH_take_to 7 22 (.pointer (some ⟨bl, ol + v * 4 + 2, none⟩)) rfl rfl (by kernel_rfl) (by kernel_rfl) (by kernel_rfl) (fun _ _ _ h => h) (Or.inl ⟨by rfl, fun w' hSw => by (obtain ⟨s0, s1, s2, s3⟩ := hSw; go_simp)⟩) hH ?_
        refine wpAnyH_take_to 8 23 (.agg #[.int .i64 lo, .int .i64 hv']) rfl rfl (by kernel_rfl) (by kernel_rfl) (by kernel_rfl) (fun _ _ _ h => h) (Or.inl ⟨by rfl, fun w' hSw => by (obtain ⟨s0, s1, s2, s3⟩ := hSw; go_simp)⟩) hH ?_
        try simp only [Act.put, List.setIfInBounds_toArray, List.set_cons_succ, List.set_cons_zero]
        refine wpAnyH_ready (rs := [9]) (by kernel_rfl) (by simp) (AllReadyH.cons rfl (fun K hK => ?_) AllReadyH.nil)
        go_simp
        have hbu := below_alloc c0 (.cells #[.int .i64 0, .int .i64 0] 40)
        have HG := Lib.hid (Row.new c0 #[.int .i64 0, .int .i64 0] 40)
        have hcz := KC.out.size
        have KC := Lib.hid (KC.out.trans (hbu.mono KC.out.size))
        obtain ⟨c1, hnw⟩ : ∃ z, c0.alloc (.cells #[.int .i64 0, .int .i64 0] 40) = z := ⟨_, rfl⟩
        obtain ⟨gp, hgp⟩ : ∃ n, c0.heap.size = n := ⟨_, rfl⟩
        rw [hnw] at HG KC ⊢
        rw [hgp] at HG hcz ⊢
        clear hnw hbu hgp
        refine hK.out _ _ (HSV.out _ KC.out) (fun hH => ?_)
        clear hK K
        try simp only [Act.put, List.setIfInBounds_toArray, List.set_cons_succ, List.set_cons_zero]
        refine wpAnyH_take (i := 10) (v := undef) rfl (by kernel_rfl) (by kernel_rfl) (by kernel_rfl) (fun _ _ _ h => h) (Or.inl ⟨by rfl, fun _ _ => by rfl⟩) hH ?_
        refine wpAnyH_done (by kernel_rfl) ?_ _
        refine (id (α := wpList _ _ _ _ _ _) ?_)
        simp only [Act.put]
        go_wp2_with (first
          | (refine store_row rfl 40 _ _ rfl gp #[.int .i64 lo, .int .i64 hv'] #[.int .i64 0, .int .i64 0] 40 rfl rfl HG.out (by kernel_rfl) rfl (by simp [Value.oneCell']) ?_))
        go_meet
        exact ⟨gp, rfl, by omega, HG.out.setRow _, below_setRow' KC.out hcz _⟩
      case rest =>
        obtain ⟨g, rfl, hne, hr, hb⟩ := hcut
        have HG := Lib.hid hr
        have HRO := Lib.hid (HRO.out.below hb HRO.out.lt)
        obtain ⟨z, hz⟩ := later_of (W := W0) (HKV.out.trans (hb.mono HKV.out.size))
        subst hz
        have c0 := HG.out.cell 0 (v := .int .i64 lo) rfl
        have c1 := HG.out.cell 1 (v := .int .i64 hv') rfl
        have d0 := HRO.out.cell 0 (v := .int .i64 sl) rfl
        have d1 := HRO.out.cell 1 (v := .int .i64 sh) rfl
        clear hr hb q0 q1 q2 q3
        go_wp2_with (first
          | (go_at_call 54; (with_reducible refine (Sp_any _ _ _).mono ?_); rintro e u ⟨rfl, hbu⟩; have HRO := Lib.hid (HRO.out.below hbu HRO.out.lt); obtain ⟨z2, hz2⟩ := z.on hbu; subst hz2; clear hbu)
          | (refine store_row rfl 40 _ _ rfl gO #[.int .i64 (sl + lo), .int .i64 (sh + hv')] #[.int .i64 sl, .int .i64 sh] 40 rfl rfl HRO.out (by kernel_rfl) rfl (by simp [Value.oneCell']) ?_))
        obtain ⟨z3, hz3⟩ := later_of (below_setRow' z2.b hgz #[.int .i64 (sl + lo), .int .i64 (sh + hv')])
        have HRN := Lib.hid (show Row z3.w gO #[.int .i64 (sl + lo), .int .i64 (sh + hv')] 40 by rw [← hz3]; exact HRO.out.setRow _)
        rw [hz3]
        clear hz3
        go_wp2_with fail
        go_roundw
        case rel => exact ⟨k + 1, z3, by omega, by go_num, by rw [HL.out, HH.out]; exact HRN.out, rfl⟩
        case measure => simp [intOf]; omega
    · obtain rfl : k = m.length := by omega
      rw [HT.out] at HRO
      have HZ2 := Lib.hid (HRZ.out.below x.b HRZ.out.lt)
      have hw2 := HZZ.out
      go_wp2_with (first
        | (refine load_row rfl 40 _ rfl gO rfl 40 _ _ HRO.out Try.underlying40 rfl (by kernel_rfl) ?_)
        | (refine store_row rfl 40 _ _ rfl (w.heap.size + 1) #[.int .i64 (lowS b m), .int .i64 (hiS b m)] #[.int .i64 0, .int .i64 0] 40 rfl rfl HZ2.out (by kernel_rfl) rfl (by simp [Value.oneCell']) ?_))
      exact bodyPost_ret (v := .agg #[.int .i64 (lowS b m), .int .i64 (hiS b m)]) (results_cell_row Try.results77 _ _ _ _ _ _ _ rfl (HZ2.out.setRow _) Try.underlying40 rfl (by kernel_rfl)) rfl ⟨rfl, below_setRow' (x.base HE.out) (by omega) _⟩
set_option maxRecDepth 100000 in
set_option maxHeartbeats 6400000 in
theorem refBetter_any (b : Yb) (P : Yp) (hok : YbOk b) (l m : List Nat) (hl7 : l.length ≤ 7) (hm7 : m.length ≤ 7) (hll : ∀ x ∈ l, x < b.lots.length) (hml : ∀ x ∈ m, x < b.lots.length) (pl' : Option Addr) (cl' : Nat) (pm : Option Addr) (cm : Nat) (w : World) (hB : YbAt w P b) (hL : IntsAt w pl' (intsN l)) (hM : IntsAt w pm (intsN m)) :
    Calls Try.prog 108 #[.agg (ybA b P), .slice pl' (intsN l).length cl', .slice pm (intsN m).length cm] w fun e w' => e = .returned (.bool (betB (intsN l) (lowS b l) (intsN m) (lowS b m))) ∧ Below w.heap.size w w' := by
  obtain ⟨pl, cl, pd, cd, pb, cb, ps, cs⟩ := P
  obtain ⟨W0, hW0⟩ : ∃ W, W = w.alloc (.cells (ybA b ⟨pl, cl, pd, cd, pb, cb, ps, cs⟩) 25) := ⟨_, rfl⟩
  have HW0 := Lib.hid hW0
  have HE := Lib.hid (show Below w.heap.size w W0 by rw [hW0]; exact below_alloc _ _)
  have HRx := Lib.hid (show Row W0 w.heap.size (ybA b ⟨pl, cl, pd, cd, pb, cb, ps, cs⟩) 25 by rw [hW0]; exact Row.new _ _ _)
  have HB := Lib.hid (hB.below HE.out)
  have g0 := HRx.out.cell 0 (v := .slice pl b.lots.length cl) rfl
  have g1 := HRx.out.cell 1 (v := .slice pd b.doors.length cd) rfl
  have g2 := HRx.out.cell 2 (v := .slice pb b.buckets.length cb) rfl
  have g3 := HRx.out.cell 3 (v := .slice ps b.spare.length cs) rfl
  have g4 := HRx.out.cell 4 (v := .int .i64 b.apart) rfl
  have g5 := HRx.out.cell 5 (v := .int .i64 b.door) rfl
  have g6 := HRx.out.cell 6 (v := .int .i64 b.bucket) rfl
  have g7 := HRx.out.cell 7 (v := .int .i64 b.err) rfl
  have HG1 := Lib.hid (fun w' (h : Below W0.heap.size W0 w') => refGoods_any b ⟨pl, cl, pd, cd, pb, cb, ps, cs⟩ hok l hl7 hll pl' cl' w' (HB.out.below h) (hL.below (HE.out.trans (h.mono HE.out.size))))
  have HG2 := Lib.hid (fun w' (h : Below W0.heap.size W0 w') => refGoods_any b ⟨pl, cl, pd, cd, pb, cb, ps, cs⟩ hok m hm7 hml pm cm w' (HB.out.below h) (hM.below (HE.out.trans (h.mono HE.out.size))))
  have HEA := Lib.hid (fun w' (h : Below W0.heap.size W0 w') => Earlier_any pl' pm cl' cm (intsN l) (intsN m) w' (by rw [intsN_len]; unfold maxLen; omega) (hL.below (HE.out.trans (h.mono HE.out.size))) (hM.below (HE.out.trans (h.mono HE.out.size))))
  have hv : betB (intsN l) (lowS b l) (intsN m) (lowS b m) = if lowS b l = lowS b m then (if (intsN l).length = (intsN m).length then earlier (intsN l) (intsN m) else decide ((intsN l).length < (intsN m).length)) else decide (lowS b m < lowS b l) := rfl
  obtain ⟨x, hx⟩ : ∃ t, lowS b l = t := ⟨_, rfl⟩
  obtain ⟨y, hy⟩ : ∃ t, lowS b m = t := ⟨_, rfl⟩
  obtain ⟨hx1, hhx⟩ : ∃ t, hiS b l = t := ⟨_, rfl⟩
  obtain ⟨hy1, hhy⟩ : ∃ t, hiS b m = t := ⟨_, rfl⟩
  rw [hx, hhx] at HG1
  rw [hy, hhy] at HG2
  rw [hx, hy] at hv ⊢
  obtain ⟨ea, hea⟩ : ∃ t, earlier (intsN l) (intsN m) = t := ⟨_, rfl⟩
  rw [hea] at HEA hv
  have hLL : (intsN l).length ≤ 7 := by rw [intsN_len]; exact hl7
  have hMM : (intsN m).length ≤ 7 := by rw [intsN_len]; exact hm7
  obtain ⟨A, hA⟩ : ∃ t, intsN l = t := ⟨_, rfl⟩
  obtain ⟨C, hC⟩ : ∃ t, intsN m = t := ⟨_, rfl⟩
  rw [hA] at HG1 HEA hv hLL ⊢
  rw [hC] at HG2 HEA hv hMM ⊢
  obtain ⟨BV, hBV⟩ : ∃ t, betB A x C y = t := ⟨_, rfl⟩
  rw [hBV] at hv ⊢
  have HV := Lib.hid hv
  clear hx hy hhx hhy hea hA hC hBV hv hW0 hB hL hM hok hll hml hl7 hm7
  have key : ∀ v, BV = v → Hid (BV = v) := fun v h => Lib.hid h
  have hw1 : (A.length : Int) ≤ 7 := by omega
  have hw2 : (C.length : Int) ≤ 7 := by omega
  rcases Int.lt_trichotomy y x with h | h | h
  · have HBV := key true (by rw [HV.out, if_neg (by omega), decide_eq_true h])
    clear key HV
    go_enter Try.func108, Try.ntmps108
    go_upto_region 1 with (fail)
    rw [← HW0.out]
    refine wp_region_later (by kernel_rfl) (by kernel_rfl) ?_
    repeat (go_big_quiet_step (first
      | (go_at_call 77; with_reducible exact Calls.later_of (HG1.out _ (Later.b _)))
      | (go_at_call 77; with_reducible exact Calls.later_of (HG2.out _ (Later.b _)))))
    refine wpQuiet_nil ?_
    intro _ hw'
    obtain ⟨z, hw''⟩ := hw'
    subst hw''
    go_wp2_with fail
    go_ret
    exact ⟨by rw [HBV.out]; rfl, z.base HE.out⟩
  · subst h
    have hn : ¬ y < y := by omega
    rcases Nat.lt_trichotomy A.length C.length with h2 | h2 | h2
    · have HBV := key true (by rw [HV.out, if_pos rfl, if_neg (by omega), decide_eq_true h2])
      have h3 : (A.length : Int) < (C.length : Int) := by omega
      clear key HV h2
      go_enter Try.func108, Try.ntmps108
      go_upto_region 1 with (fail)
      rw [← HW0.out]
      refine wp_region_later (by kernel_rfl) (by kernel_rfl) ?_
      repeat (go_big_quiet_step (first
        | (go_at_call 77; with_reducible exact Calls.later_of (HG1.out _ (Later.b _)))
        | (go_at_call 77; with_reducible exact Calls.later_of (HG2.out _ (Later.b _)))))
      refine wpQuiet_nil ?_
      intro _ hw'
      obtain ⟨z, hw''⟩ := hw'
      subst hw''
      go_wp2_with fail
      go_ret
      exact ⟨by rw [HBV.out]; rfl, z.base HE.out⟩
    · have HBV := key ea (by rw [HV.out, if_pos rfl, if_pos h2])
      have h3 : ¬ (A.length : Int) < (C.length : Int) := by omega
      have h3' := eq_false h3
      have h4 : ((A.length : Int) == (C.length : Int)) = true := by rw [h2]; simp
      clear key HV h2
      go_enter Try.func108, Try.ntmps108
      go_upto_region 1 with (fail)
      rw [← HW0.out]
      refine wp_region_later (by kernel_rfl) (by kernel_rfl) ?_
      repeat (go_big_quiet_step (first
        | (go_at_call 77; with_reducible exact Calls.later_of (HG1.out _ (Later.b _)))
        | (go_at_call 77; with_reducible exact Calls.later_of (HG2.out _ (Later.b _)))))
      refine wpQuiet_nil ?_
      intro _ hw'
      obtain ⟨z, hw''⟩ := hw'
      subst hw''
      go_wp2_with (first
        | (go_at_call 46; (with_reducible refine (HEA.out _ (Later.b _)).mono ?_); rintro e u ⟨rfl, hbu⟩; obtain ⟨z2, hz2⟩ := z.on hbu; subst hz2; clear hbu))
      go_ret
      exact ⟨by rw [HBV.out]; rfl, z2.base HE.out⟩
    · have HBV := key false (by rw [HV.out, if_pos rfl, if_neg (by omega), decide_eq_false (by omega)])
      have h3 : ¬ (A.length : Int) < (C.length : Int) := by omega
      have h3' := eq_false h3
      have h4 : ((A.length : Int) == (C.length : Int)) = false := by rw [beq_eq_false_iff_ne]; omega
      clear key HV h2
      go_enter Try.func108, Try.ntmps108
      go_upto_region 1 with (fail)
      rw [← HW0.out]
      refine wp_region_later (by kernel_rfl) (by kernel_rfl) ?_
      repeat (go_big_quiet_step (first
        | (go_at_call 77; with_reducible exact Calls.later_of (HG1.out _ (Later.b _)))
        | (go_at_call 77; with_reducible exact Calls.later_of (HG2.out _ (Later.b _)))))
      refine wpQuiet_nil ?_
      intro _ hw'
      obtain ⟨z, hw''⟩ := hw'
      subst hw''
      go_wp2_with fail
      go_ret
      exact ⟨by rw [HBV.out]; rfl, z.base HE.out⟩
  · have HBV := key false (by rw [HV.out, if_neg (by omega), decide_eq_false (by omega)])
    have hn : ¬ y < x := by omega
    have hn' := eq_false hn
    have hq : (x == y) = false := by rw [beq_eq_false_iff_ne]; omega
    clear key HV
    go_enter Try.func108, Try.ntmps108
    go_upto_region 1 with (fail)
    rw [← HW0.out]
    refine wp_region_later (by kernel_rfl) (by kernel_rfl) ?_
    repeat (go_big_quiet_step (first
      | (go_at_call 77; with_reducible exact Calls.later_of (HG1.out _ (Later.b _)))
      | (go_at_call 77; with_reducible exact Calls.later_of (HG2.out _ (Later.b _)))))
    refine wpQuiet_nil ?_
    intro _ hw'
    obtain ⟨z, hw''⟩ := hw'
    subst hw''
    go_wp2_with fail
    go_ret
    exact ⟨by rw [HBV.out]; rfl, z.base HE.out⟩
end Go.Proofs.Ytajkgfeockcbpaa
/- The specification's functions of layer 6: the best choice. -/
namespace Go.Proofs.Ytajkgfeockcbpaa
open Go.RowKit Go.Maps
attribute [local go_sem] Oper.semAt_some

/-- The best one of some sets. -/
def stepS (b : Yb) (o c : Nat → Bool) : Nat → Bool := if allowK b false c && betK b false c o then c else o
def bestS (b : Yb) (s : Nat) : Nat → Bool := ((List.range s).map (setF b.lots.length)).foldl (stepS b) noneF
theorem bestS_succ (b : Yb) (s : Nat) : bestS b (s + 1) = stepS b (bestS b s) (setF b.lots.length s) := by
  unfold bestS
  rw [List.range_succ, List.map_append, List.foldl_append]
  rfl
theorem bestS_lt (b : Yb) : ∀ s i, bestS b s i = true → i < b.lots.length
  | 0, i, h => by cases h
  | s + 1, i, h => by
    rw [bestS_succ] at h
    unfold stepS at h
    split at h
    · exact setF_lt h
    · exact bestS_lt b s i h
theorem allow_none (b : Yb) (k : Bool) : allowK b k noneF = true := allowK_iff.2 ⟨fun _ _ h => (by cases h), fun _ _ _ _ _ h => (by cases h)⟩
theorem bestS_is {b : Yb} (hn : b.lots.length ≤ 7) : bestS b (2 ^ b.lots.length) = bestK b false := by
  have h := fold_best (betK b false) (fun _ _ h => betB_asym h) (fun _ _ _ h1 h2 => betB_neg h1 h2) (((List.range (2 ^ b.lots.length)).map (setF b.lots.length)).filter (allowK b false)) noneF
  have e : (((List.range (2 ^ b.lots.length)).map (setF b.lots.length)).filter (allowK b false)).foldl (fun o c => if betK b false c o then c else o) noneF = bestS b (2 ^ b.lots.length) := by
    rw [List.foldl_filter]
    unfold bestS
    congr 1
    funext o c
    unfold stepS
    cases allowK b false c <;> cases betK b false c o <;> rfl
  rw [e] at h
  obtain ⟨h1, _, h3⟩ := h
  have hall : allowK b false (bestS b (2 ^ b.lots.length)) = true := by
    rcases h1 with h1 | h1
    · rw [h1]; exact allow_none b false
    · exact (List.mem_filter.1 h1).2
  have hk := bestK_is (b := b) false hn
  have a1 := hk.2 _ (bestS_lt b _) hall
  obtain ⟨t, ht, hs⟩ := setF_all hn (bestK b false) hk.1.1
  have a2 := h3 (bestK b false) (List.mem_filter.2 ⟨List.mem_map.2 ⟨t, List.mem_range.2 ht, hs⟩, hk.1.2⟩)
  have := (betB_total a1 a2).1
  exact lotsL_inj (fun i hi => by have := bestS_lt b _ i hi; omega) (fun i hi => by have := hk.1.1 i hi; omega) (intsN_inj this)
set_option maxRecDepth 100000 in
set_option maxHeartbeats 6400000 in
theorem refBest_any (b : Yb) (P : Yp) (hok : YbOk b) (w : World) (hB : YbAt w P b) :
    Calls Try.prog 75 #[.agg (ybA b P)] w (GaveSet (bestK b false) w) := by
  obtain ⟨pl, cl, pd, cd, pb, cb, ps, cs⟩ := P
  obtain ⟨W0, hW0⟩ : ∃ W, W = w.alloc (.cells (ybA b ⟨pl, cl, pd, cd, pb, cb, ps, cs⟩) 25) := ⟨_, rfl⟩
  have HW0 := Lib.hid hW0
  have HE := Lib.hid (show Below w.heap.size w W0 by rw [hW0]; exact below_alloc _ _)
  have HRx := Lib.hid (show Row W0 w.heap.size (ybA b ⟨pl, cl, pd, cd, pb, cb, ps, cs⟩) 25 by rw [hW0]; exact Row.new _ _ _)
  have HB := Lib.hid (hB.below HE.out)
  have n7 := hok.n7
  have h0 := hok.e0
  have g0 := HRx.out.cell 0 (v := .slice pl b.lots.length cl) rfl
  have g1 := HRx.out.cell 1 (v := .slice pd b.doors.length cd) rfl
  have g2 := HRx.out.cell 2 (v := .slice pb b.buckets.length cb) rfl
  have g3 := HRx.out.cell 3 (v := .slice ps b.spare.length cs) rfl
  have g4 := HRx.out.cell 4 (v := .int .i64 b.apart) rfl
  have g5 := HRx.out.cell 5 (v := .int .i64 b.door) rfl
  have g6 := HRx.out.cell 6 (v := .int .i64 b.bucket) rfl
  have g7 := HRx.out.cell 7 (v := .int .i64 b.err) rfl
  have HMK := Lib.hid (fun s (hs : s < 256) w' => (by have h := Marks_any s b.lots.length w' hs (by omega); rw [marksL_set n7] at h; exact h))
  have HAW := Lib.hid (fun s q cq w' (h : Below W0.heap.size W0 w') hi => (by
    have r := refAllowed_any b ⟨pl, cl, pd, cd, pb, cb, ps, cs⟩ hok (lotsL (setF b.lots.length s)) (lotsL_le _) (fun x hx => setF_lt (lotsL_mem.1 hx).2) q cq w' (HB.out.below h) hi
    unfold allV at r
    simp only [allK_is] at r
    exact r))
  have HBT := Lib.hid (fun s q cq p c w' (h : Below W0.heap.size W0 w') h1 h2 => refBetter_any b ⟨pl, cl, pd, cd, pb, cb, ps, cs⟩ hok (lotsL (setF b.lots.length s)) (lotsL (bestS b s)) (lotsL_le _) (lotsL_le _) (fun x hx => setF_lt (lotsL_mem.1 hx).2) (fun x hx => bestS_lt b s x (lotsL_mem.1 hx).2) q cq p c w' (HB.out.below h) h1 h2)
  have HBS := Lib.hid (fun s => bestS_succ b s)
  have HBI := Lib.hid (bestS_is n7)
  have HAK := Lib.hid (fun s => allow_kind h0 (setF b.lots.length s))
  have hp := pow_few (n := b.lots.length) (by omega)
  obtain ⟨N, hN⟩ : ∃ n, 2 ^ b.lots.length = n := ⟨_, rfl⟩
  rw [hN] at HBI hp
  have ex : wrap64 (2 ^ b.lots.length) = (N : Int) := by
    rw [show ((2 : Int) ^ b.lots.length) = (N : Int) by rw [← hN]; simp]
    exact IntWalk.wrap64_in _ (by omega)
  have i7 : (b.lots.length : Int) ≤ 7 := by omega
  obtain ⟨BK, hBK⟩ : ∃ f, bestK b false = f := ⟨_, rfl⟩
  rw [hBK] at HBI ⊢
  clear hW0 hB hN hBK hok
  go_enter Try.func75, Try.ntmps75
  go_upto_region 1 with (fail)
  rw [← HW0.out]
  go_wp2_with fail
  go_loopw [3, 4] (fun a i wr => ∃ (s : Nat) (x : Later W0) (q : Option Addr) (cq : Nat), s ≤ N ∧ i = .int .i64 (s : Int) ∧ a = .slice q (intsN (lotsL (bestS b s))).length cq ∧ IntsAt x.w q (intsN (lotsL (bestS b s))) ∧ wr = x.w) (fun _ i _ => N - (intOf i).toNat)
  case atStart => exact ⟨0, ⟨W0, Below.refl _ _⟩, none, 0, by omega, rfl, rfl, fun i hi => absurd hi (Nat.not_lt_zero _), rfl⟩
  case round =>
    obtain ⟨s, x, q, cq, hs, rfl, rfl, hq, rfl⟩ := hrel
    have HQ := Lib.hid hq
    clear hq
    by_cases hlt : s < N
    · have i1 : (s : Int) < (N : Int) := by omega
      have HM := Lib.hid (HMK.out s (by omega))
      have HA := Lib.hid (HAW.out s)
      have HT := Lib.hid (HBT.out s)
      have hbs := HBS.out s
      have hak := HAK.out s
      unfold stepS at hbs
      obtain ⟨F, hF⟩ : ∃ f, setF b.lots.length s = f := ⟨_, rfl⟩
      rw [hF] at HM HA HT hbs hak
      obtain ⟨kd, hkd⟩ : ∃ v, kindN (fun k => allowK b k F) = v := ⟨_, rfl⟩
      rw [hkd] at HA hak
      obtain ⟨bt, hbt⟩ : ∃ v, betB (intsN (lotsL F)) (lowS b (lotsL F)) (intsN (lotsL (bestS b s))) (lowS b (lotsL (bestS b s))) = v := ⟨_, rfl⟩
      have hbk : betK b false F (bestS b s) = bt := hbt
      rw [hbt] at HT
      rw [hbk] at hbs
      obtain ⟨L, hL⟩ : ∃ v, intsN (lotsL F) = v := ⟨_, rfl⟩
      obtain ⟨O, hO⟩ : ∃ v, intsN (lotsL (bestS b s)) = v := ⟨_, rfl⟩
      have HL := Lib.hid hL
      have HO := Lib.hid hO
      rw [hL] at HM HA HT
      rw [hO] at HT HQ ⊢
      have HBN := Lib.hid hbs
      clear hF hkd hbt hbk hL hO hbs
      cases ha : allowK b false F
      · rw [ha] at hak HBN
        have hk2 : (kd == 2) = false := by rw [hak, if_neg (by simp)]; split <;> rfl
        have hbe : bestS b (s + 1) = bestS b s := by rw [HBN.out]; rfl
        have HBE := Lib.hid hbe
        clear hak ha hbe
        go_wp2_with (first
          | (go_at_call 49; (with_reducible refine (HM.out _).mono ?_); rintro e u ⟨qm, cqm, rfl, hi1, hbu⟩; have HIM := Lib.hid hi1; have HQ := Lib.hid (HQ.out.below hbu); obtain ⟨x1, hx1⟩ := x.on hbu; subst hx1; clear hbu; clear hi1)
          | (go_at_call 72; (with_reducible refine (HA.out _ _ _ (Later.b _) HIM.out).mono ?_); rintro e u ⟨rfl, hbu⟩; have HQ := Lib.hid (HQ.out.below hbu); obtain ⟨x2, hx2⟩ := x1.on hbu; subst hx2; clear hbu))
        go_roundw
        case rel => exact ⟨s + 1, x2, q, cq, by omega, by go_num, by rw [HBE.out, HO.out], by rw [HBE.out, HO.out]; exact HQ.out, rfl⟩
        case measure => simp [intOf]; omega
      · rw [ha] at hak HBN
        have hk2 : kd = 2 := by rw [hak, if_pos rfl]
        subst hk2
        cases bt
        · have hbe : bestS b (s + 1) = bestS b s := by rw [HBN.out]; rfl
          have HBE := Lib.hid hbe
          clear hak ha hbe
          go_wp2_with (first
            | (go_at_call 49; (with_reducible refine (HM.out _).mono ?_); rintro e u ⟨qm, cqm, rfl, hi1, hbu⟩; have HIM := Lib.hid hi1; have HQ := Lib.hid (HQ.out.below hbu); obtain ⟨x1, hx1⟩ := x.on hbu; subst hx1; clear hbu; clear hi1)
            | (go_at_call 72; (with_reducible refine (HA.out _ _ _ (Later.b _) HIM.out).mono ?_); rintro e u ⟨rfl, hbu⟩; have HQ := Lib.hid (HQ.out.below hbu); have HIM := Lib.hid (HIM.out.below hbu); obtain ⟨x2, hx2⟩ := x1.on hbu; subst hx2; clear hbu)
            | (go_at_call 108; (with_reducible refine (HT.out _ _ _ _ _ (Later.b _) HIM.out HQ.out).mono ?_); rintro e u ⟨rfl, hbu⟩; have HQ := Lib.hid (HQ.out.below hbu); obtain ⟨x3, hx3⟩ := x2.on hbu; subst hx3; clear hbu))
          go_roundw
          case rel => exact ⟨s + 1, x3, q, cq, by omega, by go_num, by rw [HBE.out, HO.out], by rw [HBE.out, HO.out]; exact HQ.out, rfl⟩
          case measure => simp [intOf]; omega
        · have hbe : bestS b (s + 1) = F := by rw [HBN.out]; rfl
          have HBE := Lib.hid hbe
          clear hak ha hbe
          go_wp2_with (first
            | (go_at_call 49; (with_reducible refine (HM.out _).mono ?_); rintro e u ⟨qm, cqm, rfl, hi1, hbu⟩; have HIM := Lib.hid hi1; have HQ := Lib.hid (HQ.out.below hbu); obtain ⟨x1, hx1⟩ := x.on hbu; subst hx1; clear hbu; clear hi1)
            | (go_at_call 72; (with_reducible refine (HA.out _ _ _ (Later.b _) HIM.out).mono ?_); rintro e u ⟨rfl, hbu⟩; have HQ := Lib.hid (HQ.out.below hbu); have HIM := Lib.hid (HIM.out.below hbu); obtain ⟨x2, hx2⟩ := x1.on hbu; subst hx2; clear hbu)
            | (go_at_call 108; (with_reducible refine (HT.out _ _ _ _ _ (Later.b _) HIM.out HQ.out).mono ?_); rintro e u ⟨rfl, hbu⟩; have HIM := Lib.hid (HIM.out.below hbu); obtain ⟨x3, hx3⟩ := x2.on hbu; subst hx3; clear hbu))
          go_roundw
          case rel => exact ⟨s + 1, x3, qm, cqm, by omega, by go_num, by rw [HBE.out, HL.out], by rw [HBE.out, HL.out]; exact HIM.out, rfl⟩
          case measure => simp [intOf]; omega
    · obtain rfl : s = N := by omega
      rw [HBI.out] at HQ ⊢
      go_wp2_with fail
      go_ret
      exact ⟨q, cq, rfl, HQ.out, x.base HE.out⟩
end Go.Proofs.Ytajkgfeockcbpaa
/- The specification's calls of layer 6: Best, Goods. -/
namespace Go.Proofs.Ytajkgfeockcbpaa
open Go.RowKit Go.Maps
attribute [local go_sem] Oper.semAt_some

attribute [local go_sem] fieldS0 fieldS1
/-- The most goods of some sets. -/
def mostS (b : Yb) : Nat → Int
  | 0 => 0
  | s + 1 => if allowK b true (setF b.lots.length s) then max (mostS b s) (goodsK b true (setF b.lots.length s)) else mostS b s
theorem goods_nn {b : Yb} (hok : YbOk b) {f : Nat → Bool} (hf : ∀ i, f i = true → i < b.lots.length) : 0 ≤ goodsK b true f ∧ goodsK b true f ≤ 693 := by
  have h := hi_range hok (l := lotsL f) (fun x hx => hf x (lotsL_mem.1 hx).2)
  have h7 := lotsL_le f
  have e : goodsK b true f = hiS b (lotsL f) := rfl
  rw [e]
  omega
theorem mostS_range {b : Yb} (hok : YbOk b) : ∀ s, (0 ≤ mostS b s ∧ mostS b s ≤ 693) ∧ (∀ t, t < s → allowK b true (setF b.lots.length t) = true → goodsK b true (setF b.lots.length t) ≤ mostS b s) ∧ (mostS b s = 0 ∨ ∃ t, t < s ∧ allowK b true (setF b.lots.length t) = true ∧ mostS b s = goodsK b true (setF b.lots.length t))
  | 0 => ⟨⟨Int.le_refl 0, by show (0 : Int) ≤ 693; decide⟩, fun t ht => absurd ht (Nat.not_lt_zero _), .inl rfl⟩
  | s + 1 => by
    obtain ⟨h1, h2, h3⟩ := mostS_range hok s
    have hg := goods_nn hok (f := setF b.lots.length s) (fun i hi => setF_lt hi)
    rw [mostS]
    cases ha : allowK b true (setF b.lots.length s)
    · rw [if_neg (by simp)]
      refine ⟨h1, fun t ht hat => ?_, ?_⟩
      · by_cases e : t = s
        · rw [e, ha] at hat; cases hat
        · exact h2 t (by omega) hat
      · rcases h3 with h3 | ⟨t, h4, h5, h6⟩
        · exact .inl h3
        · exact .inr ⟨t, by omega, h5, h6⟩
    · rw [if_pos rfl]
      refine ⟨by omega, fun t ht hat => ?_, ?_⟩
      · by_cases e : t = s
        · rw [e]; omega
        · have := h2 t (by omega) hat
          omega
      · by_cases e : mostS b s ≤ goodsK b true (setF b.lots.length s)
        · exact .inr ⟨s, by omega, ha, by omega⟩
        · rcases h3 with h3 | ⟨t, h4, h5, h6⟩
          · exact .inr ⟨s, by omega, ha, by omega⟩
          · exact .inr ⟨t, by omega, h5, by omega⟩
theorem mostS_is {b : Yb} (hok : YbOk b) : mostS b (2 ^ b.lots.length) = topK b true := by
  have hk := bestK_is (b := b) true hok.n7
  obtain ⟨h1, h2, h3⟩ := mostS_range hok (2 ^ b.lots.length)
  obtain ⟨t, ht, hs⟩ := setF_all hok.n7 (bestK b true) hk.1.1
  have h4 := h2 t ht (by rw [hs]; exact hk.1.2)
  rw [hs] at h4
  have h4 : topK b true ≤ mostS b (2 ^ b.lots.length) := h4
  have h5 : mostS b (2 ^ b.lots.length) ≤ topK b true := by
    rcases h3 with h3 | ⟨t, _, h5, h6⟩
    · rw [h3]
      exact (goods_nn hok hk.1.1).1
    · rw [h6]
      exact top_is true hok.n7 (fun i hi => setF_lt hi) h5
  omega
def RefBest (b : Yb) (w : World) (e : Ending) (w' : World) : Prop := Below w.heap.size w w' ∧ ((yardB b = false ∧ e = .returned (.tuple #[.slice none 0 0, .int .i64 60])) ∨ (yardB b = true ∧ ∃ q cq, e = .returned (.tuple #[.slice q (intsN (lotsL (bestK b false))).length cq, .int .i64 0]) ∧ IntsAt w' q (intsN (lotsL (bestK b false)))))
set_option maxRecDepth 100000 in
set_option maxHeartbeats 3200000 in
theorem refBest_api (b : Yb) (P : Yp) (w : World) (hB : YbAt w P b) : Calls Try.prog 24 #[.agg (ybA b P)] w (RefBest b w) := by
  obtain ⟨pl, cl, pd, cd, pb, cb, ps, cs⟩ := P
  obtain ⟨W0, hW0⟩ : ∃ W, W = w.alloc (.cells (ybA b ⟨pl, cl, pd, cd, pb, cb, ps, cs⟩) 25) := ⟨_, rfl⟩
  have HW0 := Lib.hid hW0
  have HE := Lib.hid (show Below w.heap.size w W0 by rw [hW0]; exact below_alloc _ _)
  have HRx := Lib.hid (show Row W0 w.heap.size (ybA b ⟨pl, cl, pd, cd, pb, cb, ps, cs⟩) 25 by rw [hW0]; exact Row.new _ _ _)
  have HB := Lib.hid (hB.below HE.out)
  have g0 := HRx.out.cell 0 (v := .slice pl b.lots.length cl) rfl
  have g1 := HRx.out.cell 1 (v := .slice pd b.doors.length cd) rfl
  have g2 := HRx.out.cell 2 (v := .slice pb b.buckets.length cb) rfl
  have g3 := HRx.out.cell 3 (v := .slice ps b.spare.length cs) rfl
  have g4 := HRx.out.cell 4 (v := .int .i64 b.apart) rfl
  have g5 := HRx.out.cell 5 (v := .int .i64 b.door) rfl
  have g6 := HRx.out.cell 6 (v := .int .i64 b.bucket) rfl
  have g7 := HRx.out.cell 7 (v := .int .i64 b.err) rfl
  have HCK := Lib.hid (refCheck_any b ⟨pl, cl, pd, cd, pb, cb, ps, cs⟩ W0 HB.out)
  clear hW0 hB
  cases hb : yardB b
  · rw [yardE_bad hb] at HCK
    have HBB := Lib.hid hb
    clear hb
    go_enter Try.func24, Try.ntmps24
    go_upto_region 1 with (fail)
    rw [← HW0.out]
    go_wp2_with (first | (go_at_call 17; (with_reducible refine HCK.out.mono ?_); rintro e u ⟨rfl, hbu⟩; obtain ⟨x0, hx0⟩ := later_of hbu; subst hx0; clear hbu))
    exact bodyPost_ret (v := .tuple #[.slice none 0 0, .int .i64 60]) (results_tmp2 Try.results24 _ _ _) rfl ⟨x0.base HE.out, .inl ⟨HBB.out, rfl⟩⟩
  · rw [yardE_ok hb] at HCK
    have HBB := Lib.hid hb
    have HBE := Lib.hid (fun w' (h : Below W0.heap.size W0 w') => refBest_any b ⟨pl, cl, pd, cd, pb, cb, ps, cs⟩ (yardB_ok hb) w' (HB.out.below h))
    clear hb
    go_enter Try.func24, Try.ntmps24
    go_upto_region 1 with (fail)
    rw [← HW0.out]
    go_wp2_with (first
      | (go_at_call 17; (with_reducible refine HCK.out.mono ?_); rintro e u ⟨rfl, hbu⟩; obtain ⟨x0, hx0⟩ := later_of hbu; subst hx0; clear hbu)
      | (go_at_call 75; (with_reducible refine (HBE.out _ (Later.b _)).mono ?_); rintro e u ⟨q, cq, rfl, hi1, hbu⟩; have HIQ := Lib.hid hi1; obtain ⟨x1, hx1⟩ := x0.on hbu; subst hx1; clear hbu; clear hi1))
    exact bodyPost_ret (v := .tuple #[.slice q (intsN (lotsL (bestK b false))).length cq, .int .i64 0]) (results_tmp2 Try.results24 _ _ _) rfl ⟨x1.base HE.out, .inr ⟨HBB.out, q, cq, rfl, HIQ.out⟩⟩
set_option maxRecDepth 100000 in
set_option maxHeartbeats 6400000 in
theorem refGoods_api (b : Yb) (P : Yp) (w : World) (hB : YbAt w P b) :
    Calls Try.prog 27 #[.agg (ybA b P)] w fun e w' => e = .returned (.tuple #[.agg #[.int .i64 (goodsV b).1, .int .i64 (goodsV b).2.1], .int .i64 (goodsV b).2.2]) ∧ Below w.heap.size w w' := by
  obtain ⟨pl, cl, pd, cd, pb, cb, ps, cs⟩ := P
  obtain ⟨W0, hW0⟩ : ∃ W, W = (w.alloc (.cells (ybA b ⟨pl, cl, pd, cd, pb, cb, ps, cs⟩) 25)).alloc (.cells #[.int .i64 0, .int .i64 0] 40) := ⟨_, rfl⟩
  have HW0 := Lib.hid hW0
  have HE := Lib.hid (show Below w.heap.size w W0 by rw [hW0]; exact below_alloc2 _ _ _)
  have HRx := Lib.hid (show Row W0 w.heap.size (ybA b ⟨pl, cl, pd, cd, pb, cb, ps, cs⟩) 25 by rw [hW0]; exact (Row.new _ _ _).alloc _)
  have HRZ := Lib.hid (show Row W0 (w.heap.size + 1) #[.int .i64 0, .int .i64 0] 40 by rw [hW0]; exact Row.new1 _ _ _ _)
  have HB := Lib.hid (hB.below HE.out)
  have g0 := HRx.out.cell 0 (v := .slice pl b.lots.length cl) rfl
  have g1 := HRx.out.cell 1 (v := .slice pd b.doors.length cd) rfl
  have g2 := HRx.out.cell 2 (v := .slice pb b.buckets.length cb) rfl
  have g3 := HRx.out.cell 3 (v := .slice ps b.spare.length cs) rfl
  have g4 := HRx.out.cell 4 (v := .int .i64 b.apart) rfl
  have g5 := HRx.out.cell 5 (v := .int .i64 b.door) rfl
  have g6 := HRx.out.cell 6 (v := .int .i64 b.bucket) rfl
  have g7 := HRx.out.cell 7 (v := .int .i64 b.err) rfl
  have HCK := Lib.hid (refCheck_any b ⟨pl, cl, pd, cd, pb, cb, ps, cs⟩ W0 HB.out)
  clear hW0 hB
  cases hb : yardB b
  · rw [yardE_bad hb] at HCK
    have HV : Hid (goodsV b = (0, 0, 60)) := Lib.hid (by unfold goodsV; rw [hb]; rfl)
    clear hb
    go_enter Try.func27, Try.ntmps27
    go_upto_region 1 with (fail)
    rw [← HW0.out]
    go_wp2_with (first
      | (go_at_call 17; (with_reducible refine HCK.out.mono ?_); rintro e u ⟨rfl, hbu⟩; obtain ⟨x0, hx0⟩ := later_of hbu; subst hx0; clear hbu)
      | (refine store_row rfl 40 _ _ rfl (w.heap.size + 1) #[.int .i64 0, .int .i64 0] #[.int .i64 0, .int .i64 0] 40 rfl rfl (HRZ.out.below x0.b HRZ.out.lt) (by kernel_rfl) rfl (by simp [Value.oneCell']) ?_))
    exact bodyPost_ret (v := .tuple #[.agg #[.int .i64 0, .int .i64 0], .int .i64 60]) (results_cell_tmp' Try.results27 _ _ _ _ _ _ _ rfl rfl ((HRZ.out.below x0.b HRZ.out.lt).setRow _) Try.underlying40 rfl (by kernel_rfl)) rfl ⟨by rw [HV.out], below_setRow' (x0.base HE.out) (by omega) _⟩
  rw [yardE_ok hb] at HCK
  have hok := yardB_ok hb
  have n7 := hok.n7
  have h0 := hok.e0
  have HV : Hid (goodsV b = (topK b false, topK b true, 0)) := Lib.hid (by unfold goodsV; rw [hb]; rfl)
  have HMK := Lib.hid (fun s (hs : s < 256) w' => (by have h := Marks_any s b.lots.length w' hs (by omega); rw [marksL_set n7] at h; exact h))
  have HAW := Lib.hid (fun s q cq w' (h : Below W0.heap.size W0 w') hi => (by
    have r := refAllowed_any b ⟨pl, cl, pd, cd, pb, cb, ps, cs⟩ hok (lotsL (setF b.lots.length s)) (lotsL_le _) (fun x hx => setF_lt (lotsL_mem.1 hx).2) q cq w' (HB.out.below h) hi
    unfold allV at r
    simp only [allK_is] at r
    exact r))
  have HGW := Lib.hid (fun s q cq w' (h : Below W0.heap.size W0 w') hi => refGoods_any b ⟨pl, cl, pd, cd, pb, cb, ps, cs⟩ hok (lotsL (setF b.lots.length s)) (lotsL_le _) (fun x hx => setF_lt (lotsL_mem.1 hx).2) q cq w' (HB.out.below h) hi)
  have HBE := Lib.hid (fun w' (h : Below W0.heap.size W0 w') => refBest_any b ⟨pl, cl, pd, cd, pb, cb, ps, cs⟩ hok w' (HB.out.below h))
  have hbk := (bestK_is (b := b) false n7).1.1
  have HGB := Lib.hid (fun q cq w' (h : Below W0.heap.size W0 w') hi => refGoods_any b ⟨pl, cl, pd, cd, pb, cb, ps, cs⟩ hok (lotsL (bestK b false)) (lotsL_le _) (fun x hx => hbk x (lotsL_mem.1 hx).2) q cq w' (HB.out.below h) hi)
  have htl : lowS b (lotsL (bestK b false)) = topK b false := rfl
  have HMS : Hid (∀ s, mostS b (s + 1) = if allowK b true (setF b.lots.length s) then max (mostS b s) (goodsK b true (setF b.lots.length s)) else mostS b s) := Lib.hid (fun s => rfl)
  have HMI := Lib.hid (mostS_is hok)
  have HAK := Lib.hid (fun s => allow_kind h0 (setF b.lots.length s))
  have HEN := Lib.hid (fun s => allow_ends h0 (f := setF b.lots.length s))
  have hp := pow_few (n := b.lots.length) (by omega)
  obtain ⟨N, hN⟩ : ∃ n, 2 ^ b.lots.length = n := ⟨_, rfl⟩
  rw [hN] at HMI hp
  have ex : wrap64 (2 ^ b.lots.length) = (N : Int) := by
    rw [show ((2 : Int) ^ b.lots.length) = (N : Int) by rw [← hN]; simp]
    exact IntWalk.wrap64_in _ (by omega)
  have i7 : (b.lots.length : Int) ≤ 7 := by omega
  obtain ⟨TL, hTL⟩ : ∃ v, topK b false = v := ⟨_, rfl⟩
  obtain ⟨TH, hTH⟩ : ∃ v, topK b true = v := ⟨_, rfl⟩
  rw [hTL] at HV htl
  rw [hTH] at HV HMI
  rw [htl] at HGB
  obtain ⟨hb2, hhb⟩ : ∃ v, hiS b (lotsL (bestK b false)) = v := ⟨_, rfl⟩
  rw [hhb] at HGB
  unfold GaveSet at HBE
  obtain ⟨LB, hLB⟩ : ∃ v, intsN (lotsL (bestK b false)) = v := ⟨_, rfl⟩
  rw [hLB] at HBE HGB
  clear hb hN hTL hTH htl hhb hLB hok hbk
  go_enter Try.func27, Try.ntmps27
  go_upto_region 1 with (fail)
  rw [← HW0.out]
  go_wp2_with (first | (go_at_call 17; (with_reducible refine HCK.out.mono ?_); rintro e u ⟨rfl, hbu⟩; obtain ⟨x0, hx0⟩ := later_of hbu; subst hx0; clear hbu))
  go_loopw [5, 6] (fun a i wr => ∃ (s : Nat) (x : Later W0), s ≤ N ∧ i = .int .i64 (s : Int) ∧ a = .int .i64 (mostS b s) ∧ wr = x.w) (fun _ i _ => N - (intOf i).toNat)
  case atStart => exact ⟨0, x0, by omega, rfl, rfl, rfl⟩
  case round =>
    clear x0
    obtain ⟨s, x, hs, rfl, rfl, rfl⟩ := hrel
    by_cases hlt : s < N
    · have i1 : (s : Int) < (N : Int) := by omega
      have HM := Lib.hid (HMK.out s (by omega))
      have HA := Lib.hid (HAW.out s)
      have HG := Lib.hid (HGW.out s)
      have hms := HMS.out s
      have hak := HAK.out s
      have hen := HEN.out s
      obtain ⟨F, hF⟩ : ∃ f, setF b.lots.length s = f := ⟨_, rfl⟩
      rw [hF] at HM HA HG hms hak hen
      obtain ⟨kd, hkd⟩ : ∃ v, kindN (fun k => allowK b k F) = v := ⟨_, rfl⟩
      rw [hkd] at HA hak
      have hge : hiS b (lotsL F) = goodsK b true F := rfl
      obtain ⟨gl, hgl⟩ : ∃ v, lowS b (lotsL F) = v := ⟨_, rfl⟩
      obtain ⟨gv, hgv⟩ : ∃ v, goodsK b true F = v := ⟨_, rfl⟩
      rw [hge, hgl, hgv] at HG
      rw [hgv] at hms
      obtain ⟨mv, hmv⟩ : ∃ v, mostS b s = v := ⟨_, rfl⟩
      rw [hmv] at hms ⊢
      obtain ⟨L, hL⟩ : ∃ v, intsN (lotsL F) = v := ⟨_, rfl⟩
      rw [hL] at HM HA HG
      have HMN := Lib.hid hms
      clear hF hkd hge hgl hgv hL hms hmv
      cases ha : allowK b true F
      · rw [ha] at HMN hak hen
        have hk0 : ¬ 0 < kd := by
          rw [hak]
          cases hf : allowK b false F
          · simp
          · have := hen hf
            cases this
        have hk0' := eq_false hk0
        have hme : mostS b (s + 1) = mv := by rw [HMN.out]; rfl
        have HME := Lib.hid hme
        clear hak ha hme hen
        go_wp2_with (first
          | (go_at_call 49; (with_reducible refine (HM.out _).mono ?_); rintro e u ⟨qm, cqm, rfl, hi1, hbu⟩; have HIM := Lib.hid hi1; obtain ⟨x1, hx1⟩ := x.on hbu; subst hx1; clear hbu; clear hi1)
          | (go_at_call 72; (with_reducible refine (HA.out _ _ _ (Later.b _) HIM.out).mono ?_); rintro e u ⟨rfl, hbu⟩; obtain ⟨x2, hx2⟩ := x1.on hbu; subst hx2; clear hbu))
        go_roundw
        case rel => exact ⟨s + 1, x2, by omega, by go_num, by rw [HME.out], rfl⟩
        case measure => simp [intOf]; omega
      · rw [ha] at HMN hak
        have hk0 : 0 < kd := by rw [hak]; split <;> simp
        have hme : mostS b (s + 1) = max mv gv := by rw [HMN.out]; rfl
        clear hak ha hen
        by_cases hmg : mv < gv
        · have HME := Lib.hid (show mostS b (s + 1) = gv by rw [hme]; omega)
          clear hme
          go_wp2_with (first
            | (go_at_call 49; (with_reducible refine (HM.out _).mono ?_); rintro e u ⟨qm, cqm, rfl, hi1, hbu⟩; have HIM := Lib.hid hi1; obtain ⟨x1, hx1⟩ := x.on hbu; subst hx1; clear hbu; clear hi1)
            | (go_at_call 72; (with_reducible refine (HA.out _ _ _ (Later.b _) HIM.out).mono ?_); rintro e u ⟨rfl, hbu⟩; have HIM := Lib.hid (HIM.out.below hbu); obtain ⟨x2, hx2⟩ := x1.on hbu; subst hx2; clear hbu)
            | (go_at_call 77; (with_reducible refine (HG.out _ _ _ (Later.b _) HIM.out).mono ?_); rintro e u ⟨rfl, hbu⟩; obtain ⟨x3, hx3⟩ := x2.on hbu; subst hx3; clear hbu))
          go_roundw
          case rel => exact ⟨s + 1, x3, by omega, by go_num, by rw [HME.out], rfl⟩
          case measure => simp [intOf]; omega
        · have HME := Lib.hid (show mostS b (s + 1) = mv by rw [hme]; omega)
          have hmg' := eq_false hmg
          clear hme
          go_wp2_with (first
            | (go_at_call 49; (with_reducible refine (HM.out _).mono ?_); rintro e u ⟨qm, cqm, rfl, hi1, hbu⟩; have HIM := Lib.hid hi1; obtain ⟨x1, hx1⟩ := x.on hbu; subst hx1; clear hbu; clear hi1)
            | (go_at_call 72; (with_reducible refine (HA.out _ _ _ (Later.b _) HIM.out).mono ?_); rintro e u ⟨rfl, hbu⟩; have HIM := Lib.hid (HIM.out.below hbu); obtain ⟨x2, hx2⟩ := x1.on hbu; subst hx2; clear hbu)
            | (go_at_call 77; (with_reducible refine (HG.out _ _ _ (Later.b _) HIM.out).mono ?_); rintro e u ⟨rfl, hbu⟩; obtain ⟨x3, hx3⟩ := x2.on hbu; subst hx3; clear hbu))
          go_roundw
          case rel => exact ⟨s + 1, x3, by omega, by go_num, by rw [HME.out], rfl⟩
          case measure => simp [intOf]; omega
    · obtain rfl : s = N := by omega
      rw [HMI.out]
      go_upto_region 11 with (fail)
      refine wp_region_held_drew (S := fun w' => Row w' w.heap.size (ybA b ⟨pl, cl, pd, cd, pb, cb, ps, cs⟩) 25) (by kernel_rfl) (HRx.out.below x.b.drew HRx.out.lt) (fun hH => ?_)
      have hbu : Below x.w.heap.size x.w x.w.drew := (Below.refl _ _).drew
      obtain ⟨x1, hx1⟩ := x.on hbu
      clear hbu
      rw [hx1] at hH ⊢
      clear hx1
      refine wpAnyH_take_to 0 37 (.agg (ybA b ⟨pl, cl, pd, cd, pb, cb, ps, cs⟩)) rfl rfl (by kernel_rfl) (by kernel_rfl) (by kernel_rfl) (fun _ _ _ h => h) (yields_row (by rfl) 25 _ rfl (w.heap.size) rfl 25 (ybA b ⟨pl, cl, pd, cd, pb, cb, ps, cs⟩) _ (fun _ h => h) Try.underlying25 rfl (by kernel_rfl)) hH ?_
      refine wpAnyH_take_to 1 38 (.agg (ybA b ⟨pl, cl, pd, cd, pb, cb, ps, cs⟩)) rfl rfl (by kernel_rfl) (by kernel_rfl) (by kernel_rfl) (fun _ _ _ h => h) (yields_row (by rfl) 25 _ rfl (w.heap.size) rfl 25 (ybA b ⟨pl, cl, pd, cd, pb, cb, ps, cs⟩) _ (fun _ h => h) Try.underlying25 rfl (by kernel_rfl)) hH ?_
      refine wpAnyH_take_to 5 42 (.int .i64 TH) rfl rfl (by kernel_rfl) (by kernel_rfl) (by kernel_rfl) (fun _ _ _ h => h) (Or.inl ⟨by rfl, fun w' hSw => by go_simp⟩) hH ?_
      try simp only [Act.put, List.setIfInBounds_toArray, List.set_cons_succ, List.set_cons_zero]
      refine wpAnyH_ready (rs := [2]) (by kernel_rfl) (by simp) (AllReadyH.cons rfl (fun K hK => ?_) AllReadyH.nil)
      go_simp
      refine (HBE.out _ (Later.b _)).mono ?_
      rintro e u ⟨q, cq, rfl, hi1, hbu⟩
      have HIQ := Lib.hid hi1
      obtain ⟨x2, hx2⟩ := x1.on hbu
      subst hx2
      clear hbu hi1
      refine hK.out _ _ (HRx.out.below x2.b HRx.out.lt) (fun hH => ?_)
      clear hK K
      try simp only [Act.put, List.setIfInBounds_toArray, List.set_cons_succ, List.set_cons_zero]
      refine wpAnyH_ready (rs := [3]) (by kernel_rfl) (by simp) (AllReadyH.cons rfl (fun K hK => ?_) AllReadyH.nil)
      go_simp
      refine (HGB.out _ _ _ (Later.b _) HIQ.out).mono ?_
      rintro e u ⟨rfl, hbu⟩
      obtain ⟨x3, hx3⟩ := x2.on hbu
      subst hx3
      clear hbu
      refine hK.out _ _ (HRx.out.below x3.b HRx.out.lt) (fun hH => ?_)
      clear hK K
      try simp only [Act.put, List.setIfInBounds_toArray, List.set_cons_succ, List.set_cons_zero]
      refine wpAnyH_take_to 4 41 (.int .i64 TL) rfl rfl (by kernel_rfl) (by kernel_rfl) (by kernel_rfl) (fun _ _ _ h => h) (Or.inl ⟨by rfl, fun w' hSw => by go_simp⟩) hH ?_
      try simp only [Act.put, List.setIfInBounds_toArray, List.set_cons_succ, List.set_cons_zero]
      refine wpAnyH_ready (rs := [6]) (by kernel_rfl) (by simp) (AllReadyH.cons rfl (fun K hK => ?_) AllReadyH.nil)
      go_simp
      refine (Sp_any _ _ _).mono ?_
      rintro e u ⟨rfl, hbu⟩
      obtain ⟨x4, hx4⟩ := x3.on hbu
      subst hx4
      clear hbu
      refine hK.out _ _ (HRx.out.below x4.b HRx.out.lt) (fun hH => ?_)
      clear hK K
      try simp only [Act.put, List.setIfInBounds_toArray, List.set_cons_succ, List.set_cons_zero]
      have HZ2 := Lib.hid (HRZ.out.below x4.b HRZ.out.lt)
      refine wpAnyH_ready (rs := [7]) (by kernel_rfl) (by simp) (AllReadyH.cons rfl (fun K hK => ?_) AllReadyH.nil)
      rw [if_pos (by rfl)]
      refine wp_store_row' 40 _ _ rfl (w.heap.size + 1) #[.int .i64 TL, .int .i64 TH] #[.int .i64 0, .int .i64 0] 40 rfl rfl HZ2.out (by kernel_rfl) rfl (by simp [Value.oneCell']) ?_
      refine hK.out _ _ ((HRx.out.below x4.b HRx.out.lt).setRow_other _ (by omega)) (fun hH => ?_)
      clear hK K
      try simp only [Act.put, List.setIfInBounds_toArray, List.set_cons_succ, List.set_cons_zero]
      refine wpAnyH_take_to 8 3 (.int .i64 0) rfl rfl (by kernel_rfl) (by kernel_rfl) (by kernel_rfl) (fun _ _ _ h => h) (Or.inl ⟨by rfl, fun w' hSw => by go_simp⟩) hH ?_
      try simp only [Act.put, List.setIfInBounds_toArray, List.set_cons_succ, List.set_cons_zero]
      refine wpAnyH_done (by kernel_rfl) ?_ _
      simp only [Exit.then, Act.put]
      go_wp2_with fail
      exact bodyPost_ret (v := .tuple #[.agg #[.int .i64 TL, .int .i64 TH], .int .i64 0]) (results_cell_tmp' Try.results27 _ _ _ _ _ _ _ rfl rfl (HZ2.out.setRow _) Try.underlying40 rfl (by kernel_rfl)) rfl ⟨by rw [HV.out], below_setRow' (x4.base HE.out) (by omega) _⟩
end Go.Proofs.Ytajkgfeockcbpaa
