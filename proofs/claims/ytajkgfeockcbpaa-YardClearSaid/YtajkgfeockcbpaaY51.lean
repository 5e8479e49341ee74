/- The law YardClear. -/
import Derived.Test.YtajkgfeockcbpaaY47
namespace Go.Proofs.Ytajkgfeockcbpaa
open Go.RowKit Go.Maps
attribute [local go_sem] Oper.semAt_some

def GaveClear (f : Nat → Bool) (w : World) (e : Ending) (w' : World) : Prop := ∃ q cq, e = .returned (.tuple #[.slice q (intsN (lotsL f)).length cq, .int .i64 0]) ∧ IntsAt w' q (intsN (lotsL f)) ∧ Below w.heap.size w w'
theorem clear_good {b : Yb} {P : Yp} {w : World} (hb : yardB b = true) {f : Nat → Bool} (hf : ∀ i, f i = true → i < b.lots.length) {q : Option Addr} {cq : Nat} (h : YbAt w P b) (hi : IntsAt w q (intsN (lotsL f))) :
    Calls Try.prog 35 #[.agg (ybA b P), .slice q (intsN (lotsL f)).length cq] w (GaveClear (clearF b f) w) := by
  have hl := lotsL_le f
  have hr := readL_told (yardB_ok hb).n7 f hf
  refine (clear_api b P q cq (intsN (lotsL f)) (by rw [intsN_len]; omega) w h hi).mono ?_
  rintro e w' ⟨hbw, hr2⟩
  rcases hr2 with ⟨h1, _⟩ | ⟨_, h1, _⟩ | ⟨_, g, h1, p, c, rfl, hi⟩
  · rw [hb] at h1; cases h1
  · rw [hr] at h1; cases h1
  · rw [hr] at h1
    cases h1
    exact ⟨p, c, rfl, hi, hbw⟩
theorem without_set (f h : Nat → Bool) (pm : Option Addr) (cm : Nat) (pg : Option Addr) (cg : Nat) (w : World) (hM : IntsAt w pm (intsN (lotsL f))) (hG : IntsAt w pg (intsN (lotsL h))) :
    Calls Try.prog 51 #[.slice pm (intsN (lotsL f)).length cm, .slice pg (intsN (lotsL h)).length cg] w (GaveSet (restF f h) w) := by
  have r := without_any (lotsL f) (lotsL h) (lotsL_le f) (lotsL_le h) pm cm pg cg w hM hG
  rw [lackN_all] at r
  exact r
/-- Some of a choice, as a number chooses them. -/
def partS (f : Nat → Bool) (set : Int) : Nat → Bool := partF f (spin set ((2 ^ (lotsL f).length : Nat) : Int)).toNat
theorem partS_sub {f : Nat → Bool} {set : Int} {i : Nat} (h : partS f set i = true) : f i = true := partF_sub h
theorem part_set (f : Nat → Bool) (set : Int) (pm : Option Addr) (cm : Nat) (w : World) (hM : IntsAt w pm (intsN (lotsL f))) :
    Calls Try.prog 47 #[.slice pm (intsN (lotsL f)).length cm, .int .i64 set] w (GaveSet (partS f set) w) := by
  have hl := lotsL_le f
  have hp := pow_few (n := (lotsL f).length) (by omega)
  have hs := spin_range set ((2 ^ (lotsL f).length : Nat) : Int) (by omega)
  have r := part_any (lotsL f) hl pm cm set (spin set ((2 ^ (lotsL f).length : Nat) : Int)).toNat (by omega) (by omega) w hM
  rw [← partF_lots] at r
  exact r
theorem rest_sub {f g : Nat → Bool} (h : ∀ i, g i = true → f i = true) : lotsL (restF g f) = [] := by
  rw [List.eq_nil_iff_forall_not_mem]
  intro i hi
  have := (lotsL_mem.1 hi).2
  unfold restF at this
  simp only [Bool.and_eq_true, Bool.not_eq_true'] at this
  rw [h i this.1] at this
  cases this.2
theorem rest_none (f : Nat → Bool) : restF f noneF = f := by
  funext i
  simp [restF, noneF]
theorem lotsL_none : lotsL noneF = [] := by
  rw [List.eq_nil_iff_forall_not_mem]
  intro i hi
  have := (lotsL_mem.1 hi).2
  cases this
theorem clear_none {b : Yb} (hn : b.lots.length ≤ 7) (h0 : 0 ≤ b.err) {m : Nat → Bool} (hm : ∀ i, m i = true → i < b.lots.length) :
    (((lotsL (clearF b m)).length : Int) == 0) = (kindN (fun k => allowK b k m) == 2) := by
  obtain ⟨⟨h1, h2⟩, h3⟩ := clearF_is (b := b) m hn hm
  rw [allow_kind h0]
  cases ha : allowK b false m
  · have : (lotsL (clearF b m)).length ≠ 0 := fun e => by
      have e1 := List.eq_nil_of_length_eq_zero e
      have e2 : clearF b m = noneF := lotsL_inj (fun i hi => by have := hm i (h1 i hi); omega) (fun i hi => by cases hi) (by rw [e1, lotsL_none])
      rw [e2, rest_none, ha] at h2
      cases h2
    rw [if_neg (by simp)]
    rw [show (((lotsL (clearF b m)).length : Int) == 0) = false by simp; exact fun h => this (by rw [h]; rfl)]
    split <;> rfl
  · have h4 := h3 noneF (fun i hi => by cases hi) (by rw [rest_none]; exact ha)
    rw [lotsL_none] at h4
    unfold befB at h4
    rw [intsN_len, intsN_len] at h4
    rw [if_pos rfl]
    split at h4
    · rename_i e
      rw [← e]
      rfl
    · rename_i e
      simp only [decide_eq_false_iff_not] at h4
      simp only [List.length_nil] at h4 e
      omega
theorem clear_ways {b : Yb} (hn : b.lots.length ≤ 7) {m e : Nat → Bool} (hm : ∀ i, m i = true → i < b.lots.length) (he : ∀ i, e i = true → m i = true) :
    (lotsL (clearF b m)).length < (lotsL e).length ∨ ((lotsL e).length = (lotsL (clearF b m)).length ∧ earlier (intsN (lotsL e)) (intsN (lotsL (clearF b m))) = false) ∨
      ((lotsL e).length = (lotsL (clearF b m)).length ∧ earlier (intsN (lotsL e)) (intsN (lotsL (clearF b m))) = true ∧ kindN (fun k => allowK b k (restF m e)) < 2) ∨ ((lotsL e).length < (lotsL (clearF b m)).length ∧ kindN (fun k => allowK b k (restF m e)) < 2) := by
  have h3 := (clearF_is (b := b) m hn hm).2 e he
  have hk : allowK b false (restF m e) = false → kindN (fun k => allowK b k (restF m e)) < 2 := fun h => by
    rw [kindN_as (fun k => allowK b k (restF m e)) false (allowK b true (restF m e)) h rfl]
    cases allowK b true (restF m e) <;> simp
  rcases Nat.lt_trichotomy (lotsL e).length (lotsL (clearF b m)).length with h | h | h
  · refine .inr (.inr (.inr ⟨h, hk ?_⟩))
    cases ha : allowK b false (restF m e)
    · rfl
    · have := h3 ha
      unfold befB at this
      rw [intsN_len, intsN_len, if_neg (by omega), decide_eq_false_iff_not] at this
      omega
  · cases hE : earlier (intsN (lotsL e)) (intsN (lotsL (clearF b m)))
    · exact .inr (.inl ⟨h, rfl⟩)
    · refine .inr (.inr (.inl ⟨h, rfl, hk ?_⟩))
      cases ha : allowK b false (restF m e)
      · rfl
      · have := h3 ha
        unfold befB at this
        rw [intsN_len, intsN_len, if_pos h, hE] at this
        cases this
  · exact .inl h
set_option maxRecDepth 100000 in
set_option maxHeartbeats 6400000 in
theorem YardClear_any (b : Yb) (P : Yp) (n0 n1 : Int) (w : World) (hB : YbAt w P b)  :
    Calls Try.prog 10 #[.agg (ybA b P), .agg #[.int .i64 n0, .int .i64 n1]] w fun e w' => e = .returned (.bool true) ∧ Below w.heap.size w w' := by
  obtain ⟨pl, cl, pd, cd, pb, cb, ps, cs⟩ := P
  obtain ⟨W0, hW0⟩ : ∃ W, W = (w.alloc (.cells (ybA b ⟨pl, cl, pd, cd, pb, cb, ps, cs⟩) 25)).alloc (.cells #[.int .i64 n0, .int .i64 n1] 26) := ⟨_, rfl⟩
  have HW0 := Lib.hid hW0
  have HE := Lib.hid (show Below w.heap.size w W0 by rw [hW0]; exact below_alloc2 _ _ _)
  have HRx := Lib.hid (show Row W0 w.heap.size (ybA b ⟨pl, cl, pd, cd, pb, cb, ps, cs⟩) 25 by rw [hW0]; exact (Row.new _ _ _).alloc _)
  have HRN := Lib.hid (show Row W0 (w.heap.size + 1) #[.int .i64 n0, .int .i64 n1] 26 by rw [hW0]; exact Row.new1 _ _ _ _)
  have HB := Lib.hid (hB.below HE.out)
  have hn61 := hB.n1
  clear hW0 hB
  cases hb : yardB b
  · have HSO := Lib.hid (sound_no b ⟨pl, cl, pd, cd, pb, cb, ps, cs⟩ W0 HB.out hb)
    clear hb
    go_enter Try.func10, Try.ntmps10
    go_upto_region 1 with (fail)
    rw [← HW0.out]
    go_wp2_with (first
      | (refine load_row rfl 25 _ rfl w.heap.size rfl 25 _ _ HRx.out Try.underlying25 rfl (by kernel_rfl) ?_)
      | (go_at_call 37; (with_reducible refine HSO.out.mono ?_); rintro e u ⟨rfl, hbu⟩; have HU := Lib.hid (HE.out.trans (hbu.mono HE.out.size)); clear hbu)
      | (go_at_call 22; (with_reducible refine (stacked_any _).mono ?_); rintro e v ⟨rfl, hbu⟩; have HV := Lib.hid (HU.out.trans (hbu.mono HU.out.size)); clear hbu))
    go_ret
    exact ⟨rfl, HV.out⟩
  have HSO := Lib.hid (sound_yes b ⟨pl, cl, pd, cd, pb, cb, ps, cs⟩ W0 HB.out hb)
  have HOK := Lib.hid (yardB_ok hb)
  have HBB := Lib.hid hb
  have hok := HOK.out
  have hL1 := hok.n1
  have hL7 := hok.n7
  have he0 := hok.e0
  have g0 := HRx.out.cell 0 (v := .slice pl b.lots.length cl) rfl
  have g1 := HRx.out.cell 1 (v := .slice pd b.doors.length cd) rfl
  have g2 := HRx.out.cell 2 (v := .slice pb b.buckets.length cb) rfl
  have g3 := HRx.out.cell 3 (v := .slice ps b.spare.length cs) rfl
  have g4 := HRx.out.cell 4 (v := .int .i64 b.apart) rfl
  have g5 := HRx.out.cell 5 (v := .int .i64 b.door) rfl
  have g6 := HRx.out.cell 6 (v := .int .i64 b.bucket) rfl
  have g7 := HRx.out.cell 7 (v := .int .i64 b.err) rfl
  have r0 := HRN.out.cell 0 (v := .int .i64 n0) rfl
  have r1 := HRN.out.cell 1 (v := .int .i64 n1) rfl
  have hmlt : ∀ i, drawnF b n0 i = true → i < b.lots.length := fun i h => drawnF_lt h
  have hcl := (clearF_is (b := b) (drawnF b n0) hL7 hmlt).1
  have hcn := clear_none hL7 he0 hmlt
  have hways := clear_ways (b := b) hL7 hmlt (e := partS (drawnF b n0) n1) (fun i h => partS_sub h)
  have hclt : ∀ i, clearF b (drawnF b n0) i = true → i < b.lots.length := fun i h => hmlt i (hcl.1 i h)
  have hrlt : ∀ i, restF (drawnF b n0) (clearF b (drawnF b n0)) i = true → i < b.lots.length := fun i h => hmlt i (by unfold restF at h; simp only [Bool.and_eq_true] at h; exact h.1)
  have hplt : ∀ i, restF (drawnF b n0) (partS (drawnF b n0) n1) i = true → i < b.lots.length := fun i h => hmlt i (by unfold restF at h; simp only [Bool.and_eq_true] at h; exact h.1)
  have HDR := Lib.hid (fun w' => drawn_any b ⟨pl, cl, pd, cd, pb, cb, ps, cs⟩ hL7 n0 w')
  have HCL := Lib.hid (fun q cq w' (h : Below W0.heap.size W0 w') hi => clear_good (q := q) (cq := cq) HBB.out hmlt (HB.out.below h) hi)
  have HAL := Lib.hid (fun q cq w' (h : Below W0.heap.size W0 w') hi => allowed_good (q := q) (cq := cq) HBB.out hmlt (HB.out.below h) hi)
  have HA2 := Lib.hid (fun q cq w' (h : Below W0.heap.size W0 w') hi => (by have r := allowed_good (q := q) (cq := cq) HBB.out hrlt (HB.out.below h) hi; rw [allow_kind he0, hcl.2, if_pos rfl] at r; exact r))
  have HA3 := Lib.hid (fun q cq w' (h : Below W0.heap.size W0 w') hi => allowed_good (q := q) (cq := cq) HBB.out hplt (HB.out.below h) hi)
  have HGR := Lib.hid (fun q cq w' hi => Grows_any q cq (intsN (lotsL (clearF b (drawnF b n0)))) b.lots.length (by rw [intsN_len]; have := lotsL_le (clearF b (drawnF b n0)); omega) (by omega) w' hi (grown_lots hclt))
  have HW1 := Lib.hid (fun q cq p c w' h1 h2 => (by have r := without_set (clearF b (drawnF b n0)) (drawnF b n0) q cq p c w' h1 h2; unfold GaveSet at r; rw [rest_sub hcl.1] at r; exact r))
  have HW2 := Lib.hid (fun q cq p c w' h1 h2 => without_set (drawnF b n0) (clearF b (drawnF b n0)) q cq p c w' h1 h2)
  have HW3 := Lib.hid (fun q cq p c w' h1 h2 => without_set (drawnF b n0) (partS (drawnF b n0) n1) q cq p c w' h1 h2)
  have HPA := Lib.hid (fun q cq w' h1 => part_set (drawnF b n0) n1 q cq w' h1)
  have HEA := Lib.hid (fun p c q d w' h1 h2 => Earlier_any p q c d (intsN (lotsL (partS (drawnF b n0) n1))) (intsN (lotsL (clearF b (drawnF b n0)))) w' (by rw [intsN_len]; have := lotsL_le (partS (drawnF b n0) n1); unfold maxLen; omega) h1 h2)
  obtain ⟨m, hm⟩ : ∃ v, drawnF b n0 = v := ⟨_, rfl⟩
  rw [hm] at HDR HCL HAL HA2 HA3 HGR HW1 HW2 HW3 HPA HEA hcn hways
  obtain ⟨C, hC⟩ : ∃ v, clearF b m = v := ⟨_, rfl⟩
  rw [hC] at HCL HA2 HGR HW1 HW2 HEA hcn hways
  obtain ⟨E, hE⟩ : ∃ v, partS m n1 = v := ⟨_, rfl⟩
  rw [hE] at HW3 HA3 HPA HEA hways
  obtain ⟨kd, hkd⟩ : ∃ v, kindN (fun k => allowK b k m) = v := ⟨_, rfl⟩
  rw [hkd] at HAL hcn
  obtain ⟨k3, hk3⟩ : ∃ v, kindN (fun k => allowK b k (restF m E)) = v := ⟨_, rfl⟩
  rw [hk3] at HA3 hways
  obtain ⟨ea, hea⟩ : ∃ v, earlier (intsN (lotsL E)) (intsN (lotsL C)) = v := ⟨_, rfl⟩
  rw [hea] at HEA hways
  unfold GaveSet at HDR HW2 HW3 HPA
  unfold GaveClear at HCL
  obtain ⟨LM, hLM⟩ : ∃ v, intsN (lotsL m) = v := ⟨_, rfl⟩
  rw [hLM] at HDR HCL HAL HW1 HW2 HW3 HPA
  obtain ⟨LC, hLC⟩ : ∃ v, intsN (lotsL C) = v := ⟨_, rfl⟩
  rw [← intsN_len (lotsL C)] at hcn hways
  rw [hLC] at HCL HGR HW1 HW2 HEA hcn hways
  obtain ⟨LE, hLE⟩ : ∃ v, intsN (lotsL E) = v := ⟨_, rfl⟩
  rw [← intsN_len (lotsL E)] at hways
  rw [hLE] at HW3 HPA HEA hways
  obtain ⟨L2, hL2⟩ : ∃ v, intsN (lotsL (restF m C)) = v := ⟨_, rfl⟩
  rw [hL2] at HW2 HA2
  obtain ⟨L3, hL3⟩ : ∃ v, intsN (lotsL (restF m E)) = v := ⟨_, rfl⟩
  rw [hL3] at HW3 HA3
  have HWY := Lib.hid hways
  have HCN := Lib.hid hcn
  clear hmlt hcl hcn hways hclt hrlt hplt hm hC hE hkd hk3 hea hLM hLC hLE hL2 hL3 hb hok
  go_enter Try.func10, Try.ntmps10
  go_upto_region 1 with (fail)
  rw [← HW0.out]
  go_upto_region 6 with (first
    | (go_at_call 37; (with_reducible refine HSO.out.mono ?_); rintro e u ⟨rfl, hbu⟩; obtain ⟨x0, hx0⟩ := later_of hbu; subst hx0; clear hbu)
    | (go_at_call 42; (with_reducible refine (HDR.out _).mono ?_); rintro e u ⟨qm, cqm, rfl, hi1, hbu⟩; have HIM := Lib.hid hi1; obtain ⟨x1, hx1⟩ := x0.on hbu; subst hx1; clear hbu; clear hi1)
    | (go_at_call 35; (with_reducible refine (HCL.out _ _ _ (Later.b _) HIM.out).mono ?_); rintro e u ⟨qc, cqc, rfl, hi1, hbu⟩; have HIC := Lib.hid hi1; have HIM := Lib.hid (HIM.out.below hbu); obtain ⟨x2, hx2⟩ := x1.on hbu; subst hx2; clear hbu; clear hi1)
    | (go_at_call 20; (with_reducible refine (HAL.out _ _ _ (Later.b _) HIM.out).mono ?_); rintro e u ⟨rfl, hbu⟩; have HIM := Lib.hid (HIM.out.below hbu); have HIC := Lib.hid (HIC.out.below hbu); obtain ⟨x3, hx3⟩ := x2.on hbu; subst hx3; clear hbu))
  obtain ⟨X, hX⟩ : ∃ X, (kd == 2) = X := ⟨_, rfl⟩
  have hcn := HCN.out
  rw [hX] at hcn
  clear HCN
  go_wp2_with (first
    | (go_at_call 38; (with_reducible refine (HGR.out _ _ _ HIC.out).mono ?_); rintro e u ⟨rfl, hbu⟩; have HIM := Lib.hid (HIM.out.below hbu); have HIC := Lib.hid (HIC.out.below hbu); obtain ⟨x4, hx4⟩ := x3.on hbu; subst hx4; clear hbu)
    | (go_at_call 51; (with_reducible refine (HW1.out _ _ _ _ _ HIC.out HIM.out).mono ?_); rintro e u ⟨qz, cqz, rfl, _, hbu⟩; have HIM := Lib.hid (HIM.out.below hbu); have HIC := Lib.hid (HIC.out.below hbu); obtain ⟨x5, hx5⟩ := x4.on hbu; subst hx5; clear hbu))
  refine wp_region_held_drew (S := fun w' => Row w' w.heap.size (ybA b ⟨pl, cl, pd, cd, pb, cb, ps, cs⟩) 25) (by kernel_rfl) (HRx.out.below x5.b.drew HRx.out.lt) (fun hH => ?_)
  have hbu : Below x5.w.heap.size x5.w x5.w.drew := (Below.refl _ _).drew
  have HIM := Lib.hid (HIM.out.below hbu)
  have HIC := Lib.hid (HIC.out.below hbu)
  obtain ⟨x6, hx2⟩ := x5.on hbu
  clear hbu
  rw [hx2] at HIM HIC hH ⊢
  clear hx2
  refine wpAnyH_take_to 0 65 (.agg (ybA b ⟨pl, cl, pd, cd, pb, cb, ps, cs⟩)) rfl rfl (by kernel_rfl) (by kernel_rfl) (by kernel_rfl) (fun _ _ _ h => h) (yields_row (by rfl) 25 _ rfl (w.heap.size) rfl 25 (ybA b ⟨pl, cl, pd, cd, pb, cb, ps, cs⟩) _ (fun _ h => h) Try.underlying25 rfl (by kernel_rfl)) hH ?_
  refine wpAnyH_take_to 1 66 (.slice qm LM.length cqm) rfl rfl (by kernel_rfl) (by kernel_rfl) (by kernel_rfl) (fun _ _ _ h => h) (Or.inl ⟨by rfl, fun w' hSw => by go_simp⟩) hH ?_
  refine wpAnyH_take_to 2 67 (.slice qc LC.length cqc) rfl rfl (by kernel_rfl) (by kernel_rfl) (by kernel_rfl) (fun _ _ _ h => h) (Or.inl ⟨by rfl, fun w' hSw => by go_simp⟩) hH ?_
  try simp only [Act.put, List.setIfInBounds_toArray, List.set_cons_succ, List.set_cons_zero]
  refine wpAnyH_ready (rs := [3]) (by kernel_rfl) (by simp) (AllReadyH.cons rfl (fun K hK => ?_) AllReadyH.nil)
  go_simp
  refine (HW2.out _ _ _ _ _ HIM.out HIC.out).mono ?_
  rintro e u ⟨qa, cqa, rfl, hi1, hbu⟩
  have HIa := Lib.hid hi1
  have HIM := Lib.hid (HIM.out.below hbu)
  have HIC := Lib.hid (HIC.out.below hbu)
  obtain ⟨x7, hx3⟩ := x6.on hbu
  subst hx3
  clear hbu hi1
  refine hK.out _ _ (HRx.out.below x7.b HRx.out.lt) (fun hH => ?_)
  clear hK K
  try simp only [Act.put, List.setIfInBounds_toArray, List.set_cons_succ, List.set_cons_zero]
  refine wpAnyH_ready (rs := [4]) (by kernel_rfl) (by simp) (AllReadyH.cons rfl (fun K hK => ?_) AllReadyH.nil)
  go_simp
  refine (HA2.out _ _ _ (Later.b _) HIa.out).mono ?_
  rintro e u ⟨rfl, hbu⟩
  have HIM := Lib.hid (HIM.out.below hbu)
  have HIC := Lib.hid (HIC.out.below hbu)
  obtain ⟨x8, hx4⟩ := x7.on hbu
  subst hx4
  clear hbu
  refine hK.out _ _ (HRx.out.below x8.b HRx.out.lt) (fun hH => ?_)
  clear hK K
  try simp only [Act.put, List.setIfInBounds_toArray, List.set_cons_succ, List.set_cons_zero]
  refine wpAnyH_take_to 5 64 (.tuple #[.int .i64 2, .int .i64 0]) rfl rfl (by kernel_rfl) (by kernel_rfl) (by kernel_rfl) (fun _ _ _ h => h) (Or.inl ⟨by rfl, fun w' hSw => by go_simp⟩) hH ?_
  refine wpAnyH_take_to 6 70 (.int .i64 2) rfl rfl (by kernel_rfl) (by kernel_rfl) (by kernel_rfl) (fun _ _ _ h => h) (Or.inl ⟨by rfl, fun w' hSw => by go_simp⟩) hH ?_
  refine wpAnyH_take_to 7 71 (.int .i64 0) rfl rfl (by kernel_rfl) (by kernel_rfl) (by kernel_rfl) (fun _ _ _ h => h) (Or.inl ⟨by rfl, fun w' hSw => by go_simp⟩) hH ?_
  refine wpAnyH_take_to 8 10 (.int .i64 2) rfl rfl (by kernel_rfl) (by kernel_rfl) (by kernel_rfl) (fun _ _ _ h => h) (Or.inl ⟨by rfl, fun w' hSw => by go_simp⟩) hH ?_
  refine wpAnyH_take_to 9 11 (.int .i64 0) rfl rfl (by kernel_rfl) (by kernel_rfl) (by kernel_rfl) (fun _ _ _ h => h) (Or.inl ⟨by rfl, fun w' hSw => by go_simp⟩) hH ?_
  try simp only [Act.put, List.setIfInBounds_toArray, List.set_cons_succ, List.set_cons_zero]
  refine wpAnyH_done (by kernel_rfl) ?_ _
  simp only [Exit.then, Act.put]
  go_upto_region 12 with (first
    | (go_at_call 47; (with_reducible refine (HPA.out _ _ _ HIM.out).mono ?_); rintro e u ⟨qe, cqe, rfl, hi1, hbu⟩; have HIE := Lib.hid hi1; have HIM := Lib.hid (HIM.out.below hbu); have HIC := Lib.hid (HIC.out.below hbu); obtain ⟨x9, hx9⟩ := x8.on hbu; subst hx9; clear hbu; clear hi1))
  have HIE := Lib.hid (show IntsAt x9.w qe LE from HIE.out)
  clear hcn HGR HW1 HW2 HCL HA2 HAL HDR HPA
  rcases HWY.out with h | ⟨h, h2⟩ | ⟨h, h2, h3⟩ | ⟨h, h3⟩
  · have hgt : (LC.length : Int) < (LE.length : Int) := by omega
    clear h
    go_wp2_with (first | (go_at_call 22; (with_reducible refine (stacked_any _).mono ?_); rintro e u ⟨rfl, hbu⟩; obtain ⟨xz, hxz⟩ := x9.on hbu; subst hxz; clear hbu))
    go_ret
    exact ⟨rfl, xz.base HE.out⟩
  · subst h2
    have hgt : ¬ (LC.length : Int) < (LE.length : Int) := by omega
    have hgt2 := eq_false hgt
    have hq : ((LE.length : Int) == (LC.length : Int)) = true := by rw [h]; simp
    clear h
    go_wp2_with (first
      | (go_at_call 46; (with_reducible refine (HEA.out _ _ _ _ _ HIE.out HIC.out).mono ?_); rintro e u ⟨rfl, hbu⟩; have HIM := Lib.hid (HIM.out.below hbu); have HIE := Lib.hid (HIE.out.below hbu); obtain ⟨xe, hxe⟩ := x9.on hbu; subst hxe; clear hbu)
      | (go_at_call 22; (with_reducible refine (stacked_any _).mono ?_); rintro e u ⟨rfl, hbu⟩; obtain ⟨xz, hxz⟩ := xe.on hbu; subst hxz; clear hbu))
    go_ret
    exact ⟨rfl, xz.base HE.out⟩
  · subst h2
    have hgt : ¬ (LC.length : Int) < (LE.length : Int) := by omega
    have hgt2 := eq_false hgt
    have hq : ((LE.length : Int) == (LC.length : Int)) = true := by rw [h]; simp
    clear h
    go_wp2_with (first
      | (go_at_call 46; (with_reducible refine (HEA.out _ _ _ _ _ HIE.out HIC.out).mono ?_); rintro e u ⟨rfl, hbu⟩; have HIM := Lib.hid (HIM.out.below hbu); have HIE := Lib.hid (HIE.out.below hbu); obtain ⟨xe, hxe⟩ := x9.on hbu; subst hxe; clear hbu))
    refine wp_region_held_drew (S := fun w' => Row w' w.heap.size (ybA b ⟨pl, cl, pd, cd, pb, cb, ps, cs⟩) 25) (by kernel_rfl) (HRx.out.below xe.b.drew HRx.out.lt) (fun hH => ?_)
    have hbu : Below xe.w.heap.size xe.w xe.w.drew := (Below.refl _ _).drew
    have HIM := Lib.hid (HIM.out.below hbu)
    have HIE := Lib.hid (HIE.out.below hbu)
    obtain ⟨x10, hx2⟩ := xe.on hbu
    clear hbu
    rw [hx2] at HIM HIE hH ⊢
    clear hx2
    refine wpAnyH_take_to 0 102 (.agg (ybA b ⟨pl, cl, pd, cd, pb, cb, ps, cs⟩)) rfl rfl (by kernel_rfl) (by kernel_rfl) (by kernel_rfl) (fun _ _ _ h => h) (yields_row (by rfl) 25 _ rfl (w.heap.size) rfl 25 (ybA b ⟨pl, cl, pd, cd, pb, cb, ps, cs⟩) _ (fun _ h => h) Try.underlying25 rfl (by kernel_rfl)) hH ?_
    refine wpAnyH_take_to 1 103 (.slice qm LM.length cqm) rfl rfl (by kernel_rfl) (by kernel_rfl) (by kernel_rfl) (fun _ _ _ h => h) (Or.inl ⟨by rfl, fun w' hSw => by go_simp⟩) hH ?_
    refine wpAnyH_take_to 2 104 (.slice qe LE.length cqe) rfl rfl (by kernel_rfl) (by kernel_rfl) (by kernel_rfl) (fun _ _ _ h => h) (Or.inl ⟨by rfl, fun w' hSw => by go_simp⟩) hH ?_
    try simp only [Act.put, List.setIfInBounds_toArray, List.set_cons_succ, List.set_cons_zero]
    refine wpAnyH_ready (rs := [3]) (by kernel_rfl) (by simp) (AllReadyH.cons rfl (fun K hK => ?_) AllReadyH.nil)
    go_simp
    refine (HW3.out _ _ _ _ _ HIM.out HIE.out).mono ?_
    rintro e u ⟨qb, cqb, rfl, hi1, hbu⟩
    have HIb := Lib.hid hi1
    have HIM := Lib.hid (HIM.out.below hbu)
    have HIE := Lib.hid (HIE.out.below hbu)
    obtain ⟨x11, hx3⟩ := x10.on hbu
    subst hx3
    clear hbu hi1
    refine hK.out _ _ (HRx.out.below x11.b HRx.out.lt) (fun hH => ?_)
    clear hK K
    try simp only [Act.put, List.setIfInBounds_toArray, List.set_cons_succ, List.set_cons_zero]
    refine wpAnyH_ready (rs := [4]) (by kernel_rfl) (by simp) (AllReadyH.cons rfl (fun K hK => ?_) AllReadyH.nil)
    go_simp
    refine (HA3.out _ _ _ (Later.b _) HIb.out).mono ?_
    rintro e u ⟨rfl, hbu⟩
    have HIM := Lib.hid (HIM.out.below hbu)
    have HIE := Lib.hid (HIE.out.below hbu)
    obtain ⟨x12, hx4⟩ := x11.on hbu
    subst hx4
    clear hbu
    refine hK.out _ _ (HRx.out.below x12.b HRx.out.lt) (fun hH => ?_)
    clear hK K
    try simp only [Act.put, List.setIfInBounds_toArray, List.set_cons_succ, List.set_cons_zero]
    refine wpAnyH_take_to 5 101 (.tuple #[.int .i64 k3, .int .i64 0]) rfl rfl (by kernel_rfl) (by kernel_rfl) (by kernel_rfl) (fun _ _ _ h => h) (Or.inl ⟨by rfl, fun w' hSw => by go_simp⟩) hH ?_
    refine wpAnyH_take_to 6 107 (.int .i64 k3) rfl rfl (by kernel_rfl) (by kernel_rfl) (by kernel_rfl) (fun _ _ _ h => h) (Or.inl ⟨by rfl, fun w' hSw => by go_simp⟩) hH ?_
    refine wpAnyH_take_to 7 108 (.int .i64 0) rfl rfl (by kernel_rfl) (by kernel_rfl) (by kernel_rfl) (fun _ _ _ h => h) (Or.inl ⟨by rfl, fun w' hSw => by go_simp⟩) hH ?_
    refine wpAnyH_take_to 8 13 (.int .i64 k3) rfl rfl (by kernel_rfl) (by kernel_rfl) (by kernel_rfl) (fun _ _ _ h => h) (Or.inl ⟨by rfl, fun w' hSw => by go_simp⟩) hH ?_
    refine wpAnyH_take_to 9 14 (.int .i64 0) rfl rfl (by kernel_rfl) (by kernel_rfl) (by kernel_rfl) (fun _ _ _ h => h) (Or.inl ⟨by rfl, fun w' hSw => by go_simp⟩) hH ?_
    try simp only [Act.put, List.setIfInBounds_toArray, List.set_cons_succ, List.set_cons_zero]
    refine wpAnyH_done (by kernel_rfl) ?_ _
    simp only [Exit.then, Act.put]
    go_wp2_with (first | (go_at_call 22; (with_reducible refine (stacked_any _).mono ?_); rintro e u ⟨rfl, hbu⟩; obtain ⟨xz, hxz⟩ := x12.on hbu; subst hxz; clear hbu))
    go_ret
    exact ⟨rfl, xz.base HE.out⟩
  · have hgt : ¬ (LC.length : Int) < (LE.length : Int) := by omega
    have hgt2 := eq_false hgt
    have hq : ((LE.length : Int) == (LC.length : Int)) = false := by simp; omega
    clear h
    go_wp2_with fail
    refine wp_region_held_drew (S := fun w' => Row w' w.heap.size (ybA b ⟨pl, cl, pd, cd, pb, cb, ps, cs⟩) 25) (by kernel_rfl) (HRx.out.below x9.b.drew HRx.out.lt) (fun hH => ?_)
    have hbu : Below x9.w.heap.size x9.w x9.w.drew := (Below.refl _ _).drew
    have HIM := Lib.hid (HIM.out.below hbu)
    have HIE := Lib.hid (HIE.out.below hbu)
    obtain ⟨x10, hx2⟩ := x9.on hbu
    clear hbu
    rw [hx2] at HIM HIE hH ⊢
    clear hx2
    refine wpAnyH_take_to 0 102 (.agg (ybA b ⟨pl, cl, pd, cd, pb, cb, ps, cs⟩)) rfl rfl (by kernel_rfl) (by kernel_rfl) (by kernel_rfl) (fun _ _ _ h => h) (yields_row (by rfl) 25 _ rfl (w.heap.size) rfl 25 (ybA b ⟨pl, cl, pd, cd, pb, cb, ps, cs⟩) _ (fun _ h => h) Try.underlying25 rfl (by kernel_rfl)) hH ?_
    refine wpAnyH_take_to 1 103 (.slice qm LM.length cqm) rfl rfl (by kernel_rfl) (by kernel_rfl) (by kernel_rfl) (fun _ _ _ h => h) (Or.inl ⟨by rfl, fun w' hSw => by go_simp⟩) hH ?_
    refine wpAnyH_take_to 2 104 (.slice qe LE.length cqe) rfl rfl (by kernel_rfl) (by kernel_rfl) (by kernel_rfl) (fun _ _ _ h => h) (Or.inl ⟨by rfl, fun w' hSw => by go_simp⟩) hH ?_
    try simp only [Act.put, List.setIfInBounds_toArray, List.set_cons_succ, List.set_cons_zero]
    refine wpAnyH_ready (rs := [3]) (by kernel_rfl) (by simp) (AllReadyH.cons rfl (fun K hK => ?_) AllReadyH.nil)
    go_simp
    refine (HW3.out _ _ _ _ _ HIM.out HIE.out).mono ?_
    rintro e u ⟨qb, cqb, rfl, hi1, hbu⟩
    have HIb := Lib.hid hi1
    have HIM := Lib.hid (HIM.out.below hbu)
    have HIE := Lib.hid (HIE.out.below hbu)
    obtain ⟨x11, hx3⟩ := x10.on hbu
    subst hx3
    clear hbu hi1
    refine hK.out _ _ (HRx.out.below x11.b HRx.out.lt) (fun hH => ?_)
    clear hK K
    try simp only [Act.put, List.setIfInBounds_toArray, List.set_cons_succ, List.set_cons_zero]
    refine wpAnyH_ready (rs := [4]) (by kernel_rfl) (by simp) (AllReadyH.cons rfl (fun K hK => ?_) AllReadyH.nil)
    go_simp
    refine (HA3.out _ _ _ (Later.b _) HIb.out).mono ?_
    rintro e u ⟨rfl, hbu⟩
    have HIM := Lib.hid (HIM.out.below hbu)
    have HIE := Lib.hid (HIE.out.below hbu)
    obtain ⟨x12, hx4⟩ := x11.on hbu
    subst hx4
    clear hbu
    refine hK.out _ _ (HRx.out.below x12.b HRx.out.lt) (fun hH => ?_)
    clear hK K
    try simp only [Act.put, List.setIfInBounds_toArray, List.set_cons_succ, List.set_cons_zero]
    refine wpAnyH_take_to 5 101 (.tuple #[.int .i64 k3, .int .i64 0]) rfl rfl (by kernel_rfl) (by kernel_rfl) (by kernel_rfl) (fun _ _ _ h => h) (Or.inl ⟨by rfl, fun w' hSw => by go_simp⟩) hH ?_
    refine wpAnyH_take_to 6 107 (.int .i64 k3) rfl rfl (by kernel_rfl) (by kernel_rfl) (by kernel_rfl) (fun _ _ _ h => h) (Or.inl ⟨by rfl, fun w' hSw => by go_simp⟩) hH ?_
    refine wpAnyH_take_to 7 108 (.int .i64 0) rfl rfl (by kernel_rfl) (by kernel_rfl) (by kernel_rfl) (fun _ _ _ h => h) (Or.inl ⟨by rfl, fun w' hSw => by go_simp⟩) hH ?_
    refine wpAnyH_take_to 8 13 (.int .i64 k3) rfl rfl (by kernel_rfl) (by kernel_rfl) (by kernel_rfl) (fun _ _ _ h => h) (Or.inl ⟨by rfl, fun w' hSw => by go_simp⟩) hH ?_
    refine wpAnyH_take_to 9 14 (.int .i64 0) rfl rfl (by kernel_rfl) (by kernel_rfl) (by kernel_rfl) (fun _ _ _ h => h) (Or.inl ⟨by rfl, fun w' hSw => by go_simp⟩) hH ?_
    try simp only [Act.put, List.setIfInBounds_toArray, List.set_cons_succ, List.set_cons_zero]
    refine wpAnyH_done (by kernel_rfl) ?_ _
    simp only [Exit.then, Act.put]
    go_wp2_with (first | (go_at_call 22; (with_reducible refine (stacked_any _).mono ?_); rintro e u ⟨rfl, hbu⟩; obtain ⟨xz, hxz⟩ := x12.on hbu; subst hxz; clear hbu))
    go_ret
    exact ⟨rfl, xz.base HE.out⟩
end Go.Proofs.Ytajkgfeockcbpaa
