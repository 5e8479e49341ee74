/- The walks of layer 6: a choice that is read. -/
import Derived.Test.YtajkgfeockcbpaaY20
namespace Go.Proofs.Ytajkgfeockcbpaa
open Go.RowKit Go.Maps
attribute [local go_sem] Oper.semAt_some

/-- What is read of a list. -/
def readV (many : Nat) (l : List Int) : Value := match readL many l 0 noneF with
  | some f => .tuple #[.agg (lotF f), .bool true]
  | none => .tuple #[.agg noneA, .bool false]
theorem readL_yes {many : Nat} {x : Int} {l : List Int} {nx : Int} {c : Nat → Bool} (h : fits x nx ((many : Int) - 1) = true) : readL many (x :: l) nx c = readL many l (x + 1) (withF c x.toNat) := by
  simp only [fits, Bool.and_eq_true, decide_eq_true_eq] at h
  rw [readL, if_pos (by omega)]
theorem readL_no {many : Nat} {x : Int} {l : List Int} {nx : Int} {c : Nat → Bool} (h : fits x nx ((many : Int) - 1) = false) : readL many (x :: l) nx c = none := by
  simp only [fits, Bool.and_eq_false_iff, decide_eq_false_iff_not] at h
  rw [readL, if_neg (by omega)]
set_option maxRecDepth 100000 in
set_option maxHeartbeats 3200000 in
theorem read_any (p : Option Addr) (c : Nat) (l : List Int) (many : Nat) (hm : many ≤ 7) (hl : l.length < 2 ^ 61) (w : World) (hI : IntsAt w p l) :
    Calls Try.prog 101 #[.slice p l.length c, .int .i64 (many : Int)] w fun e w' => e = .returned (readV many l) ∧ Below w.heap.size w w' := by
  obtain ⟨W0, hW0⟩ : ∃ W, W = (w.alloc (.cells noneA 99)).alloc (.cells noneA 99) := ⟨_, rfl⟩
  have HW0 := Lib.hid hW0
  have HE := Lib.hid (show Below w.heap.size w W0 by rw [hW0]; exact below_alloc2 _ _ _)
  have HRZ := Lib.hid (show Row W0 w.heap.size noneA 99 by rw [hW0]; exact (Row.new _ _ _).alloc _)
  have HRC := Lib.hid (show Row W0 (w.heap.size + 1) noneA 99 by rw [hW0]; exact Row.new1 _ _ _ _)
  have HI := Lib.hid hI
  have i7 : (many : Int) ≤ 7 := by omega
  have i8 : (0 : Int) ≤ (many : Int) := by omega
  have i9 : (l.length : Int) < 2305843009213693952 := by omega
  have hw : IntKind.i64.wrap ((many : Int) - 1) = (many : Int) - 1 := IntWalk.i64_in _ (by omega)
  clear hW0 hI
  go_enter Try.func101, Try.ntmps101
  go_upto_region 2 with (fail)
  rw [← HW0.out]
  go_wp2_with fail
  go_loopw [7, 12] (fun n i wr => ∃ (k : Nat) (nx : Int) (f : Nat → Bool), k ≤ l.length ∧ i = .int .i64 k ∧ n = .int .i64 nx ∧ (0 ≤ nx ∧ nx ≤ 100) ∧ readL many l 0 noneF = readL many (l.drop k) nx f ∧ Row wr (w.heap.size + 1) (lotF f) 99 ∧ KeepsBut (fun m => m = w.heap.size + 1) W0 wr) (fun _ i _ => l.length - (intOf i).toNat)
  case atStart => exact ⟨0, 0, noneF, by omega, rfl, rfl, by omega, rfl, HRC.out, KeepsBut.refl _ _⟩
  case round =>
    obtain ⟨k, nx, f, hk, rfl, rfl, hnx, hrd, hrow, hkb⟩ := hrel
    have HRD := Lib.hid hrd
    have HR := Lib.hid hrow
    have HKB := Lib.hid hkb
    have HZ := Lib.hid (HRZ.out.keeps hkb (by omega))
    have HBW := Lib.hid (show Below w.heap.size w wr from below_keep HE.out hkb HE.out.size (fun m hm => by omega))
    clear hrd hrow hkb
    by_cases hlt : k < l.length
    · obtain ⟨bq, oq, hp, hc⟩ := HI.out k hlt
      have hc := (show wr.cell? ⟨bq, oq + k, none⟩ = _ from by have := cell_kept hc HBW.out; exact this)
      subst hp
      have hat : at0 l k = l[k] := by simp [at0, List.getD, hlt]
      have HDR := Lib.hid (List.drop_eq_getElem_cons hlt)
      rw [hat] at hc
      obtain ⟨n, hnn⟩ : ∃ n, l[k] = n := ⟨_, rfl⟩
      rw [hnn] at hc HDR
      have i1 : (0 : Int) ≤ (k : Int) := by omega
      have i2 : (k : Int) < (l.length : Int) := by omega
      clear hat hnn
      cases ht : fits n nx ((many : Int) - 1)
      · have HNO := Lib.hid (show readV many l = .tuple #[.agg noneA, .bool false] by unfold readV; rw [HRD.out, HDR.out, readL_no ht])
        go_wp2_with (first
          | (go_at_call 96; (with_reducible refine (within_any _ _ _ _).mono ?_); rintro e u ⟨rfl, rfl⟩; rw [ht])
          | (refine store_row rfl 99 _ _ rfl w.heap.size noneA noneA 99 rfl rfl HZ.out (by kernel_rfl) rfl (by simp [Value.oneCell']) ?_))
        exact bodyPost_ret (v := .tuple #[.agg noneA, .bool false]) (results_cell_tmp' Try.results101 _ _ _ _ _ _ _ rfl rfl (HZ.out.setRow noneA) Try.underlying99 rfl (by kernel_rfl)) rfl ⟨by rw [HNO.out], below_setRow' HBW.out (Nat.le_refl _) _⟩
      · have HYE := Lib.hid (show readL many l 0 noneF = readL many (l.drop (k + 1)) (n + 1) (withF f n.toNat) by rw [HRD.out, HDR.out, readL_yes ht])
        have hin := ht
        simp only [fits, Bool.and_eq_true, decide_eq_true_eq] at hin
        obtain ⟨d, hd⟩ : ∃ d : Nat, n = (d : Int) := ⟨n.toNat, by omega⟩
        subst hd
        rw [show ((d : Int)).toNat = d by omega] at HYE
        have hd7 : d < 7 := by omega
        have j1 : (0 : Int) ≤ (d : Int) := by omega
        have j2 : (d : Int) < 7 := by omega
        have hf := HR.out.free d
        have hcd := HR.out.cell d (lotF_at f hd7)
        have HR2 := Lib.hid (show Row (wr.setCell ⟨w.heap.size + 1, d, none⟩ (.bool true)) (w.heap.size + 1) (lotF (withF f d)) 99 by
          have h := HR.out.set d (.bool true)
          rw [lotF_set f hd7] at h
          exact h)
        have HKB2 := Lib.hid (HKB.out.trans (set_keeps wr (w.heap.size + 1) d (.bool true)))
        clear hin
        go_wp2_with (first
          | (go_at_call 96; (with_reducible refine (within_any _ _ _ _).mono ?_); rintro e u ⟨rfl, rfl⟩; rw [ht]))
        go_roundw
        case rel => exact ⟨k + 1, (d : Int) + 1, withF f d, by omega, by go_num, by go_num, by omega, HYE.out, HR2.out, HKB2.out⟩
        case measure => simp [intOf]; omega
    · obtain rfl : k = l.length := by omega
      have HYES := Lib.hid (show readV many l = .tuple #[.agg (lotF f), .bool true] by unfold readV; rw [HRD.out, List.drop_length, readL])
      go_wp2_with (first
        | (refine load_row rfl 99 _ rfl (w.heap.size + 1) rfl 99 (lotF f) _ HR.out Try.underlying99 rfl (by kernel_rfl) ?_)
        | (refine store_row rfl 99 _ _ rfl w.heap.size (lotF f) noneA 99 rfl rfl HZ.out (by kernel_rfl) rfl (one_lotF _) ?_))
      exact bodyPost_ret (v := .tuple #[.agg (lotF f), .bool true]) (results_cell_tmp' Try.results101 _ _ _ _ _ _ _ rfl rfl (HZ.out.setRow (lotF f)) Try.underlying99 rfl (by kernel_rfl)) rfl ⟨by rw [HYES.out], below_setRow' HBW.out (Nat.le_refl _) _⟩
/-- A yard and a choice are read. -/
def Chosen (b : Yb) (P : Yp) (l : List Int) (w : World) (e : Ending) (w' : World) : Prop :=
  Below w.heap.size w w' ∧ ((yardB b = false ∧ e = .returned (.tuple #[.agg ykZ, .agg noneA, .int .i64 60])) ∨
    (yardB b = true ∧ readL b.lots.length l 0 noneF = none ∧ e = .returned (.tuple #[.agg ykZ, .agg noneA, .int .i64 61])) ∨
    (yardB b = true ∧ ∃ f, readL b.lots.length l 0 noneF = some f ∧ ∃ mb, e = .returned (.tuple #[.agg (ykA b P mb), .agg (lotF f), .int .i64 0]) ∧ YkAt w' P mb b))
theorem one_ykA (b : Yb) (P : Yp) (mb : Nat) : (ykA b P mb).all (·.oneCell') = true := by simp [Value.oneCell']
set_option maxRecDepth 100000 in
set_option maxHeartbeats 3200000 in
theorem choose_any (b : Yb) (P : Yp) (p : Option Addr) (c : Nat) (l : List Int) (hl : l.length < 2 ^ 61) (w : World) (hB : YbAt w P b) (hI : IntsAt w p l) :
    Calls Try.prog 68 #[.agg (ybA b P), .slice p l.length c] w (Chosen b P l w) := by
  obtain ⟨W0, hW0⟩ : ∃ W, W = ((w.alloc (.cells (ybA b P) 25)).alloc (.cells ykZ 83)).alloc (.cells noneA 99) := ⟨_, rfl⟩
  have HW0 := Lib.hid hW0
  have HE := Lib.hid (show Below w.heap.size w W0 by rw [hW0]; exact below_alloc3 _ _ _ _)
  have HRB := Lib.hid (show Row W0 w.heap.size (ybA b P) 25 by rw [hW0]; exact ((Row.new _ _ _).alloc _).alloc _)
  have HRZ := Lib.hid (show Row W0 (w.heap.size + 1) ykZ 83 by rw [hW0]; exact (Row.new1 _ _ _ _).alloc _)
  have HRL := Lib.hid (show Row W0 (w.heap.size + 1 + 1) noneA 99 by rw [hW0]; exact Row.new2 _ _ _ _ _)
  have HB := Lib.hid (hB.below HE.out)
  have HI := Lib.hid (hI.below HE.out)
  have HBW := Lib.hid hB
  have HEN := Lib.hid (enter_any b P none 0 [] W0 HB.out (fun i h => absurd h (Nat.not_lt_zero _)) (by decide))
  have hz0 : W0.heap.size = w.heap.size + 3 := by rw [hW0]; simp
  clear hB hI hW0
  go_enter Try.func68, Try.ntmps68
  go_upto_region 1 with (fail)
  rw [← HW0.out]
  go_wp2_with (first
    | (refine load_row rfl 25 _ rfl w.heap.size rfl 25 (ybA b P) _ HRB.out Try.underlying25 rfl (by kernel_rfl) ?_))
  refine HEN.out.mono ?_
  rintro e u ⟨hbu, ⟨hb, rfl⟩ | ⟨_, h, _⟩ | ⟨hb, _, mb, rfl, hyk, hmb⟩⟩
  · have HBB := Lib.hid hb
    have HBU := Lib.hid (hbu.trans ((below_alloc u (.cells ykZ 83)).mono hbu.size))
    have HZ := Lib.hid (HRZ.out.below HBU.out HRZ.out.lt)
    have HL := Lib.hid ((HRL.out.below HBU.out HRL.out.lt).setRow_other (g := w.heap.size + 1) ykZ (by omega))
    clear hb hbu
    go_wp2_with (first
      | (refine store_new rfl 83 _ _ rfl ykZ ykZ 83 rfl rfl (by kernel_rfl) rfl (by simp [Value.oneCell']) ?_)
      | (refine store_row rfl 83 _ _ rfl (w.heap.size + 1) ykZ ykZ 83 rfl rfl HZ.out (by kernel_rfl) rfl (by simp [Value.oneCell']) ?_)
      | (refine store_row rfl 99 _ _ rfl (w.heap.size + 1 + 1) noneA noneA 99 rfl rfl HL.out (by kernel_rfl) rfl (by simp [Value.oneCell']) ?_))
    exact bodyPost_ret (v := .tuple #[.agg ykZ, .agg noneA, .int .i64 60]) (results_cells_tmp Try.results68 _ _ _ _ _ _ _ _ _ _ _ rfl rfl ((HZ.out.setRow ykZ).setRow_other noneA (by omega)) Try.underlying83 rfl (by kernel_rfl) rfl (HL.out.setRow noneA) Try.underlying99 rfl (by kernel_rfl)) rfl
      ⟨below_setRow' (below_setRow' (HE.out.trans (HBU.out.mono HE.out.size)) (by omega) _) (by omega) _, .inl ⟨HBB.out, rfl⟩⟩
  · exact absurd h (by simp)
  · have HBB := Lib.hid hb
    have HYK := Lib.hid hyk
    have HM0 := Lib.hid (show w.heap.size + 3 ≤ mb by omega)
    have hn7 := hyk.ok.n7
    have HBU := Lib.hid (hbu.trans ((below_alloc u (.cells (ykA b P mb) 83)).mono hbu.size))
    have HBU1 := Lib.hid (below_alloc u (.cells (ykA b P mb) 83))
    have HRK := Lib.hid (Row.new u (ykA b P mb) 83)
    have hzu := hbu.size
    have bb0 := (HRB.out.below HBU.out HRB.out.lt).cell 0 (v := .slice P.pl b.lots.length P.cl) rfl
    have HRD := Lib.hid (read_any p c l b.lots.length hn7 hl (u.alloc (.cells (ykA b P mb) 83)) (HI.out.below HBU.out))
    clear hb hbu hyk hmb
    cases hr : readL b.lots.length l 0 noneF
    · have HNO := Lib.hid hr
      rw [show readV b.lots.length l = .tuple #[.agg noneA, .bool false] by unfold readV; rw [hr]] at HRD
      clear hr
      go_wp2_with (first
        | (refine store_new rfl 83 _ _ rfl (ykA b P mb) ykZ 83 rfl rfl (by kernel_rfl) rfl (one_ykA _ _ _) ?_)
        | (go_at_call 101; (with_reducible refine HRD.out.mono ?_); rintro e x ⟨rfl, hbx⟩; have HBX := Lib.hid (HBU.out.trans ((hbx.trans ((below_alloc x (.cells noneA 99)).mono hbx.size)).mono HBU.out.size)); have HZ := Lib.hid (HRZ.out.below HBX.out HRZ.out.lt); have HL := Lib.hid ((HRL.out.below HBX.out HRL.out.lt).setRow_other (g := w.heap.size + 1) ykZ (by omega)); clear hbx)
        | (refine store_new rfl 99 _ _ rfl noneA noneA 99 rfl rfl (by kernel_rfl) rfl (by simp [Value.oneCell']) ?_)
        | (refine store_row rfl 83 _ _ rfl (w.heap.size + 1) ykZ ykZ 83 rfl rfl HZ.out (by kernel_rfl) rfl (by simp [Value.oneCell']) ?_)
        | (refine store_row rfl 99 _ _ rfl (w.heap.size + 1 + 1) noneA noneA 99 rfl rfl HL.out (by kernel_rfl) rfl (by simp [Value.oneCell']) ?_))
      exact bodyPost_ret (v := .tuple #[.agg ykZ, .agg noneA, .int .i64 61]) (results_cells_tmp Try.results68 _ _ _ _ _ _ _ _ _ _ _ rfl rfl ((HZ.out.setRow ykZ).setRow_other noneA (by omega)) Try.underlying83 rfl (by kernel_rfl) rfl (HL.out.setRow noneA) Try.underlying99 rfl (by kernel_rfl)) rfl
        ⟨below_setRow' (below_setRow' (HE.out.trans (HBX.out.mono HE.out.size)) (by omega) _) (by omega) _, .inr (.inl ⟨HBB.out, HNO.out, rfl⟩)⟩
    · rename_i f
      have HYES := Lib.hid hr
      rw [show readV b.lots.length l = .tuple #[.agg (lotF f), .bool true] by unfold readV; rw [hr]] at HRD
      clear hr
      go_wp2_with (first
        | (refine store_new rfl 83 _ _ rfl (ykA b P mb) ykZ 83 rfl rfl (by kernel_rfl) rfl (one_ykA _ _ _) ?_)
        | (go_at_call 101; (with_reducible refine HRD.out.mono ?_); rintro e x ⟨rfl, hbx⟩; have HBX := Lib.hid hbx; clear hbx)
        | (refine store_new rfl 99 _ _ rfl (lotF f) noneA 99 rfl rfl (by kernel_rfl) rfl (one_lotF _) ?_))
      have hzx := HBX.out.size
      have HBX2 := Lib.hid (HBX.out.trans ((below_alloc x (.cells (lotF f) 99)).mono hzx))
      have hzu1 : (u.alloc (.cells (ykA b P mb) 83)).heap.size = u.heap.size + 1 := by simp
      have HBX3 := Lib.hid (HBU.out.trans (HBX2.out.mono HBU.out.size))
      have RK := Lib.hid (HRK.out.below HBX2.out (by omega))
      have RF := Lib.hid (Row.new x (lotF f) 99)
      have RZ := Lib.hid (HRZ.out.below HBX3.out (by omega))
      have RL := Lib.hid (HRL.out.below HBX3.out (by omega))
      have HYX := Lib.hid ((HYK.out.below HBU1.out).below HBX2.out)
      clear HRK HBX HBX2 HYK HBU1 HRZ HRL HRD bb0
      generalize x.alloc (.cells (lotF f) 99) = Z at *
      obtain ⟨gk, hgk⟩ : ∃ n, u.heap.size = n := ⟨_, rfl⟩
      obtain ⟨gf, hgf⟩ : ∃ n, x.heap.size = n := ⟨_, rfl⟩
      rw [hgk] at RK hzu1 hzu
      rw [hgf] at RF hzx
      try rw [hgk]
      try rw [hgf]
      clear hgk hgf
      refine wp_region_held_drew (S := fun w' => Row w' gk (ykA b P mb) 83 ∧ Row w' gf (lotF f) 99) (by kernel_rfl) ⟨RK.out, RF.out⟩ (fun hH => ?_)
      have KC := Lib.hid (show Below Z.heap.size Z Z.drew from (Below.refl _ _).drew)
      obtain ⟨Z1, hZ1⟩ : ∃ z, Z.drew = z := ⟨_, rfl⟩
      have RZ1 := Lib.hid (show Row Z.drew (w.heap.size + 1) ykZ 83 from RZ.out)
      have RL1 := Lib.hid (show Row Z.drew (w.heap.size + 1 + 1) noneA 99 from RL.out)
      rw [hZ1] at hH KC RZ1 RL1 ⊢
      have hK1 := hH.1
      have hF1 := hH.2
      clear hZ1
      refine wpAnyH_take_to 0 33 (.agg (ykA b P mb)) rfl rfl (by kernel_rfl) (by kernel_rfl) (by kernel_rfl) (fun _ _ _ h => h) (yields_row (by rfl) 83 _ rfl (gk) rfl 83 (ykA b P mb) _ (fun _ h => h.1) Try.underlying83 rfl (by kernel_rfl)) hH ?_
      refine wpAnyH_take_to 1 34 (.agg (lotF f)) rfl rfl (by kernel_rfl) (by kernel_rfl) (by kernel_rfl) (fun _ _ _ h => h) (yields_row (by rfl) 99 _ rfl (gf) rfl 99 (lotF f) _ (fun _ h => h.2) Try.underlying99 rfl (by kernel_rfl)) hH ?_
      try simp only [List.setIfInBounds_toArray, List.set_cons_succ, List.set_cons_zero]
      refine wpAnyH_ready (rs := [2]) (by kernel_rfl) (by simp) (AllReadyH.cons rfl (fun K hK => ?_) AllReadyH.nil)
      rw [if_pos (by rfl)]
      refine wp_store_row' 83 _ _ rfl (w.heap.size + 1) (ykA b P mb) ykZ 83 rfl rfl RZ1.out (by kernel_rfl) rfl (one_ykA _ _ _) ?_
      refine hK.out _ _ ⟨hK1.setRow_other _ (by omega), hF1.setRow_other _ (by omega)⟩ (fun hH => ?_)
      clear hK K
      try simp only [Act.put, List.setIfInBounds_toArray]
      refine wpAnyH_ready (rs := [3]) (by kernel_rfl) (by simp) (AllReadyH.cons rfl (fun K hK => ?_) AllReadyH.nil)
      rw [if_pos (by rfl)]
      refine wp_store_row' 99 _ _ rfl (w.heap.size + 1 + 1) (lotF f) noneA 99 rfl rfl (RL1.out.setRow_other _ (by omega)) (by kernel_rfl) rfl (one_lotF _) ?_
      refine hK.out _ _ ⟨(hK1.setRow_other _ (by omega)).setRow_other _ (by omega), (hF1.setRow_other _ (by omega)).setRow_other _ (by omega)⟩ (fun hH => ?_)
      clear hK K
      try simp only [Act.put]
      refine wpAnyH_take_to 4 6 (.int .i64 0) rfl rfl (by kernel_rfl) (by kernel_rfl) (by kernel_rfl) (fun _ _ _ h => h) (Or.inl ⟨by rfl, fun w' hSw => by go_simp⟩) hH ?_
      try simp only [Act.put, List.setIfInBounds_toArray, List.set_cons_succ, List.set_cons_zero]
      refine wpAnyH_done (by kernel_rfl) ?_ _
      simp only [Exit.then]
      go_wp2_with fail
      have hbw : Below w.heap.size w ((Z1.setRow (w.heap.size + 1) (ykA b P mb)).setRow (w.heap.size + 1 + 1) (lotF f)) := below_setRow' (below_setRow' ((HE.out.trans (HBX3.out.mono HE.out.size)).trans (KC.out.mono (by have := HBX3.out.size; omega))) (by omega) _) (by omega) _
      exact bodyPost_ret (v := .tuple #[.agg (ykA b P mb), .agg (lotF f), .int .i64 0]) (results_cells_tmp Try.results68 _ _ _ _ _ _ _ _ _ _ _ rfl rfl ((RZ1.out.setRow (ykA b P mb)).setRow_other (lotF f) (by omega)) Try.underlying83 rfl (by kernel_rfl) rfl ((RL1.out.setRow_other (ykA b P mb) (by omega)).setRow (lotF f)) Try.underlying99 rfl (by kernel_rfl)) rfl
        ⟨hbw, .inr (.inr ⟨HBB.out, f, HYES.out, mb, rfl, ⟨HBW.out.below hbw, HYX.out.ok, (HYX.out.m.below KC.out).of_same ((setRow_far (by have := HM0.out; omega)).trans (setRow_far (by have := HM0.out; omega)))⟩⟩)⟩
end Go.Proofs.Ytajkgfeockcbpaa
