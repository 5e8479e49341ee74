/- The walks of layer 6: what must go, what breaks, the goods. -/
import Derived.Test.YtajkgfeockcbpaaY26
namespace Go.Proofs.Ytajkgfeockcbpaa
open Go.RowKit Go.Maps
attribute [local go_sem] Oper.semAt_some field_list field_goods

/-- What Clear answers. -/
def ClearA (b : Yb) (l : List Int) (w : World) (e : Ending) (w' : World) : Prop :=
  Below w.heap.size w w' ∧ ((yardB b = false ∧ e = .returned (.tuple #[.slice none 0 0, .int .i64 60])) ∨
    (yardB b = true ∧ readL b.lots.length l 0 noneF = none ∧ e = .returned (.tuple #[.slice none 0 0, .int .i64 61])) ∨
    (yardB b = true ∧ ∃ f, readL b.lots.length l 0 noneF = some f ∧ ∃ p c, e = .returned (.tuple #[.slice p (intsN (lotsL (clearF b f))).length c, .int .i64 0]) ∧ IntsAt w' p (intsN (lotsL (clearF b f)))))
set_option maxRecDepth 100000 in
set_option maxHeartbeats 3200000 in
theorem clear_api (b : Yb) (P : Yp) (p : Option Addr) (c : Nat) (l : List Int) (hl : l.length < 2 ^ 61) (w : World) (hB : YbAt w P b) (hI : IntsAt w p l) :
    Calls Try.prog 35 #[.agg (ybA b P), .slice p l.length c] w (ClearA b l w) := by
  obtain ⟨W0, hW0⟩ : ∃ W, W = w.alloc (.cells (ybA b P) 25) := ⟨_, rfl⟩
  have HW0 := Lib.hid hW0
  have HE := Lib.hid (show Below w.heap.size w W0 by rw [hW0]; exact below_alloc _ _)
  have HRB := Lib.hid (show Row W0 w.heap.size (ybA b P) 25 by rw [hW0]; exact Row.new _ _ _)
  have HCH := Lib.hid (choose_any b P p c l hl W0 (hB.below HE.out) (hI.below HE.out))
  clear hB hW0 hI
  go_enter Try.func35, Try.ntmps35
  go_upto_region 1 with (fail)
  rw [← HW0.out]
  go_wp2_with (first | (refine load_row rfl 25 _ rfl w.heap.size rfl 25 (ybA b P) _ HRB.out Try.underlying25 rfl (by kernel_rfl) ?_))
  refine HCH.out.mono ?_
  rintro e u ⟨hbu, ⟨hb, rfl⟩ | ⟨hb, hr, rfl⟩ | ⟨hb, f, hr, mb, rfl, hyk⟩⟩
  · have HBB := Lib.hid hb
    have hbz0 := below_alloc2 u (.cells (ykZ) 83) (.cells (noneA) 99)
    have HBZ := Lib.hid (HE.out.trans ((hbu.trans (hbz0.mono hbu.size)).mono HE.out.size))
    clear hb hbu hbz0
    try clear hr
    go_wp2_with fail
    exact bodyPost_ret (v := .tuple #[.slice none 0 0, .int .i64 60]) (results_tmp2 Try.results35 _ _ _) rfl ⟨HBZ.out, .inl ⟨HBB.out, rfl⟩⟩
  · have HBB := Lib.hid hb
    have HRR := Lib.hid hr
    have hbz0 := below_alloc2 u (.cells (ykZ) 83) (.cells (noneA) 99)
    have HBZ := Lib.hid (HE.out.trans ((hbu.trans (hbz0.mono hbu.size)).mono HE.out.size))
    clear hb hbu hbz0
    try clear hr
    go_wp2_with fail
    exact bodyPost_ret (v := .tuple #[.slice none 0 0, .int .i64 61]) (results_tmp2 Try.results35 _ _ _) rfl ⟨HBZ.out, .inr (.inl ⟨HBB.out, HRR.out, rfl⟩)⟩
  · have HBB := Lib.hid hb
    have HRR := Lib.hid hr
    have hbz0 := below_alloc2 u (.cells (ykA b P mb) 83) (.cells (lotF f) 99)
    have HBZ := Lib.hid (HE.out.trans ((hbu.trans (hbz0.mono hbu.size)).mono HE.out.size))
    have HRK := Lib.hid ((Row.new u (ykA b P mb) 83).alloc (.cells (lotF f) 99))
    have HRL := Lib.hid (Row.new1 u (.cells (ykA b P mb) 83) (lotF f) 99)
    have HYZ := Lib.hid (hyk.below hbz0)
    have HFL := Lib.hid (fun i h => read_lots hr i h)
    clear hb hbu hbz0 hyk hr
    go_upto_region 2 with (fail)
    change Code.wp _ _ _ _ ((u.alloc (.cells (ykA b P mb) 83)).alloc (.cells (lotF f) 99))
    generalize (u.alloc (.cells (ykA b P mb) 83)).alloc (.cells (lotF f) 99) = Z at *
    have HCL := Lib.hid (fun w' (h : YkAt w' P mb b) => clear_any b P mb false f w' h (fun i _ h => HFL.out i h))
    go_upto_region 4 with (fail)
    have KA := Lib.hid (show Below Z.heap.size Z Z.drew from (Below.refl _ _).drew)
    go_region_held3 (fun w' => w'.cell? ⟨u.heap.size, 0, none⟩ = some (.slice P.pl b.lots.length P.cl) ∧ w'.cell? ⟨u.heap.size, 1, none⟩ = some (.slice P.pd b.doors.length P.cd) ∧ w'.cell? ⟨u.heap.size, 2, none⟩ = some (.slice P.pb b.buckets.length P.cb) ∧ w'.cell? ⟨u.heap.size, 3, none⟩ = some (.slice P.ps b.spare.length P.cs) ∧ w'.cell? ⟨u.heap.size, 4, none⟩ = some (.int .i64 b.apart) ∧ w'.cell? ⟨u.heap.size, 5, none⟩ = some (.int .i64 b.door) ∧ w'.cell? ⟨u.heap.size, 6, none⟩ = some (.int .i64 b.bucket) ∧ w'.cell? ⟨u.heap.size, 7, none⟩ = some (.int .i64 b.err) ∧ w'.cell? ⟨u.heap.size, 8, none⟩ = some (.map (some mb)) ∧ w'.cell? ⟨u.heap.size + 1, 0, none⟩ = some (.bool (f 0)) ∧ w'.cell? ⟨u.heap.size + 1, 1, none⟩ = some (.bool (f 1)) ∧ w'.cell? ⟨u.heap.size + 1, 2, none⟩ = some (.bool (f 2)) ∧ w'.cell? ⟨u.heap.size + 1, 3, none⟩ = some (.bool (f 3)) ∧ w'.cell? ⟨u.heap.size + 1, 4, none⟩ = some (.bool (f 4)) ∧ w'.cell? ⟨u.heap.size + 1, 5, none⟩ = some (.bool (f 5)) ∧ w'.cell? ⟨u.heap.size + 1, 6, none⟩ = some (.bool (f 6)))
      (exact ⟨(HRK.out.below KA.out HRK.out.lt).cell 0 rfl, (HRK.out.below KA.out HRK.out.lt).cell 1 rfl, (HRK.out.below KA.out HRK.out.lt).cell 2 rfl, (HRK.out.below KA.out HRK.out.lt).cell 3 rfl, (HRK.out.below KA.out HRK.out.lt).cell 4 rfl, (HRK.out.below KA.out HRK.out.lt).cell 5 rfl, (HRK.out.below KA.out HRK.out.lt).cell 6 rfl, (HRK.out.below KA.out HRK.out.lt).cell 7 rfl, (HRK.out.below KA.out HRK.out.lt).cell 8 rfl, (HRL.out.below KA.out HRL.out.lt).cell 0 rfl, (HRL.out.below KA.out HRL.out.lt).cell 1 rfl, (HRL.out.below KA.out HRL.out.lt).cell 2 rfl, (HRL.out.below KA.out HRL.out.lt).cell 3 rfl, (HRL.out.below KA.out HRL.out.lt).cell 4 rfl, (HRL.out.below KA.out HRL.out.lt).cell 5 rfl, (HRL.out.below KA.out HRL.out.lt).cell 6 rfl⟩)
      (first
        | (go_at_call 73; (with_reducible refine (worst_any b P mb _).mono ?_); rintro e v ⟨rfl, hbv⟩; have KA := Lib.hid (KA.out.trans (hbv.mono KA.out.size)); clear hbv)
        | (go_at_call 84; (with_reducible refine (HCL.out _ (HYZ.out.below KA.out)).mono ?_); rintro e x ⟨q, cq, rfl, hin, hbx⟩; have HIN := Lib.hid hin; have KA := Lib.hid (KA.out.trans (hbx.mono KA.out.size)); clear hbx hin))
    go_wp2_with fail
    exact bodyPost_ret (v := .tuple #[.slice q (intsN (lotsL (clearK b false f))).length cq, .int .i64 0]) (results_tmp2 Try.results35 _ _ _) rfl ⟨HBZ.out.trans (KA.out.mono HBZ.out.size), .inr (.inr ⟨HBB.out, f, HRR.out, q, cq, rfl, HIN.out⟩)⟩
/-- What Goods answers. -/
def goodsV (b : Yb) : Int × Int × Int := if yardB b then (topK b false, topK b true, 0) else (0, 0, 60)
set_option maxRecDepth 100000 in
set_option maxHeartbeats 3200000 in
theorem goods_api (b : Yb) (P : Yp) (w : World) (hB : YbAt w P b) :
    Calls Try.prog 26 #[.agg (ybA b P)] w (fun e w' => e = .returned (.tuple #[.agg #[.int .i64 (goodsV b).1, .int .i64 (goodsV b).2.1], .int .i64 (goodsV b).2.2]) ∧ Below w.heap.size w w') := by
  obtain ⟨W0, hW0⟩ : ∃ W, W = (w.alloc (.cells (ybA b P) 25)).alloc (.cells #[.int .i64 0, .int .i64 0] 40) := ⟨_, rfl⟩
  have HW0 := Lib.hid hW0
  have HE := Lib.hid (show Below w.heap.size w W0 by rw [hW0]; exact below_alloc2 _ _ _)
  have HRB := Lib.hid (show Row W0 w.heap.size (ybA b P) 25 by rw [hW0]; exact (Row.new _ _ _).alloc _)
  have HRS := Lib.hid (show Row W0 (w.heap.size + 1) #[.int .i64 0, .int .i64 0] 40 by rw [hW0]; exact Row.new1 _ _ _ _)
  have HEN := Lib.hid (enter_any b P none 0 [] W0 (hB.below HE.out) (fun i h => absurd h (Nat.not_lt_zero _)) (by decide))
  rw [show ([] : List Int).length = 0 from rfl] at HEN
  clear hB hW0
  go_enter Try.func26, Try.ntmps26
  go_upto_region 1 with (fail)
  rw [← HW0.out]
  go_wp2_with (first | (refine load_row rfl 25 _ rfl w.heap.size rfl 25 (ybA b P) _ HRB.out Try.underlying25 rfl (by kernel_rfl) ?_))
  refine HEN.out.mono ?_
  rintro e u ⟨hbu, ⟨hb, rfl⟩ | ⟨hb, hl, rfl⟩ | ⟨hb, hl, mb, rfl, hyk, -⟩⟩
  · have HV := Lib.hid (show goodsV b = (0, 0, 60) by unfold goodsV; rw [hb]; rfl)
    have hbz0 := below_alloc u (.cells ykZ 83)
    have HBU := Lib.hid (HE.out.trans ((hbu.trans (hbz0.mono hbu.size)).mono HE.out.size))
    have hs := HRS.out.below (hbu.trans (hbz0.mono hbu.size)) HRS.out.lt
    have c0 := hs.cell 0 (v := .int .i64 0) rfl
    have c1 := hs.cell 1 (v := .int .i64 0) rfl
    have f0 := hs.free 0
    have f1 := hs.free 1
    have HS := Lib.hid hs
    clear hb hbu hbz0 hs
    go_wp2_with fail
    have q := (HS.out.set 0 (.int .i64 0)).set 1 (.int .i64 0)
    exact bodyPost_ret (v := .tuple #[.agg #[.int .i64 0, .int .i64 0], .int .i64 60]) (results_cell_tmp' Try.results26 _ _ _ _ _ _ _ rfl rfl q Try.underlying40 rfl (by kernel_rfl)) rfl ⟨by rw [HV.out], below_set (below_set HBU.out _ 0 (by omega) _) _ 1 (by omega) _⟩
  · exact absurd hl (by simp)
  · have HV := Lib.hid (show goodsV b = (topK b false, topK b true, 0) by unfold goodsV; rw [hb]; rfl)
    have hbz0 := below_alloc u (.cells (ykA b P mb) 83)
    have HBZ := Lib.hid (HE.out.trans ((hbu.trans (hbz0.mono hbu.size)).mono HE.out.size))
    have HRK := Lib.hid (Row.new u (ykA b P mb) 83)
    have HRZ := Lib.hid (HRS.out.below (hbu.trans (hbz0.mono hbu.size)) HRS.out.lt)
    have HYZ := Lib.hid (hyk.below hbz0)
    have hne : w.heap.size + 1 < u.heap.size := by have := hbu.size; have := HRS.out.lt; omega
    have HBE := Lib.hid (fun k w' (h : YkAt w' P mb b) => best_any b P mb k w' h)
    clear hb hbu hbz0 hyk hl
    obtain ⟨t0, ht0⟩ : ∃ t, topK b false = t := ⟨_, rfl⟩
    obtain ⟨t1, ht1⟩ : ∃ t, topK b true = t := ⟨_, rfl⟩
    have HBF := Lib.hid (fun w' h => HBE.out false w' h)
    have HBT := Lib.hid (fun w' h => HBE.out true w' h)
    rw [ht0, ht1] at HV
    rw [ht0] at HBF
    rw [ht1] at HBT
    clear HBE ht1 ht0
    go_upto_region 2 with (fail)
    change Code.wp _ _ _ _ (u.alloc (.cells (ykA b P mb) 83))
    generalize u.alloc (.cells (ykA b P mb) 83) = Z at *
    go_upto_region 4 with (fail)
    have KA := Lib.hid (show Below Z.heap.size Z Z.drew from (Below.refl _ _).drew)
    have KB := Lib.hid (show FromB (w.heap.size + 1) Z Z.drew from (FromB.refl _ _).drew)
    have HSS := Lib.hid (show ∀ w', FromB (w.heap.size + 1) Z w' → w'.cell? ⟨u.heap.size, 0, none⟩ = some (.slice P.pl b.lots.length P.cl) ∧ w'.cell? ⟨u.heap.size, 1, none⟩ = some (.slice P.pd b.doors.length P.cd) ∧ w'.cell? ⟨u.heap.size, 2, none⟩ = some (.slice P.pb b.buckets.length P.cb) ∧ w'.cell? ⟨u.heap.size, 3, none⟩ = some (.slice P.ps b.spare.length P.cs) ∧ w'.cell? ⟨u.heap.size, 4, none⟩ = some (.int .i64 b.apart) ∧ w'.cell? ⟨u.heap.size, 5, none⟩ = some (.int .i64 b.door) ∧ w'.cell? ⟨u.heap.size, 6, none⟩ = some (.int .i64 b.bucket) ∧ w'.cell? ⟨u.heap.size, 7, none⟩ = some (.int .i64 b.err) ∧ w'.cell? ⟨u.heap.size, 8, none⟩ = some (.map (some mb)) from fun w' kk => by
      have r := kk.row HRK.out (by omega)
      exact ⟨r.cell 0 rfl, r.cell 1 rfl, r.cell 2 rfl, r.cell 3 rfl, r.cell 4 rfl, r.cell 5 rfl, r.cell 6 rfl, r.cell 7 rfl, r.cell 8 rfl⟩)
    go_region_held3 (fun w' => w'.cell? ⟨u.heap.size, 0, none⟩ = some (.slice P.pl b.lots.length P.cl) ∧ w'.cell? ⟨u.heap.size, 1, none⟩ = some (.slice P.pd b.doors.length P.cd) ∧ w'.cell? ⟨u.heap.size, 2, none⟩ = some (.slice P.pb b.buckets.length P.cb) ∧ w'.cell? ⟨u.heap.size, 3, none⟩ = some (.slice P.ps b.spare.length P.cs) ∧ w'.cell? ⟨u.heap.size, 4, none⟩ = some (.int .i64 b.apart) ∧ w'.cell? ⟨u.heap.size, 5, none⟩ = some (.int .i64 b.door) ∧ w'.cell? ⟨u.heap.size, 6, none⟩ = some (.int .i64 b.bucket) ∧ w'.cell? ⟨u.heap.size, 7, none⟩ = some (.int .i64 b.err) ∧ w'.cell? ⟨u.heap.size, 8, none⟩ = some (.map (some mb)))
      (first | with_reducible exact HSS.out _ KB.out | exact HSS.out _ (((KB.out).set 0 _).set 1 _))
      (first
        | (go_at_call 73; (with_reducible refine (worst_any b P mb _).mono ?_); rintro e v ⟨rfl, hbv⟩; have KB := Lib.hid (KB.out.below hbv); have KA := Lib.hid (KA.out.trans (hbv.mono KA.out.size)); clear hbv)
        | (go_at_call 76; (with_reducible refine (kindest_any b P mb _).mono ?_); rintro e v ⟨rfl, hbv⟩; have KB := Lib.hid (KB.out.below hbv); have KA := Lib.hid (KA.out.trans (hbv.mono KA.out.size)); clear hbv)
        | (go_at_call 74; (with_reducible refine (HBF.out _ (HYZ.out.below KA.out)).mono ?_); rintro e x ⟨pq, cq, rfl, -, hbv⟩; have KB := Lib.hid (KB.out.below hbv); have KA := Lib.hid (KA.out.trans (hbv.mono KA.out.size)); clear hbv)
        | (go_at_call 74; (with_reducible refine (HBT.out _ (HYZ.out.below KA.out)).mono ?_); rintro e x2 ⟨pq2, cq2, rfl, -, hbv⟩; have KB := Lib.hid (KB.out.below hbv); have KA := Lib.hid (KA.out.trans (hbv.mono KA.out.size)); have c0 := (HRZ.out.below KA.out HRZ.out.lt).cell 0 (v := .int .i64 0) rfl; have c1 := (HRZ.out.below KA.out HRZ.out.lt).cell 1 (v := .int .i64 0) rfl; have f0 := (HRZ.out.below KA.out HRZ.out.lt).free 0; have f1 := (HRZ.out.below KA.out HRZ.out.lt).free 1; clear hbv))
    go_wp2_with fail
    have q := ((HRZ.out.below KA.out HRZ.out.lt).set 0 (.int .i64 t0)).set 1 (.int .i64 t1)
    exact bodyPost_ret (v := .tuple #[.agg #[.int .i64 t0, .int .i64 t1], .int .i64 0]) (results_cell_tmp' Try.results26 _ _ _ _ _ _ _ rfl rfl q Try.underlying40 rfl (by kernel_rfl)) rfl ⟨by rw [HV.out], below_set (below_set (HBZ.out.trans (KA.out.mono HBZ.out.size)) _ 0 (by omega) _) _ 1 (by omega) _⟩
/-- What Breaks answers. -/
def BreaksA (b : Yb) (l : List Int) (w : World) (e : Ending) (w' : World) : Prop :=
  Below w.heap.size w w' ∧ ((yardB b = false ∧ e = .returned (.tuple #[.slice none 0 0, .slice none 0 0, .int .i64 60])) ∨
    (yardB b = true ∧ readL b.lots.length l 0 noneF = none ∧ e = .returned (.tuple #[.slice none 0 0, .slice none 0 0, .int .i64 61])) ∨
    (yardB b = true ∧ ∃ f, readL b.lots.length l 0 noneF = some f ∧ ∃ p q c, e = .returned (.tuple #[.slice p (pairsL (nearK b false) (lotsL f)).length (pairsL (nearK b false) (lotsL f)).length, .slice q (intsN (lotsL (unservF b false f))).length c, .int .i64 0]) ∧
      PairsAt w' p (pairsL (nearK b false) (lotsL f)) ∧ IntsAt w' q (intsN (lotsL (unservF b false f)))))
theorem pairs_setRow {w : World} {p : Option Addr} {l : List (Nat × Nat)} (h : PairsAt w p l) {g : Nat} {t : TypeId} (hg : Row w g noneA t) (cs : Array Value) : PairsAt (w.setRow g cs) p l := by
  intro i hi
  obtain ⟨b, o, hp, h0, h1⟩ := h i hi
  have key : b ≠ g := by
    rintro rfl
    by_cases hk : o + i * 2 < 7
    · have h2 := hg.cell (o + i * 2) (v := .bool false) (by
        obtain h | h | h | h | h | h | h : o + i * 2 = 0 ∨ o + i * 2 = 1 ∨ o + i * 2 = 2 ∨ o + i * 2 = 3 ∨ o + i * 2 = 4 ∨ o + i * 2 = 5 ∨ o + i * 2 = 6 := by omega
        all_goals rw [h]; rfl)
      rw [h0] at h2
      cases h2
    · rw [cell_of_row w b (o + i * 2) noneA t (0, 0) hg] at h0
      rw [Array.getElem?_eq_none (by simp; omega)] at h0
      cases h0
  exact ⟨b, o, hp, by rw [World.cell?_of_block (_root_.Go.setRow_other w g b cs key)]; exact h0, by rw [World.cell?_of_block (_root_.Go.setRow_other w g b cs key)]; exact h1⟩
set_option maxRecDepth 100000 in
set_option maxHeartbeats 3200000 in
theorem breaks_api (b : Yb) (P : Yp) (p : Option Addr) (c : Nat) (l : List Int) (hl : l.length < 2 ^ 61) (w : World) (hB : YbAt w P b) (hI : IntsAt w p l) :
    Calls Try.prog 32 #[.agg (ybA b P), .slice p l.length c] w (BreaksA b l w) := by
  obtain ⟨W0, hW0⟩ : ∃ W, W = w.alloc (.cells (ybA b P) 25) := ⟨_, rfl⟩
  have HW0 := Lib.hid hW0
  have HE := Lib.hid (show Below w.heap.size w W0 by rw [hW0]; exact below_alloc _ _)
  have HRB := Lib.hid (show Row W0 w.heap.size (ybA b P) 25 by rw [hW0]; exact Row.new _ _ _)
  have HCH := Lib.hid (choose_any b P p c l hl W0 (hB.below HE.out) (hI.below HE.out))
  clear hB hW0 hI
  go_enter Try.func32, Try.ntmps32
  go_upto_region 1 with (fail)
  rw [← HW0.out]
  go_wp2_with (first | (refine load_row rfl 25 _ rfl w.heap.size rfl 25 (ybA b P) _ HRB.out Try.underlying25 rfl (by kernel_rfl) ?_))
  refine HCH.out.mono ?_
  rintro e u ⟨hbu, ⟨hb, rfl⟩ | ⟨hb, hr, rfl⟩ | ⟨hb, f, hr, mb, rfl, hyk⟩⟩
  · have HBB := Lib.hid hb
    have hbz0 := below_alloc2 u (.cells (ykZ) 83) (.cells (noneA) 99)
    have HBZ := Lib.hid (HE.out.trans ((hbu.trans (hbz0.mono hbu.size)).mono HE.out.size))
    clear hb hbu hbz0
    try clear hr
    go_wp2_with fail
    exact bodyPost_ret (v := .tuple #[.slice none 0 0, .slice none 0 0, .int .i64 60]) (results_tmp3 Try.results32 _ _ _) rfl ⟨HBZ.out, .inl ⟨HBB.out, rfl⟩⟩
  · have HBB := Lib.hid hb
    have HRR := Lib.hid hr
    have hbz0 := below_alloc2 u (.cells (ykZ) 83) (.cells (noneA) 99)
    have HBZ := Lib.hid (HE.out.trans ((hbu.trans (hbz0.mono hbu.size)).mono HE.out.size))
    clear hb hbu hbz0
    try clear hr
    go_wp2_with fail
    exact bodyPost_ret (v := .tuple #[.slice none 0 0, .slice none 0 0, .int .i64 61]) (results_tmp3 Try.results32 _ _ _) rfl ⟨HBZ.out, .inr (.inl ⟨HBB.out, HRR.out, rfl⟩)⟩
  · have HBB := Lib.hid hb
    have HRR := Lib.hid hr
    have hbz0 := below_alloc2 u (.cells (ykA b P mb) 83) (.cells (lotF f) 99)
    have HBZ := Lib.hid (HE.out.trans ((hbu.trans (hbz0.mono hbu.size)).mono HE.out.size))
    have HRK := Lib.hid ((Row.new u (ykA b P mb) 83).alloc (.cells (lotF f) 99))
    have HRL := Lib.hid (Row.new1 u (.cells (ykA b P mb) 83) (lotF f) 99)
    have HYZ := Lib.hid (hyk.below hbz0)
    have HFL := Lib.hid (fun i h => read_lots hr i h)
    clear hb hbu hbz0 hyk hr
    go_upto_region 2 with (fail)
    change Code.wp _ _ _ _ ((u.alloc (.cells (ykA b P mb) 83)).alloc (.cells (lotF f) 99))
    generalize (u.alloc (.cells (ykA b P mb) 83)).alloc (.cells (lotF f) 99) = Z at *
    have HBR := Lib.hid (fun w' (h : YkAt w' P mb b) => breaks_any b P mb false f (fun i _ h => HFL.out i h) w' h)
    have HLI := Lib.hid (fun w' => list_any (unservF b false f) w')
    unfold GaveBreaks at HBR
    obtain ⟨PL, hPL⟩ : ∃ l', pairsL (nearK b false) (lotsL f) = l' := ⟨_, rfl⟩
    obtain ⟨UF, hUF⟩ : ∃ l', unservF b false f = l' := ⟨_, rfl⟩
    rw [hPL, hUF] at HBR
    rw [hUF] at HLI
    have HPL := Lib.hid hPL
    have HUF := Lib.hid hUF
    clear hPL hUF
    obtain ⟨gk, hgk⟩ : ∃ n, u.heap.size = n := ⟨_, rfl⟩
    rw [hgk] at HRK HRL ⊢
    clear hgk
    go_upto_region 4 with (fail)
    refine wp_region_held_drew (S := fun w' => Row w' gk (ykA b P mb) 83 ∧ Row w' (gk + 1) (lotF f) 99) (by kernel_rfl) ⟨HRK.out, HRL.out⟩ (fun hH => ?_)
    have KC := Lib.hid (show Below Z.heap.size Z Z.drew from (Below.refl _ _).drew)
    obtain ⟨Z1, hZ1⟩ : ∃ z, Z.drew = z := ⟨_, rfl⟩
    rw [hZ1] at hH KC ⊢
    clear hZ1
    refine wpAnyH_take_to 0 21 (.agg (ykA b P mb)) rfl rfl (by kernel_rfl) (by kernel_rfl) (by kernel_rfl) (fun _ _ _ h => h) (yields_row (by rfl) 83 _ rfl gk rfl 83 (ykA b P mb) _ (fun _ h => h.1) Try.underlying83 rfl (by kernel_rfl)) hH ?_
    refine wpAnyH_take_to 2 23 (.agg (lotF f)) rfl rfl (by kernel_rfl) (by kernel_rfl) (by kernel_rfl) (fun _ _ _ h => h) (yields_row (by rfl) 99 _ rfl (gk + 1) rfl 99 (lotF f) _ (fun _ h => h.2) Try.underlying99 rfl (by kernel_rfl)) hH ?_
    try simp only [List.setIfInBounds_toArray, List.set_cons_succ, List.set_cons_zero]
    refine wpAnyH_ready (rs := [1, 7]) (by kernel_rfl) (by simp) (AllReadyH.cons rfl (fun K hK => ?_) (AllReadyH.cons rfl (fun K hK => ?_) (AllReadyH.nil)))
    · skip
      go_simp
      go_at_call 73
      refine (worst_any b P mb _).mono ?_
      rintro e v ⟨rfl, hbu⟩
      have KC := Lib.hid (KC.out.trans (hbu.mono KC.out.size))
      clear hbu
      first | (refine hK.out _ _ ⟨HRK.out.below KC.out HRK.out.lt, HRL.out.below KC.out HRL.out.lt⟩ (fun hH => ?_)) | (go_simp; refine hK.out _ _ ⟨HRK.out.below KC.out HRK.out.lt, HRL.out.below KC.out HRL.out.lt⟩ (fun hH => ?_))
      clear hK K
      try simp only [Act.put, List.setIfInBounds_toArray, List.set_cons_succ, List.set_cons_zero]
      refine wpAnyH_ready (rs := [3, 7]) (by kernel_rfl) (by simp) (AllReadyH.cons rfl (fun K hK => ?_) (AllReadyH.cons rfl (fun K hK => ?_) (AllReadyH.nil)))
      · skip
        go_simp
        go_at_call 83
        refine (HBR.out _ (HYZ.out.below KC.out)).mono ?_
        rintro e x ⟨pp, rfl, hpr, hbu⟩
        have HPR := Lib.hid hpr
        have KC := Lib.hid (KC.out.trans (hbu.mono KC.out.size))
        clear hbu hpr
        first | (refine hK.out _ _ ⟨HRK.out.below KC.out HRK.out.lt, HRL.out.below KC.out HRL.out.lt⟩ (fun hH => ?_)) | (go_simp; refine hK.out _ _ ⟨HRK.out.below KC.out HRK.out.lt, HRL.out.below KC.out HRL.out.lt⟩ (fun hH => ?_))
        clear hK K
        try simp only [Act.put, List.setIfInBounds_toArray, List.set_cons_succ, List.set_cons_zero]
        refine wpAnyH_take_to 4 20 (.tuple #[.slice pp PL.length PL.length, .agg (lotF UF)]) rfl rfl (by kernel_rfl) (by kernel_rfl) (by kernel_rfl) (fun _ _ _ h => h) (Or.inl ⟨by rfl, fun w' hSw => by go_simp⟩) hH ?_
        refine wpAnyH_take_to 5 25 (.slice pp PL.length PL.length) rfl rfl (by kernel_rfl) (by kernel_rfl) (by kernel_rfl) (fun _ _ _ h => h) (Or.inl ⟨by rfl, fun w' hSw => by go_simp⟩) hH ?_
        refine wpAnyH_take_to 6 26 (.agg (lotF UF)) rfl rfl (by kernel_rfl) (by kernel_rfl) (by kernel_rfl) (fun _ _ _ h => h) (Or.inl ⟨by rfl, fun w' hSw => by go_simp⟩) hH ?_
        try simp only [List.setIfInBounds_toArray, List.set_cons_succ, List.set_cons_zero]
        refine wpAnyH_ready (rs := [7]) (by kernel_rfl) (by simp) (AllReadyH.cons rfl (fun K hK => ?_) (AllReadyH.nil))
        go_simp
        have hgz := KC.out.size
        have RG := Lib.hid (Row.new (x) noneA 99)
        have HPR := Lib.hid (HPR.out.below (below_alloc (x) (.cells noneA 99)))
        have KC := Lib.hid (KC.out.trans ((below_alloc (x) (.cells noneA 99)).mono KC.out.size))
        obtain ⟨y, hy⟩ : ∃ z, (x).alloc (.cells noneA 99) = z := ⟨_, rfl⟩
        obtain ⟨g, hg⟩ : ∃ n, (x).heap.size = n := ⟨_, rfl⟩
        rw [hy] at KC RG HPR ⊢
        rw [hg] at RG hgz ⊢
        have KG := Lib.hid (Below.refl y.heap.size y)
        clear hy hg
        first | (refine hK.out _ _ ⟨HRK.out.below KC.out HRK.out.lt, HRL.out.below KC.out HRL.out.lt⟩ (fun hH => ?_)) | (go_simp; refine hK.out _ _ ⟨HRK.out.below KC.out HRK.out.lt, HRL.out.below KC.out HRL.out.lt⟩ (fun hH => ?_))
        clear hK K
        try simp only [Act.put, List.setIfInBounds_toArray, List.set_cons_succ, List.set_cons_zero]
        refine wpAnyH_take_to 8 4 (.slice pp PL.length PL.length) rfl rfl (by kernel_rfl) (by kernel_rfl) (by kernel_rfl) (fun _ _ _ h => h) (Or.inl ⟨by rfl, fun w' hSw => by go_simp⟩) hH ?_
        try simp only [List.setIfInBounds_toArray, List.set_cons_succ, List.set_cons_zero]
        refine wpAnyH_ready (rs := [9]) (by kernel_rfl) (by simp) (AllReadyH.cons rfl (fun K hK => ?_) (AllReadyH.nil))
        rw [if_pos (by rfl)]
        refine wp_store_row' 99 _ _ rfl g (lotF UF) noneA 99 rfl rfl (RG.out.below KG.out RG.out.lt) (by kernel_rfl) rfl (one_lotF _) ?_
        have RGZ := Lib.hid ((RG.out.below KG.out RG.out.lt).setRow (lotF UF))
        have HPZ := Lib.hid (pairs_setRow HPR.out (RG.out.below KG.out RG.out.lt) (lotF UF))
        have KC := Lib.hid (below_setRow' KC.out hgz (lotF UF))
        obtain ⟨X, hX⟩ : ∃ z, (y).setRow g (lotF UF) = z := ⟨_, rfl⟩
        rw [hX] at RGZ HPZ KC ⊢
        clear hX RG KG HPR
        first | (refine hK.out _ _ ⟨HRK.out.below KC.out HRK.out.lt, HRL.out.below KC.out HRL.out.lt⟩ (fun hH => ?_)) | (go_simp; refine hK.out _ _ ⟨HRK.out.below KC.out HRK.out.lt, HRL.out.below KC.out HRL.out.lt⟩ (fun hH => ?_))
        clear hK K
        try simp only [Act.put, List.setIfInBounds_toArray]
        refine wpAnyH_done (by kernel_rfl) ?_ _
        simp only [Exit.then]
        go_wp2_with (first
          | (refine load_row rfl 99 _ rfl g rfl 99 (lotF UF) _ RGZ.out Try.underlying99 rfl (by kernel_rfl) ?_)
          | (go_at_call 81; (with_reducible refine (HLI.out _).mono ?_); rintro e t ⟨q, rfl, hin, -, -, hbt⟩; have HBT := Lib.hid hbt; have HPT := Lib.hid (HPZ.out.below hbt); have HIN := Lib.hid hin; clear hin hbt))
        exact bodyPost_ret (v := .tuple #[.slice pp PL.length PL.length, .slice q (intsN (lotsL UF)).length (intsN (lotsL UF)).length, .int .i64 0]) (results_tmp3 Try.results32 _ _ _) rfl ⟨(HBZ.out.trans (KC.out.mono HBZ.out.size)).trans (HBT.out.mono (HBZ.out.trans (KC.out.mono HBZ.out.size)).size), .inr (.inr ⟨HBB.out, f, HRR.out, pp, q, _, by rw [HPL.out, HUF.out], by rw [HPL.out]; exact HPT.out, by rw [HUF.out]; exact HIN.out⟩)⟩
      · skip
        go_simp
        have hgz := KC.out.size
        have RG := Lib.hid (Row.new (v) noneA 99)
        have KC := Lib.hid (KC.out.trans ((below_alloc (v) (.cells noneA 99)).mono KC.out.size))
        obtain ⟨y, hy⟩ : ∃ z, (v).alloc (.cells noneA 99) = z := ⟨_, rfl⟩
        obtain ⟨g, hg⟩ : ∃ n, (v).heap.size = n := ⟨_, rfl⟩
        rw [hy] at KC RG ⊢
        rw [hg] at RG hgz ⊢
        have KG := Lib.hid (Below.refl y.heap.size y)
        clear hy hg
        first | (refine hK.out _ _ ⟨HRK.out.below KC.out HRK.out.lt, HRL.out.below KC.out HRL.out.lt⟩ (fun hH => ?_)) | (go_simp; refine hK.out _ _ ⟨HRK.out.below KC.out HRK.out.lt, HRL.out.below KC.out HRL.out.lt⟩ (fun hH => ?_))
        clear hK K
        try simp only [Act.put, List.setIfInBounds_toArray, List.set_cons_succ, List.set_cons_zero]
        refine wpAnyH_ready (rs := [3]) (by kernel_rfl) (by simp) (AllReadyH.cons rfl (fun K hK => ?_) (AllReadyH.nil))
        go_simp
        go_at_call 83
        refine (HBR.out _ (HYZ.out.below KC.out)).mono ?_
        rintro e x ⟨pp, rfl, hpr, hbu⟩
        have HPR := Lib.hid hpr
        have KG := Lib.hid (KG.out.trans (hbu.mono KG.out.size))
        have KC := Lib.hid (KC.out.trans (hbu.mono KC.out.size))
        clear hbu hpr
        first | (refine hK.out _ _ ⟨HRK.out.below KC.out HRK.out.lt, HRL.out.below KC.out HRL.out.lt⟩ (fun hH => ?_)) | (go_simp; refine hK.out _ _ ⟨HRK.out.below KC.out HRK.out.lt, HRL.out.below KC.out HRL.out.lt⟩ (fun hH => ?_))
        clear hK K
        try simp only [Act.put, List.setIfInBounds_toArray, List.set_cons_succ, List.set_cons_zero]
        refine wpAnyH_take_to 4 20 (.tuple #[.slice pp PL.length PL.length, .agg (lotF UF)]) rfl rfl (by kernel_rfl) (by kernel_rfl) (by kernel_rfl) (fun _ _ _ h => h) (Or.inl ⟨by rfl, fun w' hSw => by go_simp⟩) hH ?_
        refine wpAnyH_take_to 5 25 (.slice pp PL.length PL.length) rfl rfl (by kernel_rfl) (by kernel_rfl) (by kernel_rfl) (fun _ _ _ h => h) (Or.inl ⟨by rfl, fun w' hSw => by go_simp⟩) hH ?_
        refine wpAnyH_take_to 6 26 (.agg (lotF UF)) rfl rfl (by kernel_rfl) (by kernel_rfl) (by kernel_rfl) (fun _ _ _ h => h) (Or.inl ⟨by rfl, fun w' hSw => by go_simp⟩) hH ?_
        try simp only [List.setIfInBounds_toArray, List.set_cons_succ, List.set_cons_zero]
        refine wpAnyH_take_to 8 4 (.slice pp PL.length PL.length) rfl rfl (by kernel_rfl) (by kernel_rfl) (by kernel_rfl) (fun _ _ _ h => h) (Or.inl ⟨by rfl, fun w' hSw => by go_simp⟩) hH ?_
        try simp only [List.setIfInBounds_toArray, List.set_cons_succ, List.set_cons_zero]
        refine wpAnyH_ready (rs := [9]) (by kernel_rfl) (by simp) (AllReadyH.cons rfl (fun K hK => ?_) (AllReadyH.nil))
        rw [if_pos (by rfl)]
        refine wp_store_row' 99 _ _ rfl g (lotF UF) noneA 99 rfl rfl (RG.out.below KG.out RG.out.lt) (by kernel_rfl) rfl (one_lotF _) ?_
        have RGZ := Lib.hid ((RG.out.below KG.out RG.out.lt).setRow (lotF UF))
        have HPZ := Lib.hid (pairs_setRow HPR.out (RG.out.below KG.out RG.out.lt) (lotF UF))
        have KC := Lib.hid (below_setRow' KC.out hgz (lotF UF))
        obtain ⟨X, hX⟩ : ∃ z, (x).setRow g (lotF UF) = z := ⟨_, rfl⟩
        rw [hX] at RGZ HPZ KC ⊢
        clear hX RG KG HPR
        first | (refine hK.out _ _ ⟨HRK.out.below KC.out HRK.out.lt, HRL.out.below KC.out HRL.out.lt⟩ (fun hH => ?_)) | (go_simp; refine hK.out _ _ ⟨HRK.out.below KC.out HRK.out.lt, HRL.out.below KC.out HRL.out.lt⟩ (fun hH => ?_))
        clear hK K
        try simp only [Act.put, List.setIfInBounds_toArray]
        refine wpAnyH_done (by kernel_rfl) ?_ _
        simp only [Exit.then]
        go_wp2_with (first
          | (refine load_row rfl 99 _ rfl g rfl 99 (lotF UF) _ RGZ.out Try.underlying99 rfl (by kernel_rfl) ?_)
          | (go_at_call 81; (with_reducible refine (HLI.out _).mono ?_); rintro e t ⟨q, rfl, hin, -, -, hbt⟩; have HBT := Lib.hid hbt; have HPT := Lib.hid (HPZ.out.below hbt); have HIN := Lib.hid hin; clear hin hbt))
        exact bodyPost_ret (v := .tuple #[.slice pp PL.length PL.length, .slice q (intsN (lotsL UF)).length (intsN (lotsL UF)).length, .int .i64 0]) (results_tmp3 Try.results32 _ _ _) rfl ⟨(HBZ.out.trans (KC.out.mono HBZ.out.size)).trans (HBT.out.mono (HBZ.out.trans (KC.out.mono HBZ.out.size)).size), .inr (.inr ⟨HBB.out, f, HRR.out, pp, q, _, by rw [HPL.out, HUF.out], by rw [HPL.out]; exact HPT.out, by rw [HUF.out]; exact HIN.out⟩)⟩
    · skip
      go_simp
      have hgz := KC.out.size
      have RG := Lib.hid (Row.new (Z1) noneA 99)
      have KC := Lib.hid (KC.out.trans ((below_alloc (Z1) (.cells noneA 99)).mono KC.out.size))
      obtain ⟨y, hy⟩ : ∃ z, (Z1).alloc (.cells noneA 99) = z := ⟨_, rfl⟩
      obtain ⟨g, hg⟩ : ∃ n, (Z1).heap.size = n := ⟨_, rfl⟩
      rw [hy] at KC RG ⊢
      rw [hg] at RG hgz ⊢
      have KG := Lib.hid (Below.refl y.heap.size y)
      clear hy hg
      first | (refine hK.out _ _ ⟨HRK.out.below KC.out HRK.out.lt, HRL.out.below KC.out HRL.out.lt⟩ (fun hH => ?_)) | (go_simp; refine hK.out _ _ ⟨HRK.out.below KC.out HRK.out.lt, HRL.out.below KC.out HRL.out.lt⟩ (fun hH => ?_))
      clear hK K
      try simp only [Act.put, List.setIfInBounds_toArray, List.set_cons_succ, List.set_cons_zero]
      refine wpAnyH_ready (rs := [1]) (by kernel_rfl) (by simp) (AllReadyH.cons rfl (fun K hK => ?_) (AllReadyH.nil))
      go_simp
      go_at_call 73
      refine (worst_any b P mb _).mono ?_
      rintro e v ⟨rfl, hbu⟩
      have KG := Lib.hid (KG.out.trans (hbu.mono KG.out.size))
      have KC := Lib.hid (KC.out.trans (hbu.mono KC.out.size))
      clear hbu
      first | (refine hK.out _ _ ⟨HRK.out.below KC.out HRK.out.lt, HRL.out.below KC.out HRL.out.lt⟩ (fun hH => ?_)) | (go_simp; refine hK.out _ _ ⟨HRK.out.below KC.out HRK.out.lt, HRL.out.below KC.out HRL.out.lt⟩ (fun hH => ?_))
      clear hK K
      try simp only [Act.put, List.setIfInBounds_toArray, List.set_cons_succ, List.set_cons_zero]
      refine wpAnyH_ready (rs := [3]) (by kernel_rfl) (by simp) (AllReadyH.cons rfl (fun K hK => ?_) (AllReadyH.nil))
      go_simp
      go_at_call 83
      refine (HBR.out _ (HYZ.out.below KC.out)).mono ?_
      rintro e x ⟨pp, rfl, hpr, hbu⟩
      have HPR := Lib.hid hpr
      have KG := Lib.hid (KG.out.trans (hbu.mono KG.out.size))
      have KC := Lib.hid (KC.out.trans (hbu.mono KC.out.size))
      clear hbu hpr
      first | (refine hK.out _ _ ⟨HRK.out.below KC.out HRK.out.lt, HRL.out.below KC.out HRL.out.lt⟩ (fun hH => ?_)) | (go_simp; refine hK.out _ _ ⟨HRK.out.below KC.out HRK.out.lt, HRL.out.below KC.out HRL.out.lt⟩ (fun hH => ?_))
      clear hK K
      try simp only [Act.put, List.setIfInBounds_toArray, List.set_cons_succ, List.set_cons_zero]
      refine wpAnyH_take_to 4 20 (.tuple #[.slice pp PL.length PL.length, .agg (lotF UF)]) rfl rfl (by kernel_rfl) (by kernel_rfl) (by kernel_rfl) (fun _ _ _ h => h) (Or.inl ⟨by rfl, fun w' hSw => by go_simp⟩) hH ?_
      refine wpAnyH_take_to 5 25 (.slice pp PL.length PL.length) rfl rfl (by kernel_rfl) (by kernel_rfl) (by kernel_rfl) (fun _ _ _ h => h) (Or.inl ⟨by rfl, fun w' hSw => by go_simp⟩) hH ?_
      refine wpAnyH_take_to 6 26 (.agg (lotF UF)) rfl rfl (by kernel_rfl) (by kernel_rfl) (by kernel_rfl) (fun _ _ _ h => h) (Or.inl ⟨by rfl, fun w' hSw => by go_simp⟩) hH ?_
      try simp only [List.setIfInBounds_toArray, List.set_cons_succ, List.set_cons_zero]
      refine wpAnyH_take_to 8 4 (.slice pp PL.length PL.length) rfl rfl (by kernel_rfl) (by kernel_rfl) (by kernel_rfl) (fun _ _ _ h => h) (Or.inl ⟨by rfl, fun w' hSw => by go_simp⟩) hH ?_
      try simp only [List.setIfInBounds_toArray, List.set_cons_succ, List.set_cons_zero]
      refine wpAnyH_ready (rs := [9]) (by kernel_rfl) (by simp) (AllReadyH.cons rfl (fun K hK => ?_) (AllReadyH.nil))
      rw [if_pos (by rfl)]
      refine wp_store_row' 99 _ _ rfl g (lotF UF) noneA 99 rfl rfl (RG.out.below KG.out RG.out.lt) (by kernel_rfl) rfl (one_lotF _) ?_
      have RGZ := Lib.hid ((RG.out.below KG.out RG.out.lt).setRow (lotF UF))
      have HPZ := Lib.hid (pairs_setRow HPR.out (RG.out.below KG.out RG.out.lt) (lotF UF))
      have KC := Lib.hid (below_setRow' KC.out hgz (lotF UF))
      obtain ⟨X, hX⟩ : ∃ z, (x).setRow g (lotF UF) = z := ⟨_, rfl⟩
      rw [hX] at RGZ HPZ KC ⊢
      clear hX RG KG HPR
      first | (refine hK.out _ _ ⟨HRK.out.below KC.out HRK.out.lt, HRL.out.below KC.out HRL.out.lt⟩ (fun hH => ?_)) | (go_simp; refine hK.out _ _ ⟨HRK.out.below KC.out HRK.out.lt, HRL.out.below KC.out HRL.out.lt⟩ (fun hH => ?_))
      clear hK K
      try simp only [Act.put, List.setIfInBounds_toArray]
      refine wpAnyH_done (by kernel_rfl) ?_ _
      simp only [Exit.then]
      go_wp2_with (first
        | (refine load_row rfl 99 _ rfl g rfl 99 (lotF UF) _ RGZ.out Try.underlying99 rfl (by kernel_rfl) ?_)
        | (go_at_call 81; (with_reducible refine (HLI.out _).mono ?_); rintro e t ⟨q, rfl, hin, -, -, hbt⟩; have HBT := Lib.hid hbt; have HPT := Lib.hid (HPZ.out.below hbt); have HIN := Lib.hid hin; clear hin hbt))
      exact bodyPost_ret (v := .tuple #[.slice pp PL.length PL.length, .slice q (intsN (lotsL UF)).length (intsN (lotsL UF)).length, .int .i64 0]) (results_tmp3 Try.results32 _ _ _) rfl ⟨(HBZ.out.trans (KC.out.mono HBZ.out.size)).trans (HBT.out.mono (HBZ.out.trans (KC.out.mono HBZ.out.size)).size), .inr (.inr ⟨HBB.out, f, HRR.out, pp, q, _, by rw [HPL.out, HUF.out], by rw [HPL.out]; exact HPT.out, by rw [HUF.out]; exact HIN.out⟩)⟩
end Go.Proofs.Ytajkgfeockcbpaa
