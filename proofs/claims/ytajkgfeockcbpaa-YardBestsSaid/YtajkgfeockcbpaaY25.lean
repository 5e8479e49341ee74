/- The walks of layer 6: what the package answers of a yard. -/
import Derived.Test.YtajkgfeockcbpaaY24
namespace Go.Proofs.Ytajkgfeockcbpaa
open Go.RowKit Go.Maps
attribute [local go_sem] Oper.semAt_some field_list field_goods

/-- What Served answers. -/
def servA (b : Yb) (i : Int) : Int × Int := if yardB b then (if lotOk b i then (kindN (fun k => servK b k i.toNat), 0) else (0, 61)) else (0, 60)
set_option maxRecDepth 100000 in
set_option maxHeartbeats 3200000 in
theorem served_api (b : Yb) (P : Yp) (i : Int) (w : World) (hB : YbAt w P b) :
    Calls Try.prog 18 #[.agg (ybA b P), .int .i64 i] w fun e w' => e = .returned (.tuple #[.int .i64 (servA b i).1, .int .i64 (servA b i).2]) ∧ Below w.heap.size w w' := by
  obtain ⟨W0, hW0⟩ : ∃ W, W = (w.alloc (.cells (ybA b P) 25)).alloc (.cells #[.int .i64 i] 3) := ⟨_, rfl⟩
  have HW0 := Lib.hid hW0
  have HE := Lib.hid (show Below w.heap.size w W0 by rw [hW0]; exact below_alloc2 _ _ _)
  have HRB := Lib.hid (show Row W0 w.heap.size (ybA b P) 25 by rw [hW0]; exact (Row.new _ _ _).alloc _)
  have HRI := Lib.hid (show Row W0 (w.heap.size + 1) #[.int .i64 i] 3 by rw [hW0]; exact Row.new1 _ _ _ _)
  have HA1 := Lib.hid (below_alloc W0 (.cells #[.int .i64 i] 3))
  have rN := Row.new W0 #[.int .i64 i] 3
  have HEN := Lib.hid (enter_any b P (some ⟨W0.heap.size, 0, none⟩) 1 [i] (W0.alloc (.cells #[.int .i64 i] 3)) ((hB.below HE.out).below HA1.out) (by
    intro k hk
    obtain rfl : k = 0 := by simpa using hk
    exact ⟨_, 0, rfl, rN.cell 0 rfl⟩) (show 1 ≤ 1000 by omega))
  rw [show [i].length = 1 from rfl] at HEN
  have i0 := HRI.out.cell 0 (v := .int .i64 i) rfl
  clear hB hW0 rN
  go_enter Try.func18, Try.ntmps18
  go_upto_region 1 with (fail)
  rw [← HW0.out]
  go_wp2_with (first | (refine load_row rfl 25 _ rfl w.heap.size rfl 25 (ybA b P) _ HRB.out Try.underlying25 rfl (by kernel_rfl) ?_))
  refine HEN.out.mono ?_
  clear i0
  rintro e u ⟨hbu, ⟨hb, rfl⟩ | ⟨hb, hl, rfl⟩ | ⟨hb, hl, mb, rfl, hyk, -⟩⟩
  · have HV := Lib.hid (show servA b i = (0, 60) by unfold servA; rw [hb]; rfl)
    have HBU := Lib.hid ((HE.out.trans (HA1.out.mono HE.out.size)).trans (hbu.mono (Nat.le_trans HE.out.size HA1.out.size)))
    clear hb hbu
    go_wp2_with (first | (refine store_new rfl 83 _ _ rfl ykZ ykZ 83 rfl rfl (by kernel_rfl) rfl (by simp [Value.oneCell']) ?_))
    exact bodyPost_ret (v := .tuple #[.int .i64 0, .int .i64 60]) (results_tmp2 Try.results18 _ _ _) rfl ⟨by rw [HV.out], HBU.out.alloc HBU.out.size _⟩
  · have HV := Lib.hid (show servA b i = (0, 61) by
      unfold servA
      rw [hb, if_pos rfl]
      simp only [List.all_cons, List.all_nil, Bool.and_true] at hl
      rw [hl]; rfl)
    have HBU := Lib.hid ((HE.out.trans (HA1.out.mono HE.out.size)).trans (hbu.mono (Nat.le_trans HE.out.size HA1.out.size)))
    clear hb hbu hl
    go_wp2_with (first | (refine store_new rfl 83 _ _ rfl ykZ ykZ 83 rfl rfl (by kernel_rfl) rfl (by simp [Value.oneCell']) ?_))
    exact bodyPost_ret (v := .tuple #[.int .i64 0, .int .i64 61]) (results_tmp2 Try.results18 _ _ _) rfl ⟨by rw [HV.out], HBU.out.alloc HBU.out.size _⟩
  · simp only [List.all_cons, List.all_nil, Bool.and_true] at hl
    have HV := Lib.hid (show servA b i = (kindN (fun k => servK b k i.toNat), 0) by
      unfold servA
      rw [hb, if_pos rfl, hl, if_pos rfl])
    rw [lotOk_iff] at hl
    have hb1 := (HA1.out.trans (hbu.mono HA1.out.size)).trans ((below_alloc u (.cells (ykA b P mb) 83)).mono (Nat.le_trans HA1.out.size hbu.size))
    have HBU := Lib.hid (HE.out.trans (hb1.mono HE.out.size))
    have HRK := Lib.hid (Row.new u (ykA b P mb) 83)
    have HYK := Lib.hid (hyk.below (below_alloc u (.cells (ykA b P mb) 83)))
    have i0 := (HRI.out.below hb1 HRI.out.lt).cell 0 (v := .int .i64 i) rfl
    have HI0 := Lib.hid i0
    clear hb hbu hyk hb1
    have HKN := Lib.hid (kind_served b P mb (fun k => servK b k i.toNat) (w.heap.size + 1) _ (fun k w' hw => served1_any b P mb k i.toNat (w.heap.size + 1) (by omega) w' (HYK.out.below hw) (by rw [show ((i.toNat : Nat) : Int) = i by omega]; exact cell_kept HI0.out hw)))
    generalize kindN (fun k => servK b k i.toNat) = kn at *
    go_wp2_with (first
      | (refine store_new rfl 83 _ _ rfl (ykA b P mb) ykZ 83 rfl rfl (by kernel_rfl) rfl (one_ykA _ _ _) ?_)
      | (refine load_row rfl 83 _ rfl u.heap.size rfl 83 (ykA b P mb) _ HRK.out Try.underlying83 rfl (by kernel_rfl) ?_)
      | (go_at_call 56; (with_reducible refine HKN.out.mono ?_); rintro e v ⟨rfl, hbv⟩; have HBV := Lib.hid hbv; clear hbv))
    exact bodyPost_ret (v := .tuple #[.int .i64 kn, .int .i64 0]) (results_tmp2 Try.results18 _ _ _) rfl ⟨by rw [HV.out], HBU.out.trans (HBV.out.mono HBU.out.size)⟩
/-- What Best answers. -/
def BestA (b : Yb) (w : World) (e : Ending) (w' : World) : Prop :=
  Below w.heap.size w w' ∧ ((yardB b = false ∧ e = .returned (.tuple #[.slice none 0 0, .int .i64 60])) ∨
    (yardB b = true ∧ ∃ p c, e = .returned (.tuple #[.slice p (intsN (lotsL (bestK b false))).length c, .int .i64 0]) ∧ IntsAt w' p (intsN (lotsL (bestK b false)))))
set_option maxRecDepth 100000 in
set_option maxHeartbeats 3200000 in
theorem best_api (b : Yb) (P : Yp) (w : World) (hB : YbAt w P b) :
    Calls Try.prog 23 #[.agg (ybA b P)] w (BestA b w) := by
  obtain ⟨W0, hW0⟩ : ∃ W, W = w.alloc (.cells (ybA b P) 25) := ⟨_, rfl⟩
  have HW0 := Lib.hid hW0
  have HE := Lib.hid (show Below w.heap.size w W0 by rw [hW0]; exact below_alloc _ _)
  have HRB := Lib.hid (show Row W0 w.heap.size (ybA b P) 25 by rw [hW0]; exact Row.new _ _ _)
  have HEN := Lib.hid (enter_any b P none 0 [] W0 (hB.below HE.out) (fun i h => absurd h (Nat.not_lt_zero _)) (by decide))
  rw [show ([] : List Int).length = 0 from rfl] at HEN
  clear hB hW0
  go_enter Try.func23, Try.ntmps23
  go_upto_region 1 with (fail)
  rw [← HW0.out]
  go_wp2_with (first | (refine load_row rfl 25 _ rfl w.heap.size rfl 25 (ybA b P) _ HRB.out Try.underlying25 rfl (by kernel_rfl) ?_))
  refine HEN.out.mono ?_
  rintro e u ⟨hbu, ⟨hb, rfl⟩ | ⟨hb, hl, rfl⟩ | ⟨hb, hl, mb, rfl, hyk, -⟩⟩
  · have HBB := Lib.hid hb
    have HBU := Lib.hid (HE.out.trans (hbu.mono HE.out.size))
    clear hb hbu
    go_wp2_with (first | (refine store_new rfl 83 _ _ rfl ykZ ykZ 83 rfl rfl (by kernel_rfl) rfl (by simp [Value.oneCell']) ?_))
    exact bodyPost_ret (v := .tuple #[.slice none 0 0, .int .i64 60]) (results_tmp2 Try.results23 _ _ _) rfl ⟨HBU.out.alloc HBU.out.size _, .inl ⟨HBB.out, rfl⟩⟩
  · exact absurd hl (by simp)
  · have HBB := Lib.hid hb
    have HBU := Lib.hid (HE.out.trans ((hbu.trans ((below_alloc u (.cells (ykA b P mb) 83)).mono hbu.size)).mono HE.out.size))
    have HRK := Lib.hid (Row.new u (ykA b P mb) 83)
    have HYK := Lib.hid (hyk.below (below_alloc u (.cells (ykA b P mb) 83)))
    clear hb hbu hyk hl
    have HW := Lib.hid (worst_any b P mb)
    have HBE := Lib.hid (fun w' (h : YkAt w' P mb b) => best_any b P mb false w' h)
    generalize topK b false = t0 at *
    go_wp2_with (first
      | (refine store_new rfl 83 _ _ rfl (ykA b P mb) ykZ 83 rfl rfl (by kernel_rfl) rfl (one_ykA _ _ _) ?_)
      | (refine load_row rfl 83 _ rfl u.heap.size rfl 83 (ykA b P mb) _ HRK.out Try.underlying83 rfl (by kernel_rfl) ?_)
      | (go_at_call 73; (with_reducible refine (HW.out _).mono ?_); rintro e v ⟨rfl, hbv⟩; have HBV := Lib.hid (HBU.out.trans (hbv.mono HBU.out.size)); have HYV := Lib.hid (HYK.out.below hbv); clear hbv)
      | (go_at_call 74; (with_reducible refine (HBE.out _ HYV.out).mono ?_); rintro e x ⟨pq, cq, rfl, hin, hbx⟩; have HBX := Lib.hid (HBV.out.trans (hbx.mono HBV.out.size)); have HIN := Lib.hid hin; clear hbx hin))
    exact bodyPost_ret (v := .tuple #[.slice pq (intsN (lotsL (bestK b false))).length cq, .int .i64 0]) (results_tmp2 Try.results23 _ _ _) rfl ⟨HBX.out, .inr ⟨HBB.out, pq, cq, rfl, HIN.out⟩⟩
/-- What Place answers. -/
def placeA (b : Yb) : Int × Int := if yardB b then (if (placeO b).2.1 then ((placeO b).1, 0) else (0, 4)) else (0, 60)
set_option maxRecDepth 100000 in
set_option maxHeartbeats 3200000 in
theorem place_api (b : Yb) (P : Yp) (w : World) (hB : YbAt w P b) :
    Calls Try.prog 28 #[.agg (ybA b P)] w (fun e w' => e = .returned (.tuple #[.int .i64 (placeA b).1, .int .i64 (placeA b).2]) ∧ Below w.heap.size w w') := by
  obtain ⟨W0, hW0⟩ : ∃ W, W = w.alloc (.cells (ybA b P) 25) := ⟨_, rfl⟩
  have HW0 := Lib.hid hW0
  have HE := Lib.hid (show Below w.heap.size w W0 by rw [hW0]; exact below_alloc _ _)
  have HRB := Lib.hid (show Row W0 w.heap.size (ybA b P) 25 by rw [hW0]; exact Row.new _ _ _)
  have HEN := Lib.hid (enter_any b P none 0 [] W0 (hB.below HE.out) (fun i h => absurd h (Nat.not_lt_zero _)) (by decide))
  rw [show ([] : List Int).length = 0 from rfl] at HEN
  clear hB hW0
  go_enter Try.func28, Try.ntmps28
  go_upto_region 1 with (fail)
  rw [← HW0.out]
  go_wp2_with (first | (refine load_row rfl 25 _ rfl w.heap.size rfl 25 (ybA b P) _ HRB.out Try.underlying25 rfl (by kernel_rfl) ?_))
  refine HEN.out.mono ?_
  rintro e u ⟨hbu, ⟨hb, rfl⟩ | ⟨hb, hl, rfl⟩ | ⟨hb, hl, mb, rfl, hyk, -⟩⟩
  · have HV := Lib.hid (show placeA b = (0, 60) by unfold placeA; rw [hb]; rfl)
    have HBU := Lib.hid (HE.out.trans (hbu.mono HE.out.size))
    clear hb hbu
    go_wp2_with (first | (refine store_new rfl 83 _ _ rfl ykZ ykZ 83 rfl rfl (by kernel_rfl) rfl (by simp [Value.oneCell']) ?_))
    exact bodyPost_ret (v := .tuple #[.int .i64 0, .int .i64 60]) (results_tmp2 Try.results28 _ _ _) rfl ⟨by rw [HV.out], HBU.out.alloc HBU.out.size _⟩
  · exact absurd hl (by simp)
  · have HBB := Lib.hid hb
    have HBU := Lib.hid (HE.out.trans ((hbu.trans ((below_alloc u (.cells (ykA b P mb) 83)).mono hbu.size)).mono HE.out.size))
    have HRK := Lib.hid (Row.new u (ykA b P mb) 83)
    have HYK := Lib.hid (hyk.below (below_alloc u (.cells (ykA b P mb) 83)))
    clear hb hbu hyk hl
    have HPL := Lib.hid (fun w' (h : YkAt w' P mb b) => place_any b P mb w' h (yardB_iff.1 HBB.out).2)
    have HV := Lib.hid (show placeA b = if (placeO b).2.1 then ((placeO b).1, 0) else (0, 4) by unfold placeA; rw [HBB.out]; rfl)
    obtain ⟨a, hpo⟩ : ∃ a, placeO b = a := ⟨_, rfl⟩
    obtain ⟨a1, a2, a3⟩ := a
    rw [hpo] at HV HPL
    dsimp only at HV HPL
    clear hpo
    cases a2
    · go_wp2_with (first
        | (refine store_new rfl 83 _ _ rfl (ykA b P mb) ykZ 83 rfl rfl (by kernel_rfl) rfl (one_ykA _ _ _) ?_)
        | (refine load_row rfl 83 _ rfl u.heap.size rfl 83 (ykA b P mb) _ HRK.out Try.underlying83 rfl (by kernel_rfl) ?_)
        | (go_at_call 78; (with_reducible refine (HPL.out _ HYK.out).mono ?_); rintro e v ⟨rfl, hbv⟩; have HBV := Lib.hid (HBU.out.trans (hbv.mono HBU.out.size)); clear hbv))
      exact bodyPost_ret (v := .tuple #[.int .i64 0, .int .i64 4]) (results_tmp2 Try.results28 _ _ _) rfl ⟨by rw [HV.out]; rfl, HBV.out⟩
    · go_wp2_with (first
        | (refine store_new rfl 83 _ _ rfl (ykA b P mb) ykZ 83 rfl rfl (by kernel_rfl) rfl (one_ykA _ _ _) ?_)
        | (refine load_row rfl 83 _ rfl u.heap.size rfl 83 (ykA b P mb) _ HRK.out Try.underlying83 rfl (by kernel_rfl) ?_)
        | (go_at_call 78; (with_reducible refine (HPL.out _ HYK.out).mono ?_); rintro e v ⟨rfl, hbv⟩; have HBV := Lib.hid (HBU.out.trans (hbv.mono HBU.out.size)); clear hbv))
      exact bodyPost_ret (v := .tuple #[.int .i64 a1, .int .i64 0]) (results_tmp2 Try.results28 _ _ _) rfl ⟨by rw [HV.out]; rfl, HBV.out⟩
end Go.Proofs.Ytajkgfeockcbpaa
