/- The walks of layer 6: what the package answers. -/
import Derived.Test.YtajkgfeockcbpaaY23
namespace Go.Proofs.Ytajkgfeockcbpaa
open Go.RowKit Go.Maps
attribute [local go_sem] Oper.semAt_some field_list field_goods

/-- What Near answers. -/
def nearA (b : Yb) (i j : Int) : Int × Int := if yardB b then (if lotOk b i && lotOk b j then (if i = j then (0, 61) else (kindN (fun k => nearK b k i.toNat j.toNat), 0)) else (0, 61)) else (0, 60)
set_option maxRecDepth 100000 in
set_option maxHeartbeats 3200000 in
theorem near_api (b : Yb) (P : Yp) (i j : Int) (w : World) (hB : YbAt w P b) :
    Calls Try.prog 14 #[.agg (ybA b P), .int .i64 i, .int .i64 j] w fun e w' => e = .returned (.tuple #[.int .i64 (nearA b i j).1, .int .i64 (nearA b i j).2]) ∧ Below w.heap.size w w' := by
  obtain ⟨W0, hW0⟩ : ∃ W, W = ((w.alloc (.cells (ybA b P) 25)).alloc (.cells #[.int .i64 i] 3)).alloc (.cells #[.int .i64 j] 3) := ⟨_, rfl⟩
  have HW0 := Lib.hid hW0
  have HE := Lib.hid (show Below w.heap.size w W0 by rw [hW0]; exact below_alloc3 _ _ _ _)
  have HRB := Lib.hid (show Row W0 w.heap.size (ybA b P) 25 by rw [hW0]; exact ((Row.new _ _ _).alloc _).alloc _)
  have HRI := Lib.hid (show Row W0 (w.heap.size + 1) #[.int .i64 i] 3 by rw [hW0]; exact (Row.new1 _ _ _ _).alloc _)
  have HRJ := Lib.hid (show Row W0 (w.heap.size + 1 + 1) #[.int .i64 j] 3 by rw [hW0]; exact Row.new2 _ _ _ _ _)
  have HA1 := Lib.hid (below_alloc W0 (.cells #[.int .i64 i, .int .i64 j] 3))
  have rN := Row.new W0 #[.int .i64 i, .int .i64 j] 3
  have HEN := Lib.hid (enter_any b P (some ⟨W0.heap.size, 0, none⟩) 2 [i, j] (W0.alloc (.cells #[.int .i64 i, .int .i64 j] 3)) ((hB.below HE.out).below HA1.out) (by
    intro k hk
    have hk : k < 2 := hk
    obtain rfl | rfl : k = 0 ∨ k = 1 := by omega
    · exact ⟨_, 0, rfl, rN.cell 0 rfl⟩
    · exact ⟨_, 0, rfl, rN.cell 1 rfl⟩) (show 2 ≤ 1000 by omega))
  rw [show [i, j].length = 2 from rfl] at HEN
  have i0 := HRI.out.cell 0 (v := .int .i64 i) rfl
  have j0 := HRJ.out.cell 0 (v := .int .i64 j) rfl
  clear hB hW0 rN
  go_enter Try.func14, Try.ntmps14
  go_upto_region 1 with (fail)
  rw [← HW0.out]
  go_wp2_with (first | (refine load_row rfl 25 _ rfl w.heap.size rfl 25 (ybA b P) _ HRB.out Try.underlying25 rfl (by kernel_rfl) ?_))
  refine HEN.out.mono ?_
  clear i0 j0
  rintro e u ⟨hbu, ⟨hb, rfl⟩ | ⟨hb, hl, rfl⟩ | ⟨hb, hl, mb, rfl, hyk, -⟩⟩
  · have HV := Lib.hid (show nearA b i j = (0, 60) by unfold nearA; rw [hb]; rfl)
    have HBU := Lib.hid ((HE.out.trans (HA1.out.mono HE.out.size)).trans (hbu.mono (Nat.le_trans HE.out.size HA1.out.size)))
    clear hb hbu
    go_wp2_with (first | (refine store_new rfl 83 _ _ rfl ykZ ykZ 83 rfl rfl (by kernel_rfl) rfl (by simp [Value.oneCell']) ?_))
    exact bodyPost_ret (v := .tuple #[.int .i64 0, .int .i64 60]) (results_tmp2 Try.results14 _ _ _) rfl ⟨by rw [HV.out], HBU.out.alloc HBU.out.size _⟩
  · have HV := Lib.hid (show nearA b i j = (0, 61) by
      unfold nearA
      rw [hb, if_pos rfl]
      simp only [List.all_cons, List.all_nil, Bool.and_true] at hl
      rw [hl]; rfl)
    have HBU := Lib.hid ((HE.out.trans (HA1.out.mono HE.out.size)).trans (hbu.mono (Nat.le_trans HE.out.size HA1.out.size)))
    clear hb hbu hl
    go_wp2_with (first | (refine store_new rfl 83 _ _ rfl ykZ ykZ 83 rfl rfl (by kernel_rfl) rfl (by simp [Value.oneCell']) ?_))
    exact bodyPost_ret (v := .tuple #[.int .i64 0, .int .i64 61]) (results_tmp2 Try.results14 _ _ _) rfl ⟨by rw [HV.out], HBU.out.alloc HBU.out.size _⟩
  · simp only [List.all_cons, List.all_nil, Bool.and_true] at hl
    have HV := Lib.hid (show nearA b i j = if i = j then (0, 61) else (kindN (fun k => nearK b k i.toNat j.toNat), 0) by
      unfold nearA
      rw [hb, if_pos rfl, hl, if_pos rfl])
    rw [Bool.and_eq_true, lotOk_iff, lotOk_iff] at hl
    have hb1 := (HA1.out.trans (hbu.mono HA1.out.size)).trans ((below_alloc u (.cells (ykA b P mb) 83)).mono (Nat.le_trans HA1.out.size hbu.size))
    have HBU := Lib.hid (HE.out.trans (hb1.mono HE.out.size))
    have HRK := Lib.hid (Row.new u (ykA b P mb) 83)
    have HYK := Lib.hid (hyk.below (below_alloc u (.cells (ykA b P mb) 83)))
    have i0 := (HRI.out.below hb1 HRI.out.lt).cell 0 (v := .int .i64 i) rfl
    have j0 := (HRJ.out.below hb1 HRJ.out.lt).cell 0 (v := .int .i64 j) rfl
    have HI0 := Lib.hid i0
    have HJ0 := Lib.hid j0
    clear hb hbu hyk hb1
    by_cases hij : i = j
    · have hd : (i == j) = true := by rw [hij]; simp
      rw [if_pos hij] at HV
      clear hij
      go_wp2_with (first | (refine store_new rfl 83 _ _ rfl (ykA b P mb) ykZ 83 rfl rfl (by kernel_rfl) rfl (one_ykA _ _ _) ?_))
      exact bodyPost_ret (v := .tuple #[.int .i64 0, .int .i64 61]) (results_tmp2 Try.results14 _ _ _) rfl ⟨by rw [HV.out], HBU.out⟩
    · have hd : (i == j) = false := by simpa using hij
      rw [if_neg hij] at HV
      clear hij
      have HKN := Lib.hid (kind_near b P mb (fun k => nearK b k i.toNat j.toNat) (w.heap.size + 1) (w.heap.size + 1 + 1) _ (fun k w' hw => near1_any b P mb k i.toNat j.toNat (w.heap.size + 1) (w.heap.size + 1 + 1) (by omega) (by omega) w' (HYK.out.below hw) (by rw [show ((i.toNat : Nat) : Int) = i by omega]; exact cell_kept HI0.out hw) (by rw [show ((j.toNat : Nat) : Int) = j by omega]; exact cell_kept HJ0.out hw)))
      generalize kindN (fun k => nearK b k i.toNat j.toNat) = kn at *
      go_wp2_with (first
        | (refine store_new rfl 83 _ _ rfl (ykA b P mb) ykZ 83 rfl rfl (by kernel_rfl) rfl (one_ykA _ _ _) ?_)
        | (refine load_row rfl 83 _ rfl u.heap.size rfl 83 (ykA b P mb) _ HRK.out Try.underlying83 rfl (by kernel_rfl) ?_)
        | (go_at_call 56; (with_reducible refine HKN.out.mono ?_); rintro e v ⟨rfl, hbv⟩; have HBV := Lib.hid hbv; clear hbv))
      exact bodyPost_ret (v := .tuple #[.int .i64 kn, .int .i64 0]) (results_tmp2 Try.results14 _ _ _) rfl ⟨by rw [HV.out], HBU.out.trans (HBV.out.mono HBU.out.size)⟩
end Go.Proofs.Ytajkgfeockcbpaa
