/- The laws' own helper through the layers: the examples of stage 5. -/
import Derived.Test.YticfcdbfplfmlaaGreatTB1
import Derived.Deep.RegionHeld3
namespace Go.Proofs.YticfcdbfplfmlaaGreat
open Go.RowKit Go.Maps
attribute [local go_sem] Oper.semAt_some

set_option maxRecDepth 100000 in
set_option maxHeartbeats 3200000 in
theorem baked05_any (w : World) : Calls Tryz.prog 7 #[] w fun e w' => e = .returned (.bool true) ∧ Below w.heap.size w w' := by
  go_enter Tryz.func7, Tryz.ntmps7
  have HB := Lib.hid (Below.refl w.heap.size w)
  go_wp2_with fail
  refine (pair06_any _).mono ?_
  rintro e w1 ⟨p1, c1, rfl, hk, hb⟩
  have HB := Lib.hid (HB.out.trans (hb.mono HB.out.size))
  have HK := Lib.hid hk
  clear hb hk
  go_wp2_with fail
  refine (prBest _ _ _ HK.out).mono ?_
  rintro e w2 ⟨qb, cb, rfl, hi, hb⟩
  have HB := Lib.hid (HB.out.trans (hb.mono HB.out.size))
  have HK := Lib.hid (HK.out.below hb)
  have HP := Lib.hid hi
  clear hb hi
  go_wp2_with fail
  refine (pair06_any _).mono ?_
  rintro e w3 ⟨p3, c3, rfl, hk, hb⟩
  have HB := Lib.hid (HB.out.trans (hb.mono HB.out.size))
  have HP := Lib.hid (HP.out.below hb)
  have HK := Lib.hid hk
  clear hb hk
  go_wp2_with fail
  refine (prBoxes _ _ _ HK.out).mono ?_
  rintro e w4 ⟨rfl, hb⟩
  have HB := Lib.hid (HB.out.trans (hb.mono HB.out.size))
  have HP := Lib.hid (HP.out.below hb)
  have HK := Lib.hid (HK.out.below hb)
  clear hb
  go_wp2_with fail
  refine (oven04_any _).mono ?_
  rintro e w5 ⟨pp, cp, pf, cf, ms, rfl, hf, hk, hb⟩
  have HB := Lib.hid (HB.out.trans (hb.mono HB.out.size))
  have HP := Lib.hid (HP.out.below hb)
  have HO := Lib.hid hk
  have HF := Lib.hid hf
  clear hb hk hf
  have hb := below_alloc w5 (.cells #[.int .i64 2] 3)
  have HB := Lib.hid (HB.out.trans (hb.mono HB.out.size))
  have HP := Lib.hid (HP.out.below hb)
  have HO := Lib.hid (HO.out.below hb)
  have HL := Lib.hid (new02 w5 3)
  clear hb
  go_wp2_with fail
  refine (ovGood _ _ _ _ _ _ HO.out HF.out _ HL.out).mono ?_
  rintro e w6 ⟨qg, cg, rfl, hi, hb⟩
  have HB := Lib.hid (HB.out.trans (hb.mono HB.out.size))
  have HP := Lib.hid (HP.out.below hb)
  have HO := Lib.hid (HO.out.below hb)
  have HL := Lib.hid (HL.out.below hb)
  have HG := Lib.hid hi
  clear hb hi
  go_wp2_with fail
  refine (wood04_any _).mono ?_
  rintro e w7 ⟨p1, c1, p2, c2, rfl, hl, hb⟩
  have HB := Lib.hid (HB.out.trans (hb.mono HB.out.size))
  have HP := Lib.hid (HP.out.below hb)
  have HG := Lib.hid (HG.out.below hb)
  have HW := Lib.hid hl
  clear hb hl
  go_wp2_with fail
  refine (woHope _ _ _ _ _ HW.out).mono ?_
  rintro e w8 ⟨rfl, hb⟩
  have HB := Lib.hid (HB.out.trans (hb.mono HB.out.size))
  have HP := Lib.hid (HP.out.below hb)
  have HG := Lib.hid (HG.out.below hb)
  have HW := Lib.hid (HW.out.below hb)
  clear hb
  go_wp2_with fail
  refine (pair06_any _).mono ?_
  rintro e w9 ⟨p9, c9, rfl, hk, hb⟩
  have HB := Lib.hid (HB.out.trans (hb.mono HB.out.size))
  have HP := Lib.hid (HP.out.below hb)
  have HG := Lib.hid (HG.out.below hb)
  have HK := Lib.hid hk
  clear hb hk
  go_wp2_with fail
  refine (prSum _ _ _ HK.out).mono ?_
  rintro e w10 ⟨rfl, hb⟩
  have HB := Lib.hid (HB.out.trans (hb.mono HB.out.size))
  have HP := Lib.hid (HP.out.below hb)
  have HG := Lib.hid (HG.out.below hb)
  have HK := Lib.hid (HK.out.below hb)
  clear hb
  have hb := below_alloc w10 (.cells #[.int .i64 9, .int .i64 13] 43)
  have HB := Lib.hid (HB.out.trans (hb.mono HB.out.size))
  have HP := Lib.hid (HP.out.below hb)
  have HG := Lib.hid (HG.out.below hb)
  have RS := Lib.hid (Row.new w10 #[.int .i64 9, .int .i64 13] 43)
  clear hb
  obtain ⟨wx, hwx⟩ : ∃ x, x = w10.alloc (.cells #[.int .i64 9, .int .i64 13] 43) := ⟨_, rfl⟩
  have HWX := Lib.hid hwx
  clear hwx
  go_upto_region 6 with (fail)
  rw [← HWX.out] at HB RS HP HG
  rw [← HWX.out]
  have HS := Lib.hid (fun w' (k : From wx w') => (⟨(k.row RS.out).cell 0 rfl, (k.row RS.out).cell 1 rfl⟩ : w'.cell? ⟨w10.heap.size, 0, none⟩ = some (.int .i64 9) ∧ w'.cell? ⟨w10.heap.size, 1, none⟩ = some (.int .i64 13)))
  have KI := Lib.hid (From.refl wx)
  go_region_held3 (fun w' => w'.cell? ⟨w10.heap.size, 0, none⟩ = some (.int .i64 9) ∧ w'.cell? ⟨w10.heap.size, 1, none⟩ = some (.int .i64 13)) (first | with_reducible exact HS.out _ KI.out | with_reducible exact HS.out _ KI.out.drew | with_reducible exact HS.out _ (KI.out.below (below_alloc _ _)) | with_reducible exact HS.out _ (KI.out.drew.below (below_alloc _ _)) | with_reducible exact HS.out _ (KI.out.below (below_alloc _ _)).drew)
    (first | (go_at_call 15; (with_reducible refine (Sp_any _ _ _).mono ?_); rintro e u ⟨rfl, hbu⟩; have KI := Lib.hid (by first | with_reducible exact KI.out.drew.below hbu | with_reducible exact KI.out.below hbu | with_reducible exact (KI.out.below (below_alloc _ _)).below hbu | with_reducible exact (KI.out.drew.below (below_alloc _ _)).below hbu | with_reducible exact (KI.out.below (below_alloc _ _)).drew.below hbu); clear hbu) | (go_at_call 18; (with_reducible refine (al12 qb _ cb 2 _ (by first | with_reducible exact (KI.out.below (below_alloc _ _)).ints HP.out | with_reducible exact (KI.out.drew.below (below_alloc _ _)).ints HP.out | with_reducible exact (KI.out.below (below_alloc _ _)).drew.ints HP.out) (by first | with_reducible exact new12 _ _ | with_reducible exact new12d _ _)).mono ?_); rintro e u ⟨rfl, hbu⟩; have KI := Lib.hid (by first | with_reducible exact KI.out.drew.below hbu | with_reducible exact KI.out.below hbu | with_reducible exact (KI.out.below (below_alloc _ _)).below hbu | with_reducible exact (KI.out.drew.below (below_alloc _ _)).below hbu | with_reducible exact (KI.out.below (below_alloc _ _)).drew.below hbu); clear hbu) | (go_at_call 18; (with_reducible refine (al00 qg _ cg 1 _ (by first | with_reducible exact (KI.out.below (below_alloc _ _)).ints HG.out | with_reducible exact (KI.out.drew.below (below_alloc _ _)).ints HG.out | with_reducible exact (KI.out.below (below_alloc _ _)).drew.ints HG.out) (by first | with_reducible exact new00 _ _ | with_reducible exact new00d _ _)).mono ?_); rintro e u ⟨rfl, hbu⟩; have KI := Lib.hid (by first | with_reducible exact KI.out.drew.below hbu | with_reducible exact KI.out.below hbu | with_reducible exact (KI.out.below (below_alloc _ _)).below hbu | with_reducible exact (KI.out.drew.below (below_alloc _ _)).below hbu | with_reducible exact (KI.out.below (below_alloc _ _)).drew.below hbu); clear hbu))
  all_goals
    have HB := Lib.hid (HB.out.trans (KI.out.b.mono HB.out.size))
    go_wp2
    go_ret
    exact ⟨rfl, HB.out⟩
end Go.Proofs.YticfcdbfplfmlaaGreat
