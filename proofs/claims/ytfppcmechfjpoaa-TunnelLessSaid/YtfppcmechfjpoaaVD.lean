/- The law's own helper of layer 3: the chapter's examples. -/
import Derived.Test.YtfppcmechfjpoaaVC
namespace Go.Proofs.Ytfppcmechfjpoaa
open Go.RowKit Go.Maps
attribute [local go_sem] Oper.semAt_some

theorem ints_new (w : World) (l : List Int) (t : TypeId) : IntsAt (w.alloc (.cells (intsA l) t)) (some ⟨w.heap.size, 0, none⟩) l := ints_row (Row.new w (intsA l) t)
theorem new22 (w : World) (t : TypeId) : IntsAt (w.alloc (.cells #[.int .i64 2, .int .i64 2] t)) (some ⟨w.heap.size, 0, none⟩) [2, 2] := ints_new w [2, 2] t
theorem new3 (w : World) (t : TypeId) : IntsAt (w.alloc (.cells #[.int .i64 3] t)) (some ⟨w.heap.size, 0, none⟩) [3] := ints_new w [3] t
theorem al22 (p q : Option Addr) (c d : Nat) (w : World) (hc : IntsAt w p [2, 2]) (hd : IntsAt w q [2, 2]) : Calls Try.prog 25 #[.slice p 2 c, .slice q 2 d] w fun e w' => e = .returned (.bool true) ∧ Below w.heap.size w w' := by
  have h := Alike_any p q c d [2, 2] [2, 2] w (by decide) hc hd
  rw [show decide (([2, 2] : List Int) = [2, 2]) = true by decide] at h
  exact h
theorem al3 (p q : Option Addr) (c d : Nat) (w : World) (hc : IntsAt w p [3]) (hd : IntsAt w q [3]) : Calls Try.prog 25 #[.slice p 1 c, .slice q 1 d] w fun e w' => e = .returned (.bool true) ∧ Below w.heap.size w w' := by
  have h := Alike_any p q c d [3] [3] w (by decide) hc hd
  rw [show decide (([3] : List Int) = [3]) = true by decide] at h
  exact h
set_option maxRecDepth 10000 in
set_option maxHeartbeats 3200000 in
theorem warmed_any (w : World) : Calls Try.prog 26 #[] w fun e w' => e = .returned (.bool true) ∧ Below w.heap.size w w' := by
  go_enter Try.func26, Try.ntmps26
  have HB := Lib.hid (Below.refl w.heap.size w)
  go_wp2_with fail
  refine (book_gave _).mono ?_
  rintro e w1 ⟨pp1, cp1, pf1, cf1, ms1, rfl, hf, hk, hb⟩
  have HB := Lib.hid (HB.out.trans (hb.mono HB.out.size))
  have HF := Lib.hid hf
  have HK := Lib.hid hk
  clear hf hk
  clear hb
  have hb := below_alloc w1 (.cells #[.int .i64 2, .int .i64 2] 3)
  have HL := Lib.hid (ints_new w1 [2, 2] 3)
  have HK := Lib.hid (HK.out.below hb)
  have HB := Lib.hid (HB.out.trans (hb.mono HB.out.size))
  clear hb
  go_wp2_with fail
  refine (exDries _ _ _ _ _ _ HK.out HF.out _ _ HL.out).mono ?_
  rintro e w2 ⟨rfl, hb⟩
  have HB := Lib.hid (HB.out.trans (hb.mono HB.out.size))
  clear hb
  have hb := below_alloc w2 (.cells #[.int .i64 48, .int .i64 60] 32)
  have RS := Lib.hid (Row.new w2 #[.int .i64 48, .int .i64 60] 32)
  have HB := Lib.hid (HB.out.trans (hb.mono HB.out.size))
  clear hb
  go_wp2_with fail
  refine (book_gave _).mono ?_
  rintro e w3 ⟨pp3, cp3, pf3, cf3, ms3, rfl, hf, hk, hb⟩
  have RS := Lib.hid (RS.out.below hb RS.out.lt)
  have HB := Lib.hid (HB.out.trans (hb.mono HB.out.size))
  have HF := Lib.hid hf
  have HK := Lib.hid hk
  clear hf hk
  clear hb
  go_wp2_with fail
  refine (exBest _ _ _ _ _ _ HK.out HF.out).mono ?_
  rintro e w4 ⟨pb, cb, rfl, hi, hb⟩
  have RS := Lib.hid (RS.out.below hb RS.out.lt)
  have HB := Lib.hid (HB.out.trans (hb.mono HB.out.size))
  have HBI := Lib.hid hi
  clear hi
  clear hb
  go_wp2_with fail
  refine (torn_any _).mono ?_
  rintro e w5 ⟨pp5, cp5, pf5, cf5, ms5, rfl, hf, hk, hb⟩
  have RS := Lib.hid (RS.out.below hb RS.out.lt)
  have HBI := Lib.hid (HBI.out.below hb)
  have HB := Lib.hid (HB.out.trans (hb.mono HB.out.size))
  have HF := Lib.hid hf
  have HK := Lib.hid hk
  clear hf hk
  clear hb
  go_wp2_with fail
  refine (exClash _ _ _ _ _ _ HK.out HF.out).mono ?_
  rintro e w6 ⟨rfl, hb⟩
  have RS := Lib.hid (RS.out.below hb RS.out.lt)
  have HBI := Lib.hid (HBI.out.below hb)
  have HB := Lib.hid (HB.out.trans (hb.mono HB.out.size))
  clear hb
  go_wp2_with fail
  refine (book_gave _).mono ?_
  rintro e w7 ⟨pp7, cp7, pf7, cf7, ms7, rfl, hf, hk, hb⟩
  have RS := Lib.hid (RS.out.below hb RS.out.lt)
  have HBI := Lib.hid (HBI.out.below hb)
  have HB := Lib.hid (HB.out.trans (hb.mono HB.out.size))
  have HF := Lib.hid hf
  have HK := Lib.hid hk
  clear hf hk
  clear hb
  have hb := below_alloc w7 (.cells #[.int .i64 2, .int .i64 2] 3)
  have HL := Lib.hid (ints_new w7 [2, 2] 3)
  have HK := Lib.hid (HK.out.below hb)
  have RS := Lib.hid (RS.out.below hb RS.out.lt)
  have HBI := Lib.hid (HBI.out.below hb)
  have HB := Lib.hid (HB.out.trans (hb.mono HB.out.size))
  clear hb
  go_wp2_with fail
  refine (exLonger _ _ _ _ _ _ HK.out HF.out _ _ HL.out).mono ?_
  rintro e w8 ⟨rfl, hb⟩
  have RS := Lib.hid (RS.out.below hb RS.out.lt)
  have HBI := Lib.hid (HBI.out.below hb)
  have HB := Lib.hid (HB.out.trans (hb.mono HB.out.size))
  clear hb
  go_wp2_with fail
  refine (lost_any _).mono ?_
  rintro e w9 ⟨pp9, cp9, pf9, cf9, ms9, rfl, hf, hk, hb⟩
  have RS := Lib.hid (RS.out.below hb RS.out.lt)
  have HBI := Lib.hid (HBI.out.below hb)
  have HB := Lib.hid (HB.out.trans (hb.mono HB.out.size))
  have HF := Lib.hid hf
  have HK := Lib.hid hk
  clear hf hk
  clear hb
  go_wp2_with fail
  refine (exLost _ _ _ _ _ _ HK.out HF.out).mono ?_
  rintro e w10 ⟨pm, cm, rfl, hi, hb⟩
  have RS := Lib.hid (RS.out.below hb RS.out.lt)
  have HBI := Lib.hid (HBI.out.below hb)
  have HB := Lib.hid (HB.out.trans (hb.mono HB.out.size))
  have HMI := Lib.hid hi
  clear hi
  clear hb
  go_wp2_with fail
  have hS : ∀ w', From w10 w' → (w'.cell? ⟨w2.heap.size, 0, none⟩ = some (.int .i64 48) ∧ w'.cell? ⟨w2.heap.size, 1, none⟩ = some (.int .i64 60)) := fun w' k => ⟨(k.row RS.out).cell 0 rfl, (k.row RS.out).cell 1 rfl⟩
  have HS := Lib.hid hS
  have KI := Lib.hid (From.refl w10)
  clear hS
  go_region_held3 (fun w' => w'.cell? ⟨w2.heap.size, 0, none⟩ = some (.int .i64 48) ∧ w'.cell? ⟨w2.heap.size, 1, none⟩ = some (.int .i64 60)) (first | with_reducible exact HS.out _ KI.out | with_reducible exact HS.out _ KI.out.drew | with_reducible exact HS.out _ (KI.out.below (below_alloc _ _)) | with_reducible exact HS.out _ (KI.out.drew.below (below_alloc _ _)))
    (first | (go_at_call 49; (with_reducible refine (Sp_any _ _ _).mono ?_); rintro e u ⟨rfl, hbu⟩; have KI := Lib.hid (by first | with_reducible exact KI.out.drew.below hbu | with_reducible exact KI.out.below hbu | with_reducible exact (KI.out.below (below_alloc _ _)).below hbu | with_reducible exact (KI.out.drew.below (below_alloc _ _)).below hbu); clear hbu) | (go_at_call 25; (with_reducible refine (al22 pb _ cb 2 _ (by first | with_reducible exact (KI.out.below (below_alloc _ _)).ints HBI.out | with_reducible exact (KI.out.drew.below (below_alloc _ _)).ints HBI.out) (new22 _ _)).mono ?_); rintro e u ⟨rfl, hbu⟩; have KI := Lib.hid (by first | with_reducible exact KI.out.drew.below hbu | with_reducible exact KI.out.below hbu | with_reducible exact (KI.out.below (below_alloc _ _)).below hbu | with_reducible exact (KI.out.drew.below (below_alloc _ _)).below hbu); clear hbu) | (go_at_call 25; (with_reducible refine (al3 pm _ cm 1 _ (by first | with_reducible exact (KI.out.below (below_alloc _ _)).ints HMI.out | with_reducible exact (KI.out.drew.below (below_alloc _ _)).ints HMI.out) (new3 _ _)).mono ?_); rintro e u ⟨rfl, hbu⟩; have KI := Lib.hid (by first | with_reducible exact KI.out.drew.below hbu | with_reducible exact KI.out.below hbu | with_reducible exact (KI.out.below (below_alloc _ _)).below hbu | with_reducible exact (KI.out.drew.below (below_alloc _ _)).below hbu); clear hbu))
  all_goals
    have HB := Lib.hid (HB.out.trans (KI.out.b.mono HB.out.size))
    clear KI HS RS HBI HMI HK HF HL
    go_wp2_with fail
    refine (book_gave _).mono ?_
    rintro e w11 ⟨pp11, cp11, pf11, cf11, ms11, rfl, hf, hk, hb⟩
    have HB := Lib.hid (HB.out.trans (hb.mono HB.out.size))
    have HF := Lib.hid hf
    have HK := Lib.hid hk
    clear hf hk
    clear hb
    have hb := below_alloc w11 (.cells #[.int .i64 1, .int .i64 3] 3)
    have HL := Lib.hid (ints_new w11 [1, 3] 3)
    have HK := Lib.hid (HK.out.below hb)
    have HB := Lib.hid (HB.out.trans (hb.mono HB.out.size))
    clear hb
    go_wp2_with fail
    refine (exKind _ _ _ _ _ _ HK.out HF.out _ _ HL.out).mono ?_
    rintro e w12 ⟨rfl, hb⟩
    have HB := Lib.hid (HB.out.trans (hb.mono HB.out.size))
    clear hb
    go_wp2_with fail
    refine (small_any _).mono ?_
    rintro e w13 ⟨pp13, cp13, pf13, cf13, ms13, rfl, hf, hk, hb⟩
    have HB := Lib.hid (HB.out.trans (hb.mono HB.out.size))
    have HF := Lib.hid hf
    have HK := Lib.hid hk
    clear hf hk
    clear hb
    go_wp2_with fail
    refine (exAsk _ _ _ _ _ _ HK.out HF.out).mono ?_
    rintro e w14 ⟨rfl, hb⟩
    have HB := Lib.hid (HB.out.trans (hb.mono HB.out.size))
    clear hb
    go_wp2_with fail
    refine (torn_any _).mono ?_
    rintro e w15 ⟨pp15, cp15, pf15, cf15, ms15, rfl, hf, hk, hb⟩
    have HB := Lib.hid (HB.out.trans (hb.mono HB.out.size))
    have HF := Lib.hid hf
    have HK := Lib.hid hk
    clear hf hk
    clear hb
    go_wp2_with fail
    refine (exMost _ _ _ _ _ _ HK.out HF.out).mono ?_
    rintro e w16 ⟨px, cx, py, cy, rfl, hi, hj, hb⟩
    have HB := Lib.hid (HB.out.trans (hb.mono HB.out.size))
    have HX := Lib.hid hi
    have HY := Lib.hid hj
    clear hi hj
    clear hb
    go_wp2_with fail
    refine (book_gave _).mono ?_
    rintro e w17 ⟨pp17, cp17, pf17, cf17, ms17, rfl, hf, hk, hb⟩
    have HX := Lib.hid (HX.out.below hb)
    have HY := Lib.hid (HY.out.below hb)
    have HB := Lib.hid (HB.out.trans (hb.mono HB.out.size))
    have HF := Lib.hid hf
    have HK := Lib.hid hk
    clear hf hk
    clear hb
    have hb := below_alloc w17 (.cells #[.int .i64 2, .int .i64 2] 3)
    have HL := Lib.hid (ints_new w17 [2, 2] 3)
    have HK := Lib.hid (HK.out.below hb)
    have HX := Lib.hid (HX.out.below hb)
    have HY := Lib.hid (HY.out.below hb)
    have HB := Lib.hid (HB.out.trans (hb.mono HB.out.size))
    clear hb
    go_wp2_with fail
    refine (exHeat _ _ _ _ _ _ HK.out HF.out _ _ HL.out).mono ?_
    rintro e w18 ⟨rfl, hb⟩
    have HX := Lib.hid (HX.out.below hb)
    have HY := Lib.hid (HY.out.below hb)
    have HB := Lib.hid (HB.out.trans (hb.mono HB.out.size))
    clear hb
    go_wp2_with fail
    refine (book_gave _).mono ?_
    rintro e w19 ⟨pp19, cp19, pf19, cf19, ms19, rfl, hf, hk, hb⟩
    have HX := Lib.hid (HX.out.below hb)
    have HY := Lib.hid (HY.out.below hb)
    have HB := Lib.hid (HB.out.trans (hb.mono HB.out.size))
    have HF := Lib.hid hf
    have HK := Lib.hid hk
    clear hf hk
    clear hb
    have hb := below_alloc w19 (.cells #[.int .i64 3, .int .i64 0] 3)
    have HL := Lib.hid (ints_new w19 [3, 0] 3)
    have HK := Lib.hid (HK.out.below hb)
    have HX := Lib.hid (HX.out.below hb)
    have HY := Lib.hid (HY.out.below hb)
    have HB := Lib.hid (HB.out.trans (hb.mono HB.out.size))
    clear hb
    go_wp2_with fail
    refine (exGood _ _ _ _ _ _ HK.out HF.out _ _ HL.out).mono ?_
    rintro e w20 ⟨pz, cz, rfl, hi, hb⟩
    have HX := Lib.hid (HX.out.below hb)
    have HY := Lib.hid (HY.out.below hb)
    have HB := Lib.hid (HB.out.trans (hb.mono HB.out.size))
    have HZ := Lib.hid hi
    clear hi
    clear hb
    go_wp2_with fail
    have hb := below_alloc w20 (.cells #[.int .i64 2, .int .i64 0] 3)
    have HL := Lib.hid (ints_new w20 [2, 0] 3)
    have HX := Lib.hid (HX.out.below hb)
    have HY := Lib.hid (HY.out.below hb)
    have HZ := Lib.hid (HZ.out.below hb)
    have HB := Lib.hid (HB.out.trans (hb.mono HB.out.size))
    clear hb
    have hal := Alike_any px _ cx 2 [2, 0] [2, 0] _ (by decide) HX.out HL.out
    rw [show decide (([2, 0] : List Int) = [2, 0]) = true by decide] at hal
    refine (hal).mono ?_
    rintro e w21 ⟨rfl, hb⟩
    have HX := Lib.hid (HX.out.below hb)
    have HY := Lib.hid (HY.out.below hb)
    have HZ := Lib.hid (HZ.out.below hb)
    have HB := Lib.hid (HB.out.trans (hb.mono HB.out.size))
    clear hb
    clear hal
    go_wp2_with fail
    have hb := below_alloc w21 (.cells #[.int .i64 0, .int .i64 2] 3)
    have HL := Lib.hid (ints_new w21 [0, 2] 3)
    have HX := Lib.hid (HX.out.below hb)
    have HY := Lib.hid (HY.out.below hb)
    have HZ := Lib.hid (HZ.out.below hb)
    have HB := Lib.hid (HB.out.trans (hb.mono HB.out.size))
    clear hb
    have hal := Alike_any py _ cy 2 [0, 2] [0, 2] _ (by decide) HY.out HL.out
    rw [show decide (([0, 2] : List Int) = [0, 2]) = true by decide] at hal
    refine (hal).mono ?_
    rintro e w22 ⟨rfl, hb⟩
    have HX := Lib.hid (HX.out.below hb)
    have HY := Lib.hid (HY.out.below hb)
    have HZ := Lib.hid (HZ.out.below hb)
    have HB := Lib.hid (HB.out.trans (hb.mono HB.out.size))
    clear hb
    clear hal
    go_wp2_with fail
    have hb := below_alloc w22 (.cells #[.int .i64 0, .int .i64 1] 3)
    have HL := Lib.hid (ints_new w22 [0, 1] 3)
    have HX := Lib.hid (HX.out.below hb)
    have HY := Lib.hid (HY.out.below hb)
    have HZ := Lib.hid (HZ.out.below hb)
    have HB := Lib.hid (HB.out.trans (hb.mono HB.out.size))
    clear hb
    have hal := Alike_any pz _ cz 2 [0, 1] [0, 1] _ (by decide) HZ.out HL.out
    rw [show decide (([0, 1] : List Int) = [0, 1]) = true by decide] at hal
    refine (hal).mono ?_
    rintro e w23 ⟨rfl, hb⟩
    have HX := Lib.hid (HX.out.below hb)
    have HY := Lib.hid (HY.out.below hb)
    have HZ := Lib.hid (HZ.out.below hb)
    have HB := Lib.hid (HB.out.trans (hb.mono HB.out.size))
    clear hb
    clear hal
    go_wp2
    go_ret
    exact ⟨rfl, HB.out⟩
end Go.Proofs.Ytfppcmechfjpoaa
