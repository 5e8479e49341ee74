/- The law's own helper of layer 1: the chapter's examples. -/
import Derived.Test.YtnnlbbmimdohoaaL1
namespace Go.Proofs.Ytnnlbbmimdohoaa
open Go.RowKit Go.Maps
attribute [local go_sem] Oper.semAt_some

set_option maxRecDepth 10000 in
set_option maxHeartbeats 1600000 in
theorem peeled_any (w0 : World) : Calls Try.prog 23 #[] w0 fun e w' => e = .returned (.bool true) ∧ Below w0.heap.size w0 w' := by
  go_enter Try.func23, Try.ntmps23
  have HB := Lib.hid (Below.refl w0.heap.size w0)
  go_wp2_with fail
  refine (log_any _).mono ?_
  rintro e w1 ⟨p1, c1, q1, d1, rfl, hl, hcc, hb⟩
  have hsw1 := hb.size
  have HB := Lib.hid (HB.out.trans (hb.mono (by omega)))
  have HL := Lib.hid hl
  clear hl
  clear hb
  go_wp2_with fail
  refine (exColumn _ _ _ _ _ HL.out).mono ?_
  rintro e w2 ⟨rfl, hb⟩
  have hsw2 := hb.size
  have HB := Lib.hid (HB.out.trans (hb.mono (by omega)))
  clear hb
  go_wp2_with fail
  refine (log_any _).mono ?_
  rintro e w3 ⟨p3, c3, q3, d3, rfl, hl, hcc, hb⟩
  have hsw3 := hb.size
  have HB := Lib.hid (HB.out.trans (hb.mono (by omega)))
  have HL := Lib.hid hl
  clear hl
  clear hb
  go_wp2_with fail
  refine (exKnotty _ _ _ _ _ HL.out).mono ?_
  rintro e w4 ⟨rfl, hb⟩
  have hsw4 := hb.size
  have HB := Lib.hid (HB.out.trans (hb.mono (by omega)))
  clear hb
  go_wp2_with fail
  refine (log_any _).mono ?_
  rintro e w5 ⟨p5, c5, q5, d5, rfl, hl, hcc, hb⟩
  have hsw5 := hb.size
  have HB := Lib.hid (HB.out.trans (hb.mono (by omega)))
  have HL := Lib.hid hl
  clear hl
  clear hb
  have HL := Lib.hid (HL.out.below (below_alloc _ (.cells #[.int .i64 0, .int .i64 3, .int .i64 6, .int .i64 9] 3)))
  have HB := Lib.hid (HB.out.alloc (by omega) (.cells #[.int .i64 0, .int .i64 3, .int .i64 6, .int .i64 9] 3))
  have HI := Lib.hid (show IntsAt (w5.alloc (.cells #[.int .i64 0, .int .i64 3, .int .i64 6, .int .i64 9] 3)) (some ⟨w5.heap.size, 0, none⟩) [0, 3, 6, 9] from ints_row (Row.new w5 (intsA [0, 3, 6, 9]) 3))
  go_wp2_with fail
  refine (exWhole _ _ _ _ _ HL.out _ _ HI.out).mono ?_
  rintro e w6 ⟨rfl, hb⟩
  have hsw6 := hb.size
  simp at hsw6
  have HB := Lib.hid (HB.out.trans (hb.mono (by simp <;> omega)))
  clear hb
  go_wp2_with fail
  have RS := Lib.hid (Row.new w6 #[.int .i64 2, .int .i64 4] 39)
  have HB := Lib.hid (HB.out.alloc (by omega) (.cells #[.int .i64 2, .int .i64 4] 39))
  go_wp2_with fail
  refine (log_any _).mono ?_
  rintro e w7 ⟨p7, c7, q7, d7, rfl, hl, hcc, hb⟩
  have hsw7 := hb.size
  simp at hsw7
  have RS := Lib.hid (RS.out.below hb (by simp <;> omega))
  have HB := Lib.hid (HB.out.trans (hb.mono (by simp <;> omega)))
  have HL := Lib.hid hl
  clear hl
  clear hb
  go_wp2_with fail
  refine (exBest _ _ _ _ _ HL.out).mono ?_
  rintro e w8 ⟨pb, cb, rfl, hbi, hb⟩
  have hsw8 := hb.size
  have RS := Lib.hid (RS.out.below hb (by omega))
  have HB := Lib.hid (HB.out.trans (hb.mono (by omega)))
  have HBI := Lib.hid hbi
  clear hbi
  clear hb
  go_wp2_with fail
  have RS := Lib.hid (RS.out.drew)
  have HBI := Lib.hid (show IntsAt w8.drew pb [0, 3, 13, 22] from HBI.out)
  have HB := Lib.hid HB.out.drew
  refine region_draws rfl 33 rfl ?_
  refine anyX_one 0 (by kernel_rfl) _ rfl (by kernel_rfl) ?_
  intro K hK
  have HK := Lib.hid hK
  clear hK
  go_wp2
  refine HK.out _ _ ?_
  clear HK
  refine anyX_one 1 (by kernel_rfl) _ rfl (by kernel_rfl) ?_
  intro K hK
  have HK := Lib.hid hK
  clear hK
  go_wp2
  refine HK.out _ _ ?_
  clear HK
  refine anyX_one 2 (by kernel_rfl) _ rfl (by kernel_rfl) ?_
  intro K hK
  have HK := Lib.hid hK
  clear hK
  go_wp2
  refine HK.out _ _ ?_
  clear HK
  refine anyX_one 3 (by kernel_rfl) _ rfl (by kernel_rfl) ?_
  intro K hK
  have HK := Lib.hid hK
  clear hK
  go_wp2
  refine HK.out _ _ ?_
  clear HK
  refine anyX_one 4 (by kernel_rfl) _ rfl (by kernel_rfl) ?_
  intro K hK
  have HK := Lib.hid hK
  clear hK
  go_wp2
  refine HK.out _ _ ?_
  clear HK
  refine anyX_one 5 (by kernel_rfl) _ rfl (by kernel_rfl) ?_
  intro K hK
  have HK := Lib.hid hK
  clear hK
  go_wp2
  refine HK.out _ _ ?_
  clear HK
  refine anyX_one 6 (by kernel_rfl) _ rfl (by kernel_rfl) ?_
  intro K hK
  have HK := Lib.hid hK
  clear hK
  go_wp2
  refine HK.out _ _ ?_
  clear HK
  refine anyX_one 7 (by kernel_rfl) _ rfl (by kernel_rfl) ?_
  intro K hK
  have HK := Lib.hid hK
  clear hK
  go_wp2
  refine HK.out _ _ ?_
  clear HK
  refine anyX_one 8 (by kernel_rfl) _ rfl (by kernel_rfl) ?_
  intro K hK
  have HK := Lib.hid hK
  clear hK
  go_wp2
  refine HK.out _ _ ?_
  clear HK
  refine anyX_one 9 (by kernel_rfl) _ rfl (by kernel_rfl) ?_
  intro K hK
  have HK := Lib.hid hK
  clear hK
  go_wp2
  refine HK.out _ _ ?_
  clear HK
  refine anyX_one 10 (by kernel_rfl) _ rfl (by kernel_rfl) ?_
  intro K hK
  have HK := Lib.hid hK
  clear hK
  go_wp2
  refine HK.out _ _ ?_
  clear HK
  refine anyX_one 11 (by kernel_rfl) _ rfl (by kernel_rfl) ?_
  intro K hK
  have HK := Lib.hid hK
  clear hK
  go_wp2
  refine HK.out _ _ ?_
  clear HK
  refine anyX_one 12 (by kernel_rfl) _ rfl (by kernel_rfl) ?_
  intro K hK
  have HK := Lib.hid hK
  clear hK
  go_wp2
  refine HK.out _ _ ?_
  clear HK
  refine anyX_one 13 (by kernel_rfl) _ rfl (by kernel_rfl) ?_
  intro K hK
  have HK := Lib.hid hK
  clear hK
  go_wp2
  refine HK.out _ _ ?_
  clear HK
  refine anyX_one 14 (by kernel_rfl) _ rfl (by kernel_rfl) ?_
  intro K hK
  have HK := Lib.hid hK
  clear hK
  go_wp2
  refine HK.out _ _ ?_
  clear HK
  refine anyX_one 15 (by kernel_rfl) _ rfl (by kernel_rfl) ?_
  intro K hK
  have HK := Lib.hid hK
  clear hK
  go_wp2
  refine HK.out _ _ ?_
  clear HK
  refine anyX_one 16 (by kernel_rfl) _ rfl (by kernel_rfl) ?_
  intro K hK
  have HK := Lib.hid hK
  clear hK
  go_wp2
  refine HK.out _ _ ?_
  clear HK
  refine anyX_one 17 (by kernel_rfl) _ rfl (by kernel_rfl) ?_
  intro K hK
  have HK := Lib.hid hK
  clear hK
  go_wp2
  refine HK.out _ _ ?_
  clear HK
  refine anyX_one 18 (by kernel_rfl) _ rfl (by kernel_rfl) ?_
  intro K hK
  have HK := Lib.hid hK
  clear hK
  go_wp2
  refine HK.out _ _ ?_
  clear HK
  refine anyX_one 19 (by kernel_rfl) _ rfl (by kernel_rfl) ?_
  intro K hK
  have HK := Lib.hid hK
  clear hK
  go_wp2
  refine HK.out _ _ ?_
  clear HK
  refine anyX_one 20 (by kernel_rfl) _ rfl (by kernel_rfl) ?_
  intro K hK
  have HK := Lib.hid hK
  clear hK
  go_wp2
  refine HK.out _ _ ?_
  clear HK
  refine anyX_one 21 (by kernel_rfl) _ rfl (by kernel_rfl) ?_
  intro K hK
  have HK := Lib.hid hK
  clear hK
  go_wp2
  refine HK.out _ _ ?_
  clear HK
  refine anyX_one 22 (by kernel_rfl) _ rfl (by kernel_rfl) ?_
  intro K hK
  have HK := Lib.hid hK
  clear hK
  go_wp2
  refine HK.out _ _ ?_
  clear HK
  refine anyX_two 23 24 (by kernel_rfl) _ _ rfl rfl (by kernel_rfl) (by kernel_rfl) ?_ ?_
  · intro K hK
    have HK := Lib.hid hK
    clear hK
    refine wp_load_row 39 _ rfl _ rfl 39 _ (0, 0) _ RS.out Try.underlying39 rfl (by kernel_rfl) ?_
    refine HK.out _ _ ?_
    clear HK
    refine anyX_one 24 (by kernel_rfl) _ rfl (by kernel_rfl) ?_
    intro K hK
    have HK := Lib.hid hK
    clear hK
    go_wp2_with fail
    refine (Sp_any _ _ _).mono ?_
    rintro e u ⟨rfl, hbu⟩
    have RS := Lib.hid (RS.out.below hbu RS.out.lt)
    have HBI := Lib.hid (HBI.out.below hbu)
    have HB := Lib.hid (HB.out.trans (hbu.mono (by have := HB.out.size; exact this)))
    clear hbu
    refine HK.out _ _ ?_
    clear HK
    refine anyX_one 25 (by kernel_rfl) _ rfl (by kernel_rfl) ?_
    intro K hK
    have HK := Lib.hid hK
    clear hK
    go_wp2
    refine HK.out _ _ ?_
    clear HK
    refine anyX_one 26 (by kernel_rfl) _ rfl (by kernel_rfl) ?_
    intro K hK
    have HK := Lib.hid hK
    clear hK
    go_wp2
    refine HK.out _ _ ?_
    clear HK
    refine anyX_one 27 (by kernel_rfl) _ rfl (by kernel_rfl) ?_
    intro K hK
    have HK := Lib.hid hK
    clear hK
    go_wp2
    refine HK.out _ _ ?_
    clear HK
    refine anyX_two 28 29 (by kernel_rfl) _ _ rfl rfl (by kernel_rfl) (by kernel_rfl) ?_ ?_
    · intro K hK
      have HK := Lib.hid hK
      clear hK
      go_wp2
      refine HK.out _ _ ?_
      clear HK
      refine anyX_one 29 (by kernel_rfl) _ rfl (by kernel_rfl) ?_
      intro K hK
      have HK := Lib.hid hK
      clear hK
      go_wp2
      have HX := Lib.hid (ints_row (Row.new u (intsA [0, 3, 13, 22]) 3))
      have HBI := Lib.hid (HBI.out.below (below_alloc u (.cells (intsA [0, 3, 13, 22]) 3)))
      have HB := Lib.hid (HB.out.alloc HB.out.size (.cells (intsA [0, 3, 13, 22]) 3))
      refine HK.out _ _ ?_
      clear HK
      refine anyX_one 30 (by kernel_rfl) _ rfl (by kernel_rfl) ?_
      intro K hK
      have HK := Lib.hid hK
      clear hK
      have hal := Alike_any pb (some ⟨u.heap.size, 0, none⟩) cb 4 [0, 3, 13, 22] [0, 3, 13, 22] _ (by decide) HBI.out HX.out
      rw [show decide (([0, 3, 13, 22] : List Int) = [0, 3, 13, 22]) = true by decide] at hal
      have HAL := Lib.hid hal
      clear hal
      go_wp2_with fail
      refine HAL.out.mono ?_
      rintro e z ⟨rfl, hbz⟩
      have HB := Lib.hid (HB.out.trans (hbz.mono (by have := HB.out.size; exact this)))
      clear hbz HAL HX HBI RS
      refine HK.out _ _ ?_
      clear HK
      refine anyX_one 31 (by kernel_rfl) _ rfl (by kernel_rfl) ?_
      intro K hK
      have HK := Lib.hid hK
      clear hK
      go_wp2
      refine HK.out _ _ ?_
      clear HK
      refine anyX_one 32 (by kernel_rfl) _ rfl (by kernel_rfl) ?_
      intro K hK
      have HK := Lib.hid hK
      clear hK
      go_wp2
      refine HK.out _ _ ?_
      clear HK
      refine ⟨by kernel_rfl, ?_⟩
      have hv := HB.out.size
      go_wp2_with fail
      refine (log_any _).mono ?_
      rintro e w9 ⟨p9, c9, q9, d9, rfl, hl, hcc, hb⟩
      have hsw9 := hb.size
      have HB := Lib.hid (HB.out.trans (hb.mono (by omega)))
      have HL := Lib.hid hl
      clear hl
      clear hb
      go_wp2_with fail
      refine (exWaste _ _ _ _ _ HL.out).mono ?_
      rintro e w10 ⟨rfl, hb⟩
      have hsw10 := hb.size
      have HB := Lib.hid (HB.out.trans (hb.mono (by omega)))
      clear hb
      go_wp2_with fail
      refine (log_any _).mono ?_
      rintro e w11 ⟨p11, c11, q11, d11, rfl, hl, hcc, hb⟩
      have hsw11 := hb.size
      have HB := Lib.hid (HB.out.trans (hb.mono (by omega)))
      have HL := Lib.hid hl
      clear hl
      clear hb
      go_wp2_with fail
      refine (exHope _ _ _ _ _ HL.out).mono ?_
      rintro e w12 ⟨rfl, hb⟩
      have hsw12 := hb.size
      have HB := Lib.hid (HB.out.trans (hb.mono (by omega)))
      clear hb
      go_wp2_with fail
      refine (log_any _).mono ?_
      rintro e w13 ⟨p13, c13, q13, d13, rfl, hl, hcc, hb⟩
      have hsw13 := hb.size
      have HB := Lib.hid (HB.out.trans (hb.mono (by omega)))
      have HL := Lib.hid hl
      clear hl
      clear hb
      have HL := Lib.hid (HL.out.below (below_alloc _ (.cells #[.int .i64 0, .int .i64 3, .int .i64 6, .int .i64 9] 3)))
      have HB := Lib.hid (HB.out.alloc (by omega) (.cells #[.int .i64 0, .int .i64 3, .int .i64 6, .int .i64 9] 3))
      have HI := Lib.hid (show IntsAt (w13.alloc (.cells #[.int .i64 0, .int .i64 3, .int .i64 6, .int .i64 9] 3)) (some ⟨w13.heap.size, 0, none⟩) [0, 3, 6, 9] from ints_row (Row.new w13 (intsA [0, 3, 6, 9]) 3))
      go_wp2_with fail
      refine (exSure _ _ _ _ _ HL.out _ _ HI.out).mono ?_
      rintro e w14 ⟨rfl, hb⟩
      have hsw14 := hb.size
      simp at hsw14
      have HB := Lib.hid (HB.out.trans (hb.mono (by simp <;> omega)))
      clear hb
      go_wp2_with fail
      refine (log_any _).mono ?_
      rintro e w15 ⟨p15, c15, q15, d15, rfl, hl, hcc, hb⟩
      have hsw15 := hb.size
      have HB := Lib.hid (HB.out.trans (hb.mono (by omega)))
      have HL := Lib.hid hl
      clear hl
      clear hb
      go_wp2_with fail
      refine (exAsk _ _ _ _ _ HL.out hcc).mono ?_
      rintro e w16 ⟨rfl, hb⟩
      have hsw16 := hb.size
      have HB := Lib.hid (HB.out.trans (hb.mono (by omega)))
      clear hb
      go_wp2_with fail
      refine (log_any _).mono ?_
      rintro e w17 ⟨p17, c17, q17, d17, rfl, hl, hcc, hb⟩
      have hsw17 := hb.size
      have HB := Lib.hid (HB.out.trans (hb.mono (by omega)))
      have HL := Lib.hid hl
      clear hl
      clear hb
      have HL := Lib.hid (HL.out.below (below_alloc _ (.cells #[.int .i64 24] 3)))
      have HB := Lib.hid (HB.out.alloc (by omega) (.cells #[.int .i64 24] 3))
      have HI := Lib.hid (show IntsAt (w17.alloc (.cells #[.int .i64 24] 3)) (some ⟨w17.heap.size, 0, none⟩) [24] from ints_row (Row.new w17 (intsA [24]) 3))
      go_wp2_with fail
      refine (exIsCut _ _ _ _ _ HL.out _ _ HI.out).mono ?_
      rintro e w18 ⟨rfl, hb⟩
      have hsw18 := hb.size
      simp at hsw18
      have HB := Lib.hid (HB.out.trans (hb.mono (by simp <;> omega)))
      clear hb
      go_wp2_with fail
      refine (log_any _).mono ?_
      rintro e w19 ⟨p19, c19, q19, d19, rfl, hl, hcc, hb⟩
      have hsw19 := hb.size
      have HB := Lib.hid (HB.out.trans (hb.mono (by omega)))
      have HL := Lib.hid hl
      clear hl
      clear hb
      go_wp2_with fail
      refine (exRibbon _ _ _ _ _ HL.out).mono ?_
      rintro e w20 ⟨rfl, hb⟩
      have hsw20 := hb.size
      have HB := Lib.hid (HB.out.trans (hb.mono (by omega)))
      clear hb
      go_wp2
      go_ret
      exact ⟨rfl, HB.out⟩
    · intro K hK
      have HK := Lib.hid hK
      clear hK
      go_wp2
      have HX := Lib.hid (ints_row (Row.new u (intsA [0, 3, 13, 22]) 3))
      have HBI := Lib.hid (HBI.out.below (below_alloc u (.cells (intsA [0, 3, 13, 22]) 3)))
      have HB := Lib.hid (HB.out.alloc HB.out.size (.cells (intsA [0, 3, 13, 22]) 3))
      refine HK.out _ _ ?_
      clear HK
      refine anyX_one 28 (by kernel_rfl) _ rfl (by kernel_rfl) ?_
      intro K hK
      have HK := Lib.hid hK
      clear hK
      go_wp2
      refine HK.out _ _ ?_
      clear HK
      refine anyX_one 30 (by kernel_rfl) _ rfl (by kernel_rfl) ?_
      intro K hK
      have HK := Lib.hid hK
      clear hK
      have hal := Alike_any pb (some ⟨u.heap.size, 0, none⟩) cb 4 [0, 3, 13, 22] [0, 3, 13, 22] _ (by decide) HBI.out HX.out
      rw [show decide (([0, 3, 13, 22] : List Int) = [0, 3, 13, 22]) = true by decide] at hal
      have HAL := Lib.hid hal
      clear hal
      go_wp2_with fail
      refine HAL.out.mono ?_
      rintro e z ⟨rfl, hbz⟩
      have HB := Lib.hid (HB.out.trans (hbz.mono (by have := HB.out.size; exact this)))
      clear hbz HAL HX HBI RS
      refine HK.out _ _ ?_
      clear HK
      refine anyX_one 31 (by kernel_rfl) _ rfl (by kernel_rfl) ?_
      intro K hK
      have HK := Lib.hid hK
      clear hK
      go_wp2
      refine HK.out _ _ ?_
      clear HK
      refine anyX_one 32 (by kernel_rfl) _ rfl (by kernel_rfl) ?_
      intro K hK
      have HK := Lib.hid hK
      clear hK
      go_wp2
      refine HK.out _ _ ?_
      clear HK
      refine ⟨by kernel_rfl, ?_⟩
      have hv := HB.out.size
      go_wp2_with fail
      refine (log_any _).mono ?_
      rintro e w21 ⟨p21, c21, q21, d21, rfl, hl, hcc, hb⟩
      have hsw21 := hb.size
      have HB := Lib.hid (HB.out.trans (hb.mono (by omega)))
      have HL := Lib.hid hl
      clear hl
      clear hb
      go_wp2_with fail
      refine (exWaste _ _ _ _ _ HL.out).mono ?_
      rintro e w22 ⟨rfl, hb⟩
      have hsw22 := hb.size
      have HB := Lib.hid (HB.out.trans (hb.mono (by omega)))
      clear hb
      go_wp2_with fail
      refine (log_any _).mono ?_
      rintro e w23 ⟨p23, c23, q23, d23, rfl, hl, hcc, hb⟩
      have hsw23 := hb.size
      have HB := Lib.hid (HB.out.trans (hb.mono (by omega)))
      have HL := Lib.hid hl
      clear hl
      clear hb
      go_wp2_with fail
      refine (exHope _ _ _ _ _ HL.out).mono ?_
      rintro e w24 ⟨rfl, hb⟩
      have hsw24 := hb.size
      have HB := Lib.hid (HB.out.trans (hb.mono (by omega)))
      clear hb
      go_wp2_with fail
      refine (log_any _).mono ?_
      rintro e w25 ⟨p25, c25, q25, d25, rfl, hl, hcc, hb⟩
      have hsw25 := hb.size
      have HB := Lib.hid (HB.out.trans (hb.mono (by omega)))
      have HL := Lib.hid hl
      clear hl
      clear hb
      have HL := Lib.hid (HL.out.below (below_alloc _ (.cells #[.int .i64 0, .int .i64 3, .int .i64 6, .int .i64 9] 3)))
      have HB := Lib.hid (HB.out.alloc (by omega) (.cells #[.int .i64 0, .int .i64 3, .int .i64 6, .int .i64 9] 3))
      have HI := Lib.hid (show IntsAt (w25.alloc (.cells #[.int .i64 0, .int .i64 3, .int .i64 6, .int .i64 9] 3)) (some ⟨w25.heap.size, 0, none⟩) [0, 3, 6, 9] from ints_row (Row.new w25 (intsA [0, 3, 6, 9]) 3))
      go_wp2_with fail
      refine (exSure _ _ _ _ _ HL.out _ _ HI.out).mono ?_
      rintro e w26 ⟨rfl, hb⟩
      have hsw26 := hb.size
      simp at hsw26
      have HB := Lib.hid (HB.out.trans (hb.mono (by simp <;> omega)))
      clear hb
      go_wp2_with fail
      refine (log_any _).mono ?_
      rintro e w27 ⟨p27, c27, q27, d27, rfl, hl, hcc, hb⟩
      have hsw27 := hb.size
      have HB := Lib.hid (HB.out.trans (hb.mono (by omega)))
      have HL := Lib.hid hl
      clear hl
      clear hb
      go_wp2_with fail
      refine (exAsk _ _ _ _ _ HL.out hcc).mono ?_
      rintro e w28 ⟨rfl, hb⟩
      have hsw28 := hb.size
      have HB := Lib.hid (HB.out.trans (hb.mono (by omega)))
      clear hb
      go_wp2_with fail
      refine (log_any _).mono ?_
      rintro e w29 ⟨p29, c29, q29, d29, rfl, hl, hcc, hb⟩
      have hsw29 := hb.size
      have HB := Lib.hid (HB.out.trans (hb.mono (by omega)))
      have HL := Lib.hid hl
      clear hl
      clear hb
      have HL := Lib.hid (HL.out.below (below_alloc _ (.cells #[.int .i64 24] 3)))
      have HB := Lib.hid (HB.out.alloc (by omega) (.cells #[.int .i64 24] 3))
      have HI := Lib.hid (show IntsAt (w29.alloc (.cells #[.int .i64 24] 3)) (some ⟨w29.heap.size, 0, none⟩) [24] from ints_row (Row.new w29 (intsA [24]) 3))
      go_wp2_with fail
      refine (exIsCut _ _ _ _ _ HL.out _ _ HI.out).mono ?_
      rintro e w30 ⟨rfl, hb⟩
      have hsw30 := hb.size
      simp at hsw30
      have HB := Lib.hid (HB.out.trans (hb.mono (by simp <;> omega)))
      clear hb
      go_wp2_with fail
      refine (log_any _).mono ?_
      rintro e w31 ⟨p31, c31, q31, d31, rfl, hl, hcc, hb⟩
      have hsw31 := hb.size
      have HB := Lib.hid (HB.out.trans (hb.mono (by omega)))
      have HL := Lib.hid hl
      clear hl
      clear hb
      go_wp2_with fail
      refine (exRibbon _ _ _ _ _ HL.out).mono ?_
      rintro e w32 ⟨rfl, hb⟩
      have hsw32 := hb.size
      have HB := Lib.hid (HB.out.trans (hb.mono (by omega)))
      clear hb
      go_wp2
      go_ret
      exact ⟨rfl, HB.out⟩
  · intro K hK
    have HK := Lib.hid hK
    clear hK
    go_wp2_with fail
    refine (Sp_any _ _ _).mono ?_
    rintro e u ⟨rfl, hbu⟩
    have RS := Lib.hid (RS.out.below hbu RS.out.lt)
    have HBI := Lib.hid (HBI.out.below hbu)
    have HB := Lib.hid (HB.out.trans (hbu.mono (by have := HB.out.size; exact this)))
    clear hbu
    refine HK.out _ _ ?_
    clear HK
    refine anyX_one 23 (by kernel_rfl) _ rfl (by kernel_rfl) ?_
    intro K hK
    have HK := Lib.hid hK
    clear hK
    refine wp_load_row 39 _ rfl _ rfl 39 _ (0, 0) _ RS.out Try.underlying39 rfl (by kernel_rfl) ?_
    refine HK.out _ _ ?_
    clear HK
    refine anyX_one 25 (by kernel_rfl) _ rfl (by kernel_rfl) ?_
    intro K hK
    have HK := Lib.hid hK
    clear hK
    go_wp2
    refine HK.out _ _ ?_
    clear HK
    refine anyX_one 26 (by kernel_rfl) _ rfl (by kernel_rfl) ?_
    intro K hK
    have HK := Lib.hid hK
    clear hK
    go_wp2
    refine HK.out _ _ ?_
    clear HK
    refine anyX_one 27 (by kernel_rfl) _ rfl (by kernel_rfl) ?_
    intro K hK
    have HK := Lib.hid hK
    clear hK
    go_wp2
    refine HK.out _ _ ?_
    clear HK
    refine anyX_two 28 29 (by kernel_rfl) _ _ rfl rfl (by kernel_rfl) (by kernel_rfl) ?_ ?_
    · intro K hK
      have HK := Lib.hid hK
      clear hK
      go_wp2
      refine HK.out _ _ ?_
      clear HK
      refine anyX_one 29 (by kernel_rfl) _ rfl (by kernel_rfl) ?_
      intro K hK
      have HK := Lib.hid hK
      clear hK
      go_wp2
      have HX := Lib.hid (ints_row (Row.new u (intsA [0, 3, 13, 22]) 3))
      have HBI := Lib.hid (HBI.out.below (below_alloc u (.cells (intsA [0, 3, 13, 22]) 3)))
      have HB := Lib.hid (HB.out.alloc HB.out.size (.cells (intsA [0, 3, 13, 22]) 3))
      refine HK.out _ _ ?_
      clear HK
      refine anyX_one 30 (by kernel_rfl) _ rfl (by kernel_rfl) ?_
      intro K hK
      have HK := Lib.hid hK
      clear hK
      have hal := Alike_any pb (some ⟨u.heap.size, 0, none⟩) cb 4 [0, 3, 13, 22] [0, 3, 13, 22] _ (by decide) HBI.out HX.out
      rw [show decide (([0, 3, 13, 22] : List Int) = [0, 3, 13, 22]) = true by decide] at hal
      have HAL := Lib.hid hal
      clear hal
      go_wp2_with fail
      refine HAL.out.mono ?_
      rintro e z ⟨rfl, hbz⟩
      have HB := Lib.hid (HB.out.trans (hbz.mono (by have := HB.out.size; exact this)))
      clear hbz HAL HX HBI RS
      refine HK.out _ _ ?_
      clear HK
      refine anyX_one 31 (by kernel_rfl) _ rfl (by kernel_rfl) ?_
      intro K hK
      have HK := Lib.hid hK
      clear hK
      go_wp2
      refine HK.out _ _ ?_
      clear HK
      refine anyX_one 32 (by kernel_rfl) _ rfl (by kernel_rfl) ?_
      intro K hK
      have HK := Lib.hid hK
      clear hK
      go_wp2
      refine HK.out _ _ ?_
      clear HK
      refine ⟨by kernel_rfl, ?_⟩
      have hv := HB.out.size
      go_wp2_with fail
      refine (log_any _).mono ?_
      rintro e w33 ⟨p33, c33, q33, d33, rfl, hl, hcc, hb⟩
      have hsw33 := hb.size
      have HB := Lib.hid (HB.out.trans (hb.mono (by omega)))
      have HL := Lib.hid hl
      clear hl
      clear hb
      go_wp2_with fail
      refine (exWaste _ _ _ _ _ HL.out).mono ?_
      rintro e w34 ⟨rfl, hb⟩
      have hsw34 := hb.size
      have HB := Lib.hid (HB.out.trans (hb.mono (by omega)))
      clear hb
      go_wp2_with fail
      refine (log_any _).mono ?_
      rintro e w35 ⟨p35, c35, q35, d35, rfl, hl, hcc, hb⟩
      have hsw35 := hb.size
      have HB := Lib.hid (HB.out.trans (hb.mono (by omega)))
      have HL := Lib.hid hl
      clear hl
      clear hb
      go_wp2_with fail
      refine (exHope _ _ _ _ _ HL.out).mono ?_
      rintro e w36 ⟨rfl, hb⟩
      have hsw36 := hb.size
      have HB := Lib.hid (HB.out.trans (hb.mono (by omega)))
      clear hb
      go_wp2_with fail
      refine (log_any _).mono ?_
      rintro e w37 ⟨p37, c37, q37, d37, rfl, hl, hcc, hb⟩
      have hsw37 := hb.size
      have HB := Lib.hid (HB.out.trans (hb.mono (by omega)))
      have HL := Lib.hid hl
      clear hl
      clear hb
      have HL := Lib.hid (HL.out.below (below_alloc _ (.cells #[.int .i64 0, .int .i64 3, .int .i64 6, .int .i64 9] 3)))
      have HB := Lib.hid (HB.out.alloc (by omega) (.cells #[.int .i64 0, .int .i64 3, .int .i64 6, .int .i64 9] 3))
      have HI := Lib.hid (show IntsAt (w37.alloc (.cells #[.int .i64 0, .int .i64 3, .int .i64 6, .int .i64 9] 3)) (some ⟨w37.heap.size, 0, none⟩) [0, 3, 6, 9] from ints_row (Row.new w37 (intsA [0, 3, 6, 9]) 3))
      go_wp2_with fail
      refine (exSure _ _ _ _ _ HL.out _ _ HI.out).mono ?_
      rintro e w38 ⟨rfl, hb⟩
      have hsw38 := hb.size
      simp at hsw38
      have HB := Lib.hid (HB.out.trans (hb.mono (by simp <;> omega)))
      clear hb
      go_wp2_with fail
      refine (log_any _).mono ?_
      rintro e w39 ⟨p39, c39, q39, d39, rfl, hl, hcc, hb⟩
      have hsw39 := hb.size
      have HB := Lib.hid (HB.out.trans (hb.mono (by omega)))
      have HL := Lib.hid hl
      clear hl
      clear hb
      go_wp2_with fail
      refine (exAsk _ _ _ _ _ HL.out hcc).mono ?_
      rintro e w40 ⟨rfl, hb⟩
      have hsw40 := hb.size
      have HB := Lib.hid (HB.out.trans (hb.mono (by omega)))
      clear hb
      go_wp2_with fail
      refine (log_any _).mono ?_
      rintro e w41 ⟨p41, c41, q41, d41, rfl, hl, hcc, hb⟩
      have hsw41 := hb.size
      have HB := Lib.hid (HB.out.trans (hb.mono (by omega)))
      have HL := Lib.hid hl
      clear hl
      clear hb
      have HL := Lib.hid (HL.out.below (below_alloc _ (.cells #[.int .i64 24] 3)))
      have HB := Lib.hid (HB.out.alloc (by omega) (.cells #[.int .i64 24] 3))
      have HI := Lib.hid (show IntsAt (w41.alloc (.cells #[.int .i64 24] 3)) (some ⟨w41.heap.size, 0, none⟩) [24] from ints_row (Row.new w41 (intsA [24]) 3))
      go_wp2_with fail
      refine (exIsCut _ _ _ _ _ HL.out _ _ HI.out).mono ?_
      rintro e w42 ⟨rfl, hb⟩
      have hsw42 := hb.size
      simp at hsw42
      have HB := Lib.hid (HB.out.trans (hb.mono (by simp <;> omega)))
      clear hb
      go_wp2_with fail
      refine (log_any _).mono ?_
      rintro e w43 ⟨p43, c43, q43, d43, rfl, hl, hcc, hb⟩
      have hsw43 := hb.size
      have HB := Lib.hid (HB.out.trans (hb.mono (by omega)))
      have HL := Lib.hid hl
      clear hl
      clear hb
      go_wp2_with fail
      refine (exRibbon _ _ _ _ _ HL.out).mono ?_
      rintro e w44 ⟨rfl, hb⟩
      have hsw44 := hb.size
      have HB := Lib.hid (HB.out.trans (hb.mono (by omega)))
      clear hb
      go_wp2
      go_ret
      exact ⟨rfl, HB.out⟩
    · intro K hK
      have HK := Lib.hid hK
      clear hK
      go_wp2
      have HX := Lib.hid (ints_row (Row.new u (intsA [0, 3, 13, 22]) 3))
      have HBI := Lib.hid (HBI.out.below (below_alloc u (.cells (intsA [0, 3, 13, 22]) 3)))
      have HB := Lib.hid (HB.out.alloc HB.out.size (.cells (intsA [0, 3, 13, 22]) 3))
      refine HK.out _ _ ?_
      clear HK
      refine anyX_one 28 (by kernel_rfl) _ rfl (by kernel_rfl) ?_
      intro K hK
      have HK := Lib.hid hK
      clear hK
      go_wp2
      refine HK.out _ _ ?_
      clear HK
      refine anyX_one 30 (by kernel_rfl) _ rfl (by kernel_rfl) ?_
      intro K hK
      have HK := Lib.hid hK
      clear hK
      have hal := Alike_any pb (some ⟨u.heap.size, 0, none⟩) cb 4 [0, 3, 13, 22] [0, 3, 13, 22] _ (by decide) HBI.out HX.out
      rw [show decide (([0, 3, 13, 22] : List Int) = [0, 3, 13, 22]) = true by decide] at hal
      have HAL := Lib.hid hal
      clear hal
      go_wp2_with fail
      refine HAL.out.mono ?_
      rintro e z ⟨rfl, hbz⟩
      have HB := Lib.hid (HB.out.trans (hbz.mono (by have := HB.out.size; exact this)))
      clear hbz HAL HX HBI RS
      refine HK.out _ _ ?_
      clear HK
      refine anyX_one 31 (by kernel_rfl) _ rfl (by kernel_rfl) ?_
      intro K hK
      have HK := Lib.hid hK
      clear hK
      go_wp2
      refine HK.out _ _ ?_
      clear HK
      refine anyX_one 32 (by kernel_rfl) _ rfl (by kernel_rfl) ?_
      intro K hK
      have HK := Lib.hid hK
      clear hK
      go_wp2
      refine HK.out _ _ ?_
      clear HK
      refine ⟨by kernel_rfl, ?_⟩
      have hv := HB.out.size
      go_wp2_with fail
      refine (log_any _).mono ?_
      rintro e w45 ⟨p45, c45, q45, d45, rfl, hl, hcc, hb⟩
      have hsw45 := hb.size
      have HB := Lib.hid (HB.out.trans (hb.mono (by omega)))
      have HL := Lib.hid hl
      clear hl
      clear hb
      go_wp2_with fail
      refine (exWaste _ _ _ _ _ HL.out).mono ?_
      rintro e w46 ⟨rfl, hb⟩
      have hsw46 := hb.size
      have HB := Lib.hid (HB.out.trans (hb.mono (by omega)))
      clear hb
      go_wp2_with fail
      refine (log_any _).mono ?_
      rintro e w47 ⟨p47, c47, q47, d47, rfl, hl, hcc, hb⟩
      have hsw47 := hb.size
      have HB := Lib.hid (HB.out.trans (hb.mono (by omega)))
      have HL := Lib.hid hl
      clear hl
      clear hb
      go_wp2_with fail
      refine (exHope _ _ _ _ _ HL.out).mono ?_
      rintro e w48 ⟨rfl, hb⟩
      have hsw48 := hb.size
      have HB := Lib.hid (HB.out.trans (hb.mono (by omega)))
      clear hb
      go_wp2_with fail
      refine (log_any _).mono ?_
      rintro e w49 ⟨p49, c49, q49, d49, rfl, hl, hcc, hb⟩
      have hsw49 := hb.size
      have HB := Lib.hid (HB.out.trans (hb.mono (by omega)))
      have HL := Lib.hid hl
      clear hl
      clear hb
      have HL := Lib.hid (HL.out.below (below_alloc _ (.cells #[.int .i64 0, .int .i64 3, .int .i64 6, .int .i64 9] 3)))
      have HB := Lib.hid (HB.out.alloc (by omega) (.cells #[.int .i64 0, .int .i64 3, .int .i64 6, .int .i64 9] 3))
      have HI := Lib.hid (show IntsAt (w49.alloc (.cells #[.int .i64 0, .int .i64 3, .int .i64 6, .int .i64 9] 3)) (some ⟨w49.heap.size, 0, none⟩) [0, 3, 6, 9] from ints_row (Row.new w49 (intsA [0, 3, 6, 9]) 3))
      go_wp2_with fail
      refine (exSure _ _ _ _ _ HL.out _ _ HI.out).mono ?_
      rintro e w50 ⟨rfl, hb⟩
      have hsw50 := hb.size
      simp at hsw50
      have HB := Lib.hid (HB.out.trans (hb.mono (by simp <;> omega)))
      clear hb
      go_wp2_with fail
      refine (log_any _).mono ?_
      rintro e w51 ⟨p51, c51, q51, d51, rfl, hl, hcc, hb⟩
      have hsw51 := hb.size
      have HB := Lib.hid (HB.out.trans (hb.mono (by omega)))
      have HL := Lib.hid hl
      clear hl
      clear hb
      go_wp2_with fail
      refine (exAsk _ _ _ _ _ HL.out hcc).mono ?_
      rintro e w52 ⟨rfl, hb⟩
      have hsw52 := hb.size
      have HB := Lib.hid (HB.out.trans (hb.mono (by omega)))
      clear hb
      go_wp2_with fail
      refine (log_any _).mono ?_
      rintro e w53 ⟨p53, c53, q53, d53, rfl, hl, hcc, hb⟩
      have hsw53 := hb.size
      have HB := Lib.hid (HB.out.trans (hb.mono (by omega)))
      have HL := Lib.hid hl
      clear hl
      clear hb
      have HL := Lib.hid (HL.out.below (below_alloc _ (.cells #[.int .i64 24] 3)))
      have HB := Lib.hid (HB.out.alloc (by omega) (.cells #[.int .i64 24] 3))
      have HI := Lib.hid (show IntsAt (w53.alloc (.cells #[.int .i64 24] 3)) (some ⟨w53.heap.size, 0, none⟩) [24] from ints_row (Row.new w53 (intsA [24]) 3))
      go_wp2_with fail
      refine (exIsCut _ _ _ _ _ HL.out _ _ HI.out).mono ?_
      rintro e w54 ⟨rfl, hb⟩
      have hsw54 := hb.size
      simp at hsw54
      have HB := Lib.hid (HB.out.trans (hb.mono (by simp <;> omega)))
      clear hb
      go_wp2_with fail
      refine (log_any _).mono ?_
      rintro e w55 ⟨p55, c55, q55, d55, rfl, hl, hcc, hb⟩
      have hsw55 := hb.size
      have HB := Lib.hid (HB.out.trans (hb.mono (by omega)))
      have HL := Lib.hid hl
      clear hl
      clear hb
      go_wp2_with fail
      refine (exRibbon _ _ _ _ _ HL.out).mono ?_
      rintro e w56 ⟨rfl, hb⟩
      have hsw56 := hb.size
      have HB := Lib.hid (HB.out.trans (hb.mono (by omega)))
      clear hb
      go_wp2
      go_ret
      exact ⟨rfl, HB.out⟩

end Go.Proofs.Ytnnlbbmimdohoaa
