/- The law's own helper of layer 5: the chapter's examples. -/
import Derived.Test.YtgdidhbomdfcpaaF35
namespace Go.Proofs.Ytgdidhbomdfcpaa
open Go.RowKit Go.Maps
attribute [local go_sem] Oper.semAt_some

theorem ints_new (w : World) (l : List Int) (t : TypeId) : IntsAt (w.alloc (.cells (intsA l) t)) (some ⟨w.heap.size, 0, none⟩) l := ints_row (Row.new w (intsA l) t)
theorem new13 (w : World) (t : TypeId) : IntsAt (w.alloc (.cells #[.int .i64 1, .int .i64 3] t)) (some ⟨w.heap.size, 0, none⟩) [1, 3] := ints_new w [1, 3] t
theorem new4 (w : World) (t : TypeId) : IntsAt (w.alloc (.cells #[.int .i64 2, .int .i64 5, .int .i64 6, .int .i64 7] t)) (some ⟨w.heap.size, 0, none⟩) [2, 5, 6, 7] := ints_new w [2, 5, 6, 7] t
theorem al13 (p q : Option Addr) (c d : Nat) (w : World) (hc : IntsAt w p [1, 3]) (hd : IntsAt w q [1, 3]) : Calls Try.prog 28 #[.slice p 2 c, .slice q 2 d] w fun e w' => e = .returned (.bool true) ∧ Below w.heap.size w w' := by
  have h := Alike_any p q c d [1, 3] [1, 3] w (by decide) hc hd
  rw [show decide (([1, 3] : List Int) = [1, 3]) = true by decide] at h
  exact h
theorem al4 (p q : Option Addr) (c d : Nat) (w : World) (hc : IntsAt w p [2, 5, 6, 7]) (hd : IntsAt w q [2, 5, 6, 7]) : Calls Try.prog 28 #[.slice p 4 c, .slice q 4 d] w fun e w' => e = .returned (.bool true) ∧ Below w.heap.size w w' := by
  have h := Alike_any p q c d [2, 5, 6, 7] [2, 5, 6, 7] w (by decide) hc hd
  rw [show decide (([2, 5, 6, 7] : List Int) = [2, 5, 6, 7]) = true by decide] at h
  exact h
set_option maxRecDepth 100000 in
set_option maxHeartbeats 3200000 in
theorem filled_any (w : World) : Calls Try.prog 23 #[] w fun e w' => e = .returned (.bool true) ∧ Below w.heap.size w w' := by
  go_enter Try.func23, Try.ntmps23
  have HB := Lib.hid (Below.refl w.heap.size w)
  go_wp2_with fail
  refine (book_any _).mono ?_
  rintro e w1 ⟨p1, c1, rfl, hk, hb⟩
  have HB := Lib.hid (HB.out.trans (hb.mono HB.out.size))
  have HK := Lib.hid hk
  clear hb hk
  go_wp2_with fail
  refine (exSum _ _ _ HK.out).mono ?_
  rintro e w2 ⟨rfl, hb⟩
  have HB := Lib.hid (HB.out.trans (hb.mono HB.out.size))
  have HK := Lib.hid (HK.out.below hb)
  clear hb
  have hb := below_alloc w2 (.cells #[.int .i64 47, .int .i64 53] 27)
  have HB := Lib.hid (HB.out.trans (hb.mono HB.out.size))
  have RS := Lib.hid (Row.new w2 #[.int .i64 47, .int .i64 53] 27)
  clear hb
  go_wp2_with fail
  refine (book_any _).mono ?_
  rintro e w3 ⟨p3, c3, rfl, hk, hb⟩
  have HB := Lib.hid (HB.out.trans (hb.mono HB.out.size))
  have RS := Lib.hid (RS.out.below hb RS.out.lt)
  have HK := Lib.hid hk
  clear hb hk
  go_wp2_with fail
  refine (exKind _ _ _ HK.out).mono ?_
  rintro e w4 ⟨rfl, hb⟩
  have HB := Lib.hid (HB.out.trans (hb.mono HB.out.size))
  have RS := Lib.hid (RS.out.below hb RS.out.lt)
  have HK := Lib.hid (HK.out.below hb)
  clear hb
  go_wp2_with fail
  refine (even_any _).mono ?_
  rintro e w5 ⟨p5, c5, rfl, hk, hb⟩
  have HB := Lib.hid (HB.out.trans (hb.mono HB.out.size))
  have RS := Lib.hid (RS.out.below hb RS.out.lt)
  have HK := Lib.hid hk
  clear hb hk
  go_wp2_with fail
  refine (exAny _ _ _ HK.out).mono ?_
  rintro e w6 ⟨rfl, hb⟩
  have HB := Lib.hid (HB.out.trans (hb.mono HB.out.size))
  have RS := Lib.hid (RS.out.below hb RS.out.lt)
  have HK := Lib.hid (HK.out.below hb)
  clear hb
  go_wp2_with fail
  refine (book_any _).mono ?_
  rintro e w7 ⟨p7, c7, rfl, hk, hb⟩
  have HB := Lib.hid (HB.out.trans (hb.mono HB.out.size))
  have RS := Lib.hid (RS.out.below hb RS.out.lt)
  have HK := Lib.hid hk
  clear hb hk
  have hb := below_alloc w7 (.cells #[.int .i64 2, .int .i64 5, .int .i64 6, .int .i64 7] 3)
  have HB := Lib.hid (HB.out.trans (hb.mono HB.out.size))
  have RS := Lib.hid (RS.out.below hb RS.out.lt)
  have HK := Lib.hid (HK.out.below hb)
  have HL := Lib.hid (new4 w7 3)
  clear hb
  go_wp2_with fail
  refine (exByHand _ _ _ _ HK.out HL.out).mono ?_
  rintro e w8 ⟨ph, ch, rfl, hi, hb⟩
  have HB := Lib.hid (HB.out.trans (hb.mono HB.out.size))
  have RS := Lib.hid (RS.out.below hb RS.out.lt)
  have HK := Lib.hid (HK.out.below hb)
  have HL := Lib.hid (HL.out.below hb)
  have HH := Lib.hid hi
  clear hb hi
  go_wp2_with fail
  refine (book_any _).mono ?_
  rintro e w9 ⟨p9, c9, rfl, hk, hb⟩
  have HB := Lib.hid (HB.out.trans (hb.mono HB.out.size))
  have RS := Lib.hid (RS.out.below hb RS.out.lt)
  have HH := Lib.hid (HH.out.below hb)
  have HK := Lib.hid hk
  clear hb hk
  have hb := below_alloc w9 (.cells #[.int .i64 2, .int .i64 5, .int .i64 6, .int .i64 7] 3)
  have HB := Lib.hid (HB.out.trans (hb.mono HB.out.size))
  have RS := Lib.hid (RS.out.below hb RS.out.lt)
  have HH := Lib.hid (HH.out.below hb)
  have HK := Lib.hid (HK.out.below hb)
  have HL := Lib.hid (new4 w9 3)
  clear hb
  go_wp2_with fail
  refine (exOver _ _ _ _ HK.out HL.out).mono ?_
  rintro e w10 ⟨rfl, hb⟩
  have HB := Lib.hid (HB.out.trans (hb.mono HB.out.size))
  have RS := Lib.hid (RS.out.below hb RS.out.lt)
  have HH := Lib.hid (HH.out.below hb)
  have HK := Lib.hid (HK.out.below hb)
  have HL := Lib.hid (HL.out.below hb)
  clear hb
  have hb := below_alloc w10 (.cells #[.int .i64 (-3), .int .i64 4] 27)
  have HB := Lib.hid (HB.out.trans (hb.mono HB.out.size))
  have RS := Lib.hid (RS.out.below hb RS.out.lt)
  have HH := Lib.hid (HH.out.below hb)
  have RO := Lib.hid (Row.new w10 #[.int .i64 (-3), .int .i64 4] 27)
  clear hb
  obtain ⟨wx, hwx⟩ : ∃ x, x = w10.alloc (.cells #[.int .i64 (-3), .int .i64 4] 27) := ⟨_, rfl⟩
  have HWX := Lib.hid hwx
  clear hwx
  go_upto_region 6 with (fail)
  rw [← HWX.out] at HB RS HH RO
  rw [← HWX.out]
  have HS := Lib.hid (fun w' (k : From wx w') => (⟨(k.row RS.out).cell 0 rfl, (k.row RS.out).cell 1 rfl, (k.row RO.out).cell 0 rfl, (k.row RO.out).cell 1 rfl⟩ : w'.cell? ⟨w2.heap.size, 0, none⟩ = some (.int .i64 47) ∧ w'.cell? ⟨w2.heap.size, 1, none⟩ = some (.int .i64 53) ∧ w'.cell? ⟨w10.heap.size, 0, none⟩ = some (.int .i64 (-3)) ∧ w'.cell? ⟨w10.heap.size, 1, none⟩ = some (.int .i64 4)))
  have KI := Lib.hid (From.refl wx)
  go_region_held3 (fun w' => w'.cell? ⟨w2.heap.size, 0, none⟩ = some (.int .i64 47) ∧ w'.cell? ⟨w2.heap.size, 1, none⟩ = some (.int .i64 53) ∧ w'.cell? ⟨w10.heap.size, 0, none⟩ = some (.int .i64 (-3)) ∧ w'.cell? ⟨w10.heap.size, 1, none⟩ = some (.int .i64 4)) (first | with_reducible exact HS.out _ KI.out | with_reducible exact HS.out _ KI.out.drew | with_reducible exact HS.out _ (KI.out.below (below_alloc _ _)) | with_reducible exact HS.out _ (KI.out.drew.below (below_alloc _ _)))
    (first | (go_at_call 53; (with_reducible refine (Sp_any _ _ _).mono ?_); rintro e u ⟨rfl, hbu⟩; have KI := Lib.hid (by first | with_reducible exact KI.out.drew.below hbu | with_reducible exact KI.out.below hbu | with_reducible exact (KI.out.below (below_alloc _ _)).below hbu | with_reducible exact (KI.out.drew.below (below_alloc _ _)).below hbu); clear hbu) | (go_at_call 28; (with_reducible refine (al13 ph _ ch 2 _ (by first | with_reducible exact (KI.out.below (below_alloc _ _)).ints HH.out | with_reducible exact (KI.out.drew.below (below_alloc _ _)).ints HH.out) (new13 _ _)).mono ?_); rintro e u ⟨rfl, hbu⟩; have KI := Lib.hid (by first | with_reducible exact KI.out.drew.below hbu | with_reducible exact KI.out.below hbu | with_reducible exact (KI.out.below (below_alloc _ _)).below hbu | with_reducible exact (KI.out.drew.below (below_alloc _ _)).below hbu); clear hbu))
  all_goals
    have HB := Lib.hid (HB.out.trans (KI.out.b.mono HB.out.size))
    clear KI HS RS RO HH
    go_wp2_with fail
    refine (book_any _).mono ?_
    rintro e w11 ⟨p11, c11, rfl, hk, hb⟩
    have HB := Lib.hid (HB.out.trans (hb.mono HB.out.size))
    have HK := Lib.hid hk
    clear hb hk
    go_wp2_with fail
    refine (exBest _ _ _ HK.out).mono ?_
    rintro e w12 ⟨qa, ca, rfl, hi, hb⟩
    have HB := Lib.hid (HB.out.trans (hb.mono HB.out.size))
    have HK := Lib.hid (HK.out.below hb)
    have HP := Lib.hid hi
    clear hb hi
    go_wp2_with fail
    refine (between_any _).mono ?_
    rintro e w13 ⟨p13, c13, rfl, hk, hb⟩
    have HB := Lib.hid (HB.out.trans (hb.mono HB.out.size))
    have HP := Lib.hid (HP.out.below hb)
    have HK := Lib.hid hk
    clear hb hk
    go_wp2_with fail
    refine (exBestM _ _ _ HK.out).mono ?_
    rintro e w14 ⟨qb, cb, rfl, hi, hb⟩
    have HB := Lib.hid (HB.out.trans (hb.mono HB.out.size))
    have HP := Lib.hid (HP.out.below hb)
    have HK := Lib.hid (HK.out.below hb)
    have HQ := Lib.hid hi
    clear hb hi
    go_wp2_with fail
    refine (book_any _).mono ?_
    rintro e w15 ⟨p15, c15, rfl, hk, hb⟩
    have HB := Lib.hid (HB.out.trans (hb.mono HB.out.size))
    have HP := Lib.hid (HP.out.below hb)
    have HQ := Lib.hid (HQ.out.below hb)
    have HK := Lib.hid hk
    clear hb hk
    go_wp2_with fail
    refine (exBoxes _ _ _ HK.out).mono ?_
    rintro e w16 ⟨rfl, hb⟩
    have HB := Lib.hid (HB.out.trans (hb.mono HB.out.size))
    have HP := Lib.hid (HP.out.below hb)
    have HQ := Lib.hid (HQ.out.below hb)
    have HK := Lib.hid (HK.out.below hb)
    clear hb
    go_wp2_with fail
    refine (between_any _).mono ?_
    rintro e w17 ⟨p17, c17, rfl, hk, hb⟩
    have HB := Lib.hid (HB.out.trans (hb.mono HB.out.size))
    have HP := Lib.hid (HP.out.below hb)
    have HQ := Lib.hid (HQ.out.below hb)
    have HK := Lib.hid hk
    clear hb hk
    go_wp2_with fail
    refine (exAsk _ _ _ HK.out).mono ?_
    rintro e w18 ⟨rfl, hb⟩
    have HB := Lib.hid (HB.out.trans (hb.mono HB.out.size))
    have HP := Lib.hid (HP.out.below hb)
    have HQ := Lib.hid (HQ.out.below hb)
    have HK := Lib.hid (HK.out.below hb)
    clear hb
    go_wp2_with fail
    refine (book_any _).mono ?_
    rintro e w19 ⟨p19, c19, rfl, hk, hb⟩
    have HB := Lib.hid (HB.out.trans (hb.mono HB.out.size))
    have HP := Lib.hid (HP.out.below hb)
    have HQ := Lib.hid (HQ.out.below hb)
    have HK := Lib.hid hk
    clear hb hk
    have hb := below_alloc w19 (.cells #[.int .i64 2, .int .i64 5, .int .i64 6, .int .i64 7] 3)
    have HB := Lib.hid (HB.out.trans (hb.mono HB.out.size))
    have HP := Lib.hid (HP.out.below hb)
    have HQ := Lib.hid (HQ.out.below hb)
    have HK := Lib.hid (HK.out.below hb)
    have HL := Lib.hid (new4 w19 3)
    clear hb
    go_wp2_with fail
    refine (exIsPlan _ _ _ _ HK.out HL.out).mono ?_
    rintro e w20 ⟨rfl, hb⟩
    have HB := Lib.hid (HB.out.trans (hb.mono HB.out.size))
    have HP := Lib.hid (HP.out.below hb)
    have HQ := Lib.hid (HQ.out.below hb)
    have HK := Lib.hid (HK.out.below hb)
    have HL := Lib.hid (HL.out.below hb)
    clear hb
    go_wp2_with fail
    have hb := below_alloc w20 (.cells #[.int .i64 2, .int .i64 5, .int .i64 6, .int .i64 7] 3)
    have HB := Lib.hid (HB.out.trans (hb.mono HB.out.size))
    have HP := Lib.hid (HP.out.below hb)
    have HQ := Lib.hid (HQ.out.below hb)
    have HL := Lib.hid (new4 w20 3)
    clear hb
    refine (al4 _ _ _ _ _ HP.out HL.out).mono ?_
    rintro e w21 ⟨rfl, hb⟩
    have HB := Lib.hid (HB.out.trans (hb.mono HB.out.size))
    have HP := Lib.hid (HP.out.below hb)
    have HQ := Lib.hid (HQ.out.below hb)
    have HL := Lib.hid (HL.out.below hb)
    clear hb
    go_wp2_with fail
    have hb := below_alloc w21 (.cells #[.int .i64 1, .int .i64 3] 3)
    have HB := Lib.hid (HB.out.trans (hb.mono HB.out.size))
    have HP := Lib.hid (HP.out.below hb)
    have HQ := Lib.hid (HQ.out.below hb)
    have HL := Lib.hid (new13 w21 3)
    clear hb
    refine (al13 _ _ _ _ _ HQ.out HL.out).mono ?_
    rintro e w22 ⟨rfl, hb⟩
    have HB := Lib.hid (HB.out.trans (hb.mono HB.out.size))
    have HP := Lib.hid (HP.out.below hb)
    have HQ := Lib.hid (HQ.out.below hb)
    have HL := Lib.hid (HL.out.below hb)
    clear hb
    go_wp2
    go_ret
    exact ⟨rfl, HB.out⟩
end Go.Proofs.Ytgdidhbomdfcpaa
