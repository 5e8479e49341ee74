/- The law's own helper of layer 6: stacked. -/
import Derived.Test.YtajkgfeockcbpaaY29
namespace Go.Proofs.Ytajkgfeockcbpaa
open Go.RowKit Go.Maps
attribute [local go_sem] Oper.semAt_some

theorem ints_new (w : World) (l : List Int) (t : TypeId) : IntsAt (w.alloc (.cells (intsA l) t)) (some ⟨w.heap.size, 0, none⟩) l := ints_row (Row.new w (intsA l) t)
theorem new_0 (w : World) (t : TypeId) : IntsAt (w.alloc (.cells #[.int .i64 0] t)) (some ⟨w.heap.size, 0, none⟩) [0] := ints_new w [0] t
theorem new_1 (w : World) (t : TypeId) : IntsAt (w.alloc (.cells #[.int .i64 1] t)) (some ⟨w.heap.size, 0, none⟩) [1] := ints_new w [1] t
theorem new_2 (w : World) (t : TypeId) : IntsAt (w.alloc (.cells #[.int .i64 2] t)) (some ⟨w.heap.size, 0, none⟩) [2] := ints_new w [2] t
theorem new_3 (w : World) (t : TypeId) : IntsAt (w.alloc (.cells #[.int .i64 3] t)) (some ⟨w.heap.size, 0, none⟩) [3] := ints_new w [3] t
theorem new_01 (w : World) (t : TypeId) : IntsAt (w.alloc (.cells #[.int .i64 0, .int .i64 1] t)) (some ⟨w.heap.size, 0, none⟩) [0, 1] := ints_new w [0, 1] t
theorem new_12 (w : World) (t : TypeId) : IntsAt (w.alloc (.cells #[.int .i64 1, .int .i64 2] t)) (some ⟨w.heap.size, 0, none⟩) [1, 2] := ints_new w [1, 2] t
theorem new_012 (w : World) (t : TypeId) : IntsAt (w.alloc (.cells #[.int .i64 0, .int .i64 1, .int .i64 2] t)) (some ⟨w.heap.size, 0, none⟩) [0, 1, 2] := ints_new w [0, 1, 2] t
theorem new_0123 (w : World) (t : TypeId) : IntsAt (w.alloc (.cells #[.int .i64 0, .int .i64 1, .int .i64 2, .int .i64 3] t)) (some ⟨w.heap.size, 0, none⟩) [0, 1, 2, 3] := ints_new w [0, 1, 2, 3] t
theorem IntsAt.drew {w : World} {p : Option Addr} {l : List Int} (h : IntsAt w p l) : IntsAt w.drew p l := h
theorem sp_ex (p q : Option Addr) (c d : Nat) (w : World) (hP : PairsAt w p [(0, 1), (0, 2)]) (hQ : PairsAt w q [(0, 1), (0, 2)]) : Calls Try.prog 34 #[.slice p 2 c, .slice q 2 d] w fun e w' => e = .returned (.bool true) ∧ Below w.heap.size w w' :=
  same_pairs p q c d [(0, 1), (0, 2)] w hP hQ (by decide)
theorem new_pairs (w : World) (t : TypeId) : PairsAt (w.alloc (.cells #[.int .i64 0, .int .i64 1, .int .i64 0, .int .i64 2] t)) (some ⟨w.heap.size, 0, none⟩) [(0, 1), (0, 2)] := by
  have r := Row.new w #[.int .i64 0, .int .i64 1, .int .i64 0, .int .i64 2] t
  intro i hi
  have hi : i < 2 := hi
  obtain rfl | rfl : i = 0 ∨ i = 1 := by omega
  · exact ⟨_, 0, rfl, r.cell 0 rfl, r.cell 1 rfl⟩
  · exact ⟨_, 0, rfl, r.cell 2 rfl, r.cell 3 rfl⟩
theorem exNear (P : Yp) (w : World) (h : YbAt w P (exB 20)) : Calls Try.prog 14 #[.agg (ybA (exB 20) P), .int .i64 0, .int .i64 1] w fun e w' => e = .returned (.tuple #[.int .i64 1, .int .i64 0]) ∧ Below w.heap.size w w' := by
  have h := near_api (exB 20) P 0 1 w h
  rw [ex_near] at h
  exact h
theorem exServ (P : Yp) (w : World) (h : YbAt w P (exB 20)) : Calls Try.prog 18 #[.agg (ybA (exB 20) P), .int .i64 0] w fun e w' => e = .returned (.tuple #[.int .i64 2, .int .i64 0]) ∧ Below w.heap.size w w' := by
  have h := served_api (exB 20) P 0 w h
  rw [ex_serv] at h
  exact h
theorem exAllow (P : Yp) (p : Option Addr) (c : Nat) (w : World) (h : YbAt w P (exB 20)) (hI : IntsAt w p [0, 1]) : Calls Try.prog 20 #[.agg (ybA (exB 20) P), .slice p 2 c] w fun e w' => e = .returned (.tuple #[.int .i64 1, .int .i64 0]) ∧ Below w.heap.size w w' := by
  have h := allowed_api (exB 20) P p c [0, 1] (by decide) w h hI
  rw [ex_allow] at h
  exact h
theorem exBest (P : Yp) (w : World) (h : YbAt w P (exB 20)) : Calls Try.prog 23 #[.agg (ybA (exB 20) P)] w fun e w' => ∃ p c, e = .returned (.tuple #[.slice p 2 c, .int .i64 0]) ∧ IntsAt w' p [1, 2] ∧ Below w.heap.size w w' := by
  refine (best_api (exB 20) P w h).mono ?_
  rintro e w' ⟨hb, ⟨h, _⟩ | ⟨_, p, c, rfl, hi⟩⟩
  · rw [ex_yard20] at h; cases h
  · rw [ex_best] at hi ⊢
    exact ⟨p, c, rfl, hi, hb⟩
theorem exGoods (P : Yp) (w : World) (h : YbAt w P (exB 20)) : Calls Try.prog 26 #[.agg (ybA (exB 20) P)] w fun e w' => e = .returned (.tuple #[.agg #[.int .i64 42, .int .i64 75], .int .i64 0]) ∧ Below w.heap.size w w' := by
  have h := goods_api (exB 20) P w h
  rw [ex_goods] at h
  exact h
theorem exPlace20 (P : Yp) (w : World) (h : YbAt w P (exB 20)) : Calls Try.prog 28 #[.agg (ybA (exB 20) P)] w fun e w' => e = .returned (.tuple #[.int .i64 0, .int .i64 4]) ∧ Below w.heap.size w w' := by
  have h := place_api (exB 20) P w h
  rw [ex_place20] at h
  exact h
theorem exPlace40 (P : Yp) (w : World) (h : YbAt w P (exB 40)) : Calls Try.prog 28 #[.agg (ybA (exB 40) P)] w fun e w' => e = .returned (.tuple #[.int .i64 0, .int .i64 0]) ∧ Below w.heap.size w w' := by
  have h := place_api (exB 40) P w h
  rw [ex_place40] at h
  exact h
theorem exMore (P : Yp) (p : Option Addr) (c : Nat) (w : World) (h : YbAt w P (exB 20)) (hI : IntsAt w p [1]) : Calls Try.prog 30 #[.agg (ybA (exB 20) P), .slice p 1 c] w fun e w' => ∃ q d, e = .returned (.tuple #[.slice q 1 d, .int .i64 0]) ∧ IntsAt w' q [2] ∧ Below w.heap.size w w' := by
  refine (more_api (exB 20) P p c [1] (by decide) w h hI).mono ?_
  have hx := ex_more
  rintro e w' ⟨hb, ⟨h, _⟩ | ⟨_, h, _⟩ | ⟨_, f, h, ⟨h2, _⟩ | ⟨_, q, d, rfl, hi⟩⟩⟩
  · rw [ex_yard20] at h; cases h
  · have h : readL 4 [1] 0 noneF = none := h
    rw [h] at hx; cases hx
  · have h : readL 4 [1] 0 noneF = some f := h
    rw [h] at hx
    simp only [Option.map_some, Option.some.injEq, Prod.mk.injEq] at hx
    rw [hx.1] at h2; cases h2
  · have h : readL 4 [1] 0 noneF = some f := h
    rw [h] at hx
    simp only [Option.map_some, Option.some.injEq, Prod.mk.injEq] at hx
    rw [hx.2] at hi ⊢
    exact ⟨q, d, rfl, hi, hb⟩
theorem exBreaks (P : Yp) (p : Option Addr) (c : Nat) (w : World) (h : YbAt w P (exB 20)) (hI : IntsAt w p [0, 1, 2, 3]) : Calls Try.prog 32 #[.agg (ybA (exB 20) P), .slice p 4 c] w fun e w' => ∃ q r d, e = .returned (.tuple #[.slice q 2 2, .slice r 1 d, .int .i64 0]) ∧ PairsAt w' q [(0, 1), (0, 2)] ∧ IntsAt w' r [3] ∧ Below w.heap.size w w' := by
  refine (breaks_api (exB 20) P p c [0, 1, 2, 3] (by decide) w h hI).mono ?_
  have hx := ex_breaks
  rintro e w' ⟨hb, ⟨h, _⟩ | ⟨_, h, _⟩ | ⟨_, f, h, q, r, d, rfl, hp, hi⟩⟩
  · rw [ex_yard20] at h; cases h
  · have h : readL 4 [0, 1, 2, 3] 0 noneF = none := h
    rw [h] at hx; cases hx
  · have h : readL 4 [0, 1, 2, 3] 0 noneF = some f := h
    rw [h] at hx
    simp only [Option.map_some, Option.some.injEq, Prod.mk.injEq] at hx
    rw [hx.1] at hp ⊢
    rw [hx.2] at hi ⊢
    exact ⟨q, r, d, rfl, hp, hi, hb⟩
theorem exClear (P : Yp) (p : Option Addr) (c : Nat) (w : World) (h : YbAt w P (exB 20)) (hI : IntsAt w p [0, 1, 2]) : Calls Try.prog 35 #[.agg (ybA (exB 20) P), .slice p 3 c] w fun e w' => ∃ q d, e = .returned (.tuple #[.slice q 1 d, .int .i64 0]) ∧ IntsAt w' q [0] ∧ Below w.heap.size w w' := by
  refine (clear_api (exB 20) P p c [0, 1, 2] (by decide) w h hI).mono ?_
  have hx := ex_clear
  rintro e w' ⟨hb, ⟨h, _⟩ | ⟨_, h, _⟩ | ⟨_, f, h, q, d, rfl, hi⟩⟩
  · rw [ex_yard20] at h; cases h
  · have h : readL 4 [0, 1, 2] 0 noneF = none := h
    rw [h] at hx; cases hx
  · have h : readL 4 [0, 1, 2] 0 noneF = some f := h
    rw [h] at hx
    simp only [Option.map_some, Option.some.injEq] at hx
    rw [hx] at hi ⊢
    exact ⟨q, d, rfl, hi, hb⟩
theorem al_12 (p q : Option Addr) (c d : Nat) (w : World) (hc : IntsAt w p [1, 2]) (hd : IntsAt w q [1, 2]) : Calls Try.prog 25 #[.slice p 2 c, .slice q 2 d] w fun e w' => e = .returned (.bool true) ∧ Below w.heap.size w w' := by
  have h := Alike_any p q c d [1, 2] [1, 2] w (by decide) hc hd
  rw [show decide (([1, 2] : List Int) = [1, 2]) = true by decide] at h
  exact h
theorem al_2 (p q : Option Addr) (c d : Nat) (w : World) (hc : IntsAt w p [2]) (hd : IntsAt w q [2]) : Calls Try.prog 25 #[.slice p 1 c, .slice q 1 d] w fun e w' => e = .returned (.bool true) ∧ Below w.heap.size w w' := by
  have h := Alike_any p q c d [2] [2] w (by decide) hc hd
  rw [show decide (([2] : List Int) = [2]) = true by decide] at h
  exact h
theorem al_3 (p q : Option Addr) (c d : Nat) (w : World) (hc : IntsAt w p [3]) (hd : IntsAt w q [3]) : Calls Try.prog 25 #[.slice p 1 c, .slice q 1 d] w fun e w' => e = .returned (.bool true) ∧ Below w.heap.size w w' := by
  have h := Alike_any p q c d [3] [3] w (by decide) hc hd
  rw [show decide (([3] : List Int) = [3]) = true by decide] at h
  exact h
theorem al_0 (p q : Option Addr) (c d : Nat) (w : World) (hc : IntsAt w p [0]) (hd : IntsAt w q [0]) : Calls Try.prog 25 #[.slice p 1 c, .slice q 1 d] w fun e w' => e = .returned (.bool true) ∧ Below w.heap.size w w' := by
  have h := Alike_any p q c d [0] [0] w (by decide) hc hd
  rw [show decide (([0] : List Int) = [0]) = true by decide] at h
  exact h
set_option maxRecDepth 100000 in
set_option maxHeartbeats 6400000 in
theorem stacked_any (w : World) : Calls Try.prog 22 #[] w fun e w' => e = .returned (.bool true) ∧ Below w.heap.size w w' := by
  go_enter Try.func22, Try.ntmps22
  have HB := Lib.hid (Below.refl w.heap.size w)
  go_wp2_with fail
  refine (book_any 20 _).mono ?_
  rintro e w1 ⟨P1, rfl, hk, hb⟩
  have HB := Lib.hid (HB.out.trans (hb.mono HB.out.size))
  have HK := Lib.hid hk
  clear hb hk
  go_wp2_with fail
  refine (exNear _ _ HK.out).mono ?_
  rintro e w2 ⟨rfl, hb⟩
  have HB := Lib.hid (HB.out.trans (hb.mono HB.out.size))
  clear hb
  go_wp2_with fail
  refine (book_any 20 _).mono ?_
  rintro e w3 ⟨P3, rfl, hk, hb⟩
  have HB := Lib.hid (HB.out.trans (hb.mono HB.out.size))
  have HK := Lib.hid hk
  clear hb hk
  go_wp2_with fail
  refine (exServ _ _ HK.out).mono ?_
  rintro e w4 ⟨rfl, hb⟩
  have HB := Lib.hid (HB.out.trans (hb.mono HB.out.size))
  clear hb
  go_wp2_with fail
  refine (book_any 20 _).mono ?_
  rintro e w5 ⟨P5, rfl, hk, hb⟩
  have HB := Lib.hid (HB.out.trans (hb.mono HB.out.size))
  have HK := Lib.hid hk
  clear hb hk
  have hb := below_alloc w5 (.cells #[.int .i64 0, .int .i64 1] 3)
  have HB := Lib.hid (HB.out.trans (hb.mono HB.out.size))
  have HK := Lib.hid (HK.out.below hb)
  have HL := Lib.hid (new_01 w5 3)
  clear hb
  go_wp2_with fail
  refine (exAllow _ _ _ _ HK.out HL.out).mono ?_
  rintro e w6 ⟨rfl, hb⟩
  have HB := Lib.hid (HB.out.trans (hb.mono HB.out.size))
  clear hb
  go_wp2_with fail
  refine (book_any 20 _).mono ?_
  rintro e w7 ⟨P7, rfl, hk, hb⟩
  have HB := Lib.hid (HB.out.trans (hb.mono HB.out.size))
  have HK := Lib.hid hk
  clear hb hk
  go_wp2_with fail
  refine (exBest _ _ HK.out).mono ?_
  rintro e w8 ⟨p1, c1, rfl, hi, hb⟩
  have HB := Lib.hid (HB.out.trans (hb.mono HB.out.size))
  have HI1 := Lib.hid hi
  clear hb hi
  go_wp2_with fail
  refine (book_any 20 _).mono ?_
  rintro e w9 ⟨P9, rfl, hk, hb⟩
  have HB := Lib.hid (HB.out.trans (hb.mono HB.out.size))
  have HI1 := Lib.hid (HI1.out.below hb)
  have HK := Lib.hid hk
  clear hb hk
  go_wp2_with fail
  refine (exGoods _ _ HK.out).mono ?_
  rintro e w10 ⟨rfl, hb⟩
  have HB := Lib.hid (HB.out.trans (hb.mono HB.out.size))
  have HI1 := Lib.hid (HI1.out.below hb)
  clear hb
  have hb := below_alloc w10 (.cells #[.int .i64 42, .int .i64 75] 40)
  have HB := Lib.hid (HB.out.trans (hb.mono HB.out.size))
  have HI1 := Lib.hid (HI1.out.below hb)
  have RS := Lib.hid (Row.new w10 #[.int .i64 42, .int .i64 75] 40)
  clear hb
  obtain ⟨wx, hwx⟩ : ∃ x, x = w10.alloc (.cells #[.int .i64 42, .int .i64 75] 40) := ⟨_, rfl⟩
  have HWX := Lib.hid hwx
  clear hwx
  go_upto_region 6 with (fail)
  rw [← HWX.out] at HB RS HI1
  rw [← HWX.out]
  have KI := Lib.hid (From.refl wx)
  have HS := Lib.hid (fun w' (k : From wx w') => (⟨(k.row RS.out).cell 0 rfl, (k.row RS.out).cell 1 rfl⟩ : w'.cell? ⟨w10.heap.size, 0, none⟩ = some (.int .i64 42) ∧ w'.cell? ⟨w10.heap.size, 1, none⟩ = some (.int .i64 75)))
  go_region_held3 (fun w' => w'.cell? ⟨w10.heap.size, 0, none⟩ = some (.int .i64 42) ∧ w'.cell? ⟨w10.heap.size, 1, none⟩ = some (.int .i64 75)) (first | with_reducible exact HS.out _ KI.out | with_reducible exact HS.out _ KI.out.drew | with_reducible exact HS.out _ (KI.out.below (below_alloc _ _)) | with_reducible exact HS.out _ (KI.out.below (below_alloc _ _)).drew | with_reducible exact HS.out _ (KI.out.drew.below (below_alloc _ _)))
    (first
      | (go_at_call 54; (with_reducible refine (Sp_any _ _ _).mono ?_); rintro e u ⟨rfl, hbu⟩; have KI := Lib.hid (by first | with_reducible exact KI.out.drew.below hbu | with_reducible exact KI.out.below hbu | with_reducible exact (KI.out.below (below_alloc _ _)).below hbu | with_reducible exact (KI.out.drew.below (below_alloc _ _)).below hbu); clear hbu)
      | (go_at_call 25; (with_reducible refine (al_12 _ _ _ _ _ (by first | with_reducible exact HI1.out.below (KI.out.below (below_alloc _ _)).b | with_reducible exact HI1.out.below (KI.out.drew.below (below_alloc _ _)).b | with_reducible exact HI1.out.below (KI.out.below (below_alloc _ _)).drew.b | with_reducible exact HI1.out.below (KI.out.drew.below (below_alloc _ _)).drew.b) (by first | with_reducible exact new_12 _ _ | with_reducible exact (new_12 _ _).drew)).mono ?_); rintro e u ⟨rfl, hbu⟩; have KI := Lib.hid (by first | with_reducible exact (KI.out.below (below_alloc _ _)).below hbu | with_reducible exact (KI.out.drew.below (below_alloc _ _)).below hbu | with_reducible exact (KI.out.below (below_alloc _ _)).drew.below hbu | with_reducible exact (KI.out.drew.below (below_alloc _ _)).drew.below hbu); clear hbu))
  all_goals
    have HB := Lib.hid (HB.out.trans (KI.out.b.mono HB.out.size))
    clear KI HS RS HI1
    go_wp2_with fail
    refine (book_any 20 _).mono ?_
    rintro e w11 ⟨P11, rfl, hk, hb⟩
    have HB := Lib.hid (HB.out.trans (hb.mono HB.out.size))
    have HK := Lib.hid hk
    clear hb hk
    have hb := below_alloc w11 (.cells #[.int .i64 1] 3)
    have HB := Lib.hid (HB.out.trans (hb.mono HB.out.size))
    have HK := Lib.hid (HK.out.below hb)
    have HL := Lib.hid (new_1 w11 3)
    clear hb
    go_wp2_with fail
    refine (exMore _ _ _ _ HK.out HL.out).mono ?_
    rintro e w12 ⟨q1, d1, rfl, hi, hb⟩
    have HB := Lib.hid (HB.out.trans (hb.mono HB.out.size))
    have HM := Lib.hid hi
    clear hb hi
    go_wp2_with fail
    refine (book_any 20 _).mono ?_
    rintro e w13 ⟨P13, rfl, hk, hb⟩
    have HB := Lib.hid (HB.out.trans (hb.mono HB.out.size))
    have HM := Lib.hid (HM.out.below hb)
    have HK := Lib.hid hk
    clear hb hk
    have hb := below_alloc w13 (.cells #[.int .i64 0, .int .i64 1, .int .i64 2, .int .i64 3] 3)
    have HB := Lib.hid (HB.out.trans (hb.mono HB.out.size))
    have HM := Lib.hid (HM.out.below hb)
    have HK := Lib.hid (HK.out.below hb)
    have HL := Lib.hid (new_0123 w13 3)
    clear hb
    go_wp2_with fail
    refine (exBreaks _ _ _ _ HK.out HL.out).mono ?_
    rintro e w14 ⟨q2, q3, d3, rfl, hp, hi, hb⟩
    have HB := Lib.hid (HB.out.trans (hb.mono HB.out.size))
    have HM := Lib.hid (HM.out.below hb)
    have HP2 := Lib.hid hp
    have HI3 := Lib.hid hi
    clear hb hp hi
    go_wp2_with fail
    refine (book_any 20 _).mono ?_
    rintro e w15 ⟨P15, rfl, hk, hb⟩
    have HB := Lib.hid (HB.out.trans (hb.mono HB.out.size))
    have HM := Lib.hid (HM.out.below hb)
    have HP2 := Lib.hid (HP2.out.below hb)
    have HI3 := Lib.hid (HI3.out.below hb)
    have HK := Lib.hid hk
    clear hb hk
    go_wp2_with fail
    refine (exPlace20 _ _ HK.out).mono ?_
    rintro e w16 ⟨rfl, hb⟩
    have HB := Lib.hid (HB.out.trans (hb.mono HB.out.size))
    have HM := Lib.hid (HM.out.below hb)
    have HP2 := Lib.hid (HP2.out.below hb)
    have HI3 := Lib.hid (HI3.out.below hb)
    clear hb
    go_wp2_with fail
    refine (book_any 40 _).mono ?_
    rintro e w17 ⟨P17, rfl, hk, hb⟩
    have HB := Lib.hid (HB.out.trans (hb.mono HB.out.size))
    have HM := Lib.hid (HM.out.below hb)
    have HP2 := Lib.hid (HP2.out.below hb)
    have HI3 := Lib.hid (HI3.out.below hb)
    have HK := Lib.hid hk
    clear hb hk
    go_wp2_with fail
    refine (exPlace40 _ _ HK.out).mono ?_
    rintro e w18 ⟨rfl, hb⟩
    have HB := Lib.hid (HB.out.trans (hb.mono HB.out.size))
    have HM := Lib.hid (HM.out.below hb)
    have HP2 := Lib.hid (HP2.out.below hb)
    have HI3 := Lib.hid (HI3.out.below hb)
    clear hb
    go_wp2_with fail
    refine (book_any 20 _).mono ?_
    rintro e w19 ⟨P19, rfl, hk, hb⟩
    have HB := Lib.hid (HB.out.trans (hb.mono HB.out.size))
    have HM := Lib.hid (HM.out.below hb)
    have HP2 := Lib.hid (HP2.out.below hb)
    have HI3 := Lib.hid (HI3.out.below hb)
    have HK := Lib.hid hk
    clear hb hk
    have hb := below_alloc w19 (.cells #[.int .i64 0, .int .i64 1, .int .i64 2] 3)
    have HB := Lib.hid (HB.out.trans (hb.mono HB.out.size))
    have HM := Lib.hid (HM.out.below hb)
    have HP2 := Lib.hid (HP2.out.below hb)
    have HI3 := Lib.hid (HI3.out.below hb)
    have HK := Lib.hid (HK.out.below hb)
    have HL := Lib.hid (new_012 w19 3)
    clear hb
    go_wp2_with fail
    refine (exClear _ _ _ _ HK.out HL.out).mono ?_
    rintro e w20 ⟨q4, d4, rfl, hi, hb⟩
    have HB := Lib.hid (HB.out.trans (hb.mono HB.out.size))
    have HM := Lib.hid (HM.out.below hb)
    have HP2 := Lib.hid (HP2.out.below hb)
    have HI3 := Lib.hid (HI3.out.below hb)
    have HI4 := Lib.hid hi
    clear hb hi
    go_wp2_with fail
    have hb := below_alloc w20 (.cells #[.int .i64 2] 3)
    have HB := Lib.hid (HB.out.trans (hb.mono HB.out.size))
    have HM := Lib.hid (HM.out.below hb)
    have HP2 := Lib.hid (HP2.out.below hb)
    have HI3 := Lib.hid (HI3.out.below hb)
    have HI4 := Lib.hid (HI4.out.below hb)
    have HL := Lib.hid (new_2 w20 3)
    clear hb
    refine (al_2 _ _ _ _ _ HM.out HL.out).mono ?_
    rintro e w21 ⟨rfl, hb⟩
    have HB := Lib.hid (HB.out.trans (hb.mono HB.out.size))
    have HM := Lib.hid (HM.out.below hb)
    have HP2 := Lib.hid (HP2.out.below hb)
    have HI3 := Lib.hid (HI3.out.below hb)
    have HI4 := Lib.hid (HI4.out.below hb)
    clear hb
    go_wp2_with fail
    have hb := below_alloc w21 (.cells #[.int .i64 0, .int .i64 1, .int .i64 0, .int .i64 2] 69)
    have HB := Lib.hid (HB.out.trans (hb.mono HB.out.size))
    have HM := Lib.hid (HM.out.below hb)
    have HP2 := Lib.hid (HP2.out.below hb)
    have HI3 := Lib.hid (HI3.out.below hb)
    have HI4 := Lib.hid (HI4.out.below hb)
    have HL := Lib.hid (new_pairs w21 69)
    clear hb
    refine (sp_ex _ _ _ _ _ HP2.out HL.out).mono ?_
    rintro e w22 ⟨rfl, hb⟩
    have HB := Lib.hid (HB.out.trans (hb.mono HB.out.size))
    have HM := Lib.hid (HM.out.below hb)
    have HP2 := Lib.hid (HP2.out.below hb)
    have HI3 := Lib.hid (HI3.out.below hb)
    have HI4 := Lib.hid (HI4.out.below hb)
    clear hb
    go_wp2_with fail
    have hb := below_alloc w22 (.cells #[.int .i64 3] 3)
    have HB := Lib.hid (HB.out.trans (hb.mono HB.out.size))
    have HM := Lib.hid (HM.out.below hb)
    have HP2 := Lib.hid (HP2.out.below hb)
    have HI3 := Lib.hid (HI3.out.below hb)
    have HI4 := Lib.hid (HI4.out.below hb)
    have HL := Lib.hid (new_3 w22 3)
    clear hb
    refine (al_3 _ _ _ _ _ HI3.out HL.out).mono ?_
    rintro e w23 ⟨rfl, hb⟩
    have HB := Lib.hid (HB.out.trans (hb.mono HB.out.size))
    have HM := Lib.hid (HM.out.below hb)
    have HP2 := Lib.hid (HP2.out.below hb)
    have HI3 := Lib.hid (HI3.out.below hb)
    have HI4 := Lib.hid (HI4.out.below hb)
    clear hb
    go_wp2_with fail
    have hb := below_alloc w23 (.cells #[.int .i64 0] 3)
    have HB := Lib.hid (HB.out.trans (hb.mono HB.out.size))
    have HM := Lib.hid (HM.out.below hb)
    have HP2 := Lib.hid (HP2.out.below hb)
    have HI3 := Lib.hid (HI3.out.below hb)
    have HI4 := Lib.hid (HI4.out.below hb)
    have HL := Lib.hid (new_0 w23 3)
    clear hb
    refine (al_0 _ _ _ _ _ HI4.out HL.out).mono ?_
    rintro e w24 ⟨rfl, hb⟩
    have HB := Lib.hid (HB.out.trans (hb.mono HB.out.size))
    have HM := Lib.hid (HM.out.below hb)
    have HP2 := Lib.hid (HP2.out.below hb)
    have HI3 := Lib.hid (HI3.out.below hb)
    have HI4 := Lib.hid (HI4.out.below hb)
    clear hb
    go_wp2_with fail
    go_ret
    exact ⟨rfl, HB.out⟩
end Go.Proofs.Ytajkgfeockcbpaa
