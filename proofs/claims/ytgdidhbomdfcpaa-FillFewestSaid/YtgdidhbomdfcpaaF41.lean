/- The law FillFewest: no plan has fewer boxes by hand than the best one. -/
import Derived.Test.YtgdidhbomdfcpaaF40
import Derived.Test.YtgdidhbomdfcpaaF39
namespace Go.Proofs.Ytgdidhbomdfcpaa
open Go.RowKit Go.Maps
attribute [local go_sem] Oper.semAt_some

set_option maxRecDepth 100000 in
set_option maxHeartbeats 3200000 in
theorem FillFewest_any (b : Bf) (p : Option Addr) (c : Nat) (ps : Option Addr) (cs : Nat) (ss : List Int) (w : World) (hB : BfAt w p c b) (hs : IntsAt w ps ss) (hn : ss.length ≤ maxLen) :
    Calls Try.prog 7 #[.agg (bfA b p c), .slice ps ss.length cs] w fun e w' => e = .returned (.bool true) ∧ Below w.heap.size w w' := by
  obtain ⟨W0, hW0⟩ : ∃ W, W = w.alloc (.cells (bfA b p c) 24) := ⟨_, rfl⟩
  have HW0 := Lib.hid hW0
  have HE := Lib.hid (show Below w.heap.size w W0 by rw [hW0]; exact below_alloc _ _)
  have HR := Lib.hid (show Row W0 w.heap.size (bfA b p c) 24 by rw [hW0]; exact Row.new w _ _)
  have HB := Lib.hid (hB.below HE.out)
  have HS := Lib.hid (hs.below HE.out)
  have HN := Lib.hid hn
  have g0 := HR.out.cell 0 (v := .int .i64 b.pr) rfl
  have g1 := HR.out.cell 1 (v := .int .i64 b.le) rfl
  have g2 := HR.out.cell 2 (v := .int .i64 b.mo) rfl
  have g3 := HR.out.cell 3 (v := .int .i64 b.gr) rfl
  have g4 := HR.out.cell 4 (v := .slice p b.hs.length c) rfl
  clear hW0 hB hs hn
  obtain ⟨z0, hz0⟩ : ∃ z : Later W0, W0 = z.w := ⟨⟨W0, Below.refl _ _⟩, rfl⟩
  have HZ0 := Lib.hid hz0
  clear hz0
  cases hb : bookB b
  · have HK := Lib.hid (fun w' (k : From W0 w') => sound_no b p c w' (HB.out.below k.b) hb)
    clear hb
    go_enter Try.func7, Try.ntmps7
    go_wp2_with fail
    rw [← HW0.out, HZ0.out]
    refine (HK.out _ z0.fr).mono ?_
    rintro e u ⟨rfl, hbu⟩
    obtain ⟨z1, hz⟩ := z0.on hbu
    subst hz
    clear hbu
    go_wp2_with fail
    refine (filled_any _).mono ?_
    rintro e u ⟨rfl, hbu⟩
    obtain ⟨z2, hz⟩ := z1.on hbu
    subst hz
    clear hbu
    go_wp2_with fail
    go_ret
    exact ⟨rfl, z2.base HE.out⟩
  · have hok := bookB_iff.1 hb
    have hn8 := hok.n8
    have HOK := Lib.hid hok
    obtain ⟨pb, hpb, hpp, hmin⟩ := best_few hok
    obtain ⟨pr, hpr, hprr, hmax⟩ := best_right hok
    have hbq : bestQ b = pb := bestL_of hpb
    have hbr : bestR b = pr := bestL_of hpr
    have hlp := plan_len hpp
    have hlr := plan_len hprr
    have HK := Lib.hid (fun w' (k : From W0 w') => sound_yes b p c w' (HB.out.below k.b) hb)
    have HBE := Lib.hid (fun w' (k : From W0 w') => (by
      have h := Best_yes b p c w' (HB.out.below k.b) hb
      refine h.mono fun e w'' h => ?_
      obtain ⟨q, cq, h1, h2, h3⟩ := h
      rw [hbq] at h1 h2
      exact ⟨q, cq, h1, h2, h3⟩ : Calls Try.prog 31 #[.agg (bfA b p c)] w' (GaveList0 pb w')))
    have HBX := Lib.hid (fun w' (k : From W0 w') => (by have h := Boxes_yes b p c w' (HB.out.below k.b) hb; rw [hbr] at h; exact h : Calls Try.prog 33 #[.agg (bfA b p c)] w' fun e w'' => e = .returned (.tuple #[.int .i64 ((rightL b pr).length : Int), .int .i64 0]) ∧ Below w'.heap.size w' w''))
    have HBY := Lib.hid (fun (l : List Int) (hp : planB b l = true) (q : Option Addr) (cq : Nat) w' (k : From W0 w') (hi : IntsAt w' q l) => ByHand_yes b p c q cq l w' (HB.out.below k.b) hb hi (by have := plan_len hp; omega) (plan_nums_all HOK.out hp) hp)
    have HPY := Lib.hid (fun (l : List Int) (hp : planB b l = true) (q : Option Addr) (cq : Nat) w' (k : From W0 w') (hi : IntsAt w' q l) => plan_yes b p c q cq l w' (HB.out.below k.b) hb hi hp)
    have HDR := Lib.hid (fun w' (k : From W0 w') => drawn_any b p c ps cs ss w' HOK.out (HS.out.below k.b) HN.out)
    have HMIN := Lib.hid hmin
    have HMAX := Lib.hid hmax
    have HPP := Lib.hid hpp
    have hc1 := count_all b pb
    have hc2 := count_all b pr
    have hm1 := hmax pb hpp
    clear hb hok hbq hbr hpb hpr hpp hprr hmin hmax
    go_enter Try.func7, Try.ntmps7
    go_wp2_with fail
    rw [← HW0.out, HZ0.out]
    refine (HK.out _ z0.fr).mono ?_
    rintro e u ⟨rfl, hbu⟩
    obtain ⟨z1, hz⟩ := z0.on hbu
    subst hz
    clear hbu
    go_wp2_with fail
    refine (HBE.out _ z1.fr).mono ?_
    rintro e u ⟨qb, cb, rfl, hi, hbu⟩
    have HP := Lib.hid hi
    obtain ⟨z2, hz⟩ := z1.on hbu
    subst hz
    clear hbu hi
    go_wp2_with fail
    refine (HBY.out pb HPP.out _ _ _ z2.fr HP.out).mono ?_
    rintro e u ⟨ph, ch, rfl, hi, hbu⟩
    have HP := Lib.hid (HP.out.below hbu)
    have HH := Lib.hid hi
    obtain ⟨z3, hz⟩ := z2.on hbu
    subst hz
    clear hbu hi
    go_wp2_with fail
    refine (HBX.out _ z3.fr).mono ?_
    rintro e u ⟨rfl, hbu⟩
    have HP := Lib.hid (HP.out.below hbu)
    obtain ⟨z4, hz⟩ := z3.on hbu
    subst hz
    clear hbu
    go_wp2_with fail
    refine (HDR.out _ z4.fr).mono ?_
    rintro e u ⟨ql, qq, cq, rfl, hi, hpq, hbu⟩
    have HP := Lib.hid (HP.out.below hbu)
    have HQ := Lib.hid hi
    obtain ⟨z5, hz⟩ := z4.on hbu
    subst hz
    clear hbu hi
    have HPQ := Lib.hid hpq
    have hlq := plan_len hpq
    have hmn := HMIN.out ql hpq
    have hmx := HMAX.out ql hpq
    have hc3 := count_all b ql
    clear hpq
    go_wp2_with fail
    refine (HBY.out ql HPQ.out _ _ _ z5.fr HQ.out).mono ?_
    rintro e u ⟨pm, cm, rfl, hi, hbu⟩
    have HP := Lib.hid (HP.out.below hbu)
    have HQ := Lib.hid (HQ.out.below hbu)
    have HM := Lib.hid hi
    obtain ⟨z6, hz⟩ := z5.on hbu
    subst hz
    clear hbu hi
    obtain ⟨hmn1, hmn2⟩ := hmn
    have HEA := Lib.hid (fun (h1 : (handL b ql).length ≤ (handL b pb).length) (h2 : ql.length = pb.length) w' (hi1 : IntsAt w' qq ql) (hi2 : IntsAt w' qb pb) => (by have h := Earlier_any qq qb cq cb ql pb w' (by unfold maxLen; omega) hi1 hi2; rw [(hmn2 h1).2 h2] at h; exact h))
    have HYP := Lib.hid (fun w' (k : From W0 w') (hi : IntsAt w' qb pb) => HPY.out pb HPP.out qb cb w' k hi)
    have HYQ := Lib.hid (fun w' (k : From W0 w') (hi : IntsAt w' qq ql) => HPY.out ql HPQ.out qq cq w' k hi)
    have hll : (handL b ql).length ≤ (handL b pb).length → ql.length ≤ pb.length := fun h => (hmn2 h).1
    have HLL := Lib.hid hll
    clear hmn2 hll HH HM HBE HBX HBY HPY HDR HMIN HMAX HK HPP HPQ
    generalize (handL b pb).length = lh at *
    generalize (handL b ql).length = lm at *
    generalize (rightL b pr).length = mr at *
    generalize (rightL b ql).length = rq at *
    generalize (rightL b pb).length = rp at *
    obtain ⟨lp, hlpe⟩ : ∃ n, pb.length = n := ⟨_, rfl⟩
    obtain ⟨lq, hlqe⟩ : ∃ n, ql.length = n := ⟨_, rfl⟩
    rw [hlpe] at HLL HEA HYP hc1 hlp
    rw [hlqe] at HLL HEA HYQ hc3 hlq
    rw [hlpe, hlqe]
    clear hlpe hlqe
    have t1 : ¬ lm < lh := by omega
    have t2 : ¬ (mr : Int) < (lq : Int) - (lm : Int) := by omega
    have t3 : ¬ (mr : Int) < (lp : Int) - (lh : Int) := by omega
    have t4 : ¬ b.hs.length < mr := by omega
    have t5 : ¬ (lm : Int) < (lh : Int) := by omega
    have t6 : ¬ (b.hs.length : Int) < (mr : Int) := by omega
    have b1 : (lq : Int) ≤ 8 := by omega
    have b2 : (lm : Int) ≤ 8 := by omega
    have b3 : (lp : Int) ≤ 8 := by omega
    have b4 : (lh : Int) ≤ 8 := by omega
    go_wp2_with fail
    refine (HYP.out _ z6.fr HP.out).mono ?_
    rintro e u ⟨rfl, hbu⟩
    have HP := Lib.hid (HP.out.below hbu)
    have HQ := Lib.hid (HQ.out.below hbu)
    obtain ⟨z7, hz⟩ := z6.on hbu
    subst hz
    clear hbu
    go_wp2_with fail
    refine (HYQ.out _ z7.fr HQ.out).mono ?_
    rintro e u ⟨rfl, hbu⟩
    have HP := Lib.hid (HP.out.below hbu)
    have HQ := Lib.hid (HQ.out.below hbu)
    obtain ⟨z8, hz⟩ := z7.on hbu
    subst hz
    clear hbu
    by_cases hgt : lh < lm
    · have hgt2 : (lh : Int) < (lm : Int) := by omega
      go_wp2_with fail
      refine (filled_any _).mono ?_
      rintro e u ⟨rfl, hbu⟩
      have HP := Lib.hid (HP.out.below hbu)
      have HQ := Lib.hid (HQ.out.below hbu)
      obtain ⟨z9, hz⟩ := z8.on hbu
      subst hz
      clear hbu
      go_wp2_with fail
      go_ret
      exact ⟨rfl, z9.base HE.out⟩
    · have hgt2 : ¬ (lh : Int) < (lm : Int) := by omega
      have hlql := HLL.out (by omega)
      by_cases hlt : lq < lp
      · have hlt2 : (lq : Int) < (lp : Int) := by omega
        go_wp2_with fail
        refine (filled_any _).mono ?_
        rintro e u ⟨rfl, hbu⟩
        have HP := Lib.hid (HP.out.below hbu)
        have HQ := Lib.hid (HQ.out.below hbu)
        obtain ⟨z9, hz⟩ := z8.on hbu
        subst hz
        clear hbu
        go_wp2_with fail
        go_ret
        exact ⟨rfl, z9.base HE.out⟩
      · obtain rfl : lq = lp := by omega
        go_wp2_with fail
        refine (HEA.out (by omega) (by trivial) _ HQ.out HP.out).mono ?_
        rintro e u ⟨rfl, hbu⟩
        have HP := Lib.hid (HP.out.below hbu)
        have HQ := Lib.hid (HQ.out.below hbu)
        obtain ⟨z9, hz⟩ := z8.on hbu
        subst hz
        clear hbu
        go_wp2_with fail
        refine (filled_any _).mono ?_
        rintro e u ⟨rfl, hbu⟩
        have HP := Lib.hid (HP.out.below hbu)
        have HQ := Lib.hid (HQ.out.below hbu)
        obtain ⟨z10, hz⟩ := z9.on hbu
        subst hz
        clear hbu
        go_wp2_with fail
        go_ret
        exact ⟨rfl, z10.base HE.out⟩
end Go.Proofs.Ytgdidhbomdfcpaa
