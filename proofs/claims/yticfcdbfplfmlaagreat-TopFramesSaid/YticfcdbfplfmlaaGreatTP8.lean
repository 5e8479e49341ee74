/- The law TopFrames: the theorem of the frames and the boxes. -/
import Derived.Test.YticfcdbfplfmlaaGreatTP4
import Derived.Test.YticfcdbfplfmlaaGreatTP5
import Derived.Test.YticfcdbfplfmlaaGreatTP6
import Derived.Test.YticfcdbfplfmlaaGreatTP7
import Derived.Test.YticfcdbfplfmlaaGreatTB2
import Derived.Test.YticfcdbfplfmlaaGreatTCX
import Derived.Test.YticfcdbfplfmlaaGreatTEX
namespace Go.Proofs.YticfcdbfplfmlaaGreat
open Go.RowKit Go.Maps
attribute [local go_sem] Oper.semAt_some

theorem item_call5 {xs : List Int} {n v : Int} (hn : xs.length ≤ maxLen) (h : item xs n = v) (p : Option Addr) (c : Nat) (w : World) (hi : IntsAt w p xs) :
    Calls Tryz.prog 9 #[.slice p xs.length c, .int .i64 n] w fun e w' => e = .returned (.int .i64 v) ∧ Below w.heap.size w w' := by
  subst h
  refine (Item_any p c xs n w hn hi).mono ?_
  rintro e w' ⟨h, rfl⟩
  exact ⟨h, Below.refl _ _⟩
theorem spin_call5 {n m v : Int} (h : spin n m = v) (hm : I64 m) (w : World) : Calls Tryz.prog 8 #[.int .i64 n, .int .i64 m] w fun e w' => e = .returned (.int .i64 v) ∧ Below w.heap.size w w' := by
  subst h
  refine (Spin_any n m w hm).mono ?_
  rintro e w' ⟨h, rfl⟩
  exact ⟨h, Below.refl _ _⟩
theorem has_call5 {a b n : Int} {v : Bool} (h : fits n a b = v) (w : World) : Calls Tryz.prog 16 #[.agg #[.int .i64 a, .int .i64 b], .int .i64 n] w fun e w' => e = .returned (.bool v) ∧ Below w.heap.size w w' := by
  subst h
  exact Has_any a b n w
section
variable (pp : Option Addr) (cp : Nat) (pf : Option Addr) (cf : Nat) (ps : List Tu.Pt) (ms : List Tu.FrM) (b : Bf) (q : Option Addr) (cq : Nat) (ph : Option Addr) (ch : Nat) (heads : List Int) (pb : Option Addr) (cb : Nat) (bits : List Int) (w : World) (hT : Tu.BkAt w pp pf ps ms) (hB : BfAt w q cq b) (hh : IntsAt w ph heads) (hhn : heads.length ≤ maxLen) (hb : IntsAt w pb bits) (hbn : bits.length ≤ maxLen)
include hT hB hh hhn hb hbn
set_option maxRecDepth 100000 in
set_option maxHeartbeats 6400000 in
theorem TopFrames_any :
    Calls Tryz.prog 3 #[.agg #[.slice pp ps.length cp, .slice pf ms.length cf], .agg (bfA b q cq), .slice ph heads.length ch, .slice pb bits.length cb] w fun e w' => e = .returned (.bool true) ∧ Below w.heap.size w w' := by
  obtain ⟨W0, hW0⟩ : ∃ W, W = ((w.alloc (.cells #[.slice pp ps.length cp, .slice pf ms.length cf] 25)).alloc (.cells (bfA b q cq) 28)) := ⟨_, rfl⟩
  have HW0 := Lib.hid hW0
  have HE := Lib.hid (show Below w.heap.size w W0 by rw [hW0]; exact below_alloc2 _ _ _)
  have RT := Lib.hid (show Row W0 w.heap.size #[.slice pp ps.length cp, .slice pf ms.length cf] 25 by rw [hW0]; exact (Row.new w _ _).alloc _)
  have RB := Lib.hid (show Row W0 (w.heap.size + 1) (bfA b q cq) 28 by rw [hW0]; exact Row.new1 w _ _ _)
  have HT := Lib.hid (hT.below HE.out)
  have HB := Lib.hid (hB.below HE.out)
  have HH := Lib.hid (hh.below HE.out)
  have HBI := Lib.hid (hb.below HE.out)
  have HHN := Lib.hid hhn
  have HBN := Lib.hid hbn
  have l0 := RT.out.cell 0 (v := .slice pp ps.length cp) rfl
  have l1 := RT.out.cell 1 (v := .slice pf ms.length cf) rfl
  have g0 := RB.out.cell 0 (v := .int .i64 b.pr) rfl
  have g1 := RB.out.cell 1 (v := .int .i64 b.le) rfl
  have g2 := RB.out.cell 2 (v := .int .i64 b.mo) rfl
  have g3 := RB.out.cell 3 (v := .int .i64 b.gr) rfl
  have g4 := RB.out.cell 4 (v := .slice q b.hs.length cq) rfl
  clear hW0 hT hB hh hhn hb hbn
  obtain ⟨z0, hz0⟩ : ∃ z : Later W0, W0 = z.w := ⟨⟨W0, Below.refl _ _⟩, rfl⟩
  have HZ0 := Lib.hid hz0
  clear hz0
  have HTC := Lib.hid (fun w' (k : From W0 w') => Tu.Check_any pp cp pf cf ps ms w' (HT.out.below k.b))
  have HFC := Lib.hid (fun w' (k : From W0 w') => Check_any b q cq w' (HB.out.below k.b))
  cases hbt : Tu.bookB ps (Tu.frsM ms)
  · have HT1 := Lib.hid (fun w' (k : From W0 w') => (by have h := HTC.out w' k; rw [show Tu.bookE ps (Tu.frsM ms) = 30 by simp [Tu.bookE, hbt]] at h; exact h : Calls Tryz.prog 4 #[.agg #[.slice pp ps.length cp, .slice pf ms.length cf]] w' fun e w'' => e = .returned (.int .i64 30) ∧ Below w'.heap.size w' w''))
    clear hbt HTC HFC
    go_enter Tryz.func3, Tryz.ntmps3
    go_wp2_with fail
    rw [← HW0.out, HZ0.out]
    refine (HT1.out _ z0.fr).mono ?_
    rintro e u ⟨rfl, hbu⟩
    obtain ⟨z1, hz⟩ := z0.on hbu
    subst hz
    clear hbu
    go_wp2_with fail
    refine (baked05_any _).mono ?_
    rintro e u ⟨rfl, hbu⟩
    obtain ⟨z2, hz⟩ := z1.on hbu
    subst hz
    clear hbu
    go_wp2_with fail
    go_ret
    exact ⟨rfl, z2.base HE.out⟩
  · have HT1 := Lib.hid (fun w' (k : From W0 w') => (by have h := HTC.out w' k; rw [show Tu.bookE ps (Tu.frsM ms) = 0 by simp [Tu.bookE, hbt]] at h; exact h : Calls Tryz.prog 4 #[.agg #[.slice pp ps.length cp, .slice pf ms.length cf]] w' fun e w'' => e = .returned (.int .i64 0) ∧ Below w'.heap.size w' w''))
    cases hbf : bookB b
    · have HF1 := Lib.hid (fun w' (k : From W0 w') => (by have h := HFC.out w' k; rw [bookE_bad hbf] at h; exact h : Calls Tryz.prog 5 #[.agg (bfA b q cq)] w' fun e w'' => e = .returned (.int .i64 50) ∧ Below w'.heap.size w' w''))
      clear hbt hbf HTC HFC
      go_enter Tryz.func3, Tryz.ntmps3
      go_wp2_with fail
      rw [← HW0.out, HZ0.out]
      refine (HT1.out _ z0.fr).mono ?_
      rintro e u ⟨rfl, hbu⟩
      obtain ⟨z1, hz⟩ := z0.on hbu
      subst hz
      clear hbu
      go_wp2_with fail
      refine (HF1.out _ z1.fr).mono ?_
      rintro e u ⟨rfl, hbu⟩
      obtain ⟨z2, hz⟩ := z1.on hbu
      subst hz
      clear hbu
      go_wp2_with fail
      refine (baked05_any _).mono ?_
      rintro e u ⟨rfl, hbu⟩
      obtain ⟨z3, hz⟩ := z2.on hbu
      subst hz
      clear hbu
      go_wp2_with fail
      go_ret
      exact ⟨rfl, z3.base HE.out⟩
    · have HF1 := Lib.hid (fun w' (k : From W0 w') => (by have h := HFC.out w' k; rw [bookE_ok hbf] at h; exact h : Calls Tryz.prog 5 #[.agg (bfA b q cq)] w' fun e w'' => e = .returned (.int .i64 0) ∧ Below w'.heap.size w' w''))
      have hok := bookB_iff.1 hbf
      have hto := Tu.bookB_iff.1 hbt
      have HOK := Lib.hid hok
      have HTO := Lib.hid hto
      have HBT := Lib.hid hbt
      have hp1 := hto.p1
      have hp4 := hto.p4
      have hf5 : ms.length ≤ 5 := by have := hto.f5; rw [Tu.frsM_length] at this; exact this
      have hfi1 := Lib.hid (fun w' => fits_call5 (n := (ps.length : Int)) (lo := 1) (hi := 4) (by omega) (by omega) w')
      have hfi2 := Lib.hid (fun w' => fits_call5 (n := b.gr) (lo := 1) (hi := 4) hok.g1 hok.g2 w')
      have hk5 : (5 : Int) < (ms.length : Int) ↔ False := by simp; omega
      have hBE := Tu.best_round (ps := ps) (ms := ms) hbt
      have hBS := Tu.best_short (ps := ps) (ms := ms) hbt
      obtain ⟨BL, hBL⟩ : ∃ x, Tu.bestL ps (Tu.frsM ms) = x := ⟨_, rfl⟩
      obtain ⟨eB, heB⟩ : ∃ x, Tu.bestE ps (Tu.frsM ms) = x := ⟨_, rfl⟩
      rw [hBL, heB] at hBE
      rw [hBL] at hBS
      have HBE := Lib.hid hBE
      have HBB := Lib.hid (fun w' (k : From W0 w') => (by have h := Tu.Best_any pp cp pf cf ps ms w' (HT.out.below k.b); rw [hBL, heB] at h; exact h : Calls Tryz.prog 10 #[.agg #[.slice pp ps.length cp, .slice pf ms.length cf]] w' (Tu.GaveListE BL eB w')))
      clear hbt hbf HTC HFC hok hto hBL heB hBE
      go_enter Tryz.func3, Tryz.ntmps3
      go_wp2_with fail
      rw [← HW0.out, HZ0.out]
      refine (HT1.out _ z0.fr).mono ?_
      rintro e u ⟨rfl, hbu⟩
      obtain ⟨z1, hz⟩ := z0.on hbu
      subst hz
      clear hbu
      go_wp2_with fail
      refine (HF1.out _ z1.fr).mono ?_
      rintro e u ⟨rfl, hbu⟩
      obtain ⟨z2, hz⟩ := z1.on hbu
      subst hz
      clear hbu
      go_wp2_with fail
      refine (hfi1.out _).mono ?_
      rintro e u ⟨rfl, hbu⟩
      obtain ⟨z3, hz⟩ := z2.on hbu
      subst hz
      clear hbu
      go_wp2_with fail
      refine (hfi2.out _).mono ?_
      rintro e u ⟨rfl, hbu⟩
      obtain ⟨z4, hz⟩ := z3.on hbu
      subst hz
      clear hbu
      clear HT1 HF1 hfi1 hfi2 hk5
      go_wp2_with fail
      obtain ⟨B5, hB5⟩ : ∃ n, z4.w.heap.size = n := ⟨_, rfl⟩
      have HB5 := Lib.hid hB5
      have HBI4 := Lib.hid (HBI.out.below z4.b)
      clear hB5
      go_loopw [9, 10] (fun v i wr => ∃ (k : Nat) (x : Later z4.w), k ≤ ps.length ∧ i = .int .i64 (k : Int) ∧ wr = x.w ∧ x.w.ownsRow B5 3 1 v (Tu.setL4 bits k).length ((Tu.setL4 bits k).map (Value.int .i64))) (fun _ i _ => ps.length - (intOf i).toNat)
      case atStart => exact ⟨0, ⟨z4.w, Below.refl _ _⟩, by omega, rfl, rfl, World.ownsRow_nil _ _ _ _⟩
      case round =>
        obtain ⟨k, x, hk, rfl, rfl, hown⟩ := hrel
        have HO1 := Lib.hid hown
        clear hown
        by_cases hlt : k < ps.length
        · have HS := Lib.hid (Tu.setL4_succ bits k)
          have hsl := Tu.setL4_length bits k
          have e4 : IntKind.i64.wrap ((k : Int) + 4) = (k : Int) + 4 := IntWalk.i64_in _ (by omega)
          obtain ⟨itv, hiv⟩ : ∃ y, item bits ((k : Int) + 4) = y := ⟨_, rfl⟩
          rw [hiv] at HS
          obtain ⟨v, hv⟩ : ∃ y, spin itv 4 = y := ⟨_, rfl⟩
          rw [hv] at HS
          have HIT := Lib.hid (fun w' (hi : IntsAt w' pb bits) => item_call5 HBN.out hiv pb cb w' hi)
          have HSP := Lib.hid (fun w' => spin_call5 hv (by unfold I64; omega) w')
          have hb5x : B5 ≤ x.w.heap.size := by rw [← HB5.out]; exact x.b.size
          clear hiv hv
          go_wp2_with fail
          refine (HIT.out _ (HBI4.out.below x.b)).mono ?_
          rintro e u ⟨rfl, hbu⟩
          have HO1 := Lib.hid (owns_below HO1.out hbu)
          obtain ⟨x1, hz⟩ := x.on hbu
          subst hz
          clear hbu
          go_wp2_with fail
          refine (HSP.out _).mono ?_
          rintro e u ⟨rfl, hbu⟩
          have HO1 := Lib.hid (owns_below HO1.out hbu)
          obtain ⟨x2, hz⟩ := x1.on hbu
          subst hz
          clear hbu
          have hb5y : B5 ≤ x2.w.heap.size := by rw [← HB5.out]; exact x2.b.size
          obtain ⟨i0, hi, hi0, hi1, hi2⟩ := info_parts Tryz.infoInt
          go_wp2_with (first
            | (at_builtin; (refine wpList_append_own _ rfl _ _ 29 rfl B5 3 i0 (.int .i64 0) 1 8 Tryz.underlying29 hi hi0 hi1 hi2 rfl (by decide) _ _ _ rfl (owns_below HO1.out (below_alloc _ _)) ⟨x2.w.heap.size, 0, none⟩ 1 1 [.int .i64 v] rfl rfl (cell_one_new _ _ _) (by simp [Value.oneCell']) (by unfold maxLen; omega) (by omega) (by simp; omega) ?_); intro v' w2 hown' hgrow _; have HO := Lib.hid hown'; have hg2 : Below B5 x2.w w2 := ((Below.refl _ _).alloc (by omega) _).grown hgrow (by simp; omega) (fun k hk => (HO1.out.lt k hk).1); clear hown' hgrow))
          obtain ⟨x3, hx3⟩ := later_of (x2.b.trans (hg2.mono (by rw [← HB5.out]; exact Nat.le_refl _)))
          go_roundw
          case rel => exact ⟨k + 1, x3, by omega, by go_num, hx3, by rw [← hx3, HS.out]; simpa using HO.out⟩
          case measure => simp [intOf]; omega
        · obtain rfl : k = ps.length := by omega
          obtain ⟨p5, c5, rfl, hints, hle5, hcm5, _⟩ := ints_of_owns2 HO1.out
          have HI5 := Lib.hid hints
          have HS5 := Lib.hid (Tu.setL4_set bits ps.length)
          have hs5l := Tu.setL4_length bits ps.length
          clear hints HO1 HB5 HBI4
          obtain ⟨S5, hS5⟩ : ∃ y, Tu.setL4 bits ps.length = y := ⟨_, rfl⟩
          rw [hS5] at HI5 HS5 hs5l hle5 ⊢
          clear hS5 hlt hk
          obtain ⟨z5, hz⟩ := z4.up x
          rw [hz] at HI5 ⊢
          clear hz x
          have HSN := Lib.hid hs5l
          clear hs5l hle5 hcm5
          go_wp2_with fail
          refine (HBB.out _ z5.fr).mono ?_
          rintro e u ⟨pB, cB, rfl, hiB, hbu⟩
          have HIB := Lib.hid hiB
          have HI5 := Lib.hid (HI5.out.below hbu)
          obtain ⟨z6, hz⟩ := z5.on hbu
          subst hz
          clear hbu hiB
          go_upto_region 9 with (fail)
          go_cut [84] from 77 to 83 (fun s84 wx => ∃ (bv : Bool) (y : Later z6.w), s84 = .bool bv ∧ wx = y.w ∧ (bv = true → eB = 0))
          case first =>
            by_cases he : eB = 0
            · have HHI6 := Lib.hid (HH.out.below z6.b)
              obtain ⟨hv, hhv⟩ : ∃ y, item heads 0 = y := ⟨_, rfl⟩
              have HIT := Lib.hid (fun w' (hi : IntsAt w' ph heads) => item_call5 HHN.out hhv ph ch w' hi)
              subst he
              clear hhv
              go_wp2_with fail
              refine (HIT.out _ HHI6.out).mono ?_
              rintro e u ⟨rfl, hbu⟩
              obtain ⟨y1, hz⟩ := later_of hbu
              subst hz
              clear hbu
              go_wp2_with fail
              go_meet
              exact ⟨_, y1, rfl, rfl, fun _ => by first | trivial | rfl⟩
            · have he2 : (eB == 0) = false := by simpa using he
              go_wp2_with fail
              go_meet
              exact ⟨false, ⟨z6.w, Below.refl _ _⟩, by simp, rfl, fun h => by cases h⟩
          case rest =>
            obtain ⟨bv, y, rfl, rfl, hbv⟩ := hcut
            have HBV := Lib.hid hbv
            clear hbv
            have HI5 := Lib.hid (HI5.out.below y.b)
            have HIB := Lib.hid (HIB.out.below y.b)
            obtain ⟨z7, hz⟩ := z6.up y
            rw [hz] at HI5 HIB ⊢
            clear hz y
            go_upto_if 84 with (fail)
            go_cut [9] from 85 to 85 (fun s9 wx => ∃ (S : List Int) (p9 : Option Addr) (c9 : Nat), s9 = .slice p9 S.length c9 ∧ wx = z7.w ∧ IntsAt z7.w p9 S ∧ Tu.isSetB ps.length S = true)
            case first =>
              cases bv
              · go_wp2_with fail
                go_meet
                exact ⟨S5, p5, c5, by first | rfl | rw [HSN.out], rfl, HI5.out, HS5.out⟩
              · go_wp2_with fail
                go_meet
                exact ⟨BL, pB, cB, rfl, rfl, HIB.out, (HBE.out (HBV.out (by first | rfl | trivial))).1⟩
            case rest =>
              obtain ⟨S, p9, c9, rfl, rfl, hi9, hs9⟩ := hcut
              have HI9 := Lib.hid hi9
              have HS9 := Lib.hid hs9
              have hsl : S.length = ps.length := by unfold Tu.isSetB at hs9; rw [Bool.and_eq_true, decide_eq_true_eq] at hs9; exact hs9.1
              have HSL := Lib.hid hsl
              have hs4 : S.length ≤ 4 := by omega
              clear HBV HI5 HS5 HSN hi9 hs9 hsl HBB
              obtain ⟨ps', hps'⟩ : ∃ y, Tu.knowP (Tu.trueD ps bits) ps.length ps = y := ⟨_, rfl⟩
              have HPL := Lib.hid (show ps'.length = ps.length by rw [← hps', Tu.knowP_length])
              have HTR := Lib.hid (fun w' (k : From W0 w') => (by have h := Tu.truly04_any pp cp pf ms.length cf ps pb cb bits w' (HT.out.below k.b).p HTO.out.p (by omega) hp4 (HBI.out.below k.b) HBN.out; rw [hps'] at h; exact h : Calls Tryz.prog 11 #[.agg #[.slice pp ps.length cp, .slice pf ms.length cf], .slice pb bits.length cb] w' (Tu.GaveDamp ps' pf ms.length cf w')))
              have HRD := Lib.hid (fun k (hk : k < ms.length) => (by have h := Tu.frame_round HBT.out bits HS9.out hk; rw [hps'] at h; exact h : ∃ kd d : Int, Tu.kindV ps (Tu.frsM ms) S k = kd ∧ Tu.frameE ps (Tu.frsM ms) S k = 0 ∧ Tu.frameE ps' (Tu.frsM ms) S k = 0 ∧ Tu.loV ps' (Tu.frsM ms) S k = d ∧ Tu.hiV ps' (Tu.frsM ms) S k = d ∧ (kd = 0 → ms[k].f.lo ≤ d ∧ d ≤ ms[k].f.hi)))
              clear hps'
              go_wp2_with fail
              refine (HTR.out _ z7.fr).mono ?_
              rintro e u ⟨gT, cT, rfl, hpT, _, hbu⟩
              have HPT := Lib.hid hpT
              have HI9 := Lib.hid (HI9.out.below hbu)
              have HIB := Lib.hid (HIB.out.below hbu)
              obtain ⟨z8, hz⟩ := z7.on hbu
              subst hz
              clear hbu hpT HTR
              go_upto_region 12 with (first
                | (refine store_new rfl 25 _ _ rfl #[.slice (some ⟨gT, 0, none⟩) ps'.length cT, .slice pf ms.length cf] #[.slice none 0 0, .slice none 0 0] 25 rfl rfl (by kernel_rfl) rfl (by simp [Value.oneCell']) ?_))
              have hb8 := below_alloc z8.w (.cells #[.slice (some ⟨gT, 0, none⟩) ps'.length cT, .slice pf ms.length cf] 25)
              have rt := Row.new z8.w #[.slice (some ⟨gT, 0, none⟩) ps'.length cT, .slice pf ms.length cf] 25
              have HPT := Lib.hid (HPT.out.below hb8)
              have HI9 := Lib.hid (HI9.out.below hb8)
              have HIB := Lib.hid (HIB.out.below hb8)
              obtain ⟨z9, hz9⟩ := z8.on hb8
              rw [hz9] at rt HPT HI9 HIB ⊢
              obtain ⟨TB, hTB⟩ : ∃ n, z8.w.heap.size = n := ⟨_, rfl⟩
              have hTB0 : W0.heap.size ≤ TB := by rw [← hTB]; exact z8.b.size
              rw [hTB] at rt ⊢
              have RTB := Lib.hid rt
              clear hb8 hz9 rt hTB
              go_upto_region 13 with (first
                | (refine store_new rfl 28 _ _ rfl (bfA b q cq) #[.int .i64 0, .int .i64 0, .int .i64 0, .int .i64 0, .slice none 0 0] 28 rfl rfl (by kernel_rfl) rfl (by simp [bfA, Value.oneCell']) ?_))
              have hb9 := below_alloc z9.w (.cells (bfA b q cq) 28)
              have rx := Row.new z9.w (bfA b q cq) 28
              have hTX : TB < z9.w.heap.size := RTB.out.lt
              have hX9 : W0.heap.size ≤ z9.w.heap.size := z9.b.size
              obtain ⟨z10, hz10⟩ := z9.on hb9
              have HZ10 := Lib.hid hz10
              rw [hz10] at rx ⊢
              obtain ⟨X, hX⟩ : ∃ n, z9.w.heap.size = n := ⟨_, rfl⟩
              have HXX := Lib.hid hX
              rw [hX] at rx hTX hX9 ⊢
              have RX0 := Lib.hid rx
              clear hb9 hz10 hX
              have x4 := rx.cell 4 (v := .slice q b.hs.length cq) rfl
              have x4f := rx.free 4
              clear rx
              go_upto_region 14 with (fail)
              clear x4 x4f
              have E9 : Below z9.w.heap.size z9.w (z10.w.setCell ⟨X, 4, none⟩ (.slice none 0 0)) := by
                rw [← HZ10.out]
                exact (below_alloc _ _).setCell (by dsimp only; rw [HXX.out]; exact Nat.le_refl _) _
              have RXN := RX0.out.set 4 (.slice none 0 0)
              obtain ⟨xC, hxC⟩ := later_of E9
              rw [hxC] at RXN ⊢
              have RX := Lib.hid (show Row xC.w X #[.int .i64 b.pr, .int .i64 b.le, .int .i64 b.mo, .int .i64 b.gr, .slice none 0 0] 28 from RXN)
              have hzAX : z9.w.heap.size ≤ X := by rw [HXX.out]; exact Nat.le_refl _
              clear E9 RXN hxC HZ10 HXX RX0 z10
              obtain ⟨BS, hBS⟩ : ∃ n, xC.w.heap.size = n := ⟨_, rfl⟩
              have HBS := Lib.hid hBS
              have hXB : X < BS := by rw [← hBS]; exact RX.out.lt
              have hzX : z9.w.heap.size ≤ BS := by omega
              clear hBS
              have HBK := Lib.hid (fun w' (k : From z9.w w') => (⟨HPT.out.below k.b, (HT.out.below (z9.fr.trans k).b).f, by rw [HPL.out]; exact HT.out.b1, HT.out.b2, HT.out.b3⟩ : Tu.BkAt w' (some ⟨gT, 0, none⟩) pf ps' ms))
              go_wp2_with fail
              go_loopw [15, 16, 17] (fun v15 lo i wr => ∃ (k : Nat) (HX : List Hd) (T : List Int) (vx vt : Value) (lost : Bool) (x : Later z9.w), k ≤ ms.length ∧ vt = v15 ∧ i = .int .i64 (k : Int) ∧ lo = .bool lost ∧ HX.length = k ∧ Hid (Frm HX T lost) ∧ wr = x.w ∧ Row x.w X #[.int .i64 b.pr, .int .i64 b.le, .int .i64 b.mo, .int .i64 b.gr, vx] 28 ∧ x.w.ownsRow BS 43 2 vx HX.length (hdV HX) ∧ x.w.ownsRow BS 3 1 vt T.length (T.map (Value.int .i64)) ∧ (∀ g, vx.ownBlock = some g → vt.ownBlock ≠ some g) ∧ BS ≤ x.w.heap.size ∧ Hid (eB = 0 → S = BL → lost = false)) (fun _ _ i _ => ms.length - (intOf i).toNat)
              case atStart => exact ⟨0, [], [], .slice none 0 0, .slice none 0 0, false, xC, by omega, rfl, rfl, rfl, rfl, Lib.hid Frm.nil, rfl, RX.out, World.ownsRow_nil _ _ _ _, World.ownsRow_nil _ _ _ _, fun g h => by simp [Value.ownBlock] at h, by rw [HBS.out]; exact Nat.le_refl _, Lib.hid fun _ _ => rfl⟩
              case round =>
                clear RX
                obtain ⟨k, HX, T, vx, vt, lost, x, hk, rfl, rfl, rfl, hkx, hfm, rfl, hrx, hox, hot, hne, hbs, HLS⟩ := hrel
                have HFM := Lib.hid hfm.out
                have RX := Lib.hid hrx
                have OX := Lib.hid hox
                have OT := Lib.hid hot
                have ON := Lib.hid hne
                clear hrx hox hot hne hfm
                by_cases hlt : k < ms.length
                · obtain ⟨kd, d, e1, e2, e3, e4, e5, hin⟩ := HRD.out k hlt
                  have HIN := Lib.hid hin
                  have HK0 := Lib.hid (show S = BL → eB = 0 → kd = 0 from fun h1 h2 => by rw [← e1, h1]; exact (HBE.out h2).2 k hlt)
                  obtain ⟨fb, fo, efp, _, f1, f2, _⟩ := (HT.out.below (z9.fr.trans x.fr).b).f k hlt
                  subst efp
                  have HKI := Lib.hid (fun w' (kf : From x.w w') => (by have h := Tu.Kind_any pp cp (some ⟨fb, fo, none⟩) cf ps ms w' (HT.out.below (z9.fr.trans (x.fr.trans kf)).b) p9 c9 S (HI9.out.below (x.fr.trans kf).b) (by omega) (k : Int); rw [e1, e2] at h; exact h : Calls Tryz.prog 12 #[.agg #[.slice pp ps.length cp, .slice (some ⟨fb, fo, none⟩) ms.length cf], .slice p9 S.length c9, .int .i64 (k : Int)] w' fun e w'' => e = .returned (.tuple #[.int .i64 kd, .int .i64 0]) ∧ Below w'.heap.size w' w''))
                  have HDR := Lib.hid (fun w' (kf : From x.w w') => (by have h := Tu.Dries_any (some ⟨gT, 0, none⟩) cT (some ⟨fb, fo, none⟩) cf ps' ms w' (HBK.out _ (x.fr.trans kf)) p9 c9 S (HI9.out.below (x.fr.trans kf).b) (by omega) (k : Int); rw [e3, e4, e5] at h; exact h : Calls Tryz.prog 13 #[.agg #[.slice (some ⟨gT, 0, none⟩) ps'.length cT, .slice (some ⟨fb, fo, none⟩) ms.length cf], .slice p9 S.length c9, .int .i64 (k : Int)] w' fun e w'' => e = .returned (.tuple #[.agg #[.int .i64 d, .int .i64 d], .int .i64 0]) ∧ Below w'.heap.size w' w''))
                  obtain ⟨flo, hflo⟩ : ∃ y, ms[k].f.lo = y := ⟨_, rfl⟩
                  obtain ⟨fhi, hfhi⟩ : ∃ y, ms[k].f.hi = y := ⟨_, rfl⟩
                  rw [hflo] at f1 HIN
                  rw [hfhi] at f2 HIN
                  clear hflo hfhi e1 e2 e3 e4 e5 hin
                  have HF1 := Lib.hid f1
                  have HF2 := Lib.hid f2
                  obtain ⟨hv, hhv⟩ : ∃ y, item heads (k : Int) = y := ⟨_, rfl⟩
                  obtain ⟨mn, hmn⟩ : ∃ y, spin hv 11 = y := ⟨_, rfl⟩
                  have hmr := spin_range hv 11 (by omega)
                  rw [hmn] at hmr
                  have HIT := Lib.hid (item_call5 HHN.out hhv ph ch x.w (HH.out.below (z9.fr.trans x.fr).b))
                  have HSP := Lib.hid (fun w' => spin_call5 hmn (by unfold I64; omega) w')
                  have l0x := x.fr.cell (z9.fr.cell l0)
                  have l1x := x.fr.cell (z9.fr.cell l1)
                  have rtx := RTB.out.below x.b RTB.out.lt
                  have t0x := rtx.cell 0 (v := .slice (some ⟨gT, 0, none⟩) ps'.length cT) rfl
                  have t1x := rtx.cell 1 (v := .slice (some ⟨fb, fo, none⟩) ms.length cf) rfl
                  have i1 : (0 : Int) ≤ (k : Int) := by omega
                  have i2 : (k : Int) < (ms.length : Int) := by omega
                  clear l0 l1 g0 g1 g2 g3 g4 rtx hhv hmn f1 f2
                  go_wp2_with fail
                  refine HIT.out.mono ?_
                  rintro e u ⟨rfl, hbu⟩
                  obtain ⟨y1, hz⟩ := later_of hbu
                  subst hz
                  clear hbu HIT
                  go_wp2_with fail
                  refine (HSP.out _).mono ?_
                  rintro e u ⟨rfl, hbu⟩
                  obtain ⟨y2, hz⟩ := y1.on hbu
                  subst hz
                  clear hbu
                  go_wp2_with fail
                  refine (HKI.out _ y2.fr).mono ?_
                  rintro e u ⟨rfl, hbu⟩
                  obtain ⟨y3, hz⟩ := y2.on hbu
                  subst hz
                  clear hbu
                  go_wp2_with fail
                  refine (HDR.out _ y3.fr).mono ?_
                  rintro e u ⟨rfl, hbu⟩
                  obtain ⟨y4, hz⟩ := y3.on hbu
                  subst hz
                  clear hbu
                  clear HSP HKI HDR
                  go_upto_region 22 with (first
                    | (refine store_new rfl 43 _ _ rfl #[.int .i64 d, .int .i64 d] #[.int .i64 0, .int .i64 0] 43 rfl rfl (by kernel_rfl) rfl (by simp [Value.oneCell']) ?_))
                  have hb5 := below_alloc y4.w (.cells #[.int .i64 d, .int .i64 d] 43)
                  have rd := Row.new y4.w #[.int .i64 d, .int .i64 d] 43
                  obtain ⟨y5, hy5⟩ := y4.on hb5
                  rw [hy5] at rd ⊢
                  obtain ⟨D, hD⟩ : ∃ n, y4.w.heap.size = n := ⟨_, rfl⟩
                  rw [hD] at rd ⊢
                  have RD := Lib.hid rd
                  clear hb5 hy5 hD
                  have d0 := rd.cell 0 (v := .int .i64 d) rfl
                  have d1 := rd.cell 1 (v := .int .i64 d) rfl
                  clear rd
                  go_wp2_with fail
                  refine (Only_any _ _).mono ?_
                  rintro e u ⟨rfl, hbu⟩
                  have RD := Lib.hid (RD.out.below hbu RD.out.lt)
                  obtain ⟨y6, hz⟩ := y5.on hbu
                  subst hz
                  clear hbu d0 d1
                  go_upto_region 25 with (first
                    | (refine store_new rfl 43 _ _ rfl #[.int .i64 mn, .int .i64 mn] #[.int .i64 0, .int .i64 0] 43 rfl rfl (by kernel_rfl) rfl (by simp [Value.oneCell']) ?_))
                  have hb7 := below_alloc y6.w (.cells #[.int .i64 mn, .int .i64 mn] 43)
                  have rn := Row.new y6.w #[.int .i64 mn, .int .i64 mn] 43
                  have rd := RD.out.below hb7 RD.out.lt
                  have hDN : D < y6.w.heap.size := RD.out.lt
                  have hNx : x.w.heap.size ≤ y6.w.heap.size := y6.b.size
                  obtain ⟨y7, hy7⟩ := y6.on hb7
                  rw [hy7] at rn rd ⊢
                  obtain ⟨N, hN⟩ : ∃ n, y6.w.heap.size = n := ⟨_, rfl⟩
                  rw [hN] at rn hDN hNx ⊢
                  have RN := Lib.hid rn
                  have RD := Lib.hid rd
                  clear hb7 hy7 hN rn rd
                  go_upto_if 133 with (fail)
                  go_cut [16] from 133 to 135 (fun s16 wx => ∃ (lo : Int) (l' : Bool) (y : Later x.w), s16 = .bool l' ∧ wx = y.w ∧ Row y.w N #[.int .i64 lo, .int .i64 mn] 43 ∧ Row y.w D #[.int .i64 d, .int .i64 d] 43 ∧ ((kd = 0 ∧ lo = mn ∧ l' = lost) ∨ (kd ≠ 0 ∧ lo = 0 ∧ l' = true)))
                  case first =>
                    by_cases hkd : kd = 0
                    · have hk1 : (kd != 0) = false := by simp [hkd]
                      go_wp2_with fail
                      go_meet
                      exact ⟨mn, lost, y7, rfl, rfl, RN.out, RD.out, .inl ⟨hkd, rfl, rfl⟩⟩
                    · have hk1 : (kd != 0) = true := by simp [hkd]
                      go_wp2_with fail
                      refine (Sp_any _ _ _).mono ?_
                      rintro e u ⟨rfl, hbu⟩
                      have RD := Lib.hid (RD.out.below hbu RD.out.lt)
                      have RN := Lib.hid (RN.out.below hbu RN.out.lt)
                      obtain ⟨y8, hz⟩ := y7.on hbu
                      subst hz
                      clear hbu
                      have rs := RN.out.setRow #[.int .i64 0, .int .i64 mn]
                      have rds := RD.out.setRow_other #[.int .i64 0, .int .i64 mn] (g := N) (by omega)
                      obtain ⟨y9, hy9⟩ := later_of (below_setRow y8.b (g := N) hNx #[.int .i64 0, .int .i64 mn])
                      rw [hy9] at rs rds
                      have HY9 := Lib.hid hy9
                      go_wp2_with (first
                        | (refine store_row rfl 43 _ _ rfl N #[.int .i64 0, .int .i64 mn] #[.int .i64 mn, .int .i64 mn] 43 rfl rfl RN.out (by kernel_rfl) rfl (by simp [Value.oneCell']) ?_))
                      go_meet
                      exact ⟨0, true, y9, rfl, by first | rfl | exact HY9.out, rs, rds, .inr ⟨hkd, rfl, rfl⟩⟩
                  case rest =>
                    obtain ⟨lo, l', y, rfl, rfl, rn, rd, hways⟩ := hcut
                    clear RN RD
                    have RN := Lib.hid rn
                    have RD := Lib.hid rd
                    have HWY := Lib.hid hways
                    clear rn rd hways
                    go_upto_region 27 with (fail)
                    obtain ⟨hb, hhb⟩ : ∃ v, fits d flo fhi = v := ⟨_, rfl⟩
                    have HHA := Lib.hid (fun w' => has_call5 hhb w')
                    have HHB := Lib.hid (show kd = 0 → hb = true from fun e => by rw [← hhb]; exact fits_yes (HIN.out e))
                    have d0 := RD.out.cell 0 (v := .int .i64 d) rfl
                    have f1 := y.fr.cell HF1.out
                    have f2 := y.fr.cell HF2.out
                    clear hhb
                    refine wp_region_later (by kernel_rfl) (by kernel_rfl) ?_
                    repeat (go_big_quiet_step (first
                      | (go_at_call 16; with_reducible exact Calls.later_of (HHA.out _))))
                    refine wpQuiet_nil ?_
                    intro _ hw'
                    obtain ⟨yq, hw''⟩ := hw'
                    subst hw''
                    have RN := Lib.hid (RN.out.below yq.b RN.out.lt)
                    obtain ⟨y10, hy10⟩ := y.up yq
                    rw [hy10] at RN ⊢
                    clear hy10 d0 f1 f2 yq RD HHA
                    go_upto_if 145 with (fail)
                    go_cut [24] from 145 to 152 (fun s24 wx => ∃ (n : Int) (yy : Later y10.w), s24 = .int .i64 n ∧ wx = yy.w ∧ ((hb = true ∧ n = mn) ∨ (0 ≤ n ∧ n ≤ mn)) ∧ (hb = true → n = mn))
                    case first =>
                      cases hb
                      · obtain ⟨it, hit⟩ : ∃ v, item bits ((k : Int) + 1) = v := ⟨_, rfl⟩
                        obtain ⟨sp, hsp⟩ : ∃ v, spin it (mn + 1) = v := ⟨_, rfl⟩
                        have hspr := spin_range it (mn + 1) (by omega)
                        rw [hsp] at hspr
                        have ek : IntKind.i64.wrap ((k : Int) + 1) = (k : Int) + 1 := IntWalk.i64_in _ (by omega)
                        have em : IntKind.i64.wrap (mn + 1) = mn + 1 := IntWalk.i64_in _ (by omega)
                        have HIT := Lib.hid (fun w' (hi : IntsAt w' pb bits) => item_call5 HBN.out hit pb cb w' hi)
                        have HSP := Lib.hid (fun w' => spin_call5 hsp (by unfold I64; omega) w')
                        clear hit hsp
                        go_wp2_with fail
                        refine (HIT.out _ (HBI.out.below (z9.fr.trans (x.fr.trans y10.fr)).b)).mono ?_
                        rintro e u ⟨rfl, hbu⟩
                        obtain ⟨v1, hz⟩ := later_of hbu
                        subst hz
                        clear hbu
                        go_wp2_with fail
                        refine (HSP.out _).mono ?_
                        rintro e u ⟨rfl, hbu⟩
                        obtain ⟨v2, hz⟩ := v1.on hbu
                        subst hz
                        clear hbu
                        go_wp2_with fail
                        go_meet
                        exact ⟨sp, v2, rfl, rfl, .inr ⟨by omega, by omega⟩, fun h => by first | (cases h) | (simp at h)⟩
                      · go_wp2_with fail
                        go_meet
                        exact ⟨mn, ⟨y10.w, Below.refl _ _⟩, rfl, rfl, .inl ⟨by first | rfl | trivial, rfl⟩, fun _ => rfl⟩
                    case rest =>
                      obtain ⟨n, yy, rfl, rfl, hn1, hn2⟩ := hcut
                      have HN2 := Lib.hid (show lo ≤ n ∧ n ≤ mn ∧ 0 ≤ lo ∧ (l' = false → lost = false ∧ lo = mn) ∧ (l' = false ∨ kd ≠ 0 ∨ l' = lost) ∧ (kd = 0 → l' = lost) from by
                        rcases HWY.out with ⟨a1, a2, a3⟩ | ⟨a1, a2, a3⟩
                        · have hm := hn2 (HHB.out a1)
                          exact ⟨by omega, by omega, by omega, fun h => ⟨by rw [← a3]; exact h, a2⟩, .inr (.inr a3), fun _ => a3⟩
                        · refine ⟨?_, ?_, by omega, fun h => (by rw [a3] at h; cases h), .inr (.inl a1), fun h => (a1 h).elim⟩
                          · rcases hn1 with ⟨_, h⟩ | h <;> omega
                          · rcases hn1 with ⟨_, h⟩ | h <;> omega)
                      clear hn1 hn2 HWY HHB
                      have RN := Lib.hid (RN.out.below yy.b RN.out.lt)
                      obtain ⟨y11, hy11⟩ := y10.up yy
                      rw [hy11] at RN ⊢
                      clear hy11 yy
                      have n0 := RN.out.cell 0 (v := .int .i64 lo) rfl
                      have n1 := RN.out.cell 1 (v := .int .i64 mn) rfl
                      have HHC := Lib.hid (fun w' => has_call5 (fits_yes ⟨HN2.out.1, HN2.out.2.1⟩) w')
                      go_wp2_with fail
                      refine (HHC.out _).mono ?_
                      rintro e u ⟨rfl, hbu⟩
                      have RN := Lib.hid (RN.out.below hbu RN.out.lt)
                      obtain ⟨y12, hz⟩ := y11.on hbu
                      subst hz
                      clear hbu n0 n1 HHC
                      go_upto_region 31 with (fail)
                      have HREG := Lib.hid (show Reg2 BS X N #[.int .i64 b.pr, .int .i64 b.le, .int .i64 b.mo, .int .i64 b.gr, vx] lo mn vx vt HX T z9.w y12.w from ⟨owns_below OX.out y12.b, owns_below OT.out y12.b, ON.out, RX.out.below y12.b RX.out.lt, RN.out, fun e => by have := (OX.out.lt _ e).2; omega, fun e => by have := (OT.out.lt _ e).2; omega, hXB, hzX, Nat.le_trans hbs y12.b.size, x.fr.trans y12.fr⟩)
                      have hnx : HX.length ≤ 100 := by omega
                      have hnt : T.length ≤ 100 := by have := HFM.out.n; omega
                      have p0 := HREG.out.rx.cell 4 (v := vx) rfl
                      have p1 := HREG.out.r1.cell 0 (v := .int .i64 lo) rfl
                      have p2 := HREG.out.r1.cell 1 (v := .int .i64 mn) rfl
                      clear RX OX OT ON RN
                      obtain ⟨va, W2, hr1, hreg2, _, _⟩ := (HREG.out.alloc (.cells #[.int .i64 lo, .int .i64 mn] 43)).appx (by omega) y12.w.heap.size (Row.new _ _ _) 26
                      obtain ⟨vb, W4, hr2, hreg4, _, _⟩ := (hreg2.alloc (.cells #[.int .i64 n] 3)).appt (by omega) W2.heap.size n (Row.new _ _ _) 29
                      obtain ⟨pa, ca, hva⟩ := owns_slice hreg4.x
                      subst hva
                      have HR1 := Lib.hid hr1
                      have HR2 := Lib.hid hr2
                      have HREG := Lib.hid hreg4
                      clear hr1 hr2 hreg2 hreg4
                      have HFN := Lib.hid (HFM.out.snoc (x := ⟨lo, mn⟩) (n := n) (l' := l') HN2.out.2.2.1 HN2.out.1 HN2.out.2.1 (by dsimp only; omega) HN2.out.2.2.2.1)
                      have HLN := Lib.hid (show (HX ++ [(⟨lo, mn⟩ : Hd)]).length = k + 1 by simp; omega)
                      obtain ⟨HX2, hHX2⟩ : ∃ l, HX ++ [(⟨lo, mn⟩ : Hd)] = l := ⟨_, rfl⟩
                      obtain ⟨T2, hT2⟩ : ∃ l, T ++ [n] = l := ⟨_, rfl⟩
                      rw [hHX2] at HREG HFN HLN HR1
                      rw [hT2] at HREG HFN
                      clear hHX2 hT2
                      have q0 := HREG.out.rx.cell 4 (v := vx) rfl
                      have q1 := HREG.out.rx.free 4
                      obtain ⟨xs, hxs, hrx, hox, hot, hne, hbs2⟩ := HREG.out.stores hzAX
                      have HRS := Lib.hid hrx
                      have HOS := Lib.hid hox
                      have HOT := Lib.hid hot
                      have HNS := Lib.hid hne
                      have HXS := Lib.hid hxs
                      clear hrx hox hot hne hxs
                      go_wp2_with (first
                        | (at_builtin; refine wpList_append_run rfl _ _ _ _ rfl vx (.slice (some ⟨y12.w.heap.size, 0, none⟩) 1 1) _ rfl rfl HR1.out ?_)
                        | (at_builtin; refine wpList_append_run rfl _ _ _ _ rfl vt (.slice (some ⟨W2.heap.size, 0, none⟩) 1 1) _ rfl rfl HR2.out ?_))
                      go_roundw
                      case rel => exact ⟨k + 1, HX2, T2, .slice pa HX2.length ca, _, l', xs, by omega, rfl, by go_num, rfl, HLN.out, HFN, by first | rfl | exact HXS.out, HRS.out, HOS.out, HOT.out, HNS.out, hbs2, Lib.hid fun h1 h2 => (HN2.out.2.2.2.2.2 (HK0.out h2 h1)).trans (HLS.out h1 h2)⟩
                      case measure => simp [intOf]; omega
                · obtain rfl : k = ms.length := by omega
                  have hfm := HFM.out
                  have htl := hfm.n
                  obtain ⟨px, dx, rfl, hdx, hcx⟩ := hds_cap OX.out
                  obtain ⟨pt, ct, rfl, hti, htc, _, _⟩ := ints_of_owns2 OT.out
                  have hbx := Lib.hid (show BfAt x.w px dx { b with hs := HX } from ⟨hdx, by dsimp only; omega, hcx, HB.out.i1⟩)
                  have RX := Lib.hid (show Row x.w X (bfA { b with hs := HX } px dx) 28 from RX.out)
                  have hkX := book_ok HOK.out (HX := HX) (by omega) hfm.ok
                  have hIn : In5 { b with hs := HX } T := ⟨hfm.n, fun i h h' => ⟨(hfm.h i h h').2.1, (hfm.h i h h').2.2.1⟩⟩
                  have hsm : lost = false → ∀ y ∈ ({ b with hs := HX } : Bf).hs, y.lo = y.hi := hfm.e
                  generalize ({ b with hs := HX } : Bf) = bX at hbx RX hkX hIn hsm
                  have okX := bookB_iff.1 hkX
                  obtain ⟨lx, ex1, ex2, _⟩ := best_few okX
                  have ex3 : bestQ bX = lx := bestL_of ex1
                  have hlx := plan_len ex2
                  have HTI := Lib.hid hti
                  have HBO := Lib.hid (boxes05_any bX px dx pt ct T x.w hbx.out hkX hIn hti htc)
                  have HBX := Lib.hid (fun w' (k : From x.w w') => (by have h := Best_yes bX px dx w' (hbx.out.below k.b) hkX; unfold GavePlan at h; rw [ex3] at h; exact h : Calls Tryz.prog 19 #[.agg (bfA bX px dx)] w' fun e w'' => ∃ q cq, e = .returned (.tuple #[.slice q lx.length cq, .int .i64 0]) ∧ IntsAt w'' q lx ∧ Below w'.heap.size w' w''))
                  have HOV := Lib.hid (fun w' (k : From x.w w') q cq (hi : IntsAt w' q lx) => Over_yes bX px dx q cq lx w' (hbx.out.below k.b) hkX hi (by have := hbx.out.n; omega) (nums_of_plan okX ex2) ex2)
                  have hos := fun h => over_same (b := bX) (hsm h) lx
                  obtain ⟨olo, holo⟩ : ∃ v, overV Hd.lo bX lx = v := ⟨_, rfl⟩
                  obtain ⟨ohi, hohi⟩ : ∃ v, overV Hd.hi bX lx = v := ⟨_, rfl⟩
                  rw [holo, hohi] at HOV hos
                  have HOS := Lib.hid hos
                  have HAL := Lib.hid (fun w' (k : From x.w w') => Alike_any p9 pB c9 cB S BL w' (by unfold maxLen; omega) (HI9.out.below (x.fr.trans k).b) (HIB.out.below (x.fr.trans k).b))
                  have l1x := x.fr.cell (z9.fr.cell l1)
                  clear holo hohi hos ex1 ex2 ex3 hlx okX hIn hsm hkX hbx hti htc hdx hcx hfm htl OX OT ON hk hlt hbs HFM l0 l1 g0 g1 g2 g3 g4
                  have c0 := RX.out.cell 0 (v := .int .i64 bX.pr) rfl
                  have c1 := RX.out.cell 1 (v := .int .i64 bX.le) rfl
                  have c2 := RX.out.cell 2 (v := .int .i64 bX.mo) rfl
                  have c3 := RX.out.cell 3 (v := .int .i64 bX.gr) rfl
                  have c4 := RX.out.cell 4 (v := .slice px bX.hs.length dx) rfl
                  go_upto_region 32 with (fail)
                  clear l1x
                  go_cut [182] from 167 to 181 (fun s182 wx => ∃ (y : Later x.w), s182 = .bool false ∧ wx = y.w)
                  case first =>
                    by_cases he : eB = 0
                    · have he1 := HLS.out he
                      subst he
                      go_wp2_with fail
                      refine HBO.out.mono ?_
                      rintro e u ⟨rfl, hbu⟩
                      obtain ⟨y1, hz⟩ := later_of hbu
                      subst hz
                      clear hbu
                      go_wp2_with fail
                      refine (HAL.out _ y1.fr).mono ?_
                      rintro e u ⟨rfl, hbu⟩
                      obtain ⟨y2, hz⟩ := y1.on hbu
                      subst hz
                      clear hbu
                      by_cases hsb : S = BL
                      · have hl0 := he1 hsb
                        have hd : decide (S = BL) = true := by simp [hsb]
                        rw [hd]
                        clear hd hsb he1
                        subst hl0
                        go_wp2_with fail
                        go_meet
                        exact ⟨y2, rfl, rfl⟩
                      · have hd : decide (S = BL) = false := by simp [hsb]
                        rw [hd]
                        clear hd hsb he1
                        go_wp2_with fail
                        go_meet
                        exact ⟨y2, rfl, rfl⟩
                    · have he2 : (eB == 0) = false := by simpa using he
                      go_wp2_with fail
                      refine HBO.out.mono ?_
                      rintro e u ⟨rfl, hbu⟩
                      obtain ⟨y1, hz⟩ := later_of hbu
                      subst hz
                      clear hbu
                      go_wp2_with fail
                      go_meet
                      exact ⟨y1, by first | rfl | simp, rfl⟩
                  case rest =>
                    obtain ⟨y, rfl, rfl⟩ := hcut
                    have RX := Lib.hid (RX.out.below y.b RX.out.lt)
                    clear c0 c1 c2 c3 c4 HBO HAL
                    have c0 := RX.out.cell 0 (v := .int .i64 bX.pr) rfl
                    have c1 := RX.out.cell 1 (v := .int .i64 bX.le) rfl
                    have c2 := RX.out.cell 2 (v := .int .i64 bX.mo) rfl
                    have c3 := RX.out.cell 3 (v := .int .i64 bX.gr) rfl
                    have c4 := RX.out.cell 4 (v := .slice px bX.hs.length dx) rfl
                    go_wp2_with fail
                    refine (HBX.out _ y.fr).mono ?_
                    rintro e u ⟨qx, cqx, rfl, hix, hbu⟩
                    have HIX := Lib.hid hix
                    have RX := Lib.hid (RX.out.below hbu RX.out.lt)
                    obtain ⟨y1, hz⟩ := y.on hbu
                    subst hz
                    clear hbu hix c0 c1 c2 c3 c4
                    have c0 := RX.out.cell 0 (v := .int .i64 bX.pr) rfl
                    have c1 := RX.out.cell 1 (v := .int .i64 bX.le) rfl
                    have c2 := RX.out.cell 2 (v := .int .i64 bX.mo) rfl
                    have c3 := RX.out.cell 3 (v := .int .i64 bX.gr) rfl
                    have c4 := RX.out.cell 4 (v := .slice px bX.hs.length dx) rfl
                    go_wp2_with fail
                    refine (HOV.out _ y1.fr _ _ HIX.out).mono ?_
                    rintro e u ⟨rfl, hbu⟩
                    obtain ⟨y2, hz⟩ := y1.on hbu
                    subst hz
                    clear hbu c0 c1 c2 c3 c4 RX
                    go_upto_region 36 with (first
                      | (refine store_new rfl 43 _ _ rfl #[.int .i64 olo, .int .i64 ohi] #[.int .i64 0, .int .i64 0] 43 rfl rfl (by kernel_rfl) rfl (by simp [Value.oneCell']) ?_))
                    have hb5 := below_alloc y2.w (.cells #[.int .i64 olo, .int .i64 ohi] 43)
                    have ro := Row.new y2.w #[.int .i64 olo, .int .i64 ohi] 43
                    obtain ⟨y3, hy3⟩ := y2.on hb5
                    rw [hy3] at ro ⊢
                    obtain ⟨OB, hOB⟩ : ∃ n, y2.w.heap.size = n := ⟨_, rfl⟩
                    rw [hOB] at ro ⊢
                    have o0 := ro.cell 0 (v := .int .i64 olo) rfl
                    have o1 := ro.cell 1 (v := .int .i64 ohi) rfl
                    clear hb5 hy3 hOB ro
                    cases lost
                    · have heq := HOS.out rfl
                      subst heq
                      go_wp2_with fail
                      refine (baked05_any _).mono ?_
                      rintro e u ⟨rfl, hbu⟩
                      obtain ⟨y4, hz⟩ := y3.on hbu
                      subst hz
                      clear hbu o0 o1
                      go_wp2_with fail
                      go_ret
                      obtain ⟨e1, he1⟩ := x.up y4
                      obtain ⟨e2, he2⟩ := z9.up e1
                      exact ⟨rfl, by rw [he1, he2]; exact e2.base HE.out⟩
                    · go_wp2_with fail
                      refine (baked05_any _).mono ?_
                      rintro e u ⟨rfl, hbu⟩
                      obtain ⟨y4, hz⟩ := y3.on hbu
                      subst hz
                      clear hbu o0 o1
                      go_wp2_with fail
                      go_ret
                      obtain ⟨e1, he1⟩ := x.up y4
                      obtain ⟨e2, he2⟩ := z9.up e1
                      exact ⟨rfl, by rw [he1, he2]; exact e2.base HE.out⟩
end
end Go.Proofs.YticfcdbfplfmlaaGreat
