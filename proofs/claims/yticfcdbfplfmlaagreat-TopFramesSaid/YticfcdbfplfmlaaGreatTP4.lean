/- boxes05: a book of boxes keeps what its labels promise, if just so many splints are in each handful. -/
import Derived.Test.YticfcdbfplfmlaaGreatTP1
import Derived.Test.YticfcdbfplfmlaaGreatFDX
namespace Go.Proofs.YticfcdbfplfmlaaGreat
open Go.RowKit Go.Maps
attribute [local go_sem] Oper.semAt_some

theorem nums_of_plan {b : Bf} {l : List Int} (hok : BfOk b) (hp : planB b l = true) : ∀ i, i < l.length → I64 (at0 l i) := by
  intro i hi
  unfold planB at hp
  rw [Bool.and_eq_true] at hp
  have h := planTo_all hp.1 hi
  have hn := hok.n8
  unfold boxI boxB at h
  simp only [decide_eq_true_eq] at h
  unfold I64
  omega
theorem fits_call5 {n lo hi : Int} (h1 : lo ≤ n) (h2 : n ≤ hi) (w : World) : Calls Tryz.prog 6 #[.int .i64 n, .int .i64 lo, .int .i64 hi] w fun e w' => e = .returned (.bool true) ∧ Below w.heap.size w w' := by
  refine (Fits_any n lo hi w).mono ?_
  rintro e w' ⟨rfl, rfl⟩
  rw [fits_yes ⟨h1, h2⟩]
  exact ⟨rfl, Below.refl _ _⟩
theorem total_call5 {xs : List Int} {n : Nat} {t : Int} (hl : xs.length = n) (ht : total xs = t) (hn : n ≤ 1000) (p : Option Addr) (c : Nat) (w : World) (hi : IntsAt w p xs) :
    Calls Tryz.prog 41 #[.slice p n c] w fun e w' => e = .returned (.int .i64 t) ∧ Below w.heap.size w w' := by
  subst hl ht
  refine (Total_any p c xs w (by unfold maxLen; omega) hi).mono ?_
  rintro e w' ⟨h, rfl⟩
  exact ⟨h, Below.refl _ _⟩
theorem index_call5 {l : List Int} {n : Nat} {x ix : Int} (hl : l.length = n) (hn : n ≤ 1000) (hx : idxN l x = ix) (p : Option Addr) (c : Nat) (w : World) (hi : IntsAt w p l) :
    Calls Tryz.prog 42 #[.slice p n c, .int .i64 x] w fun e w' => e = .returned (.int .i64 ix) ∧ Below w.heap.size w w' := by
  subst hl hx
  refine (Index_any p c l x (by omega) w hi).mono ?_
  rintro e w' ⟨h, rfl⟩
  exact ⟨h, Below.refl _ _⟩
theorem ints_take5 {w : World} {p : Option Addr} {xs : List Int} (h : IntsAt w p xs) (k : Nat) : IntsAt w p (xs.take k) := fun i hi => by
  simp only [List.length_take] at hi
  obtain ⟨b, o, e, c⟩ := h i (by omega)
  refine ⟨b, o, e, c.trans ?_⟩
  rw [at0_lt (by omega), at0_lt (by simp; omega)]
  simp
theorem ints_drop5 {w : World} {g o : Nat} {xs : List Int} (h : IntsAt w (some ⟨g, o, none⟩) xs) (k : Nat) : IntsAt w (some ⟨g, o + k, none⟩) (xs.drop k) := fun i hi => by
  simp only [List.length_drop] at hi
  obtain ⟨b, o', e, c⟩ := h (k + i) (by omega)
  cases e
  refine ⟨g, o + k, rfl, ?_⟩
  rw [Nat.add_assoc, c, at0_lt (by omega), at0_lt (by simp; omega)]
  simp
theorem bgn_last {b : Bf} {l : List Int} (hp : planB b l = true) : bgn l l.length = (b.hs.length : Int) := by
  unfold planB at hp
  rw [Bool.and_eq_true] at hp
  simpa using hp.2

set_option maxRecDepth 100000 in
set_option maxHeartbeats 3200000 in
theorem boxes05_any (b : Bf) (p : Option Addr) (c : Nat) (q : Option Addr) (cq : Nat) (T : List Int) (w : World) (hB : BfAt w p c b) (hb : bookB b = true) (hT : In5 b T) (hq : IntsAt w q T) (hcq : T.length ≤ cq) :
    Calls Tryz.prog 17 #[.agg (bfA b p c), .slice q T.length cq] w fun e w' => e = .returned (.bool true) ∧ Below w.heap.size w w' := by
  obtain ⟨W0, hW0⟩ : ∃ W, W = w.alloc (.cells (bfA b p c) 28) := ⟨_, rfl⟩
  have HW0 := Lib.hid hW0
  have HE := Lib.hid (show Below w.heap.size w W0 by rw [hW0]; exact below_alloc _ _)
  have HR := Lib.hid (show Row W0 w.heap.size (bfA b p c) 28 by rw [hW0]; exact Row.new w _ _)
  have HB := Lib.hid (hB.below HE.out)
  have HH := Lib.hid (hq.below HE.out)
  have HT := Lib.hid hT
  have HTL := Lib.hid hT.n
  have g0 := HR.out.cell 0 (v := .int .i64 b.pr) rfl
  have g1 := HR.out.cell 1 (v := .int .i64 b.le) rfl
  have g2 := HR.out.cell 2 (v := .int .i64 b.mo) rfl
  have g3 := HR.out.cell 3 (v := .int .i64 b.gr) rfl
  have g4 := HR.out.cell 4 (v := .slice p b.hs.length c) rfl
  obtain ⟨z0, hz0⟩ : ∃ z : Later W0, W0 = z.w := ⟨⟨W0, Below.refl _ _⟩, rfl⟩
  have HZ0 := Lib.hid hz0
  have hok := bookB_iff.1 hb
  have hn8 := hok.n8
  have h1 := hok.p1
  have h2 := hok.p2
  have h3 := hok.l1
  have h4 := hok.l2
  have h5 := hok.m1
  have h6 := hok.m2
  have htl := hT.n
  have HOK := Lib.hid hok
  obtain ⟨P, hpb, hpp, _⟩ := best_few hok
  have hbq : bestQ b = P := bestL_of hpb
  have hlp := plan_len hpp
  have hch := count_all b P
  have HPL := Lib.hid hpp
  have HPN := Lib.hid (nums_of_plan hok hpp)
  have HBE := Lib.hid (fun w' (k : From W0 w') => (by
    have h := Best_yes b p c w' (HB.out.below k.b) hb
    unfold GavePlan at h
    rw [hbq] at h
    exact h : Calls Tryz.prog 19 #[.agg (bfA b p c)] w' fun e w'' => ∃ q cq, e = .returned (.tuple #[.slice q P.length cq, .int .i64 0]) ∧ IntsAt w'' q P ∧ Below w'.heap.size w' w''))
  have HBY := Lib.hid (fun w' (k : From W0 w') qP cP (hi : IntsAt w' qP P) => ByHand_yes b p c qP cP P w' (HB.out.below k.b) hb hi (by omega) HPN.out HPL.out)
  have HOV := Lib.hid (fun w' (k : From W0 w') qP cP (hi : IntsAt w' qP P) => Over_yes b p c qP cP P w' (HB.out.below k.b) hb hi (by omega) HPN.out HPL.out)
  have HGO := Lib.hid (gone_over hok hT hpp)
  have HGR := Lib.hid (gone_range hok hT hpp)
  have HGW := Lib.hid (grown_hand b P P.length)
  have HEND := Lib.hid (bgn_last hpp)
  obtain ⟨lo, hlo⟩ : ∃ x, overV Hd.lo b P = x := ⟨_, rfl⟩
  obtain ⟨hi, hhi⟩ : ∃ x, overV Hd.hi b P = x := ⟨_, rfl⟩
  rw [hlo, hhi] at HOV HGO
  clear hlo hhi hW0 hB hq hT hz0 hb hok hbq hpb hpp htl
  go_enter Tryz.func17, Tryz.ntmps17
  go_wp2_with fail
  rw [← HW0.out, HZ0.out]
  refine (HBE.out _ z0.fr).mono ?_
  rintro e u ⟨qb, cb, rfl, hib, hbu⟩
  have HP := Lib.hid hib
  obtain ⟨z1, hz⟩ := z0.on hbu
  subst hz
  clear hbu hib
  go_wp2_with fail
  refine (HBY.out _ z1.fr _ _ HP.out).mono ?_
  rintro e u ⟨ph, ch, rfl, hih, hbu⟩
  have HP := Lib.hid (HP.out.below hbu)
  have HHI := Lib.hid hih
  obtain ⟨z2, hz⟩ := z1.on hbu
  subst hz
  clear hbu hih
  go_wp2_with fail
  refine (HOV.out _ z2.fr _ _ HP.out).mono ?_
  rintro e u ⟨rfl, hbu⟩
  have HP := Lib.hid (HP.out.below hbu)
  have HHI := Lib.hid (HHI.out.below hbu)
  obtain ⟨z3, hz⟩ := z2.on hbu
  subst hz
  clear hbu
  go_upto_region 4 with (first
    | (refine store_new rfl 43 _ _ rfl #[.int .i64 lo, .int .i64 hi] #[.int .i64 0, .int .i64 0] 43 rfl rfl (by kernel_rfl) rfl (by simp [Value.oneCell']) ?_))
  obtain ⟨W2, hW2⟩ : ∃ u, z3.w.alloc (.cells #[.int .i64 lo, .int .i64 hi] 43) = u := ⟨_, rfl⟩
  have RS := Lib.hid (show Row W2 z3.w.heap.size #[.int .i64 lo, .int .i64 hi] 43 by rw [← hW2]; exact Row.new z3.w _ _)
  have hb5 : Below z3.w.heap.size z3.w W2 := by rw [← hW2]; exact below_alloc _ _
  rw [hW2]
  clear hW2
  have HP := Lib.hid (HP.out.below hb5)
  have HHI := Lib.hid (HHI.out.below hb5)
  obtain ⟨SB, hSB⟩ : ∃ x, z3.w.heap.size = x := ⟨_, rfl⟩
  rw [hSB] at RS ⊢
  clear hSB
  obtain ⟨z4, hz⟩ := z3.on hb5
  subst hz
  clear hb5 HBE HBY HOV
  go_wp2_with fail
  refine (Grows_any ph ch (handL b P) P.length (by omega) (by omega) _ HHI.out HGW.out).mono ?_
  rintro e u ⟨rfl, hbu⟩
  have HP := Lib.hid (HP.out.below hbu)
  have HHI := Lib.hid (HHI.out.below hbu)
  have RS := Lib.hid (RS.out.below hbu RS.out.lt)
  obtain ⟨z5, hz⟩ := z4.on hbu
  subst hz
  clear hbu
  have s0 := RS.out.cell 0 (v := .int .i64 lo) rfl
  have s1 := RS.out.cell 1 (v := .int .i64 hi) rfl
  have HH := Lib.hid (HH.out.below z5.b)
  go_wp2_with fail
  go_loopw [11, 12, 13] (fun f o kk wr => ∃ (k : Nat) (v : Later z5.w), k ≤ P.length ∧ f = .int .i64 (bgn P k) ∧ o = .int .i64 (goneT b T P k) ∧ kk = .int .i64 (k : Int) ∧ wr = v.w) (fun _ _ kk _ => P.length - (intOf kk).toNat)
  case atStart => exact ⟨0, ⟨z5.w, Below.refl _ _⟩, by omega, rfl, rfl, rfl, rfl⟩
  case round =>
    obtain ⟨k, v, hk, rfl, rfl, rfl, rfl⟩ := hrel
    by_cases hkl : k < P.length
    · have htl := HTL.out
      obtain ⟨X, Y, t, ix, hX, hY, hXY, hYn, htot, ht0, ht1, hix, hways⟩ := box_round HOK.out HT.out HPL.out hkl
      have har := HGR.out k hk
      have HBN := Lib.hid (show bgn P (k + 1) = (Y : Int) by rw [bgn_succ, hY])
      obtain ⟨gP, oP, eP, hcP⟩ := HP.out k hkl
      rw [hY] at hcP
      have HCP := Lib.hid hcP
      obtain ⟨gT, oT, eT, _⟩ := HH.out 0 (by omega)
      subst eT
      subst eP
      have HHT := Lib.hid (HH.out.below v.b)
      have HTP := Lib.hid (show IntsAt v.w (some ⟨gT, oT + X, none⟩) (partT T X Y) from ints_take5 (ints_drop5 HHT.out X) (Y - X))
      have htp := partT_len (T := T) (x := X) (y := Y) (by omega)
      have HTO := Lib.hid (fun w' (kk : From v.w w') => total_call5 htp htot (by omega) (some ⟨gT, oT + X, none⟩) (cq - X) w' (HTP.out.below kk.b))
      have HHI2 := Lib.hid (HHI.out.below v.b)
      have HIX := Lib.hid (fun w' (kk : From v.w w') => index_call5 (l := handL b P) rfl (by omega) hix ph ch w' (HHI2.out.below kk.b))
      obtain ⟨aw, haw⟩ : ∃ x, goneT b T P k = x := ⟨_, rfl⟩
      obtain ⟨awn, hawn⟩ : ∃ x, goneT b T P (k + 1) = x := ⟨_, rfl⟩
      have HAN := Lib.hid hawn
      rw [haw] at har ⊢
      rw [hX]
      rw [haw, hawn] at hways
      clear hX hY haw hawn htot hix htp hcP HHT HTP HHI2
      have hcq2 : Y ≤ cq := by omega
      have j1 : (0 : Int) ≤ (k : Int) := by omega
      have j2 : (k : Int) < (P.length : Int) := by omega
      have j3 : (0 : Int) ≤ (X : Int) := by omega
      have j4 : (X : Int) ≤ (Y : Int) := by omega
      have j5 : (Y : Int) ≤ (T.length : Int) := by omega
      have j6 : (Y : Int) ≤ (cq : Int) := by omega
      have j7 : 0 < Y - X := by omega
      clear htl
      have e0 : IntKind.i64.wrap ((X : Int) + 1) = (X : Int) + 1 := IntWalk.i64_in _ (by omega)
      have hcP := HCP.out
      clear HCP
      obtain ⟨V, hV⟩ : ∃ u, v.w = u := ⟨_, rfl⟩
      have HV := Lib.hid hV
      have KX := Lib.hid (show From z5.w V by rw [← hV]; exact v.fr)
      have K0 := Lib.hid (show From W0 V from z5.fr.trans KX.out)
      have gv0 := K0.out.cell g0
      have gv1 := K0.out.cell g1
      have gv2 := K0.out.cell g2
      have hcV := KX.out.cell hcP
      rw [hV] at HTO HIX ⊢
      have haw1 : -4800 ≤ aw := by omega
      have haw2 : aw ≤ 12800 := by omega
      have HFI := Lib.hid (fun w' => fits_call5 (n := (Y : Int)) (lo := (X : Int) + 1) (hi := (T.length : Int)) (by omega) (by omega) w')
      have HFA := Lib.hid (fun (h1 : b.pr - b.le ≤ t) (h2 : t ≤ b.pr + b.mo) w' => fits_call5 (n := t) (lo := b.pr - b.le) (hi := b.pr + b.mo) h1 h2 w')
      clear g0 g1 g2 g3 g4 s0 s1 hcP hV har HGR
      obtain ⟨v1, hv1⟩ : ∃ z : Later V, V = z.w := ⟨⟨V, Below.refl _ _⟩, rfl⟩
      rw [hv1]
      clear hv1
      go_wp2_with fail
      refine (HFI.out _).mono ?_
      rintro e u ⟨rfl, hbu⟩
      obtain ⟨v2, hv2⟩ := v1.on hbu
      subst hv2
      clear hbu HFI
      go_wp2_with fail
      refine (HTO.out _ v2.fr).mono ?_
      rintro e u ⟨rfl, hbu⟩
      obtain ⟨v3, hv3⟩ := v2.on hbu
      subst hv3
      clear hbu HTO
      go_wp2_with fail
      refine (HIX.out _ v3.fr).mono ?_
      rintro e u ⟨rfl, hbu⟩
      obtain ⟨v4, hv4⟩ := v3.on hbu
      subst hv4
      clear hbu
      rcases hways with ⟨hx, ha1, ha2, rfl⟩ | ⟨hx, rfl⟩
      · have e1 : IntKind.i64.wrap (t - b.pr) = t - b.pr := IntWalk.i64_in _ (by omega)
        have e2 : IntKind.i64.wrap (aw + (t - b.pr)) = aw + (t - b.pr) := IntWalk.i64_in _ (by omega)
        have e3 : IntKind.i64.wrap (b.pr + b.mo) = b.pr + b.mo := IntWalk.i64_in _ (by omega)
        have e4 : IntKind.i64.wrap (b.pr - b.le) = b.pr - b.le := IntWalk.i64_in _ (by omega)
        have hx2 : decide (0 ≤ ix) = false := by simp; omega
        have hx3 : ¬ 0 ≤ ix := by omega
        go_wp2_with fail
        refine (HFA.out ha1 ha2 _).mono ?_
        rintro e u ⟨rfl, hbu⟩
        obtain ⟨v5, hv5⟩ := v4.on hbu
        subst hv5
        clear hbu
        go_wp2_with fail
        obtain ⟨x7, hx7⟩ := v.on (by rw [HV.out]; exact v5.b)
        go_roundw
        case rel => exact ⟨k + 1, x7, by omega, by rw [HBN.out], by rw [HAN.out], by go_num, by rw [← hx7]⟩
        case measure => simp [intOf]; omega
      · have hx2 : decide (0 ≤ ix) = true := by simpa using hx
        go_wp2_with fail
        obtain ⟨x7, hx7⟩ := v.on (by rw [HV.out]; exact v4.b)
        go_roundw
        case rel => exact ⟨k + 1, x7, by omega, by rw [HBN.out], by rw [HAN.out], by go_num, by rw [← hx7]⟩
        case measure => simp [intOf]; omega
    · obtain rfl : k = P.length := by omega
      have hfo := HGO.out
      obtain ⟨ov, hov⟩ : ∃ x, goneT b T P P.length = x := ⟨_, rfl⟩
      rw [hov] at hfo ⊢
      rw [HEND.out, ← HTL.out]
      clear hov
      have HHA := Lib.hid (fun w' => by have h := Has_any lo hi ov w'; rw [fits_yes hfo] at h; exact h)
      clear hfo
      go_wp2_with fail
      refine (HHA.out _).mono ?_
      rintro e u ⟨rfl, hbu⟩
      obtain ⟨v2, hv2⟩ := v.on hbu
      subst hv2
      clear hbu
      obtain ⟨x7, hx7⟩ := z5.up v2
      go_wp2_with fail
      go_ret
      exact ⟨rfl, by first | exact x7.base HE.out | (rw [hx7]; exact x7.base HE.out)⟩
end Go.Proofs.YticfcdbfplfmlaaGreat
