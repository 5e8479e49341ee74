/- The law TopFound: once a knot is found no more boxes must be filled by hand. -/
import Derived.Test.YticfcdbfplfmlaaTB2
import Derived.Test.YticfcdbfplfmlaaTF0
import Derived.Test.YticfcdbfplfmlaaTF1
import Derived.Test.YticfcdbfplfmlaaTF3
import Derived.Test.YticfcdbfplfmlaaFDX
import Derived.Test.YticfcdbfplfmlaaLN
import Derived.Test.YticfcdbfplfmlaaTF4
import Derived.Test.YticfcdbfplfmlaaPCX
namespace Go.Proofs.Yticfcdbfplfmlaa
open Go.RowKit Go.Maps
attribute [local go_sem] Oper.semAt_some

theorem Wraps_yes (a b c d : Int) (w : World) (h1 : a ≤ c) (h2 : d ≤ b) :
    Calls Try.prog 58 #[.agg #[.int .i64 a, .int .i64 b], .agg #[.int .i64 c, .int .i64 d]] w fun e w' => e = .returned (.bool true) ∧ Below w.heap.size w w' := by
  go_enter Try.func58, Try.ntmps58
  go_wp2
  go_ret
  exact ⟨ret_bool (by simp [h2]), below_alloc2 _ _ _⟩
theorem fits_call {n lo hi : Int} (h1 : lo ≤ n) (h2 : n ≤ hi) (w : World) : Calls Try.prog 53 #[.int .i64 n, .int .i64 lo, .int .i64 hi] w fun e w' => e = .returned (.bool true) ∧ Below w.heap.size w w' := by
  refine (Fits_yes n lo hi w h1 h2).mono ?_
  rintro e w' ⟨rfl, rfl⟩
  exact ⟨rfl, Below.refl _ _⟩
theorem spin_call {n m v : Int} (h : spin n m = v) (hm : I64 m) (w : World) : Calls Try.prog 55 #[.int .i64 n, .int .i64 m] w fun e w' => e = .returned (.int .i64 v) ∧ Below w.heap.size w w' := by
  subst h
  refine (Spin_any n m w hm).mono ?_
  rintro e w' ⟨rfl, rfl⟩
  exact ⟨rfl, Below.refl _ _⟩

section
variable (p1 : Option Addr) (c1 : Nat) (p2 : Option Addr) (c2 : Nat) (long : List Int) (sz : Int) (ks : List Pe.K4) (b : Bf) (q : Option Addr) (cq : Nat) (ps : Option Addr) (cs : Nat) (ss : List Int) (n0 n1 n2 : Int) (w : World) (hL : Pe.LogAt w p1 p2 long ks) (hB : BfAt w q cq b) (hs : IntsAt w ps ss) (hn : ss.length ≤ maxLen) (hcs : ss.length ≤ cs) (hps : (ps = none ∧ cs = 0) ∨ ∃ b o, ps = some ⟨b, o, none⟩)
include hL hB hs hn hcs hps
set_option maxRecDepth 100000 in
set_option maxHeartbeats 6400000 in
theorem TopFound_any :
    Calls Try.prog 6 #[.agg #[.slice p1 long.length c1, .int .i64 sz, .slice p2 ks.length c2], .agg (bfA b q cq), .slice ps ss.length cs, .agg #[.int .i64 n0, .int .i64 n1, .int .i64 n2]] w fun e w' => e = .returned (.bool true) ∧ Below w.heap.size w w' := by
  obtain ⟨W0, hW0⟩ : ∃ W, W = (((w.alloc (.cells #[.slice p1 long.length c1, .int .i64 sz, .slice p2 ks.length c2] 25)).alloc (.cells (bfA b q cq) 76)).alloc (.cells #[.int .i64 n0, .int .i64 n1, .int .i64 n2] 88)) := ⟨_, rfl⟩
  have HW0 := Lib.hid hW0
  have HE := Lib.hid (show Below w.heap.size w W0 by rw [hW0]; exact below_alloc3 _ _ _ _)
  have RL := Lib.hid (show Row W0 w.heap.size #[.slice p1 long.length c1, .int .i64 sz, .slice p2 ks.length c2] 25 by rw [hW0]; exact ((Row.new w _ _).alloc _).alloc _)
  have RB := Lib.hid (show Row W0 (w.heap.size + 1) (bfA b q cq) 76 by rw [hW0]; exact (Row.new1 w _ _ _).alloc _)
  have RN := Lib.hid (show Row W0 (w.heap.size + 1 + 1) #[.int .i64 n0, .int .i64 n1, .int .i64 n2] 88 by rw [hW0]; exact Row.new2 w _ _ _ _)
  have HL := Lib.hid (hL.below HE.out)
  have HB := Lib.hid (hB.below HE.out)
  have HS := Lib.hid (hs.below HE.out)
  have HN := Lib.hid hn
  have HCS := Lib.hid hcs
  have HPS := Lib.hid hps
  have l0 := RL.out.cell 0 (v := .slice p1 long.length c1) rfl
  have l1 := RL.out.cell 1 (v := .int .i64 sz) rfl
  have l2 := RL.out.cell 2 (v := .slice p2 ks.length c2) rfl
  have g0 := RB.out.cell 0 (v := .int .i64 b.pr) rfl
  have g1 := RB.out.cell 1 (v := .int .i64 b.le) rfl
  have g2 := RB.out.cell 2 (v := .int .i64 b.mo) rfl
  have g3 := RB.out.cell 3 (v := .int .i64 b.gr) rfl
  have g4 := RB.out.cell 4 (v := .slice q b.hs.length cq) rfl
  have a0 := RN.out.cell 0 (v := .int .i64 n0) rfl
  have a1 := RN.out.cell 1 (v := .int .i64 n1) rfl
  have a2 := RN.out.cell 2 (v := .int .i64 n2) rfl
  clear hW0 hL hB hs hn hcs hps
  obtain ⟨z0, hz0⟩ : ∃ z : Later W0, W0 = z.w := ⟨⟨W0, Below.refl _ _⟩, rfl⟩
  have HZ0 := Lib.hid hz0
  clear hz0
  have HRI := Lib.hid (fun w' (k : From W0 w') => Pe.ribbon_any p1 c1 p2 c2 long sz ks w' ((HL.out.below k.b).l) ((HL.out.below k.b).k) HL.out.b1 HL.out.b2 Pe.valid_hok)
  have HCH := Lib.hid (fun w' (k : From W0 w') => Pe.check_any p1 c1 p2 c2 long sz ks w' ((HL.out.below k.b).l) ((HL.out.below k.b).k) HL.out.b1 HL.out.b2)
  have HFC := Lib.hid (fun w' (k : From W0 w') => Check_any b q cq w' (HB.out.below k.b))
  cases hv : Pe.validB long sz ks
  · have HR1 := Lib.hid (fun w' (k : From W0 w') => (by have h := HRI.out w' k; rw [hv, if_neg (by decide)] at h; exact h : Calls Try.prog 9 #[.agg #[.slice p1 long.length c1, .int .i64 sz, .slice p2 ks.length c2]] w' fun e w'' => e = .returned (.tuple #[.int .i64 0, .int .i64 10]) ∧ Below w'.heap.size w' w''))
    clear hv HRI HCH HFC
    go_enter Try.func6, Try.ntmps6
    go_wp2_with fail
    rw [← HW0.out, HZ0.out]
    refine (HR1.out _ z0.fr).mono ?_
    rintro e u ⟨rfl, hbu⟩
    obtain ⟨z1, hz⟩ := z0.on hbu
    subst hz
    clear hbu
    go_wp2_with fail
    refine (baked05_any _).mono ?_
    rintro e u ⟨rfl, hbu⟩
    obtain ⟨z2, hz⟩ := z1.on hbu
    subst hz
    clear hbu
    go_wp2_with fail
    go_ret
    exact ⟨rfl, z2.base HE.out⟩
  · have hok := Pe.valid_ok hv
    have HR1 := Lib.hid (fun w' (k : From W0 w') => (by have h := HRI.out w' k; rw [hv, if_pos rfl] at h; exact h : Calls Try.prog 9 #[.agg #[.slice p1 long.length c1, .int .i64 sz, .slice p2 ks.length c2]] w' fun e w'' => e = .returned (.tuple #[.int .i64 (Pe.psum long long.length), .int .i64 0]) ∧ Below w'.heap.size w' w''))
    have HC1 := Lib.hid (fun w' (k : From W0 w') => (by have h := HCH.out w' k; rw [show Pe.checkE long sz ks = 0 by simp [Pe.checkE, hv]] at h; exact h : Calls Try.prog 19 #[.agg #[.slice p1 long.length c1, .int .i64 sz, .slice p2 ks.length c2]] w' fun e w'' => e = .returned (.int .i64 0) ∧ Below w'.heap.size w' w''))
    have HV := Lib.hid hv
    have HOK := Lib.hid hok
    clear hv HRI HCH
    cases hb : bookB b
    · have HF1 := Lib.hid (fun w' (k : From W0 w') => (by have h := HFC.out w' k; rw [bookE_bad hb] at h; exact h : Calls Try.prog 49 #[.agg (bfA b q cq)] w' fun e w'' => e = .returned (.int .i64 50) ∧ Below w'.heap.size w' w''))
      clear hb HFC hok
      go_enter Try.func6, Try.ntmps6
      go_wp2_with fail
      rw [← HW0.out, HZ0.out]
      refine (HR1.out _ z0.fr).mono ?_
      rintro e u ⟨rfl, hbu⟩
      obtain ⟨z1, hz⟩ := z0.on hbu
      subst hz
      clear hbu
      go_wp2_with fail
      refine (HC1.out _ z1.fr).mono ?_
      rintro e u ⟨rfl, hbu⟩
      obtain ⟨z2, hz⟩ := z1.on hbu
      subst hz
      clear hbu
      go_wp2_with fail
      refine (HF1.out _ z2.fr).mono ?_
      rintro e u ⟨rfl, hbu⟩
      obtain ⟨z3, hz⟩ := z2.on hbu
      subst hz
      clear hbu
      go_wp2_with fail
      refine (baked05_any _).mono ?_
      rintro e u ⟨rfl, hbu⟩
      obtain ⟨z4, hz⟩ := z3.on hbu
      subst hz
      clear hbu
      go_wp2_with fail
      go_ret
      exact ⟨rfl, z4.base HE.out⟩
    · have HF1 := Lib.hid (fun w' (k : From W0 w') => (by have h := HFC.out w' k; rw [bookE_ok hb] at h; exact h : Calls Try.prog 49 #[.agg (bfA b q cq)] w' fun e w'' => e = .returned (.int .i64 0) ∧ Below w'.heap.size w' w''))
      have HBO := Lib.hid (bookB_iff.1 hb)
      clear hb HFC
      have hk3 := hok.k3
      have hs1 := hok.s1
      have hs6 := hok.s6
      by_cases hk0 : ks.length = 0
      · have hk2 : ((ks.length : Int) == 0) = true := by rw [hk0]; rfl
        clear hk0 hok
        go_enter Try.func6, Try.ntmps6
        go_wp2_with fail
        rw [← HW0.out, HZ0.out]
        refine (HR1.out _ z0.fr).mono ?_
        rintro e u ⟨rfl, hbu⟩
        obtain ⟨z1, hz⟩ := z0.on hbu
        subst hz
        clear hbu
        go_wp2_with fail
        refine (HC1.out _ z1.fr).mono ?_
        rintro e u ⟨rfl, hbu⟩
        obtain ⟨z2, hz⟩ := z1.on hbu
        subst hz
        clear hbu
        go_wp2_with fail
        refine (HF1.out _ z2.fr).mono ?_
        rintro e u ⟨rfl, hbu⟩
        obtain ⟨z3, hz⟩ := z2.on hbu
        subst hz
        clear hbu
        go_wp2_with fail
        refine (baked05_any _).mono ?_
        rintro e u ⟨rfl, hbu⟩
        obtain ⟨z4, hz⟩ := z3.on hbu
        subst hz
        clear hbu
        go_wp2_with fail
        go_ret
        exact ⟨rfl, z4.base HE.out⟩
      · have hk2 : ((ks.length : Int) == 0) = false := by simp; intro h; apply hk0; simp [h]
        have hk4 : (3 : Int) < (ks.length : Int) ↔ False := by simp; omega
        have hwd := Pe.wideN_eq hok.L
        obtain ⟨wide, hwide⟩ : ∃ x, Pe.psum long long.length = x := ⟨_, rfl⟩
        have HWD := Lib.hid hwide
        rw [hwide] at HR1 hwd
        have h72 : wide ≤ 72 := by omega
        have h71 : 1 ≤ wide := by omega
        clear hwide hwd
        have hsp := spin_range n0 ks.length (by omega)
        obtain ⟨kk, hkk⟩ : ∃ m : Nat, spin n0 ks.length = (m : Int) := ⟨(spin n0 ks.length).toNat, by omega⟩
        have HSP := Lib.hid hkk
        rw [hkk] at hsp
        have hkl : kk < ks.length := by omega
        clear hkk hsp hok
        obtain ⟨gk, ok, rfl, k0, k1, k2, k3⟩ := HL.out.k kk hkl
        have hfi1 := Lib.hid (fun w' => fits_call (n := wide) (lo := 1) (hi := 72) h71 h72 w')
        have hfi2 := Lib.hid (fun w' => fits_call (n := sz) (lo := 1) (hi := 6) hs1 hs6 w')
        go_enter Try.func6, Try.ntmps6
        go_wp2_with fail
        rw [← HW0.out, HZ0.out]
        refine (HR1.out _ z0.fr).mono ?_
        rintro e u ⟨rfl, hbu⟩
        obtain ⟨z1, hz⟩ := z0.on hbu
        subst hz
        clear hbu
        go_wp2_with fail
        refine (HC1.out _ z1.fr).mono ?_
        rintro e u ⟨rfl, hbu⟩
        obtain ⟨z2, hz⟩ := z1.on hbu
        subst hz
        clear hbu
        go_wp2_with fail
        refine (HF1.out _ z2.fr).mono ?_
        rintro e u ⟨rfl, hbu⟩
        obtain ⟨z3, hz⟩ := z2.on hbu
        subst hz
        clear hbu
        go_wp2_with fail
        refine (hfi1.out _).mono ?_
        rintro e u ⟨rfl, hbu⟩
        obtain ⟨z4, hz⟩ := z3.on hbu
        subst hz
        clear hbu
        go_wp2_with fail
        refine (hfi2.out _).mono ?_
        rintro e u ⟨rfl, hbu⟩
        obtain ⟨z5, hz⟩ := z4.on hbu
        subst hz
        clear hbu
        go_wp2_with fail
        refine (spin_call HSP.out ⟨by omega, by omega⟩ _).mono ?_
        rintro e u ⟨rfl, hbu⟩
        obtain ⟨z6, hz⟩ := z5.on hbu
        subst hz
        clear hbu
        have hb1 := below_alloc z6.w (.cells #[.slice p1 long.length c1, .int .i64 sz, .slice (some ⟨gk, ok, none⟩) ks.length c2] 25)
        have hb2 := hb1.alloc (by simp) (.cells #[] 32)
        have hks6 := ((HL.out.below (z6.b)).below hb1).below (below_alloc (z6.w.alloc (.cells #[.slice p1 long.length c1, .int .i64 sz, .slice (some ⟨gk, ok, none⟩) ks.length c2] 25)) (.cells #[] 32))
        obtain ⟨g, cap, cur, w7, hr, hrow, hg, htake, hcap, hb7⟩ := Pe.copy_knots3 ((z6.w.alloc (.cells #[.slice p1 long.length c1, .int .i64 sz, .slice (some ⟨gk, ok, none⟩) ks.length c2] 25)).alloc (.cells #[] 32)) ks gk ok c2 hks6.k (by omega) (by omega) 23 (z6.w.heap.size + 1)
        have HR7 := Lib.hid hr
        have HT := Lib.hid htake
        have RG7 := Lib.hid hrow
        have RY7 := Lib.hid (((Row.new z6.w #[.slice p1 long.length c1, .int .i64 sz, .slice (some ⟨gk, ok, none⟩) ks.length c2] 25).alloc (.cells #[] 32)).below hb7 (by simp; omega))
        have E7 := Lib.hid (hb2.trans (hb7.mono (by simp; omega)))
        simp at hg
        have hgY : z6.w.heap.size < g := by omega
        have l2b : ((z6.w.alloc (.cells #[.slice p1 long.length c1, .int .i64 sz, .slice (some ⟨gk, ok, none⟩) ks.length c2] 25)).alloc (.cells #[] 32)).cell? ⟨w.heap.size, 2, none⟩ = some (.slice (some ⟨gk, ok, none⟩) ks.length c2) := (((RL.out.below z6.b RL.out.lt).alloc _).alloc _).cell 2 rfl
        clear hb1 hb2 hks6 hr hrow htake hb7 hg
        have y2 := RY7.out.cell 2 (v := .slice (some ⟨gk, ok, none⟩) ks.length c2) rfl
        have y2f := RY7.out.free 2
        have hz7 := E7.out.size
        go_upto_region 7 with (first
          | (refine store_new rfl 25 _ _ rfl #[.slice p1 long.length c1, .int .i64 sz, .slice (some ⟨gk, ok, none⟩) ks.length c2] #[.slice none 0 0, .int .i64 0, .slice none 0 0] 25 rfl rfl (by kernel_rfl) rfl (by simp [Value.oneCell']) ?_)
          | (at_builtin; refine wpList_append_run rfl _ _ _ _ rfl (.slice (some ⟨z6.w.heap.size + 1, 0, none⟩) 0 0) _ _ rfl rfl HR7.out ?_))
        clear y2 y2f l2b
        obtain ⟨Y, hY⟩ : ∃ n, z6.w.heap.size = n := ⟨_, rfl⟩
        have HRY := RY7.out.set 2 (.slice (some ⟨g, 0, none⟩) ks.length cap)
        have HRG := RG7.out.set_other ⟨z6.w.heap.size, 2, none⟩ (.slice (some ⟨g, 0, none⟩) ks.length cap) (by dsimp only; omega)
        have hE8 : Below z6.w.heap.size z6.w (w7.setCell ⟨z6.w.heap.size, 2, none⟩ (.slice (some ⟨g, 0, none⟩) ks.length cap)) := E7.out.setCell (by dsimp only; omega) _
        obtain ⟨x8, hx8⟩ := later_of hE8
        obtain ⟨z8, hz8⟩ := z6.up x8
        rw [hz8] at hx8
        rw [hx8] at HRY HRG ⊢
        have RY := Lib.hid (show Row z8.w z6.w.heap.size #[.slice p1 long.length c1, .int .i64 sz, .slice (some ⟨g, 0, none⟩) ks.length cap] 25 from HRY)
        have RG := Lib.hid HRG
        have E68 := Lib.hid (show Below z6.w.heap.size z6.w z8.w by rw [← hx8]; exact hE8)
        clear HRY HRG hE8 hx8 hz8 x8 RY7 RG7 E7 HR7
        rw [hY] at RY hgY ⊢
        have HYz := Lib.hid hY
        clear hY
        have y2 := RY.out.cell 2 (v := .slice (some ⟨g, 0, none⟩) ks.length cap) rfl
        have hkok := (HOK.out.ok _ (List.getElem_mem hkl))
        have HD1 := Lib.hid (fun w' => Drawn_any ks[kk].al ks[kk].ah n1 w' (by have := hkok.a0; omega) hkok.a (by have := hkok.a1; omega))
        have HD2 := Lib.hid (fun w' => Drawn_any ks[kk].fl ks[kk].fh n2 w' (by have := hkok.f0; omega) hkok.f (by have := hkok.f1; omega))
        have HSK := Lib.hid (show Pe.seenK ks[kk] n1 n2 = ⟨drawn ks[kk].al ks[kk].ah n1, drawn ks[kk].al ks[kk].ah n1, drawn ks[kk].fl ks[kk].fh n2, drawn ks[kk].fl ks[kk].fh n2⟩ from rfl)
        have HCC := Lib.hid (Pe.cur_cells HT.out hkl)
        obtain ⟨al, hal⟩ : ∃ x, ks[kk].al = x := ⟨_, rfl⟩
        obtain ⟨ah, hah⟩ : ∃ x, ks[kk].ah = x := ⟨_, rfl⟩
        obtain ⟨fl, hfl⟩ : ∃ x, ks[kk].fl = x := ⟨_, rfl⟩
        obtain ⟨fh, hfh⟩ : ∃ x, ks[kk].fh = x := ⟨_, rfl⟩
        rw [hal, hah] at HD1
        rw [hfl, hfh] at HD2
        rw [hal, hah, hfl, hfh] at HSK HCC
        rw [hal] at k0
        rw [hah] at k1
        rw [hfl] at k2
        rw [hfh] at k3
        clear hal hah hfl hfh hkok
        obtain ⟨A, hA⟩ : ∃ x, drawn al ah n1 = x := ⟨_, rfl⟩
        obtain ⟨F, hF⟩ : ∃ x, drawn fl fh n2 = x := ⟨_, rfl⟩
        rw [hA] at HD1 HSK
        rw [hF] at HD2 HSK
        clear hA hF
        have i1 : (0 : Int) ≤ (kk : Int) := by omega
        have i2 : (kk : Int) < (ks.length : Int) := by omega
        refine wp_region_tail 25 (by kernel_rfl) (by kernel_rfl) (by kernel_rfl) (by kernel_rfl) (by kernel_rfl) (by rfl) ?_
        simp only [List.take_succ_cons, List.take_zero, List.drop_succ_cons, List.drop_zero]
        repeat (go_big_quiet_step (first
          | (go_at_call 56; with_reducible exact Calls.later_of (HD1.out _))
          | (go_at_call 56; with_reducible exact Calls.later_of (HD2.out _))
          | (go_at_call 22; with_reducible exact Calls.later_of (Only_any _ _))))
        refine wpQuiet_nil ?_
        intro _ hw'
        obtain ⟨x9, hw''⟩ := hw'
        subst hw''
        have RG9 := RG.out.below x9.b RG.out.lt
        obtain ⟨cc0, cc1, cc2, cc3⟩ := HCC.out
        have q0 := RG9.cell (kk * 4) cc0
        have q1 := RG9.cell (kk * 4 + 1) cc1
        have q2 := RG9.cell (kk * 4 + 2) cc2
        have q3 := RG9.cell (kk * 4 + 3) cc3
        have f0 := RG9.free (kk * 4)
        have f1 := RG9.free (kk * 4 + 1)
        have f2 := RG9.free (kk * 4 + 2)
        have f3 := RG9.free (kk * 4 + 3)
        have HG9 := Lib.hid RG9
        have HY9 := Lib.hid (RY.out.below x9.b RY.out.lt)
        have E69 := Lib.hid (E68.out.trans (x9.b.mono E68.out.size))
        clear RG9 cc0 cc1 cc2 cc3
        go_upto_region 8 with (fail)
        clear q0 q1 q2 q3 f0 f1 f2 f3
        have HGN := (((HG9.out.set (kk * 4) (.int .i64 A)).set (kk * 4 + 1) (.int .i64 A)).set (kk * 4 + 2) (.int .i64 F)).set (kk * 4 + 3) (.int .i64 F)
        have HYN := (((HY9.out.set_other ⟨g, kk * 4, none⟩ (.int .i64 A) (by dsimp only; omega)).set_other ⟨g, kk * 4 + 1, none⟩ (.int .i64 A) (by dsimp only; omega)).set_other ⟨g, kk * 4 + 2, none⟩ (.int .i64 F) (by dsimp only; omega)).set_other ⟨g, kk * 4 + 3, none⟩ (.int .i64 F) (by dsimp only; omega)
        have hYz := HYz.out
        have E6N : Below z6.w.heap.size z6.w ((((x9.w.setCell ⟨g, kk * 4, none⟩ (.int .i64 A)).setCell ⟨g, kk * 4 + 1, none⟩ (.int .i64 A)).setCell ⟨g, kk * 4 + 2, none⟩ (.int .i64 F)).setCell ⟨g, kk * 4 + 3, none⟩ (.int .i64 F)) := (((E69.out.setCell (by dsimp only; omega) _).setCell (by dsimp only; omega) _).setCell (by dsimp only; omega) _).setCell (by dsimp only; omega) _
        obtain ⟨xA, hxA⟩ := later_of E6N
        obtain ⟨zA, hzA⟩ := z6.up xA
        rw [hzA] at hxA
        rw [hxA] at HGN HYN ⊢
        have RY := Lib.hid HYN
        have HKN := Lib.hid (Pe.knots_set3 (q := Pe.seenK ks[kk] n1 n2) (by rw [HSK.out]; exact HGN) HT.out)
        clear HGN HYN E6N hxA hzA xA HG9 HY9 E69 RG E68 HT HCC HD1 HD2 hYz HYz
        have HVY := Lib.hid (Pe.seen_valid HV.out hkl n1 n2)
        have HLH := Lib.hid (fun cut => Pe.seen_lo_hi HOK.out hkl n1 n2 cut)
        have hlen : (ks.set kk (Pe.seenK ks[kk] n1 n2)).length = ks.length := List.length_set
        have HLEN := Lib.hid hlen
        have HLY := Lib.hid (show Pe.LogAt zA.w p1 (some ⟨g, 0, none⟩) long (ks.set kk (Pe.seenK ks[kk] n1 n2)) from ⟨(HL.out.below zA.b).l, HKN.out, HL.out.b1, by rw [hlen]; exact HL.out.b2⟩)
        have HOKY := Lib.hid (Pe.valid_ok HVY.out)
        clear hlen HKN
        obtain ⟨ks2, hks2⟩ : ∃ x, ks.set kk (Pe.seenK ks[kk] n1 n2) = x := ⟨_, rfl⟩
        rw [hks2] at HVY HLH HLEN HLY HOKY
        clear hks2 HSK
        have y0 := RY.out.cell 0 (v := .slice p1 long.length c1) rfl
        have y1 := RY.out.cell 1 (v := .int .i64 sz) rfl
        have y2 := RY.out.cell 2 (v := .slice (some ⟨g, 0, none⟩) ks.length cap) rfl
        have HSB := Lib.hid (fun w' (k : From zA.w w') => (⟨k.cell (zA.fr.cell g0), k.cell (zA.fr.cell g1), k.cell (zA.fr.cell g2), k.cell (zA.fr.cell g3), k.cell (zA.fr.cell g4)⟩ : w'.cell? ⟨w.heap.size + 1, 0, none⟩ = some (.int .i64 b.pr) ∧ w'.cell? ⟨w.heap.size + 1, 1, none⟩ = some (.int .i64 b.le) ∧ w'.cell? ⟨w.heap.size + 1, 2, none⟩ = some (.int .i64 b.mo) ∧ w'.cell? ⟨w.heap.size + 1, 3, none⟩ = some (.int .i64 b.gr) ∧ w'.cell? ⟨w.heap.size + 1, 4, none⟩ = some (.slice q b.hs.length cq)))
        go_cut [13, 14] from 29 to 216 (fun s13 s14 wx => ∃ X Z, s13 = .pointer (some ⟨X, 0, none⟩) ∧ s14 = .pointer (some ⟨Z, 0, none⟩) ∧ X ≠ Z ∧ zA.w.heap.size ≤ X ∧ zA.w.heap.size ≤ Z ∧ Below zA.w.heap.size zA.w wx ∧ Row wx X (bfA b q cq) 76 ∧ Row wx Z (bfA b q cq) 76)
        case first =>
          go_region_held3 (fun w' => w'.cell? ⟨w.heap.size + 1, 0, none⟩ = some (.int .i64 b.pr) ∧ w'.cell? ⟨w.heap.size + 1, 1, none⟩ = some (.int .i64 b.le) ∧ w'.cell? ⟨w.heap.size + 1, 2, none⟩ = some (.int .i64 b.mo) ∧ w'.cell? ⟨w.heap.size + 1, 3, none⟩ = some (.int .i64 b.gr) ∧ w'.cell? ⟨w.heap.size + 1, 4, none⟩ = some (.slice q b.hs.length cq))
            (first | with_reducible exact HSB.out _ (From.refl _).drew | exact HSB.out _ ((From.refl _).below (below_alloc _ _)).drew | exact HSB.out _ ((From.refl _).below (below_alloc2 _ _ _)).drew) (fail)
          all_goals
            go_wp2_with fail
            go_meet
            first
              | exact ⟨_, _, rfl, rfl, by omega, by omega, by omega, (below_alloc2 _ _ _).drew, ((Row.new _ _ _).alloc _).drew, (Row.new' (by simp) _ _).drew⟩
              | exact ⟨_, _, rfl, rfl, by omega, by omega, by omega, (below_alloc2 _ _ _).drew, (Row.new' (by simp) _ _).drew, ((Row.new _ _ _).alloc _).drew⟩
        case rest =>
          obtain ⟨X, Z, rfl, rfl, hXZ, hX, hZ, hbA, rX, rZ⟩ := hcut
          generalize wc = wB at *
          have RX0 := Lib.hid rX
          have RZ0 := Lib.hid rZ
          have EB0 := Lib.hid hbA
          have x4 := rX.cell 4 (v := .slice q b.hs.length cq) rfl
          have x4f := rX.free 4
          have u4 := (rZ.set_other ⟨X, 4, none⟩ (.slice none 0 0) (by dsimp only; omega)).cell 4 (v := .slice q b.hs.length cq) rfl
          have u4f := (rZ.set_other ⟨X, 4, none⟩ (.slice none 0 0) (by dsimp only; omega)).free 4
          have hXl := rX.lt
          have hZl := rZ.lt
          clear rX rZ hbA HSB
          go_wp2_with fail
          have HXN := (RX0.out.set 4 (.slice none 0 0)).set_other ⟨Z, 4, none⟩ (.slice none 0 0) (by dsimp only; omega)
          have HZN := (RZ0.out.set_other ⟨X, 4, none⟩ (.slice none 0 0) (by dsimp only; omega)).set 4 (.slice none 0 0)
          have EN : Below zA.w.heap.size zA.w ((wB.setCell ⟨X, 4, none⟩ (.slice none 0 0)).setCell ⟨Z, 4, none⟩ (.slice none 0 0)) := (EB0.out.setCell (by dsimp only; omega) _).setCell (by dsimp only; omega) _
          have hsz2 : ((wB.setCell ⟨X, 4, none⟩ (.slice none 0 0)).setCell ⟨Z, 4, none⟩ (.slice none 0 0)).heap.size = wB.heap.size := by simp [World.setCell]
          obtain ⟨xC, hxC⟩ := later_of EN
          rw [hxC] at HXN HZN hsz2 ⊢
          have RX := Lib.hid (show Row xC.w X #[.int .i64 b.pr, .int .i64 b.le, .int .i64 b.mo, .int .i64 b.gr, .slice none 0 0] 76 from HXN)
          have RZ := Lib.hid (show Row xC.w Z #[.int .i64 b.pr, .int .i64 b.le, .int .i64 b.mo, .int .i64 b.gr, .slice none 0 0] 76 from HZN)
          obtain ⟨BS, hBS⟩ : ∃ n, xC.w.heap.size = n := ⟨_, rfl⟩
          have hXB : X < BS := by omega
          have hZB : Z < BS := by omega
          have hCB := xC.b.size
          have HBS := Lib.hid hBS
          rw [hBS] at hCB
          clear HXN HZN EN hxC hsz2 hBS RX0 RZ0 EB0 x4 x4f u4 u4f hXl hZl
          go_loopw [15] (fun i wr => ∃ (k : Nat) (HX HZ : List Hd) (vx vz : Value) (x : Later zA.w), k ≤ 5 ∧ i = .int .i64 (k : Int) ∧ HX.length ≤ k ∧ Hid (Fair HX HZ) ∧ wr = x.w ∧ Row x.w X #[.int .i64 b.pr, .int .i64 b.le, .int .i64 b.mo, .int .i64 b.gr, vx] 76 ∧ Row x.w Z #[.int .i64 b.pr, .int .i64 b.le, .int .i64 b.mo, .int .i64 b.gr, vz] 76 ∧ x.w.ownsRow BS 29 2 vx HX.length (hdV HX) ∧ x.w.ownsRow BS 29 2 vz HZ.length (hdV HZ) ∧ (∀ g, vx.ownBlock = some g → vz.ownBlock ≠ some g) ∧ BS ≤ x.w.heap.size) (fun i _ => 5 - (intOf i).toNat)
          case atStart => exact ⟨0, [], [], .slice none 0 0, .slice none 0 0, xC, by omega, rfl, by simp, Lib.hid Fair.nil, rfl, RX.out, RZ.out, World.ownsRow_nil _ _ _ _, World.ownsRow_nil _ _ _ _, fun g h => by simp [Value.ownBlock] at h, by rw [HBS.out]; exact Nat.le_refl _⟩
          case round =>
            clear RX RZ
            obtain ⟨k, HX, HZ, vx, vz, x, hk, rfl, hkx, HFR, rfl, hrx, hrz, hox, hoz, hne, hbs⟩ := hrel
            have RX := Lib.hid hrx
            have RZ := Lib.hid hrz
            have OX := Lib.hid hox
            have OZ := Lib.hid hoz
            have ON := Lib.hid hne
            clear hrx hrz hox hoz hne
            by_cases hlt : k < 5
            · have HSL := Lib.hid (fun w' (kk : From x.w w') => (⟨kk.cell (x.fr.cell (zA.fr.cell l0)), kk.cell (x.fr.cell (zA.fr.cell l1)), kk.cell (x.fr.cell (zA.fr.cell l2))⟩ : w'.cell? ⟨w.heap.size, 0, none⟩ = some (.slice p1 long.length c1) ∧ w'.cell? ⟨w.heap.size, 1, none⟩ = some (.int .i64 sz) ∧ w'.cell? ⟨w.heap.size, 2, none⟩ = some (.slice (some ⟨gk, ok, none⟩) ks.length c2)))
              have HSW := Lib.hid (HS.out.below (zA.b.trans (x.b.mono zA.b.size)))
              have ilt : (k : Int) < 5 := by omega
              go_upto_region 13 with (fail)
              go_cut [16] from 111 to 170 (fun s16 wx => ∃ (CUT : List Int) (p3 : Option Addr) (c3 : Nat) (x' : Later x.w), s16 = .slice p3 CUT.length c3 ∧ wx = x'.w ∧ IntsAt x'.w p3 CUT ∧ Pe.cutOk sz wide 0 CUT = true ∧ CUT.length ≤ 72)
              case first =>
                have KI := Lib.hid (From.refl x.w)
                have hcs := HCS.out
                rcases HPS.out with ⟨e1, e2⟩ | ⟨sb, so, e1⟩
                · subst e1 e2
                  have hss : ss = [] := List.length_eq_zero_iff.1 (by omega)
                  subst hss
                  obtain ⟨CUT, hCUT⟩ : ∃ c, Pe.slicedL sz wide ((([] : List Int).drop 0).take 72) 0 = c := ⟨_, rfl⟩
                  have HCUT := Lib.hid (show Pe.cutOk sz wide 0 CUT = true ∧ CUT.length ≤ 72 by
                    rw [← hCUT]
                    exact ⟨Pe.slicedL_ok _ _, Nat.le_trans (Pe.slicedL_length _ _) (by rw [List.length_take]; omega)⟩)
                  have HSC := Lib.hid (fun (p' : Option Addr) (c' : Nat) w' (kf : From x.w w') (hi : ∀ w', From x.w w' → IntsAt w' p' (([] : List Int).drop 0)) => (by
                    have h := sliced_any p1 long.length c1 (some ⟨gk, ok, none⟩) ks.length c2 sz wide w' hs1 hs6 h72 p' c' (([] : List Int).drop 0) (hi w' kf) (by rw [List.length_drop]; have := HN.out; omega)
                    rw [List.length_drop, hCUT] at h
                    simp only [List.length_nil, Nat.sub_zero] at h
                    exact h : Calls Try.prog 57 #[.agg #[.slice p1 long.length c1, .int .i64 sz, .slice (some ⟨gk, ok, none⟩) ks.length c2], .int .i64 wide, .slice p' 0 c'] w' (GaveInts CUT w')))
                  clear hCUT
                  have HSI := Lib.hid (fun w' (_ : From x.w w') => (ints_empty (p := none) (l := ([] : List Int)) (m := 0) (by simp) : IntsAt w' none (([] : List Int).drop 0)))
                  clear hcs
                  by_cases hk0 : k = 0
                  · subst hk0
                    go_region_held3 (fun w' => w'.cell? ⟨w.heap.size, 0, none⟩ = some (.slice p1 long.length c1) ∧ w'.cell? ⟨w.heap.size, 1, none⟩ = some (.int .i64 sz) ∧ w'.cell? ⟨w.heap.size, 2, none⟩ = some (.slice (some ⟨gk, ok, none⟩) ks.length c2)) (first | with_reducible exact HSL.out _ KI.out.drew | with_reducible exact HSL.out _ KI.out)
                      (first | (go_at_call 57; (with_reducible refine (HSC.out _ _ _ (by first | with_reducible exact KI.out.drew | with_reducible exact KI.out) HSI.out).mono ?_); rintro e u ⟨p3, c3, rfl, hi3, hbu⟩; have KI := Lib.hid (by first | with_reducible exact KI.out.drew.below hbu | with_reducible exact KI.out.below hbu); have HI3 := Lib.hid hi3; clear hbu hi3))
                    all_goals
                      obtain ⟨xn, hxn⟩ := later_of KI.out.b
                      subst hxn
                      go_wp2_with fail
                      go_meet
                      exact ⟨CUT, p3, c3, xn, rfl, rfl, HI3.out, HCUT.out.1, HCUT.out.2⟩
                  · have j2 : (0 : Int) < (k : Int) := by omega
                    have j7 : 0 < k := by omega
                    go_region_held3 (fun w' => w'.cell? ⟨w.heap.size, 0, none⟩ = some (.slice p1 long.length c1) ∧ w'.cell? ⟨w.heap.size, 1, none⟩ = some (.int .i64 sz) ∧ w'.cell? ⟨w.heap.size, 2, none⟩ = some (.slice (some ⟨gk, ok, none⟩) ks.length c2)) (first | with_reducible exact HSL.out _ KI.out.drew | with_reducible exact HSL.out _ KI.out)
                      (first | (go_at_call 57; (with_reducible refine (HSC.out _ _ _ (by first | with_reducible exact KI.out.drew | with_reducible exact KI.out) HSI.out).mono ?_); rintro e u ⟨p3, c3, rfl, hi3, hbu⟩; have KI := Lib.hid (by first | with_reducible exact KI.out.drew.below hbu | with_reducible exact KI.out.below hbu); have HI3 := Lib.hid hi3; clear hbu hi3))
                    all_goals
                      obtain ⟨xn, hxn⟩ := later_of KI.out.b
                      subst hxn
                      go_wp2_with fail
                      go_meet
                      exact ⟨CUT, p3, c3, xn, rfl, rfl, HI3.out, HCUT.out.1, HCUT.out.2⟩
                · subst e1
                  by_cases hkm : k ≤ ss.length
                  · obtain ⟨CUT, hCUT⟩ : ∃ c, Pe.slicedL sz wide ((ss.drop k).take 72) 0 = c := ⟨_, rfl⟩
                    have HCUT := Lib.hid (show Pe.cutOk sz wide 0 CUT = true ∧ CUT.length ≤ 72 by
                      rw [← hCUT]
                      exact ⟨Pe.slicedL_ok _ _, Nat.le_trans (Pe.slicedL_length _ _) (by rw [List.length_take]; omega)⟩)
                    have HSC := Lib.hid (fun (p' : Option Addr) (c' : Nat) w' (kf : From x.w w') (hi : ∀ w', From x.w w' → IntsAt w' p' (ss.drop k)) => (by
                      have h := sliced_any p1 long.length c1 (some ⟨gk, ok, none⟩) ks.length c2 sz wide w' hs1 hs6 h72 p' c' (ss.drop k) (hi w' kf) (by rw [List.length_drop]; have := HN.out; omega)
                      rw [List.length_drop, hCUT] at h
                      exact h : Calls Try.prog 57 #[.agg #[.slice p1 long.length c1, .int .i64 sz, .slice (some ⟨gk, ok, none⟩) ks.length c2], .int .i64 wide, .slice p' (ss.length - k) c'] w' (GaveInts CUT w')))
                    clear hCUT
                    have j1 : (k : Int) ≤ (ss.length : Int) := by omega
                    have j2 : ¬ (ss.length : Int) < (k : Int) := by omega
                    have j3 : (0 : Int) ≤ (k : Int) := by omega
                    have j5 : (ss.length : Int) ≤ (cs : Int) := by omega
                    have j6 : (k : Int) ≤ (cs : Int) := by omega
                    by_cases hck : cs = k
                    · have HSI := Lib.hid (fun w' (_ : From x.w w') => (ints_empty (p := some ⟨sb, so, none⟩) (l := ss) (m := k) (by omega) : IntsAt w' (some ⟨sb, so, none⟩) (ss.drop k)))
                      have j4 : (cs = k) = True := by simp [hck]
                      clear hck hkm hcs
                      go_region_held3 (fun w' => w'.cell? ⟨w.heap.size, 0, none⟩ = some (.slice p1 long.length c1) ∧ w'.cell? ⟨w.heap.size, 1, none⟩ = some (.int .i64 sz) ∧ w'.cell? ⟨w.heap.size, 2, none⟩ = some (.slice (some ⟨gk, ok, none⟩) ks.length c2)) (first | with_reducible exact HSL.out _ KI.out.drew | with_reducible exact HSL.out _ KI.out)
                        (first | (go_at_call 57; (with_reducible refine (HSC.out _ _ _ (by first | with_reducible exact KI.out.drew | with_reducible exact KI.out) HSI.out).mono ?_); rintro e u ⟨p3, c3, rfl, hi3, hbu⟩; have KI := Lib.hid (by first | with_reducible exact KI.out.drew.below hbu | with_reducible exact KI.out.below hbu); have HI3 := Lib.hid hi3; clear hbu hi3))
                      all_goals
                        obtain ⟨xn, hxn⟩ := later_of KI.out.b
                        subst hxn
                        go_wp2_with fail
                        go_meet
                        exact ⟨CUT, p3, c3, xn, rfl, rfl, HI3.out, HCUT.out.1, HCUT.out.2⟩
                    · have HSI := Lib.hid (fun w' (kk : From x.w w') => ints_from (HSW.out.below kk.b) k)
                      have j4 : (cs = k) = False := by simp [hck]
                      clear hck hkm hcs
                      go_region_held3 (fun w' => w'.cell? ⟨w.heap.size, 0, none⟩ = some (.slice p1 long.length c1) ∧ w'.cell? ⟨w.heap.size, 1, none⟩ = some (.int .i64 sz) ∧ w'.cell? ⟨w.heap.size, 2, none⟩ = some (.slice (some ⟨gk, ok, none⟩) ks.length c2)) (first | with_reducible exact HSL.out _ KI.out.drew | with_reducible exact HSL.out _ KI.out)
                        (first | (go_at_call 57; (with_reducible refine (HSC.out _ _ _ (by first | with_reducible exact KI.out.drew | with_reducible exact KI.out) HSI.out).mono ?_); rintro e u ⟨p3, c3, rfl, hi3, hbu⟩; have KI := Lib.hid (by first | with_reducible exact KI.out.drew.below hbu | with_reducible exact KI.out.below hbu); have HI3 := Lib.hid hi3; clear hbu hi3))
                      all_goals
                        obtain ⟨xn, hxn⟩ := later_of KI.out.b
                        subst hxn
                        go_wp2_with fail
                        go_meet
                        exact ⟨CUT, p3, c3, xn, rfl, rfl, HI3.out, HCUT.out.1, HCUT.out.2⟩
                  · obtain ⟨CUT, hCUT⟩ : ∃ c, Pe.slicedL sz wide ((ss.drop ss.length).take 72) 0 = c := ⟨_, rfl⟩
                    have HCUT := Lib.hid (show Pe.cutOk sz wide 0 CUT = true ∧ CUT.length ≤ 72 by
                      rw [← hCUT]
                      exact ⟨Pe.slicedL_ok _ _, Nat.le_trans (Pe.slicedL_length _ _) (by rw [List.length_take]; omega)⟩)
                    have HSC := Lib.hid (fun (p' : Option Addr) (c' : Nat) w' (kf : From x.w w') (hi : ∀ w', From x.w w' → IntsAt w' p' (ss.drop ss.length)) => (by
                      have h := sliced_any p1 long.length c1 (some ⟨gk, ok, none⟩) ks.length c2 sz wide w' hs1 hs6 h72 p' c' (ss.drop ss.length) (hi w' kf) (by rw [List.length_drop]; have := HN.out; omega)
                      rw [List.length_drop, hCUT] at h
                      rw [Nat.sub_self] at h
                      exact h : Calls Try.prog 57 #[.agg #[.slice p1 long.length c1, .int .i64 sz, .slice (some ⟨gk, ok, none⟩) ks.length c2], .int .i64 wide, .slice p' 0 c'] w' (GaveInts CUT w')))
                    clear hCUT
                    have j2 : (ss.length : Int) < (k : Int) := by omega
                    have j5 : (ss.length : Int) ≤ (cs : Int) := by omega
                    by_cases hck : cs = ss.length
                    · have HSI := Lib.hid (fun w' (_ : From x.w w') => (ints_empty (p := some ⟨sb, so, none⟩) (l := ss) (m := ss.length) (by omega) : IntsAt w' (some ⟨sb, so, none⟩) (ss.drop ss.length)))
                      have j4 : (cs = ss.length) = True := by simp [hck]
                      clear hck hkm hcs
                      go_region_held3 (fun w' => w'.cell? ⟨w.heap.size, 0, none⟩ = some (.slice p1 long.length c1) ∧ w'.cell? ⟨w.heap.size, 1, none⟩ = some (.int .i64 sz) ∧ w'.cell? ⟨w.heap.size, 2, none⟩ = some (.slice (some ⟨gk, ok, none⟩) ks.length c2)) (first | with_reducible exact HSL.out _ KI.out.drew | with_reducible exact HSL.out _ KI.out)
                        (first | (go_at_call 57; (with_reducible refine (HSC.out _ _ _ (by first | with_reducible exact KI.out.drew | with_reducible exact KI.out) HSI.out).mono ?_); rintro e u ⟨p3, c3, rfl, hi3, hbu⟩; have KI := Lib.hid (by first | with_reducible exact KI.out.drew.below hbu | with_reducible exact KI.out.below hbu); have HI3 := Lib.hid hi3; clear hbu hi3))
                      all_goals
                        obtain ⟨xn, hxn⟩ := later_of KI.out.b
                        subst hxn
                        go_wp2_with fail
                        go_meet
                        exact ⟨CUT, p3, c3, xn, rfl, rfl, HI3.out, HCUT.out.1, HCUT.out.2⟩
                    · have HSI := Lib.hid (fun w' (_ : From x.w w') => (ints_empty (p := some ⟨sb, so + ss.length, none⟩) (l := ss) (m := ss.length) (by omega) : IntsAt w' (some ⟨sb, so + ss.length, none⟩) (ss.drop ss.length)))
                      have j4 : (cs = ss.length) = False := by simp [hck]
                      clear hck hkm hcs
                      go_region_held3 (fun w' => w'.cell? ⟨w.heap.size, 0, none⟩ = some (.slice p1 long.length c1) ∧ w'.cell? ⟨w.heap.size, 1, none⟩ = some (.int .i64 sz) ∧ w'.cell? ⟨w.heap.size, 2, none⟩ = some (.slice (some ⟨gk, ok, none⟩) ks.length c2)) (first | with_reducible exact HSL.out _ KI.out.drew | with_reducible exact HSL.out _ KI.out)
                        (first | (go_at_call 57; (with_reducible refine (HSC.out _ _ _ (by first | with_reducible exact KI.out.drew | with_reducible exact KI.out) HSI.out).mono ?_); rintro e u ⟨p3, c3, rfl, hi3, hbu⟩; have KI := Lib.hid (by first | with_reducible exact KI.out.drew.below hbu | with_reducible exact KI.out.below hbu); have HI3 := Lib.hid hi3; clear hbu hi3))
                      all_goals
                        obtain ⟨xn, hxn⟩ := later_of KI.out.b
                        subst hxn
                        go_wp2_with fail
                        go_meet
                        exact ⟨CUT, p3, c3, xn, rfl, rfl, HI3.out, HCUT.out.1, HCUT.out.2⟩
              case rest =>
                obtain ⟨CUT, p3, c3, x1, rfl, rfl, hi3, hct, h72c⟩ := hcut
                have HI3 := Lib.hid hi3
                have l0x := x.fr.cell (zA.fr.cell l0)
                have l1x := x.fr.cell (zA.fr.cell l1)
                have l2x := x.fr.cell (zA.fr.cell l2)
                have y0x := x.fr.cell y0
                have y1x := x.fr.cell y1
                have y2x := x.fr.cell y2
                have HLX := Lib.hid ((HL.out.below zA.b).below x.b)
                have HYX := Lib.hid (HLY.out.below x.b)
                have hmx : CUT.length ≤ maxLen := by unfold maxLen; omega
                have hrg := Pe.lo_hi_range HOK.out CUT
                have hrg2 := Pe.lo_hi_range HOKY.out CUT
                have hlh := HLH.out CUT
                have HWH := Lib.hid (fun w' (kf : From x.w w') (hi : IntsAt w' p3 CUT) => Pe.Whole_good p1 c1 (some ⟨gk, ok, none⟩) c2 long sz ks w' (HLX.out.below kf.b) p3 CUT c3 hi hmx HV.out (by rw [HWD.out]; exact hct))
                have HWY := Lib.hid (fun w' (kf : From x.w w') (hi : IntsAt w' p3 CUT) => (by
                  have h := Pe.Whole_good p1 c1 (some ⟨g, 0, none⟩) cap long sz ks2 w' (HYX.out.below kf.b) p3 CUT c3 hi hmx HVY.out (by rw [HWD.out]; exact hct)
                  rw [HLEN.out] at h
                  exact h : Calls Try.prog 14 #[.agg #[.slice p1 long.length c1, .int .i64 sz, .slice (some ⟨g, 0, none⟩) ks.length cap], .slice p3 CUT.length c3] w' fun e w'' => e = .returned (.tuple #[.agg #[.int .i64 (Pe.loD long sz ks2 CUT), .int .i64 (Pe.hiD long sz ks2 CUT)], .int .i64 0]) ∧ Below w'.heap.size w' w''))
                clear hi3 hct hmx l0 l1 l2 y0 y1 y2
                obtain ⟨lo, hlo⟩ : ∃ v, Pe.loD long sz ks CUT = v := ⟨_, rfl⟩
                obtain ⟨hi, hhi⟩ : ∃ v, Pe.hiD long sz ks CUT = v := ⟨_, rfl⟩
                obtain ⟨lo2, hlo2⟩ : ∃ v, Pe.loD long sz ks2 CUT = v := ⟨_, rfl⟩
                obtain ⟨hi2, hhi2⟩ : ∃ v, Pe.hiD long sz ks2 CUT = v := ⟨_, rfl⟩
                rw [hlo, hhi] at HWH hrg hlh
                rw [hlo2, hhi2] at HWY hrg2 hlh
                clear hlo hhi hlo2 hhi2
                have v1 : lo ≤ lo2 := hlh.1
                have v2 : hi2 ≤ hi := hlh.2
                have v3 : 0 ≤ lo := hrg.1
                have v4 : lo ≤ hi := hrg.2.1
                have v5 : hi ≤ 72 := by omega
                have v6 : lo2 ≤ hi2 := hrg2.2.1
                clear hlh hrg hrg2 h72c
                go_wp2_with fail
                refine (HWH.out _ x1.fr HI3.out).mono ?_
                rintro e u ⟨rfl, hbu⟩
                have HI3 := Lib.hid (HI3.out.below hbu)
                obtain ⟨x2, hz⟩ := x1.on hbu
                subst hz
                clear hbu
                have hbS := below_alloc x2.w (.cells #[.int .i64 lo, .int .i64 hi] 29)
                have r1 := Row.new x2.w #[.int .i64 lo, .int .i64 hi] 29
                have hi3 := HI3.out.below hbS
                obtain ⟨x3, hx3⟩ := x2.on hbS
                rw [hx3] at r1 hi3
                have R1 := Lib.hid r1
                have HI3 := Lib.hid hi3
                have HX3 := Lib.hid hx3
                clear hbS hx3 r1 hi3
                go_wp2_with (first | (refine store_new rfl 29 _ _ rfl #[.int .i64 lo, .int .i64 hi] #[.int .i64 0, .int .i64 0] 29 rfl rfl (by kernel_rfl) rfl (by simp [Value.oneCell']) ?_; rw [HX3.out]))
                refine (HWY.out _ x3.fr HI3.out).mono ?_
                rintro e u ⟨rfl, hbu⟩
                have R1 := Lib.hid (R1.out.below hbu R1.out.lt)
                obtain ⟨x4, hz⟩ := x3.on hbu
                subst hz
                clear hbu
                have hbS := below_alloc x4.w (.cells #[.int .i64 lo2, .int .i64 hi2] 29)
                have r1 := R1.out.below hbS R1.out.lt
                have r2 := Row.new x4.w #[.int .i64 lo2, .int .i64 hi2] 29
                obtain ⟨x5, hx5⟩ := x4.on hbS
                rw [hx5] at r1 r2
                have hr12 : x2.w.heap.size < x4.w.heap.size := R1.out.lt
                have R1 := Lib.hid r1
                have R2 := Lib.hid r2
                have HX5 := Lib.hid hx5
                clear hbS hx5 r1 r2 HI3 HX3
                obtain ⟨S1, hS1⟩ : ∃ n, x2.w.heap.size = n := ⟨_, rfl⟩
                have hS1x : x.w.heap.size ≤ S1 := by rw [← hS1]; exact x2.b.size
                have hS2x : x.w.heap.size ≤ x4.w.heap.size := x4.b.size
                rw [hS1] at R1 hr12 ⊢
                clear hS1
                go_wp2_with (first | (refine store_new rfl 29 _ _ rfl #[.int .i64 lo2, .int .i64 hi2] #[.int .i64 0, .int .i64 0] 29 rfl rfl (by kernel_rfl) rfl (by simp [Value.oneCell']) ?_; rw [HX5.out]; (have s0 := R1.out.cell 0 (v := .int .i64 lo) rfl); (have s1 := R1.out.cell 1 (v := .int .i64 hi) rfl); (have t0 := R2.out.cell 0 (v := .int .i64 lo2) rfl); (have t1 := R2.out.cell 1 (v := .int .i64 hi2) rfl)))
                refine (Wraps_yes lo hi lo2 hi2 _ v1 v2).mono ?_
                rintro e u ⟨rfl, hbu⟩
                clear s0 s1 t0 t1
                have R1 := Lib.hid (R1.out.below hbu R1.out.lt)
                have R2 := Lib.hid (R2.out.below hbu R2.out.lt)
                obtain ⟨x6, hz⟩ := x5.on hbu
                subst hz
                clear hbu HX5
                obtain ⟨S2, hS2⟩ : ∃ n, x4.w.heap.size = n := ⟨_, rfl⟩
                rw [hS2] at R2 hS2x hr12 ⊢
                clear hS2 HWH HWY
                have s0 := R1.out.cell 0 (v := .int .i64 lo) rfl
                have s1 := R1.out.cell 1 (v := .int .i64 hi) rfl
                have RX := Lib.hid (RX.out.below x6.b RX.out.lt)
                have RZ := Lib.hid (RZ.out.below x6.b RZ.out.lt)
                have OX := Lib.hid (⟨owns_below OX.out x6.b, fun g hg => (OX.out.lt g hg).2⟩ : x6.w.ownsRow BS 29 2 vx HX.length (hdV HX) ∧ ∀ g, vx.ownBlock = some g → g < x.w.heap.size)
                have OZ := Lib.hid (⟨owns_below OZ.out x6.b, fun g hg => (OZ.out.lt g hg).2⟩ : x6.w.ownsRow BS 29 2 vz HZ.length (hdV HZ) ∧ ∀ g, vz.ownBlock = some g → g < x.w.heap.size)
                have e1 : IntKind.i64.wrap (hi - lo) = hi - lo := IntWalk.i64_in _ (by omega)
                have hx6s := x6.b.size
                have hb6 : BS ≤ x6.w.heap.size := by omega
                obtain ⟨xz, hxz⟩ := x.up x6
                rw [hxz] at R1 R2 s0 s1 RX RZ OX OZ hx6s hb6 ⊢
                clear hxz x6 hx6s
                by_cases h10 : hi - lo ≤ 10
                · have h200 : hi ≤ 200 := by omega
                  go_upto_region 19 with (fail)
                  have HREG := Lib.hid (show Reg BS X Z S1 S2 #[.int .i64 b.pr, .int .i64 b.le, .int .i64 b.mo, .int .i64 b.gr, vx] #[.int .i64 b.pr, .int .i64 b.le, .int .i64 b.mo, .int .i64 b.gr, vz] lo hi lo2 hi2 vx vz HX HZ zA.w xz.w from ⟨OX.out.1, OZ.out.1, ON.out, RX.out, RZ.out, R1.out, R2.out, fun e => by have := OX.out.2 _ e; omega, fun e => by have := OX.out.2 _ e; omega, fun e => by have := OZ.out.2 _ e; omega, fun e => by have := OZ.out.2 _ e; omega, hXB, hZB, hCB, hb6, xz.fr⟩)
                  have HVX := Lib.hid (show ∀ g, vx.ownBlock = some g → g < xz.w.drew.heap.size from fun g h => (OX.out.1.lt g h).2)
                  have hnx : HX.length ≤ 100 := by omega
                  have hnz : HZ.length ≤ 100 := by have := HFR.out.n; omega
                  clear RX RZ OX OZ ON R1 R2 s0 s1
                  refine wp_region_late (S := RegS X Z S1 S2 vx vz lo hi lo2 hi2) 11 (by kernel_rfl) (by kernel_rfl) (by kernel_rfl) (by kernel_rfl) (by rfl) (HREG.out.drew.s rfl rfl) (fun hH => ?_)
                  have HREG := Lib.hid HREG.out.drew
                  obtain ⟨W0', hW0'⟩ : ∃ v, xz.w.drew = v := ⟨_, rfl⟩
                  rw [hW0'] at HREG HVX hH ⊢
                  clear hW0'
                  simp only [List.take_succ_cons, List.take_zero, List.drop_succ_cons, List.drop_zero, idled, List.map_cons, List.map_nil, idleOp, List.cons_append, List.nil_append, List.size_toArray, List.length_cons, List.length_nil, Nat.reduceAdd]
                  refine wpAnyH_take_to 0 159 (.pointer (some ⟨X, 4, none⟩)) rfl rfl (by kernel_rfl) (by kernel_rfl) (by kernel_rfl) (fun _ _ _ h => h) (Or.inl ⟨by rfl, fun w' hSw => by (obtain ⟨q0, q1, q2, q3, q4, q5⟩ := hSw; go_simp)⟩) hH ?_
                  refine wpAnyH_take_to 1 160 (vx) rfl rfl (by kernel_rfl) (by kernel_rfl) (by kernel_rfl) (fun _ _ _ h => h) (Or.inl ⟨by rfl, fun w' hSw => by (obtain ⟨q0, q1, q2, q3, q4, q5⟩ := hSw; go_simp)⟩) hH ?_
                  refine wpAnyH_take_to 2 161 (.agg #[.int .i64 lo, .int .i64 hi]) rfl rfl (by kernel_rfl) (by kernel_rfl) (by kernel_rfl) (fun _ _ _ h => h) (Or.inl ⟨by rfl, fun w' hSw => by (obtain ⟨q0, q1, q2, q3, q4, q5⟩ := hSw; go_simp)⟩) hH ?_
                  refine wpAnyH_take_to 5 164 (.pointer (some ⟨Z, 4, none⟩)) rfl rfl (by kernel_rfl) (by kernel_rfl) (by kernel_rfl) (fun _ _ _ h => h) (Or.inl ⟨by rfl, fun w' hSw => by (obtain ⟨q0, q1, q2, q3, q4, q5⟩ := hSw; go_simp)⟩) hH ?_
                  refine wpAnyH_take_to 6 165 (vz) rfl rfl (by kernel_rfl) (by kernel_rfl) (by kernel_rfl) (fun _ _ _ h => h) (Or.inl ⟨by rfl, fun w' hSw => by (obtain ⟨q0, q1, q2, q3, q4, q5⟩ := hSw; go_simp)⟩) hH ?_
                  refine wpAnyH_take_to 7 166 (.agg #[.int .i64 lo2, .int .i64 hi2]) rfl rfl (by kernel_rfl) (by kernel_rfl) (by kernel_rfl) (fun _ _ _ h => h) (Or.inl ⟨by rfl, fun w' hSw => by (obtain ⟨q0, q1, q2, q3, q4, q5⟩ := hSw; go_simp)⟩) hH ?_
                  try simp only [Act.put, List.setIfInBounds_toArray, List.set_cons_succ, List.set_cons_zero]
                  refine wpAnyH_ready (rs := [3, 8]) (by kernel_rfl) (by simp) (AllReadyH.cons rfl (fun K hK => ?_) (AllReadyH.cons rfl (fun K hK => ?_) AllReadyH.nil))
                  · go_simp
                    have HREG := Lib.hid (HREG.out.alloc (.cells #[.int .i64 lo, .int .i64 hi] 29))
                    have RX1 := Lib.hid (Row.new W0' #[.int .i64 lo, .int .i64 hi] 29)
                    have zW1 := (below_alloc W0' (.cells #[.int .i64 lo, .int .i64 hi] 29)).size
                    refine hK.out _ _ (HREG.out.s rfl rfl) (fun hH => ?_)
                    clear hK K
                    obtain ⟨W1, hW1⟩ : ∃ v, W0'.alloc (.cells #[.int .i64 lo, .int .i64 hi] 29) = v := ⟨_, rfl⟩
                    rw [hW1] at HREG hH zW1 RX1  ⊢
                    clear hW1
                    obtain ⟨G1, hG1⟩ : ∃ n, W0'.heap.size = n := ⟨_, rfl⟩
                    rw [hG1] at RX1 ⊢
                    try simp only [Act.put, List.setIfInBounds_toArray, List.set_cons_succ, List.set_cons_zero]
                    refine wpAnyH_ready (rs := [4, 8]) (by kernel_rfl) (by simp) (AllReadyH.cons rfl (fun K hK => ?_) (AllReadyH.cons rfl (fun K hK => ?_) AllReadyH.nil))
                    · refine step_app rfl _ _ _ rfl vx (.slice (some ⟨G1, 0, none⟩) 1 1) rfl rfl _ (HREG.out.appx (by omega) G1 RX1.out 74) ?_
                      rintro va W2 ⟨hreg, hbv, hkeep⟩
                      have zW2 := hbv.size
                      have HREG := Lib.hid hreg
                      clear hreg hbv hkeep
                      refine hK.out _ _ (HREG.out.s rfl rfl) (fun hH => ?_)
                      clear hK K
                      try simp only [Act.put, List.setIfInBounds_toArray, List.set_cons_succ, List.set_cons_zero]
                      refine wpAnyH_take_to 10 169 (.pointer (some ⟨X, 4, none⟩)) rfl rfl (by kernel_rfl) (by kernel_rfl) (by kernel_rfl) (fun _ _ _ h => h) (Or.inl ⟨by rfl, fun w' hSw => by (obtain ⟨q0, q1, q2, q3, q4, q5⟩ := hSw; go_simp)⟩) hH ?_
                      try simp only [Act.put, List.setIfInBounds_toArray, List.set_cons_succ, List.set_cons_zero]
                      refine wpAnyH_ready (rs := [8]) (by kernel_rfl) (by simp) (AllReadyH.cons rfl (fun K hK => ?_) AllReadyH.nil)
                      go_simp
                      have HREG := Lib.hid (HREG.out.alloc (.cells #[.int .i64 lo2, .int .i64 hi2] 29))
                      have RZ1 := Lib.hid (Row.new W2 #[.int .i64 lo2, .int .i64 hi2] 29)
                      have zW3 := (below_alloc W2 (.cells #[.int .i64 lo2, .int .i64 hi2] 29)).size
                      refine hK.out _ _ (HREG.out.s rfl rfl) (fun hH => ?_)
                      clear hK K
                      obtain ⟨W3, hW3⟩ : ∃ v, W2.alloc (.cells #[.int .i64 lo2, .int .i64 hi2] 29) = v := ⟨_, rfl⟩
                      rw [hW3] at HREG hH zW3 RZ1  ⊢
                      clear hW3
                      obtain ⟨G2, hG2⟩ : ∃ n, W2.heap.size = n := ⟨_, rfl⟩
                      rw [hG2] at RZ1 ⊢
                      try simp only [Act.put, List.setIfInBounds_toArray, List.set_cons_succ, List.set_cons_zero]
                      refine wpAnyH_ready (rs := [9]) (by kernel_rfl) (by simp) (AllReadyH.cons rfl (fun K hK => ?_) AllReadyH.nil)
                      refine step_app rfl _ _ _ rfl vz (.slice (some ⟨G2, 0, none⟩) 1 1) rfl rfl _ (HREG.out.appz (by omega) G2 RZ1.out 74) ?_
                      rintro vb W4 ⟨hreg, hbv, hkeep⟩
                      have zW4 := hbv.size
                      have HREG := Lib.hid hreg
                      clear hreg hbv hkeep
                      refine hK.out _ _ (HREG.out.s rfl rfl) (fun hH => ?_)
                      clear hK K
                      try simp only [Act.put, List.setIfInBounds_toArray, List.set_cons_succ, List.set_cons_zero]
                      refine wpAnyH_take (i := 11) (v := undef) rfl (by kernel_rfl) (by kernel_rfl) (by kernel_rfl) (fun _ _ _ h => h) (Or.inl ⟨by rfl, fun _ _ => by rfl⟩) hH ?_
                      refine wpAnyH_take (i := 12) (v := undef) rfl (by kernel_rfl) (by kernel_rfl) (by kernel_rfl) (fun _ _ _ h => h) (Or.inl ⟨by rfl, fun _ _ => by rfl⟩) hH ?_
                      refine wpAnyH_take (i := 13) (v := undef) rfl (by kernel_rfl) (by kernel_rfl) (by kernel_rfl) (fun _ _ _ h => h) (Or.inl ⟨by rfl, fun _ _ => by rfl⟩) hH ?_
                      refine wpAnyH_done (by kernel_rfl) ?_ _
                      refine (id (α := wpList _ _ _ _ _ _) ?_)
                      simp only [Act.put]
                      have HFN := Lib.hid (HFR.out.snoc (x := ⟨lo, hi⟩) (z := ⟨lo2, hi2⟩) ⟨by dsimp only; omega, by dsimp only; omega, by dsimp only; omega, by dsimp only; omega⟩ ⟨by dsimp only; omega, by dsimp only; omega, by dsimp only; omega, by dsimp only; omega⟩ v1 v2)
                      have hln : (HX ++ [(⟨lo, hi⟩ : Hd)]).length ≤ k + 1 := by simp; omega
                      obtain ⟨HX2, hHX2⟩ : ∃ l, HX ++ [(⟨lo, hi⟩ : Hd)] = l := ⟨_, rfl⟩
                      obtain ⟨HZ2, hHZ2⟩ : ∃ l, HZ ++ [(⟨lo2, hi2⟩ : Hd)] = l := ⟨_, rfl⟩
                      rw [hHX2] at HREG HFN hln
                      rw [hHZ2] at HREG HFN
                      clear hHX2 hHZ2
                      obtain ⟨pa, ca, hva⟩ := owns_slice HREG.out.x
                      obtain ⟨pb, cb, hvb⟩ := owns_slice HREG.out.z
                      have HREG := HREG.out
                      subst hva hvb
                      have HREG := Lib.hid HREG
                      have q0 := HREG.out.rx.cell 4 (v := vx) rfl
                      have q1 := HREG.out.rx.free 4
                      have q2 := (HREG.out.rz.set_other ⟨X, 4, none⟩ (.slice pa HX2.length ca) (by dsimp only; omega)).cell 4 (v := vz) rfl
                      have q3 := (HREG.out.rz.set_other ⟨X, 4, none⟩ (.slice pa HX2.length ca) (by dsimp only; omega)).free 4
                      obtain ⟨xs, hxs, hrx, hrz, hox, hoz, hne, hbs⟩ := HREG.out.stores hXZ hX hZ
                      have HRS := Lib.hid hrx
                      have HRT := Lib.hid hrz
                      have HOS := Lib.hid hox
                      have HOT := Lib.hid hoz
                      have HNS := Lib.hid hne
                      have HXS := Lib.hid hxs
                      clear hrx hrz hox hoz hne hxs
                      go_wp2_with fail
                      go_roundw
                      case rel => exact ⟨k + 1, HX2, HZ2, .slice pa HX2.length ca, .slice pb HZ2.length cb, xs, by omega, by go_num, hln, HFN, HXS.out, HRS.out, HRT.out, HOS.out, HOT.out, HNS.out, hbs⟩
                      case measure => simp [intOf]; omega
                    · go_simp
                      have HREG := Lib.hid (HREG.out.alloc (.cells #[.int .i64 lo2, .int .i64 hi2] 29))
                      have RZ1 := Lib.hid (Row.new W1 #[.int .i64 lo2, .int .i64 hi2] 29)
                      have zW2 := (below_alloc W1 (.cells #[.int .i64 lo2, .int .i64 hi2] 29)).size
                      have RX1 := Lib.hid (RX1.out.alloc (.cells #[.int .i64 lo2, .int .i64 hi2] 29))
                      refine hK.out _ _ (HREG.out.s rfl rfl) (fun hH => ?_)
                      clear hK K
                      obtain ⟨W2, hW2⟩ : ∃ v, W1.alloc (.cells #[.int .i64 lo2, .int .i64 hi2] 29) = v := ⟨_, rfl⟩
                      rw [hW2] at HREG hH zW2 RZ1 RX1 ⊢
                      clear hW2
                      obtain ⟨G2, hG2⟩ : ∃ n, W1.heap.size = n := ⟨_, rfl⟩
                      rw [hG2] at RZ1 ⊢
                      try simp only [Act.put, List.setIfInBounds_toArray, List.set_cons_succ, List.set_cons_zero]
                      refine wpAnyH_ready (rs := [4]) (by kernel_rfl) (by simp) (AllReadyH.cons rfl (fun K hK => ?_) AllReadyH.nil)
                      refine step_app rfl _ _ _ rfl vx (.slice (some ⟨G1, 0, none⟩) 1 1) rfl rfl _ (HREG.out.appx (by omega) G1 RX1.out 74) ?_
                      rintro va W3 ⟨hreg, hbv, hkeep⟩
                      have zW3 := hbv.size
                      have RZ1 := Lib.hid (hkeep _ _ _ RZ1.out (fun e => by have := HVX.out _ e; omega))
                      have HREG := Lib.hid hreg
                      clear hreg hbv hkeep
                      refine hK.out _ _ (HREG.out.s rfl rfl) (fun hH => ?_)
                      clear hK K
                      try simp only [Act.put, List.setIfInBounds_toArray, List.set_cons_succ, List.set_cons_zero]
                      refine wpAnyH_take_to 10 169 (.pointer (some ⟨X, 4, none⟩)) rfl rfl (by kernel_rfl) (by kernel_rfl) (by kernel_rfl) (fun _ _ _ h => h) (Or.inl ⟨by rfl, fun w' hSw => by (obtain ⟨q0, q1, q2, q3, q4, q5⟩ := hSw; go_simp)⟩) hH ?_
                      try simp only [Act.put, List.setIfInBounds_toArray, List.set_cons_succ, List.set_cons_zero]
                      refine wpAnyH_ready (rs := [9]) (by kernel_rfl) (by simp) (AllReadyH.cons rfl (fun K hK => ?_) AllReadyH.nil)
                      refine step_app rfl _ _ _ rfl vz (.slice (some ⟨G2, 0, none⟩) 1 1) rfl rfl _ (HREG.out.appz (by omega) G2 RZ1.out 74) ?_
                      rintro vb W4 ⟨hreg, hbv, hkeep⟩
                      have zW4 := hbv.size
                      have HREG := Lib.hid hreg
                      clear hreg hbv hkeep
                      refine hK.out _ _ (HREG.out.s rfl rfl) (fun hH => ?_)
                      clear hK K
                      try simp only [Act.put, List.setIfInBounds_toArray, List.set_cons_succ, List.set_cons_zero]
                      refine wpAnyH_take (i := 11) (v := undef) rfl (by kernel_rfl) (by kernel_rfl) (by kernel_rfl) (fun _ _ _ h => h) (Or.inl ⟨by rfl, fun _ _ => by rfl⟩) hH ?_
                      refine wpAnyH_take (i := 12) (v := undef) rfl (by kernel_rfl) (by kernel_rfl) (by kernel_rfl) (fun _ _ _ h => h) (Or.inl ⟨by rfl, fun _ _ => by rfl⟩) hH ?_
                      refine wpAnyH_take (i := 13) (v := undef) rfl (by kernel_rfl) (by kernel_rfl) (by kernel_rfl) (fun _ _ _ h => h) (Or.inl ⟨by rfl, fun _ _ => by rfl⟩) hH ?_
                      refine wpAnyH_done (by kernel_rfl) ?_ _
                      refine (id (α := wpList _ _ _ _ _ _) ?_)
                      simp only [Act.put]
                      have HFN := Lib.hid (HFR.out.snoc (x := ⟨lo, hi⟩) (z := ⟨lo2, hi2⟩) ⟨by dsimp only; omega, by dsimp only; omega, by dsimp only; omega, by dsimp only; omega⟩ ⟨by dsimp only; omega, by dsimp only; omega, by dsimp only; omega, by dsimp only; omega⟩ v1 v2)
                      have hln : (HX ++ [(⟨lo, hi⟩ : Hd)]).length ≤ k + 1 := by simp; omega
                      obtain ⟨HX2, hHX2⟩ : ∃ l, HX ++ [(⟨lo, hi⟩ : Hd)] = l := ⟨_, rfl⟩
                      obtain ⟨HZ2, hHZ2⟩ : ∃ l, HZ ++ [(⟨lo2, hi2⟩ : Hd)] = l := ⟨_, rfl⟩
                      rw [hHX2] at HREG HFN hln
                      rw [hHZ2] at HREG HFN
                      clear hHX2 hHZ2
                      obtain ⟨pa, ca, hva⟩ := owns_slice HREG.out.x
                      obtain ⟨pb, cb, hvb⟩ := owns_slice HREG.out.z
                      have HREG := HREG.out
                      subst hva hvb
                      have HREG := Lib.hid HREG
                      have q0 := HREG.out.rx.cell 4 (v := vx) rfl
                      have q1 := HREG.out.rx.free 4
                      have q2 := (HREG.out.rz.set_other ⟨X, 4, none⟩ (.slice pa HX2.length ca) (by dsimp only; omega)).cell 4 (v := vz) rfl
                      have q3 := (HREG.out.rz.set_other ⟨X, 4, none⟩ (.slice pa HX2.length ca) (by dsimp only; omega)).free 4
                      obtain ⟨xs, hxs, hrx, hrz, hox, hoz, hne, hbs⟩ := HREG.out.stores hXZ hX hZ
                      have HRS := Lib.hid hrx
                      have HRT := Lib.hid hrz
                      have HOS := Lib.hid hox
                      have HOT := Lib.hid hoz
                      have HNS := Lib.hid hne
                      have HXS := Lib.hid hxs
                      clear hrx hrz hox hoz hne hxs
                      go_wp2_with fail
                      go_roundw
                      case rel => exact ⟨k + 1, HX2, HZ2, .slice pa HX2.length ca, .slice pb HZ2.length cb, xs, by omega, by go_num, hln, HFN, HXS.out, HRS.out, HRT.out, HOS.out, HOT.out, HNS.out, hbs⟩
                      case measure => simp [intOf]; omega
                  · go_simp
                    have HREG := Lib.hid (HREG.out.alloc (.cells #[.int .i64 lo2, .int .i64 hi2] 29))
                    have RZ1 := Lib.hid (Row.new W0' #[.int .i64 lo2, .int .i64 hi2] 29)
                    have zW1 := (below_alloc W0' (.cells #[.int .i64 lo2, .int .i64 hi2] 29)).size
                    refine hK.out _ _ (HREG.out.s rfl rfl) (fun hH => ?_)
                    clear hK K
                    obtain ⟨W1, hW1⟩ : ∃ v, W0'.alloc (.cells #[.int .i64 lo2, .int .i64 hi2] 29) = v := ⟨_, rfl⟩
                    rw [hW1] at HREG hH zW1 RZ1  ⊢
                    clear hW1
                    obtain ⟨G2, hG2⟩ : ∃ n, W0'.heap.size = n := ⟨_, rfl⟩
                    rw [hG2] at RZ1 ⊢
                    try simp only [Act.put, List.setIfInBounds_toArray, List.set_cons_succ, List.set_cons_zero]
                    refine wpAnyH_ready (rs := [3]) (by kernel_rfl) (by simp) (AllReadyH.cons rfl (fun K hK => ?_) AllReadyH.nil)
                    go_simp
                    have HREG := Lib.hid (HREG.out.alloc (.cells #[.int .i64 lo, .int .i64 hi] 29))
                    have RX1 := Lib.hid (Row.new W1 #[.int .i64 lo, .int .i64 hi] 29)
                    have zW2 := (below_alloc W1 (.cells #[.int .i64 lo, .int .i64 hi] 29)).size
                    have RZ1 := Lib.hid (RZ1.out.alloc (.cells #[.int .i64 lo, .int .i64 hi] 29))
                    refine hK.out _ _ (HREG.out.s rfl rfl) (fun hH => ?_)
                    clear hK K
                    obtain ⟨W2, hW2⟩ : ∃ v, W1.alloc (.cells #[.int .i64 lo, .int .i64 hi] 29) = v := ⟨_, rfl⟩
                    rw [hW2] at HREG hH zW2 RX1 RZ1 ⊢
                    clear hW2
                    obtain ⟨G1, hG1⟩ : ∃ n, W1.heap.size = n := ⟨_, rfl⟩
                    rw [hG1] at RX1 ⊢
                    try simp only [Act.put, List.setIfInBounds_toArray, List.set_cons_succ, List.set_cons_zero]
                    refine wpAnyH_ready (rs := [4]) (by kernel_rfl) (by simp) (AllReadyH.cons rfl (fun K hK => ?_) AllReadyH.nil)
                    refine step_app rfl _ _ _ rfl vx (.slice (some ⟨G1, 0, none⟩) 1 1) rfl rfl _ (HREG.out.appx (by omega) G1 RX1.out 74) ?_
                    rintro va W3 ⟨hreg, hbv, hkeep⟩
                    have zW3 := hbv.size
                    have RZ1 := Lib.hid (hkeep _ _ _ RZ1.out (fun e => by have := HVX.out _ e; omega))
                    have HREG := Lib.hid hreg
                    clear hreg hbv hkeep
                    refine hK.out _ _ (HREG.out.s rfl rfl) (fun hH => ?_)
                    clear hK K
                    try simp only [Act.put, List.setIfInBounds_toArray, List.set_cons_succ, List.set_cons_zero]
                    refine wpAnyH_take_to 10 169 (.pointer (some ⟨X, 4, none⟩)) rfl rfl (by kernel_rfl) (by kernel_rfl) (by kernel_rfl) (fun _ _ _ h => h) (Or.inl ⟨by rfl, fun w' hSw => by (obtain ⟨q0, q1, q2, q3, q4, q5⟩ := hSw; go_simp)⟩) hH ?_
                    try simp only [Act.put, List.setIfInBounds_toArray, List.set_cons_succ, List.set_cons_zero]
                    refine wpAnyH_ready (rs := [9]) (by kernel_rfl) (by simp) (AllReadyH.cons rfl (fun K hK => ?_) AllReadyH.nil)
                    refine step_app rfl _ _ _ rfl vz (.slice (some ⟨G2, 0, none⟩) 1 1) rfl rfl _ (HREG.out.appz (by omega) G2 RZ1.out 74) ?_
                    rintro vb W4 ⟨hreg, hbv, hkeep⟩
                    have zW4 := hbv.size
                    have HREG := Lib.hid hreg
                    clear hreg hbv hkeep
                    refine hK.out _ _ (HREG.out.s rfl rfl) (fun hH => ?_)
                    clear hK K
                    try simp only [Act.put, List.setIfInBounds_toArray, List.set_cons_succ, List.set_cons_zero]
                    refine wpAnyH_take (i := 11) (v := undef) rfl (by kernel_rfl) (by kernel_rfl) (by kernel_rfl) (fun _ _ _ h => h) (Or.inl ⟨by rfl, fun _ _ => by rfl⟩) hH ?_
                    refine wpAnyH_take (i := 12) (v := undef) rfl (by kernel_rfl) (by kernel_rfl) (by kernel_rfl) (fun _ _ _ h => h) (Or.inl ⟨by rfl, fun _ _ => by rfl⟩) hH ?_
                    refine wpAnyH_take (i := 13) (v := undef) rfl (by kernel_rfl) (by kernel_rfl) (by kernel_rfl) (fun _ _ _ h => h) (Or.inl ⟨by rfl, fun _ _ => by rfl⟩) hH ?_
                    refine wpAnyH_done (by kernel_rfl) ?_ _
                    refine (id (α := wpList _ _ _ _ _ _) ?_)
                    simp only [Act.put]
                    have HFN := Lib.hid (HFR.out.snoc (x := ⟨lo, hi⟩) (z := ⟨lo2, hi2⟩) ⟨by dsimp only; omega, by dsimp only; omega, by dsimp only; omega, by dsimp only; omega⟩ ⟨by dsimp only; omega, by dsimp only; omega, by dsimp only; omega, by dsimp only; omega⟩ v1 v2)
                    have hln : (HX ++ [(⟨lo, hi⟩ : Hd)]).length ≤ k + 1 := by simp; omega
                    obtain ⟨HX2, hHX2⟩ : ∃ l, HX ++ [(⟨lo, hi⟩ : Hd)] = l := ⟨_, rfl⟩
                    obtain ⟨HZ2, hHZ2⟩ : ∃ l, HZ ++ [(⟨lo2, hi2⟩ : Hd)] = l := ⟨_, rfl⟩
                    rw [hHX2] at HREG HFN hln
                    rw [hHZ2] at HREG HFN
                    clear hHX2 hHZ2
                    obtain ⟨pa, ca, hva⟩ := owns_slice HREG.out.x
                    obtain ⟨pb, cb, hvb⟩ := owns_slice HREG.out.z
                    have HREG := HREG.out
                    subst hva hvb
                    have HREG := Lib.hid HREG
                    have q0 := HREG.out.rx.cell 4 (v := vx) rfl
                    have q1 := HREG.out.rx.free 4
                    have q2 := (HREG.out.rz.set_other ⟨X, 4, none⟩ (.slice pa HX2.length ca) (by dsimp only; omega)).cell 4 (v := vz) rfl
                    have q3 := (HREG.out.rz.set_other ⟨X, 4, none⟩ (.slice pa HX2.length ca) (by dsimp only; omega)).free 4
                    obtain ⟨xs, hxs, hrx, hrz, hox, hoz, hne, hbs⟩ := HREG.out.stores hXZ hX hZ
                    have HRS := Lib.hid hrx
                    have HRT := Lib.hid hrz
                    have HOS := Lib.hid hox
                    have HOT := Lib.hid hoz
                    have HNS := Lib.hid hne
                    have HXS := Lib.hid hxs
                    clear hrx hrz hox hoz hne hxs
                    go_wp2_with fail
                    go_roundw
                    case rel => exact ⟨k + 1, HX2, HZ2, .slice pa HX2.length ca, .slice pb HZ2.length cb, xs, by omega, by go_num, hln, HFN, HXS.out, HRS.out, HRT.out, HOS.out, HOT.out, HNS.out, hbs⟩
                    case measure => simp [intOf]; omega
                · have h10b : decide (hi - lo ≤ 10) = false := by simp; omega
                  clear h10
                  go_wp2_with fail
                  go_roundw
                  case rel => exact ⟨k + 1, HX, HZ, vx, vz, xz, by omega, by go_num, by omega, HFR, rfl, RX.out, RZ.out, OX.out.1, OZ.out.1, ON.out, hb6⟩
                  case measure => simp [intOf]; omega
            · obtain rfl : k = 5 := by omega
              have hfr := HFR.out
              have hnz := hfr.n
              obtain ⟨px, dx, rfl, hdx, hcx⟩ := hds_cap OX.out
              obtain ⟨pz, dz, rfl, hdz, hcz⟩ := hds_cap OZ.out
              have hbx := Lib.hid (show BfAt x.w px dx { b with hs := HX } from ⟨hdx, by dsimp only; omega, hcx, HB.out.i1⟩)
              have hbz := Lib.hid (show BfAt x.w pz dz { b with hs := HZ } from ⟨hdz, by dsimp only; omega, hcz, HB.out.i1⟩)
              have RX := Lib.hid (show Row x.w X (bfA { b with hs := HX } px dx) 76 from RX.out)
              have RZ := Lib.hid (show Row x.w Z (bfA { b with hs := HZ } pz dz) 76 from RZ.out)
              have hkX := book_ok HBO.out (HX := HX) (by omega) (fun y hy => by obtain ⟨i, hi, e⟩ := List.getElem_of_mem hy; rw [← e]; exact (hfr.h i hi (by omega)).1)
              have hkZ := book_ok HBO.out (HX := HZ) (by omega) (fun y hy => by obtain ⟨i, hi, e⟩ := List.getElem_of_mem hy; rw [← e]; exact (hfr.h i (by omega) hi).2.1)
              have hez : Easier { b with hs := HX } { b with hs := HZ } := ⟨rfl, Int.le_refl _, Int.le_refl _, Int.le_refl _, hnz, fun i h h' => (hfr.h i h h').2.2⟩
              generalize ({ b with hs := HX } : Bf) = bX at hbx RX hkX hez
              generalize ({ b with hs := HZ } : Bf) = bZ at hbz RZ hkZ hez
              clear OX OZ ON hdx hdz hcx hcz hfr hnz hkx HFR hbs hk hlt
              have okX := bookB_iff.1 hkX
              have okZ := bookB_iff.1 hkZ
              obtain ⟨lx, ex1, ex2, _⟩ := best_few okX
              obtain ⟨lz, ez1, ez2, _⟩ := best_few okZ
              have hle : ((handL bZ lz).length : Int) ≤ ((handL bX lx).length : Int) := by have := hez.best okX okZ ex1 ez1; omega
              have ex3 : bestQ bX = lx := bestL_of ex1
              have ez3 : bestQ bZ = lz := bestL_of ez1
              have hlx := plan_len ex2
              have hlz := plan_len ez2
              have HBX := Lib.hid (fun w' (k : From x.w w') => (by have h := Best_yes bX px dx w' (hbx.out.below k.b) hkX; unfold GavePlan at h; rw [ex3] at h; exact h : Calls Try.prog 46 #[.agg (bfA bX px dx)] w' fun e w'' => ∃ q cq, e = .returned (.tuple #[.slice q lx.length cq, .int .i64 0]) ∧ IntsAt w'' q lx ∧ Below w'.heap.size w' w''))
              have HBZ := Lib.hid (fun w' (k : From x.w w') => (by have h := Best_yes bZ pz dz w' (hbz.out.below k.b) hkZ; unfold GavePlan at h; rw [ez3] at h; exact h : Calls Try.prog 46 #[.agg (bfA bZ pz dz)] w' fun e w'' => ∃ q cq, e = .returned (.tuple #[.slice q lz.length cq, .int .i64 0]) ∧ IntsAt w'' q lz ∧ Below w'.heap.size w' w''))
              have HYX := Lib.hid (fun w' (k : From x.w w') q cq (hi : IntsAt w' q lx) => ByHand_yes bX px dx q cq lx w' (hbx.out.below k.b) hkX hi (by have := hbx.out.n; omega) (plan_nums_any okX ex2) ex2)
              have HYZ := Lib.hid (fun w' (k : From x.w w') q cq (hi : IntsAt w' q lz) => ByHand_yes bZ pz dz q cq lz w' (hbz.out.below k.b) hkZ hi (by have := hbz.out.n; omega) (plan_nums_any okZ ez2) ez2)
              obtain ⟨nx, hnx⟩ : ∃ v, (handL bX lx).length = v := ⟨_, rfl⟩
              obtain ⟨nz, hnz⟩ : ∃ v, (handL bZ lz).length = v := ⟨_, rfl⟩
              clear ex1 ez1 ex2 ez2 ex3 ez3 hlx hlz okX okZ hkX hkZ hbx hbz hez
              unfold GaveByHand at HYX HYZ
              rw [hnx] at HYX hle
              rw [hnz] at HYZ hle
              clear hnx hnz
              have c0 := RX.out.cell 0 (v := .int .i64 bX.pr) rfl
              have c1 := RX.out.cell 1 (v := .int .i64 bX.le) rfl
              have c2 := RX.out.cell 2 (v := .int .i64 bX.mo) rfl
              have c3 := RX.out.cell 3 (v := .int .i64 bX.gr) rfl
              have c4 := RX.out.cell 4 (v := .slice px bX.hs.length dx) rfl
              go_wp2_with fail
              refine (HBX.out _ (From.refl _)).mono ?_
              rintro e u ⟨qx, cqx, rfl, hix, hbu⟩
              have HIX := Lib.hid hix
              clear hix
              obtain ⟨y1, hz⟩ := later_of hbu
              subst hz
              have RX := Lib.hid (RX.out.below hbu RX.out.lt)
              have RZ := Lib.hid (RZ.out.below hbu RZ.out.lt)
              clear hbu c0 c1 c2 c3 c4
              have c0 := RZ.out.cell 0 (v := .int .i64 bZ.pr) rfl
              have c1 := RZ.out.cell 1 (v := .int .i64 bZ.le) rfl
              have c2 := RZ.out.cell 2 (v := .int .i64 bZ.mo) rfl
              have c3 := RZ.out.cell 3 (v := .int .i64 bZ.gr) rfl
              have c4 := RZ.out.cell 4 (v := .slice pz bZ.hs.length dz) rfl
              go_wp2_with fail
              refine (HBZ.out _ y1.fr).mono ?_
              rintro e u ⟨qz, cqz, rfl, hiz, hbu⟩
              have HIZ := Lib.hid hiz
              clear hiz
              obtain ⟨y2, hz⟩ := y1.on hbu
              subst hz
              have RX := Lib.hid (RX.out.below hbu RX.out.lt)
              have RZ := Lib.hid (RZ.out.below hbu RZ.out.lt)
              have HIX := Lib.hid (HIX.out.below hbu)
              clear hbu c0 c1 c2 c3 c4
              have c0 := RX.out.cell 0 (v := .int .i64 bX.pr) rfl
              have c1 := RX.out.cell 1 (v := .int .i64 bX.le) rfl
              have c2 := RX.out.cell 2 (v := .int .i64 bX.mo) rfl
              have c3 := RX.out.cell 3 (v := .int .i64 bX.gr) rfl
              have c4 := RX.out.cell 4 (v := .slice px bX.hs.length dx) rfl
              go_wp2_with fail
              refine (HYX.out _ y2.fr _ _ HIX.out).mono ?_
              rintro e u ⟨ph1, ch1, rfl, _, hbu⟩
              obtain ⟨y3, hz⟩ := y2.on hbu
              subst hz
              have RX := Lib.hid (RX.out.below hbu RX.out.lt)
              have RZ := Lib.hid (RZ.out.below hbu RZ.out.lt)
              have HIZ := Lib.hid (HIZ.out.below hbu)
              clear hbu c0 c1 c2 c3 c4
              have c0 := RZ.out.cell 0 (v := .int .i64 bZ.pr) rfl
              have c1 := RZ.out.cell 1 (v := .int .i64 bZ.le) rfl
              have c2 := RZ.out.cell 2 (v := .int .i64 bZ.mo) rfl
              have c3 := RZ.out.cell 3 (v := .int .i64 bZ.gr) rfl
              have c4 := RZ.out.cell 4 (v := .slice pz bZ.hs.length dz) rfl
              go_wp2_with fail
              refine (HYZ.out _ y3.fr _ _ HIZ.out).mono ?_
              rintro e u ⟨ph2, ch2, rfl, _, hbu⟩
              obtain ⟨y4, hz⟩ := y3.on hbu
              subst hz
              clear hbu c0 c1 c2 c3 c4
              go_wp2_with fail
              refine (baked05_any _).mono ?_
              rintro e u ⟨rfl, hbu⟩
              obtain ⟨y5, hz⟩ := y4.on hbu
              subst hz
              clear hbu
              go_wp2_with fail
              go_ret
              obtain ⟨e1, he1⟩ := x.up y5
              obtain ⟨e2, he2⟩ := zA.up e1
              exact ⟨rfl, by rw [he1, he2]; exact e2.base HE.out⟩
end
end Go.Proofs.Yticfcdbfplfmlaa
