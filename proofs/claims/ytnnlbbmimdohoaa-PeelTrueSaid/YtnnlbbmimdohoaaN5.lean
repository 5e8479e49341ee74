/- The most whole pieces: wherever knots truly are, each piece of the best cutting is whole: the law returns true, whatever the log and the numbers. -/
import Derived.Test.YtnnlbbmimdohoaaT6
import Derived.Test.YtnnlbbmimdohoaaL6
import Derived.Deep.RegionHeld3
namespace Go.Proofs.Ytnnlbbmimdohoaa
open Go.RowKit Go.Maps
attribute [local go_sem] Oper.semAt_some

/-- What the region of tests keeps. -/
structure Keep (A : Array Value) (t : TypeId) (p1 p2 pb pc pk : Option Addr) (long : List Int) (ks : List K4) (best cut : List Int) (kn : List Bool) (b : Nat) (w0 w : World) : Prop where
  r : Row w b A t
  h : LogAt w p1 p2 long ks
  i : IntsAt w pb best
  c : IntsAt w pc cut
  k : BoolsAt w pk kn
  b : Below w0.heap.size w0 w
theorem Keep.below {A : Array Value} {t : TypeId} {p1 p2 pb pc pk : Option Addr} {long : List Int} {ks : List K4} {best cut : List Int} {kn : List Bool} {b : Nat} {w0 w w' : World} (h : Keep A t p1 p2 pb pc pk long ks best cut kn b w0 w) (hb : Below w.heap.size w w') : Keep A t p1 p2 pb pc pk long ks best cut kn b w0 w' :=
  ⟨h.r.below hb h.r.lt, h.h.below hb, h.i.below hb, h.c.below hb, h.k.below hb, h.b.trans (hb.mono h.b.size)⟩
theorem Keep.drew {A : Array Value} {t : TypeId} {p1 p2 pb pc pk : Option Addr} {long : List Int} {ks : List K4} {best cut : List Int} {kn : List Bool} {b : Nat} {w0 w : World} (h : Keep A t p1 p2 pb pc pk long ks best cut kn b w0 w) : Keep A t p1 p2 pb pc pk long ks best cut kn b w0 w.drew :=
  ⟨h.r.drew, ⟨h.h.l, h.h.k, h.h.b1, h.h.b2⟩, h.i, h.c, h.k, h.b.drew⟩

theorem Has_yes (a b n : Int) (w : World) (h1 : a ≤ n) (h2 : n ≤ b) :
    Calls Try.prog 45 #[.agg #[.int .i64 a, .int .i64 b], .int .i64 n] w fun e w' => e = .returned (.bool true) ∧ Below w.heap.size w w' := by
  have h := Has_any a b n w
  rw [show fits n a b = true by unfold fits; simp; omega] at h
  exact h

set_option maxRecDepth 10000 in
set_option maxHeartbeats 1600000 in
theorem PeelTrue_any (p1 : Option Addr) (c1 : Nat) (p2 : Option Addr) (c2 : Nat) (long : List Int) (sz : Int) (ks : List K4) (w0 : World) (h : LogAt w0 p1 p2 long ks) (ps : Option Addr) (cs : Nat) (bits : List Int) (hbi : IntsAt w0 ps bits) (hbn : bits.length ≤ maxLen) (pt : Option Addr) (ct : Nat) (steps : List Int) (hst : IntsAt w0 pt steps) (hsn : steps.length ≤ maxLen) :
    Calls Try.prog 6 #[.agg #[.slice p1 long.length c1, .int .i64 sz, .slice p2 ks.length c2], .slice ps bits.length cs, .slice pt steps.length ct] w0 fun e w' => e = .returned (.bool true) ∧ Below w0.heap.size w0 w' := by
  go_enter Try.func6, Try.ntmps6
  have hba := below_alloc w0 (.cells #[.slice p1 long.length c1, .int .i64 sz, .slice p2 ks.length c2] 25)
  have r0 := Row.new w0 #[.slice p1 long.length c1, .int .i64 sz, .slice p2 ks.length c2] 25
  have HH := Lib.hid (h.below hba)
  have HS := Lib.hid (hbi.below hba)
  have HT := Lib.hid (hst.below hba)
  clear h hbi hst
  cases hb : validB long sz ks
  · go_wp2_with (first | (refine (sound_no p1 c1 p2 c2 long sz ks _ HH.out hb).mono ?_; rintro e w1 ⟨rfl, hb1⟩; have HB := Lib.hid (hba.trans (hb1.mono (by simp <;> omega))); clear hb1) | (refine (peeled_any _).mono ?_; rintro e w2 ⟨rfl, hb2⟩))
    go_ret
    exact ⟨rfl, HB.out.trans (hb2.mono HB.out.size)⟩
  · have hok := valid_ok hb
    have hs1 := hok.s1
    have hs6 := hok.s6
    obtain ⟨m, rfl⟩ : ∃ m : Nat, sz = m := ⟨sz.toNat, by omega⟩
    have hw := wideN_eq hok.L
    have hw72 : psum long long.length ≤ 72 := by omega
    have hpt := Lib.hid (trulyK_point bits 0 ks hok.ok hok.fh)
    have hKN : ∀ i, b0 (knotsTo long (trulyK bits 0 ks) long.length) i = b0 (reachD long (trulyK bits 0 ks)) i := fun i => knots_reach hok.L hpt.out i
    have hKL := Lib.hid (knotsTo_length (trulyK bits 0 ks) hok.L long.length (Nat.le_refl _))
    have hKM := truly_truth hok bits
    have hTV := truly_valid hb bits
    have HTR := Lib.hid (fun w hl hs => truly_any p1 c1 p2 c2 long m ks w hl hb ps cs bits hs hbn : ∀ w, LogAt w p1 p2 long ks → IntsAt w ps bits → Calls Try.prog 41 #[.agg #[.slice p1 long.length c1, .int .i64 m, .slice p2 ks.length c2], .slice ps bits.length cs] w (GaveLog p1 c1 long m (trulyK bits 0 ks) w))
    have HKC := Lib.hid (fun w p2 c2 hl => knots_any p1 c1 p2 c2 long m (trulyK bits 0 ks) w hl hTV : ∀ (w : World) (p2 : Option Addr) (c2 : Nat), LogAt w p1 p2 long (trulyK bits 0 ks) → Calls Try.prog 40 #[.agg #[.slice p1 long.length c1, .int .i64 m, .slice p2 (trulyK bits 0 ks).length c2]] w fun e w' => ∃ p c, e = .returned (.slice p (knotsTo long (trulyK bits 0 ks) long.length).length c) ∧ BoolsAt w' p (knotsTo long (trulyK bits 0 ks) long.length) ∧ Below w.heap.size w w')
    clear hpt hTV
    generalize knotsTo long (trulyK bits 0 ks) long.length = kn at *
    generalize trulyK bits 0 ks = kt at *
    -- the best cutting, and the one that numbers choose
    have hco := drawnL_ok (sz := m) (wide := psum long long.length) (steps.take 72) 0
    have HDC := Lib.hid (fun w hl hs => drawn_cut p1 c1 p2 c2 long m ks w hl hb pt ct steps hs hsn : ∀ w, LogAt w p1 p2 long ks → IntsAt w pt steps → Calls Try.prog 42 #[.agg #[.slice p1 long.length c1, .int .i64 m, .slice p2 ks.length c2], .slice pt steps.length ct] w (GaveInts (drawnL m (psum long long.length) (steps.take 72) 0) w))
    have hcl := drawnL_length (sz := m) (wide := psum long long.length) (steps.take 72) 0
    rw [List.length_take] at hcl
    generalize drawnL m (psum long long.length) (steps.take 72) 0 = cut at *
    have hcm : cut.length ≤ maxLen := by unfold maxLen; omega
    have hbo := (best_ok hok).1
    have hblen := cutD_short hok (reachD long ks)
    have hbm : (bestD long m ks).length ≤ maxLen := by unfold maxLen bestD; omega
    have ht1 := best_true hok hKM
    have ht2 := lo_hi (sz := m) hKM cut
    have ht3 := hi_le long m ks cut
    have ht4 := sure_lo long m ks cut
    have ht5 := countL_le (wholesD long m (reachD long ks)) cut
    have ht6 := most_any hok (reachD long kt) hco
    have ht7 := hope_ge (sz := m) hKM
    have ht8 := best_hope hok
    have ht9 := best_most hok hco
    have hn1 := wholeN_eq (long := long) (m := m) rfl hs1 hKN hbo hw72
    have hn2 := wholeN_eq (long := long) (m := m) rfl hs1 hKN hco hw72
    have HBE := Lib.hid (fun w hl => Best_good p1 c1 p2 c2 long m ks w hl hb : ∀ w, LogAt w p1 p2 long ks → Calls Try.prog 30 #[.agg #[.slice p1 long.length c1, .int .i64 m, .slice p2 ks.length c2]] w fun e w' => ∃ p c, e = .returned (.tuple #[.slice p (bestD long m ks).length c, .int .i64 0]) ∧ IntsAt w' p (bestD long m ks) ∧ Below w.heap.size w w')
    have HSU := Lib.hid (fun w hl pc cc hi => Sure_yes p1 c1 p2 c2 long m ks w hl pc cut cc hi hcm hb hco : ∀ w, LogAt w p1 p2 long ks → ∀ (pc : Option Addr) (cc : Nat), IntsAt w pc cut → Calls Try.prog 26 #[.agg #[.slice p1 long.length c1, .int .i64 m, .slice p2 ks.length c2], .slice pc cut.length cc] w fun e w' => e = .returned (.tuple #[.int .i64 (countL (wholesD long m (reachD long ks)) cut), .int .i64 0]) ∧ Below w.heap.size w w')
    have HWH := Lib.hid (fun w hl pc cc hi => Whole_good p1 c1 p2 c2 long m ks w hl pc cut cc hi hcm hb hco : ∀ w, LogAt w p1 p2 long ks → ∀ (pc : Option Addr) (cc : Nat), IntsAt w pc cut → Calls Try.prog 28 #[.agg #[.slice p1 long.length c1, .int .i64 m, .slice p2 ks.length c2], .slice pc cut.length cc] w fun e w' => e = .returned (.tuple #[.agg #[.int .i64 (loD long m ks cut), .int .i64 (hiD long m ks cut)], .int .i64 0]) ∧ Below w.heap.size w w')
    have HHO := Lib.hid (fun w hl => Hope_good p1 c1 p2 c2 long m ks w hl hb : ∀ w, LogAt w p1 p2 long ks → Calls Try.prog 35 #[.agg #[.slice p1 long.length c1, .int .i64 m, .slice p2 ks.length c2]] w fun e w' => e = .returned (.tuple #[.int .i64 (hopeD long m ks), .int .i64 0]) ∧ Below w.heap.size w w')
    have HCB := Lib.hid (fun w hl pc cc hi => by have h := cutting_any p1 c1 p2 c2 long m ks w hl hb pc cc (bestD long m ks) hi hbm; rw [hbo] at h; exact h : ∀ w, LogAt w p1 p2 long ks → ∀ (pc : Option Addr) (cc : Nat), IntsAt w pc (bestD long m ks) → Calls Try.prog 43 #[.agg #[.slice p1 long.length c1, .int .i64 m, .slice p2 ks.length c2], .slice pc (bestD long m ks).length cc] w fun e w' => e = .returned (.bool true) ∧ Below w.heap.size w w')
    have HCC := Lib.hid (fun w hl pc cc hi => by have h := cutting_any p1 c1 p2 c2 long m ks w hl hb pc cc cut hi hcm; rw [hco] at h; exact h : ∀ w, LogAt w p1 p2 long ks → ∀ (pc : Option Addr) (cc : Nat), IntsAt w pc cut → Calls Try.prog 43 #[.agg #[.slice p1 long.length c1, .int .i64 m, .slice p2 ks.length c2], .slice pc cut.length cc] w fun e w' => e = .returned (.bool true) ∧ Below w.heap.size w w')
    have HWB := Lib.hid (fun w pk ck hk pc cc hi => by have h := lawwhole_any p1 c1 p2 c2 long m ks w m rfl hb pk ck kn hk hKL.out pc cc (bestD long m ks) hi hbo; rw [hn1, ht1] at h; exact h : ∀ w (pk : Option Addr) (ck : Nat), BoolsAt w pk kn → ∀ (pc : Option Addr) (cc : Nat), IntsAt w pc (bestD long m ks) → Calls Try.prog 44 #[.agg #[.slice p1 long.length c1, .int .i64 m, .slice p2 ks.length c2], .slice pk kn.length ck, .slice pc (bestD long m ks).length cc] w fun e w' => e = .returned (.int .i64 ((bestD long m ks).length : Int)) ∧ Below w.heap.size w w')
    have HWC := Lib.hid (fun w pk ck hk pc cc hi => by have h := lawwhole_any p1 c1 p2 c2 long m ks w m rfl hb pk ck kn hk hKL.out pc cc cut hi hco; rw [hn2] at h; exact h : ∀ w (pk : Option Addr) (ck : Nat), BoolsAt w pk kn → ∀ (pc : Option Addr) (cc : Nat), IntsAt w pc cut → Calls Try.prog 44 #[.agg #[.slice p1 long.length c1, .int .i64 m, .slice p2 ks.length c2], .slice pk kn.length ck, .slice pc cut.length cc] w fun e w' => e = .returned (.int .i64 (countL (wholesD long m (reachD long kt)) cut)) ∧ Below w.heap.size w w')
    rw [show (cutD long m (reachD long ks)).length = (bestD long m ks).length from rfl] at hblen
    clear hw hw72 hKN hn1 hn2 hco hbo hKM ht1 hKL
    have hmany := countL_le (wholesD long m (reachD long kt)) cut
    generalize countL (wholesD long m (reachD long kt)) cut = many at *
    generalize countL (wholesD long m (reachD long ks)) cut = sure at *
    generalize loD long m ks cut = lo at *
    generalize hiD long m ks cut = hi at *
    generalize hopeD long m ks = hope at *
    generalize (cutD long m (reachD long kt)).length = most at *
    generalize bestD long m ks = best at *
    go_wp2_with fail
    refine (sound_yes p1 c1 p2 c2 long m ks _ HH.out hb).mono ?_
    rintro e w1 ⟨rfl, hb1⟩
    have hs1' := hb1.size
    simp at hs1'
    have H1 := Lib.hid (HH.out.below hb1)
    have S1 := Lib.hid (HS.out.below hb1)
    have T1 := Lib.hid (HT.out.below hb1)
    have R1 := Lib.hid (r0.below hb1 (by simp))
    have B1 := Lib.hid (hba.trans (hb1.mono (by simp)))
    clear hb1 hba r0 HH HS HT
    go_wp2_with (first | (refine load_row rfl 25 _ rfl _ rfl 25 _ _ R1.out Try.underlying25 rfl (by kernel_rfl) ?_))
    refine (HTR.out _ H1.out S1.out).mono ?_
    rintro e w2 ⟨p2', c2', rfl, hl2, hcc, hb2⟩
    have hz2 := hb2.size
    have H2 := Lib.hid (H1.out.below hb2)
    have T2 := Lib.hid (T1.out.below hb2)
    have R2 := Lib.hid (R1.out.below hb2 (by omega))
    have B2 := Lib.hid (B1.out.trans (hb2.mono (by omega)))
    have L2 := Lib.hid hl2
    clear hb2 hl2 H1 S1 R1 B1 T1 HTR
    go_wp2_with fail
    refine (HKC.out _ _ _ L2.out).mono ?_
    rintro e w3 ⟨pk, ck, rfl, hkn, hb3⟩
    have hz3 := hb3.size
    have H3 := Lib.hid (H2.out.below hb3)
    have T3 := Lib.hid (T2.out.below hb3)
    have R3 := Lib.hid (R2.out.below hb3 (by omega))
    have B3 := Lib.hid (B2.out.trans (hb3.mono (by omega)))
    have K3 := Lib.hid hkn
    clear hb3 hkn H2 R2 B2 T2 L2 HKC
    go_wp2_with (first | (refine load_row rfl 25 _ rfl _ rfl 25 _ _ R3.out Try.underlying25 rfl (by kernel_rfl) ?_))
    refine (HBE.out _ H3.out).mono ?_
    rintro e w4 ⟨pb, cb, rfl, hbe, hb4⟩
    have hz4 := hb4.size
    have H4 := Lib.hid (H3.out.below hb4)
    have T4 := Lib.hid (T3.out.below hb4)
    have R4 := Lib.hid (R3.out.below hb4 (by omega))
    have B4 := Lib.hid (B3.out.trans (hb4.mono (by omega)))
    have K4 := Lib.hid (K3.out.below hb4)
    have I4 := Lib.hid hbe
    clear hb4 hbe H3 R3 B3 K3 T3 HBE
    go_wp2_with (first | (refine load_row rfl 25 _ rfl _ rfl 25 _ _ R4.out Try.underlying25 rfl (by kernel_rfl) ?_))
    refine (HDC.out _ H4.out T4.out).mono ?_
    rintro e w5 ⟨pc, cc, rfl, hci, hb5⟩
    have hz5 := hb5.size
    have H5 := Lib.hid (H4.out.below hb5)
    have R5 := Lib.hid (R4.out.below hb5 (by omega))
    have B5 := Lib.hid (B4.out.trans (hb5.mono (by omega)))
    have K5 := Lib.hid (K4.out.below hb5)
    have I5 := Lib.hid (I4.out.below hb5)
    have C5 := Lib.hid hci
    clear hb5 hci H4 R4 B4 K4 T4 I4 HDC
    go_wp2_with (first | (refine load_row rfl 25 _ rfl _ rfl 25 _ _ R5.out Try.underlying25 rfl (by kernel_rfl) ?_))
    refine (HSU.out _ H5.out _ _ C5.out).mono ?_
    rintro e w6 ⟨rfl, hb6⟩
    have hz6 := hb6.size
    have H6 := Lib.hid (H5.out.below hb6)
    have R6 := Lib.hid (R5.out.below hb6 (by omega))
    have B6 := Lib.hid (B5.out.trans (hb6.mono (by omega)))
    have K6 := Lib.hid (K5.out.below hb6)
    have I6 := Lib.hid (I5.out.below hb6)
    have C6 := Lib.hid (C5.out.below hb6)
    clear hb6 H5 R5 B5 K5 I5 C5 HSU
    go_wp2_with (first | (refine load_row rfl 25 _ rfl _ rfl 25 _ _ R6.out Try.underlying25 rfl (by kernel_rfl) ?_))
    refine (HWH.out _ H6.out _ _ C6.out).mono ?_
    rintro e w7 ⟨rfl, hb7⟩
    have hz7 := hb7.size
    have H7 := Lib.hid (H6.out.below hb7)
    have R7 := Lib.hid (R6.out.below hb7 (by omega))
    have B7 := Lib.hid (B6.out.trans (hb7.mono (by omega)))
    have K7 := Lib.hid (K6.out.below hb7)
    have I7 := Lib.hid (I6.out.below hb7)
    have C7 := Lib.hid (C6.out.below hb7)
    clear hb7 H6 R6 B6 K6 I6 C6 HWH
    have RS := Lib.hid (Row.new w7 #[.int .i64 lo, .int .i64 hi] 39)
    have H8 := Lib.hid (H7.out.below (below_alloc w7 (.cells #[.int .i64 lo, .int .i64 hi] 39)))
    have R8 := Lib.hid (R7.out.alloc (.cells #[.int .i64 lo, .int .i64 hi] 39))
    have B8 := Lib.hid (B7.out.alloc B7.out.size (.cells #[.int .i64 lo, .int .i64 hi] 39))
    have K8 := Lib.hid (K7.out.below (below_alloc w7 (.cells #[.int .i64 lo, .int .i64 hi] 39)))
    have I8 := Lib.hid (I7.out.below (below_alloc w7 (.cells #[.int .i64 lo, .int .i64 hi] 39)))
    have C8 := Lib.hid (C7.out.below (below_alloc w7 (.cells #[.int .i64 lo, .int .i64 hi] 39)))
    clear H7 R7 B7 K7 I7 C7
    go_wp2_with (first | (refine load_row rfl 25 _ rfl _ rfl 25 _ _ R8.out Try.underlying25 rfl (by kernel_rfl) ?_))
    refine (HHO.out _ H8.out).mono ?_
    rintro e w9 ⟨rfl, hb9⟩
    have hz9 := hb9.size
    simp at hz9
    have RS := Lib.hid (RS.out.below hb9 (by simp))
    have KP := Lib.hid (Keep.mk (R8.out.below hb9 (by simp; omega)) (H8.out.below hb9) (I8.out.below hb9) (C8.out.below hb9) (K8.out.below hb9) (B8.out.trans (hb9.mono (by simp; omega))))
    clear hb9 H8 R8 B8 K8 I8 C8 HHO
    have k0 := KP.out.r.cell 0 (v := .slice p1 long.length c1) rfl
    have k1 := KP.out.r.cell 1 (v := .int .i64 m) rfl
    have k2 := KP.out.r.cell 2 (v := .slice p2 ks.length c2) rfl
    go_wp2_with fail
    refine (HCB.out _ KP.out.h _ _ KP.out.i).mono ?_
    rintro e w10 ⟨rfl, hb10⟩
    have hz10 := hb10.size
    have RS := Lib.hid (RS.out.below hb10 (by omega))
    have KP := Lib.hid (KP.out.below hb10)
    clear hb10 k0 k1 k2
    have k0 := KP.out.r.cell 0 (v := .slice p1 long.length c1) rfl
    have k1 := KP.out.r.cell 1 (v := .int .i64 m) rfl
    have k2 := KP.out.r.cell 2 (v := .slice p2 ks.length c2) rfl
    go_wp2_with fail
    refine (HCC.out _ KP.out.h _ _ KP.out.c).mono ?_
    rintro e w11 ⟨rfl, hb11⟩
    have hz11 := hb11.size
    have RS := Lib.hid (RS.out.below hb11 (by omega))
    have KP := Lib.hid (KP.out.below hb11)
    clear hb11 k0 k1 k2
    have k0 := KP.out.r.cell 0 (v := .slice p1 long.length c1) rfl
    have k1 := KP.out.r.cell 1 (v := .int .i64 m) rfl
    have k2 := KP.out.r.cell 2 (v := .slice p2 ks.length c2) rfl
    go_wp2_with fail
    refine (HWB.out _ _ _ KP.out.k _ _ KP.out.i).mono ?_
    rintro e w12 ⟨rfl, hb12⟩
    have hz12 := hb12.size
    have RS := Lib.hid (RS.out.below hb12 (by omega))
    have KP := Lib.hid (KP.out.below hb12)
    clear hb12 k0 k1 k2
    have k0 := KP.out.r.cell 0 (v := .slice p1 long.length c1) rfl
    have k1 := KP.out.r.cell 1 (v := .int .i64 m) rfl
    have k2 := KP.out.r.cell 2 (v := .slice p2 ks.length c2) rfl
    go_wp2_with fail
    refine (HWC.out _ _ _ KP.out.k _ _ KP.out.c).mono ?_
    rintro e w13 ⟨rfl, hb13⟩
    have hz13 := hb13.size
    have RS := Lib.hid (RS.out.below hb13 (by omega))
    have KP := Lib.hid (KP.out.below hb13)
    clear hb13 k0 k1 k2
    have k0 := KP.out.r.cell 0 (v := .slice p1 long.length c1) rfl
    have k1 := KP.out.r.cell 1 (v := .int .i64 m) rfl
    have k2 := KP.out.r.cell 2 (v := .slice p2 ks.length c2) rfl
    clear k0 k1 k2
    have hmh : many ≤ hope := by omega
    have s0 := RS.out.cell 0 (v := .int .i64 lo) rfl
    have s1 := RS.out.cell 1 (v := .int .i64 hi) rfl
    go_wp2_with fail
    refine (Has_yes lo hi many _ (by omega) (by omega)).mono ?_
    rintro e w14 ⟨rfl, hb14⟩
    have hz14 := hb14.size
    have RS := Lib.hid (RS.out.below hb14 (by omega))
    have B14 := Lib.hid (KP.out.b.trans (hb14.mono KP.out.b.size))
    clear hb14 KP s0 s1
    have s0 := RS.out.cell 0 (v := .int .i64 lo) rfl
    have s1 := RS.out.cell 1 (v := .int .i64 hi) rfl
    go_wp2_with (first | (refine (Fits_yes _ _ _ _ (by omega) (by omega)).mono ?_; rintro e u ⟨rfl, rfl⟩) | (refine (peeled_any _).mono ?_; rintro e w15 ⟨rfl, hb15⟩))
    go_ret
    exact ⟨rfl, B14.out.trans (hb15.mono B14.out.size)⟩
end Go.Proofs.Ytnnlbbmimdohoaa
