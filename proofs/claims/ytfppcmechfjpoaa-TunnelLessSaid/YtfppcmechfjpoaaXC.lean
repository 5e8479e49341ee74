/- The law of layer 3 on a frame less, a wider Need, a damp of which more is known. -/
import Derived.Test.YtfppcmechfjpoaaXB
import Derived.Deep.CutBlock
namespace Go.Proofs.Ytfppcmechfjpoaa
open Go.RowKit Go.Maps
attribute [local go_sem] Oper.semAt_some

set_option maxRecDepth 10000 in
set_option maxHeartbeats 3200000 in
theorem less_bad (pp : Option Addr) (cp : Nat) (pf : Option Addr) (cf : Nat) (ps : List Pt) (ms : List FrM) (n0 n1 n2 n3 : Int) (w : World) (hB : BkAt w pp pf ps ms) (hb : bookB ps (frsM ms) = false) : Calls Try.prog 10 #[.agg #[.slice pp ps.length cp, .slice pf ms.length cf], .agg #[.int .i64 n0, .int .i64 n1, .int .i64 n2, .int .i64 n3]] w fun e w' => e = .returned (.bool true) ∧ Below w.heap.size w w' := by
  have hE := below_alloc2 w (.cells #[.slice pp ps.length cp, .slice pf ms.length cf] 25) (.cells #[.int .i64 n0, .int .i64 n1, .int .i64 n2, .int .i64 n3] 62)
  have HB := Lib.hid (hB.below hE)
  have HE := Lib.hid hE
  have HR := Lib.hid ((Row.new w #[.slice pp ps.length cp, .slice pf ms.length cf] 25).alloc (.cells #[.int .i64 n0, .int .i64 n1, .int .i64 n2, .int .i64 n3] 62))
  have HN := Lib.hid (Row.new1 w (.cells #[.slice pp ps.length cp, .slice pf ms.length cf] 25) #[.int .i64 n0, .int .i64 n1, .int .i64 n2, .int .i64 n3] 62)
  clear hE
  have HV := Lib.hid hb
  clear hb 
  go_enter Try.func10, Try.ntmps10
  go_wp2_with fail
  refine (sound_any pp cp pf cf ps ms _ HB.out).mono ?_
  rintro e w1 ⟨rfl, hb1⟩
  rw [HV.out]
  have HE := Lib.hid (HE.out.trans (hb1.mono HE.out.size))
  have HR := Lib.hid (HR.out.below hb1 HR.out.lt)
  have HN := Lib.hid (HN.out.below hb1 HN.out.lt)
  clear hb1
  go_wp2_with fail
  refine (warmed_any _).mono ?_
  rintro e w2 ⟨rfl, hb2⟩
  have HE := Lib.hid (HE.out.trans (hb2.mono HE.out.size))
  clear hb2
  go_wp2_with fail
  go_ret
  exact ⟨rfl, HE.out⟩

set_option maxRecDepth 10000 in
set_option maxHeartbeats 3200000 in
theorem less_none (pp : Option Addr) (cp : Nat) (pf : Option Addr) (cf : Nat) (ps : List Pt) (ms : List FrM) (n0 n1 n2 n3 : Int) (w : World) (hB : BkAt w pp pf ps ms) (hb : bookB ps (frsM ms) = true) (h0 : ms.length = 0) : Calls Try.prog 10 #[.agg #[.slice pp ps.length cp, .slice pf ms.length cf], .agg #[.int .i64 n0, .int .i64 n1, .int .i64 n2, .int .i64 n3]] w fun e w' => e = .returned (.bool true) ∧ Below w.heap.size w w' := by
  have hE := below_alloc2 w (.cells #[.slice pp ps.length cp, .slice pf ms.length cf] 25) (.cells #[.int .i64 n0, .int .i64 n1, .int .i64 n2, .int .i64 n3] 62)
  have HB := Lib.hid (hB.below hE)
  have HE := Lib.hid hE
  have HR := Lib.hid ((Row.new w #[.slice pp ps.length cp, .slice pf ms.length cf] 25).alloc (.cells #[.int .i64 n0, .int .i64 n1, .int .i64 n2, .int .i64 n3] 62))
  have HN := Lib.hid (Row.new1 w (.cells #[.slice pp ps.length cp, .slice pf ms.length cf] 25) #[.int .i64 n0, .int .i64 n1, .int .i64 n2, .int .i64 n3] 62)
  clear hE
  have HV := Lib.hid hb
  have H0 := Lib.hid h0
  clear hb  h0
  go_enter Try.func10, Try.ntmps10
  go_wp2_with fail
  refine (sound_any pp cp pf cf ps ms _ HB.out).mono ?_
  rintro e w1 ⟨rfl, hb1⟩
  rw [HV.out]
  have HE := Lib.hid (HE.out.trans (hb1.mono HE.out.size))
  have HR := Lib.hid (HR.out.below hb1 HR.out.lt)
  have HN := Lib.hid (HN.out.below hb1 HN.out.lt)
  clear hb1
  have c1 := HR.out.cell 1 (v := .slice pf ms.length cf) rfl
  clear HR HN HV HB hB
  rw [H0.out] at c1
  go_wp2_with fail
  refine (warmed_any _).mono ?_
  rintro e w2 ⟨rfl, hb2⟩
  have HE := Lib.hid (HE.out.trans (hb2.mono HE.out.size))
  clear hb2 c1
  go_wp2_with fail
  go_ret
  exact ⟨rfl, HE.out⟩

set_option maxRecDepth 10000 in
set_option maxHeartbeats 3200000 in
theorem less_main (pp : Option Addr) (cp : Nat) (pf : Option Addr) (cf : Nat) (ps : List Pt) (ms : List FrM) (n0 n1 n2 n3 : Int) (w : World) (hB : BkAt w pp pf ps ms) (hcf : ms.length ≤ cf) (hb : bookB ps (frsM ms) = true) (h0 : 0 < ms.length) : Calls Try.prog 10 #[.agg #[.slice pp ps.length cp, .slice pf ms.length cf], .agg #[.int .i64 n0, .int .i64 n1, .int .i64 n2, .int .i64 n3]] w fun e w' => e = .returned (.bool true) ∧ Below w.heap.size w w' := by
  obtain ⟨b, o, rfl⟩ : ∃ b o, pp = some ⟨b, o, none⟩ := by
    obtain ⟨b, o, e, _⟩ := hB.p 0 (bookB_iff.1 hb).p1
    exact ⟨b, o, e⟩
  obtain ⟨fb, fo, rfl⟩ : ∃ b o, pf = some ⟨b, o, none⟩ := by
    obtain ⟨b, o, e, _⟩ := hB.f 0 h0
    exact ⟨b, o, e⟩
  obtain ⟨W0, hW0⟩ : ∃ W, W = ((w.alloc (.cells #[.slice (some ⟨b, o, none⟩) ps.length cp, .slice (some ⟨fb, fo, none⟩) ms.length cf] 25)).alloc (.cells #[.int .i64 n0, .int .i64 n1, .int .i64 n2, .int .i64 n3] 62)) := ⟨_, rfl⟩
  have HW0 := Lib.hid hW0
  have HE := Lib.hid (show Below w.heap.size w W0 by rw [hW0]; exact below_alloc2 _ _ _)
  have HB := Lib.hid (hB.below HE.out)
  have HR := Lib.hid (show Row W0 w.heap.size #[.slice (some ⟨b, o, none⟩) ps.length cp, .slice (some ⟨fb, fo, none⟩) ms.length cf] 25 by rw [hW0]; exact (Row.new w #[.slice (some ⟨b, o, none⟩) ps.length cp, .slice (some ⟨fb, fo, none⟩) ms.length cf] 25).alloc (.cells #[.int .i64 n0, .int .i64 n1, .int .i64 n2, .int .i64 n3] 62))
  have HN := Lib.hid (show Row W0 (w.heap.size + 1) #[.int .i64 n0, .int .i64 n1, .int .i64 n2, .int .i64 n3] 62 by rw [hW0]; exact Row.new1 w (.cells #[.slice (some ⟨b, o, none⟩) ps.length cp, .slice (some ⟨fb, fo, none⟩) ms.length cf] 25) #[.int .i64 n0, .int .i64 n1, .int .i64 n2, .int .i64 n3] 62)
  have HV := Lib.hid hb
  have HOK := Lib.hid (bookB_iff.1 hb)
  have hn4 := HOK.out.p4
  have hn1 := HOK.out.p1
  have hn5 : ms.length ≤ 5 := by have := HOK.out.f5; rw [frsM_length] at this; exact this
  have HCF := Lib.hid hcf
  have h0' : ((ms.length : Int) == 0) = false := beq_eq_false_iff_ne.2 (by omega)
  obtain ⟨k, hk, hkl⟩ : ∃ f : Nat, spin n1 ms.length = f ∧ f < ms.length := ⟨(spin n1 ms.length).toNat, by have := spin_range n1 ms.length (by omega); omega, by have := spin_range n1 ms.length (by omega); omega⟩
  obtain ⟨p, hp, hpl⟩ : ∃ f : Nat, spin n1 ps.length = f ∧ f < ps.length := ⟨(spin n1 ps.length).toNat, by have := spin_range n1 ps.length (by omega); omega, by have := spin_range n1 ps.length (by omega); omega⟩
  have SK := Lib.hid (fun w => (by have h := Spin_any n1 (ms.length : Int) w ⟨by omega, by omega⟩; rw [hk] at h; exact h : Calls Try.prog 48 #[.int .i64 n1, .int .i64 (ms.length : Int)] w fun e w' => e = .returned (.int .i64 (k : Int)) ∧ w = w'))
  have SP := Lib.hid (fun w => (by have h := Spin_any n1 (ps.length : Int) w ⟨by omega, by omega⟩; rw [hp] at h; exact h : Calls Try.prog 48 #[.int .i64 n1, .int .i64 (ps.length : Int)] w fun e w' => e = .returned (.int .i64 (p : Int)) ∧ w = w'))
  obtain ⟨sw, hsw0, hsw⟩ : ∃ z, spin n0 3 = z ∧ (z = 0 ∨ z = 1 ∨ z = 2) := ⟨_, rfl, by have := spin_range n0 3 (by omega); omega⟩
  have SW := Lib.hid (fun w => (by have h := Spin_any n0 3 w ⟨by omega, by omega⟩; rw [hsw0] at h; exact h : Calls Try.prog 48 #[.int .i64 n0, .int .i64 3] w fun e w' => e = .returned (.int .i64 sw) ∧ w = w'))
  have c0 := HR.out.cell 0 (v := .slice (some ⟨b, o, none⟩) ps.length cp) rfl
  have c1 := HR.out.cell 1 (v := .slice (some ⟨fb, fo, none⟩) ms.length cf) rfl
  have d0 := HN.out.cell 0 (v := .int .i64 n0) rfl
  have d1 := HN.out.cell 1 (v := .int .i64 n1) rfl
  have d2 := HN.out.cell 2 (v := .int .i64 n2) rfl
  have d3 := HN.out.cell 3 (v := .int .i64 n3) rfl
  have hlb : w.heap.size + 1 < W0.heap.size := HN.out.lt
  clear hb hW0 hB hk hp hcf hsw0
  go_enter Try.func10, Try.ntmps10
  go_wp2_with fail
  rw [← HW0.out]
  refine (sound_any (some ⟨b, o, none⟩) cp (some ⟨fb, fo, none⟩) cf ps ms W0 HB.out).mono ?_
  rintro e u ⟨rfl, hbu⟩
  rw [HV.out]
  obtain ⟨x, rfl⟩ := later_of hbu
  clear hbu
  go_wp2_with fail
  refine wp_region_later (by kernel_rfl) (by kernel_rfl) ?_
  repeat (go_big_quiet_step (first
    | (go_at_call 48; (first | with_reducible exact Calls.later_same (SK.out _) | with_reducible exact Calls.later_same (SP.out _)))))
  refine wpQuiet_nil ?_
  intro _ hw'
  obtain ⟨y, hw''⟩ := hw'
  subst hw''
  obtain ⟨y2, hy⟩ := x.up y
  rw [hy]
  clear hy y x
  go_wp2_with fail
  have hb5 : Below W0.heap.size W0 (y2.w.alloc (.cells #[.slice (some ⟨b, o, none⟩) ps.length cp, .slice (some ⟨fb, fo, none⟩) ms.length cf] 25)) := y2.b.alloc y2.b.size _
  have r5 := Row.new y2.w #[.slice (some ⟨b, o, none⟩) ps.length cp, .slice (some ⟨fb, fo, none⟩) ms.length cf] 25
  have hbx : W0.heap.size ≤ y2.w.heap.size := y2.b.size
  generalize y2.w.alloc (.cells #[.slice (some ⟨b, o, none⟩) ps.length cp, .slice (some ⟨fb, fo, none⟩) ms.length cf] 25) = W1 at hb5 r5 ⊢
  generalize y2.w.heap.size = bx at r5 hbx ⊢
  have RX := Lib.hid r5
  have KI := Lib.hid (From.mk (W := W0) hb5)
  have KX := Lib.hid (From.refl W1)
  have HFR := Lib.hid HB.out.f
  have HPR := Lib.hid HB.out.p
  clear hb5 r5 y2
  clear c0 c1 d0 d1 d2 d3
  go_cut [] from 48 to 57 (fun wx => ∃ gf cf' curf gp cp' curp, gf ≠ gp ∧ W0.heap.size ≤ gf ∧ W0.heap.size ≤ gp ∧ bx ≠ gf ∧ bx ≠ gp ∧ Row wx bx #[.slice (some ⟨gp, 0, none⟩) ps.length cp', .slice (some ⟨gf, 0, none⟩) ms.length cf'] 25 ∧ Row wx gp curp 64 ∧ HoldsP (curp[·]?) ps ∧ Row wx gf curf 55 ∧ HoldsF (curf[·]?) ms ∧ From W0 wx)
  case first =>
    have HSA := Lib.hid (fun w' (k : From W0 w') => (⟨(k.row HR.out).cell 0 rfl, (k.row HR.out).cell 1 rfl⟩ : w'.cell? ⟨w.heap.size, 0, none⟩ = some (.slice (some ⟨b, o, none⟩) ps.length cp) ∧ w'.cell? ⟨w.heap.size, 1, none⟩ = some (.slice (some ⟨fb, fo, none⟩) ms.length cf)))
    go_region_held3 (fun w' => w'.cell? ⟨w.heap.size, 0, none⟩ = some (.slice (some ⟨b, o, none⟩) ps.length cp) ∧ w'.cell? ⟨w.heap.size, 1, none⟩ = some (.slice (some ⟨fb, fo, none⟩) ms.length cf)) (first
        | exact HSA.out _ (by first | exact KI.out | exact KI.out.drew | exact KI.out.below (below_alloc _ _) | exact (KI.out.below (below_alloc _ _)).drew | exact KI.out.below (below_alloc2 _ _ _) | exact (KI.out.below (below_alloc2 _ _ _)).drew)
        | exact HSA.out _ ⟨KI.out.b.setCell (by dsimp only; omega) _⟩
        | exact HSA.out _ ⟨(KI.out.b.setCell (by dsimp only; omega) _).setCell (by dsimp only; omega) _⟩)
      (first
        | (refine step_append_ex rfl _ _ _ rfl _ _ rfl rfl _ (copyF_ex HFR.out (by omega) (by omega) (by first | exact KI.out | exact KI.out.drew | exact KI.out.below (below_alloc _ _) | exact (KI.out.below (below_alloc _ _)).drew | exact KI.out.below (below_alloc2 _ _ _) | exact (KI.out.below (below_alloc2 _ _ _)).drew) _ _) ?_; rintro v' wa1 ⟨g1, cap1, cur1, rfl, hr, hh, hg, hb⟩; have hx1 : bx < g1 := (From.newer (by first | exact KX.out | exact KX.out.drew | exact KX.out.below (below_alloc _ _) | exact (KX.out.below (below_alloc _ _)).drew | exact KX.out.below (below_alloc2 _ _ _) | exact (KX.out.below (below_alloc2 _ _ _)).drew) RX.out.lt hg); (try have hg21 : g2 < g1 := (From.newer (by first | exact KP.out | exact KP.out.drew | exact KP.out.below (below_alloc _ _) | exact (KP.out.below (below_alloc _ _)).drew | exact KP.out.below (below_alloc2 _ _ _) | exact (KP.out.below (below_alloc2 _ _ _)).drew) HG2.out.lt hg)); (try have KP := Lib.hid (From.below (by first | exact KP.out | exact KP.out.drew | exact KP.out.below (below_alloc _ _) | exact (KP.out.below (below_alloc _ _)).drew | exact KP.out.below (below_alloc2 _ _ _) | exact (KP.out.below (below_alloc2 _ _ _)).drew) hb)); have KX := Lib.hid (From.below (by first | exact KX.out | exact KX.out.drew | exact KX.out.below (below_alloc _ _) | exact (KX.out.below (below_alloc _ _)).drew | exact KX.out.below (below_alloc2 _ _ _) | exact (KX.out.below (below_alloc2 _ _ _)).drew) hb); have KI := Lib.hid (From.below (by first | exact KI.out | exact KI.out.drew | exact KI.out.below (below_alloc _ _) | exact (KI.out.below (below_alloc _ _)).drew | exact KI.out.below (below_alloc2 _ _ _) | exact (KI.out.below (below_alloc2 _ _ _)).drew) hb); have KF := Lib.hid (From.refl wa1); have HG1 := Lib.hid hr; have HH1 := Lib.hid hh; clear hr hh hg hb; (try (have hkf := KF.out; have hkp := KP.out; clear hkf hkp; have rx := KX.out.row RX.out; have s0 := rx.cell 1 (v := .slice (some ⟨fb, fo, none⟩) ms.length cf) rfl; have s1 := rx.free 1; have s2 := (rx.set 1 (.slice (some ⟨g1, 0, none⟩) ms.length cap1)).cell 0 (v := .slice (some ⟨b, o, none⟩) ps.length cp) rfl; have s3 := (rx.set 1 (.slice (some ⟨g1, 0, none⟩) ms.length cap1)).free 0; clear rx)))
        | (refine step_append_ex rfl _ _ _ rfl _ _ rfl rfl _ (copyP_ex HPR.out (by omega) (by omega) (by first | exact KI.out | exact KI.out.drew | exact KI.out.below (below_alloc _ _) | exact (KI.out.below (below_alloc _ _)).drew | exact KI.out.below (below_alloc2 _ _ _) | exact (KI.out.below (below_alloc2 _ _ _)).drew) _ _) ?_; rintro v' wa2 ⟨g2, cap2, cur2, rfl, hr, hh, hg, hb⟩; have hx2 : bx < g2 := (From.newer (by first | exact KX.out | exact KX.out.drew | exact KX.out.below (below_alloc _ _) | exact (KX.out.below (below_alloc _ _)).drew | exact KX.out.below (below_alloc2 _ _ _) | exact (KX.out.below (below_alloc2 _ _ _)).drew) RX.out.lt hg); (try have hg12 : g1 < g2 := (From.newer (by first | exact KF.out | exact KF.out.drew | exact KF.out.below (below_alloc _ _) | exact (KF.out.below (below_alloc _ _)).drew | exact KF.out.below (below_alloc2 _ _ _) | exact (KF.out.below (below_alloc2 _ _ _)).drew) HG1.out.lt hg)); (try have KF := Lib.hid (From.below (by first | exact KF.out | exact KF.out.drew | exact KF.out.below (below_alloc _ _) | exact (KF.out.below (below_alloc _ _)).drew | exact KF.out.below (below_alloc2 _ _ _) | exact (KF.out.below (below_alloc2 _ _ _)).drew) hb)); have KX := Lib.hid (From.below (by first | exact KX.out | exact KX.out.drew | exact KX.out.below (below_alloc _ _) | exact (KX.out.below (below_alloc _ _)).drew | exact KX.out.below (below_alloc2 _ _ _) | exact (KX.out.below (below_alloc2 _ _ _)).drew) hb); have KI := Lib.hid (From.below (by first | exact KI.out | exact KI.out.drew | exact KI.out.below (below_alloc _ _) | exact (KI.out.below (below_alloc _ _)).drew | exact KI.out.below (below_alloc2 _ _ _) | exact (KI.out.below (below_alloc2 _ _ _)).drew) hb); have KP := Lib.hid (From.refl wa2); have HG2 := Lib.hid hr; have HH2 := Lib.hid hh; clear hr hh hg hb; (try (have hkf := KF.out; have hkp := KP.out; clear hkf hkp; have rx := KX.out.row RX.out; have s0 := rx.cell 1 (v := .slice (some ⟨fb, fo, none⟩) ms.length cf) rfl; have s1 := rx.free 1; have s2 := (rx.set 1 (.slice (some ⟨g1, 0, none⟩) ms.length cap1)).cell 0 (v := .slice (some ⟨b, o, none⟩) ps.length cp) rfl; have s3 := (rx.set 1 (.slice (some ⟨g1, 0, none⟩) ms.length cap1)).free 0; clear rx))))
    all_goals
      go_wp2_with fail
      go_meet
      exact ⟨g1, cap1, cur1, g2, cap2, cur2, by omega, by have := KI.out.b.size; omega, by have := KI.out.b.size; omega, by omega, by omega, ((KX.out.row RX.out).set 1 _).set 0 _, ((KP.out.row HG2.out).set_other _ _ (by dsimp only; omega)).set_other _ _ (by dsimp only; omega), HH2.out, ((KF.out.row HG1.out).set_other _ _ (by dsimp only; omega)).set_other _ _ (by dsimp only; omega), HH1.out, ⟨(KI.out.b.setCell (by dsimp only; omega) _).setCell (by dsimp only; omega) _⟩⟩
  case rest =>
    obtain ⟨gf, cf', curf, gp, cp', curp, hgg, hgf, hgp, hxf, hxp, rx, rp, hp, rf, hf, hki⟩ := hcut
    generalize wc = W2 at *
    have RX := Lib.hid rx
    have RP := Lib.hid rp
    have RF := Lib.hid rf
    have HP := Lib.hid hp
    have HF := Lib.hid hf
    have KI := Lib.hid hki
    clear rx rp hp rf hf hki KX
    have d0 := (KI.out.row HN.out).cell 0 (v := .int .i64 n0) rfl
    go_wp2_with fail
    refine (SW.out _).mono ?_
    rintro e u ⟨rfl, rfl⟩
    go_upto_block 0 with (fail)
    go_cut [8, 9, 10] from 61 to 131 (fun a8 a9 a10 wx => ∃ mm : Int, a8 = .int .i64 mm ∧ Second W0 ps ms bx mm wx)
    case first =>
      clear d0
      rcases hsw with rfl | rfl | rfl
      · have HS0 := Lib.hid (fun w' (q : From W0 w') => ((q.row HR.out).cell 1 rfl : w'.cell? ⟨w.heap.size, 1, none⟩ = some (.slice (some ⟨fb, fo, none⟩) ms.length cf)))
        have hel : (ms.eraseIdx k).length = ms.length - 1 := by rw [List.length_eraseIdx]; simp [hkl]
        have hcf2 := HCF.out
        have i0 : (0 : Int) ≤ (k : Int) := by omega
        have i1 : (k : Int) ≤ (ms.length : Int) := by omega
        have i2 : (k : Int) ≤ (cf : Int) := by omega
        have i3 : IntKind.i64.wrap ((k : Int) + 1) = (k : Int) + 1 := IntWalk.i64_in _ (by omega)
        have i4 : (0 : Int) ≤ (k : Int) + 1 := by omega
        have i5 : (k : Int) + 1 ≤ (ms.length : Int) := by omega
        have i6 : ((k : Int) + 1).toNat = k + 1 := by omega
        have i7 : (ms.length : Int) ≤ (cf : Int) := by omega
        have i8 : (k : Int) + 1 ≤ (cf : Int) := by omega
        have hWa : From W2 (W2.alloc (.cells #[] 55)).drew := ((From.refl W2).below (below_alloc _ _)).drew
        have HA := Lib.hid (erase_frames (W2.alloc (.cells #[] 55)).drew ms fb fo cf W2.heap.size (HB.out.below (KI.out.trans hWa).b).f (by omega) k hkl (Row.new W2 #[] 55).drew 23)
        have hz2 := KI.out.b.size
        obtain ⟨b', o', hbo⟩ : ∃ b' o', some (⟨b', o', none⟩ : Addr) = if cf = k + 1 then some ⟨fb, fo, none⟩ else some ⟨fb, fo + (k + 1) * 3, none⟩ := by
          by_cases h : cf = k + 1
          · exact ⟨fb, fo, by rw [if_pos h]⟩
          · exact ⟨fb, fo + (k + 1) * 3, by rw [if_neg h]⟩
        have HBO := Lib.hid hbo
        have HEL := Lib.hid hel
        clear hel hbo hcf2
        go_wp2_with fail
        by_cases hck : cf = k + 1
        · have hq := HBO.out
          rw [if_pos hck] at hq
          obtain ⟨rfl, rfl⟩ : fb = b' ∧ fo = o' := by have := hq; simp at this; exact ⟨this.1.symm, this.2.symm⟩
          clear hq
          have hckT : (cf = k + 1) = True := by simp [hck]
          clear hck
          go_region_held3 (fun w' => w'.cell? ⟨w.heap.size, 1, none⟩ = some (.slice (some ⟨fb, fo, none⟩) ms.length cf)) (first
              | exact HS0.out _ (by first | exact KI.out | exact KI.out.drew | exact KI.out.below (below_alloc _ _) | exact (KI.out.below (below_alloc _ _)).drew | exact (KI.out.drew).below (below_alloc _ _))
              | exact HS0.out _ KJ0.out
              | exact HS0.out _ KJ0.out.drew
              | exact HS0.out _ ⟨KJ0.out.b.setCell (by dsimp only; omega) _⟩)
            (first
              | ((have h := HA.out); (refine step_append_ex rfl _ _ _ rfl _ _ rfl rfl _ h ?_); rintro v1 wa1 ⟨hb1, ho1⟩; have hz1 := hb1.size; have KJ := Lib.hid (From.mk (W := W2) (hWa.b.trans hb1)); have KJ0 := Lib.hid (KI.out.trans KJ.out); have HA2 := Lib.hid (erase_second wa1 fb fo cf W2.heap.size (HB.out.below KJ0.out.b).f (by omega) k hkl v1 KJ.out.b.size ho1 _ _ HBO.out HCF.out 23); clear HA h hb1 ho1)
              | ((refine step_append_ex rfl _ _ _ rfl _ _ rfl rfl _ HA2.out ?_); rintro v2 wa2 ⟨q, cq2, rfl, hb2, hq⟩; have KJ1 := KJ; have HB2 := Lib.hid hb2; have HQ := Lib.hid hq; have KJ := Lib.hid (From.mk (W := W2) (KJ1.out.b.trans hb2)); have KJ0 := Lib.hid (KI.out.trans KJ.out); have s0 := (KJ.out.row RX.out).cell 1 (v := .slice (some ⟨gf, 0, none⟩) ms.length cf') rfl; have s1 := (KJ.out.row RX.out).free 1; clear HA2 hb2 hq))
          all_goals
            go_wp2_with fail
            go_meet
            exact ⟨1, rfl, second_less HB.out HOK.out hkl hbx hxp RX.out RP.out HP.out KI.out KJ1.out HB2.out HQ.out⟩
        · have hq := HBO.out
          rw [if_neg hck] at hq
          obtain ⟨rfl, rfl⟩ : fb = b' ∧ o' = fo + (k + 1) * 3 := by have := hq; simp at this; exact ⟨this.1.symm, this.2⟩
          clear hq
          go_region_held3 (fun w' => w'.cell? ⟨w.heap.size, 1, none⟩ = some (.slice (some ⟨fb, fo, none⟩) ms.length cf)) (first
              | exact HS0.out _ (by first | exact KI.out | exact KI.out.drew | exact KI.out.below (below_alloc _ _) | exact (KI.out.below (below_alloc _ _)).drew | exact (KI.out.drew).below (below_alloc _ _))
              | exact HS0.out _ KJ0.out
              | exact HS0.out _ KJ0.out.drew
              | exact HS0.out _ ⟨KJ0.out.b.setCell (by dsimp only; omega) _⟩)
            (first
              | ((have h := HA.out); (refine step_append_ex rfl _ _ _ rfl _ _ rfl rfl _ h ?_); rintro v1 wa1 ⟨hb1, ho1⟩; have hz1 := hb1.size; have KJ := Lib.hid (From.mk (W := W2) (hWa.b.trans hb1)); have KJ0 := Lib.hid (KI.out.trans KJ.out); have HA2 := Lib.hid (erase_second wa1 fb fo cf W2.heap.size (HB.out.below KJ0.out.b).f (by omega) k hkl v1 KJ.out.b.size ho1 _ _ HBO.out HCF.out 23); clear HA h hb1 ho1)
              | ((refine step_append_ex rfl _ _ _ rfl _ _ rfl rfl _ HA2.out ?_); rintro v2 wa2 ⟨q, cq2, rfl, hb2, hq⟩; have KJ1 := KJ; have HB2 := Lib.hid hb2; have HQ := Lib.hid hq; have KJ := Lib.hid (From.mk (W := W2) (KJ1.out.b.trans hb2)); have KJ0 := Lib.hid (KI.out.trans KJ.out); have s0 := (KJ.out.row RX.out).cell 1 (v := .slice (some ⟨gf, 0, none⟩) ms.length cf') rfl; have s1 := (KJ.out.row RX.out).free 1; clear HA2 hb2 hq))
          all_goals
            go_wp2_with fail
            go_meet
            exact ⟨1, rfl, second_less HB.out HOK.out hkl hbx hxp RX.out RP.out HP.out KI.out KJ1.out HB2.out HQ.out⟩
      · obtain ⟨fb', fo', e, _, h1, h2, _⟩ := HB.out.f k hkl
        cases e
        have hfo := HOK.out.f ms[k].f (List.mem_map.2 ⟨ms[k], List.getElem_mem _, rfl⟩)
        obtain ⟨flo, hlo⟩ : ∃ x, ms[k].f.lo = x := ⟨_, rfl⟩
        obtain ⟨fhi, hhi⟩ : ∃ x, ms[k].f.hi = x := ⟨_, rfl⟩
        rw [hlo] at h1
        rw [hhi] at h2
        have HLO := Lib.hid hlo
        have HHI := Lib.hid hhi
        have hb1 : 0 ≤ flo := by rw [← hlo]; exact hfo.l0
        have hb2 : fhi ≤ 999 := by rw [← hhi]; exact hfo.l2
        have hb3 : flo ≤ fhi := by rw [← hlo, ← hhi]; exact hfo.l1
        have k1 := KI.out.cell h1
        have k2 := KI.out.cell h2
        have c1 := (KI.out.row HR.out).cell 1 (v := .slice (some ⟨fb, fo, none⟩) ms.length cf) rfl
        have i1 : (0 : Int) ≤ (k : Int) := by omega
        have i2 : (k : Int) < (ms.length : Int) := by omega
        obtain ⟨s2, hs2, hs20, hs28⟩ : ∃ z, spin n2 9 = z ∧ 0 ≤ z ∧ z < 9 := ⟨_, rfl, spin_range n2 9 (by omega)⟩
        obtain ⟨s3, hs3, hs30, hs38⟩ : ∃ z, spin n3 9 = z ∧ 0 ≤ z ∧ z < 9 := ⟨_, rfl, spin_range n3 9 (by omega)⟩
        have S2 := Lib.hid (fun w => (by have h := Spin_any n2 9 w ⟨by omega, by omega⟩; rw [hs2] at h; exact h : Calls Try.prog 48 #[.int .i64 n2, .int .i64 9] w fun e w' => e = .returned (.int .i64 s2) ∧ w = w'))
        have S3 := Lib.hid (fun w => (by have h := Spin_any n3 9 w ⟨by omega, by omega⟩; rw [hs3] at h; exact h : Calls Try.prog 48 #[.int .i64 n3, .int .i64 9] w fun e w' => e = .returned (.int .i64 s3) ∧ w = w'))
        have j1 : IntKind.i64.wrap (flo - s2) = flo - s2 := IntWalk.i64_in _ (by omega)
        have j2 : IntKind.i64.wrap (fhi + s3) = fhi + s3 := IntWalk.i64_in _ (by omega)
        clear hfo hlo hhi hs2 hs3 h1 h2
        go_wp2_with fail
        clear k1 k2 c1
        have KJ := Lib.hid (From.refl (W2.alloc (.cells #[.int .i64 flo, .int .i64 fhi] 32)))
        have hz2 := KI.out.b.size
        have hxl := RX.out.lt
        have hfl := RF.out.lt
        have RX3 := Lib.hid (RX.out.alloc (.cells #[.int .i64 flo, .int .i64 fhi] 32))
        have RF3 := Lib.hid (RF.out.alloc (.cells #[.int .i64 flo, .int .i64 fhi] 32))
        have RP3 := Lib.hid (RP.out.alloc (.cells #[.int .i64 flo, .int .i64 fhi] 32))
        have RZ3 := Lib.hid (Row.new W2 #[.int .i64 flo, .int .i64 fhi] 32)
        have RN3 := Lib.hid ((KI.out.row HN.out).alloc (.cells #[.int .i64 flo, .int .i64 fhi] 32))
        have KI3 := Lib.hid (KI.out.below (below_alloc W2 (.cells #[.int .i64 flo, .int .i64 fhi] 32)))
        have HNS := Lib.hid (need_stored (gf := gf) RX3.out RZ3.out RN3.out hxf (by omega) (by omega))
        have HNH := Lib.hid (need_held RX3.out RZ3.out RN3.out)
        obtain ⟨_, f1, f2⟩ := HF.out k hkl
        rw [HLO.out] at f1
        rw [HHI.out] at f2
        have HC1 := Lib.hid f1
        have HC2 := Lib.hid f2
        clear f1 f2
        generalize W2.alloc (.cells #[.int .i64 flo, .int .i64 fhi] 32) = W3 at *
        by_cases hA : s2 < flo
        · by_cases hC : fhi + s3 < 999
          · skip
            have HLH := Lib.hid (show 0 ≤ (flo - s2) ∧ (flo - s2) ≤ flo ∧ fhi ≤ (fhi + s3) ∧ (fhi + s3) ≤ 999 from ⟨by omega, by omega, by omega, by omega⟩)
            have HSPA := Lib.hid (fun w => Sp_any ((flo - s2)) ((fhi + s3)) w)
            go_region_held3 (fun w' => w'.cell? ⟨bx, 1, none⟩ = some (.slice (some ⟨gf, 0, none⟩) ms.length cf') ∧ w'.cell? ⟨W2.heap.size, 0, none⟩ = some (.int .i64 flo) ∧ w'.cell? ⟨W2.heap.size, 1, none⟩ = some (.int .i64 fhi) ∧ w'.cell? ⟨w.heap.size + 1, 2, none⟩ = some (.int .i64 n2) ∧ w'.cell? ⟨w.heap.size + 1, 3, none⟩ = some (.int .i64 n3)) (first
                | exact HNH.out _ (by first | with_reducible exact KJ.out | with_reducible exact KJ.out.drew)
                | exact HNS.out _ KJ.out _ _ _ _)
              (first
                | (go_at_call 48; (first | with_reducible refine (S2.out _).mono ?_ | with_reducible refine (S3.out _).mono ?_); rintro e wv ⟨rfl, rfl⟩)
                | (go_at_call 49; (refine (HSPA.out _).mono ?_); rintro e wv ⟨rfl, hbu⟩; have KJ := Lib.hid (From.below (by first | with_reducible exact KJ.out | with_reducible exact KJ.out.drew) hbu); have s0 := (KJ.out.row RF3.out).cell _ HC1.out; have s1 := (KJ.out.row RF3.out).free (k * 3 + 1); have s2' := (KJ.out.row RF3.out).cell (k * 3 + 1 + 1) HC2.out; have s3' := (KJ.out.row RF3.out).free (k * 3 + 1 + 1); clear hbu))
            all_goals
              go_wp2_with fail
              go_meet
              exact ⟨0, rfl, second_need (lo := (flo - s2)) (hi := (fhi + s3)) HB.out HOK.out hkl HLH.out.1 (by rw [HLO.out]; exact HLH.out.2.1) (by rw [HHI.out]; exact HLH.out.2.2.1) HLH.out.2.2.2 (((KJ.out.row RX3.out).set_other _ _ hxf).set_other _ _ hxf) (((KJ.out.row RP3.out).set_other _ _ (by dsimp only; omega)).set_other _ _ (by dsimp only; omega)) HP.out (((KJ.out.row RF3.out).set _ _).set _ _) HF.out ⟨((KI3.out.trans KJ.out).b.setCell hgf _).setCell hgf _⟩⟩
          · have hC' := eq_false hC
            have HLH := Lib.hid (show 0 ≤ (flo - s2) ∧ (flo - s2) ≤ flo ∧ fhi ≤ (999 : Int) ∧ (999 : Int) ≤ 999 from ⟨by omega, by omega, by omega, by omega⟩)
            have HSPA := Lib.hid (fun w => Sp_any ((flo - s2)) ((999 : Int)) w)
            go_region_held3 (fun w' => w'.cell? ⟨bx, 1, none⟩ = some (.slice (some ⟨gf, 0, none⟩) ms.length cf') ∧ w'.cell? ⟨W2.heap.size, 0, none⟩ = some (.int .i64 flo) ∧ w'.cell? ⟨W2.heap.size, 1, none⟩ = some (.int .i64 fhi) ∧ w'.cell? ⟨w.heap.size + 1, 2, none⟩ = some (.int .i64 n2) ∧ w'.cell? ⟨w.heap.size + 1, 3, none⟩ = some (.int .i64 n3)) (first
                | exact HNH.out _ (by first | with_reducible exact KJ.out | with_reducible exact KJ.out.drew)
                | exact HNS.out _ KJ.out _ _ _ _)
              (first
                | (go_at_call 48; (first | with_reducible refine (S2.out _).mono ?_ | with_reducible refine (S3.out _).mono ?_); rintro e wv ⟨rfl, rfl⟩)
                | (go_at_call 49; (refine (HSPA.out _).mono ?_); rintro e wv ⟨rfl, hbu⟩; have KJ := Lib.hid (From.below (by first | with_reducible exact KJ.out | with_reducible exact KJ.out.drew) hbu); have s0 := (KJ.out.row RF3.out).cell _ HC1.out; have s1 := (KJ.out.row RF3.out).free (k * 3 + 1); have s2' := (KJ.out.row RF3.out).cell (k * 3 + 1 + 1) HC2.out; have s3' := (KJ.out.row RF3.out).free (k * 3 + 1 + 1); clear hbu))
            all_goals
              go_wp2_with fail
              go_meet
              exact ⟨0, rfl, second_need (lo := (flo - s2)) (hi := (999 : Int)) HB.out HOK.out hkl HLH.out.1 (by rw [HLO.out]; exact HLH.out.2.1) (by rw [HHI.out]; exact HLH.out.2.2.1) HLH.out.2.2.2 (((KJ.out.row RX3.out).set_other _ _ hxf).set_other _ _ hxf) (((KJ.out.row RP3.out).set_other _ _ (by dsimp only; omega)).set_other _ _ (by dsimp only; omega)) HP.out (((KJ.out.row RF3.out).set _ _).set _ _) HF.out ⟨((KI3.out.trans KJ.out).b.setCell hgf _).setCell hgf _⟩⟩
        · have hA' := eq_false hA
          by_cases hC : fhi + s3 < 999
          · skip
            have HLH := Lib.hid (show 0 ≤ (0 : Int) ∧ (0 : Int) ≤ flo ∧ fhi ≤ (fhi + s3) ∧ (fhi + s3) ≤ 999 from ⟨by omega, by omega, by omega, by omega⟩)
            have HSPA := Lib.hid (fun w => Sp_any ((0 : Int)) ((fhi + s3)) w)
            go_region_held3 (fun w' => w'.cell? ⟨bx, 1, none⟩ = some (.slice (some ⟨gf, 0, none⟩) ms.length cf') ∧ w'.cell? ⟨W2.heap.size, 0, none⟩ = some (.int .i64 flo) ∧ w'.cell? ⟨W2.heap.size, 1, none⟩ = some (.int .i64 fhi) ∧ w'.cell? ⟨w.heap.size + 1, 2, none⟩ = some (.int .i64 n2) ∧ w'.cell? ⟨w.heap.size + 1, 3, none⟩ = some (.int .i64 n3)) (first
                | exact HNH.out _ (by first | with_reducible exact KJ.out | with_reducible exact KJ.out.drew)
                | exact HNS.out _ KJ.out _ _ _ _)
              (first
                | (go_at_call 48; (first | with_reducible refine (S2.out _).mono ?_ | with_reducible refine (S3.out _).mono ?_); rintro e wv ⟨rfl, rfl⟩)
                | (go_at_call 49; (refine (HSPA.out _).mono ?_); rintro e wv ⟨rfl, hbu⟩; have KJ := Lib.hid (From.below (by first | with_reducible exact KJ.out | with_reducible exact KJ.out.drew) hbu); have s0 := (KJ.out.row RF3.out).cell _ HC1.out; have s1 := (KJ.out.row RF3.out).free (k * 3 + 1); have s2' := (KJ.out.row RF3.out).cell (k * 3 + 1 + 1) HC2.out; have s3' := (KJ.out.row RF3.out).free (k * 3 + 1 + 1); clear hbu))
            all_goals
              go_wp2_with fail
              go_meet
              exact ⟨0, rfl, second_need (lo := (0 : Int)) (hi := (fhi + s3)) HB.out HOK.out hkl HLH.out.1 (by rw [HLO.out]; exact HLH.out.2.1) (by rw [HHI.out]; exact HLH.out.2.2.1) HLH.out.2.2.2 (((KJ.out.row RX3.out).set_other _ _ hxf).set_other _ _ hxf) (((KJ.out.row RP3.out).set_other _ _ (by dsimp only; omega)).set_other _ _ (by dsimp only; omega)) HP.out (((KJ.out.row RF3.out).set _ _).set _ _) HF.out ⟨((KI3.out.trans KJ.out).b.setCell hgf _).setCell hgf _⟩⟩
          · have hC' := eq_false hC
            have HLH := Lib.hid (show 0 ≤ (0 : Int) ∧ (0 : Int) ≤ flo ∧ fhi ≤ (999 : Int) ∧ (999 : Int) ≤ 999 from ⟨by omega, by omega, by omega, by omega⟩)
            have HSPA := Lib.hid (fun w => Sp_any ((0 : Int)) ((999 : Int)) w)
            go_region_held3 (fun w' => w'.cell? ⟨bx, 1, none⟩ = some (.slice (some ⟨gf, 0, none⟩) ms.length cf') ∧ w'.cell? ⟨W2.heap.size, 0, none⟩ = some (.int .i64 flo) ∧ w'.cell? ⟨W2.heap.size, 1, none⟩ = some (.int .i64 fhi) ∧ w'.cell? ⟨w.heap.size + 1, 2, none⟩ = some (.int .i64 n2) ∧ w'.cell? ⟨w.heap.size + 1, 3, none⟩ = some (.int .i64 n3)) (first
                | exact HNH.out _ (by first | with_reducible exact KJ.out | with_reducible exact KJ.out.drew)
                | exact HNS.out _ KJ.out _ _ _ _)
              (first
                | (go_at_call 48; (first | with_reducible refine (S2.out _).mono ?_ | with_reducible refine (S3.out _).mono ?_); rintro e wv ⟨rfl, rfl⟩)
                | (go_at_call 49; (refine (HSPA.out _).mono ?_); rintro e wv ⟨rfl, hbu⟩; have KJ := Lib.hid (From.below (by first | with_reducible exact KJ.out | with_reducible exact KJ.out.drew) hbu); have s0 := (KJ.out.row RF3.out).cell _ HC1.out; have s1 := (KJ.out.row RF3.out).free (k * 3 + 1); have s2' := (KJ.out.row RF3.out).cell (k * 3 + 1 + 1) HC2.out; have s3' := (KJ.out.row RF3.out).free (k * 3 + 1 + 1); clear hbu))
            all_goals
              go_wp2_with fail
              go_meet
              exact ⟨0, rfl, second_need (lo := (0 : Int)) (hi := (999 : Int)) HB.out HOK.out hkl HLH.out.1 (by rw [HLO.out]; exact HLH.out.2.1) (by rw [HHI.out]; exact HLH.out.2.2.1) HLH.out.2.2.2 (((KJ.out.row RX3.out).set_other _ _ hxf).set_other _ _ hxf) (((KJ.out.row RP3.out).set_other _ _ (by dsimp only; omega)).set_other _ _ (by dsimp only; omega)) HP.out (((KJ.out.row RF3.out).set _ _).set _ _) HF.out ⟨((KI3.out.trans KJ.out).b.setCell hgf _).setCell hgf _⟩⟩
      · obtain ⟨b', o', e, _, _, _, _, h4, h5⟩ := HB.out.p p hpl
        cases e
        have hpo := HOK.out.p ps[p] (List.getElem_mem _)
        obtain ⟨plo, hplo⟩ : ∃ x, ps[p].lo = x := ⟨_, rfl⟩
        obtain ⟨phi, hphi⟩ : ∃ x, ps[p].hi = x := ⟨_, rfl⟩
        rw [hplo] at h4
        rw [hphi] at h5
        have HLO := Lib.hid hplo
        have HHI := Lib.hid hphi
        have hb1 : 0 ≤ plo := by rw [← hplo]; exact hpo.l0
        have hb2 : phi ≤ 20 := by rw [← hphi]; exact hpo.l2
        have hb3 : plo ≤ phi := by rw [← hplo, ← hphi]; exact hpo.l1
        obtain ⟨low, hlow, hl1, hl2⟩ : ∃ x, drawn plo phi n2 = x ∧ plo ≤ x ∧ x ≤ phi := ⟨_, rfl, drawn_range (by omega) hb3 (by omega)⟩
        obtain ⟨low2, hlow2, hm1, hm2⟩ : ∃ x, drawn low phi n3 = x ∧ low ≤ x ∧ x ≤ phi := ⟨_, rfl, drawn_range (by omega) hl2 (by omega)⟩
        have D1 := Lib.hid (fun w => (by have h := Drawn_any plo phi n2 w (by omega) hb3 (by omega); rw [hlow] at h; exact h : Calls Try.prog 51 #[.agg #[.int .i64 plo, .int .i64 phi], .int .i64 n2] w fun e w' => e = .returned (.int .i64 low) ∧ Below w.heap.size w w'))
        have D2 := Lib.hid (fun w => (by have h := Drawn_any low phi n3 w (by omega) hl2 (by omega); rw [hlow2] at h; exact h : Calls Try.prog 51 #[.agg #[.int .i64 low, .int .i64 phi], .int .i64 n3] w fun e w' => e = .returned (.int .i64 low2) ∧ Below w.heap.size w w'))
        have P1 := Lib.hid (fun w => Sp_any low phi w)
        have P2 := Lib.hid (fun w => Sp_any low low2 w)
        have k4 := KI.out.cell h4
        have k5 := KI.out.cell h5
        have c0 := (KI.out.row HR.out).cell 0 (v := .slice (some ⟨b, o, none⟩) ps.length cp) rfl
        have d2 := (KI.out.row HN.out).cell 2 (v := .int .i64 n2) rfl
        have i1 : (0 : Int) ≤ (p : Int) := by omega
        have i2 : (p : Int) < (ps.length : Int) := by omega
        have hz0 := cell_block h5
        have K5 := Lib.hid k5
        clear hpo hplo hphi hlow hlow2 h4 h5
        go_wp2_with fail
        refine wp_region_later (by kernel_rfl) (by kernel_rfl) ?_
        repeat (go_big_quiet_step (first
          | (go_at_call 51; with_reducible exact Calls.later_of (D1.out _))))
        refine wpQuiet_nil ?_
        intro _ hw'
        obtain ⟨y, hw''⟩ := hw'
        subst hw''
        go_wp2_with fail
        clear k4 k5 c0 d2
        have hz2 := KI.out.b.size
        have KJ := Lib.hid (From.refl y.w)
        have KI3 := Lib.hid (KI.out.trans y.fr)
        have hpl3 := RP.out.lt
        have RX3 := Lib.hid (y.fr.row RX.out)
        have RP3 := Lib.hid (y.fr.row RP.out)
        have RF3 := Lib.hid (y.fr.row RF.out)
        have RM3 := Lib.hid (KI3.out.row HR.out)
        have RN3 := Lib.hid (KI3.out.row HN.out)
        have K53 := Lib.hid (y.fr.cell K5.out)
        have HDS := Lib.hid (damp_stored (gp := gp) RX3.out RM3.out RN3.out K53.out hxp (by omega) (by omega) (by omega))
        have HDH := Lib.hid (damp_held RX3.out RM3.out RN3.out K53.out)
        obtain ⟨_, _, _, _, f1, f2⟩ := HP.out p hpl
        rw [HLO.out] at f1
        rw [HHI.out] at f2
        have HC1 := Lib.hid f1
        have HC2 := Lib.hid f2
        have HLH := Lib.hid (show plo ≤ low ∧ low2 ≤ phi ∧ low ≤ low2 from ⟨hl1, hm2, hm1⟩)
        clear f1 f2
        generalize y.w = W3 at *
        go_region_held3 (fun w' => w'.cell? ⟨bx, 0, none⟩ = some (.slice (some ⟨gp, 0, none⟩) ps.length cp') ∧ w'.cell? ⟨w.heap.size, 0, none⟩ = some (.slice (some ⟨b, o, none⟩) ps.length cp) ∧ w'.cell? ⟨b, o + p * 6 + 5, none⟩ = some (.int .i64 phi) ∧ w'.cell? ⟨w.heap.size + 1, 3, none⟩ = some (.int .i64 n3)) (first
            | exact HDH.out _ (by first | with_reducible exact KJ.out | with_reducible exact KJ.out.drew)
            | exact HDS.out _ KJ.out _ _ _ _)
          (first
            | (go_at_call 51; (refine (D2.out _).mono ?_); rintro e wv ⟨rfl, hbu⟩; have KJ := Lib.hid (From.below (by first | with_reducible exact KJ.out | with_reducible exact KJ.out.drew) hbu); clear hbu)
            | (go_at_call 49; (first | with_reducible refine (P1.out _).mono ?_ | with_reducible refine (P2.out _).mono ?_); rintro e wv ⟨rfl, hbu⟩; have KJ := Lib.hid (From.below (by first | with_reducible exact KJ.out | with_reducible exact KJ.out.drew) hbu); have s0 := (KJ.out.row RP3.out).cell _ HC1.out; have s1 := (KJ.out.row RP3.out).free (p * 6 + 4); have s2' := (KJ.out.row RP3.out).cell (p * 6 + 4 + 1) HC2.out; have s3' := (KJ.out.row RP3.out).free (p * 6 + 4 + 1); clear hbu))
        all_goals
          go_wp2_with fail
          go_meet
          exact ⟨0, rfl, second_damp (lo := low) (hi := low2) HB.out HOK.out hpl (by rw [HLO.out]; exact HLH.out.1) (by rw [HHI.out]; exact HLH.out.2.1) HLH.out.2.2 (((KJ.out.row RX3.out).set_other _ _ hxp).set_other _ _ hxp) (((KJ.out.row RP3.out).set _ _).set _ _) HP.out (((KJ.out.row RF3.out).set_other _ _ hgg).set_other _ _ hgg) HF.out ⟨((KI3.out.trans KJ.out).b.setCell hgp _).setCell hgp _⟩⟩
    case rest =>
      obtain ⟨mm, rfl, hsec⟩ := hcut
      obtain ⟨⟨pq, cq, fq, dq, qs, ns, m, rfl, hm1, rx, hbk, he⟩, hki⟩ := hsec
      generalize wc = W3 at *
      have hxl := rx.lt
      have x0 := rx.cell 0 (v := .slice pq qs.length cq) rfl
      have x1 := rx.cell 1 (v := .slice fq ns.length dq) rfl
      have c0 := (hki.row HR.out).cell 0 (v := .slice (some ⟨b, o, none⟩) ps.length cp) rfl
      have c1 := (hki.row HR.out).cell 1 (v := .slice (some ⟨fb, fo, none⟩) ms.length cf) rfl
      have HBB := Lib.hid (HB.out.below hki.b)
      have HEE := Lib.hid (HE.out.trans (hki.b.mono HE.out.size))
      have HBK := Lib.hid hbk
      have HV2 := Lib.hid (bookB_iff.2 he.ok)
      have hmost := he.most
      have g1 := goodD_length ps (frsM ms) (mostD ps (frsM ms))
      have g2 := goodD_length qs (frsM ns) (mostD qs (frsM ns))
      have hns := he.ok.f5
      have hqs := he.ok.p4
      rw [frsM_length] at g1 g2 hns
      have MF1 := show mostF ps (frsM ms) = goodD ps (frsM ms) (mostD ps (frsM ms)) by rw [mostF, if_pos HV.out]
      have MF2 := show mostF qs (frsM ns) = goodD qs (frsM ns) (mostD qs (frsM ns)) by rw [mostF, if_pos HV2.out]
      have BO1 := bookE_ok HV.out
      have BO2 := bookE_ok HV2.out
      obtain ⟨al, hal⟩ : ∃ l, goodD ps (frsM ms) (mostD ps (frsM ms)) = l := ⟨_, rfl⟩
      obtain ⟨bl, hbl⟩ : ∃ l, goodD qs (frsM ns) (mostD qs (frsM ns)) = l := ⟨_, rfl⟩
      rw [hal] at hmost g1 MF1
      rw [hbl] at hmost g2 MF2
      have HM1 := Lib.hid (fun w' (q : From W3 w') => (by have h := Most_any (some ⟨b, o, none⟩) cp (some ⟨fb, fo, none⟩) cf ps ms w' (HBB.out.below q.b); rw [MF1, BO1] at h; exact h : Calls Try.prog 29 #[.agg #[.slice (some ⟨b, o, none⟩) ps.length cp, .slice (some ⟨fb, fo, none⟩) ms.length cf]] w' (GaveLists (mostL ps (frsM ms)) al 0 w')))
      have HM2 := Lib.hid (fun w' (q : From W3 w') => (by have h := Most_any pq cq fq dq qs ns w' (HBK.out.below q.b); rw [MF2, BO2] at h; exact h : Calls Try.prog 29 #[.agg #[.slice pq qs.length cq, .slice fq ns.length dq]] w' (GaveLists (mostL qs (frsM ns)) bl 0 w')))
      have HE3 := Lib.hid he
      have j1 : IntKind.i64.wrap ((al.length : Int) - (m : Int)) = (al.length : Int) - (m : Int) := IntWalk.i64_in _ (by omega)
      have j2 : ((bl.length : Int) < (al.length : Int) - (m : Int)) = False := eq_false (by omega)
      have j3 : ¬ (bl.length : Int) < (al.length : Int) - (m : Int) := by omega
      clear hki hbk rx he MF1 MF2 BO1 BO2 hal hbl hmost g1 g2 hm1 RX RP RF HP HF KI HFR HPR SW hsw hgg hgf hgp hxf hxp
      cases hc : coolD ps (frsM ms) (List.range (frsM ms).length) with
      | some x =>
        obtain ⟨y, hy, hle⟩ := HE3.out.cool hc
        have HB1 := Lib.hid (fun w' (q : From W3 w') => (by have h := Best_any (some ⟨b, o, none⟩) cp (some ⟨fb, fo, none⟩) cf ps ms w' (HBB.out.below q.b); rw [bestL, bestE, if_pos HV.out, if_pos HV.out, hc] at h; exact h : Calls Try.prog 27 #[.agg #[.slice (some ⟨b, o, none⟩) ps.length cp, .slice (some ⟨fb, fo, none⟩) ms.length cf]] w' (GaveListE x 0 w')))
        have HB2 := Lib.hid (fun w' (q : From W3 w') => (by have h := Best_any pq cq fq dq qs ns w' (HBK.out.below q.b); rw [bestL, bestE, if_pos HV2.out, if_pos HV2.out, hy] at h; exact h : Calls Try.prog 27 #[.agg #[.slice pq qs.length cq, .slice fq ns.length dq]] w' (GaveListE y 0 w')))
        have SE1 := setE_yes HV.out (set_of_mem (cool_mem hc))
        have SE2 := setE_yes HV2.out (set_of_mem (cool_mem hy))
        have hxn : x.length ≤ 4 := by have := (mem_setsL.1 (cool_mem hc)).1; omega
        have hyn : y.length ≤ 4 := by have := (mem_setsL.1 (cool_mem hy)).1; omega
        have HXN := Lib.hid hxn
        have HYN := Lib.hid hyn
        obtain ⟨vx, hvx⟩ : ∃ v, heatD ps x = v := ⟨_, rfl⟩
        obtain ⟨vy, hvy⟩ : ∃ v, heatD qs y = v := ⟨_, rfl⟩
        rw [hvx, hvy] at hle
        have HH1 := Lib.hid (fun w' (q : From W3 w') p c (hi : IntsAt w' p x) => (by have h := Heat_any (some ⟨b, o, none⟩) cp (some ⟨fb, fo, none⟩) cf ps ms w' (HBB.out.below q.b) p c x hi (by omega); rw [heatV, if_pos SE1, SE1, hvx] at h; exact h : Calls Try.prog 15 #[.agg #[.slice (some ⟨b, o, none⟩) ps.length cp, .slice (some ⟨fb, fo, none⟩) ms.length cf], .slice p x.length c] w' fun e w'' => e = .returned (.tuple #[.int .i64 vx, .int .i64 0]) ∧ Below w'.heap.size w' w''))
        have HH2 := Lib.hid (fun w' (q : From W3 w') p c (hi : IntsAt w' p y) => (by have h := Heat_any pq cq fq dq qs ns w' (HBK.out.below q.b) p c y hi (by omega); rw [heatV, if_pos SE2, SE2, hvy] at h; exact h : Calls Try.prog 15 #[.agg #[.slice pq qs.length cq, .slice fq ns.length dq], .slice p y.length c] w' fun e w'' => e = .returned (.tuple #[.int .i64 vy, .int .i64 0]) ∧ Below w'.heap.size w' w''))
        clear hc hy SE1 SE2 hxn hyn hvx hvy
        go_wp2_with fail
        refine (HB1.out _ (From.refl W3)).mono ?_
        rintro e u ⟨p1, k1, rfl, hi, hbu⟩
        have HI1 := Lib.hid hi
        obtain ⟨z1, hz⟩ := later_of hbu
        subst hz
        clear hi hbu
        go_wp2_with fail
        refine (HB2.out _ z1.fr).mono ?_
        rintro e u ⟨p2, k2, rfl, hi, hbu⟩
        have HI1 := Lib.hid (HI1.out.below hbu)
        have HI2 := Lib.hid hi
        obtain ⟨z2, hz⟩ := z1.on hbu
        subst hz
        clear hi hbu
        go_wp2_with fail
        refine (HM1.out _ z2.fr).mono ?_
        rintro e u ⟨q1, d1, q2, d2, rfl, _, _, hbu⟩
        have HI1 := Lib.hid (HI1.out.below hbu)
        have HI2 := Lib.hid (HI2.out.below hbu)
        obtain ⟨z3, hz⟩ := z2.on hbu
        subst hz
        clear hbu
        go_wp2_with fail
        refine (HM2.out _ z3.fr).mono ?_
        rintro e u ⟨q3, d3, q4, d4, rfl, _, _, hbu⟩
        have HI1 := Lib.hid (HI1.out.below hbu)
        have HI2 := Lib.hid (HI2.out.below hbu)
        obtain ⟨z4, hz⟩ := z3.on hbu
        subst hz
        clear hbu
        go_wp2_with fail
        refine (HH1.out _ z4.fr _ _ HI1.out).mono ?_
        rintro e u ⟨rfl, hbu⟩
        have HI2 := Lib.hid (HI2.out.below hbu)
        obtain ⟨z5, hz⟩ := z4.on hbu
        subst hz
        clear hbu
        go_wp2_with fail
        refine (HH2.out _ z5.fr _ _ HI2.out).mono ?_
        rintro e u ⟨rfl, hbu⟩
        obtain ⟨z6, hz⟩ := z5.on hbu
        subst hz
        clear hbu
        go_wp2_with fail
        refine (warmed_any _).mono ?_
        rintro e u ⟨rfl, hbu⟩
        obtain ⟨z7, hz⟩ := z6.on hbu
        subst hz
        clear hbu
        go_wp2_with fail
        go_ret
        exact ⟨rfl, z7.base HEE.out⟩
      | none =>
        have HB1 := Lib.hid (fun w' (q : From W3 w') => (by have h := Best_any (some ⟨b, o, none⟩) cp (some ⟨fb, fo, none⟩) cf ps ms w' (HBB.out.below q.b); rw [bestL, bestE, if_pos HV.out, if_pos HV.out, hc] at h; exact h : Calls Try.prog 27 #[.agg #[.slice (some ⟨b, o, none⟩) ps.length cp, .slice (some ⟨fb, fo, none⟩) ms.length cf]] w' (GaveListE [] 4 w')))
        clear hc
        cases hy : coolD qs (frsM ns) (List.range (frsM ns).length) with
        | some y =>
          have HB2 := Lib.hid (fun w' (q : From W3 w') => (by have h := Best_any pq cq fq dq qs ns w' (HBK.out.below q.b); rw [bestL, bestE, if_pos HV2.out, if_pos HV2.out, hy] at h; exact h : Calls Try.prog 27 #[.agg #[.slice pq qs.length cq, .slice fq ns.length dq]] w' (GaveListE y 0 w')))
          clear hy
          go_wp2_with fail
          refine (HB1.out _ (From.refl W3)).mono ?_
          rintro e u ⟨p1, k1, rfl, hi, hbu⟩
          have HI1 := Lib.hid hi
          obtain ⟨z1, hz⟩ := later_of hbu
          subst hz
          clear hi hbu
          go_wp2_with fail
          refine (HB2.out _ z1.fr).mono ?_
          rintro e u ⟨p2, k2, rfl, hi, hbu⟩
          have HI1 := Lib.hid (HI1.out.below hbu)
          have HI2 := Lib.hid hi
          obtain ⟨z2, hz⟩ := z1.on hbu
          subst hz
          clear hi hbu
          go_wp2_with fail
          refine (HM1.out _ z2.fr).mono ?_
          rintro e u ⟨q1, d1, q2, d2, rfl, _, _, hbu⟩
          have HI1 := Lib.hid (HI1.out.below hbu)
          have HI2 := Lib.hid (HI2.out.below hbu)
          obtain ⟨z3, hz⟩ := z2.on hbu
          subst hz
          clear hbu
          go_wp2_with fail
          refine (HM2.out _ z3.fr).mono ?_
          rintro e u ⟨q3, d3, q4, d4, rfl, _, _, hbu⟩
          have HI1 := Lib.hid (HI1.out.below hbu)
          have HI2 := Lib.hid (HI2.out.below hbu)
          obtain ⟨z4, hz⟩ := z3.on hbu
          subst hz
          clear hbu
          go_wp2_with fail
          refine (warmed_any _).mono ?_
          rintro e u ⟨rfl, hbu⟩
          obtain ⟨z5, hz⟩ := z4.on hbu
          subst hz
          clear hbu
          go_wp2_with fail
          go_ret
          exact ⟨rfl, z5.base HEE.out⟩
        | none =>
          have HB2 := Lib.hid (fun w' (q : From W3 w') => (by have h := Best_any pq cq fq dq qs ns w' (HBK.out.below q.b); rw [bestL, bestE, if_pos HV2.out, if_pos HV2.out, hy] at h; exact h : Calls Try.prog 27 #[.agg #[.slice pq qs.length cq, .slice fq ns.length dq]] w' (GaveListE [] 4 w')))
          clear hy
          go_wp2_with fail
          refine (HB1.out _ (From.refl W3)).mono ?_
          rintro e u ⟨p1, k1, rfl, hi, hbu⟩
          have HI1 := Lib.hid hi
          obtain ⟨z1, hz⟩ := later_of hbu
          subst hz
          clear hi hbu
          go_wp2_with fail
          refine (HB2.out _ z1.fr).mono ?_
          rintro e u ⟨p2, k2, rfl, hi, hbu⟩
          have HI1 := Lib.hid (HI1.out.below hbu)
          have HI2 := Lib.hid hi
          obtain ⟨z2, hz⟩ := z1.on hbu
          subst hz
          clear hi hbu
          go_wp2_with fail
          refine (HM1.out _ z2.fr).mono ?_
          rintro e u ⟨q1, d1, q2, d2, rfl, _, _, hbu⟩
          have HI1 := Lib.hid (HI1.out.below hbu)
          have HI2 := Lib.hid (HI2.out.below hbu)
          obtain ⟨z3, hz⟩ := z2.on hbu
          subst hz
          clear hbu
          go_wp2_with fail
          refine (HM2.out _ z3.fr).mono ?_
          rintro e u ⟨q3, d3, q4, d4, rfl, _, _, hbu⟩
          have HI1 := Lib.hid (HI1.out.below hbu)
          have HI2 := Lib.hid (HI2.out.below hbu)
          obtain ⟨z4, hz⟩ := z3.on hbu
          subst hz
          clear hbu
          go_wp2_with fail
          refine (warmed_any _).mono ?_
          rintro e u ⟨rfl, hbu⟩
          obtain ⟨z5, hz⟩ := z4.on hbu
          subst hz
          clear hbu
          go_wp2_with fail
          go_ret
          exact ⟨rfl, z5.base HEE.out⟩
theorem TunnelLess_any (pp : Option Addr) (cp : Nat) (pf : Option Addr) (cf : Nat) (ps : List Pt) (ms : List FrM) (n0 n1 n2 n3 : Int) (w : World) (hB : BkAt w pp pf ps ms) (hcf : ms.length ≤ cf) : Calls Try.prog 10 #[.agg #[.slice pp ps.length cp, .slice pf ms.length cf], .agg #[.int .i64 n0, .int .i64 n1, .int .i64 n2, .int .i64 n3]] w fun e w' => e = .returned (.bool true) ∧ Below w.heap.size w w' := by
  cases hb : bookB ps (frsM ms)
  · exact less_bad pp cp pf cf ps ms n0 n1 n2 n3 w hB hb
  · by_cases h0 : ms.length = 0
    · exact less_none pp cp pf cf ps ms n0 n1 n2 n3 w hB hb h0
    · exact less_main pp cp pf cf ps ms n0 n1 n2 n3 w hB hcf hb (by omega)
end Go.Proofs.Ytfppcmechfjpoaa
