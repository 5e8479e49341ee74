/- truly04: a tunnel of which the damp is known, as numbers choose it. -/
import Derived.Test.YticfcdbfplfmlaaGreatTGX
namespace Go.Proofs.YticfcdbfplfmlaaGreat.Tu
open Go.RowKit Go.Maps
attribute [local go_sem] Oper.semAt_some

set_option maxRecDepth 10000 in
set_option maxHeartbeats 3200000 in
theorem truly04_any (pp : Option Addr) (cp : Nat) (pf : Option Addr) (nf cf : Nat) (ps : List Pt) (pb : Option Addr) (cb : Nat) (bits : List Int) (w : World) (hP : PtsAt w pp ps) (hok : ∀ p ∈ ps, PtOk p) (h0 : 0 < ps.length) (h4 : ps.length ≤ 4) (hbi : IntsAt w pb bits) (hbn : bits.length ≤ maxLen) :
    Calls Tryz.prog 11 #[.agg #[.slice pp ps.length cp, .slice pf nf cf], .slice pb bits.length cb] w (GaveDamp (knowP (trueD ps bits) ps.length ps) pf nf cf w) := by
  obtain ⟨b, o, rfl⟩ : ∃ b o, pp = some ⟨b, o, none⟩ := by
    obtain ⟨b, o, e, _⟩ := hP 0 h0
    exact ⟨b, o, e⟩
  have HPT := Lib.hid hP
  have HOK := Lib.hid hok
  have HBI := Lib.hid hbi
  have HBN := Lib.hid hbn
  have hE := below_alloc3 w (.cells #[.slice (some ⟨b, o, none⟩) ps.length cp, .slice pf nf cf] 25) (.cells #[.slice none 0 0, .slice none 0 0] 25) (.cells #[.slice none 0 0, .slice none 0 0] 25)
  have hr := ((Row.new w #[.slice (some ⟨b, o, none⟩) ps.length cp, .slice pf nf cf] 25).alloc (.cells #[.slice none 0 0, .slice none 0 0] 25)).alloc (.cells #[.slice none 0 0, .slice none 0 0] 25)
  have hq := (Row.new1 w (.cells #[.slice (some ⟨b, o, none⟩) ps.length cp, .slice pf nf cf] 25) #[.slice none 0 0, .slice none 0 0] 25).alloc (.cells #[.slice none 0 0, .slice none 0 0] 25)
  have hx := Row.new2 w (.cells #[.slice (some ⟨b, o, none⟩) ps.length cp, .slice pf nf cf] 25) (.cells #[.slice none 0 0, .slice none 0 0] 25) #[.slice none 0 0, .slice none 0 0] 25
  have HX := Lib.hid hx
  obtain ⟨W1, hW1⟩ : ∃ W, W = (((w.alloc (.cells #[.slice (some ⟨b, o, none⟩) ps.length cp, .slice pf nf cf] 25)).alloc (.cells #[.slice none 0 0, .slice none 0 0] 25)).alloc (.cells #[.slice none 0 0, .slice none 0 0] 25)).setRow (w.heap.size + 1 + 1) #[.slice (some ⟨b, o, none⟩) ps.length cp, .slice pf nf cf] := ⟨_, rfl⟩
  have HW1 := Lib.hid hW1
  have HR1 := Lib.hid (show Row W1 w.heap.size #[.slice (some ⟨b, o, none⟩) ps.length cp, .slice pf nf cf] 25 by rw [hW1]; exact hr.setRow_other #[.slice (some ⟨b, o, none⟩) ps.length cp, .slice pf nf cf] (by omega))
  have HQ1 := Lib.hid (show Row W1 (w.heap.size + 1) #[.slice none 0 0, .slice none 0 0] 25 by rw [hW1]; exact hq.setRow_other #[.slice (some ⟨b, o, none⟩) ps.length cp, .slice pf nf cf] (by omega))
  have HX1 := Lib.hid (show Row W1 (w.heap.size + 1 + 1) #[.slice (some ⟨b, o, none⟩) ps.length cp, .slice pf nf cf] 25 by rw [hW1]; exact hx.setRow #[.slice (some ⟨b, o, none⟩) ps.length cp, .slice pf nf cf])
  have HB1 := Lib.hid (show Below w.heap.size w W1 by rw [hW1]; exact below_setRow hE (by omega) _)
  have hz1 := HX1.out.lt
  clear hW1 hE hr hq hx
  obtain ⟨v, g, cap, cur, w2, hr, ⟨rfl, hrow, hg, hcap, hb2⟩, hh⟩ := copy_parts (W1.alloc (.cells #[] 81)) ps b o cp ((hP.below HB1.out).below (below_alloc _ _)) h0 (by omega) 22 W1.heap.size
  have HA1 := Lib.hid hr
  have HH := Lib.hid hh
  have hb12 := (below_alloc W1 (.cells #[] 81)).trans (hb2.mono (by simp))
  have hgz : W1.heap.size < g := by simp at hg; omega
  have c1 := (HR1.out.alloc (.cells #[] 81)).cell 0 (v := .slice (some ⟨b, o, none⟩) ps.length cp) rfl
  have HR2 := Lib.hid (HR1.out.below hb12 HR1.out.lt)
  have HQ2 := Lib.hid (HQ1.out.below hb12 HQ1.out.lt)
  have HX2 := Lib.hid (HX1.out.below hb12 HX1.out.lt)
  have HB2 := Lib.hid (HB1.out.trans (hb12.mono HB1.out.size))
  have x1 := HX2.out.cell 0 (v := .slice (some ⟨b, o, none⟩) ps.length cp) rfl
  have x1f := HX2.out.free 0
  have hgw := hrow.lt
  obtain ⟨W3, hW3⟩ : ∃ W, W = w2.setCell ⟨w.heap.size + 1 + 1, 0, none⟩ (.slice (some ⟨g, 0, none⟩) ps.length cap) := ⟨_, rfl⟩
  have HW3 := Lib.hid hW3
  have HR3 := Lib.hid (show Row W3 w.heap.size #[.slice (some ⟨b, o, none⟩) ps.length cp, .slice pf nf cf] 25 by rw [hW3]; exact HR2.out.set_other _ _ (by dsimp only; omega))
  have HQ3 := Lib.hid (show Row W3 (w.heap.size + 1) #[.slice none 0 0, .slice none 0 0] 25 by rw [hW3]; exact HQ2.out.set_other _ _ (by dsimp only; omega))
  have HX3 := Lib.hid (show Row W3 (w.heap.size + 1 + 1) #[.slice (some ⟨g, 0, none⟩) ps.length cap, .slice pf nf cf] 25 by rw [hW3]; exact HX2.out.set 0 _)
  have HG3 := Lib.hid (show Row W3 g cur 81 by rw [hW3]; exact hrow.set_other _ _ (by dsimp only; omega))
  have HB3 := Lib.hid (show Below w.heap.size w W3 by rw [hW3]; exact HB2.out.setCell (by dsimp only; omega) _)
  have hgr : w.heap.size + 1 + 1 < g := by omega
  clear hW3 hr hrow hh hb2 hg hb12 HR1 HQ1 HX1 HB1 HR2 HQ2 HX2 HB2 hP hok hbi hbn
  go_enter Tryz.func11, Tryz.ntmps11
  go_wp2_with (first
    | (refine store_row rfl 25 _ _ rfl _ #[.slice (some ⟨b, o, none⟩) ps.length cp, .slice pf nf cf] _ _ rfl rfl HX.out (by kernel_rfl) rfl (by simp [Value.oneCell']) ?_; rw [← HW1.out])
    | (at_builtin; refine wpList_append_run rfl _ _ _ _ rfl (.slice (some ⟨W1.heap.size, 0, none⟩) 0 0) _ _ rfl rfl HA1.out ?_))
  rw [← HW3.out]
  clear c1 x1 x1f
  go_loopw [6] (fun i wr => ∃ k : Nat, k ≤ ps.length ∧ i = .int .i64 k ∧ (∃ cu, Row wr g cu 81 ∧ HoldsP (cu[·]?) (knowP (trueD ps bits) k ps)) ∧ Row wr w.heap.size #[.slice (some ⟨b, o, none⟩) ps.length cp, .slice pf nf cf] 25 ∧ Row wr (w.heap.size + 1) #[.slice none 0 0, .slice none 0 0] 25 ∧ Row wr (w.heap.size + 1 + 1) #[.slice (some ⟨g, 0, none⟩) ps.length cap, .slice pf nf cf] 25 ∧ Below w.heap.size w wr) (fun i _ => ps.length - (intOf i).toNat)
  case atStart => exact ⟨0, by omega, rfl, ⟨cur, HG3.out, by rw [knowP_zero]; exact HH.out⟩, HR3.out, HQ3.out, HX3.out, HB3.out⟩
  case round =>
    clear HG3 HH HR3 HQ3 HX3 HB3
    obtain ⟨k, hk, rfl, ⟨cu, r0, h0'⟩, r1, r2, r3, e0⟩ := hrel
    have HG := Lib.hid r0
    have HHk := Lib.hid h0'
    have HR := Lib.hid r1
    have HQ := Lib.hid r2
    have HXr := Lib.hid r3
    have HE := Lib.hid e0
    have x0 := r3.cell 0 (v := .slice (some ⟨g, 0, none⟩) ps.length cap) rfl
    clear r0 h0' r1 r2 r3 e0
    by_cases hlt : k < ps.length
    · obtain ⟨b1, o1, e1, _, _, _, _, q4, q5⟩ := (HPT.out.below HE.out) k hlt
      cases e1
      have q5' : wr.cell? ⟨b, o + k * 6 + 4 + 1, none⟩ = some (.int .i64 ps[k].hi) := q5
      have hpo := HOK.out ps[k] (List.getElem_mem _)
      have l0 := hpo.l0
      have l1 := hpo.l1
      have l2 := hpo.l2
      obtain ⟨hk', hkn⟩ := knowP_get (trueD ps bits) hlt
      obtain ⟨_, _, _, _, g4, g5⟩ := HHk.out k hk'
      have HS := Lib.hid (knowP_succ (g := trueD ps bits) hlt)
      obtain ⟨d, hd⟩ : ∃ d, drawn ps[k].lo ps[k].hi (item bits (k : Int)) = d := ⟨_, rfl⟩
      have htd : trueD ps bits k = d := by rw [trueD, loAt_at hlt, hiAt_at hlt, hd]
      have HTD := Lib.hid htd
      rw [hkn] at g4 g5
      obtain ⟨lo, hlo⟩ : ∃ x, ps[k].lo = x := ⟨_, rfl⟩
      obtain ⟨hi, hhi⟩ : ∃ x, ps[k].hi = x := ⟨_, rfl⟩
      rw [hlo] at g4 q4 l0 l1 hd
      rw [hhi] at g5 q5' l1 l2 hd
      have g5' : cu[k * 6 + 4 + 1]? = some (.int .i64 hi) := g5
      have G4 := Lib.hid g4
      have G5 := Lib.hid g5'
      have HD := Lib.hid hd
      have i1 : (0 : Int) ≤ (k : Int) := by omega
      have i2 : (k : Int) < (ps.length : Int) := by omega
      have hbw : b < w.heap.size := by
        obtain ⟨_, _, e2, q, _⟩ := HPT.out k hlt
        cases e2
        exact cell_block q
      have hS : ∀ w', From wr w' → w'.cell? ⟨w.heap.size + 1 + 1, 0, none⟩ = some (.slice (some ⟨g, 0, none⟩) ps.length cap) ∧ w'.cell? ⟨w.heap.size, 0, none⟩ = some (.slice (some ⟨b, o, none⟩) ps.length cp) ∧ w'.cell? ⟨b, o + k * 6 + 4, none⟩ = some (.int .i64 lo) ∧ w'.cell? ⟨b, o + k * 6 + 4 + 1, none⟩ = some (.int .i64 hi) := fun w' q => ⟨(q.row HXr.out).cell 0 rfl, (q.row HR.out).cell 0 rfl, q.cell q4, q.cell q5'⟩
      have hS2 : ∀ w', From wr w' → ((w'.setCell ⟨g, k * 6 + 4, none⟩ (.int .i64 d)).setCell ⟨g, k * 6 + 4 + 1, none⟩ (.int .i64 d)).cell? ⟨w.heap.size + 1 + 1, 0, none⟩ = some (.slice (some ⟨g, 0, none⟩) ps.length cap) ∧ ((w'.setCell ⟨g, k * 6 + 4, none⟩ (.int .i64 d)).setCell ⟨g, k * 6 + 4 + 1, none⟩ (.int .i64 d)).cell? ⟨w.heap.size, 0, none⟩ = some (.slice (some ⟨b, o, none⟩) ps.length cp) ∧ ((w'.setCell ⟨g, k * 6 + 4, none⟩ (.int .i64 d)).setCell ⟨g, k * 6 + 4 + 1, none⟩ (.int .i64 d)).cell? ⟨b, o + k * 6 + 4, none⟩ = some (.int .i64 lo) ∧ ((w'.setCell ⟨g, k * 6 + 4, none⟩ (.int .i64 d)).setCell ⟨g, k * 6 + 4 + 1, none⟩ (.int .i64 d)).cell? ⟨b, o + k * 6 + 4 + 1, none⟩ = some (.int .i64 hi) := fun w' q => ⟨(((q.row HXr.out).set_other _ _ (by dsimp only; omega)).set_other _ _ (by dsimp only; omega)).cell 0 rfl, (((q.row HR.out).set_other _ _ (by dsimp only; omega)).set_other _ _ (by dsimp only; omega)).cell 0 rfl, (((FromB.refl g w').set (k * 6 + 4) _).set (k * 6 + 4 + 1) _).cell (q.cell q4) (by omega), (((FromB.refl g w').set (k * 6 + 4) _).set (k * 6 + 4 + 1) _).cell (q.cell q5') (by omega)⟩
      have HSS := Lib.hid hS
      have HSS2 := Lib.hid hS2
      have KI := Lib.hid (From.refl wr)
      clear hS hS2 hd htd g4 g5 g5' q4 q5 q5' hkn hpo hlo hhi
      go_wp2_with fail
      clear x0
      go_region_held3 (fun w' => w'.cell? ⟨w.heap.size + 1 + 1, 0, none⟩ = some (.slice (some ⟨g, 0, none⟩) ps.length cap) ∧ w'.cell? ⟨w.heap.size, 0, none⟩ = some (.slice (some ⟨b, o, none⟩) ps.length cp) ∧ w'.cell? ⟨b, o + k * 6 + 4, none⟩ = some (.int .i64 lo) ∧ w'.cell? ⟨b, o + k * 6 + 4 + 1, none⟩ = some (.int .i64 hi)) (first | with_reducible exact HSS.out _ KI.out | with_reducible exact HSS.out _ KI.out.drew | with_reducible exact HSS2.out _ KI.out)
        (first
          | (go_at_call 9; (with_reducible refine (Item_any _ _ _ _ _ HBN.out (by first | with_reducible exact (HBI.out.below (HE.out.trans (KI.out.b.mono HE.out.size))) | with_reducible exact (HBI.out.below (HE.out.trans (KI.out.drew.b.mono HE.out.size))))).mono ?_); rintro e u' ⟨rfl, rfl⟩)
          | (go_at_call 35; (with_reducible refine (Drawn_any _ _ _ _ (by omega) (by omega) (by omega)).mono ?_); rintro e u ⟨rfl, hbu⟩; rw [HD.out]; have KI := Lib.hid (by first | with_reducible exact KI.out.drew.below hbu | with_reducible exact KI.out.below hbu); clear hbu)
          | (go_at_call 14; (with_reducible refine (Only_any _ _).mono ?_); rintro e u ⟨rfl, hbu⟩; have KI := Lib.hid (by first | with_reducible exact KI.out.drew.below hbu | with_reducible exact KI.out.below hbu); have t0 := (KI.out.row HG.out).cell _ G4.out; have t1 := (KI.out.row HG.out).cell _ G5.out; have t2 := (KI.out.row HG.out).free (k * 6 + 4); have t3 := (KI.out.row HG.out).free (k * 6 + 4 + 1); clear hbu))
      all_goals
        clear t0 t1 t2 t3
        go_wp2_with fail
        go_roundw
        case rel => exact ⟨k + 1, by omega, by go_num, ⟨_, ((KI.out.row HG.out).set (k * 6 + 4) _).set (k * 6 + 4 + 1) _, by rw [HS.out, HTD.out]; exact holdsP_set HHk.out hk' d d⟩, ((KI.out.row HR.out).set_other _ _ (by dsimp only; omega)).set_other _ _ (by dsimp only; omega), ((KI.out.row HQ.out).set_other _ _ (by dsimp only; omega)).set_other _ _ (by dsimp only; omega), ((KI.out.row HXr.out).set_other _ _ (by dsimp only; omega)).set_other _ _ (by dsimp only; omega), ((HE.out.trans (KI.out.b.mono HE.out.size)).setCell (by dsimp only; omega) _).setCell (by dsimp only; omega) _⟩
        case measure => simp [intOf]; omega
    · obtain rfl : k = ps.length := by omega
      have HPk := Lib.hid (pts_row HG.out HHk.out)
      have y1 := HXr.out.cell 1 (v := .slice pf nf cf) rfl
      go_wp2_with (first | (refine store_row rfl 25 _ _ rfl _ #[.slice (some ⟨g, 0, none⟩) ps.length cap, .slice pf nf cf] _ _ rfl rfl HQ.out (by kernel_rfl) rfl (by simp [Value.oneCell']) ?_))
      have qq := HQ.out.setRow #[.slice (some ⟨g, 0, none⟩) ps.length cap, .slice pf nf cf]
      refine bodyPost_ret (v := .agg #[.slice (some ⟨g, 0, none⟩) ps.length cap, .slice pf nf cf]) (results_cell_row Tryz.results11 _ _ _ _ _ _ _ rfl qq Tryz.underlying25 rfl (by kernel_rfl)) rfl
        ⟨g, cap, by rw [knowP_length], pts_row (HG.out.setRow_other _ (by omega)) HHk.out, by omega, below_setRow (g := w.heap.size + 1) HE.out (by omega) _⟩
end Go.Proofs.YticfcdbfplfmlaaGreat.Tu
