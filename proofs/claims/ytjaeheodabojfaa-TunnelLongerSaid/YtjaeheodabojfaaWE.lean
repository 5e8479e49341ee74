/- The law's own helpers of layer 3: a frame that stays longer. -/
import Derived.Test.YtjaeheodabojfaaWD
namespace Go.Proofs.Ytjaeheodabojfaa
open Go.RowKit Go.Maps
attribute [local go_sem] Oper.semAt_some

set_option maxRecDepth 10000 in
set_option maxHeartbeats 3200000 in
theorem stays_any (pp : Option Addr) (np cp : Nat) (pf : Option Addr) (cf : Nat) (ms : List FrM) (w : World) (h : FrsAt w pf ms) (h3 : ms.length ≤ 10) (f : Nat) (hf : f < ms.length) (k : Nat) (hk : k < ms[f].f.stay.length) (hk2 : ms[f].f.stay.length ≤ 10) (more : Int) :
    Calls Try.prog 52 #[.agg #[.slice pp np cp, .slice pf ms.length cf], .int .i64 f, .int .i64 k, .int .i64 (at0 ms[f].f.stay k + more)] w (GaveLong pp np cp ms f k more w) := by
  obtain ⟨b, o, rfl, _, _, _, hst0⟩ := h f hf
  obtain ⟨bs, os, es, hcs⟩ := hst0 k hk
  have hbs := cell_block hcs
  dsimp only at hbs
  have ES := Lib.hid es
  have H0 := Lib.hid h
  clear hst0 hcs es
  have hE := below_alloc3 w (.cells #[.slice pp np cp, .slice (some ⟨b, o, none⟩) ms.length cf] 25) (.cells #[.slice none 0 0, .slice none 0 0] 25) (.cells #[.slice none 0 0, .slice none 0 0] 25)
  have hr := ((Row.new w #[.slice pp np cp, .slice (some ⟨b, o, none⟩) ms.length cf] 25).alloc (.cells #[.slice none 0 0, .slice none 0 0] 25)).alloc (.cells #[.slice none 0 0, .slice none 0 0] 25)
  have hq := (Row.new1 w (.cells #[.slice pp np cp, .slice (some ⟨b, o, none⟩) ms.length cf] 25) #[.slice none 0 0, .slice none 0 0] 25).alloc (.cells #[.slice none 0 0, .slice none 0 0] 25)
  have hx := Row.new2 w (.cells #[.slice pp np cp, .slice (some ⟨b, o, none⟩) ms.length cf] 25) (.cells #[.slice none 0 0, .slice none 0 0] 25) #[.slice none 0 0, .slice none 0 0] 25
  have HX := Lib.hid hx
  obtain ⟨W1, hW1⟩ : ∃ W, W = (((w.alloc (.cells #[.slice pp np cp, .slice (some ⟨b, o, none⟩) ms.length cf] 25)).alloc (.cells #[.slice none 0 0, .slice none 0 0] 25)).alloc (.cells #[.slice none 0 0, .slice none 0 0] 25)).setRow (w.heap.size + 1 + 1) #[.slice pp np cp, .slice (some ⟨b, o, none⟩) ms.length cf] := ⟨_, rfl⟩
  have HW1 := Lib.hid hW1
  have HR1 := Lib.hid (show Row W1 w.heap.size #[.slice pp np cp, .slice (some ⟨b, o, none⟩) ms.length cf] 25 by rw [hW1]; exact hr.setRow_other #[.slice pp np cp, .slice (some ⟨b, o, none⟩) ms.length cf] (by omega))
  have HQ1 := Lib.hid (show Row W1 (w.heap.size + 1) #[.slice none 0 0, .slice none 0 0] 25 by rw [hW1]; exact hq.setRow_other #[.slice pp np cp, .slice (some ⟨b, o, none⟩) ms.length cf] (by omega))
  have HX1 := Lib.hid (show Row W1 (w.heap.size + 1 + 1) #[.slice pp np cp, .slice (some ⟨b, o, none⟩) ms.length cf] 25 by rw [hW1]; exact hx.setRow #[.slice pp np cp, .slice (some ⟨b, o, none⟩) ms.length cf])
  have HB1 := Lib.hid (show Below w.heap.size w W1 by rw [hW1]; exact below_setRow hE (by omega) _)
  have hz1 := HX1.out.lt
  clear hW1 hE hr hq hx
  obtain ⟨v, g, cap, cur, w2, hr, ⟨rfl, hrow, hg, hcap, hb2⟩, hh⟩ := copy_frames (W1.alloc (.cells #[] 55)) ms b o cf ((h.below HB1.out).below (below_alloc _ _)) (by omega) h3 23 W1.heap.size
  have HA1 := Lib.hid hr
  have HH := Lib.hid hh
  have hb12 := (below_alloc W1 (.cells #[] 55)).trans (hb2.mono (by simp))
  have hgz : W1.heap.size < g := by simp at hg; omega
  have c1 := (HR1.out.alloc (.cells #[] 55)).cell 1 (v := .slice (some ⟨b, o, none⟩) ms.length cf) rfl
  have HR2 := Lib.hid (HR1.out.below hb12 HR1.out.lt)
  have HQ2 := Lib.hid (HQ1.out.below hb12 HQ1.out.lt)
  have HX2 := Lib.hid (HX1.out.below hb12 HX1.out.lt)
  have HB2 := Lib.hid (HB1.out.trans (hb12.mono HB1.out.size))
  have x1 := HX2.out.cell 1 (v := .slice (some ⟨b, o, none⟩) ms.length cf) rfl
  have x1f := HX2.out.free 1
  have hgw := hrow.lt
  obtain ⟨W3, hW3⟩ : ∃ W, W = w2.setCell ⟨w.heap.size + 1 + 1, 1, none⟩ (.slice (some ⟨g, 0, none⟩) ms.length cap) := ⟨_, rfl⟩
  have HW3 := Lib.hid hW3
  have HR3 := Lib.hid (show Row W3 w.heap.size #[.slice pp np cp, .slice (some ⟨b, o, none⟩) ms.length cf] 25 by rw [hW3]; exact HR2.out.set_other _ _ (by dsimp only; omega))
  have HQ3 := Lib.hid (show Row W3 (w.heap.size + 1) #[.slice none 0 0, .slice none 0 0] 25 by rw [hW3]; exact HQ2.out.set_other _ _ (by dsimp only; omega))
  have HX3 := Lib.hid (show Row W3 (w.heap.size + 1 + 1) #[.slice pp np cp, .slice (some ⟨g, 0, none⟩) ms.length cap] 25 by rw [hW3]; exact HX2.out.set 1 _)
  have HG3 := Lib.hid (show Row W3 g cur 55 by rw [hW3]; exact hrow.set_other _ _ (by dsimp only; omega))
  have HB3 := Lib.hid (show Below w.heap.size w W3 by rw [hW3]; exact HB2.out.setCell (by dsimp only; omega) _)
  clear hW3 hr hrow hh hb2 hg hb12 HR1 HQ1 HX1 HB1 HR2 HQ2 HX2 HB2
  have hg3z := HG3.out.lt
  have hx3z := HX3.out.lt
  have hst3 := (by obtain ⟨_, _, _, _, _, _, hs⟩ := (h.below HB3.out) f hf; rw [ES.out] at hs; exact hs : IntsAt W3 (some ⟨bs, os, none⟩) ms[f].f.stay)
  obtain ⟨v, g3, cap3, cur3, w5, hr, ⟨rfl, hrow, hg, hcap3, hb5⟩, hh⟩ := copy_ints (W3.drew.alloc (.cells #[] 3)) ms[f].f.stay bs os ms[f].c (hst3.below ((Below.refl W3.heap.size W3).drew.alloc (by simp) (.cells #[] 3))) (by omega) hk2 26 W3.heap.size
  have HA3 := Lib.hid hr
  have HH3 := Lib.hid hh
  have hb35 : Below W3.heap.size W3 w5 := ((Below.refl W3.heap.size W3).drew.alloc (by simp) (.cells #[] 3)).trans (hb5.mono (by simp))
  have hg33 : W3.heap.size < g3 := by simp at hg; omega
  have HG5 := Lib.hid (HG3.out.below hb35 HG3.out.lt)
  have HQ5 := Lib.hid (HQ3.out.below hb35 HQ3.out.lt)
  have HX5 := Lib.hid (HX3.out.below hb35 HX3.out.lt)
  have HR5 := Lib.hid (HR3.out.below hb35 HR3.out.lt)
  have HB5 := Lib.hid (HB3.out.trans (hb35.mono HB3.out.size))
  have HI5 := Lib.hid hrow
  have hS : ∀ w', Below W3.heap.size W3 w' → w'.cell? ⟨w.heap.size + 1 + 1, 1, none⟩ = some (.slice (some ⟨g, 0, none⟩) ms.length cap) ∧ w'.cell? ⟨w.heap.size, 1, none⟩ = some (.slice (some ⟨b, o, none⟩) ms.length cf) ∧ w'.cell? ⟨b, o + f * 3, none⟩ = some (.slice (some ⟨bs, os, none⟩) ms[f].f.stay.length ms[f].c) := fun w' k => ⟨(HX3.out.below k HX3.out.lt).cell 1 rfl, (HR3.out.below k HR3.out.lt).cell 1 rfl, by
    obtain ⟨_, _, e, q0, _, _, _⟩ := (h.below HB3.out).below k f hf
    cases e
    rw [ES.out] at q0
    exact q0⟩
  have HS1 := Lib.hid (hS _ (Below.refl W3.heap.size W3).drew)
  have HS2 := Lib.hid (hS _ ((Below.refl W3.heap.size W3).drew.alloc (by simp) (.cells #[] 3)))
  have HS3 := Lib.hid (hS _ hb35)
  have hbg : b < w.heap.size := by
    obtain ⟨_, _, e, q0, _, _, _⟩ := h f hf
    cases e
    exact cell_block q0
  have HS4 := Lib.hid (show (w5.setCell ⟨g, f * 3, none⟩ (.slice (some ⟨g3, 0, none⟩) ms[f].f.stay.length cap3)).cell? ⟨w.heap.size + 1 + 1, 1, none⟩ = some (.slice (some ⟨g, 0, none⟩) ms.length cap) ∧ (w5.setCell ⟨g, f * 3, none⟩ (.slice (some ⟨g3, 0, none⟩) ms[f].f.stay.length cap3)).cell? ⟨w.heap.size, 1, none⟩ = some (.slice (some ⟨b, o, none⟩) ms.length cf) ∧ (w5.setCell ⟨g, f * 3, none⟩ (.slice (some ⟨g3, 0, none⟩) ms[f].f.stay.length cap3)).cell? ⟨b, o + f * 3, none⟩ = some (.slice (some ⟨bs, os, none⟩) ms[f].f.stay.length ms[f].c) from ⟨(HX5.out.set_other ⟨g, f * 3, none⟩ _ (by dsimp only; omega)).cell 1 rfl, (HR5.out.set_other ⟨g, f * 3, none⟩ _ (by dsimp only; omega)).cell 1 rfl, ((FromB.refl g w5).set (f * 3) _).cell HS3.out.2.2 (by omega)⟩)
  obtain ⟨g0, _, _⟩ := HH.out f hf
  have hcz : f * 3 < cur.size := (Array.getElem?_eq_some_iff.1 g0).1
  have t0 := HG5.out.cell _ g0
  have t1 := HG5.out.free (f * 3)
  have i1 : (0 : Int) ≤ (f : Int) := by omega
  have i2 : (f : Int) < (ms.length : Int) := by omega
  have i3 : (0 : Int) ≤ (k : Int) := by omega
  have i4 : (k : Int) < (ms[f].f.stay.length : Int) := by omega
  have hg5 := HI5.out.lt
  clear hr hrow hh hb5 hg hb35 hS hst3 g0 h HR3 HQ3 HX3 HG3
  go_enter Try.func52, Try.ntmps52
  go_wp2_with (first
    | (refine store_row rfl 25 _ _ rfl _ #[.slice pp np cp, .slice (some ⟨b, o, none⟩) ms.length cf] _ _ rfl rfl HX.out (by kernel_rfl) rfl (by simp [Value.oneCell']) ?_; rw [← HW1.out])
    | (at_builtin; refine wpList_append_run rfl _ _ _ _ rfl (.slice (some ⟨W1.heap.size, 0, none⟩) 0 0) _ _ rfl rfl HA1.out ?_))
  rw [← HW3.out]
  clear c1 x1 x1f
  go_region_held3 (fun w' => w'.cell? ⟨w.heap.size + 1 + 1, 1, none⟩ = some (.slice (some ⟨g, 0, none⟩) ms.length cap) ∧ w'.cell? ⟨w.heap.size, 1, none⟩ = some (.slice (some ⟨b, o, none⟩) ms.length cf) ∧ w'.cell? ⟨b, o + f * 3, none⟩ = some (.slice (some ⟨bs, os, none⟩) ms[f].f.stay.length ms[f].c)) (first | exact HS1.out | exact HS2.out | exact HS3.out | exact HS4.out) (first | (rw [if_pos (by rfl)]; refine wp_append_run _ _ _ _ rfl (.slice (some ⟨W3.heap.size, 0, none⟩) 0 0) _ _ rfl rfl HA3.out ?_))
  all_goals
    clear t0 t1
    have HGa := Lib.hid (HG5.out.set (f * 3) (.slice (some ⟨g3, 0, none⟩) ms[f].f.stay.length cap3))
    have HQa := Lib.hid (HQ5.out.set_other ⟨g, f * 3, none⟩ (.slice (some ⟨g3, 0, none⟩) ms[f].f.stay.length cap3) (by dsimp only; omega))
    have HXa := Lib.hid (HX5.out.set_other ⟨g, f * 3, none⟩ (.slice (some ⟨g3, 0, none⟩) ms[f].f.stay.length cap3) (by dsimp only; omega))
    have HIa := Lib.hid (HI5.out.set_other ⟨g, f * 3, none⟩ (.slice (some ⟨g3, 0, none⟩) ms[f].f.stay.length cap3) (by dsimp only; omega))
    have HBa := Lib.hid (HB5.out.setCell (p := ⟨g, f * 3, none⟩) (by dsimp only; omega) (.slice (some ⟨g3, 0, none⟩) ms[f].f.stay.length cap3))
    have z1 := HS4.out.1
    generalize w5.setCell ⟨g, f * 3, none⟩ (.slice (some ⟨g3, 0, none⟩) ms[f].f.stay.length cap3) = W6 at *
    have z2 := HGa.out.cell (f * 3) (v := .slice (some ⟨g3, 0, none⟩) ms[f].f.stay.length cap3) (by rw [Array.getElem?_setIfInBounds, if_pos rfl, if_pos hcz])
    have z3 := HIa.out.cell k (HH3.out k hk)
    have z4 := HIa.out.free k
    have HG7 := Lib.hid (HGa.out.set_other ⟨g3, k, none⟩ (.int .i64 (at0 ms[f].f.stay k + more)) (by dsimp only; omega))
    have HQ7 := Lib.hid (HQa.out.set_other ⟨g3, k, none⟩ (.int .i64 (at0 ms[f].f.stay k + more)) (by dsimp only; omega))
    have HX7 := Lib.hid (HXa.out.set_other ⟨g3, k, none⟩ (.int .i64 (at0 ms[f].f.stay k + more)) (by dsimp only; omega))
    have HI7 := Lib.hid (HIa.out.set k (.int .i64 (at0 ms[f].f.stay k + more)))
    have HB7 := Lib.hid (HBa.out.setCell (p := ⟨g3, k, none⟩) (by dsimp only; omega) (.int .i64 (at0 ms[f].f.stay k + more)))
    have u0 := HX7.out.cell 0 (v := .slice pp np cp) rfl
    have u1 := HX7.out.cell 1 (v := .slice (some ⟨g, 0, none⟩) ms.length cap) rfl
    go_wp2_with (first | (refine store_row rfl 25 _ _ rfl _ #[.slice pp np cp, .slice (some ⟨g, 0, none⟩) ms.length cap] _ _ rfl rfl HQ7.out (by kernel_rfl) rfl (by simp [Value.oneCell']) ?_))
    have qq := HQ7.out.setRow #[.slice pp np cp, .slice (some ⟨g, 0, none⟩) ms.length cap]
    have rG := HG7.out.setRow_other (g := w.heap.size + 1) #[.slice pp np cp, .slice (some ⟨g, 0, none⟩) ms.length cap] (by omega)
    have rI := HI7.out.setRow_other (g := w.heap.size + 1) #[.slice pp np cp, .slice (some ⟨g, 0, none⟩) ms.length cap] (by omega)
    have hfin := below_setRow (g := w.heap.size + 1) HB7.out (by omega) #[.slice pp np cp, .slice (some ⟨g, 0, none⟩) ms.length cap]
    have hhf := holdsF_set HH.out hf (longF ms[f] g3 cap3 k more) (by simp [longF]) rfl rfl
    have hll : (longF ms[f] g3 cap3 k more).f.stay.length = ms[f].f.stay.length := by simp [longF]
    rw [hll] at hhf
    refine bodyPost_ret (v := .agg #[.slice pp np cp, .slice (some ⟨g, 0, none⟩) ms.length cap]) (results_cell_row Try.results52 _ _ _ _ _ _ _ rfl qq Try.underlying25 rfl (by kernel_rfl)) rfl
      ⟨g, cap, g3, cap3, hf, rfl, ?_, by omega, by omega, hfin⟩
    refine frs_row rG hhf (fun i hi => ?_)
    rw [List.length_set] at hi
    by_cases e : i = f
    · subst e
      simp only [List.getElem_set_self]
      exact ints_rowI rI (holdsI_set HH3.out hk (at0 ms[i].f.stay k + more))
    · simp only [List.getElem_set_ne (fun e2 => e e2.symm)]
      obtain ⟨_, _, _, _, _, _, hst⟩ := H0.out i hi
      exact hst.below hfin
end Go.Proofs.Ytjaeheodabojfaa
