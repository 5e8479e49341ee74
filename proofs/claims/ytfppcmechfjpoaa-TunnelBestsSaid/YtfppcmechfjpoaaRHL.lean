/- The walks of the specification of layer 3: a part's number, a frame that stays longer. -/
import Derived.Test.YtfppcmechfjpoaaRF
import Derived.Test.YtfppcmechfjpoaaUM
import Derived.Laws.OwnMore
import Derived.Maps.AppendAt
namespace Go.Proofs.Ytfppcmechfjpoaa
open Go.RowKit Go.Maps
attribute [local go_sem] Oper.semAt_some

set_option maxRecDepth 10000 in
theorem refIsPart_any (pp : Option Addr) (np cp : Nat) (pf : Option Addr) (nf cf : Nat) (n : Int) (w : World) (hnp : np < 2 ^ 62) :
    Calls Try.prog 83 #[.agg #[.slice pp np cp, .slice pf nf cf], .int .i64 n] w fun e w' => e = .returned (.bool (fits n 0 ((np : Int) - 1))) ∧ Below w.heap.size w w' := by
  have HE := Lib.hid (below_alloc w (.cells #[.slice pp np cp, .slice pf nf cf] 25))
  go_enter Try.func83, Try.ntmps83
  go_wp2_with (first | (go_at_call 46; (with_reducible refine (Fits_any _ _ _ _).mono ?_); rintro e wf ⟨rfl, rfl⟩))
  go_ret
  exact ⟨rfl, HE.out⟩

set_option maxRecDepth 10000 in
set_option maxHeartbeats 800000 in
theorem refStays_any (st : List Int) (b o c : Nat) (lo hi : Int) (w : World) (h : IntsAt w (some ⟨b, o, none⟩) st) (hl : st.length ≤ 10) (k : Nat) (hk : k < st.length) (more : Int) (hb0 : 0 ≤ at0 st k) (hb1 : at0 st k ≤ 1000) (hm0 : 0 ≤ more) (hm1 : more ≤ 1000) :
    Calls Try.prog 85 #[.agg #[.slice (some ⟨b, o, none⟩) st.length c, .int .i64 lo, .int .i64 hi], .int .i64 k, .int .i64 more] w fun e w' => ∃ g cap, e = .returned (.agg #[.slice (some ⟨g, 0, none⟩) st.length cap, .int .i64 lo, .int .i64 hi]) ∧ IntsAt w' (some ⟨g, 0, none⟩) (st.set k (at0 st k + more)) ∧ w.heap.size ≤ g ∧ Below w.heap.size w w' := by
  have hz2 : ((w.alloc (.cells #[.slice (some ⟨b, o, none⟩) st.length c, .int .i64 lo, .int .i64 hi] 55)).alloc (.cells #[.slice none 0 0, .int .i64 0, .int .i64 0] 55)).heap.size = w.heap.size + 1 + 1 := by simp
  have hz4 : ((((w.alloc (.cells #[.slice (some ⟨b, o, none⟩) st.length c, .int .i64 lo, .int .i64 hi] 55)).alloc (.cells #[.slice none 0 0, .int .i64 0, .int .i64 0] 55)).alloc (.cells #[.slice (some ⟨b, o, none⟩) st.length c, .int .i64 lo, .int .i64 hi] 55)).alloc (.cells #[] 3)).heap.size = w.heap.size + 1 + 1 + 1 + 1 := by simp
  have hE : Below w.heap.size w ((((w.alloc (.cells #[.slice (some ⟨b, o, none⟩) st.length c, .int .i64 lo, .int .i64 hi] 55)).alloc (.cells #[.slice none 0 0, .int .i64 0, .int .i64 0] 55)).alloc (.cells #[.slice (some ⟨b, o, none⟩) st.length c, .int .i64 lo, .int .i64 hi] 55)).alloc (.cells #[] 3)) := (below_alloc2 w _ _).trans ((below_alloc2 _ _ _).mono (by simp; omega))
  have hq := ((Row.new1 w (.cells #[.slice (some ⟨b, o, none⟩) st.length c, .int .i64 lo, .int .i64 hi] 55) #[.slice none 0 0, .int .i64 0, .int .i64 0] 55).alloc (.cells #[.slice (some ⟨b, o, none⟩) st.length c, .int .i64 lo, .int .i64 hi] 55)).alloc (.cells #[] 3)
  have hx := (Row.new ((w.alloc (.cells #[.slice (some ⟨b, o, none⟩) st.length c, .int .i64 lo, .int .i64 hi] 55)).alloc (.cells #[.slice none 0 0, .int .i64 0, .int .i64 0] 55)) #[.slice (some ⟨b, o, none⟩) st.length c, .int .i64 lo, .int .i64 hi] 55).alloc (.cells #[] 3)
  rw [hz2] at hx
  obtain ⟨v, g, cap, cur, w1, hr, ⟨rfl, hrow, hg, hcap, hb⟩, hh⟩ := copy_ints ((((w.alloc (.cells #[.slice (some ⟨b, o, none⟩) st.length c, .int .i64 lo, .int .i64 hi] 55)).alloc (.cells #[.slice none 0 0, .int .i64 0, .int .i64 0] 55)).alloc (.cells #[.slice (some ⟨b, o, none⟩) st.length c, .int .i64 lo, .int .i64 hi] 55)).alloc (.cells #[] 3)) st b o c (h.below hE) (by omega) hl 26 (w.heap.size + 1 + 1 + 1)
  rw [hz4] at hg
  have HRUN := Lib.hid hr
  have HROW := Lib.hid hrow
  have HH := Lib.hid hh
  have HB := Lib.hid (hE.trans (hb.mono hE.size))
  have HQ := Lib.hid (hq.below hb hq.lt)
  have HX := Lib.hid (hx.below hb hx.lt)
  have i1 : (0 : Int) ≤ (k : Int) := by omega
  have i2 : (k : Int) < (st.length : Int) := by omega
  have x0 := HX.out.cell 0 (v := .slice (some ⟨b, o, none⟩) st.length c) rfl
  have x0f := HX.out.free 0
  have HX2 := Lib.hid (HX.out.set 0 (.slice (some ⟨g, 0, none⟩) st.length cap))
  have HROW2 := Lib.hid (HROW.out.set_other ⟨w.heap.size + 1 + 1, 0, none⟩ (.slice (some ⟨g, 0, none⟩) st.length cap) (by dsimp only; omega))
  have HQ2 := Lib.hid (HQ.out.set_other ⟨w.heap.size + 1 + 1, 0, none⟩ (.slice (some ⟨g, 0, none⟩) st.length cap) (by dsimp only; omega))
  have HB2 := Lib.hid (show Below w.heap.size w (w1.setCell ⟨w.heap.size + 1 + 1, 0, none⟩ (.slice (some ⟨g, 0, none⟩) st.length cap)) from HB.out.setCell (by dsimp only; omega) _)
  have c4 := HROW2.out.cell k (HH.out k hk)
  have f4 := HROW2.out.free k
  have x2 := HX2.out.cell 0 (v := .slice (some ⟨g, 0, none⟩) st.length cap) rfl
  have ew : IntKind.i64.wrap (at0 st k + more) = at0 st k + more := IntWalk.i64_in _ (by omega)
  have HX3 := Lib.hid (HX2.out.set_other ⟨g, k, none⟩ (.int .i64 (at0 st k + more)) (by dsimp only; omega))
  have HQ3 := Lib.hid (HQ2.out.set_other ⟨g, k, none⟩ (.int .i64 (at0 st k + more)) (by dsimp only; omega))
  have HI3 := Lib.hid (ints_rowI (HROW2.out.set k (.int .i64 (at0 st k + more))) (holdsI_set HH.out hk (at0 st k + more)))
  have HB3 := Lib.hid (show Below w.heap.size w ((w1.setCell ⟨w.heap.size + 1 + 1, 0, none⟩ (.slice (some ⟨g, 0, none⟩) st.length cap)).setCell ⟨g, k, none⟩ (.int .i64 (at0 st k + more))) from HB2.out.setCell (by dsimp only; omega) _)
  have y0 := HX3.out.cell 0 (v := .slice (some ⟨g, 0, none⟩) st.length cap) rfl
  have y1 := HX3.out.cell 1 (v := .int .i64 lo) rfl
  have y2 := HX3.out.cell 2 (v := .int .i64 hi) rfl
  have v0 := HQ3.out.cell 0 (v := .slice none 0 0) rfl
  have v1 := HQ3.out.cell 1 (v := .int .i64 0) rfl
  have v2 := HQ3.out.cell 2 (v := .int .i64 0) rfl
  have v3 := HQ3.out.free 0
  have v4 := HQ3.out.free 1
  have v5 := HQ3.out.free 2
  clear h hE hq hx hr hrow hb hh hz2 hz4
  go_enter Try.func85, Try.ntmps85
  go_wp2_with (first | (at_builtin; refine wpList_append_run rfl _ _ _ _ rfl (.slice (some ⟨w.heap.size + 1 + 1 + 1, 0, none⟩) 0 0) _ _ rfl rfl HRUN.out ?_))
  have q0 := ((HQ3.out.set 0 (.slice (some ⟨g, 0, none⟩) st.length cap)).set 1 (.int .i64 lo)).set 2 (.int .i64 hi)
  exact bodyPost_ret (v := .agg #[.slice (some ⟨g, 0, none⟩) st.length cap, .int .i64 lo, .int .i64 hi]) (results_cell_row Try.results85 _ _ _ _ _ _ _ rfl q0 Try.underlying55 rfl (by kernel_rfl)) rfl
    ⟨g, cap, rfl, (((((FromB.refl (w.heap.size + 1) _).set 0 _).set 1 _).set 2 _).ints HI3.out (fun c o e _ => by cases e; omega)), by omega, ((HB3.out.setCell (by dsimp only; omega) _).setCell (by dsimp only; omega) _).setCell (by dsimp only; omega) _⟩
end Go.Proofs.Ytfppcmechfjpoaa
/- The walks of the specification of layer 3: a book of which the damp of a part is known. -/
namespace Go.Proofs.Ytfppcmechfjpoaa
open Go.RowKit Go.Maps
attribute [local go_sem] Oper.semAt_some

set_option maxRecDepth 10000 in
set_option maxHeartbeats 800000 in
theorem refMeasured_any (pp : Option Addr) (cp : Nat) (pf : Option Addr) (nf cf : Nat) (ps : List Pt) (w : World) (h : PtsAt w pp ps) (h3 : ps.length ≤ 10) (k : Nat) (hk : k < ps.length) (d : Int) :
    Calls Try.prog 89 #[.agg #[.slice pp ps.length cp, .slice pf nf cf], .int .i64 k, .int .i64 d] w (GaveDamp (dampP ps k d d) pf nf cf w) := by
  obtain ⟨b, o, rfl, _⟩ := h k hk
  have hz2 : ((w.alloc (.cells #[.slice (some ⟨b, o, none⟩) ps.length cp, .slice pf nf cf] 25)).alloc (.cells #[.slice none 0 0, .slice none 0 0] 25)).heap.size = w.heap.size + 1 + 1 := by simp
  have hz4 : ((((w.alloc (.cells #[.slice (some ⟨b, o, none⟩) ps.length cp, .slice pf nf cf] 25)).alloc (.cells #[.slice none 0 0, .slice none 0 0] 25)).alloc (.cells #[.slice (some ⟨b, o, none⟩) ps.length cp, .slice pf nf cf] 25)).alloc (.cells #[] 64)).heap.size = w.heap.size + 1 + 1 + 1 + 1 := by simp
  have hE : Below w.heap.size w ((((w.alloc (.cells #[.slice (some ⟨b, o, none⟩) ps.length cp, .slice pf nf cf] 25)).alloc (.cells #[.slice none 0 0, .slice none 0 0] 25)).alloc (.cells #[.slice (some ⟨b, o, none⟩) ps.length cp, .slice pf nf cf] 25)).alloc (.cells #[] 64)) := (below_alloc2 w _ _).trans ((below_alloc2 _ _ _).mono (by simp; omega))
  have hq := ((Row.new1 w (.cells #[.slice (some ⟨b, o, none⟩) ps.length cp, .slice pf nf cf] 25) #[.slice none 0 0, .slice none 0 0] 25).alloc (.cells #[.slice (some ⟨b, o, none⟩) ps.length cp, .slice pf nf cf] 25)).alloc (.cells #[] 64)
  have hx := (Row.new ((w.alloc (.cells #[.slice (some ⟨b, o, none⟩) ps.length cp, .slice pf nf cf] 25)).alloc (.cells #[.slice none 0 0, .slice none 0 0] 25)) #[.slice (some ⟨b, o, none⟩) ps.length cp, .slice pf nf cf] 25).alloc (.cells #[] 64)
  rw [hz2] at hx
  obtain ⟨v, g, cap, cur, w1, hr, ⟨rfl, hrow, hg, hcap, hb⟩, hh⟩ := copy_parts ((((w.alloc (.cells #[.slice (some ⟨b, o, none⟩) ps.length cp, .slice pf nf cf] 25)).alloc (.cells #[.slice none 0 0, .slice none 0 0] 25)).alloc (.cells #[.slice (some ⟨b, o, none⟩) ps.length cp, .slice pf nf cf] 25)).alloc (.cells #[] 64)) ps b o cp (h.below hE) (by omega) h3 22 (w.heap.size + 1 + 1 + 1)
  rw [hz4] at hg
  have HDL := Lib.hid (dampP_length ps k d d)
  have HRUN := Lib.hid hr
  have HROW := Lib.hid hrow
  have HH := Lib.hid hh
  have HB := Lib.hid (hE.trans (hb.mono hE.size))
  have HQ := Lib.hid (hq.below hb hq.lt)
  have HX := Lib.hid (hx.below hb hx.lt)
  have i1 : (0 : Int) ≤ (k : Int) := by omega
  have i2 : (k : Int) < (ps.length : Int) := by omega
  have x0 := HX.out.cell 0 (v := .slice (some ⟨b, o, none⟩) ps.length cp) rfl
  have x0f := HX.out.free 0
  have HX2 := Lib.hid (HX.out.set 0 (.slice (some ⟨g, 0, none⟩) ps.length cap))
  have HROW2 := Lib.hid (HROW.out.set_other ⟨w.heap.size + 1 + 1, 0, none⟩ (.slice (some ⟨g, 0, none⟩) ps.length cap) (by dsimp only; omega))
  have HQ2 := Lib.hid (HQ.out.set_other ⟨w.heap.size + 1 + 1, 0, none⟩ (.slice (some ⟨g, 0, none⟩) ps.length cap) (by dsimp only; omega))
  have HB2 := Lib.hid (show Below w.heap.size w (w1.setCell ⟨w.heap.size + 1 + 1, 0, none⟩ (.slice (some ⟨g, 0, none⟩) ps.length cap)) from HB.out.setCell (by dsimp only; omega) _)
  obtain ⟨_, _, _, _, g4, g5⟩ := HH.out k hk
  have q4 := HROW2.out.cell _ g4
  have q5 := HROW2.out.cell _ g5
  have f4 := HROW2.out.free (k * 6 + 4)
  have f5 := HROW2.out.free (k * 6 + 5)
  have x2 := HX2.out.cell 0 (v := .slice (some ⟨g, 0, none⟩) ps.length cap) rfl
  clear h hE hq hx hr hrow hb hh hz2 hz4
  have G4 := Lib.hid g4
  have G5 := Lib.hid g5
  clear g4 g5
  go_enter Try.func89, Try.ntmps89
  go_wp2_with (first | (at_builtin; refine wpList_append_run rfl _ _ _ _ rfl (.slice (some ⟨w.heap.size + 1 + 1 + 1, 0, none⟩) 0 0) _ _ rfl rfl HRUN.out ?_) | (go_at_call 47; (with_reducible refine (Only_any _ _).mono ?_); rintro e wf ⟨rfl, rfl⟩))
  clear HX HQ HROW HB HRUN x0 x0f q4 q5 f4 f5
  generalize w1.setCell ⟨w.heap.size + 1 + 1, 0, none⟩ (.slice (some ⟨g, 0, none⟩) ps.length cap) = W at *
  have KI := Lib.hid (From.refl W)
  have HS := Lib.hid (fun w' (kk : From W w') => kk.cell x2)
  have hWz := HB2.out.size
  clear x2
  go_region_held3 (fun w' => w'.cell? ⟨w.heap.size + 1 + 1, 0, none⟩ = some (.slice (some ⟨g, 0, none⟩) ps.length cap)) (first | with_reducible exact HS.out _ KI.out | with_reducible exact HS.out _ KI.out.drew | exact (((KI.out.row HX2.out).set_other _ _ (by dsimp only; omega)).set_other _ _ (by dsimp only; omega)).cell 0 rfl)
    (first | (go_at_call 47; (with_reducible refine (Only_any _ _).mono ?_); rintro e u ⟨rfl, hbu⟩; have KI := Lib.hid (by first | with_reducible exact KI.out.drew.below hbu | with_reducible exact KI.out.below hbu); have q4 := (KI.out.row HROW2.out).cell _ G4.out; have q5 := (KI.out.row HROW2.out).cell _ G5.out; have f4 := (KI.out.row HROW2.out).free (k * 6 + 4); have f5 := (KI.out.row HROW2.out).free (k * 6 + 5); clear hbu))
  all_goals
    have HX3 := Lib.hid (((KI.out.row HX2.out).set_other ⟨g, k * 6 + 4, none⟩ (.int .i64 d) (by dsimp only; omega)).set_other ⟨g, k * 6 + 4 + 1, none⟩ (.int .i64 d) (by dsimp only; omega))
    have HQ3 := Lib.hid (((KI.out.row HQ2.out).set_other ⟨g, k * 6 + 4, none⟩ (.int .i64 d) (by dsimp only; omega)).set_other ⟨g, k * 6 + 4 + 1, none⟩ (.int .i64 d) (by dsimp only; omega))
    have HP3 := Lib.hid (pts_row (((KI.out.row HROW2.out).set (k * 6 + 4) (.int .i64 d)).set (k * 6 + 5) (.int .i64 d)) (holdsP_set HH.out hk d d))
    have HB3 := Lib.hid (show Below w.heap.size w ((u.setCell ⟨g, k * 6 + 4, none⟩ (.int .i64 d)).setCell ⟨g, k * 6 + 5, none⟩ (.int .i64 d)) from ((HB2.out.trans (KI.out.b.mono HB2.out.size)).setCell (by dsimp only; omega) _).setCell (by dsimp only; omega) _)
    have y0 := HX3.out.cell 0 (v := .slice (some ⟨g, 0, none⟩) ps.length cap) rfl
    have y1 := HX3.out.cell 1 (v := .slice pf nf cf) rfl
    have v0 := HQ3.out.cell 0 (v := .slice none 0 0) rfl
    have v1 := HQ3.out.cell 1 (v := .slice none 0 0) rfl
    have v2 := HQ3.out.free 0
    have v3 := HQ3.out.free 1
    go_wp2_with fail
    have q0 := (HQ3.out.set 0 (.slice (some ⟨g, 0, none⟩) ps.length cap)).set 1 (.slice pf nf cf)
    exact bodyPost_ret (v := .agg #[.slice (some ⟨g, 0, none⟩) ps.length cap, .slice pf nf cf]) (results_cell_row Try.results89 _ _ _ _ _ _ _ rfl q0 Try.underlying25 rfl (by kernel_rfl)) rfl
      ⟨g, cap, by rw [HDL.out], HP3.out.fromB (((FromB.refl (w.heap.size + 1) _).set 0 _).set 1 _) (fun c o e => by cases e; omega), by omega, (HB3.out.setCell (by dsimp only; omega) _).setCell (by dsimp only; omega) _⟩
end Go.Proofs.Ytfppcmechfjpoaa
/- The walks of the specification of layer 3: a list with a number behind it; rows of numbers. -/
namespace Go.Proofs.Ytfppcmechfjpoaa
open Go.RowKit Go.Maps
attribute [local go_sem] Oper.semAt_some

/-- A list of numbers copied behind an empty one. -/
theorem plus_first (w : World) (l : List Int) (p : Option Addr) (c : Nat) (h : IntsAt w p l) (hn : l.length ≤ 1000) (hc : p = none → c = 0) (base z : Nat) (hz : base ≤ z) (hzw : z < w.heap.size) (hr : Row w z #[] 3) (ty : TypeId) :
    ∃ v' w', (Builtin.append_ #[26, 26] ty #[.slice (some ⟨z, 0, none⟩) 0 0, .slice p l.length c]).run Try.prog w = .ok v' w' ∧ w'.ownsRow base 3 1 v' l.length (l.map (Value.int .i64)) ∧ Below base w w' := by
  obtain ⟨i0, hi, hi0, hi1, hi2⟩ := info_parts Try.infoInt
  have hown : w.ownsRow base 3 1 (.slice (some ⟨z, 0, none⟩) 0 0) 0 [] := ⟨rfl, .inr ⟨z, 0, #[], rfl, hz, hr, Nat.le_refl _, by unfold maxLen; omega, rfl, rfl⟩⟩
  have hb : Below base w w := Below.refl _ _
  rcases p with _ | a
  · have hl : l = [] := by
      cases l with
      | nil => rfl
      | cons x xs => obtain ⟨_, _, e, _⟩ := h 0 (by simp); cases e
    subst hl
    rw [hc rfl]
    exact ⟨_, _, run_append_owned_none w base 26 ty 3 i0 1 Try.underlying26 hi _ 0 [] hown, hown, hb⟩
  · obtain ⟨v', w', h1, h2, h3, _⟩ := run_append_own (P := Try.prog) w base 26 ty 3 i0 _ 1 8 Try.underlying26 hi hi0 hi1 hi2 rfl (by decide) (.slice (some ⟨z, 0, none⟩) 0 0) 0 [] hown a l.length c (l.map (Value.int .i64)) (by simp) (fun j u hj => by
        have hl : j < l.length := by have := (List.getElem?_eq_some_iff.1 hj).1; simpa using this
        obtain ⟨b', o', e, hcc⟩ := h j hl
        cases e
        rw [Addr.add_lit, hcc]
        rw [List.getElem?_map, List.getElem?_eq_getElem hl] at hj
        rw [at0_lt hl]; simpa using hj) (by
        intro u hu
        obtain ⟨x, _, rfl⟩ := List.mem_map.1 hu
        rfl) (by unfold maxLen; omega) (by omega) (by omega)
    rw [Nat.zero_add, List.nil_append] at h2
    exact ⟨v', w', h1, h2, hb.grown h3 (by omega) (fun k hk => by simp [Value.ownBlock] at hk; omega)⟩

/-- The call returned such a list, in a block of its own. -/
def GaveOwn (l : List Int) (w : World) (e : Ending) (w' : World) : Prop := ∃ g cap, e = .returned (.slice (some ⟨g, 0, none⟩) l.length cap) ∧ IntsAt w' (some ⟨g, 0, none⟩) l ∧ w.heap.size ≤ g ∧ g < w'.heap.size ∧ Below w.heap.size w w'
set_option maxRecDepth 10000 in
set_option maxHeartbeats 800000 in
theorem Plus_any (l : List Int) (p : Option Addr) (c : Nat) (n : Int) (w : World) (h : IntsAt w p l) (hn : l.length ≤ 900) (hc : p = none → c = 0) :
    Calls Try.prog 115 #[.slice p l.length c, .int .i64 n] w (GaveOwn (l ++ [n]) w) := by
  obtain ⟨i0, hi, hi0, hi1, hi2⟩ := info_parts Try.infoInt
  have hE := below_alloc w (.cells #[] 3)
  obtain ⟨v, w1, hr, hown, hb⟩ := plus_first (w.alloc (.cells #[] 3)) l p c (h.below hE) (by omega) hc w.heap.size w.heap.size (Nat.le_refl _) (by simp) (Row.new w #[] 3) 26
  have HRUN := Lib.hid hr
  have HB := Lib.hid (hE.trans hb)
  have HO := Lib.hid hown
  have hz := HB.out.size
  clear h hE hr hown hb
  go_enter Try.func115, Try.ntmps115
  go_wp2_with (first
    | (have hrun0 := HRUN.out; at_builtin; refine wpList_append_run rfl _ _ _ _ rfl (.slice (some ⟨w.heap.size, 0, none⟩) 0 0) _ _ rfl rfl hrun0 ?_; clear hrun0 HRUN)
    | (at_builtin; (refine wpList_append_own _ rfl _ _ 26 rfl w.heap.size 3 i0 (.int .i64 0) 1 8 Try.underlying26 hi hi0 hi1 hi2 rfl (by decide) _ _ _ rfl (HO.out.alloc _) ⟨w1.heap.size, 0, none⟩ 1 1 [.int .i64 n] rfl rfl (cell_one_new _ _ _) (by simp [Value.oneCell']) (by unfold maxLen; omega) (by omega) (by simp; omega) ?_); intro v' w2 hown' hgrow _; have HO2 := Lib.hid hown'; have HB2 := Lib.hid (HB.out.trans (((Below.refl _ _).alloc (by omega) _).grown hgrow (by simp; omega) (fun k hk => (HO.out.lt k hk).1))); clear hown' hgrow))
  obtain ⟨p', c', rfl, hints, hle, hcm, hp⟩ := ints_of_owns2 (xs := l ++ [n]) (by simpa using HO2.out)
  rcases hp with rfl | ⟨g, rfl, hg⟩
  · obtain ⟨_, _, e, _⟩ := hints 0 (by simp)
    cases e
  · have HIN := Lib.hid hints
    have HG := Lib.hid (by obtain ⟨b', o', e, hcc⟩ := hints 0 (by simp); cases e; exact cell_block hcc : g < w2.heap.size)
    clear hints
    go_ret
    exact ⟨g, c', rfl, HIN.out, hg, HG.out, HB2.out⟩

theorem Try.infoIntsL : (Try.prog.info? 26).map (fun i => (i.zero, i.size, i.bytes)) = some (some (.slice none 0 0), 1, 24) := by kernel_rfl
/-- Rows of numbers in memory: each a list of its own. -/
def IRows (w : World) (vals : List Value) (xss : List (List Int)) (P : Nat → Prop) : Prop :=
  vals.length = xss.length ∧ ∀ i (h : i < xss.length), ∃ q o c, vals[i]? = some (.slice (some ⟨q, o, none⟩) xss[i].length c) ∧ IntsAt w (some ⟨q, o, none⟩) xss[i] ∧ q < w.heap.size ∧ P q
theorem IRows.below {w w' : World} {vals : List Value} {xss : List (List Int)} {P : Nat → Prop} (h : IRows w vals xss P) (hb : Below w.heap.size w w') : IRows w' vals xss P :=
  ⟨h.1, fun i hi => by
    obtain ⟨q, o, c, h1, h2, h3, h4⟩ := h.2 i hi
    exact ⟨q, o, c, h1, h2.below hb, Nat.lt_of_lt_of_le h3 hb.size, h4⟩⟩
theorem IRows.imp {w : World} {vals : List Value} {xss : List (List Int)} {P Q : Nat → Prop} (h : IRows w vals xss P) (hi : ∀ q, q < w.heap.size → P q → Q q) : IRows w vals xss Q :=
  ⟨h.1, fun i hh => by
    obtain ⟨q, o, c, h1, h2, h3, h4⟩ := h.2 i hh
    exact ⟨q, o, c, h1, h2, h3, hi q h3 h4⟩⟩
theorem IRows.nil (w : World) (P : Nat → Prop) : IRows w [] [] P := ⟨rfl, fun i h => by simp at h⟩
theorem IRows.append {w : World} {vals vals' : List Value} {xss xss' : List (List Int)} {P : Nat → Prop} (h : IRows w vals xss P) (h' : IRows w vals' xss' P) : IRows w (vals ++ vals') (xss ++ xss') P := by
  refine ⟨by rw [List.length_append, List.length_append, h.1, h'.1], fun i hi => ?_⟩
  by_cases hlt : i < xss.length
  · obtain ⟨q, o, c, h1, h2, h3, h4⟩ := h.2 i hlt
    rw [List.getElem_append_left hlt]
    exact ⟨q, o, c, by rw [List.getElem?_append_left (by rw [h.1]; exact hlt)]; exact h1, h2, h3, h4⟩
  · rw [List.length_append] at hi
    obtain ⟨q, o, c, h1, h2, h3, h4⟩ := h'.2 (i - xss.length) (by omega)
    rw [List.getElem_append_right (by omega)]
    exact ⟨q, o, c, by rw [List.getElem?_append_right (by rw [h.1]; omega), h.1]; exact h1, h2, h3, h4⟩
theorem IRows.grown {w w' : World} {vals : List Value} {xss : List (List Int)} {P : Nat → Prop} {r : Option Nat} (h : IRows w vals xss P) (hg : w.grownBy w' r) (hn : ∀ q, P q → r ≠ some q) : IRows w' vals xss P :=
  ⟨h.1, fun i hi => by
    obtain ⟨q, o, c, h1, h2, h3, h4⟩ := h.2 i hi
    refine ⟨q, o, c, h1, fun j hj => ?_, Nat.lt_of_lt_of_le h3 hg.size, h4⟩
    obtain ⟨b', o', e, hc⟩ := h2 j hj
    cases e
    exact ⟨q, o, rfl, hg.cell hc (fun e => hn q h4 e.symm)⟩⟩
theorem IRows.one {w : World} {vals : List Value} {xss : List (List Int)} {P : Nat → Prop} (h : IRows w vals xss P) : ∀ u ∈ vals, u.oneCell' = true := by
  intro u hu
  obtain ⟨i, hi, rfl⟩ := List.getElem_of_mem hu
  obtain ⟨q, o, c, h1, _⟩ := h.2 i (by rw [← h.1]; exact hi)
  rw [List.getElem?_eq_getElem hi] at h1
  rw [Option.some.inj h1]
  rfl
theorem append_irows (w : World) (base : Nat) (hbase : base ≤ w.heap.size) (v : Value) (vals : List Value) (hown : w.ownsRow base 26 1 v vals.length vals) (b3 o3 c3 : Nat) (vals3 : List Value) (xss3 : List (List Int)) (P : Nat → Prop) (hc3 : ∀ j u, vals3[j]? = some u → w.cell? ⟨b3, o3 + j, none⟩ = some u) (hr3 : IRows w vals3 xss3 P) (hlen : vals.length + xss3.length ≤ 1000) (ty : TypeId) :
    ∃ v' w', (Builtin.append_ #[75, 75] ty #[v, .slice (some ⟨b3, o3, none⟩) xss3.length c3]).run Try.prog w = .ok v' w' ∧ w'.ownsRow base 26 1 v' (vals.length + vals3.length) (vals ++ vals3) ∧ w.grownBy w' v.ownBlock ∧ (v'.ownBlock = v.ownBlock ∨ v'.ownBlock = some w.heap.size) := by
  obtain ⟨i0, hi, hi0, hi1, hi2⟩ := info_parts Try.infoIntsL
  have hl := hr3.1
  obtain ⟨v2, w9, hr9, ho9, hg9, _, hv9⟩ := run_append_own_at (P := Try.prog) (w := w) base 75 ty 26 i0 _ 1 24 Try.underlying75 hi hi0 hi1 hi2 rfl (by decide) v vals.length vals hown ⟨b3, o3, none⟩ xss3.length c3 vals3 (by omega) (fun j u h => by rw [Addr.add_lit]; exact hc3 j u h) hr3.one (by unfold maxLen; omega) (by omega) hbase
  exact ⟨v2, w9, hr9, by rw [hl]; exact ho9, hg9, hv9⟩
/-- The call returned such rows. -/
def GaveIRows (xss : List (List Int)) (P : Nat → Prop) (w : World) (e : Ending) (w' : World) : Prop :=
  ∃ b o c vals, e = .returned (.slice (some ⟨b, o, none⟩) xss.length c) ∧ (∀ j u, vals[j]? = some u → w'.cell? ⟨b, o + j, none⟩ = some u) ∧ IRows w' vals xss P ∧ Below w.heap.size w w'
theorem append_irows_ex (w : World) (base : Nat) (hbase : base ≤ w.heap.size) (v : Value) (vals : List Value) (hown : w.ownsRow base 26 1 v vals.length vals) (b3 o3 c3 : Nat) (vals3 : List Value) (xss3 : List (List Int)) (P : Nat → Prop) (hc3 : ∀ j u, vals3[j]? = some u → w.cell? ⟨b3, o3 + j, none⟩ = some u) (hr3 : IRows w vals3 xss3 P) (hlen : vals.length + xss3.length ≤ 1000) (ty : TypeId) :
    ∃ v' w', (Builtin.append_ #[75, 75] ty #[v, .slice (some ⟨b3, o3, none⟩) xss3.length c3]).run Try.prog w = .ok v' w' ∧ (w'.ownsRow base 26 1 v' (vals.length + vals3.length) (vals ++ vals3) ∧ w.grownBy w' v.ownBlock ∧ (v'.ownBlock = v.ownBlock ∨ v'.ownBlock = some w.heap.size)) := by
  obtain ⟨v', w', h1, h2, h3, h4⟩ := append_irows w base hbase v vals hown b3 o3 c3 vals3 xss3 P hc3 hr3 hlen ty
  exact ⟨v', w', h1, h2, h3, h4⟩

/-- All settings that begin with some numbers: the specification's list. -/
def setsFrom (some_ : List Int) : Nat → List (List Int)
  | 0 => [some_]
  | n + 1 => setsFrom (some_ ++ [0]) n ++ (setsFrom (some_ ++ [1]) n ++ (setsFrom (some_ ++ [2]) n ++ setsFrom (some_ ++ [3]) n))
theorem setsFrom_eq : ∀ (n : Nat) (l : List Int), setsFrom l n = (setsL n).map (l ++ ·)
  | 0, l => by simp [setsFrom, setsL]
  | n + 1, l => by
    rw [setsFrom, setsL_succ]
    simp only [setsFrom_eq n, List.map_append, List.map_map]
    congr 1
    · simp [Function.comp_def]
    · congr 1
      · simp [Function.comp_def]
      · congr 1
        · simp [Function.comp_def]
        · simp [Function.comp_def]
theorem setsFrom_nil (n : Nat) : setsFrom [] n = setsL n := by
  rw [setsFrom_eq]
  simp
theorem setsFrom_length (l : List Int) (n : Nat) : (setsFrom l n).length = 4 ^ n := by
  rw [setsFrom_eq, List.length_map, setsL_length]
/-- The settings of the first numbers. -/
def partL (l : List Int) (n : Nat) : Nat → List (List Int)
  | 0 => []
  | k + 1 => partL l n k ++ setsFrom (l ++ [(k : Int)]) n
theorem partL_four (l : List Int) (n : Nat) : partL l n 4 = setsFrom l (n + 1) := by
  simp only [partL, setsFrom, List.nil_append, List.append_assoc]
  rfl
theorem partL_length (l : List Int) (n : Nat) : ∀ k, (partL l n k).length = k * 4 ^ n
  | 0 => by simp [partL]
  | k + 1 => by rw [partL, List.length_append, partL_length l n k, setsFrom_length, Nat.add_mul, Nat.one_mul]
/-- What the loop of Sets keeps. -/
structure SInv (B : Array Value) (t : TypeId) (l : Nat) (v : Value) (vals : List Value) (xss : List (List Int)) (w0 w : World) : Prop where
  rl : Row w l B t
  ow : w.ownsRow (l + 1) 26 1 v vals.length vals
  ri : IRows w vals xss (fun q => l + 1 ≤ q ∧ v.ownBlock ≠ some q)
  hb : Below l w0 w
section
variable {B : Array Value} {t : TypeId} {l : Nat} {v : Value} {vals : List Value} {xss : List (List Int)} {w0 w w' : World}
theorem SInv.below (h : SInv B t l v vals xss w0 w) (hb : Below w.heap.size w w') : SInv B t l v vals xss w0 w' :=
  ⟨h.rl.below hb h.rl.lt, owns_below h.ow hb, h.ri.below hb, h.hb.trans (hb.mono (Nat.le_of_lt h.rl.lt))⟩
theorem SInv.drew (h : SInv B t l v vals xss w0 w) : SInv B t l v vals xss w0 w.drew :=
  ⟨h.rl.drew, h.ow, h.ri, h.hb.drew⟩
/-- More rows behind. -/
theorem SInv.more (h : SInv B t l v vals xss w0 w) {v' : Value} {vals' : List Value} {xss' : List (List Int)} (ho : w'.ownsRow (l + 1) 26 1 v' (vals.length + vals'.length) (vals ++ vals')) (hg : w.grownBy w' v.ownBlock) (hv : v'.ownBlock = v.ownBlock ∨ v'.ownBlock = some w.heap.size) (hr : IRows w vals' xss' (fun q => l + 1 ≤ q ∧ v.ownBlock ≠ some q)) : SInv B t l v' (vals ++ vals') (xss ++ xss') w0 w' := by
  have hlt := h.rl.lt
  have hown : ∀ k, v.ownBlock = some k → l + 1 ≤ k := fun k hk => (h.ow.lt k hk).1
  have hg2 : Below (l + 1) w w' := (Below.refl _ _).grown hg (by omega) hown
  refine ⟨h.rl.below hg2 (by omega), by rw [List.length_append]; exact ho, ?_, h.hb.trans (hg2.mono (by omega))⟩
  have h2 : IRows w (vals ++ vals') (xss ++ xss') (fun q => l + 1 ≤ q ∧ v.ownBlock ≠ some q ∧ q < w.heap.size) :=
    IRows.append (h.ri.imp fun q hq hp => ⟨hp.1, hp.2, hq⟩) (hr.imp fun q hq hp => ⟨hp.1, hp.2, hq⟩)
  refine (h2.grown hg fun q hq => hq.2.1).imp fun q _ hq => ⟨hq.1, ?_⟩
  rcases hv with e | e
  · rw [e]; exact hq.2.1
  · rw [e]; intro e2; cases e2; omega
end
end Go.Proofs.Ytfppcmechfjpoaa
/- The walks of the specification of layer 3: all settings. -/
namespace Go.Proofs.Ytfppcmechfjpoaa
open Go.RowKit Go.Maps
attribute [local go_sem] Oper.semAt_some

set_option maxRecDepth 10000 in
set_option maxHeartbeats 1600000 in
theorem refSets_zero (pp : Option Addr) (np cp : Nat) (pf : Option Addr) (nf cf : Nat) (l : List Int) (b o c : Nat) (w : World) (h : IntsAt w (some ⟨b, o, none⟩) l) (hl : l.length = np) (h1 : 1 ≤ np) :
    Calls Try.prog 104 #[.agg #[.slice pp np cp, .slice pf nf cf], .slice (some ⟨b, o, none⟩) l.length c] w (GaveIRows (setsFrom l 0) (fun q => q = b ∨ w.heap.size ≤ q) w) := by
  have HI := Lib.hid h
  have HL := Lib.hid hl
  clear h
  go_enter Try.func104, Try.ntmps104
  go_wp2_with fail
  have hq := Row.new1 w (.cells #[.slice pp np cp, .slice pf nf cf] 25) #[.slice (some ⟨b, o, none⟩) np c] 26
  have hE := below_alloc2 w (.cells #[.slice pp np cp, .slice pf nf cf] 25) (.cells #[.slice (some ⟨b, o, none⟩) np c] 26)
  have hi := HI.out.below hE
  have hbz : b < w.heap.size := by
    obtain ⟨b', o', e, hcc⟩ := HI.out 0 (by omega)
    cases e
    exact cell_block hcc
  have HQ := Lib.hid hq
  have HE := Lib.hid hE
  have HI2 := Lib.hid hi
  clear hq hE hi
  go_ret
  refine ⟨w.heap.size + 1, 0, 1, [.slice (some ⟨b, o, none⟩) np c], rfl, fun j u hj => ?_, ⟨rfl, fun i hi => ?_⟩, HE.out⟩
  · rw [Nat.zero_add]
    exact HQ.out.cell j (by simpa using hj)
  · have hi0 : i = 0 := by simp [setsFrom] at hi; exact hi
    subst hi0
    exact ⟨b, o, c, by simp [setsFrom, HL.out], HI2.out, by simp; omega, .inl rfl⟩

set_option maxRecDepth 10000 in
set_option maxHeartbeats 1600000 in
theorem refSets_succ (pp : Option Addr) (np cp : Nat) (pf : Option Addr) (nf cf : Nat) (n : Nat) (hnp : np ≤ 4)
    (ih : ∀ (l : List Int) (b o c : Nat) (w : World), IntsAt w (some ⟨b, o, none⟩) l → l.length + n = np → Calls Try.prog 104 #[.agg #[.slice pp np cp, .slice pf nf cf], .slice (some ⟨b, o, none⟩) l.length c] w (GaveIRows (setsFrom l n) (fun q => q = b ∨ w.heap.size ≤ q) w))
    (l : List Int) (p : Option Addr) (c : Nat) (w : World) (h : IntsAt w p l) (hc : p = none → c = 0) (hl : l.length + (n + 1) = np) :
    Calls Try.prog 104 #[.agg #[.slice pp np cp, .slice pf nf cf], .slice p l.length c] w (GaveIRows (setsFrom l (n + 1)) (fun q => w.heap.size ≤ q) w) := by
  have hE := below_alloc w (.cells #[.slice pp np cp, .slice pf nf cf] 25)
  have HI := Lib.hid h
  have HC := Lib.hid hc
  have HIH := Lib.hid ih
  have HN := Lib.hid hnp
  have HL := Lib.hid hl
  have SI0 : SInv #[.slice pp np cp, .slice pf nf cf] 25 w.heap.size (.slice none 0 0) [] (partL l n 0) w (w.alloc (.cells #[.slice pp np cp, .slice pf nf cf] 25)) := ⟨Row.new w _ _, World.ownsRow_nil _ _ _ _, IRows.nil _ _, hE⟩
  have SI := Lib.hid SI0
  have HE := Lib.hid hE
  have hih2 : ∀ (k : Int) (g cap : Nat) (u : World), IntsAt u (some ⟨g, 0, none⟩) (l ++ [k]) → Calls Try.prog 104 #[.agg #[.slice pp np cp, .slice pf nf cf], .slice (some ⟨g, 0, none⟩) (l.length + 1) cap] u (GaveIRows (setsFrom (l ++ [k]) n) (fun q => q = g ∨ u.heap.size ≤ q) u) := fun k g cap u hu => by
    have := ih (l ++ [k]) g 0 cap u hu (by rw [List.length_append]; simp; omega)
    rwa [List.length_append] at this
  have HI2 := Lib.hid hih2
  have hne : ((l.length : Int) == (np : Int)) = false := beq_eq_false_iff_ne.2 (by omega)
  have hfew : 4 ^ n ≤ 64 := by
    have h1 : n ≤ 3 := by omega
    calc 4 ^ n ≤ 4 ^ 3 := Nat.pow_le_pow_right (by omega) h1
      _ ≤ 64 := by decide
  have HFEW := Lib.hid hfew
  have hll : l.length ≤ 900 := by omega
  have HLL := Lib.hid hll
  have r0 := SI0.rl.cell 0 (v := .slice pp np cp) rfl
  have HPL := Lib.hid (partL_length l n)
  have HP4 := Lib.hid (partL_four l n)
  have HPOS := Lib.hid (Nat.pos_of_ne_zero (by have := Nat.pow_pos (n := n) (show 0 < 4 by omega); omega) : 0 < 4 ^ n)
  clear h hc ih hnp hl SI0 hE hfew hll HIH hih2
  go_enter Try.func104, Try.ntmps104
  go_wp2_with fail
  go_loopw [5, 6] (fun v i wr => ∃ (k : Nat) (vals : List Value), k ≤ 4 ∧ i = .int .i64 k ∧ SInv #[.slice pp np cp, .slice pf nf cf] 25 w.heap.size v vals (partL l n k) w wr) (fun _ i _ => 4 - (intOf i).toNat)
  case atStart => exact ⟨0, [], by omega, rfl, SI.out⟩
  case round =>
    clear SI r0
    obtain ⟨k, vals, hk, rfl, si⟩ := hrel
    by_cases hlt : k < 4
    · have hvl : vals.length ≤ 256 := by
        have h1 := si.ri.1
        have h2 := HPL.out k
        have h3 := HFEW.out
        have h4 : k * 4 ^ n ≤ 4 * 64 := Nat.mul_le_mul (by omega) h3
        omega
      have hfar : ∀ q, wr.heap.size ≤ q → w.heap.size + 1 ≤ q ∧ u5.ownBlock ≠ some q := fun q hq => ⟨by have := si.rl.lt; omega, fun e => by have := (si.ow.lt q e).2; omega⟩
      have HFAR := Lib.hid hfar
      have hlz := si.rl.lt
      have HWB := Lib.hid (show Below w.heap.size w wr.drew from si.hb.drew)
      have SI := Lib.hid si.drew
      have i1 : (0 : Int) ≤ (k : Int) := by omega
      have i2 : (k : Int) < 4 := by omega
      have i3 : IntKind.i64.wrap ((k : Int) + 1) = (k : Int) + 1 := IntWalk.i64_in _ (by omega)
      clear si hfar
      go_wp2_with fail
      go_region_held3 (fun w' => w'.cell? ⟨w.heap.size, 0, none⟩ = some (.slice pp np cp) ∧ w'.cell? ⟨w.heap.size, 1, none⟩ = some (.slice pf nf cf)) (exact ⟨SI.out.rl.cell 0 rfl, SI.out.rl.cell 1 rfl⟩)
        (first
          | (go_at_call 115; refine (Plus_any l p c (k : Int) _ (HI.out.below SI.out.hb) HLL.out HC.out).mono ?_; rintro e u ⟨g, cap, rfl, hpl, hg, hgz, hbu⟩; have HPLU := Lib.hid hpl; have HG := Lib.hid (show wr.heap.size ≤ g from hg); have HUZ := Lib.hid (show wr.heap.size ≤ u.heap.size from hbu.size); have SI := Lib.hid (SI.out.below hbu); clear hpl hg hgz hbu)
          | (go_at_call 104; refine (HI2.out (k : Int) _ _ _ HPLU.out).mono ?_; rintro e u2 ⟨b3, o3, c3, vals3, rfl, hc3, hr3, hbu⟩; have SI := Lib.hid (SI.out.below hbu); have HC3 := Lib.hid hc3; have HR3 := Lib.hid (hr3.imp fun q _ hq => HFAR.out q (by have h1 := HG.out; have h2 := HUZ.out; rcases hq with h | h <;> omega)); have HL3 := Lib.hid (show (setsFrom (l ++ [(k : Int)]) n).length ≤ 64 by rw [setsFrom_length]; exact HFEW.out); clear hc3 hr3 hbu)
          | (refine step_append_ex rfl _ _ _ rfl u5 _ rfl rfl _ (append_irows_ex u2 (w.heap.size + 1) (by have := SI.out.rl.lt; omega) u5 vals SI.out.ow b3 o3 c3 vals3 _ _ HC3.out HR3.out (by have := HL3.out; omega) 75) ?_; rintro v2 w9 ⟨ho9, hg9, hv9⟩; have SI := Lib.hid (SI.out.more ho9 hg9 hv9 HR3.out); clear ho9 hg9 hv9))
      all_goals
        go_wp2_with fail
        go_roundw
        case rel => exact ⟨k + 1, vals ++ vals3, by omega, by go_num, SI.out⟩
        case measure => simp [intOf]; omega
    · obtain rfl : k = 4 := by omega
      rw [HP4.out] at si
      have SI := Lib.hid si
      clear si
      go_wp2
      go_ret
      have si := SI.out
      have hl := si.ri.1
      have hp := HPOS.out
      have hln := setsFrom_length l (n + 1)
      have hp4 : 4 ^ (n + 1) = 4 ^ n * 4 := Nat.pow_succ 4 n
      rcases si.ow.2 with ⟨_, h0⟩ | ⟨g, cap, cur, hv, _, hh, _, _, _, h4⟩
      · omega
      · refine ⟨g, 0, cap, vals, by rw [← hl]; exact congrArg Ending.returned hv, fun j u hj => ?_, si.ri.imp fun q _ hq => (by have := hq.1; omega), si.hb⟩
        rw [cell_of_row wr g (0 + j) cur _ (0, 0) hh, Nat.zero_add]
        have hjl := (List.getElem?_eq_some_iff.1 hj).1
        rw [← h4, List.getElem?_take_of_lt (by omega)] at hj
        simpa using hj
end Go.Proofs.Ytfppcmechfjpoaa
/- The walks of the specification of layer 3: all settings of a book, two frames at once. -/
namespace Go.Proofs.Ytfppcmechfjpoaa
open Go.RowKit Go.Maps
attribute [local go_sem] Oper.semAt_some

theorem refSets_any (pp : Option Addr) (np cp : Nat) (pf : Option Addr) (nf cf : Nat) (hnp : np ≤ 4) (h1 : 1 ≤ np) : ∀ (n : Nat) (l : List Int) (b o c : Nat) (w : World), IntsAt w (some ⟨b, o, none⟩) l → l.length + n = np →
    Calls Try.prog 104 #[.agg #[.slice pp np cp, .slice pf nf cf], .slice (some ⟨b, o, none⟩) l.length c] w (GaveIRows (setsFrom l n) (fun q => q = b ∨ w.heap.size ≤ q) w)
  | 0, l, b, o, c, w, h, hl => refSets_zero pp np cp pf nf cf l b o c w h hl h1
  | n + 1, l, b, o, c, w, h, hl => (refSets_succ pp np cp pf nf cf n hnp (refSets_any pp np cp pf nf cf hnp h1 n) l (some ⟨b, o, none⟩) c w h (fun e => by cases e) hl).mono fun _ _ ⟨b', o', c', vals, he, hv, hr, hb⟩ => ⟨b', o', c', vals, he, hv, hr.imp fun _ _ hq => .inr hq, hb⟩
theorem refSets_nil (pp : Option Addr) (np cp : Nat) (pf : Option Addr) (nf cf : Nat) (hnp : np ≤ 4) (h1 : 1 ≤ np) (w : World) :
    Calls Try.prog 104 #[.agg #[.slice pp np cp, .slice pf nf cf], .slice none 0 0] w (GaveIRows (setsL np) (fun _ => True) w) := by
  obtain ⟨n, rfl⟩ : ∃ n, np = n + 1 := ⟨np - 1, by omega⟩
  have h := refSets_succ pp (n + 1) cp pf nf cf n hnp (refSets_any pp (n + 1) cp pf nf cf hnp h1 n) [] none 0 w (fun i hi => by simp at hi) (fun _ => rfl) (by simp)
  rw [setsFrom_nil] at h
  exact h.mono fun _ _ ⟨b', o', c', vals, he, hv, hr, hb⟩ => ⟨b', o', c', vals, he, hv, hr.imp fun _ _ _ => trivial, hb⟩

/-- Is there a setting by which two frames surely are dry in time? -/
def bothR (ps : List Pt) (ms : List FrM) (one other : Nat) : Bool := (setsL ps.length).any fun s => dryI ps (frsM ms) s one && dryI ps (frsM ms) s other
theorem bothR_iff {ps : List Pt} {ms : List FrM} {one other : Nat} : bothR ps ms one other = true ↔ ∃ s ∈ setsL ps.length, dryI ps (frsM ms) s one = true ∧ dryI ps (frsM ms) s other = true := by
  simp [bothR, List.any_eq_true]
end Go.Proofs.Ytfppcmechfjpoaa
