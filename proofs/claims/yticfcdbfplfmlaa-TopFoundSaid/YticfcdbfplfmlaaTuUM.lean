/- The walks of layer 3: a book with a damp that is known, a frame that stays longer. -/
import Derived.Test.YticfcdbfplfmlaaTuUL
import Derived.Test.YticfcdbfplfmlaaTuUK
namespace Go.Proofs.Yticfcdbfplfmlaa.Tu
open Go.RowKit Go.Maps
attribute [local go_sem] Oper.semAt_some

theorem eq_nil {P : Program} (w : World) (t e : TypeId) (a : Option Addr) (n c : Nat) (h : P.underlying t = some (.slice e)) : (binOp .eql t (.slice a n c) (.slice none 0 0)).run P w = .ok (.bool a.isNone) w := Lib.run_eql_slice_nil w t e a n c 0 0 h
def GaveParts (ps : List Pt) (w : World) (e : Ending) (w' : World) : Prop := ∃ g cap cur, e = .returned (.slice (some ⟨g, 0, none⟩) ps.length cap) ∧ Row w' g cur 59 ∧ w.heap.size ≤ g ∧ HoldsP (cur[·]?) ps ∧ Below w.heap.size w w'
def GaveFrames (ms : List FrM) (w : World) (e : Ending) (w' : World) : Prop := ∃ g cap cur, e = .returned (.slice (some ⟨g, 0, none⟩) ms.length cap) ∧ Row w' g cur 61 ∧ w.heap.size ≤ g ∧ HoldsF (cur[·]?) ms ∧ Below w.heap.size w w'
def GaveNums (xs : List Int) (w : World) (e : Ending) (w' : World) : Prop := ∃ g cap cur, e = .returned (.slice (some ⟨g, 0, none⟩) xs.length cap) ∧ Row w' g cur 3 ∧ w.heap.size ≤ g ∧ HoldsI (cur[·]?) xs ∧ Below w.heap.size w w'

set_option maxRecDepth 10000 in
theorem cloneP_any (ps : List Pt) (b o c : Nat) (w : World) (h : PtsAt w (some ⟨b, o, none⟩) ps) (h1 : 0 < ps.length) (h3 : ps.length ≤ 10) :
    Calls Try.prog 160 #[.slice (some ⟨b, o, none⟩) ps.length c] w (GaveParts ps w) := by
  obtain ⟨v, g, cap, cur, w', hr, ⟨rfl, hrow, hg, hcap, hb⟩, hh⟩ := copy_parts (w.alloc (.cells #[] 59)) ps b o c (h.below (below_alloc _ _)) h1 h3 51 w.heap.size
  have HR := Lib.hid hr
  have HROW := Lib.hid hrow
  have HH := Lib.hid hh
  have HB := Lib.hid ((below_alloc w (.cells #[] 59)).trans (hb.mono (by simp)))
  simp at hg
  clear hr hrow hh hb h
  have hnil := eq_nil w 51 59 (some ⟨b, o, none⟩) ps.length c Try.underlying51
  simp only [Option.isNone_some] at hnil
  go_enter Try.func160, Try.ntmps160
  go_wp2_with (first | (at_builtin; refine wpList_append_run rfl _ _ _ _ rfl (.slice (some ⟨w.heap.size, 0, none⟩) 0 0) _ _ rfl rfl HR.out ?_))
  go_ret
  exact ⟨g, cap, cur, rfl, HROW.out, by omega, HH.out, HB.out⟩
set_option maxRecDepth 10000 in
theorem cloneF_any (ms : List FrM) (b o c : Nat) (w : World) (h : FrsAt w (some ⟨b, o, none⟩) ms) (h1 : 0 < ms.length) (h3 : ms.length ≤ 10) :
    Calls Try.prog 158 #[.slice (some ⟨b, o, none⟩) ms.length c] w (GaveFrames ms w) := by
  obtain ⟨v, g, cap, cur, w', hr, ⟨rfl, hrow, hg, hcap, hb⟩, hh⟩ := copy_frames (w.alloc (.cells #[] 61)) ms b o c (h.below (below_alloc _ _)) h1 h3 52 w.heap.size
  have HR := Lib.hid hr
  have HROW := Lib.hid hrow
  have HH := Lib.hid hh
  have HB := Lib.hid ((below_alloc w (.cells #[] 61)).trans (hb.mono (by simp)))
  simp at hg
  clear hr hrow hh hb h
  have hnil := eq_nil w 52 61 (some ⟨b, o, none⟩) ms.length c Try.underlying52
  simp only [Option.isNone_some] at hnil
  go_enter Try.func158, Try.ntmps158
  go_wp2_with (first | (at_builtin; refine wpList_append_run rfl _ _ _ _ rfl (.slice (some ⟨w.heap.size, 0, none⟩) 0 0) _ _ rfl rfl HR.out ?_))
  go_ret
  exact ⟨g, cap, cur, rfl, HROW.out, by omega, HH.out, HB.out⟩
set_option maxRecDepth 10000 in
theorem cloneI_any (xs : List Int) (b o c : Nat) (w : World) (h : IntsAt w (some ⟨b, o, none⟩) xs) (h1 : 0 < xs.length) (h3 : xs.length ≤ 10) :
    Calls Try.prog 159 #[.slice (some ⟨b, o, none⟩) xs.length c] w (GaveNums xs w) := by
  obtain ⟨v, g, cap, cur, w', hr, ⟨rfl, hrow, hg, hcap, hb⟩, hh⟩ := copy_ints (w.alloc (.cells #[] 3)) xs b o c (h.below (below_alloc _ _)) h1 h3 22 w.heap.size
  have HR := Lib.hid hr
  have HROW := Lib.hid hrow
  have HH := Lib.hid hh
  have HB := Lib.hid ((below_alloc w (.cells #[] 3)).trans (hb.mono (by simp)))
  simp at hg
  clear hr hrow hh hb h
  have hnil := eq_nil w 22 3 (some ⟨b, o, none⟩) xs.length c Try.underlying22
  simp only [Option.isNone_some] at hnil
  go_enter Try.func159, Try.ntmps159
  go_wp2_with (first | (at_builtin; refine wpList_append_run rfl _ _ _ _ rfl (.slice (some ⟨w.heap.size, 0, none⟩) 0 0) _ _ rfl rfl HR.out ?_))
  go_ret
  exact ⟨g, cap, cur, rfl, HROW.out, by omega, HH.out, HB.out⟩

/-- Parts of which one has another damp. -/
def dampP (ps : List Pt) (k : Nat) (lo hi : Int) : List Pt := match ps[k]? with
  | some p => ps.set k { p with lo := lo, hi := hi }
  | none => ps
theorem dampP_at {ps : List Pt} {k : Nat} (hk : k < ps.length) (lo hi : Int) : dampP ps k lo hi = ps.set k { ps[k] with lo := lo, hi := hi } := by simp [dampP, hk]
theorem dampP_length (ps : List Pt) (k : Nat) (lo hi : Int) : (dampP ps k lo hi).length = ps.length := by unfold dampP; split <;> simp
theorem holdsP_set {cur : Array Value} {ps : List Pt} (h : HoldsP (cur[·]?) ps) {k : Nat} (hk : k < ps.length) (lo hi : Int) : HoldsP (((cur.setIfInBounds (k * 6 + 4) (.int .i64 lo)).setIfInBounds (k * 6 + 5) (.int .i64 hi))[·]?) (dampP ps k lo hi) := by
  intro i hl
  rw [dampP_length] at hl
  obtain ⟨h0, h1, h2, h3, h4, h5⟩ := h i hl
  obtain ⟨_, _, _, _, g4, g5⟩ := h k hk
  have hs4 := (Array.getElem?_eq_some_iff.1 g4).1
  have hs5 := (Array.getElem?_eq_some_iff.1 g5).1
  have key : ∀ (j : Nat) u, cur[j]? = some u → j ≠ k * 6 + 4 → j ≠ k * 6 + 5 → ((cur.setIfInBounds (k * 6 + 4) (.int .i64 lo)).setIfInBounds (k * 6 + 5) (.int .i64 hi))[j]? = some u := by
    intro j u hj n4 n5
    rw [Array.getElem?_setIfInBounds, if_neg (fun e => n5 e.symm), Array.getElem?_setIfInBounds, if_neg (fun e => n4 e.symm)]
    exact hj
  simp only [dampP_at hk]
  by_cases e : i = k
  · subst e
    simp only [List.getElem_set_self]
    refine ⟨key _ _ h0 (by omega) (by omega), key _ _ h1 (by omega) (by omega), key _ _ h2 (by omega) (by omega), key _ _ h3 (by omega) (by omega), ?_, ?_⟩
    · rw [Array.getElem?_setIfInBounds, if_neg (by omega), Array.getElem?_setIfInBounds, if_pos rfl, if_pos hs4]
    · rw [Array.getElem?_setIfInBounds, if_pos rfl, if_pos (by simpa using hs5)]
  · rw [List.getElem_set_ne (fun e2 => e e2.symm)]
    exact ⟨key _ _ h0 (by omega) (by omega), key _ _ h1 (by omega) (by omega), key _ _ h2 (by omega) (by omega), key _ _ h3 (by omega) (by omega), key _ _ h4 (by omega) (by omega), key _ _ h5 (by omega) (by omega)⟩
theorem PtsAt.fromB {w w' : World} {p : Option Addr} {ps : List Pt} {b : Nat} (h : PtsAt w p ps) (hf : FromB b w w') (hne : ∀ c o, p = some ⟨c, o, none⟩ → c ≠ b) : PtsAt w' p ps := by
  intro i hi
  obtain ⟨c, o, hp, h0, h1, h2, h3, h4, h5⟩ := h i hi
  have n := hne c o hp
  exact ⟨c, o, hp, hf.cell h0 n, hf.cell h1 n, hf.cell h2 n, hf.cell h3 n, hf.cell h4 n, hf.cell h5 n⟩
/-- The call returned a book with other parts. -/
def GaveDamp (ps' : List Pt) (pf : Option Addr) (nf cf : Nat) (w : World) (e : Ending) (w' : World) : Prop := ∃ g cap, e = .returned (.agg #[.slice (some ⟨g, 0, none⟩) ps'.length cap, .slice pf nf cf]) ∧ PtsAt w' (some ⟨g, 0, none⟩) ps' ∧ w.heap.size ≤ g ∧ Below w.heap.size w w'

set_option maxRecDepth 10000 in
set_option maxHeartbeats 800000 in
theorem measured_any (pp : Option Addr) (cp : Nat) (pf : Option Addr) (nf cf : Nat) (ps : List Pt) (w : World) (h : PtsAt w pp ps) (h3 : ps.length ≤ 10) (k : Nat) (hk : k < ps.length) (d : Int) :
    Calls Try.prog 130 #[.agg #[.slice pp ps.length cp, .slice pf nf cf], .int .i64 k, .int .i64 d] w (GaveDamp (dampP ps k d d) pf nf cf w) := by
  obtain ⟨b, o, rfl, _⟩ := h k hk
  have hE := below_alloc2 w (.cells #[.slice (some ⟨b, o, none⟩) ps.length cp, .slice pf nf cf] 54) (.cells #[.slice none 0 0, .slice none 0 0] 54)
  have HP := Lib.hid (h.below hE)
  have HR := Lib.hid ((Row.new w #[.slice (some ⟨b, o, none⟩) ps.length cp, .slice pf nf cf] 54).alloc (.cells #[.slice none 0 0, .slice none 0 0] 54))
  have HQ := Lib.hid (Row.new1 w (.cells #[.slice (some ⟨b, o, none⟩) ps.length cp, .slice pf nf cf] 54) #[.slice none 0 0, .slice none 0 0] 54)
  have HB := Lib.hid hE
  have hz0 := hE.size
  have HDL := Lib.hid (dampP_length ps k d d)
  have i1 : (0 : Int) ≤ (k : Int) := by omega
  have i2 : (k : Int) < (ps.length : Int) := by omega
  clear hE h
  go_enter Try.func130, Try.ntmps130
  go_wp2_with fail
  refine (cloneP_any ps b o cp _ HP.out (by omega) h3).mono ?_
  rintro e w1 ⟨g, cap, cur, rfl, hrow, hg, hh, hb1⟩
  have hz1 := hb1.size
  have HROW := Lib.hid hrow
  have HH := Lib.hid hh
  have HR := Lib.hid (HR.out.below hb1 HR.out.lt)
  have HQ := Lib.hid (HQ.out.below hb1 HQ.out.lt)
  have HB := Lib.hid (HB.out.trans (hb1.mono hz0))
  have hg2 : w.heap.size + 1 < g := by simp at hg; omega
  have r0 := HR.out.cell 0 (v := .slice (some ⟨b, o, none⟩) ps.length cp) rfl
  have r0f := HR.out.free 0
  clear hrow hh hb1 HP hg
  have HR2 := Lib.hid (HR.out.set 0 (.slice (some ⟨g, 0, none⟩) ps.length cap))
  have HROW2 := Lib.hid (HROW.out.set_other ⟨w.heap.size, 0, none⟩ (.slice (some ⟨g, 0, none⟩) ps.length cap) (by dsimp only; omega))
  have HQ2 := Lib.hid (HQ.out.set_other ⟨w.heap.size, 0, none⟩ (.slice (some ⟨g, 0, none⟩) ps.length cap) (by dsimp only; omega))
  obtain ⟨_, _, _, _, g4, g5⟩ := HH.out k hk
  have q4 := HROW2.out.cell _ g4
  have q5 := HROW2.out.cell _ g5
  have f4 := HROW2.out.free (k * 6 + 4)
  have f5 := HROW2.out.free (k * 6 + 5)
  have r2 := HR2.out.cell 0 (v := .slice (some ⟨g, 0, none⟩) ps.length cap) rfl
  have r1 := HR2.out.cell 1 (v := .slice pf nf cf) rfl
  have HQ3 := Lib.hid ((HQ2.out.set_other ⟨g, k * 6 + 4, none⟩ (.int .i64 d) (by dsimp only; omega)).set_other ⟨g, k * 6 + 5, none⟩ (.int .i64 d) (by dsimp only; omega))
  have HR3 := Lib.hid ((HR2.out.set_other ⟨g, k * 6 + 4, none⟩ (.int .i64 d) (by dsimp only; omega)).set_other ⟨g, k * 6 + 5, none⟩ (.int .i64 d) (by dsimp only; omega))
  have u0 := HR3.out.cell 0 (v := .slice (some ⟨g, 0, none⟩) ps.length cap) rfl
  have u1 := HR3.out.cell 1 (v := .slice pf nf cf) rfl
  have v0 := HQ3.out.cell 0 (v := .slice none 0 0) rfl
  have v1 := HQ3.out.cell 1 (v := .slice none 0 0) rfl
  have v2 := HQ3.out.free 0
  have v3 := HQ3.out.free 1
  have HP3 := Lib.hid (pts_row ((HROW2.out.set (k * 6 + 4) (.int .i64 d)).set (k * 6 + 5) (.int .i64 d)) (holdsP_set HH.out hk d d))
  have HB3 := Lib.hid (show Below w.heap.size w (((w1.setCell ⟨w.heap.size, 0, none⟩ (.slice (some ⟨g, 0, none⟩) ps.length cap)).setCell ⟨g, k * 6 + 4, none⟩ (.int .i64 d)).setCell ⟨g, k * 6 + 5, none⟩ (.int .i64 d)) from ((HB.out.setCell (by dsimp only; omega) _).setCell (by dsimp only; omega) _).setCell (by dsimp only; omega) _)
  have e6 : k * 6 + 5 = k * 6 + 4 + 1 := by omega
  rw [e6] at *
  have E6 := Lib.hid e6
  clear g4 g5 e6
  go_wp2_with fail
  have q0 := (HQ3.out.set 0 (.slice (some ⟨g, 0, none⟩) ps.length cap)).set 1 (.slice pf nf cf)
  exact bodyPost_ret (v := .agg #[.slice (some ⟨g, 0, none⟩) ps.length cap, .slice pf nf cf]) (results_cell_row Try.results130 _ _ _ _ _ _ _ rfl q0 Try.underlying54 rfl (by kernel_rfl)) rfl
    ⟨g, cap, by rw [HDL.out], HP3.out.fromB (((FromB.refl (w.heap.size + 1) _).set 0 _).set 1 _) (fun c o e => by cases e; omega), by omega, (HB3.out.setCell (by dsimp only; omega) _).setCell (by dsimp only; omega) _⟩

/-- A frame that stays longer in a part. -/
def longF (m : FrM) (g c : Nat) (k : Nat) (more : Int) : FrM := { p := some ⟨g, 0, none⟩, c := c, f := { m.f with stay := m.f.stay.set k (at0 m.f.stay k + more) } }
def GaveLong (pp : Option Addr) (np cp : Nat) (ms : List FrM) (f k : Nat) (more : Int) (w : World) (e : Ending) (w' : World) : Prop :=
  ∃ g cap g2 c2, ∃ h : f < ms.length, e = .returned (.agg #[.slice pp np cp, .slice (some ⟨g, 0, none⟩) ms.length cap]) ∧ FrsAt w' (some ⟨g, 0, none⟩) (ms.set f (longF ms[f] g2 c2 k more)) ∧ w.heap.size ≤ g ∧ w.heap.size ≤ g2 ∧ Below w.heap.size w w'
theorem holdsF_set {cur : Array Value} {ms : List FrM} (h : HoldsF (cur[·]?) ms) {k : Nat} (hk : k < ms.length) (m : FrM) (hl : m.f.stay.length = ms[k].f.stay.length) (h1 : m.f.lo = ms[k].f.lo) (h2 : m.f.hi = ms[k].f.hi) : HoldsF ((cur.setIfInBounds (k * 3) (.slice m.p m.f.stay.length m.c))[·]?) (ms.set k m) := by
  intro i hi
  rw [List.length_set] at hi
  obtain ⟨a0, a1, a2⟩ := h i hi
  have hs := (Array.getElem?_eq_some_iff.1 (h k hk).1).1
  have key : ∀ (j : Nat) u, cur[j]? = some u → j ≠ k * 3 → (cur.setIfInBounds (k * 3) (.slice m.p m.f.stay.length m.c))[j]? = some u := by
    intro j u hj n4
    rw [Array.getElem?_setIfInBounds, if_neg (fun e => n4 e.symm)]
    exact hj
  by_cases e : i = k
  · subst e
    simp only [List.getElem_set_self]
    refine ⟨?_, by rw [h1]; exact key _ _ a1 (by omega), by rw [h2]; exact key _ _ a2 (by omega)⟩
    rw [Array.getElem?_setIfInBounds, if_pos rfl, if_pos hs]
  · simp only [List.getElem_set_ne (fun e2 => e e2.symm)]
    exact ⟨key _ _ a0 (by omega), key _ _ a1 (by omega), key _ _ a2 (by omega)⟩
theorem holdsI_set {cur : Array Value} {xs : List Int} (h : HoldsI (cur[·]?) xs) {k : Nat} (hk : k < xs.length) (v : Int) : HoldsI ((cur.setIfInBounds k (.int .i64 v))[·]?) (xs.set k v) := by
  intro i hi
  rw [List.length_set] at hi
  have hs := (Array.getElem?_eq_some_iff.1 (h k hk)).1
  show (cur.setIfInBounds k (.int .i64 v))[i]? = _
  rw [Array.getElem?_setIfInBounds]
  by_cases e : k = i
  · subst e
    rw [if_pos rfl, if_pos hs]
    simp [at0, List.getD, hk]
  · rw [if_neg e, show at0 (xs.set k v) i = at0 xs i by simp [at0, List.getD, e]]
    exact h i hi

set_option maxRecDepth 10000 in
set_option maxHeartbeats 1600000 in
theorem delayed_any (pp : Option Addr) (np cp : Nat) (pf : Option Addr) (cf : Nat) (ms : List FrM) (w : World) (h : FrsAt w pf ms) (h3 : ms.length ≤ 10) (f : Nat) (hf : f < ms.length) (k : Nat) (hk : k < ms[f].f.stay.length) (hk2 : ms[f].f.stay.length ≤ 10) (more : Int) (hb0 : 0 ≤ at0 ms[f].f.stay k) (hb1 : at0 ms[f].f.stay k ≤ 1000) (hm0 : 0 ≤ more) (hm1 : more ≤ 1000) :
    Calls Try.prog 129 #[.agg #[.slice pp np cp, .slice pf ms.length cf], .int .i64 f, .int .i64 k, .int .i64 more] w (GaveLong pp np cp ms f k more w) := by
  obtain ⟨b, o, rfl, _, _, _, hst0⟩ := h f hf
  obtain ⟨bs, os, es, hcs⟩ := hst0 k hk
  have hbs := cell_block hcs
  dsimp only at hbs
  have ES := Lib.hid es
  have H0 := Lib.hid h
  clear hst0 hcs es
  have hE := below_alloc2 w (.cells #[.slice pp np cp, .slice (some ⟨b, o, none⟩) ms.length cf] 54) (.cells #[.slice none 0 0, .slice none 0 0] 54)
  have HP := Lib.hid (h.below hE)
  have HR := Lib.hid ((Row.new w #[.slice pp np cp, .slice (some ⟨b, o, none⟩) ms.length cf] 54).alloc (.cells #[.slice none 0 0, .slice none 0 0] 54))
  have HQ := Lib.hid (Row.new1 w (.cells #[.slice pp np cp, .slice (some ⟨b, o, none⟩) ms.length cf] 54) #[.slice none 0 0, .slice none 0 0] 54)
  have HB := Lib.hid hE
  have hz0 := hE.size
  have i1 : (0 : Int) ≤ (f : Int) := by omega
  have i2 : (f : Int) < (ms.length : Int) := by omega
  clear hE h
  go_enter Try.func129, Try.ntmps129
  go_wp2_with fail
  refine (cloneF_any ms b o cf _ HP.out (by omega) h3).mono ?_
  rintro e w1 ⟨g, cap, cur, rfl, hrow, hg, hh, hb1⟩
  have hz1 := hb1.size
  have HROW := Lib.hid hrow
  have HH := Lib.hid hh
  have HR := Lib.hid (HR.out.below hb1 HR.out.lt)
  have HQ := Lib.hid (HQ.out.below hb1 HQ.out.lt)
  have HB := Lib.hid (HB.out.trans (hb1.mono hz0))
  have HF := Lib.hid (HP.out.below hb1)
  have hg2 : w.heap.size + 1 < g := by simp at hg; omega
  have r0 := HR.out.cell 1 (v := .slice (some ⟨b, o, none⟩) ms.length cf) rfl
  have r0f := HR.out.free 1
  clear hrow hh hb1 HP hg
  have HR2 := Lib.hid (HR.out.set 1 (.slice (some ⟨g, 0, none⟩) ms.length cap))
  have HROW2 := Lib.hid (HROW.out.set_other ⟨w.heap.size, 1, none⟩ (.slice (some ⟨g, 0, none⟩) ms.length cap) (by dsimp only; omega))
  have HQ2 := Lib.hid (HQ.out.set_other ⟨w.heap.size, 1, none⟩ (.slice (some ⟨g, 0, none⟩) ms.length cap) (by dsimp only; omega))
  obtain ⟨g0, _, _⟩ := HH.out f hf
  have q0 := HROW2.out.cell _ g0
  have qf := HROW2.out.free (f * 3)
  have r2 := HR2.out.cell 1 (v := .slice (some ⟨g, 0, none⟩) ms.length cap) rfl
  obtain ⟨b', o', he', _, _, _, hst⟩ := HF.out f hf
  rw [ES.out] at q0 hst
  have hst2 := ints_set hst (b := w.heap.size) (fun c o e => by cases e; omega) 1 (.slice (some ⟨g, 0, none⟩) ms.length cap)
  have HST := Lib.hid hst2
  have HB2 := Lib.hid (show Below w.heap.size w (w1.setCell ⟨w.heap.size, 1, none⟩ (.slice (some ⟨g, 0, none⟩) ms.length cap)) from HB.out.setCell (by dsimp only; omega) _)
  have HF2 := Lib.hid (fun i (hi : i < ms.length) => (by obtain ⟨_, _, _, _, _, _, h⟩ := HF.out i hi; exact h : IntsAt w1 ms[i].p ms[i].f.stay))
  have hgz := HROW2.out.lt
  clear g0 hst hst2 he'
  go_wp2_with fail
  refine (cloneI_any ms[f].f.stay bs os ms[f].c _ HST.out (by omega) hk2).mono ?_
  rintro e w3 ⟨g3, cap3, cur3, rfl, hrow3, hg3, hh3, hb3⟩
  have hz3 := hb3.size
  have HROW3 := Lib.hid (HROW2.out.below hb3 hgz)
  have HR3 := Lib.hid (HR2.out.below hb3 HR2.out.lt)
  have HQ3 := Lib.hid (HQ2.out.below hb3 HQ2.out.lt)
  have HB3 := Lib.hid (HB2.out.trans (hb3.mono HB2.out.size))
  have R3 := Lib.hid hrow3
  have HH3 := Lib.hid hh3
  have hg33 : g < g3 := by omega
  have HF3 := Lib.hid hb3
  obtain ⟨g0, _, _⟩ := HH.out f hf
  clear q0 qf r2 hrow3 hh3 hb3 r0 r0f
  have q0 := HROW3.out.cell _ g0
  have qf := HROW3.out.free (f * 3)
  clear g0
  have HROW4 := Lib.hid (HROW3.out.set (f * 3) (.slice (some ⟨g3, 0, none⟩) ms[f].f.stay.length cap3))
  have R4 := Lib.hid (R3.out.set_other ⟨g, f * 3, none⟩ (.slice (some ⟨g3, 0, none⟩) ms[f].f.stay.length cap3) (by dsimp only; omega))
  have c4 := R4.out.cell k (HH3.out k hk)
  have f4 := R4.out.free k
  have hcz : f * 3 < cur.size := by obtain ⟨g0, _, _⟩ := HH.out f hf; exact (Array.getElem?_eq_some_iff.1 g0).1
  have s4 := HROW4.out.cell (f * 3) (v := .slice (some ⟨g3, 0, none⟩) ms[f].f.stay.length cap3) (by rw [Array.getElem?_setIfInBounds, if_pos rfl, if_pos hcz])
  have HR4 := Lib.hid (HR3.out.set_other ⟨g, f * 3, none⟩ (.slice (some ⟨g3, 0, none⟩) ms[f].f.stay.length cap3) (by dsimp only; omega))
  have HQ4 := Lib.hid (HQ3.out.set_other ⟨g, f * 3, none⟩ (.slice (some ⟨g3, 0, none⟩) ms[f].f.stay.length cap3) (by dsimp only; omega))
  have HR5 := Lib.hid (HR4.out.set_other ⟨g3, k, none⟩ (.int .i64 (at0 ms[f].f.stay k + more)) (by dsimp only; omega))
  have HQ5 := Lib.hid (HQ4.out.set_other ⟨g3, k, none⟩ (.int .i64 (at0 ms[f].f.stay k + more)) (by dsimp only; omega))
  have HROW5 := Lib.hid (HROW4.out.set_other ⟨g3, k, none⟩ (.int .i64 (at0 ms[f].f.stay k + more)) (by dsimp only; omega))
  have R5 := Lib.hid (R4.out.set k (.int .i64 (at0 ms[f].f.stay k + more)))
  have u0 := HR5.out.cell 0 (v := .slice pp np cp) rfl
  have u1 := HR5.out.cell 1 (v := .slice (some ⟨g, 0, none⟩) ms.length cap) rfl
  have v0 := HQ5.out.cell 0 (v := .slice none 0 0) rfl
  have v1 := HQ5.out.cell 1 (v := .slice none 0 0) rfl
  have v2 := HQ5.out.free 0
  have v3 := HQ5.out.free 1
  have j1 : (0 : Int) ≤ (k : Int) := by omega
  have j2 : (k : Int) < (ms[f].f.stay.length : Int) := by omega
  go_wp2_with fail
  clear u0 u1 v0 v1 v2 v3 c4 f4 s4 q0 qf
  have hfin : Below w.heap.size w ((((w3.setCell ⟨g, f * 3, none⟩ (.slice (some ⟨g3, 0, none⟩) ms[f].f.stay.length cap3)).setCell ⟨g3, k, none⟩ (.int .i64 (at0 ms[f].f.stay k + more))).setCell ⟨w.heap.size + 1, 0, none⟩ (.slice pp np cp)).setCell ⟨w.heap.size + 1, 1, none⟩ (.slice (some ⟨g, 0, none⟩) ms.length cap)) :=
    (((HB3.out.setCell (by dsimp only; omega) _).setCell (by dsimp only; omega) _).setCell (by dsimp only; omega) _).setCell (by dsimp only; omega) _
  have rG := (HROW5.out.set_other ⟨w.heap.size + 1, 0, none⟩ (.slice pp np cp) (by dsimp only; omega)).set_other ⟨w.heap.size + 1, 1, none⟩ (.slice (some ⟨g, 0, none⟩) ms.length cap) (by dsimp only; omega)
  have rI := (R5.out.set_other ⟨w.heap.size + 1, 0, none⟩ (.slice pp np cp) (by dsimp only; omega)).set_other ⟨w.heap.size + 1, 1, none⟩ (.slice (some ⟨g, 0, none⟩) ms.length cap) (by dsimp only; omega)
  have qq := (HQ5.out.set 0 (.slice pp np cp)).set 1 (.slice (some ⟨g, 0, none⟩) ms.length cap)
  have hhf := holdsF_set HH.out hf (longF ms[f] g3 cap3 k more) (by simp [longF]) rfl rfl
  have hll : (longF ms[f] g3 cap3 k more).f.stay.length = ms[f].f.stay.length := by simp [longF]
  rw [hll] at hhf
  refine bodyPost_ret (v := .agg #[.slice pp np cp, .slice (some ⟨g, 0, none⟩) ms.length cap]) (results_cell_row Try.results129 _ _ _ _ _ _ _ rfl qq Try.underlying54 rfl (by kernel_rfl)) rfl
    ⟨g, cap, g3, cap3, hf, rfl, ?_, by omega, by omega, hfin⟩
  refine frs_row rG hhf (fun i hi => ?_)
  rw [List.length_set] at hi
  by_cases e : i = f
  · subst e
    simp only [List.getElem_set_self]
    exact ints_rowI rI (holdsI_set HH3.out hk (at0 ms[i].f.stay k + more))
  · simp only [List.getElem_set_ne (fun e2 => e e2.symm)]
    obtain ⟨_, _, _, _, _, _, hst⟩ := H0.out i hi
    exact hst.below hfin
end Go.Proofs.Yticfcdbfplfmlaa.Tu
