/- The walks of layer 3: what a setting does to a frame. -/
import Derived.Test.YticfcdbfplfmlaaTuUP
namespace Go.Proofs.Yticfcdbfplfmlaa.Tu
open Go.RowKit Go.Maps
attribute [local go_sem] Oper.semAt_some

set_option maxRecDepth 10000 in
set_option maxHeartbeats 1600000 in
theorem follow_bad (pp : Option Addr) (cp : Nat) (pf : Option Addr) (cf : Nat) (ps : List Pt) (ms : List FrM) (q : Option Addr) (c : Nat) (l : List Int) (f : Int) (w : World) (hB : BkAt w pp pf ps ms) (hl : IntsAt w q l) (_hn : l.length < 2 ^ 62) (hb : bookB ps (frsM ms) = false) :
    Calls Try.prog 78 #[.agg #[.slice pp ps.length cp, .slice pf ms.length cf], .slice q l.length c, .int .i64 f] w fun e w' => e = .returned (.tuple #[.agg noPas, .int .i64 30]) ∧ Below w.heap.size w w' := by
  have hE := below_alloc2 w (.cells #[.slice pp ps.length cp, .slice pf ms.length cf] 54) (.cells noPas 130)
  have HB := Lib.hid (hB.below hE)
  have HLI := Lib.hid (hl.below hE)
  have HE := Lib.hid hE
  have HR := Lib.hid ((Row.new w #[.slice pp ps.length cp, .slice pf ms.length cf] 54).alloc (.cells noPas 130))
  have HQ := Lib.hid (Row.new1 w (.cells #[.slice pp ps.length cp, .slice pf ms.length cf] 54) noPas 130)
  clear hE hB hl
  go_enter Try.func78, Try.ntmps78
  go_wp2_with fail
  refine (enter_bad pp cp pf cf ps ms q c l _ HB.out hb).mono ?_
  rintro e w1 ⟨rfl, hb1⟩
  have HE := Lib.hid (HE.out.trans (hb1.mono HE.out.size))
  have HR := Lib.hid (HR.out.below hb1 HR.out.lt)
  have HQ := Lib.hid (HQ.out.below hb1 HQ.out.lt)
  have hzq := HQ.out.lt
  clear hb1
  have c0 := HQ.out.cell 0 (v := .slice none 0 0) rfl
  have c1 := HQ.out.cell 1 (v := .slice none 0 0) rfl
  have c2 := HQ.out.cell 2 (v := .map none) rfl
  have c3 := HQ.out.cell 3 (v := .int .i64 0) rfl
  have c4 := HQ.out.cell 4 (v := .int .i64 0) rfl
  have c5 := HQ.out.cell 5 (v := .int .i64 0) rfl
  have c6 := HQ.out.cell 6 (v := .int .i64 0) rfl
  have f0 := HQ.out.free 0
  have f1 := HQ.out.free 1
  have f2 := HQ.out.free 2
  have f3 := HQ.out.free 3
  have f4 := HQ.out.free 4
  have f5 := HQ.out.free 5
  have f6 := HQ.out.free 6
  go_wp2_with fail
  clear c0 c1 c2 c3 c4 c5 c6 f0 f1 f2 f3 f4 f5 f6
  have q := (((((((HQ.out.set 0 (.slice none 0 0)).set 1 (.slice none 0 0)).set 2 (.map none)).set 3 (.int .i64 0)).set 4 (.int .i64 0)).set 5 (.int .i64 0)).set 6 (.int .i64 0)).alloc (.cells noPas 130)
  have e0 := q.cell 0 (v := .slice none 0 0) rfl
  have e1 := q.cell 1 (v := .slice none 0 0) rfl
  have e2 := q.cell 2 (v := .map none) rfl
  have e3 := q.cell 3 (v := .int .i64 0) rfl
  have e4 := q.cell 4 (v := .int .i64 0) rfl
  have e5 := q.cell 5 (v := .int .i64 0) rfl
  have e6 := q.cell 6 (v := .int .i64 0) rfl
  exact bodyPost_ret (v := .tuple #[.agg noPas, .int .i64 30]) (by simp [results, Try.results78, go_sem, e0, e1, e2, e3, e4, e5, e6]) rfl
    ⟨rfl, (((((((HE.out.setCell (by dsimp only; omega) _).setCell (by dsimp only; omega) _).setCell (by dsimp only; omega) _).setCell (by dsimp only; omega) _).setCell (by dsimp only; omega) _).setCell (by dsimp only; omega) _).setCell (by dsimp only; omega) _).alloc (by have := HE.out.size; simp; omega) _⟩

set_option maxRecDepth 10000 in
set_option maxHeartbeats 1600000 in
theorem follow_no (pp : Option Addr) (cp : Nat) (pf : Option Addr) (cf : Nat) (ps : List Pt) (ms : List FrM) (q : Option Addr) (c : Nat) (l : List Int) (f : Int) (w : World) (hB : BkAt w pp pf ps ms) (hl : IntsAt w q l) (hn : l.length < 2 ^ 62) (hb : bookB ps (frsM ms) = true) (hs : isSetB ps.length l = false) :
    Calls Try.prog 78 #[.agg #[.slice pp ps.length cp, .slice pf ms.length cf], .slice q l.length c, .int .i64 f] w fun e w' => e = .returned (.tuple #[.agg noPas, .int .i64 31]) ∧ Below w.heap.size w w' := by
  have hE := below_alloc2 w (.cells #[.slice pp ps.length cp, .slice pf ms.length cf] 54) (.cells noPas 130)
  have HB := Lib.hid (hB.below hE)
  have HLI := Lib.hid (hl.below hE)
  have HE := Lib.hid hE
  have HR := Lib.hid ((Row.new w #[.slice pp ps.length cp, .slice pf ms.length cf] 54).alloc (.cells noPas 130))
  have HQ := Lib.hid (Row.new1 w (.cells #[.slice pp ps.length cp, .slice pf ms.length cf] 54) noPas 130)
  clear hE hB hl
  go_enter Try.func78, Try.ntmps78
  go_wp2_with fail
  refine (enter_no pp cp pf cf ps ms q c l _ HB.out hb HLI.out hn hs).mono ?_
  rintro e w1 ⟨rfl, hb1⟩
  have HE := Lib.hid (HE.out.trans (hb1.mono HE.out.size))
  have HR := Lib.hid (HR.out.below hb1 HR.out.lt)
  have HQ := Lib.hid (HQ.out.below hb1 HQ.out.lt)
  have hzq := HQ.out.lt
  clear hb1
  have c0 := HQ.out.cell 0 (v := .slice none 0 0) rfl
  have c1 := HQ.out.cell 1 (v := .slice none 0 0) rfl
  have c2 := HQ.out.cell 2 (v := .map none) rfl
  have c3 := HQ.out.cell 3 (v := .int .i64 0) rfl
  have c4 := HQ.out.cell 4 (v := .int .i64 0) rfl
  have c5 := HQ.out.cell 5 (v := .int .i64 0) rfl
  have c6 := HQ.out.cell 6 (v := .int .i64 0) rfl
  have f0 := HQ.out.free 0
  have f1 := HQ.out.free 1
  have f2 := HQ.out.free 2
  have f3 := HQ.out.free 3
  have f4 := HQ.out.free 4
  have f5 := HQ.out.free 5
  have f6 := HQ.out.free 6
  go_wp2_with fail
  clear c0 c1 c2 c3 c4 c5 c6 f0 f1 f2 f3 f4 f5 f6
  have q := (((((((HQ.out.set 0 (.slice none 0 0)).set 1 (.slice none 0 0)).set 2 (.map none)).set 3 (.int .i64 0)).set 4 (.int .i64 0)).set 5 (.int .i64 0)).set 6 (.int .i64 0)).alloc (.cells noPas 130)
  have e0 := q.cell 0 (v := .slice none 0 0) rfl
  have e1 := q.cell 1 (v := .slice none 0 0) rfl
  have e2 := q.cell 2 (v := .map none) rfl
  have e3 := q.cell 3 (v := .int .i64 0) rfl
  have e4 := q.cell 4 (v := .int .i64 0) rfl
  have e5 := q.cell 5 (v := .int .i64 0) rfl
  have e6 := q.cell 6 (v := .int .i64 0) rfl
  exact bodyPost_ret (v := .tuple #[.agg noPas, .int .i64 31]) (by simp [results, Try.results78, go_sem, e0, e1, e2, e3, e4, e5, e6]) rfl
    ⟨rfl, (((((((HE.out.setCell (by dsimp only; omega) _).setCell (by dsimp only; omega) _).setCell (by dsimp only; omega) _).setCell (by dsimp only; omega) _).setCell (by dsimp only; omega) _).setCell (by dsimp only; omega) _).setCell (by dsimp only; omega) _).alloc (by have := HE.out.size; simp; omega) _⟩

set_option maxRecDepth 10000 in
set_option maxHeartbeats 1600000 in
theorem follow_frame (pp : Option Addr) (cp : Nat) (pf : Option Addr) (cf : Nat) (ps : List Pt) (ms : List FrM) (q : Option Addr) (c : Nat) (l : List Int) (f : Int) (w : World) (hB : BkAt w pp pf ps ms) (hl : IntsAt w q l) (hn : l.length < 2 ^ 62) (hb : bookB ps (frsM ms) = true) (hs : isSetB ps.length l = true) (hf : ¬ (0 ≤ f ∧ f < ms.length)) :
    Calls Try.prog 78 #[.agg #[.slice pp ps.length cp, .slice pf ms.length cf], .slice q l.length c, .int .i64 f] w fun e w' => e = .returned (.tuple #[.agg noPas, .int .i64 31]) ∧ Below w.heap.size w w' := by
  have hE := below_alloc2 w (.cells #[.slice pp ps.length cp, .slice pf ms.length cf] 54) (.cells noPas 130)
  have HB := Lib.hid (hB.below hE)
  have HLI := Lib.hid (hl.below hE)
  have HE := Lib.hid hE
  have HR := Lib.hid ((Row.new w #[.slice pp ps.length cp, .slice pf ms.length cf] 54).alloc (.cells noPas 130))
  have HQ := Lib.hid (Row.new1 w (.cells #[.slice pp ps.length cp, .slice pf ms.length cf] 54) noPas 130)
  have hf2 : f < 0 ∨ (0 ≤ f ∧ (ms.length : Int) ≤ f) := by omega
  clear hE hB hl hf
  rcases hf2 with hf2 | ⟨hf1, hf2⟩
  all_goals
    go_enter Try.func78, Try.ntmps78
    go_wp2_with fail
    refine (enter_yes pp cp pf cf ps ms q c l _ HB.out hb HLI.out hn hs).mono ?_
    rintro e w1 ⟨mb, rfl, _, _, hb1⟩
    have HE := Lib.hid (HE.out.trans (hb1.mono HE.out.size))
    have HR := Lib.hid (HR.out.below hb1 HR.out.lt)
    have HQ := Lib.hid (HQ.out.below hb1 HQ.out.lt)
    have hzq := HQ.out.lt
    clear hb1
    have c0 := HQ.out.cell 0 (v := .slice none 0 0) rfl
    have c1 := HQ.out.cell 1 (v := .slice none 0 0) rfl
    have c2 := HQ.out.cell 2 (v := .map none) rfl
    have c3 := HQ.out.cell 3 (v := .int .i64 0) rfl
    have c4 := HQ.out.cell 4 (v := .int .i64 0) rfl
    have c5 := HQ.out.cell 5 (v := .int .i64 0) rfl
    have c6 := HQ.out.cell 6 (v := .int .i64 0) rfl
    have f0 := HQ.out.free 0
    have f1 := HQ.out.free 1
    have f2 := HQ.out.free 2
    have f3 := HQ.out.free 3
    have f4 := HQ.out.free 4
    have f5 := HQ.out.free 5
    have f6 := HQ.out.free 6
    have g1 := HR.out.cell 1 (v := .slice pf ms.length cf) rfl
    have hzr := HR.out.lt
    go_wp2_with fail
    clear c0 c1 c2 c3 c4 c5 c6 f0 f1 f2 f3 f4 f5 f6
    have q := (((((((HQ.out.set 0 (.slice none 0 0)).set 1 (.slice none 0 0)).set 2 (.map none)).set 3 (.int .i64 0)).set 4 (.int .i64 0)).set 5 (.int .i64 0)).set 6 (.int .i64 0)).alloc (.cells (pasA pp ps.length cp pf ms.length cf mb l) 130)
    have e0 := q.cell 0 (v := .slice none 0 0) rfl
    have e1 := q.cell 1 (v := .slice none 0 0) rfl
    have e2 := q.cell 2 (v := .map none) rfl
    have e3 := q.cell 3 (v := .int .i64 0) rfl
    have e4 := q.cell 4 (v := .int .i64 0) rfl
    have e5 := q.cell 5 (v := .int .i64 0) rfl
    have e6 := q.cell 6 (v := .int .i64 0) rfl
    exact bodyPost_ret (v := .tuple #[.agg noPas, .int .i64 31]) (by simp [results, Try.results78, go_sem, e0, e1, e2, e3, e4, e5, e6]) rfl
      ⟨rfl, (((((((HE.out.setCell (by dsimp only; omega) _).setCell (by dsimp only; omega) _).setCell (by dsimp only; omega) _).setCell (by dsimp only; omega) _).setCell (by dsimp only; omega) _).setCell (by dsimp only; omega) _).setCell (by dsimp only; omega) _).alloc (by have := HE.out.size; simp; omega) _⟩

set_option maxRecDepth 10000 in
set_option maxHeartbeats 1600000 in
theorem follow_yes (pp : Option Addr) (cp : Nat) (pf : Option Addr) (cf : Nat) (ps : List Pt) (ms : List FrM) (q : Option Addr) (c : Nat) (l : List Int) (f : Int) (w : World) (hB : BkAt w pp pf ps ms) (hl : IntsAt w q l) (hn : l.length < 2 ^ 62) (hb : bookB ps (frsM ms) = true) (hs : isSetB ps.length l = true) (hf0 : 0 ≤ f) (hf1 : f < ms.length) :
    Calls Try.prog 78 #[.agg #[.slice pp ps.length cp, .slice pf ms.length cf], .slice q l.length c, .int .i64 f] w (GavePas pp cp pf cf ps ms l w) := by
  have hE := below_alloc2 w (.cells #[.slice pp ps.length cp, .slice pf ms.length cf] 54) (.cells noPas 130)
  have HB := Lib.hid (hB.below hE)
  have HLI := Lib.hid (hl.below hE)
  have HE := Lib.hid hE
  have HR := Lib.hid ((Row.new w #[.slice pp ps.length cp, .slice pf ms.length cf] 54).alloc (.cells noPas 130))
  have HQ := Lib.hid (Row.new1 w (.cells #[.slice pp ps.length cp, .slice pf ms.length cf] 54) noPas 130)
  have HBK := Lib.hid (bk_of hB hb)
  clear hE hB hl
  go_enter Try.func78, Try.ntmps78
  go_wp2_with fail
  refine (enter_yes pp cp pf cf ps ms q c l _ HB.out hb HLI.out hn hs).mono ?_
  rintro e w1 ⟨mb, rfl, hmb, hbk, hb1⟩
  have HBD := Lib.hid hbk
  have hzw := HQ.out.lt
  clear hbk
  have HE := Lib.hid (HE.out.trans (hb1.mono HE.out.size))
  have HR := Lib.hid (HR.out.below hb1 HR.out.lt)
  have HQ := Lib.hid (HQ.out.below hb1 HQ.out.lt)
  have hzq := HQ.out.lt
  clear hb1
  have c0 := HQ.out.cell 0 (v := .slice none 0 0) rfl
  have c1 := HQ.out.cell 1 (v := .slice none 0 0) rfl
  have c2 := HQ.out.cell 2 (v := .map none) rfl
  have c3 := HQ.out.cell 3 (v := .int .i64 0) rfl
  have c4 := HQ.out.cell 4 (v := .int .i64 0) rfl
  have c5 := HQ.out.cell 5 (v := .int .i64 0) rfl
  have c6 := HQ.out.cell 6 (v := .int .i64 0) rfl
  have f0 := HQ.out.free 0
  have f1 := HQ.out.free 1
  have f2 := HQ.out.free 2
  have f3 := HQ.out.free 3
  have f4 := HQ.out.free 4
  have f5 := HQ.out.free 5
  have f6 := HQ.out.free 6
  have g1 := HR.out.cell 1 (v := .slice pf ms.length cf) rfl
  have hzr := HR.out.lt
  go_wp2_with fail
  clear c0 c1 c2 c3 c4 c5 c6 f0 f1 f2 f3 f4 f5 f6 g1
  have q := (pas_sets HQ.out (pasA pp ps.length cp pf ms.length cf mb l) rfl).alloc (.cells (pasA pp ps.length cp pf ms.length cf mb l) 130)
  have e0 := q.cell 0 (v := .slice pp ps.length cp) rfl
  have e1 := q.cell 1 (v := .slice pf ms.length cf) rfl
  have e2 := q.cell 2 (v := .map (some mb)) rfl
  have e3 := q.cell 3 (v := .int .i64 (at0 l 0)) rfl
  have e4 := q.cell 4 (v := .int .i64 (at0 l 1)) rfl
  have e5 := q.cell 5 (v := .int .i64 (at0 l 2)) rfl
  have e6 := q.cell 6 (v := .int .i64 (at0 l 3)) rfl
  have fb := ((((((((FromB.refl (w.heap.size + 1) w1).set 0 (.slice pp ps.length cp)).set 1 (.slice pf ms.length cf)).set 2 (.map (some mb))).set 3 (.int .i64 (at0 l 0))).set 4 (.int .i64 (at0 l 1))).set 5 (.int .i64 (at0 l 2))).set 6 (.int .i64 (at0 l 3))).alloc (.cells (pasA pp ps.length cp pf ms.length cf mb l) 130)
  have bb := fb.k.below (n := w.heap.size) (by omega) (fun k hk e => by omega)
  have hbel := HE.out.trans bb
  have hbk := bkd_fromB HBK.out HBD.out.d hbel fb (by omega)
  refine bodyPost_ret (v := .tuple #[.agg (pasA pp ps.length cp pf ms.length cf mb l), .int .i64 0]) (by simp [results, Try.results78, go_sem, e0, e1, e2, e3, e4, e5, e6]) rfl ?_
  exact ⟨mb, rfl, by omega, hbk, hbel⟩

end Go.Proofs.Yticfcdbfplfmlaa.Tu
