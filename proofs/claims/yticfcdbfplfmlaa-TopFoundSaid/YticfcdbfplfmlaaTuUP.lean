/- The walks of layer 3: what a setting does, if the book and the setting are right. -/
import Derived.Test.YticfcdbfplfmlaaTuUO
namespace Go.Proofs.Yticfcdbfplfmlaa.Tu
open Go.RowKit Go.Maps
attribute [local go_sem] Oper.semAt_some

/-- The error of a book and a setting; of a frame, too. -/
def setE (ps : List Pt) (fs : List Fr) (l : List Int) : Int := if bookB ps fs then (if isSetB ps.length l then 0 else 31) else 30
def frameE (ps : List Pt) (fs : List Fr) (l : List Int) (f : Int) : Int := if setE ps fs l = 0 then (if 0 ≤ f ∧ f < fs.length then 0 else 31) else setE ps fs l
abbrev noPas : Array Value := #[.slice none 0 0, .slice none 0 0, .map none, .int .i64 0, .int .i64 0, .int .i64 0, .int .i64 0]
theorem bk_of {w : World} {pp pf : Option Addr} {ps : List Pt} {ms : List FrM} (h : BkAt w pp pf ps ms) (hb : bookB ps (frsM ms) = true) : Bk w pp pf ps ms := ⟨h.p, h.f, bookB_iff.1 hb⟩
theorem frsM_len {_ps : List Pt} {ms : List FrM} : (frsM ms).length = ms.length := frsM_length ms
/-- The call returned a passage, with a new map. -/
def GavePas (pp : Option Addr) (cp : Nat) (pf : Option Addr) (cf : Nat) (ps : List Pt) (ms : List FrM) (s : List Int) (w : World) (e : Ending) (w' : World) : Prop :=
  ∃ mb, e = .returned (.tuple #[.agg (pasA pp ps.length cp pf ms.length cf mb s), .int .i64 0]) ∧ w.heap.size ≤ mb ∧ BkD w' pp pf ps ms mb 0 ∧ Below w.heap.size w w'

theorem pas_sets {W : World} {b : Nat} {t : TypeId} {pp : Option Addr} {np cp : Nat} {pf : Option Addr} {nf cf mb : Nat} {l : List Int} (h : Row W b noPas t) (A : Array Value) (hA : A = pasA pp np cp pf nf cf mb l) :
    Row (((((((W.setCell ⟨b, 0, none⟩ (.slice pp np cp)).setCell ⟨b, 1, none⟩ (.slice pf nf cf)).setCell ⟨b, 2, none⟩ (.map (some mb))).setCell ⟨b, 3, none⟩ (.int .i64 (at0 l 0))).setCell ⟨b, 4, none⟩ (.int .i64 (at0 l 1))).setCell ⟨b, 5, none⟩ (.int .i64 (at0 l 2))).setCell ⟨b, 6, none⟩ (.int .i64 (at0 l 3))) b A t := by
  subst hA
  have e := ((((((h.set 0 (.slice pp np cp)).set 1 (.slice pf nf cf)).set 2 (.map (some mb))).set 3 (.int .i64 (at0 l 0))).set 4 (.int .i64 (at0 l 1))).set 5 (.int .i64 (at0 l 2))).set 6 (.int .i64 (at0 l 3))
  simpa using e
theorem bkd_fromB {w w' : World} {pp pf : Option Addr} {ps : List Pt} {ms : List FrM} {mb n b : Nat} {w0 : World} (h0 : Bk w0 pp pf ps ms) (hd : DriedAt w mb n ps.length (dryI ps (frsM ms))) (hb : Below w0.heap.size w0 w') (k : FromB b w w') (hne : mb ≠ b) : BkD w' pp pf ps ms mb n :=
  ⟨h0.below hb, hd.of_same (k.k.block _ hd.lt hne)⟩
set_option maxRecDepth 10000 in
set_option maxHeartbeats 1600000 in
theorem enter_bad (pp : Option Addr) (cp : Nat) (pf : Option Addr) (cf : Nat) (ps : List Pt) (ms : List FrM) (q : Option Addr) (c : Nat) (l : List Int) (w : World) (hB : BkAt w pp pf ps ms) (hb : bookB ps (frsM ms) = false) :
    Calls Try.prog 76 #[.agg #[.slice pp ps.length cp, .slice pf ms.length cf], .slice q l.length c] w fun e w' => e = .returned (.tuple #[.agg noPas, .int .i64 30]) ∧ Below w.heap.size w w' := by
  have hE := below_alloc2 w (.cells #[.slice pp ps.length cp, .slice pf ms.length cf] 54) (.cells noPas 130)
  have HB := Lib.hid (hB.below hE)
  have HB0 := Lib.hid hB
  have HE := Lib.hid hE
  have HR := Lib.hid ((Row.new w #[.slice pp ps.length cp, .slice pf ms.length cf] 54).alloc (.cells noPas 130))
  have HQ := Lib.hid (Row.new1 w (.cells #[.slice pp ps.length cp, .slice pf ms.length cf] 54) noPas 130)
  have HV := Lib.hid (show bookE ps (frsM ms) = 30 by simp [bookE, hb])
  clear hE hB hb
  go_enter Try.func76, Try.ntmps76
  go_wp2_with fail
  refine (Check_any pp cp pf cf ps ms _ HB.out).mono ?_
  rintro e w1 ⟨rfl, hb1⟩
  rw [HV.out]
  have hz0 := HE.out.size
  have HE := Lib.hid (HE.out.trans (hb1.mono hz0))
  have HR := Lib.hid (HR.out.below hb1 HR.out.lt)
  have HQ := Lib.hid (HQ.out.below hb1 HQ.out.lt)
  have hzq := HQ.out.lt
  clear hb1
  have c0 := HQ.out.cell 0 (v := .slice none 0 0) rfl
  have c1 := HQ.out.cell 1 (v := .slice none 0 0) rfl
  have c2 := HQ.out.cell 2 (v := .map none) rfl
  have c3 := HQ.out.cell 3 (v := .int .i64 0) rfl
  have c4 := HQ.out.cell 4 (v := .int .i64 0) rfl
  have c5 := HQ.out.cell 5 (v := .int .i64 0) rfl
  have c6 := HQ.out.cell 6 (v := .int .i64 0) rfl
  have f0 := HQ.out.free 0
  have f1 := HQ.out.free 1
  have f2 := HQ.out.free 2
  have f3 := HQ.out.free 3
  have f4 := HQ.out.free 4
  have f5 := HQ.out.free 5
  have f6 := HQ.out.free 6
  go_wp2_with fail
  clear c0 c1 c2 c3 c4 c5 c6 f0 f1 f2 f3 f4 f5 f6
  have q := (((((((HQ.out.set 0 (.slice none 0 0)).set 1 (.slice none 0 0)).set 2 (.map none)).set 3 (.int .i64 0)).set 4 (.int .i64 0)).set 5 (.int .i64 0)).set 6 (.int .i64 0))
  have e0 := q.cell 0 (v := .slice none 0 0) rfl
  have e1 := q.cell 1 (v := .slice none 0 0) rfl
  have e2 := q.cell 2 (v := .map none) rfl
  have e3 := q.cell 3 (v := .int .i64 0) rfl
  have e4 := q.cell 4 (v := .int .i64 0) rfl
  have e5 := q.cell 5 (v := .int .i64 0) rfl
  have e6 := q.cell 6 (v := .int .i64 0) rfl
  exact bodyPost_ret (v := .tuple #[.agg noPas, .int .i64 30]) (by simp [results, Try.results76, go_sem, e0, e1, e2, e3, e4, e5, e6]) rfl
    ⟨rfl, (((((((HE.out.setCell (by dsimp only; omega) _).setCell (by dsimp only; omega) _).setCell (by dsimp only; omega) _).setCell (by dsimp only; omega) _).setCell (by dsimp only; omega) _).setCell (by dsimp only; omega) _).setCell (by dsimp only; omega) _)⟩

set_option maxRecDepth 10000 in
set_option maxHeartbeats 1600000 in
theorem enter_no (pp : Option Addr) (cp : Nat) (pf : Option Addr) (cf : Nat) (ps : List Pt) (ms : List FrM) (q : Option Addr) (c : Nat) (l : List Int) (w : World) (hB : BkAt w pp pf ps ms) (hb : bookB ps (frsM ms) = true) (hl : IntsAt w q l) (hn : l.length < 2 ^ 62) (hs : isSetB ps.length l = false) :
    Calls Try.prog 76 #[.agg #[.slice pp ps.length cp, .slice pf ms.length cf], .slice q l.length c] w fun e w' => e = .returned (.tuple #[.agg noPas, .int .i64 31]) ∧ Below w.heap.size w w' := by
  have hE := below_alloc2 w (.cells #[.slice pp ps.length cp, .slice pf ms.length cf] 54) (.cells noPas 130)
  have HB := Lib.hid (hB.below hE)
  have HB0 := Lib.hid hB
  have HE := Lib.hid hE
  have HR := Lib.hid ((Row.new w #[.slice pp ps.length cp, .slice pf ms.length cf] 54).alloc (.cells noPas 130))
  have HQ := Lib.hid (Row.new1 w (.cells #[.slice pp ps.length cp, .slice pf ms.length cf] 54) noPas 130)
  have h4 := (bookB_iff.1 hb).p4
  have HV := Lib.hid (show bookE ps (frsM ms) = 0 by simp [bookE, hb])
  have HS := Lib.hid hs
  have HL := Lib.hid hl
  clear hE hB hb hs hl
  go_enter Try.func76, Try.ntmps76
  go_wp2_with fail
  refine (Check_any pp cp pf cf ps ms _ HB.out).mono ?_
  rintro e w1 ⟨rfl, hb1⟩
  rw [HV.out]
  have hz0 := HE.out.size
  have HE := Lib.hid (HE.out.trans (hb1.mono hz0))
  have HR := Lib.hid (HR.out.below hb1 HR.out.lt)
  have HQ := Lib.hid (HQ.out.below hb1 HQ.out.lt)
  have hzq := HQ.out.lt
  clear hb1
  have r0 := HR.out.cell 0 (v := .slice pp ps.length cp) rfl
  go_wp2_with fail
  refine (read_any q c l ps.length w1 (HL.out.below HE.out) h4 hn).mono ?_
  rintro e w2 ⟨rfl, hb2⟩
  rw [HS.out, readS, HS.out]
  have HE := Lib.hid (HE.out.trans (hb2.mono HE.out.size))
  have HR := Lib.hid (HR.out.below hb2 HR.out.lt)
  have HQ := Lib.hid (HQ.out.below hb2 HQ.out.lt)
  have hzq := HQ.out.lt
  clear hb2 r0
  have c0 := HQ.out.cell 0 (v := .slice none 0 0) rfl
  have c1 := HQ.out.cell 1 (v := .slice none 0 0) rfl
  have c2 := HQ.out.cell 2 (v := .map none) rfl
  have c3 := HQ.out.cell 3 (v := .int .i64 0) rfl
  have c4 := HQ.out.cell 4 (v := .int .i64 0) rfl
  have c5 := HQ.out.cell 5 (v := .int .i64 0) rfl
  have c6 := HQ.out.cell 6 (v := .int .i64 0) rfl
  have f0 := HQ.out.free 0
  have f1 := HQ.out.free 1
  have f2 := HQ.out.free 2
  have f3 := HQ.out.free 3
  have f4 := HQ.out.free 4
  have f5 := HQ.out.free 5
  have f6 := HQ.out.free 6
  go_wp2_with fail
  clear c0 c1 c2 c3 c4 c5 c6 f0 f1 f2 f3 f4 f5 f6
  have q := (((((((HQ.out.set 0 (.slice none 0 0)).set 1 (.slice none 0 0)).set 2 (.map none)).set 3 (.int .i64 0)).set 4 (.int .i64 0)).set 5 (.int .i64 0)).set 6 (.int .i64 0)).alloc (.cells (setA []) 128)
  have e0 := q.cell 0 (v := .slice none 0 0) rfl
  have e1 := q.cell 1 (v := .slice none 0 0) rfl
  have e2 := q.cell 2 (v := .map none) rfl
  have e3 := q.cell 3 (v := .int .i64 0) rfl
  have e4 := q.cell 4 (v := .int .i64 0) rfl
  have e5 := q.cell 5 (v := .int .i64 0) rfl
  have e6 := q.cell 6 (v := .int .i64 0) rfl
  exact bodyPost_ret (v := .tuple #[.agg noPas, .int .i64 31]) (by simp [results, Try.results76, go_sem, e0, e1, e2, e3, e4, e5, e6]) rfl
    ⟨rfl, (((((((HE.out.setCell (by dsimp only; omega) _).setCell (by dsimp only; omega) _).setCell (by dsimp only; omega) _).setCell (by dsimp only; omega) _).setCell (by dsimp only; omega) _).setCell (by dsimp only; omega) _).setCell (by dsimp only; omega) _).alloc (by have := HE.out.size; simp; omega) _⟩
set_option maxRecDepth 10000 in
set_option maxHeartbeats 1600000 in
theorem enter_yes (pp : Option Addr) (cp : Nat) (pf : Option Addr) (cf : Nat) (ps : List Pt) (ms : List FrM) (q : Option Addr) (c : Nat) (l : List Int) (w : World) (hB : BkAt w pp pf ps ms) (hb : bookB ps (frsM ms) = true) (hl : IntsAt w q l) (hn : l.length < 2 ^ 62) (hs : isSetB ps.length l = true) :
    Calls Try.prog 76 #[.agg #[.slice pp ps.length cp, .slice pf ms.length cf], .slice q l.length c] w (GavePas pp cp pf cf ps ms l w) := by
  have hE := below_alloc2 w (.cells #[.slice pp ps.length cp, .slice pf ms.length cf] 54) (.cells noPas 130)
  have HB := Lib.hid (hB.below hE)
  have HB0 := Lib.hid hB
  have HE := Lib.hid hE
  have HR := Lib.hid ((Row.new w #[.slice pp ps.length cp, .slice pf ms.length cf] 54).alloc (.cells noPas 130))
  have HQ := Lib.hid (Row.new1 w (.cells #[.slice pp ps.length cp, .slice pf ms.length cf] 54) noPas 130)
  have h4 := (bookB_iff.1 hb).p4
  have HV := Lib.hid (show bookE ps (frsM ms) = 0 by simp [bookE, hb])
  have HBK := Lib.hid (bk_of hB hb)
  have HS := Lib.hid hs
  have HL := Lib.hid hl
  clear hE hB hb hs hl
  go_enter Try.func76, Try.ntmps76
  go_wp2_with fail
  refine (Check_any pp cp pf cf ps ms _ HB.out).mono ?_
  rintro e w1 ⟨rfl, hb1⟩
  rw [HV.out]
  have hz0 := HE.out.size
  have HE := Lib.hid (HE.out.trans (hb1.mono hz0))
  have HR := Lib.hid (HR.out.below hb1 HR.out.lt)
  have HQ := Lib.hid (HQ.out.below hb1 HQ.out.lt)
  have hzq := HQ.out.lt
  clear hb1
  have r0 := HR.out.cell 0 (v := .slice pp ps.length cp) rfl
  go_wp2_with fail
  refine (read_any q c l ps.length w1 (HL.out.below HE.out) h4 hn).mono ?_
  rintro e w2 ⟨rfl, hb2⟩
  rw [HS.out, readS, HS.out]
  have HE := Lib.hid (HE.out.trans (hb2.mono HE.out.size))
  have HR := Lib.hid (HR.out.below hb2 HR.out.lt)
  have HQ := Lib.hid (HQ.out.below hb2 HQ.out.lt)
  have hzq := HQ.out.lt
  clear hb2 r0
  have HA := Lib.hid (Row.new w2 (setA l) 128)
  have hA := below_alloc w2 (.cells (setA l) 128)
  have HE := Lib.hid (HE.out.trans (hA.mono HE.out.size))
  have HR := Lib.hid (HR.out.below hA HR.out.lt)
  have HQ := Lib.hid (HQ.out.below hA HQ.out.lt)
  clear hA
  go_wp2_with fail
  change Code.wp _ _ _ _ (w2.alloc (.cells (setA l) 128))
  generalize w2.alloc (.cells (setA l) 128) = W1 at *
  have hS : ∀ w', FromB (w.heap.size + 1) W1 w' → (w'.cell? ⟨w.heap.size, 0, none⟩ = some (.slice pp ps.length cp) ∧ w'.cell? ⟨w.heap.size, 1, none⟩ = some (.slice pf ms.length cf) ∧ w'.cell? ⟨w2.heap.size, 0, none⟩ = some (.int .i64 (at0 l 0)) ∧ w'.cell? ⟨w2.heap.size, 1, none⟩ = some (.int .i64 (at0 l 1)) ∧ w'.cell? ⟨w2.heap.size, 2, none⟩ = some (.int .i64 (at0 l 2)) ∧ w'.cell? ⟨w2.heap.size, 3, none⟩ = some (.int .i64 (at0 l 3))) :=
    fun w' k => ⟨(k.row HR.out (by omega)).cell 0 rfl, (k.row HR.out (by omega)).cell 1 rfl, (k.row HA.out (by omega)).cell 0 rfl, (k.row HA.out (by omega)).cell 1 rfl, (k.row HA.out (by omega)).cell 2 rfl, (k.row HA.out (by omega)).cell 3 rfl⟩
  have HSS := Lib.hid hS
  have hzW := HQ.out.lt
  have KI := Lib.hid (From.refl W1)
  have KB := Lib.hid (FromB.refl (w.heap.size + 1) W1)
  have HBW := Lib.hid (HBK.out.below HE.out)
  clear hS
  go_region_held3 (fun w' => w'.cell? ⟨w.heap.size, 0, none⟩ = some (.slice pp ps.length cp) ∧ w'.cell? ⟨w.heap.size, 1, none⟩ = some (.slice pf ms.length cf) ∧ w'.cell? ⟨w2.heap.size, 0, none⟩ = some (.int .i64 (at0 l 0)) ∧ w'.cell? ⟨w2.heap.size, 1, none⟩ = some (.int .i64 (at0 l 1)) ∧ w'.cell? ⟨w2.heap.size, 2, none⟩ = some (.int .i64 (at0 l 2)) ∧ w'.cell? ⟨w2.heap.size, 3, none⟩ = some (.int .i64 (at0 l 3))) (first | with_reducible exact HSS.out _ KB.out | with_reducible exact HSS.out _ KB.out.drew | with_reducible exact HSS.out _ (((((((KB.out.set _ _).set _ _).set _ _).set _ _).set _ _).set _ _).set _ _))
    (first
      | (go_at_call 83; (with_reducible refine (open_any _ _ _ _ _ _ _ (by first | with_reducible exact KI.out.bk HBW.out | with_reducible exact KI.out.drew.bk HBW.out)).mono ?_); rintro e u ⟨mb, rfl, hmb, hbk, hbu⟩; have HMB := Lib.hid (Nat.le_trans KI.out.b.size hmb); have BK := Lib.hid hbk; have KI := Lib.hid (by first | with_reducible exact KI.out.drew.below hbu | with_reducible exact KI.out.below hbu); have KB := Lib.hid (by first | with_reducible exact KB.out.drew.below hbu | with_reducible exact KB.out.below hbu); clear hbu hbk hmb)
      | (go_at_call 120; (with_reducible refine (by_any _ _ _ _ _ _ _ _ _).mono ?_); rintro e u ⟨rfl, hbu⟩; have BK := Lib.hid (BK.out.below hbu); have KI := Lib.hid (by first | with_reducible exact KI.out.drew.below hbu | with_reducible exact KI.out.below hbu); have KB := Lib.hid (by first | with_reducible exact KB.out.drew.below hbu | with_reducible exact KB.out.below hbu); have HQK := Lib.hid (KI.out.row HQ.out); have c0 := HQK.out.cell 0 (v := .slice none 0 0) rfl; have c1 := HQK.out.cell 1 (v := .slice none 0 0) rfl; have c2 := HQK.out.cell 2 (v := .map none) rfl; have c3 := HQK.out.cell 3 (v := .int .i64 0) rfl; have c4 := HQK.out.cell 4 (v := .int .i64 0) rfl; have c5 := HQK.out.cell 5 (v := .int .i64 0) rfl; have c6 := HQK.out.cell 6 (v := .int .i64 0) rfl; have f0 := HQK.out.free 0; have f1 := HQK.out.free 1; have f2 := HQK.out.free 2; have f3 := HQK.out.free 3; have f4 := HQK.out.free 4; have f5 := HQK.out.free 5; have f6 := HQK.out.free 6; clear hbu))
  all_goals
    clear c0 c1 c2 c3 c4 c5 c6 f0 f1 f2 f3 f4 f5 f6
    have hmb := HMB.out
    have hsz := HE.out.size
    go_wp2_with fail
    have q := pas_sets HQK.out (pasA pp ps.length cp pf ms.length cf mb l) rfl
    have e0 := q.cell 0 (v := .slice pp ps.length cp) rfl
    have e1 := q.cell 1 (v := .slice pf ms.length cf) rfl
    have e2 := q.cell 2 (v := .map (some mb)) rfl
    have e3 := q.cell 3 (v := .int .i64 (at0 l 0)) rfl
    have e4 := q.cell 4 (v := .int .i64 (at0 l 1)) rfl
    have e5 := q.cell 5 (v := .int .i64 (at0 l 2)) rfl
    have e6 := q.cell 6 (v := .int .i64 (at0 l 3)) rfl
    have fb := ((((((((FromB.refl (w.heap.size + 1) u).set 0 (.slice pp ps.length cp)).set 1 (.slice pf ms.length cf)).set 2 (.map (some mb))).set 3 (.int .i64 (at0 l 0))).set 4 (.int .i64 (at0 l 1))).set 5 (.int .i64 (at0 l 2))).set 6 (.int .i64 (at0 l 3)))
    have bb := fb.k.below (n := w.heap.size) (by have := KI.out.b.size; omega) (fun k hk e => by omega)
    have hbel := (HE.out.trans (KI.out.b.mono HE.out.size)).trans bb
    have hbk := bkd_fromB HBK.out BK.out.d hbel fb (by omega)
    refine bodyPost_ret (v := .tuple #[.agg (pasA pp ps.length cp pf ms.length cf mb l), .int .i64 0]) (by simp [results, Try.results76, go_sem, e0, e1, e2, e3, e4, e5, e6]) rfl ?_
    exact ⟨mb, rfl, by omega, hbk, hbel⟩
end Go.Proofs.Yticfcdbfplfmlaa.Tu
