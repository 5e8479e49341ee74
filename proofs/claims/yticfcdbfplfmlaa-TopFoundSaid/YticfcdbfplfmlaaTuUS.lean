/- The walks of layer 3: the calls of the package. -/
import Derived.Test.YticfcdbfplfmlaaTuUR
namespace Go.Proofs.Yticfcdbfplfmlaa.Tu
open Go.RowKit Go.Maps
attribute [local go_sem] Oper.semAt_some

theorem setE_bad {ps : List Pt} {fs : List Fr} (h : bookB ps fs = false) (l : List Int) : setE ps fs l = 30 := by simp [setE, h]
theorem setE_no {ps : List Pt} {fs : List Fr} (h : bookB ps fs = true) {l : List Int} (hs : isSetB ps.length l = false) : setE ps fs l = 31 := by simp [setE, h, hs]
theorem setE_yes {ps : List Pt} {fs : List Fr} (h : bookB ps fs = true) {l : List Int} (hs : isSetB ps.length l = true) : setE ps fs l = 0 := by simp [setE, h, hs]
theorem frameE_bad {ps : List Pt} {fs : List Fr} (h : bookB ps fs = false) (l : List Int) (f : Int) : frameE ps fs l f = 30 := by simp [frameE, setE, h]
theorem frameE_no {ps : List Pt} {fs : List Fr} (h : bookB ps fs = true) {l : List Int} (hs : isSetB ps.length l = false) (f : Int) : frameE ps fs l f = 31 := by simp [frameE, setE, h, hs]
theorem frameE_fr {ps : List Pt} {ms : List FrM} (h : bookB ps (frsM ms) = true) {l : List Int} (hs : isSetB ps.length l = true) {f : Int} (hf : ¬ (0 ≤ f ∧ f < ms.length)) : frameE ps (frsM ms) l f = 31 := by
  simp only [frameE, setE_yes h hs, if_true, frsM_length, if_neg hf]
theorem frameE_yes {ps : List Pt} {ms : List FrM} (h : bookB ps (frsM ms) = true) {l : List Int} (hs : isSetB ps.length l = true) {f : Int} (h0 : 0 ≤ f) (h1 : f < ms.length) : frameE ps (frsM ms) l f = 0 := by
  simp only [frameE, setE_yes h hs, if_true, frsM_length, if_pos (And.intro h0 h1)]
/-- What the calls return, in plain data. -/
def heatV (ps : List Pt) (fs : List Fr) (l : List Int) : Int := if setE ps fs l = 0 then heatD ps l else 0
def goodV (ps : List Pt) (fs : List Fr) (l : List Int) : List Int := if setE ps fs l = 0 then goodD ps fs l else []
def stayF (fs : List Fr) (f : Int) : Fr := fs.getD f.toNat ⟨[], 0, 0⟩
def loV (ps : List Pt) (fs : List Fr) (l : List Int) (f : Int) : Int := if frameE ps fs l f = 0 then dryD Pt.hi ps l (stayF fs f).stay else 0
def hiV (ps : List Pt) (fs : List Fr) (l : List Int) (f : Int) : Int := if frameE ps fs l f = 0 then dryD Pt.lo ps l (stayF fs f).stay else 0
def kindV (ps : List Pt) (fs : List Fr) (l : List Int) (f : Int) : Int := if frameE ps fs l f = 0 then kindD ps l (stayF fs f) else 0
theorem stayF_at {ms : List FrM} {n : Nat} (h : n < ms.length) : stayF (frsM ms) (n : Int) = ms[n].f := by simp [stayF, frsM, h]
/-- The call returned a list, and an error. -/
def GaveListE (xs : List Int) (er : Int) (w : World) (e : Ending) (w' : World) : Prop := ∃ p c, e = .returned (.tuple #[.slice p xs.length c, .int .i64 er]) ∧ IntsAt w' p xs ∧ Below w.heap.size w w'
theorem nil_list (er : Int) (w w' : World) (hb : Below w.heap.size w w') : GaveListE [] er w (.returned (.tuple #[.slice none 0 0, .int .i64 er])) w' := ⟨none, 0, rfl, fun i hi => by simp at hi, hb⟩

set_option maxRecDepth 10000 in
set_option maxHeartbeats 1600000 in
theorem Heat_any (pp : Option Addr) (cp : Nat) (pf : Option Addr) (cf : Nat) (ps : List Pt) (ms : List FrM) (w : World) (hB : BkAt w pp pf ps ms) (q : Option Addr) (c : Nat) (l : List Int) (hl : IntsAt w q l) (hn : l.length < 2 ^ 62) : Calls Try.prog 25 #[.agg #[.slice pp ps.length cp, .slice pf ms.length cf], .slice q l.length c] w fun e w' => e = .returned (.tuple #[.int .i64 (heatV ps (frsM ms) l), .int .i64 (setE ps (frsM ms) l)]) ∧ Below w.heap.size w w' := by
  have hE := below_alloc w (.cells #[.slice pp ps.length cp, .slice pf ms.length cf] 54)
  have HB := Lib.hid (hB.below hE)
  have HE := Lib.hid hE
  have HR := Lib.hid (Row.new w #[.slice pp ps.length cp, .slice pf ms.length cf] 54)
  have HL := Lib.hid (hl.below hE)
  clear hE hl
  cases hb : bookB ps (frsM ms)
  · rw [heatV, setE_bad hb, if_neg (by decide)]
    go_enter Try.func25, Try.ntmps25
    go_wp2_with fail
    refine (enter_bad pp cp pf cf ps ms q c l _ HB.out hb).mono ?_
    rintro e w1 ⟨rfl, hb1⟩
    have HE := Lib.hid (HE.out.trans (hb1.mono HE.out.size))
    have HR := Lib.hid (HR.out.below hb1 HR.out.lt)
    clear hb1
    go_wp2_with fail
    go_ret2
    exact ⟨rfl, HE.out.alloc HE.out.size _⟩
  · cases hs : isSetB ps.length l
    · rw [heatV, setE_no hb hs, if_neg (by decide)]
      go_enter Try.func25, Try.ntmps25
      go_wp2_with fail
      refine (enter_no pp cp pf cf ps ms q c l _ HB.out hb HL.out hn hs).mono ?_
      rintro e w1 ⟨rfl, hb1⟩
      have HE := Lib.hid (HE.out.trans (hb1.mono HE.out.size))
      have HR := Lib.hid (HR.out.below hb1 HR.out.lt)
      clear hb1
      go_wp2_with fail
      go_ret2
      exact ⟨rfl, HE.out.alloc HE.out.size _⟩
    · rw [heatV, setE_yes hb hs, if_pos rfl]
      have hok := (isSet_ok hs (bookB_iff.1 hb).p4).2.1
      go_enter Try.func25, Try.ntmps25
      go_wp2_with fail
      refine (enter_yes pp cp pf cf ps ms q c l _ HB.out hb HL.out hn hs).mono ?_
      rintro e w1 ⟨mb, rfl, hmb, hbk, hb1⟩
      have HE := Lib.hid (HE.out.trans (hb1.mono HE.out.size))
      have HR := Lib.hid (HR.out.below hb1 HR.out.lt)
      clear hb1
      have BK := Lib.hid (hbk.below (below_alloc w1 (.cells (pasA pp ps.length cp pf ms.length cf mb l) 130)))
      have HEA := Lib.hid (HE.out.alloc HE.out.size (.cells (pasA pp ps.length cp pf ms.length cf mb l) 130))
      have HRA := Lib.hid (HR.out.alloc (.cells (pasA pp ps.length cp pf ms.length cf mb l) 130))
      clear hbk
      go_wp2_with fail
      refine (heat_any _ _ _ _ _ _ _ _ _ BK.out.b.p BK.out.b.ok.p BK.out.b.n4 hok).mono ?_
      rintro e w2 ⟨rfl, hb2⟩
      have HEA := Lib.hid (HEA.out.trans (hb2.mono HEA.out.size))
      clear hb2
      go_wp2_with fail
      go_ret2
      exact ⟨rfl, HEA.out⟩

set_option maxRecDepth 10000 in
set_option maxHeartbeats 1600000 in
theorem Good_any (pp : Option Addr) (cp : Nat) (pf : Option Addr) (cf : Nat) (ps : List Pt) (ms : List FrM) (w : World) (hB : BkAt w pp pf ps ms) (q : Option Addr) (c : Nat) (l : List Int) (hl : IntsAt w q l) (hn : l.length < 2 ^ 62) : Calls Try.prog 28 #[.agg #[.slice pp ps.length cp, .slice pf ms.length cf], .slice q l.length c] w (GaveListE (goodV ps (frsM ms) l) (setE ps (frsM ms) l) w) := by
  have hE := below_alloc w (.cells #[.slice pp ps.length cp, .slice pf ms.length cf] 54)
  have HB := Lib.hid (hB.below hE)
  have HE := Lib.hid hE
  have HR := Lib.hid (Row.new w #[.slice pp ps.length cp, .slice pf ms.length cf] 54)
  have HL := Lib.hid (hl.below hE)
  clear hE hl
  cases hb : bookB ps (frsM ms)
  · rw [goodV, setE_bad hb, if_neg (by decide)]
    go_enter Try.func28, Try.ntmps28
    go_wp2_with fail
    refine (enter_bad pp cp pf cf ps ms q c l _ HB.out hb).mono ?_
    rintro e w1 ⟨rfl, hb1⟩
    have HE := Lib.hid (HE.out.trans (hb1.mono HE.out.size))
    have HR := Lib.hid (HR.out.below hb1 HR.out.lt)
    clear hb1
    go_wp2_with fail
    go_ret2
    exact nil_list _ _ _ (HE.out.alloc HE.out.size _)
  · cases hs : isSetB ps.length l
    · rw [goodV, setE_no hb hs, if_neg (by decide)]
      go_enter Try.func28, Try.ntmps28
      go_wp2_with fail
      refine (enter_no pp cp pf cf ps ms q c l _ HB.out hb HL.out hn hs).mono ?_
      rintro e w1 ⟨rfl, hb1⟩
      have HE := Lib.hid (HE.out.trans (hb1.mono HE.out.size))
      have HR := Lib.hid (HR.out.below hb1 HR.out.lt)
      clear hb1
      go_wp2_with fail
      go_ret2
      exact nil_list _ _ _ (HE.out.alloc HE.out.size _)
    · rw [goodV, setE_yes hb hs, if_pos rfl]
      have hok := (isSet_ok hs (bookB_iff.1 hb).p4).2.1
      have HSL := Lib.hid (isSet_ok hs (bookB_iff.1 hb).p4).1
      have HGE := Lib.hid (good_eq ps ms l)
      go_enter Try.func28, Try.ntmps28
      go_wp2_with fail
      refine (enter_yes pp cp pf cf ps ms q c l _ HB.out hb HL.out hn hs).mono ?_
      rintro e w1 ⟨mb, rfl, hmb, hbk, hb1⟩
      have HE := Lib.hid (HE.out.trans (hb1.mono HE.out.size))
      have HR := Lib.hid (HR.out.below hb1 HR.out.lt)
      clear hb1
      have BK := Lib.hid (hbk.below (below_alloc w1 (.cells (pasA pp ps.length cp pf ms.length cf mb l) 130)))
      have HEA := Lib.hid (HE.out.alloc HE.out.size (.cells (pasA pp ps.length cp pf ms.length cf mb l) 130))
      have HRA := Lib.hid (HR.out.alloc (.cells (pasA pp ps.length cp pf ms.length cf mb l) 130))
      clear hbk
      go_wp2_with fail
      refine (frames_dry pp cp pf cf mb 0 l hok ps ms _ BK.out (by omega) HSL.out).mono ?_
      rintro e w2 ⟨p, cc, rfl, hi, _, hr2⟩
      have HI := Lib.hid hi
      have hzz := HE.out.size
      have hz0 : w.heap.size < (w.alloc (.cells #[.slice pp ps.length cp, .slice pf ms.length cf] 54)).heap.size := by simp
      have HEB := Lib.hid (hr2.base HEA.out (by omega) HEA.out.size)
      clear hr2 hi
      rw [HGE.out] at *
      go_wp2_with fail
      go_ret2
      exact ⟨p, cc, rfl, HI.out, HEB.out⟩

set_option maxRecDepth 10000 in
set_option maxHeartbeats 1600000 in
theorem Kind_any (pp : Option Addr) (cp : Nat) (pf : Option Addr) (cf : Nat) (ps : List Pt) (ms : List FrM) (w : World) (hB : BkAt w pp pf ps ms) (q : Option Addr) (c : Nat) (l : List Int) (hl : IntsAt w q l) (hn : l.length < 2 ^ 62) (f : Int) : Calls Try.prog 27 #[.agg #[.slice pp ps.length cp, .slice pf ms.length cf], .slice q l.length c, .int .i64 f] w fun e w' => e = .returned (.tuple #[.int .i64 (kindV ps (frsM ms) l f), .int .i64 (frameE ps (frsM ms) l f)]) ∧ Below w.heap.size w w' := by
  have hE := below_alloc w (.cells #[.slice pp ps.length cp, .slice pf ms.length cf] 54)
  have HB := Lib.hid (hB.below hE)
  have HE := Lib.hid hE
  have HR := Lib.hid (Row.new w #[.slice pp ps.length cp, .slice pf ms.length cf] 54)
  have HL := Lib.hid (hl.below hE)
  clear hE hl
  cases hb : bookB ps (frsM ms)
  · simp only [kindV, frameE_bad hb l f, if_neg (show ¬ ((30 : Int) = 0) by decide)]
    go_enter Try.func27, Try.ntmps27
    go_wp2_with fail
    refine (follow_bad pp cp pf cf ps ms q c l f _ HB.out HL.out hn hb).mono ?_
    rintro e w1 ⟨rfl, hb1⟩
    have HE := Lib.hid (HE.out.trans (hb1.mono HE.out.size))
    have HR := Lib.hid (HR.out.below hb1 HR.out.lt)
    clear hb1
    go_wp2_with fail
    go_ret2
    exact ⟨rfl, HE.out.alloc HE.out.size _⟩
  · cases hs : isSetB ps.length l
    · simp only [kindV, frameE_no hb hs f, if_neg (show ¬ ((31 : Int) = 0) by decide)]
      go_enter Try.func27, Try.ntmps27
      go_wp2_with fail
      refine (follow_no pp cp pf cf ps ms q c l f _ HB.out HL.out hn hb hs).mono ?_
      rintro e w1 ⟨rfl, hb1⟩
      have HE := Lib.hid (HE.out.trans (hb1.mono HE.out.size))
      have HR := Lib.hid (HR.out.below hb1 HR.out.lt)
      clear hb1
      go_wp2_with fail
      go_ret2
      exact ⟨rfl, HE.out.alloc HE.out.size _⟩
    · by_cases hf : 0 ≤ f ∧ f < ms.length
      · obtain ⟨hf0, hf1⟩ := hf
        simp only [kindV, frameE_yes hb hs hf0 hf1, if_true]
        obtain ⟨n, rfl⟩ := Int.eq_ofNat_of_zero_le hf0
        have hn2 : n < ms.length := by omega
        simp only [stayF_at hn2]
        have hok := (isSet_ok hs (bookB_iff.1 hb).p4).2.1
        go_enter Try.func27, Try.ntmps27
        go_wp2_with fail
        refine (follow_yes pp cp pf cf ps ms q c l n _ HB.out HL.out hn hb hs (by omega) (by omega)).mono ?_
        rintro e w1 ⟨mb, rfl, hmb, hbk, hb1⟩
        have HE := Lib.hid (HE.out.trans (hb1.mono HE.out.size))
        have HR := Lib.hid (HR.out.below hb1 HR.out.lt)
        clear hb1
        have BK := Lib.hid (hbk.below (below_alloc w1 (.cells (pasA pp ps.length cp pf ms.length cf mb l) 130)))
        have HEA := Lib.hid (HE.out.alloc HE.out.size (.cells (pasA pp ps.length cp pf ms.length cf mb l) 130))
        have HRA := Lib.hid (HR.out.alloc (.cells (pasA pp ps.length cp pf ms.length cf mb l) 130))
        clear hbk
        go_wp2_with fail
        refine (kind_any _ _ _ _ _ _ _ _ _ BK.out.b hok n hn2).mono ?_
        rintro e w2 ⟨rfl, hb2⟩
        have HEA := Lib.hid (HEA.out.trans (hb2.mono HEA.out.size))
        clear hb2
        go_wp2_with fail
        go_ret2
        exact ⟨rfl, HEA.out⟩
      · simp only [kindV, frameE_fr hb hs hf, if_neg (show ¬ ((31 : Int) = 0) by decide)]
        go_enter Try.func27, Try.ntmps27
        go_wp2_with fail
        refine (follow_frame pp cp pf cf ps ms q c l f _ HB.out HL.out hn hb hs hf).mono ?_
        rintro e w1 ⟨rfl, hb1⟩
        have HE := Lib.hid (HE.out.trans (hb1.mono HE.out.size))
        have HR := Lib.hid (HR.out.below hb1 HR.out.lt)
        clear hb1
        go_wp2_with fail
        go_ret2
        exact ⟨rfl, HE.out.alloc HE.out.size _⟩

end Go.Proofs.Yticfcdbfplfmlaa.Tu
