/- The walks of layer 3: more calls of the package. -/
import Derived.Test.YtfppcmechfjpoaaURS
namespace Go.Proofs.Ytfppcmechfjpoaa
open Go.RowKit Go.Maps
attribute [local go_sem] Oper.semAt_some

/-- The error of a question how much longer a frame can stay; the answer. -/
def longE (ps : List Pt) (fs : List Fr) (l : List Int) (f k : Int) : Int := if frameE ps fs l f = 0 then (if 0 ≤ k ∧ k < ps.length then (if kindD ps l (stayF fs f) = 0 then 0 else 4) else 31) else frameE ps fs l f
def longV (ps : List Pt) (fs : List Fr) (l : List Int) (f k : Int) : Int := if longE ps fs l f k = 0 then (longN (longB ps l (stayF fs f) k.toNat) (20 - at0 (stayF fs f).stay k.toNat).toNat : Int) else 0
/-- The best setting. -/
def bestE (ps : List Pt) (fs : List Fr) : Int := if bookB ps fs then (if (coolD ps fs (List.range fs.length)).isSome then 0 else 4) else 30
def bestL (ps : List Pt) (fs : List Fr) : List Int := if bookB ps fs then (coolD ps fs (List.range fs.length)).getD [] else []
theorem all_range (n : Nat) : pickL allI n = (List.range n).map fun (i : Nat) => (i : Int) := by
  simp [pickL, show List.filter allI (List.range n) = List.range n from List.filter_eq_self.2 (fun _ _ => rfl)]

set_option maxRecDepth 10000 in
set_option maxHeartbeats 1600000 in
theorem Dries_any (pp : Option Addr) (cp : Nat) (pf : Option Addr) (cf : Nat) (ps : List Pt) (ms : List FrM) (w : World) (hB : BkAt w pp pf ps ms) (q : Option Addr) (c : Nat) (l : List Int) (hl : IntsAt w q l) (hn : l.length < 2 ^ 62) (f : Int) : Calls Try.prog 19 #[.agg #[.slice pp ps.length cp, .slice pf ms.length cf], .slice q l.length c, .int .i64 f] w fun e w' => e = .returned (.tuple #[.agg #[.int .i64 (loV ps (frsM ms) l f), .int .i64 (hiV ps (frsM ms) l f)], .int .i64 (frameE ps (frsM ms) l f)]) ∧ Below w.heap.size w w' := by
  have hE := below_alloc2 w (.cells #[.slice pp ps.length cp, .slice pf ms.length cf] 25) (.cells #[.int .i64 0, .int .i64 0] 32)
  have HB := Lib.hid (hB.below hE)
  have HE := Lib.hid hE
  have HR := Lib.hid ((Row.new w #[.slice pp ps.length cp, .slice pf ms.length cf] 25).alloc (.cells #[.int .i64 0, .int .i64 0] 32))
  have HQ := Lib.hid (Row.new1 w (.cells #[.slice pp ps.length cp, .slice pf ms.length cf] 25) #[.int .i64 0, .int .i64 0] 32)
  have HL := Lib.hid (hl.below hE)
  clear hE hl
  cases hb : bookB ps (frsM ms)
  · simp only [loV, hiV, frameE_bad hb l f, if_neg (show ¬ ((30 : Int) = 0) by decide)]
    go_enter Try.func19, Try.ntmps19
    go_wp2_with fail
    refine (follow_bad pp cp pf cf ps ms q c l f _ HB.out HL.out hn hb).mono ?_
    rintro e w1 ⟨rfl, hb1⟩
    have HE := Lib.hid (HE.out.trans (hb1.mono HE.out.size))
    have HQ := Lib.hid (HQ.out.below hb1 HQ.out.lt)
    have hzq := HQ.out.lt
    clear hb1
    have c0 := HQ.out.cell 0 (v := .int .i64 0) rfl
    have c1 := HQ.out.cell 1 (v := .int .i64 0) rfl
    have f0 := HQ.out.free 0
    have f1 := HQ.out.free 1
    go_wp2_with fail
    clear c0 c1 f0 f1
    have q := ((HQ.out.set 0 (.int .i64 0)).set 1 (.int .i64 0)).alloc (.cells noPas 81)
    have e0 := q.cell 0 (v := .int .i64 0) rfl
    have e1 := q.cell 1 (v := .int .i64 0) rfl
    exact bodyPost_ret (v := .tuple #[.agg #[.int .i64 0, .int .i64 0], .int .i64 30]) (by simp [results, Try.results19, go_sem, e0, e1]) rfl
      ⟨rfl, ((HE.out.setCell (by dsimp only; omega) _).setCell (by dsimp only; omega) _).alloc (by have := HE.out.size; simp; omega) _⟩
  · cases hs : isSetB ps.length l
    · simp only [loV, hiV, frameE_no hb hs f, if_neg (show ¬ ((31 : Int) = 0) by decide)]
      go_enter Try.func19, Try.ntmps19
      go_wp2_with fail
      refine (follow_no pp cp pf cf ps ms q c l f _ HB.out HL.out hn hb hs).mono ?_
      rintro e w1 ⟨rfl, hb1⟩
      have HE := Lib.hid (HE.out.trans (hb1.mono HE.out.size))
      have HQ := Lib.hid (HQ.out.below hb1 HQ.out.lt)
      have hzq := HQ.out.lt
      clear hb1
      have c0 := HQ.out.cell 0 (v := .int .i64 0) rfl
      have c1 := HQ.out.cell 1 (v := .int .i64 0) rfl
      have f0 := HQ.out.free 0
      have f1 := HQ.out.free 1
      go_wp2_with fail
      clear c0 c1 f0 f1
      have q := ((HQ.out.set 0 (.int .i64 0)).set 1 (.int .i64 0)).alloc (.cells noPas 81)
      have e0 := q.cell 0 (v := .int .i64 0) rfl
      have e1 := q.cell 1 (v := .int .i64 0) rfl
      exact bodyPost_ret (v := .tuple #[.agg #[.int .i64 0, .int .i64 0], .int .i64 31]) (by simp [results, Try.results19, go_sem, e0, e1]) rfl
        ⟨rfl, ((HE.out.setCell (by dsimp only; omega) _).setCell (by dsimp only; omega) _).alloc (by have := HE.out.size; simp; omega) _⟩
    · by_cases hf : 0 ≤ f ∧ f < ms.length
      · obtain ⟨hf0, hf1⟩ := hf
        simp only [loV, hiV, frameE_yes hb hs hf0 hf1, if_true]
        obtain ⟨n, rfl⟩ := Int.eq_ofNat_of_zero_le hf0
        have hn2 : n < ms.length := by omega
        simp only [stayF_at hn2]
        have hok := (isSet_ok hs (bookB_iff.1 hb).p4).2.1
        go_enter Try.func19, Try.ntmps19
        go_wp2_with fail
        refine (follow_yes pp cp pf cf ps ms q c l n _ HB.out HL.out hn hb hs (by omega) (by omega)).mono ?_
        rintro e w1 ⟨mb, rfl, hmb, hbk, hb1⟩
        have HE := Lib.hid (HE.out.trans (hb1.mono HE.out.size))
        have HQ := Lib.hid (HQ.out.below hb1 HQ.out.lt)
        have hzq := HQ.out.lt
        clear hb1
        have BK := Lib.hid (hbk.below (below_alloc w1 (.cells (pasA pp ps.length cp pf ms.length cf mb l) 81)))
        have HEA := Lib.hid (HE.out.alloc HE.out.size (.cells (pasA pp ps.length cp pf ms.length cf mb l) 81))
        have HQA := Lib.hid (HQ.out.alloc (.cells (pasA pp ps.length cp pf ms.length cf mb l) 81))
        clear hbk
        go_wp2_with fail
        refine (dryness_any _ _ _ _ _ _ _ _ _ BK.out.b hok n hn2).mono ?_
        rintro e w2 ⟨rfl, hb2⟩
        have HEA := Lib.hid (HEA.out.trans (hb2.mono HEA.out.size))
        have HQA := Lib.hid (HQA.out.below hb2 HQA.out.lt)
        clear hb2
        have c0 := HQA.out.cell 0 (v := .int .i64 0) rfl
        have c1 := HQA.out.cell 1 (v := .int .i64 0) rfl
        have f0 := HQA.out.free 0
        have f1 := HQA.out.free 1
        go_wp2_with fail
        clear c0 c1 f0 f1
        have q := ((HQA.out.set 0 (.int .i64 (dryD Pt.hi ps l ms[n].f.stay))).set 1 (.int .i64 (dryD Pt.lo ps l ms[n].f.stay)))
        have e0 := q.cell 0 (v := .int .i64 (dryD Pt.hi ps l ms[n].f.stay)) rfl
        have e1 := q.cell 1 (v := .int .i64 (dryD Pt.lo ps l ms[n].f.stay)) rfl
        exact bodyPost_ret (v := .tuple #[.agg #[.int .i64 (dryD Pt.hi ps l ms[n].f.stay), .int .i64 (dryD Pt.lo ps l ms[n].f.stay)], .int .i64 0]) (by simp [results, Try.results19, go_sem, e0, e1]) rfl
          ⟨rfl, ((HEA.out.setCell (by dsimp only; omega) _).setCell (by dsimp only; omega) _)⟩
      · simp only [loV, hiV, frameE_fr hb hs hf, if_neg (show ¬ ((31 : Int) = 0) by decide)]
        go_enter Try.func19, Try.ntmps19
        go_wp2_with fail
        refine (follow_frame pp cp pf cf ps ms q c l f _ HB.out HL.out hn hb hs hf).mono ?_
        rintro e w1 ⟨rfl, hb1⟩
        have HE := Lib.hid (HE.out.trans (hb1.mono HE.out.size))
        have HQ := Lib.hid (HQ.out.below hb1 HQ.out.lt)
        have hzq := HQ.out.lt
        clear hb1
        have c0 := HQ.out.cell 0 (v := .int .i64 0) rfl
        have c1 := HQ.out.cell 1 (v := .int .i64 0) rfl
        have f0 := HQ.out.free 0
        have f1 := HQ.out.free 1
        go_wp2_with fail
        clear c0 c1 f0 f1
        have q := ((HQ.out.set 0 (.int .i64 0)).set 1 (.int .i64 0)).alloc (.cells noPas 81)
        have e0 := q.cell 0 (v := .int .i64 0) rfl
        have e1 := q.cell 1 (v := .int .i64 0) rfl
        exact bodyPost_ret (v := .tuple #[.agg #[.int .i64 0, .int .i64 0], .int .i64 31]) (by simp [results, Try.results19, go_sem, e0, e1]) rfl
          ⟨rfl, ((HE.out.setCell (by dsimp only; omega) _).setCell (by dsimp only; omega) _).alloc (by have := HE.out.size; simp; omega) _⟩

set_option maxRecDepth 10000 in
set_option maxHeartbeats 1600000 in
theorem Longer_any (pp : Option Addr) (cp : Nat) (pf : Option Addr) (cf : Nat) (ps : List Pt) (ms : List FrM) (w : World) (hB : BkAt w pp pf ps ms) (q : Option Addr) (c : Nat) (l : List Int) (hl : IntsAt w q l) (hn : l.length < 2 ^ 62) (f k : Int) : Calls Try.prog 35 #[.agg #[.slice pp ps.length cp, .slice pf ms.length cf], .slice q l.length c, .int .i64 f, .int .i64 k] w fun e w' => e = .returned (.tuple #[.int .i64 (longV ps (frsM ms) l f k), .int .i64 (longE ps (frsM ms) l f k)]) ∧ Below w.heap.size w w' := by
  have hE := below_alloc w (.cells #[.slice pp ps.length cp, .slice pf ms.length cf] 25)
  have HB := Lib.hid (hB.below hE)
  have HE := Lib.hid hE
  have HR := Lib.hid (Row.new w #[.slice pp ps.length cp, .slice pf ms.length cf] 25)
  have HL := Lib.hid (hl.below hE)
  clear hE hl
  cases hb : bookB ps (frsM ms)
  · simp only [longV, longE, frameE_bad hb l f, if_neg (show ¬ ((30 : Int) = 0) by decide)]
    go_enter Try.func35, Try.ntmps35
    go_wp2_with fail
    refine (follow_bad pp cp pf cf ps ms q c l f _ HB.out HL.out hn hb).mono ?_
    rintro e w1 ⟨rfl, hb1⟩
    have HE := Lib.hid (HE.out.trans (hb1.mono HE.out.size))
    have HR := Lib.hid (HR.out.below hb1 HR.out.lt)
    clear hb1
    go_wp2_with fail
    go_ret2
    exact ⟨rfl, HE.out.alloc HE.out.size _⟩
  · cases hs : isSetB ps.length l
    · simp only [longV, longE, frameE_no hb hs f, if_neg (show ¬ ((31 : Int) = 0) by decide)]
      go_enter Try.func35, Try.ntmps35
      go_wp2_with fail
      refine (follow_no pp cp pf cf ps ms q c l f _ HB.out HL.out hn hb hs).mono ?_
      rintro e w1 ⟨rfl, hb1⟩
      have HE := Lib.hid (HE.out.trans (hb1.mono HE.out.size))
      have HR := Lib.hid (HR.out.below hb1 HR.out.lt)
      clear hb1
      go_wp2_with fail
      go_ret2
      exact ⟨rfl, HE.out.alloc HE.out.size _⟩
    · by_cases hf : 0 ≤ f ∧ f < ms.length
      · obtain ⟨hf0, hf1⟩ := hf
        have hok := (isSet_ok hs (bookB_iff.1 hb).p4).2.1
        have HSL := Lib.hid (isSet_ok hs (bookB_iff.1 hb).p4).1
        by_cases hk : 0 ≤ k ∧ k < ps.length
        · obtain ⟨hk0, hk1⟩ := hk
          obtain ⟨n, rfl⟩ := Int.eq_ofNat_of_zero_le hf0
          obtain ⟨m, rfl⟩ := Int.eq_ofNat_of_zero_le hk0
          have hn2 : n < ms.length := by omega
          have hm2 : m < ps.length := by omega
          have hdi : dryI ps (frsM ms) l n = decide (kindD ps l ms[n].f = 0) := dryI_at hn2
          by_cases hd : kindD ps l ms[n].f = 0
          · simp only [longV, longE, frameE_yes hb hs hf0 hf1, if_true, stayF_at hn2, hk0, hk1, and_self, hd, Int.toNat_natCast]
            have HDI := Lib.hid (show dryI ps (frsM ms) l n = true by rw [hdi]; simp [hd])
            clear hdi hd
            go_enter Try.func35, Try.ntmps35
            go_wp2_with fail
            refine (follow_yes pp cp pf cf ps ms q c l n _ HB.out HL.out hn hb hs (by omega) (by omega)).mono ?_
            rintro e w1 ⟨mb, rfl, hmb, hbk, hb1⟩
            have HE := Lib.hid (HE.out.trans (hb1.mono HE.out.size))
            have HR := Lib.hid (HR.out.below hb1 HR.out.lt)
            clear hb1
            have BK := Lib.hid (hbk.below (below_alloc w1 (.cells (pasA pp ps.length cp pf ms.length cf mb l) 81)))
            have HEA := Lib.hid (HE.out.alloc HE.out.size (.cells (pasA pp ps.length cp pf ms.length cf mb l) 81))
            have HRA := Lib.hid (HR.out.alloc (.cells (pasA pp ps.length cp pf ms.length cf mb l) 81))
            clear hbk
            have g0 := HRA.out.cell 0 (v := .slice pp ps.length cp) rfl
            have RP := Lib.hid (Row.new w1 (pasA pp ps.length cp pf ms.length cf mb l) 81)
            go_wp2_with fail
            refine (dry_run pp cp pf cf mb 0 l ps ms _ BK.out (by omega) HSL.out hok n hn2).mono ?_
            rintro e w2 ⟨rfl, hr2⟩
            rw [HDI.out]
            have hzz := HE.out.size
            have hz0 : w.heap.size < (w.alloc (.cells #[.slice pp ps.length cp, .slice pf ms.length cf] 25)).heap.size := by simp
            have HEB := Lib.hid (hr2.base HEA.out (by omega) HEA.out.size)
            have RP := Lib.hid (hr2.row BK.out.d RP.out)
            have BK2 := Lib.hid (hr2.bkd BK.out)
            clear hr2 g0
            obtain ⟨p0, p1, p2, p3, p4, p5, p6⟩ := RP.out.pas
            go_wp2_with fail
            refine (longer_any pp cp pf cf mb l ps ms w2 BK2.out.b HSL.out hok n hn2 m hm2).mono ?_
            rintro e w3 ⟨rfl, hb3⟩
            have HEB := Lib.hid (HEB.out.trans (hb3.mono HEB.out.size))
            clear hb3 p0 p1 p2 p3 p4 p5 p6
            go_wp2_with fail
            go_ret2
            exact ⟨rfl, HEB.out⟩
          · simp only [longV, longE, frameE_yes hb hs hf0 hf1, if_true, stayF_at hn2, hk0, hk1, and_self, if_neg hd, if_neg (show ¬ ((4 : Int) = 0) by decide)]
            have HDI := Lib.hid (show dryI ps (frsM ms) l n = false by rw [hdi]; simp [hd])
            clear hdi hd
            go_enter Try.func35, Try.ntmps35
            go_wp2_with fail
            refine (follow_yes pp cp pf cf ps ms q c l n _ HB.out HL.out hn hb hs (by omega) (by omega)).mono ?_
            rintro e w1 ⟨mb, rfl, hmb, hbk, hb1⟩
            have HE := Lib.hid (HE.out.trans (hb1.mono HE.out.size))
            have HR := Lib.hid (HR.out.below hb1 HR.out.lt)
            clear hb1
            have BK := Lib.hid (hbk.below (below_alloc w1 (.cells (pasA pp ps.length cp pf ms.length cf mb l) 81)))
            have HEA := Lib.hid (HE.out.alloc HE.out.size (.cells (pasA pp ps.length cp pf ms.length cf mb l) 81))
            have HRA := Lib.hid (HR.out.alloc (.cells (pasA pp ps.length cp pf ms.length cf mb l) 81))
            clear hbk
            have g0 := HRA.out.cell 0 (v := .slice pp ps.length cp) rfl
            have RP := Lib.hid (Row.new w1 (pasA pp ps.length cp pf ms.length cf mb l) 81)
            go_wp2_with fail
            refine (dry_run pp cp pf cf mb 0 l ps ms _ BK.out (by omega) HSL.out hok n hn2).mono ?_
            rintro e w2 ⟨rfl, hr2⟩
            rw [HDI.out]
            have hzz := HE.out.size
            have hz0 : w.heap.size < (w.alloc (.cells #[.slice pp ps.length cp, .slice pf ms.length cf] 25)).heap.size := by simp
            have HEB := Lib.hid (hr2.base HEA.out (by omega) HEA.out.size)
            have RP := Lib.hid (hr2.row BK.out.d RP.out)
            have BK2 := Lib.hid (hr2.bkd BK.out)
            clear hr2 g0
            obtain ⟨p0, p1, p2, p3, p4, p5, p6⟩ := RP.out.pas
            go_wp2_with fail
            go_ret2
            exact ⟨rfl, HEB.out⟩
        · simp only [longV, longE, frameE_yes hb hs hf0 hf1, if_true, if_neg hk, if_neg (show ¬ ((31 : Int) = 0) by decide)]
          obtain ⟨n, rfl⟩ := Int.eq_ofNat_of_zero_le hf0
          have hk2 : k < 0 ∨ (0 ≤ k ∧ (ps.length : Int) ≤ k) := by omega
          clear hk
          rcases hk2 with hk2 | ⟨hk1, hk2⟩
          all_goals
            go_enter Try.func35, Try.ntmps35
            go_wp2_with fail
            refine (follow_yes pp cp pf cf ps ms q c l n _ HB.out HL.out hn hb hs (by omega) (by omega)).mono ?_
            rintro e w1 ⟨mb, rfl, hmb, hbk, hb1⟩
            have HE := Lib.hid (HE.out.trans (hb1.mono HE.out.size))
            have HR := Lib.hid (HR.out.below hb1 HR.out.lt)
            clear hb1
            have BK := Lib.hid (hbk.below (below_alloc w1 (.cells (pasA pp ps.length cp pf ms.length cf mb l) 81)))
            have HEA := Lib.hid (HE.out.alloc HE.out.size (.cells (pasA pp ps.length cp pf ms.length cf mb l) 81))
            have HRA := Lib.hid (HR.out.alloc (.cells (pasA pp ps.length cp pf ms.length cf mb l) 81))
            clear hbk
            have g0 := HRA.out.cell 0 (v := .slice pp ps.length cp) rfl
            go_wp2_with fail
            go_ret2
            exact ⟨rfl, HEA.out⟩
      · simp only [longV, longE, frameE_fr hb hs hf, if_neg (show ¬ ((31 : Int) = 0) by decide)]
        go_enter Try.func35, Try.ntmps35
        go_wp2_with fail
        refine (follow_frame pp cp pf cf ps ms q c l f _ HB.out HL.out hn hb hs hf).mono ?_
        rintro e w1 ⟨rfl, hb1⟩
        have HE := Lib.hid (HE.out.trans (hb1.mono HE.out.size))
        have HR := Lib.hid (HR.out.below hb1 HR.out.lt)
        clear hb1
        go_wp2_with fail
        go_ret2
        exact ⟨rfl, HE.out.alloc HE.out.size _⟩

end Go.Proofs.Ytfppcmechfjpoaa
