/- The laws of layer 3 that hold the program against its specification. -/
import Derived.Test.YtfppcmechfjpoaaRQSU
import Derived.Test.YtfppcmechfjpoaaRT
import Derived.Test.YtfppcmechfjpoaaVD
namespace Go.Proofs.Ytfppcmechfjpoaa
open Go.RowKit Go.Maps
attribute [local go_sem] Oper.semAt_some

theorem good_len (ps : List Pt) (ms : List FrM) (l : List Int) : (goodV ps (frsM ms) l).length ≤ ms.length := by
  unfold goodV
  split
  · have := goodD_length ps (frsM ms) l; rw [frsM_length] at this; exact this
  · simp
theorem most_len (ps : List Pt) (ms : List FrM) : (mostL ps (frsM ms)).length ≤ ps.length ∧ (mostF ps (frsM ms)).length ≤ ms.length ∧ (lostL ps (frsM ms)).length ≤ ms.length ∧ (bestL ps (frsM ms)).length ≤ ps.length := by
  refine ⟨?_, ?_, ?_, ?_⟩
  · unfold mostL
    split
    · have := (mem_setsL.1 (most_mem ps (frsM ms))).1; omega
    · simp
  · unfold mostF
    split
    · have := goodD_length ps (frsM ms) (mostD ps (frsM ms)); rw [frsM_length] at this; exact this
    · simp
  · unfold lostL
    split
    · have := pickL_length (lostI ps (frsM ms)) (frsM ms).length; rw [frsM_length] at this ⊢; exact this
    · simp
  · unfold bestL
    split
    · cases h : coolD ps (frsM ms) (List.range (frsM ms).length) with
      | none => simp
      | some x =>
        have := (mem_setsL.1 (List.mem_filter.1 (best_mem h)).1).1
        simp; omega
    · simp
set_option maxRecDepth 10000 in
set_option maxHeartbeats 3200000 in
theorem TunnelDries_any (pp : Option Addr) (cp : Nat) (pf : Option Addr) (cf : Nat) (ps : List Pt) (ms : List FrM) (w : World) (hB : BkAt w pp pf ps ms) (q : Option Addr) (c : Nat) (l : List Int) (hl : IntsAt w q l) (hn : l.length < 2 ^ 62) (f : Int) : Calls Try.prog 3 #[.agg #[.slice pp ps.length cp, .slice pf ms.length cf], .slice q l.length c, .int .i64 f] w fun e w' => e = .returned (.bool true) ∧ Below w.heap.size w w' := by
  obtain ⟨W0, hW0⟩ : ∃ W, W = (w.alloc (.cells #[.slice pp ps.length cp, .slice pf ms.length cf] 25)) := ⟨_, rfl⟩
  have HW0 := Lib.hid hW0
  have HB := Lib.hid hB
  have HE := Lib.hid (show Below w.heap.size w W0 by rw [hW0]; exact below_alloc _ _)
  have HR := Lib.hid (show Row W0 w.heap.size #[.slice pp ps.length cp, .slice pf ms.length cf] 25 by rw [hW0]; exact Row.new _ _ _)
  have c0 := HR.out.cell 0 (v := .slice pp ps.length cp) rfl
  have c1 := HR.out.cell 1 (v := .slice pf ms.length cf) rfl
  have HL := Lib.hid hl
  have C1 := Lib.hid (fun w' (kb : Below W0.heap.size W0 w') => Heat_any pp cp pf cf ps ms w' (HB.out.below (HE.out.trans (kb.mono HE.out.size))) q c l (HL.out.below (HE.out.trans (kb.mono HE.out.size))) hn)
  have C2 := Lib.hid (fun w' (kb : Below W0.heap.size W0 w') => refHeat_any pp cp pf cf ps ms w' (HB.out.below (HE.out.trans (kb.mono HE.out.size))) q c l (HL.out.below (HE.out.trans (kb.mono HE.out.size))) hn)
  have C3 := Lib.hid (fun w' (kb : Below W0.heap.size W0 w') => Check_any pp cp pf cf ps ms w' (HB.out.below (HE.out.trans (kb.mono HE.out.size))))
  have C4 := Lib.hid (fun w' (kb : Below W0.heap.size W0 w') => refCheck_any pp cp pf cf ps ms w' (HB.out.below (HE.out.trans (kb.mono HE.out.size))))
  have C5 := Lib.hid (fun w' (kb : Below W0.heap.size W0 w') => Dries_any pp cp pf cf ps ms w' (HB.out.below (HE.out.trans (kb.mono HE.out.size))) q c l (HL.out.below (HE.out.trans (kb.mono HE.out.size))) hn f)
  have C6 := Lib.hid (fun w' (kb : Below W0.heap.size W0 w') => refDries_any pp cp pf cf ps ms w' (HB.out.below (HE.out.trans (kb.mono HE.out.size))) q c l (HL.out.below (HE.out.trans (kb.mono HE.out.size))) hn f)
  have C7 := Lib.hid (fun w' (kb : Below W0.heap.size W0 w') => Kind_any pp cp pf cf ps ms w' (HB.out.below (HE.out.trans (kb.mono HE.out.size))) q c l (HL.out.below (HE.out.trans (kb.mono HE.out.size))) hn f)
  have C8 := Lib.hid (fun w' (kb : Below W0.heap.size W0 w') => refKind_any pp cp pf cf ps ms w' (HB.out.below (HE.out.trans (kb.mono HE.out.size))) q c l (HL.out.below (HE.out.trans (kb.mono HE.out.size))) hn f)
  have C9 := Lib.hid (fun w' (kb : Below W0.heap.size W0 w') => Good_any pp cp pf cf ps ms w' (HB.out.below (HE.out.trans (kb.mono HE.out.size))) q c l (HL.out.below (HE.out.trans (kb.mono HE.out.size))) hn)
  have C10 := Lib.hid (fun w' (kb : Below W0.heap.size W0 w') => refGood_any pp cp pf cf ps ms w' (HB.out.below (HE.out.trans (kb.mono HE.out.size))) q c l (HL.out.below (HE.out.trans (kb.mono HE.out.size))) hn)
  have hgl : (goodV ps (frsM ms) l).length ≤ maxLen := by
    have := good_len ps ms l; have := hB.b2; unfold maxLen; omega
  clear hB hW0 hl
  generalize heatV ps (frsM ms) l = v1 at *
  generalize setE ps (frsM ms) l = v2 at *
  generalize bookE ps (frsM ms) = v3 at *
  generalize loV ps (frsM ms) l f = v4 at *
  generalize hiV ps (frsM ms) l f = v5 at *
  generalize frameE ps (frsM ms) l f = v6 at *
  generalize kindV ps (frsM ms) l f = v7 at *
  generalize goodV ps (frsM ms) l = gl at *
  go_enter Try.func3, Try.ntmps3
  go_wp2_with fail
  rw [← HW0.out]
  have HK := Lib.hid (Below.refl W0.heap.size W0)
  go_wp2_with fail
  refine (C1.out _ HK.out).mono ?_
  rintro e u ⟨rfl, hbu⟩
  have HK := Lib.hid (HK.out.trans (hbu.mono HK.out.size))
  obtain ⟨x, hx⟩ := later_of HK.out
  subst hx
  clear hbu
  go_wp2_with fail
  refine (C2.out _ HK.out).mono ?_
  rintro e u ⟨rfl, hbu⟩
  have HK := Lib.hid (HK.out.trans (hbu.mono HK.out.size))
  obtain ⟨x, hx⟩ := later_of HK.out
  subst hx
  clear hbu
  go_wp2_with fail
  refine wp_region_later (by kernel_rfl) (by kernel_rfl) ?_
  repeat (go_big_quiet_step (first | (go_at_call 17; exact Calls.later_of (C3.out _ (HK.out.trans ((Later.b _).mono HK.out.size)))) | (go_at_call 18; exact Calls.later_of (C4.out _ (HK.out.trans ((Later.b _).mono HK.out.size))))))
  refine wpQuiet_nil ?_
  intro _ hw'
  obtain ⟨y, hw''⟩ := hw'
  subst hw''
  have HK := Lib.hid (HK.out.trans (y.b.mono HK.out.size))
  generalize y.w = u at HK ⊢
  obtain ⟨x, hx⟩ := later_of HK.out
  subst hx
  clear y
  go_wp2_with fail
  refine (C5.out _ HK.out).mono ?_
  rintro e u ⟨rfl, hbu⟩
  have HK := Lib.hid (HK.out.trans (hbu.mono HK.out.size))
  obtain ⟨x, hx⟩ := later_of HK.out
  subst hx
  clear hbu
  go_wp2_with fail
  refine (C6.out _ (HK.out.alloc HK.out.size _)).mono ?_
  rintro e u ⟨rfl, hbu⟩
  have hr := (Row.new x.w #[.int .i64 v4, .int .i64 v5] 32).below hbu (by simp)
  have z0 := hr.cell 0 (v := .int .i64 v4) rfl
  have z1 := hr.cell 1 (v := .int .i64 v5) rfl
  clear hr
  have HK := Lib.hid ((HK.out.alloc HK.out.size _).trans (hbu.mono (HK.out.alloc HK.out.size _).size))
  obtain ⟨x, hx⟩ := later_of HK.out
  subst hx
  clear hbu
  go_wp2_with fail
  refine (C7.out _ (HK.out.alloc HK.out.size _)).mono ?_
  rintro e u ⟨rfl, hbu⟩
  have HK := Lib.hid ((HK.out.alloc HK.out.size _).trans (hbu.mono (HK.out.alloc HK.out.size _).size))
  obtain ⟨x, hx⟩ := later_of HK.out
  subst hx
  clear hbu
  go_wp2_with fail
  refine (C8.out _ HK.out).mono ?_
  rintro e u ⟨rfl, hbu⟩
  have HK := Lib.hid (HK.out.trans (hbu.mono HK.out.size))
  obtain ⟨x, hx⟩ := later_of HK.out
  subst hx
  clear hbu
  go_wp2_with fail
  refine (C9.out _ HK.out).mono ?_
  rintro e u ⟨p1, c1, rfl, hi1, hbu⟩
  have HI1 := Lib.hid hi1
  clear hi1
  have HK := Lib.hid (HK.out.trans (hbu.mono HK.out.size))
  obtain ⟨x, hx⟩ := later_of HK.out
  subst hx
  clear hbu
  go_wp2_with fail
  refine (C10.out _ HK.out).mono ?_
  rintro e u ⟨p2, c2, rfl, hi2, hbu⟩
  have HI1 := Lib.hid (HI1.out.below hbu)
  have HI2 := Lib.hid hi2
  clear hi2
  have HK := Lib.hid (HK.out.trans (hbu.mono HK.out.size))
  obtain ⟨x, hx⟩ := later_of HK.out
  subst hx
  clear hbu
  have HAL := Lib.hid (Alike_any p1 p2 c1 c2 gl gl x.w hgl HI1.out HI2.out)
  rw [decide_eq_true rfl] at HAL
  go_wp2_with fail
  refine HAL.out.mono ?_
  rintro e u ⟨rfl, hbu⟩
  have HK := Lib.hid (HK.out.trans (hbu.mono HK.out.size))
  obtain ⟨x, hx⟩ := later_of HK.out
  subst hx
  clear hbu
  go_wp2_with fail
  refine (warmed_any _).mono ?_
  rintro e u ⟨rfl, hbu⟩
  have HK := Lib.hid (HK.out.trans (hbu.mono HK.out.size))
  clear hbu
  go_wp2_with fail
  go_ret
  exact ⟨rfl, HE.out.trans (HK.out.mono HE.out.size)⟩
set_option maxRecDepth 10000 in
set_option maxHeartbeats 3200000 in
theorem TunnelBests_any (pp : Option Addr) (cp : Nat) (pf : Option Addr) (cf : Nat) (ps : List Pt) (ms : List FrM) (w : World) (hB : BkAt w pp pf ps ms) : Calls Try.prog 4 #[.agg #[.slice pp ps.length cp, .slice pf ms.length cf]] w fun e w' => e = .returned (.bool true) ∧ Below w.heap.size w w' := by
  obtain ⟨W0, hW0⟩ : ∃ W, W = (w.alloc (.cells #[.slice pp ps.length cp, .slice pf ms.length cf] 25)) := ⟨_, rfl⟩
  have HW0 := Lib.hid hW0
  have HB := Lib.hid hB
  have HE := Lib.hid (show Below w.heap.size w W0 by rw [hW0]; exact below_alloc _ _)
  have HR := Lib.hid (show Row W0 w.heap.size #[.slice pp ps.length cp, .slice pf ms.length cf] 25 by rw [hW0]; exact Row.new _ _ _)
  have c0 := HR.out.cell 0 (v := .slice pp ps.length cp) rfl
  have c1 := HR.out.cell 1 (v := .slice pf ms.length cf) rfl
  have C1 := Lib.hid (fun w' (kb : Below W0.heap.size W0 w') => Best_any pp cp pf cf ps ms w' (HB.out.below (HE.out.trans (kb.mono HE.out.size))))
  have C2 := Lib.hid (fun w' (kb : Below W0.heap.size W0 w') => refBest_any pp cp pf cf ps ms w' (HB.out.below (HE.out.trans (kb.mono HE.out.size))))
  have C3 := Lib.hid (fun w' (kb : Below W0.heap.size W0 w') => Most_any pp cp pf cf ps ms w' (HB.out.below (HE.out.trans (kb.mono HE.out.size))))
  have C4 := Lib.hid (fun w' (kb : Below W0.heap.size W0 w') => refMost_any pp cp pf cf ps ms w' (HB.out.below (HE.out.trans (kb.mono HE.out.size))))
  have C5 := Lib.hid (fun w' (kb : Below W0.heap.size W0 w') => Lost_any pp cp pf cf ps ms w' (HB.out.below (HE.out.trans (kb.mono HE.out.size))))
  have C6 := Lib.hid (fun w' (kb : Below W0.heap.size W0 w') => refLost_any pp cp pf cf ps ms w' (HB.out.below (HE.out.trans (kb.mono HE.out.size))))
  have C7 := Lib.hid (fun w' (kb : Below W0.heap.size W0 w') => show Calls Try.prog 33 #[.agg #[.slice pp ps.length cp, .slice pf ms.length cf]] w' fun e w'' => e = .returned (.tuple #[.int .i64 (clashV ps (frsM ms)).1, .int .i64 (clashV ps (frsM ms)).2.1, .int .i64 (clashV ps (frsM ms)).2.2]) ∧ Below w'.heap.size w' w'' from Clash_any pp cp pf cf ps ms w' (HB.out.below (HE.out.trans (kb.mono HE.out.size))))
  have C8 := Lib.hid (fun w' (kb : Below W0.heap.size W0 w') => show Calls Try.prog 34 #[.agg #[.slice pp ps.length cp, .slice pf ms.length cf]] w' fun e w'' => e = .returned (.tuple #[.int .i64 (clashV ps (frsM ms)).1, .int .i64 (clashV ps (frsM ms)).2.1, .int .i64 (clashV ps (frsM ms)).2.2]) ∧ Below w'.heap.size w' w'' from refClash_any pp cp pf cf ps ms w' (HB.out.below (HE.out.trans (kb.mono HE.out.size))))
  obtain ⟨hl1, hl2, hl3, hl4⟩ : (mostL ps (frsM ms)).length ≤ maxLen ∧ (mostF ps (frsM ms)).length ≤ maxLen ∧ (lostL ps (frsM ms)).length ≤ maxLen ∧ (bestL ps (frsM ms)).length ≤ maxLen := by
    have h := most_len ps ms
    have h1 := hB.b1
    have h2 := hB.b2
    unfold maxLen
    omega
  clear hB hW0
  generalize (clashV ps (frsM ms)).1 = v1 at *
  generalize (clashV ps (frsM ms)).2.1 = v2 at *
  generalize (clashV ps (frsM ms)).2.2 = v3 at *
  generalize bookE ps (frsM ms) = v4 at *
  generalize bestE ps (frsM ms) = v5 at *
  generalize bestL ps (frsM ms) = bl at *
  generalize mostL ps (frsM ms) = ml at *
  generalize mostF ps (frsM ms) = mf at *
  generalize lostL ps (frsM ms) = ll at *
  go_enter Try.func4, Try.ntmps4
  go_wp2_with fail
  rw [← HW0.out]
  have HK := Lib.hid (Below.refl W0.heap.size W0)
  go_wp2_with fail
  refine (C1.out _ HK.out).mono ?_
  rintro e u ⟨p1, c1, rfl, hi1, hbu⟩
  have HI1 := Lib.hid hi1
  clear hi1
  have HK := Lib.hid (HK.out.trans (hbu.mono HK.out.size))
  obtain ⟨x, hx⟩ := later_of HK.out
  subst hx
  clear hbu
  go_wp2_with fail
  refine (C2.out _ HK.out).mono ?_
  rintro e u ⟨p2, c2, rfl, hi2, hbu⟩
  have HI1 := Lib.hid (HI1.out.below hbu)
  have HI2 := Lib.hid hi2
  clear hi2
  have HK := Lib.hid (HK.out.trans (hbu.mono HK.out.size))
  obtain ⟨x, hx⟩ := later_of HK.out
  subst hx
  clear hbu
  have HAL := Lib.hid (Alike_any p1 p2 c1 c2 bl bl x.w hl4 HI1.out HI2.out)
  rw [decide_eq_true rfl] at HAL
  go_wp2_with fail
  refine HAL.out.mono ?_
  rintro e u ⟨rfl, hbu⟩
  have HK := Lib.hid (HK.out.trans (hbu.mono HK.out.size))
  obtain ⟨x, hx⟩ := later_of HK.out
  subst hx
  clear hbu HAL
  clear HI1 HI2
  go_wp2_with fail
  refine (C3.out _ HK.out).mono ?_
  rintro e u ⟨p1, c1, q1, d1, rfl, hi1, hj1, hbu⟩
  have HI1 := Lib.hid hi1
  have HJ1 := Lib.hid hj1
  clear hi1 hj1
  have HK := Lib.hid (HK.out.trans (hbu.mono HK.out.size))
  obtain ⟨x, hx⟩ := later_of HK.out
  subst hx
  clear hbu
  go_wp2_with fail
  refine (C4.out _ HK.out).mono ?_
  rintro e u ⟨p2, c2, q2, d2, rfl, hi2, hj2, hbu⟩
  have HI1 := Lib.hid (HI1.out.below hbu)
  have HJ1 := Lib.hid (HJ1.out.below hbu)
  have HI2 := Lib.hid hi2
  have HJ2 := Lib.hid hj2
  clear hi2 hj2
  have HK := Lib.hid (HK.out.trans (hbu.mono HK.out.size))
  obtain ⟨x, hx⟩ := later_of HK.out
  subst hx
  clear hbu
  have HAL := Lib.hid (Alike_any p1 p2 c1 c2 ml ml x.w hl1 HI1.out HI2.out)
  rw [decide_eq_true rfl] at HAL
  go_wp2_with fail
  refine HAL.out.mono ?_
  rintro e u ⟨rfl, hbu⟩
  have HJ1 := Lib.hid (HJ1.out.below hbu)
  have HJ2 := Lib.hid (HJ2.out.below hbu)
  have HK := Lib.hid (HK.out.trans (hbu.mono HK.out.size))
  obtain ⟨x, hx⟩ := later_of HK.out
  subst hx
  clear hbu HAL
  clear HI1 HI2
  have HAL := Lib.hid (Alike_any q1 q2 d1 d2 mf mf x.w hl2 HJ1.out HJ2.out)
  rw [decide_eq_true rfl] at HAL
  go_wp2_with fail
  refine HAL.out.mono ?_
  rintro e u ⟨rfl, hbu⟩
  have HK := Lib.hid (HK.out.trans (hbu.mono HK.out.size))
  obtain ⟨x, hx⟩ := later_of HK.out
  subst hx
  clear hbu HAL
  clear HJ1 HJ2
  go_wp2_with fail
  refine (C5.out _ HK.out).mono ?_
  rintro e u ⟨p1, c1, rfl, hi1, hbu⟩
  have HI1 := Lib.hid hi1
  clear hi1
  have HK := Lib.hid (HK.out.trans (hbu.mono HK.out.size))
  obtain ⟨x, hx⟩ := later_of HK.out
  subst hx
  clear hbu
  go_wp2_with fail
  refine (C6.out _ HK.out).mono ?_
  rintro e u ⟨p2, c2, rfl, hi2, hbu⟩
  have HI1 := Lib.hid (HI1.out.below hbu)
  have HI2 := Lib.hid hi2
  clear hi2
  have HK := Lib.hid (HK.out.trans (hbu.mono HK.out.size))
  obtain ⟨x, hx⟩ := later_of HK.out
  subst hx
  clear hbu
  have HAL := Lib.hid (Alike_any p1 p2 c1 c2 ll ll x.w hl3 HI1.out HI2.out)
  rw [decide_eq_true rfl] at HAL
  go_wp2_with fail
  refine HAL.out.mono ?_
  rintro e u ⟨rfl, hbu⟩
  have HK := Lib.hid (HK.out.trans (hbu.mono HK.out.size))
  obtain ⟨x, hx⟩ := later_of HK.out
  subst hx
  clear hbu HAL
  clear HI1 HI2
  go_wp2_with fail
  refine (C7.out _ HK.out).mono ?_
  rintro e u ⟨rfl, hbu⟩
  have HK := Lib.hid (HK.out.trans (hbu.mono HK.out.size))
  obtain ⟨x, hx⟩ := later_of HK.out
  subst hx
  clear hbu
  go_wp2_with fail
  refine (C8.out _ HK.out).mono ?_
  rintro e u ⟨rfl, hbu⟩
  have HK := Lib.hid (HK.out.trans (hbu.mono HK.out.size))
  obtain ⟨x, hx⟩ := later_of HK.out
  subst hx
  clear hbu
  go_wp2_with fail
  refine (warmed_any _).mono ?_
  rintro e u ⟨rfl, hbu⟩
  have HK := Lib.hid (HK.out.trans (hbu.mono HK.out.size))
  clear hbu
  go_wp2_with fail
  go_ret
  exact ⟨rfl, HE.out.trans (HK.out.mono HE.out.size)⟩
set_option maxRecDepth 10000 in
set_option maxHeartbeats 3200000 in
theorem TunnelAsks_any (pp : Option Addr) (cp : Nat) (pf : Option Addr) (cf : Nat) (ps : List Pt) (ms : List FrM) (w : World) (hB : BkAt w pp pf ps ms) (q : Option Addr) (c : Nat) (l : List Int) (hl : IntsAt w q l) (hn : l.length < 2 ^ 62) (n0 n1 : Int) : Calls Try.prog 5 #[.agg #[.slice pp ps.length cp, .slice pf ms.length cf], .slice q l.length c, .agg #[.int .i64 n0, .int .i64 n1]] w fun e w' => e = .returned (.bool true) ∧ Below w.heap.size w w' := by
  obtain ⟨W0, hW0⟩ : ∃ W, W = ((w.alloc (.cells #[.slice pp ps.length cp, .slice pf ms.length cf] 25)).alloc (.cells #[.int .i64 n0, .int .i64 n1] 47)) := ⟨_, rfl⟩
  have HW0 := Lib.hid hW0
  have HB := Lib.hid hB
  have HE := Lib.hid (show Below w.heap.size w W0 by rw [hW0]; exact below_alloc2 _ _ _)
  have HR := Lib.hid (show Row W0 w.heap.size #[.slice pp ps.length cp, .slice pf ms.length cf] 25 by rw [hW0]; exact (Row.new _ _ _).alloc _)
  have c0 := HR.out.cell 0 (v := .slice pp ps.length cp) rfl
  have c1 := HR.out.cell 1 (v := .slice pf ms.length cf) rfl
  have HN := Lib.hid (show Row W0 (w.heap.size + 1) #[.int .i64 n0, .int .i64 n1] 47 by rw [hW0]; exact Row.new1 _ _ _ _)
  have a0 := HN.out.cell 0 (v := .int .i64 n0) rfl
  have a1 := HN.out.cell 1 (v := .int .i64 n1) rfl
  have HL := Lib.hid hl
  have C1 := Lib.hid (fun w' (kb : Below W0.heap.size W0 w') => Longer_any pp cp pf cf ps ms w' (HB.out.below (HE.out.trans (kb.mono HE.out.size))) q c l (HL.out.below (HE.out.trans (kb.mono HE.out.size))) hn n0 n1)
  have C2 := Lib.hid (fun w' (kb : Below W0.heap.size W0 w') => refLonger_any pp cp pf cf ps ms w' (HB.out.below (HE.out.trans (kb.mono HE.out.size))) q c l (HL.out.below (HE.out.trans (kb.mono HE.out.size))) hn n0 n1)
  have C3 := Lib.hid (fun w' (kb : Below W0.heap.size W0 w') => Ask_any pp cp pf cf ps ms w' (HB.out.below (HE.out.trans (kb.mono HE.out.size))))
  have C4 := Lib.hid (fun w' (kb : Below W0.heap.size W0 w') => refAsk_any pp cp pf cf ps ms w' (HB.out.below (HE.out.trans (kb.mono HE.out.size))))
  clear hB hW0 hl
  generalize longV ps (frsM ms) l n0 n1 = v1 at *
  generalize longE ps (frsM ms) l n0 n1 = v2 at *
  generalize askV ps (frsM ms) = v3 at *
  generalize bookE ps (frsM ms) = v4 at *
  go_enter Try.func5, Try.ntmps5
  go_wp2_with fail
  rw [← HW0.out]
  have HK := Lib.hid (Below.refl W0.heap.size W0)
  go_wp2_with fail
  refine (C1.out _ HK.out).mono ?_
  rintro e u ⟨rfl, hbu⟩
  have HK := Lib.hid (HK.out.trans (hbu.mono HK.out.size))
  obtain ⟨x, hx⟩ := later_of HK.out
  subst hx
  clear hbu
  go_wp2_with fail
  refine (C2.out _ HK.out).mono ?_
  rintro e u ⟨rfl, hbu⟩
  have HK := Lib.hid (HK.out.trans (hbu.mono HK.out.size))
  obtain ⟨x, hx⟩ := later_of HK.out
  subst hx
  clear hbu
  go_wp2_with fail
  refine (C3.out _ HK.out).mono ?_
  rintro e u ⟨rfl, hbu⟩
  have HK := Lib.hid (HK.out.trans (hbu.mono HK.out.size))
  obtain ⟨x, hx⟩ := later_of HK.out
  subst hx
  clear hbu
  go_wp2_with fail
  refine (C4.out _ HK.out).mono ?_
  rintro e u ⟨rfl, hbu⟩
  have HK := Lib.hid (HK.out.trans (hbu.mono HK.out.size))
  obtain ⟨x, hx⟩ := later_of HK.out
  subst hx
  clear hbu
  go_wp2_with fail
  refine (warmed_any _).mono ?_
  rintro e u ⟨rfl, hbu⟩
  have HK := Lib.hid (HK.out.trans (hbu.mono HK.out.size))
  clear hbu
  go_wp2_with fail
  go_ret
  exact ⟨rfl, HE.out.trans (HK.out.mono HE.out.size)⟩
end Go.Proofs.Ytfppcmechfjpoaa
