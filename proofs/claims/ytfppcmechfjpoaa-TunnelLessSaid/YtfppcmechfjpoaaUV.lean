/- The walks of layer 3: the calls that choose. -/
import Derived.Test.YtfppcmechfjpoaaUT
namespace Go.Proofs.Ytfppcmechfjpoaa
open Go.RowKit Go.Maps
attribute [local go_sem] Oper.semAt_some

theorem bookE_bad {ps : List Pt} {fs : List Fr} (h : bookB ps fs = false) : bookE ps fs = 30 := by simp [bookE, h]
theorem bookE_ok {ps : List Pt} {fs : List Fr} (h : bookB ps fs = true) : bookE ps fs = 0 := by simp [bookE, h]
theorem cool_mem {ps : List Pt} {fs : List Fr} {l : List Nat} {t : List Int} (h : coolD ps fs l = some t) : t ∈ setsL ps.length := (List.mem_filter.1 (best_mem h)).1
/-- What Most and Lost return. -/
def mostL (ps : List Pt) (fs : List Fr) : List Int := if bookB ps fs then mostD ps fs else []
def mostF (ps : List Pt) (fs : List Fr) : List Int := if bookB ps fs then goodD ps fs (mostD ps fs) else []
def lostL (ps : List Pt) (fs : List Fr) : List Int := if bookB ps fs then pickL (lostI ps fs) fs.length else []
/-- The call returned two lists, and an error. -/
def GaveLists (xs ys : List Int) (er : Int) (w : World) (e : Ending) (w' : World) : Prop := ∃ p c q d, e = .returned (.tuple #[.slice p xs.length c, .slice q ys.length d, .int .i64 er]) ∧ IntsAt w' p xs ∧ IntsAt w' q ys ∧ Below w.heap.size w w'

set_option maxRecDepth 10000 in
set_option maxHeartbeats 1600000 in
theorem Best_any (pp : Option Addr) (cp : Nat) (pf : Option Addr) (cf : Nat) (ps : List Pt) (ms : List FrM) (w : World) (hB : BkAt w pp pf ps ms) : Calls Try.prog 27 #[.agg #[.slice pp ps.length cp, .slice pf ms.length cf]] w (GaveListE (bestL ps (frsM ms)) (bestE ps (frsM ms)) w) := by
  have hE := below_alloc w (.cells #[.slice pp ps.length cp, .slice pf ms.length cf] 25)
  have HB := Lib.hid (hB.below hE)
  have HE := Lib.hid hE
  have HR := Lib.hid (Row.new w #[.slice pp ps.length cp, .slice pf ms.length cf] 25)
  clear hE
  cases hb : bookB ps (frsM ms)
  · have HV := Lib.hid (bookE_bad hb)
    simp only [bestL, bestE, hb, Bool.false_eq_true, if_false]
    clear hb
    go_enter Try.func27, Try.ntmps27
    go_wp2_with fail
    refine (Check_any pp cp pf cf ps ms _ HB.out).mono ?_
    rintro e w1 ⟨rfl, hb1⟩
    rw [HV.out]
    have HE := Lib.hid (HE.out.trans (hb1.mono HE.out.size))
    have HR := Lib.hid (HR.out.below hb1 HR.out.lt)
    clear hb1
    go_wp2_with fail
    go_ret2
    exact nil_list _ _ _ HE.out
  · have HV := Lib.hid (bookE_ok hb)
    have HBK := Lib.hid (bk_of hB hb)
    have hn4 := HBK.out.n4
    have hn5 := HBK.out.n5
    simp only [bestL, bestE, hb, if_true, frsM_length]
    obtain ⟨L, hL'⟩ : ∃ L, L = List.range ms.length := ⟨_, rfl⟩
    rw [← hL']
    have hL := Lib.hid hL'
    clear hL'
    cases hc : coolD ps (frsM ms) L with
    | none =>
      have HC := Lib.hid hc
      clear hc hb
      simp only [Option.getD_none, Option.isSome_none, Bool.false_eq_true, if_false]
      go_enter Try.func27, Try.ntmps27
      go_wp2_with fail
      refine (Check_any pp cp pf cf ps ms _ HB.out).mono ?_
      rintro e w1 ⟨rfl, hb1⟩
      rw [HV.out]
      have HE := Lib.hid (HE.out.trans (hb1.mono HE.out.size))
      have HR := Lib.hid (HR.out.below hb1 HR.out.lt)
      clear hb1
      have g0 := HR.out.cell 0 (v := .slice pp ps.length cp) rfl
      have g1 := HR.out.cell 1 (v := .slice pf ms.length cf) rfl
      go_wp2_with fail
      refine (open_any pp cp pf cf ps ms w1 (HBK.out.below HE.out)).mono ?_
      rintro e w2 ⟨mb, rfl, hmb, hbk, hb2⟩
      have hz1 := HE.out.size
      have HE := Lib.hid (HE.out.trans (hb2.mono HE.out.size))
      have HR := Lib.hid (HR.out.below hb2 HR.out.lt)
      clear hb2 g0 g1
      have hA := below_alloc w2 (.cells (bookA pp ps.length cp pf ms.length cf mb) 78)
      have RK := Lib.hid (Row.new w2 (bookA pp ps.length cp pf ms.length cf mb) 78)
      have BK := Lib.hid (hbk.below hA)
      have HE := Lib.hid (HE.out.trans (hA.mono HE.out.size))
      have HR := Lib.hid (HR.out.below hA HR.out.lt)
      have hzw : w.heap.size ≤ mb := by omega
      clear hA hbk hmb
      go_wp2_with fail
      refine (frames_all pp cp pf cf mb 0 ps ms _ BK.out (by omega)).mono ?_
      rintro e w4 ⟨p, c, rfl, hi, _, hr4⟩
      rw [show (pickL allI ms.length).length = L.length by rw [all_range, hL.out]; simp]
      have hq : FrsL w4 p L ms.length := ⟨by rw [hL.out, ← all_range]; exact hi, by rw [hL.out]; simpa using hn5, fun i hi => by rw [hL.out] at hi; simpa using hi⟩
      have HQ := Lib.hid hq
      have RK := Lib.hid (hr4.row BK.out.d RK.out)
      have HR := Lib.hid (hr4.row BK.out.d HR.out)
      have HE := Lib.hid (hr4.base HE.out hzw HE.out.size)
      have BK := Lib.hid (hr4.bkd BK.out)
      clear hr4 hi hq
      have k0 := RK.out.cell 0 (v := .slice pp ps.length cp) rfl
      have k1 := RK.out.cell 1 (v := .slice pf ms.length cf) rfl
      have k2 := RK.out.cell 2 (v := .map (some mb)) rfl
      go_wp2_with fail
      refine (coolest_any pp cp pf cf mb (0 + 0 * ms.length) ps ms p c L w4 BK.out HQ.out (by omega)).mono ?_
      rintro e w5 ⟨rfl, hr5⟩
      rw [HC.out]
      have HR := Lib.hid (hr5.row BK.out.d HR.out)
      have HE := Lib.hid (hr5.base HE.out hzw HE.out.size)
      clear hr5 k0 k1 k2
      go_wp2_with fail
      go_ret2
      exact nil_list _ _ _ (HE.out.alloc HE.out.size _)
    | some t =>
      have HC := Lib.hid hc
      have HTL := Lib.hid (mem_setsL.1 (cool_mem hc)).1
      clear hc hb
      simp only [Option.getD_some, Option.isSome_some, if_true]
      go_enter Try.func27, Try.ntmps27
      go_wp2_with fail
      refine (Check_any pp cp pf cf ps ms _ HB.out).mono ?_
      rintro e w1 ⟨rfl, hb1⟩
      rw [HV.out]
      have HE := Lib.hid (HE.out.trans (hb1.mono HE.out.size))
      have HR := Lib.hid (HR.out.below hb1 HR.out.lt)
      clear hb1
      have g0 := HR.out.cell 0 (v := .slice pp ps.length cp) rfl
      have g1 := HR.out.cell 1 (v := .slice pf ms.length cf) rfl
      go_wp2_with fail
      refine (open_any pp cp pf cf ps ms w1 (HBK.out.below HE.out)).mono ?_
      rintro e w2 ⟨mb, rfl, hmb, hbk, hb2⟩
      have hz1 := HE.out.size
      have HE := Lib.hid (HE.out.trans (hb2.mono HE.out.size))
      have HR := Lib.hid (HR.out.below hb2 HR.out.lt)
      clear hb2 g0 g1
      have hA := below_alloc w2 (.cells (bookA pp ps.length cp pf ms.length cf mb) 78)
      have RK := Lib.hid (Row.new w2 (bookA pp ps.length cp pf ms.length cf mb) 78)
      have BK := Lib.hid (hbk.below hA)
      have HE := Lib.hid (HE.out.trans (hA.mono HE.out.size))
      have HR := Lib.hid (HR.out.below hA HR.out.lt)
      have hzw : w.heap.size ≤ mb := by omega
      clear hA hbk hmb
      go_wp2_with fail
      refine (frames_all pp cp pf cf mb 0 ps ms _ BK.out (by omega)).mono ?_
      rintro e w4 ⟨p, c, rfl, hi, _, hr4⟩
      rw [show (pickL allI ms.length).length = L.length by rw [all_range, hL.out]; simp]
      have hq : FrsL w4 p L ms.length := ⟨by rw [hL.out, ← all_range]; exact hi, by rw [hL.out]; simpa using hn5, fun i hi => by rw [hL.out] at hi; simpa using hi⟩
      have HQ := Lib.hid hq
      have RK := Lib.hid (hr4.row BK.out.d RK.out)
      have HR := Lib.hid (hr4.row BK.out.d HR.out)
      have HE := Lib.hid (hr4.base HE.out hzw HE.out.size)
      have BK := Lib.hid (hr4.bkd BK.out)
      clear hr4 hi hq
      have k0 := RK.out.cell 0 (v := .slice pp ps.length cp) rfl
      have k1 := RK.out.cell 1 (v := .slice pf ms.length cf) rfl
      have k2 := RK.out.cell 2 (v := .map (some mb)) rfl
      go_wp2_with fail
      refine (coolest_any pp cp pf cf mb (0 + 0 * ms.length) ps ms p c L w4 BK.out HQ.out (by omega)).mono ?_
      rintro e w5 ⟨rfl, hr5⟩
      rw [HC.out]
      have HR := Lib.hid (hr5.row BK.out.d HR.out)
      have HE := Lib.hid (hr5.base HE.out hzw HE.out.size)
      clear hr5 k0 k1 k2
      have HR := Lib.hid (HR.out.alloc (.cells (setA t) 79))
      have HE := Lib.hid (HE.out.alloc HE.out.size (.cells (setA t) 79))
      have g0 := HR.out.cell 0 (v := .slice pp ps.length cp) rfl
      simp only [Option.getD_some, Option.isSome_some]
      go_wp2_with fail
      refine (list_any t ps.length HTL.out hn4 _).mono ?_
      rintro e w6 ⟨p6, c6, rfl, hi6, hb6⟩
      have HI := Lib.hid hi6
      have HE := Lib.hid (HE.out.trans (hb6.mono HE.out.size))
      clear hb6 hi6 g0
      go_wp2_with fail
      go_ret2
      exact ⟨p6, c6, by rw [HTL.out]; rfl, HI.out, HE.out⟩

set_option maxRecDepth 10000 in
set_option maxHeartbeats 1600000 in
theorem Lost_any (pp : Option Addr) (cp : Nat) (pf : Option Addr) (cf : Nat) (ps : List Pt) (ms : List FrM) (w : World) (hB : BkAt w pp pf ps ms) : Calls Try.prog 31 #[.agg #[.slice pp ps.length cp, .slice pf ms.length cf]] w (GaveListE (lostL ps (frsM ms)) (bookE ps (frsM ms)) w) := by
  have hE := below_alloc w (.cells #[.slice pp ps.length cp, .slice pf ms.length cf] 25)
  have HB := Lib.hid (hB.below hE)
  have HE := Lib.hid hE
  have HR := Lib.hid (Row.new w #[.slice pp ps.length cp, .slice pf ms.length cf] 25)
  clear hE
  cases hb : bookB ps (frsM ms)
  · have HV := Lib.hid (bookE_bad hb)
    simp only [lostL, bookE_bad hb, hb, Bool.false_eq_true, if_false]
    clear hb
    go_enter Try.func31, Try.ntmps31
    go_wp2_with fail
    refine (Check_any pp cp pf cf ps ms _ HB.out).mono ?_
    rintro e w1 ⟨rfl, hb1⟩
    rw [HV.out]
    have HE := Lib.hid (HE.out.trans (hb1.mono HE.out.size))
    have HR := Lib.hid (HR.out.below hb1 HR.out.lt)
    clear hb1
    go_wp2_with fail
    go_ret2
    exact nil_list _ _ _ HE.out
  · have HV := Lib.hid (bookE_ok hb)
    have HBK := Lib.hid (bk_of hB hb)
    simp only [lostL, bookE_ok hb, hb, if_true, frsM_length]
    clear hb
    go_enter Try.func31, Try.ntmps31
    go_wp2_with fail
    refine (Check_any pp cp pf cf ps ms _ HB.out).mono ?_
    rintro e w1 ⟨rfl, hb1⟩
    rw [HV.out]
    have HE := Lib.hid (HE.out.trans (hb1.mono HE.out.size))
    have HR := Lib.hid (HR.out.below hb1 HR.out.lt)
    clear hb1
    have g0 := HR.out.cell 0 (v := .slice pp ps.length cp) rfl
    have g1 := HR.out.cell 1 (v := .slice pf ms.length cf) rfl
    go_wp2_with fail
    refine (open_any pp cp pf cf ps ms w1 (HBK.out.below HE.out)).mono ?_
    rintro e w2 ⟨mb, rfl, hmb, hbk, hb2⟩
    have hz1 := HE.out.size
    have HE := Lib.hid (HE.out.trans (hb2.mono HE.out.size))
    have HR := Lib.hid (HR.out.below hb2 HR.out.lt)
    clear hb2 g0 g1
    have hA := below_alloc w2 (.cells (bookA pp ps.length cp pf ms.length cf mb) 78)
    have RK := Lib.hid (Row.new w2 (bookA pp ps.length cp pf ms.length cf mb) 78)
    have BK := Lib.hid (hbk.below hA)
    have HE := Lib.hid (HE.out.trans (hA.mono HE.out.size))
    have HR := Lib.hid (HR.out.below hA HR.out.lt)
    have hzw : w.heap.size ≤ mb := by omega
    clear hA hbk hmb
    go_wp2_with fail
    refine (frames_lost pp cp pf cf mb 0 ps ms _ BK.out (by omega)).mono ?_
    rintro e w4 ⟨p, c, rfl, hi, _, hr4⟩
    have HI := Lib.hid hi
    have HE := Lib.hid (hr4.base HE.out hzw HE.out.size)
    clear hr4 hi
    go_wp2_with fail
    go_ret2
    exact ⟨p, c, rfl, HI.out, HE.out⟩

set_option maxRecDepth 10000 in
set_option maxHeartbeats 1600000 in
theorem Most_any (pp : Option Addr) (cp : Nat) (pf : Option Addr) (cf : Nat) (ps : List Pt) (ms : List FrM) (w : World) (hB : BkAt w pp pf ps ms) : Calls Try.prog 29 #[.agg #[.slice pp ps.length cp, .slice pf ms.length cf]] w (GaveLists (mostL ps (frsM ms)) (mostF ps (frsM ms)) (bookE ps (frsM ms)) w) := by
  have hE := below_alloc w (.cells #[.slice pp ps.length cp, .slice pf ms.length cf] 25)
  have HB := Lib.hid (hB.below hE)
  have HE := Lib.hid hE
  have HR := Lib.hid (Row.new w #[.slice pp ps.length cp, .slice pf ms.length cf] 25)
  clear hE
  cases hb : bookB ps (frsM ms)
  · have HV := Lib.hid (bookE_bad hb)
    simp only [mostL, mostF, bookE_bad hb, hb, Bool.false_eq_true, if_false]
    clear hb
    go_enter Try.func29, Try.ntmps29
    go_wp2_with fail
    refine (Check_any pp cp pf cf ps ms _ HB.out).mono ?_
    rintro e w1 ⟨rfl, hb1⟩
    rw [HV.out]
    have HE := Lib.hid (HE.out.trans (hb1.mono HE.out.size))
    have HR := Lib.hid (HR.out.below hb1 HR.out.lt)
    clear hb1
    go_wp2_with fail
    go_ret3
    exact ⟨none, 0, none, 0, rfl, fun i hi => by simp at hi, fun i hi => by simp at hi, HE.out⟩
  · have HV := Lib.hid (bookE_ok hb)
    have HBK := Lib.hid (bk_of hB hb)
    have hn4 := HBK.out.n4
    have HTL := Lib.hid (mem_setsL.1 (most_mem ps (frsM ms))).1
    simp only [mostL, mostF, bookE_ok hb, hb, if_true]
    clear hb
    go_enter Try.func29, Try.ntmps29
    go_wp2_with fail
    refine (Check_any pp cp pf cf ps ms _ HB.out).mono ?_
    rintro e w1 ⟨rfl, hb1⟩
    rw [HV.out]
    have HE := Lib.hid (HE.out.trans (hb1.mono HE.out.size))
    have HR := Lib.hid (HR.out.below hb1 HR.out.lt)
    clear hb1
    have g0 := HR.out.cell 0 (v := .slice pp ps.length cp) rfl
    have g1 := HR.out.cell 1 (v := .slice pf ms.length cf) rfl
    go_wp2_with fail
    refine (open_any pp cp pf cf ps ms w1 (HBK.out.below HE.out)).mono ?_
    rintro e w2 ⟨mb, rfl, hmb, hbk, hb2⟩
    have hz1 := HE.out.size
    have HE := Lib.hid (HE.out.trans (hb2.mono HE.out.size))
    have HR := Lib.hid (HR.out.below hb2 HR.out.lt)
    clear hb2 g0 g1
    have BK := Lib.hid hbk
    have hzw : w.heap.size ≤ mb := by omega
    clear hbk hmb
    go_wp2_with fail
    refine (most_any pp cp pf cf mb 0 ps ms w2 BK.out (by omega)).mono ?_
    rintro e w3 ⟨p, c, rfl, hi, _, hr3⟩
    have HR := Lib.hid (hr3.row BK.out.d HR.out)
    have HE := Lib.hid (hr3.base HE.out hzw HE.out.size)
    have hA := below_alloc w3 (.cells (outA (mostD ps (frsM ms)) (heatD ps (mostD ps (frsM ms))) p (goodD ps (frsM ms) (mostD ps (frsM ms))).length c) 99)
    have HI := Lib.hid (hi.below hA)
    have HO := Lib.hid (Row.new w3 (outA (mostD ps (frsM ms)) (heatD ps (mostD ps (frsM ms))) p (goodD ps (frsM ms) (mostD ps (frsM ms))).length c) 99)
    have HR := Lib.hid (HR.out.below hA HR.out.lt)
    have HE := Lib.hid (HE.out.trans (hA.mono HE.out.size))
    clear hr3 hi hA
    generalize heatD ps (mostD ps (frsM ms)) = hh at *
    generalize goodD ps (frsM ms) (mostD ps (frsM ms)) = gg at *
    generalize mostD ps (frsM ms) = mm at *
    go_wp2_with fail
    change Code.wp _ _ _ _ (w3.alloc (.cells (outA mm hh p gg.length c) 99))
    generalize w3.alloc (.cells (outA mm hh p gg.length c) 99) = W1 at *
    have hS : ∀ w', From W1 w' → (w'.cell? ⟨w3.heap.size, 0, none⟩ = some (.int .i64 (at0 mm 0)) ∧ w'.cell? ⟨w3.heap.size, 1, none⟩ = some (.int .i64 (at0 mm 1)) ∧ w'.cell? ⟨w3.heap.size, 2, none⟩ = some (.int .i64 (at0 mm 2)) ∧ w'.cell? ⟨w3.heap.size, 3, none⟩ = some (.int .i64 (at0 mm 3)) ∧ w'.cell? ⟨w3.heap.size, 5, none⟩ = some (.slice p gg.length c) ∧ w'.cell? ⟨w.heap.size, 0, none⟩ = some (.slice pp ps.length cp)) :=
      fun w' k => ⟨(k.row HO.out).cell 0 rfl, (k.row HO.out).cell 1 rfl, (k.row HO.out).cell 2 rfl, (k.row HO.out).cell 3 rfl, (k.row HO.out).cell 5 rfl, (k.row HR.out).cell 0 rfl⟩
    have HSS := Lib.hid hS
    have KI := Lib.hid (From.refl W1)
    clear hS
    go_region_held3 (fun w' => w'.cell? ⟨w3.heap.size, 0, none⟩ = some (.int .i64 (at0 mm 0)) ∧ w'.cell? ⟨w3.heap.size, 1, none⟩ = some (.int .i64 (at0 mm 1)) ∧ w'.cell? ⟨w3.heap.size, 2, none⟩ = some (.int .i64 (at0 mm 2)) ∧ w'.cell? ⟨w3.heap.size, 3, none⟩ = some (.int .i64 (at0 mm 3)) ∧ w'.cell? ⟨w3.heap.size, 5, none⟩ = some (.slice p gg.length c) ∧ w'.cell? ⟨w.heap.size, 0, none⟩ = some (.slice pp ps.length cp)) (first | with_reducible exact HSS.out _ KI.out | with_reducible exact HSS.out _ KI.out.drew)
      ((go_at_call 76; (with_reducible refine (list_any mm ps.length HTL.out hn4 _).mono ?_); rintro e u ⟨p6, c6, rfl, hi6, hbu⟩; have HI6 := Lib.hid hi6; have KI := Lib.hid (by first | with_reducible exact KI.out.drew.below hbu | with_reducible exact KI.out.below hbu); clear hbu hi6))
    all_goals
      go_wp2_with fail
      go_ret3
      exact ⟨p6, c6, p, c, by rw [HTL.out]; rfl, HI6.out, KI.out.ints HI.out, HE.out.trans (KI.out.b.mono HE.out.size)⟩

end Go.Proofs.Ytfppcmechfjpoaa
