/- The walks of the specification of layer 3: how much longer a frame can stay. -/
import Derived.Test.YtfppcmechfjpoaaRQSU
import Derived.Test.YtfppcmechfjpoaaROP
import Derived.Test.YtfppcmechfjpoaaRHL
namespace Go.Proofs.Ytfppcmechfjpoaa
open Go.RowKit Go.Maps
attribute [local go_sem] Oper.semAt_some

/-- Is it a question about a frame and a part? -/
def AskB (ps : List Pt) (fs : List Fr) (l : List Int) (f k : Int) : Prop := bookB ps fs = true ∧ isSetB ps.length l = true ∧ (0 ≤ f ∧ f < fs.length) ∧ (0 ≤ k ∧ k < ps.length)
theorem long_bad {ps : List Pt} {fs : List Fr} {l : List Int} {f k : Int} (h : ¬ AskB ps fs l f k) : longE ps fs l f k ≠ 0 ∧ longV ps fs l f k = 0 ∧ askedV ps fs (isSetB ps.length l && fits f 0 ((fs.length : Int) - 1) && fits k 0 ((ps.length : Int) - 1)) = longE ps fs l f k := by
  have h1 : fits f 0 ((fs.length : Int) - 1) = decide (0 ≤ f ∧ f < (fs.length : Int)) := by
    simp only [fits, Bool.decide_and]; congr 1; simp only [decide_eq_decide]; omega
  have h2 : fits k 0 ((ps.length : Int) - 1) = decide (0 ≤ k ∧ k < (ps.length : Int)) := by
    simp only [fits, Bool.decide_and]; congr 1; simp only [decide_eq_decide]; omega
  have key : longE ps fs l f k ≠ 0 ∧ askedV ps fs (isSetB ps.length l && fits f 0 ((fs.length : Int) - 1) && fits k 0 ((ps.length : Int) - 1)) = longE ps fs l f k := by
    rw [h1, h2]
    unfold AskB at h
    unfold longE frameE setE askedV
    cases hb : bookB ps fs
    · simp
    · cases hs : isSetB ps.length l
      · simp
      · by_cases hf : 0 ≤ f ∧ f < (fs.length : Int)
        · by_cases hk : 0 ≤ k ∧ k < (ps.length : Int)
          · exact absurd ⟨hb, hs, hf, hk⟩ h
          · simp [hf, hk]
        · simp [hf]
  exact ⟨key.1, by rw [longV, if_neg key.1], key.2⟩
theorem long_good {ps : List Pt} {fs : List Fr} {l : List Int} {f k : Nat} (h : AskB ps fs l f k) (hf : f < fs.length) : fits (f : Int) 0 ((fs.length : Int) - 1) = true ∧ fits (k : Int) 0 ((ps.length : Int) - 1) = true ∧ askedV ps fs true = 0 ∧
    longE ps fs l f k = (if kindD ps l fs[f] = 0 then 0 else 4) ∧ longV ps fs l f k = (if kindD ps l fs[f] = 0 then (longN (longB ps l fs[f] k) (20 - at0 fs[f].stay k).toNat : Int) else 0) := by
  obtain ⟨hb, hs, h1, h2⟩ := h
  have hfr : frameE ps fs l f = 0 := by unfold frameE setE; simp [hb, hs, hf]
  have hst : stayF fs f = fs[f] := by simp [stayF, hf]
  have e1 : longE ps fs l f k = (if kindD ps l fs[f] = 0 then 0 else 4) := by
    unfold longE
    rw [if_pos hfr, if_pos h2, hst]
  refine ⟨by simp [fits]; omega, by simp [fits]; omega, by simp [askedV, hb], e1, ?_⟩
  unfold longV
  rw [e1, hst]
  by_cases hk : kindD ps l fs[f] = 0
  · simp [hk]
  · simp [hk]
set_option maxRecDepth 10000 in
set_option maxHeartbeats 3200000 in
theorem refLonger_any (pp : Option Addr) (cp : Nat) (pf : Option Addr) (cf : Nat) (ps : List Pt) (ms : List FrM) (w : World) (hB : BkAt w pp pf ps ms) (q : Option Addr) (c : Nat) (l : List Int) (hl : IntsAt w q l) (hn : l.length < 2 ^ 62) (f k : Int) : Calls Try.prog 36 #[.agg #[.slice pp ps.length cp, .slice pf ms.length cf], .slice q l.length c, .int .i64 f, .int .i64 k] w fun e w' => e = .returned (.tuple #[.int .i64 (longV ps (frsM ms) l f k), .int .i64 (longE ps (frsM ms) l f k)]) ∧ Below w.heap.size w w' := by
  have hnp := hB.b1
  have hnf := hB.b2
  obtain ⟨W0, hW0⟩ : ∃ W, W = (w.alloc (.cells #[.slice pp ps.length cp, .slice pf ms.length cf] 25)) := ⟨_, rfl⟩
  have HW0 := Lib.hid hW0
  have HB := Lib.hid hB
  have HE := Lib.hid (show Below w.heap.size w W0 by rw [hW0]; exact below_alloc _ _)
  have HR := Lib.hid (show Row W0 w.heap.size #[.slice pp ps.length cp, .slice pf ms.length cf] 25 by rw [hW0]; exact Row.new _ _ _)
  have c0 := HR.out.cell 0 (v := .slice pp ps.length cp) rfl
  have c1 := HR.out.cell 1 (v := .slice pf ms.length cf) rfl
  have HL := Lib.hid hl
  have HIS := Lib.hid (fun w' (k : Below W0.heap.size W0 w') => refIsSet_any pp ps.length cp pf ms.length cf q c l w' (HL.out.below (HE.out.trans (k.mono HE.out.size))) hn hnp)
  have HIF := Lib.hid (fun w' (_ : Below W0.heap.size W0 w') => refIsFrame_any pp ps.length cp pf ms.length cf f w' hnf)
  have HIP := Lib.hid (fun w' (_ : Below W0.heap.size W0 w') => refIsPart_any pp ps.length cp pf ms.length cf k w' hnp)
  have HAS := Lib.hid (fun r w' (k : Below W0.heap.size W0 w') => refAsked_any pp cp pf cf ps ms r w' (HB.out.below (HE.out.trans (k.mono HE.out.size))))
  clear hB hl hW0
  by_cases hg : AskB ps (frsM ms) l f k
  · obtain ⟨n, rfl⟩ : ∃ n : Nat, f = n := ⟨f.toNat, by have := hg.2.2.1.1; omega⟩
    obtain ⟨m, rfl⟩ : ∃ n : Nat, k = n := ⟨k.toNat, by have := hg.2.2.2.1; omega⟩
    have hnl : n < ms.length := by have := hg.2.2.1.2; rw [frsM_length] at this; omega
    have hml : m < ps.length := by have := hg.2.2.2.2; omega
    obtain ⟨g1, g2, g3, g4, g5⟩ := long_good hg (by rw [frsM_length]; exact hnl)
    rw [frsM_at (by rw [frsM_length]; exact hnl)] at g4 g5
    rw [frsM_length] at g1
    rw [hg.2.1] at HIS
    rw [g1] at HIF
    rw [g2] at HIP
    have HAS1 := Lib.hid (HAS.out true)
    rw [g3] at HAS1
    rw [g4, g5]
    have hok := bookB_iff.1 hg.1
    have hfr := (bk_of HB.out hg.1).fr hnl
    have hsb2 := hg.2.1
    have hg4 : ps.length ≤ 4 := hok.p4
    have HD := Lib.hid (fun (st : List Int) (sp : Option Addr) (sc : Nat) (hl : st.length = ms[n].f.stay.length) (hr : ∀ x ∈ st, 0 ≤ x ∧ x ≤ 20) (r : Bool) (hr2 : (decide (ms[n].f.lo ≤ dryD Pt.hi ps l st) && decide (dryD Pt.lo ps l st ≤ ms[n].f.hi)) = r) w' (k : Below W0.heap.size W0 w') (hi : IntsAt w' sp st) => (by
      have h := refDry_any pp cp pf ms.length cf ps q c l sp sc st ms[n].f.lo ms[n].f.hi w' (HB.out.below (HE.out.trans (k.mono HE.out.size))).p hok.p hok.p1 hok.p4 (HL.out.below (HE.out.trans (k.mono HE.out.size))) hsb2 hi (by rw [hl]; exact hfr.n) hr
      rw [hl, hr2] at h
      exact h : Calls Try.prog 84 #[.agg #[.slice pp ps.length cp, .slice pf ms.length cf], .slice q l.length c, .agg #[.slice sp ms[n].f.stay.length sc, .int .i64 ms[n].f.lo, .int .i64 ms[n].f.hi]] w' fun e w'' => e = .returned (.bool r) ∧ Below w'.heap.size w' w''))
    obtain ⟨b', o', hpf, q0, q1, q2, hst⟩ := (HB.out.below HE.out).f n hnl
    subst hpf
    have HST := Lib.hid hst
    have HFS := Lib.hid hfr.s
    have HFN := Lib.hid hfr.n
    have i1 : (0 : Int) ≤ (n : Int) := by omega
    have i2 : (n : Int) < (ms.length : Int) := by omega
    have HKD := Lib.hid (show decide (kindD ps l ms[n].f = 0) = (decide (ms[n].f.lo ≤ dryD Pt.hi ps l ms[n].f.stay) && decide (dryD Pt.lo ps l ms[n].f.stay ≤ ms[n].f.hi)) by
      rw [Bool.eq_iff_iff]; simp only [Bool.and_eq_true, decide_eq_true_eq]; exact kind_zero)
    clear hg g1 g2 g3 g4 g5 hok hfr hst hsb2
    have HLB := Lib.hid (fun (j : Nat) => (by
      rw [Bool.eq_iff_iff]; simp only [Bool.and_eq_true, longB, decide_eq_true_eq]; exact (kind_zero (f := longFr ms[n].f m j)).symm : (decide (ms[n].f.lo ≤ dryD Pt.hi ps l (ms[n].f.stay.set m (at0 ms[n].f.stay m + j))) && decide (dryD Pt.lo ps l (ms[n].f.stay.set m (at0 ms[n].f.stay m + j)) ≤ ms[n].f.hi)) = longB ps l ms[n].f m j))
    generalize longB ps l ms[n].f m = B at *
    obtain ⟨dk, hdk⟩ : ∃ d, decide (kindD ps l ms[n].f = 0) = d := ⟨_, rfl⟩
    rw [hdk] at HKD
    have hif : ∀ a b : Int, (if kindD ps l ms[n].f = 0 then a else b) = if dk = true then a else b := by
      intro a b; rw [← hdk]; simp only [decide_eq_true_eq]
    rw [hif, hif]
    have hs20 : at0 ms[n].f.stay m ≤ 20 ∧ 0 ≤ at0 ms[n].f.stay m := by
      have := HFS.out _ (at0_mem (l := ms[n].f.stay) (i := m) (by rw [HFN.out]; exact hml))
      omega
    have hsl : m < ms[n].f.stay.length := by rw [HFN.out]; exact hml
    have hs10 : ms[n].f.stay.length ≤ 10 := by
      rw [HFN.out]; have := hg4; omega
    clear hdk hif HAS HFN
    generalize ms[n].f.stay = st at *
    generalize ms[n].p = sp at *
    generalize ms[n].c = sc at *
    generalize ms[n].f.lo = flo at *
    generalize ms[n].f.hi = fhi at *
    obtain ⟨sb, so, hsp, hsc⟩ := HST.out m hsl
    subst hsp
    have HD0 := Lib.hid (HD.out st (some ⟨sb, so, none⟩) sc rfl HFS.out dk HKD.out.symm)
    obtain ⟨T, hT⟩ : ∃ T : Nat, (20 - at0 st m).toNat = T := ⟨_, rfl⟩
    have hTT : (T : Int) = 20 - at0 st m := by omega
    have hT20 : T ≤ 20 := by omega
    have HTT := Lib.hid hTT
    rw [hT]
    generalize hsv : at0 st m = sv at *
    clear hT hTT
    cases dk
    · rw [if_neg Bool.false_ne_true, if_neg Bool.false_ne_true]
      go_enter Try.func36, Try.ntmps36
      go_wp2_with fail
      rw [← HW0.out]
      refine wp_region_later (by kernel_rfl) (by kernel_rfl) ?_
      repeat (go_big_quiet_step (first
        | (go_at_call 60; exact Calls.later_of (HIS.out _ (Later.b _)))
        | (go_at_call 66; exact Calls.later_of (HIF.out _ (Later.b _)))
        | (go_at_call 83; exact Calls.later_of (HIP.out _ (Later.b _)))
        | (go_at_call 59; exact Calls.later_of (HAS1.out _ (Later.b _)))))
      refine wpQuiet_nil ?_
      intro _ hw'
      obtain ⟨y, hw''⟩ := hw'
      subst hw''
      go_wp2_with fail
      have hb5 : Below W0.heap.size W0 (y.w.alloc (.cells #[.slice (some ⟨sb, so, none⟩) st.length sc, .int .i64 flo, .int .i64 fhi] 55)) := y.b.alloc y.b.size _
      have r5 := Row.new y.w #[.slice (some ⟨sb, so, none⟩) st.length sc, .int .i64 flo, .int .i64 fhi] 55
      generalize y.w.alloc (.cells #[.slice (some ⟨sb, so, none⟩) st.length sc, .int .i64 flo, .int .i64 fhi] 55) = W1 at hb5 r5 ⊢
      generalize y.w.heap.size = b5 at r5 ⊢
      obtain ⟨x1, hx1⟩ := later_of hb5
      subst hx1
      have e0 := r5.cell 0 (v := .slice (some ⟨sb, so, none⟩) st.length sc) rfl
      have e1 := r5.cell 1 (v := .int .i64 flo) rfl
      have e2 := r5.cell 2 (v := .int .i64 fhi) rfl
      clear r5 hb5
      refine (HD0.out _ x1.b (HST.out.below x1.b)).mono ?_
      rintro e u ⟨rfl, hbu⟩
      obtain ⟨z, hz⟩ := later_of hbu
      subst hz
      clear hbu
      go_wp2_with fail
      go_ret2
      exact ⟨rfl, z.base (x1.base HE.out)⟩
    · rw [if_pos rfl, if_pos rfl]
      go_enter Try.func36, Try.ntmps36
      go_wp2_with fail
      rw [← HW0.out]
      refine wp_region_later (by kernel_rfl) (by kernel_rfl) ?_
      repeat (go_big_quiet_step (first
        | (go_at_call 60; exact Calls.later_of (HIS.out _ (Later.b _)))
        | (go_at_call 66; exact Calls.later_of (HIF.out _ (Later.b _)))
        | (go_at_call 83; exact Calls.later_of (HIP.out _ (Later.b _)))
        | (go_at_call 59; exact Calls.later_of (HAS1.out _ (Later.b _)))))
      refine wpQuiet_nil ?_
      intro _ hw'
      obtain ⟨y, hw''⟩ := hw'
      subst hw''
      go_wp2_with fail
      have hb5 : Below W0.heap.size W0 (y.w.alloc (.cells #[.slice (some ⟨sb, so, none⟩) st.length sc, .int .i64 flo, .int .i64 fhi] 55)) := y.b.alloc y.b.size _
      have r5 := Row.new y.w #[.slice (some ⟨sb, so, none⟩) st.length sc, .int .i64 flo, .int .i64 fhi] 55
      generalize y.w.alloc (.cells #[.slice (some ⟨sb, so, none⟩) st.length sc, .int .i64 flo, .int .i64 fhi] 55) = W1 at hb5 r5 ⊢
      generalize y.w.heap.size = b5 at r5 ⊢
      obtain ⟨x1, hx1⟩ := later_of hb5
      subst hx1
      have e0 := r5.cell 0 (v := .slice (some ⟨sb, so, none⟩) st.length sc) rfl
      have e1 := r5.cell 1 (v := .int .i64 flo) rfl
      have e2 := r5.cell 2 (v := .int .i64 fhi) rfl
      clear r5 hb5
      refine (HD0.out _ x1.b (HST.out.below x1.b)).mono ?_
      rintro e u ⟨rfl, hbu⟩
      obtain ⟨z, hz⟩ := later_of hbu
      subst hz
      clear hbu
      go_wp2_with fail
      have j1 : (0 : Int) ≤ (m : Int) := by omega
      have j2 : (m : Int) < (st.length : Int) := by omega
      have hp : (1 : Int) ≤ 21 := by decide
      go_loopw [12, 13] (fun bv mv wr => ∃ j : Nat, 1 ≤ j ∧ j ≤ T + 1 ∧ mv = .int .i64 j ∧ bv = .int .i64 (longN B (j - 1) : Nat) ∧ ∃ z : Later x1.w, wr = z.w) (fun _ mv _ => T + 1 - (intOf mv).toNat)
      case atStart => exact ⟨1, by omega, by omega, rfl, rfl, z, rfl⟩
      case round =>
        obtain ⟨j, hj1, hj, rfl, rfl, z, rfl⟩ := hrel
        have HTJ := Lib.hid HTT.out
        by_cases hlt : j ≤ T
        · have hc : sv + (j : Int) ≤ 20 := by have := HTT.out; omega
          have hLP := Lib.hid (longN_pos B hj1)
          have HSTY := Lib.hid (fun w' (kk : From x1.w w') => (by
            have h := refStays_any st sb so sc flo fhi w' ((HST.out.below x1.b).below kk.b) hs10 m hsl (j : Int) (by rw [hsv]; omega) (by rw [hsv]; omega) (by omega) (by omega)
            rw [hsv] at h
            exact h))
          have hrng : ∀ y ∈ st.set m (sv + (j : Int)), 0 ≤ y ∧ y ≤ 20 := by
            intro y hy
            rcases List.mem_or_eq_of_mem_set hy with hy | rfl
            · exact HFS.out y hy
            · omega
          have HDJ := Lib.hid (fun g cap w' (kk : From x1.w w') (hi : IntsAt w' (some ⟨g, 0, none⟩) (st.set m (sv + (j : Int)))) => HD.out (st.set m (sv + (j : Int))) (some ⟨g, 0, none⟩) cap (by simp) hrng (B j) (HLB.out j) w' (x1.b.trans (kk.b.mono x1.b.size)) hi)
          have HSS := Lib.hid (fun w' (kk : From x1.w w') => (⟨(x1.fr.trans kk).cell c0, (x1.fr.trans kk).cell c1, kk.cell e0, kk.cell e1, kk.cell e2⟩ : w'.cell? ⟨w.heap.size, 0, none⟩ = some (.slice pp ps.length cp) ∧ w'.cell? ⟨w.heap.size, 1, none⟩ = some (.slice (some ⟨b', o', none⟩) ms.length cf) ∧ w'.cell? ⟨b5, 0, none⟩ = some (.slice (some ⟨sb, so, none⟩) st.length sc) ∧ w'.cell? ⟨b5, 1, none⟩ = some (.int .i64 flo) ∧ w'.cell? ⟨b5, 2, none⟩ = some (.int .i64 fhi)))
          have KI := Lib.hid z.fr
          clear hrng
          generalize B j = d at *
          have hj20 : j ≤ 20 := by omega
          go_wp2_with fail
          go_region_held3 (fun w' => w'.cell? ⟨w.heap.size, 0, none⟩ = some (.slice pp ps.length cp) ∧ w'.cell? ⟨w.heap.size, 1, none⟩ = some (.slice (some ⟨b', o', none⟩) ms.length cf) ∧ w'.cell? ⟨b5, 0, none⟩ = some (.slice (some ⟨sb, so, none⟩) st.length sc) ∧ w'.cell? ⟨b5, 1, none⟩ = some (.int .i64 flo) ∧ w'.cell? ⟨b5, 2, none⟩ = some (.int .i64 fhi)) (first | with_reducible exact HSS.out _ KI.out | with_reducible exact HSS.out _ KI.out.drew)
            (first
              | (go_at_call 85; (first | with_reducible refine (HSTY.out _ KI.out).mono ?_ | with_reducible refine (HSTY.out _ KI.out.drew).mono ?_); rintro e wy ⟨g, cap, rfl, hig, _, hbu⟩; have KI := Lib.hid (by first | with_reducible exact KI.out.drew.below hbu | with_reducible exact KI.out.below hbu); have HIG := Lib.hid hig; clear hig hbu)
              | (go_at_call 84; (first | with_reducible refine (HDJ.out _ _ _ KI.out HIG.out).mono ?_); rintro e wy ⟨rfl, hbu⟩; have KI := Lib.hid (by first | with_reducible exact KI.out.drew.below hbu | with_reducible exact KI.out.below hbu); clear hbu))
          all_goals
            obtain ⟨z2, hz2⟩ := later_of KI.out.b
            subst hz2
            cases d
            · go_wp2_with fail
              go_roundw
              case rel => exact ⟨j + 1, by omega, by omega, by go_num, by rw [show j + 1 - 1 = j by omega, hLP.out]; simp, z2, rfl⟩
              case measure => simp [intOf]; omega
            · go_wp2_with fail
              go_roundw
              case rel => exact ⟨j + 1, by omega, by omega, by go_num, by rw [show j + 1 - 1 = j by omega, hLP.out]; simp, z2, rfl⟩
              case measure => simp [intOf]; omega
        · obtain rfl : j = T + 1 := by omega
          have hc : ¬ sv + ((T + 1 : Nat) : Int) ≤ 20 := by have := HTT.out; omega
          go_wp2_with fail
          go_ret2
          exact ⟨rfl, z.base (x1.base HE.out)⟩
  · obtain ⟨h1, h2, h3⟩ := long_bad hg
    rw [h2]
    rw [frsM_length] at h3
    obtain ⟨v, hv⟩ : ∃ v, longE ps (frsM ms) l f k = v := ⟨_, rfl⟩
    rw [hv] at h1 h3 ⊢
    have h0' : (v != 0) = true := by simpa using h1
    have HAS1 := Lib.hid (HAS.out (isSetB ps.length l && fits f 0 ((ms.length : Int) - 1) && fits k 0 ((ps.length : Int) - 1)))
    rw [h3] at HAS1
    clear h1 h2 h3 hg hv
    generalize fits k 0 ((ps.length : Int) - 1) = d3 at *
    generalize fits f 0 ((ms.length : Int) - 1) = d2 at *
    generalize isSetB ps.length l = d1 at *
    cases d1
    · simp only [Bool.false_and] at HAS1
      go_enter Try.func36, Try.ntmps36
      go_wp2_with fail
      rw [← HW0.out]
      refine wp_region_later (by kernel_rfl) (by kernel_rfl) ?_
      repeat (go_big_quiet_step (first
        | (go_at_call 60; exact Calls.later_of (HIS.out _ (Later.b _)))
        | (go_at_call 66; exact Calls.later_of (HIF.out _ (Later.b _)))
        | (go_at_call 83; exact Calls.later_of (HIP.out _ (Later.b _)))
        | (go_at_call 59; exact Calls.later_of (HAS1.out _ (Later.b _)))))
      refine wpQuiet_nil ?_
      intro _ hw'
      obtain ⟨y, hw''⟩ := hw'
      subst hw''
      go_wp2_with fail
      go_ret2
      exact ⟨rfl, y.base HE.out⟩
    · cases d2
      · simp only [Bool.true_and, Bool.false_and] at HAS1
        go_enter Try.func36, Try.ntmps36
        go_wp2_with fail
        rw [← HW0.out]
        refine wp_region_later (by kernel_rfl) (by kernel_rfl) ?_
        repeat (go_big_quiet_step (first
          | (go_at_call 60; exact Calls.later_of (HIS.out _ (Later.b _)))
          | (go_at_call 66; exact Calls.later_of (HIF.out _ (Later.b _)))
          | (go_at_call 83; exact Calls.later_of (HIP.out _ (Later.b _)))
          | (go_at_call 59; exact Calls.later_of (HAS1.out _ (Later.b _)))))
        refine wpQuiet_nil ?_
        intro _ hw'
        obtain ⟨y, hw''⟩ := hw'
        subst hw''
        go_wp2_with fail
        go_ret2
        exact ⟨rfl, y.base HE.out⟩
      · simp only [Bool.true_and] at HAS1
        go_enter Try.func36, Try.ntmps36
        go_wp2_with fail
        rw [← HW0.out]
        refine wp_region_later (by kernel_rfl) (by kernel_rfl) ?_
        repeat (go_big_quiet_step (first
          | (go_at_call 60; exact Calls.later_of (HIS.out _ (Later.b _)))
          | (go_at_call 66; exact Calls.later_of (HIF.out _ (Later.b _)))
          | (go_at_call 83; exact Calls.later_of (HIP.out _ (Later.b _)))
          | (go_at_call 59; exact Calls.later_of (HAS1.out _ (Later.b _)))))
        refine wpQuiet_nil ?_
        intro _ hw'
        obtain ⟨y, hw''⟩ := hw'
        subst hw''
        go_wp2_with fail
        go_ret2
        exact ⟨rfl, y.base HE.out⟩
end Go.Proofs.Ytfppcmechfjpoaa
