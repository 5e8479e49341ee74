/- The walks of the specification of layer 3: two frames at once. -/
import Derived.Test.YtfppcmechfjpoaaRHL
import Derived.Test.YtfppcmechfjpoaaLT
namespace Go.Proofs.Ytfppcmechfjpoaa
open Go.RowKit Go.Maps
attribute [local go_sem] Oper.semAt_some
set_option maxRecDepth 10000 in
set_option maxHeartbeats 1600000 in
theorem refBoth_any (pp : Option Addr) (cp : Nat) (pf : Option Addr) (cf : Nat) (ps : List Pt) (ms : List FrM) (w : World) (hB : BkAt w pp pf ps ms) (hb : bookB ps (frsM ms) = true) (one other : Nat) (h1 : one < ms.length) (h2 : other < ms.length) :
    Calls Try.prog 81 #[.agg #[.slice pp ps.length cp, .slice pf ms.length cf], .int .i64 one, .int .i64 other] w fun e w' => e = .returned (.bool (bothR ps ms one other)) ∧ Below w.heap.size w w' := by
  obtain ⟨r, hr⟩ : ∃ r, r = bothR ps ms one other := ⟨_, rfl⟩
  rw [← hr]
  have HRR := Lib.hid hr
  clear hr
  have HB := Lib.hid hB
  have hok := bookB_iff.1 hb
  have HBK := Lib.hid (bk_of hB hb)
  have HOK := Lib.hid hok
  have hn4 : ps.length ≤ 4 := hok.p4
  have hn1 : 1 ≤ ps.length := hok.p1
  have HR := Lib.hid (Row.new w #[.slice pp ps.length cp, .slice pf ms.length cf] 25)
  have HE := Lib.hid (below_alloc w (.cells #[.slice pp ps.length cp, .slice pf ms.length cf] 25))
  have HS := Lib.hid (fun u => refSets_nil pp ps.length cp pf ms.length cf hn4 hn1 u)
  clear hB hok hb hn4 hn1
  go_enter Try.func81, Try.ntmps81
  go_wp2_with (first | (go_at_call 104; refine (HS.out _).mono ?_; rintro e u ⟨b3, o3, c3, vals3, rfl, hc3, hr3, hbu⟩; have KI := Lib.hid hbu; have HC3 := Lib.hid hc3; have HR3 := Lib.hid hr3; clear hc3 hr3 hbu))
  have hu := KI.out
  have HB1 := Lib.hid (HB.out.below (HE.out.trans (hu.mono HE.out.size)))
  have HR1 := Lib.hid (HR.out.below hu HR.out.lt)
  have HBU := Lib.hid (HE.out.trans (hu.mono HE.out.size))
  clear hu KI HR HE HB HS
  obtain ⟨nS, hnS⟩ : ∃ n, n = (setsL ps.length).length := ⟨_, rfl⟩
  have HNS := Lib.hid hnS
  have hnS4 : nS ≤ 256 := by
    rw [hnS, setsL_length]
    exact Nat.le_trans (Nat.pow_le_pow_right (by decide) HOK.out.p4) (by decide)
  rw [← HNS.out]
  clear hnS
  have c0 := HR1.out.cell 0 (v := .slice pp ps.length cp) rfl
  have c1 := HR1.out.cell 1 (v := .slice pf ms.length cf) rfl
  go_loopw [8] (fun i wr => ∃ k : Nat, k ≤ nS ∧ i = .int .i64 k ∧ (∀ j (h : j < (setsL ps.length).length), j < k → (dryI ps (frsM ms) (setsL ps.length)[j] one && dryI ps (frsM ms) (setsL ps.length)[j] other) = false) ∧ ∃ x : Later u, wr = x.w) (fun i _ => nS - (intOf i).toNat)
  case atStart => exact ⟨0, by omega, rfl, fun j h hj => by omega, ⟨u, Below.refl _ _⟩, rfl⟩
  case round =>
    obtain ⟨k, hk, rfl, hno, x, rfl⟩ := hrel
    have HNO := Lib.hid hno
    clear hno
    by_cases hlt : k < nS
    · have hlt' : k < (setsL ps.length).length := by rw [← HNS.out]; exact hlt
      obtain ⟨q, o, c, hv, hq, hqz⟩ := HR3.out.2 k hlt'
      have hsm := List.getElem_mem hlt'
      have c3 := HC3.out k _ hv
      generalize hse : (setsL ps.length)[k] = s at *
      have HSE := Lib.hid hse
      have hsB : isSetB ps.length s = true := by
        have h := mem_setsL.1 hsm
        simp [isSetB, setB, h.1]
        exact h.2
      have HD := Lib.hid (fun (i : Nat) (hi : i < ms.length) w' (kk : From u w') => (by
        obtain ⟨_, _, _, _, _, _, g3⟩ := (HB1.out.below kk.b).f i hi
        have hfr := HBK.out.fr hi
        have h := refDry_any pp cp pf ms.length cf ps (some ⟨q, o, none⟩) c s ms[i].p ms[i].c ms[i].f.stay ms[i].f.lo ms[i].f.hi w' (HB1.out.below kk.b).p HOK.out.p HOK.out.p1 HOK.out.p4 (kk.ints hq) hsB g3 hfr.n hfr.s
        rw [dryI_K] at h
        exact h : Calls Try.prog 84 #[.agg #[.slice pp ps.length cp, .slice pf ms.length cf], .slice (some ⟨q, o, none⟩) s.length c, .agg #[.slice ms[i].p ms[i].f.stay.length ms[i].c, .int .i64 ms[i].f.lo, .int .i64 ms[i].f.hi]] w' fun e w'' => e = .returned (.bool (dryI ps (frsM ms) s i)) ∧ Below w'.heap.size w' w''))
      obtain ⟨bf, of, hpf, a0, a1, a2, _⟩ := HB1.out.f one h1
      obtain ⟨bf2, of2, hpf2, d0, d1, d2, _⟩ := HB1.out.f other h2
      rw [hpf] at hpf2
      cases hpf2
      subst hpf
      have HD1 := Lib.hid (HD.out one h1)
      have HD2 := Lib.hid (HD.out other h2)
      have i1 : (0 : Int) ≤ (k : Int) := by omega
      have i2 : (k : Int) < (nS : Int) := by omega
      have i3 : (0 : Int) ≤ (one : Int) := by omega
      have i4 : (one : Int) < (ms.length : Int) := by omega
      have i5 : (0 : Int) ≤ (other : Int) := by omega
      have i6 : (other : Int) < (ms.length : Int) := by omega
      have HSM := Lib.hid hsm
      obtain ⟨d1, hd1⟩ : ∃ d, dryI ps (frsM ms) s one = d := ⟨_, rfl⟩
      obtain ⟨d2, hd2⟩ : ∃ d, dryI ps (frsM ms) s other = d := ⟨_, rfl⟩
      have HV1 := Lib.hid hd1
      have HV2 := Lib.hid hd2
      rw [hd1] at HD1
      rw [hd2] at HD2
      have HKN := Lib.hid (fun (hd : (d1 && d2) = false) j (h : j < (setsL ps.length).length) (hj : j < k + 1) => (by
        by_cases e : j = k
        · subst e; rw [HSE.out, HV1.out, HV2.out]; exact hd
        · exact HNO.out j h (by omega) : (dryI ps (frsM ms) (setsL ps.length)[j] one && dryI ps (frsM ms) (setsL ps.length)[j] other) = false))
      clear hq hqz hsm hsB hse hv HD hd1 hd2
      go_wp2_with fail
      cases d1
      · refine wp_region_later (by kernel_rfl) (by kernel_rfl) ?_
        repeat (go_big_quiet_step (first | (go_at_call 84; exact Calls.later_of (HD1.out _ ((Later.fr _).trans (Later.fr _))))))
        refine wpQuiet_nil ?_
        intro _ hw'
        obtain ⟨y, hw''⟩ := hw'
        subst hw''
        go_wp2_with fail
        go_roundw
        case rel => exact ⟨k + 1, by omega, by go_num, HKN.out rfl, x.up y⟩
        case measure => simp [intOf]; omega
      · refine wp_region_later (by kernel_rfl) (by kernel_rfl) ?_
        repeat (go_big_quiet_step (first | (go_at_call 84; first | with_reducible exact Calls.later_of (HD1.out _ ((Later.fr _).trans (Later.fr _))) | with_reducible exact Calls.later_of (HD2.out _ ((Later.fr _).trans (Later.fr _))))))
        refine wpQuiet_nil ?_
        intro _ hw'
        obtain ⟨y, hw''⟩ := hw'
        subst hw''
        cases d2
        · go_wp2_with fail
          go_roundw
          case rel => exact ⟨k + 1, by omega, by go_num, HKN.out rfl, x.up y⟩
          case measure => simp [intOf]; omega
        · go_wp2_with fail
          go_ret
          exact ⟨ret_bool (HRR.out.trans (bothR_iff.2 ⟨s, HSM.out, HV1.out, HV2.out⟩)).symm, y.base (x.base HBU.out)⟩
    · obtain rfl : k = nS := by omega
      go_wp2_with fail
      go_ret
      refine ⟨ret_bool (HRR.out.trans ?_).symm, x.base HBU.out⟩
      rw [Bool.eq_false_iff]
      intro h
      obtain ⟨s, hs, h3, h4⟩ := bothR_iff.1 h
      obtain ⟨j, hj, rfl⟩ := List.mem_iff_getElem.1 hs
      have := HNO.out j hj (by rw [HNS.out]; exact hj)
      rw [h3, h4] at this
      cases this
end Go.Proofs.Ytfppcmechfjpoaa
/- The walks of the specification of layer 3: the setting by which the most frames surely are dry in time. -/
namespace Go.Proofs.Ytfppcmechfjpoaa
open Go.RowKit Go.Maps
attribute [local go_sem] Oper.semAt_some

theorem take_snoc' {α : Type} {l : List α} {k : Nat} (h : k < l.length) : l.take (k + 1) = l.take k ++ [l[k]] := List.take_succ_eq_append_getElem h
theorem best_step {ps : List Pt} {fs : List Fr} {k : Nat} {s t : List Int} (hk : k < (setsL ps.length).length) (ht : (setsL ps.length)[k] = t) (hb : bestOf (rankD ps fs) ((setsL ps.length).take k) = some s) :
    bestOf (rankD ps fs) ((setsL ps.length).take (k + 1)) = some (if rankD ps fs t < rankD ps fs s then t else s) := by
  rw [take_snoc' hk, bestOf_snoc, hb, ht, better]
  split <;> rfl
theorem rank_lt {ps : List Pt} {fs : List Fr} {s t : List Int} {n m : Nat} {h g : Int} (hn : (goodD ps fs t).length = n) (hm : (goodD ps fs s).length = m) (hh : heatD ps t = h) (hg : heatD ps s = g) (b1 : 0 ≤ h ∧ h ≤ 80) (b2 : 0 ≤ g ∧ g ≤ 80) :
    rankD ps fs t < rankD ps fs s ↔ (m < n ∨ n = m ∧ h < g) := by
  unfold rankD
  rw [hn, hm, hh, hg]
  omega
set_option maxRecDepth 10000 in
set_option maxHeartbeats 3200000 in
theorem refMost_of (pp : Option Addr) (cp : Nat) (pf : Option Addr) (cf : Nat) (ps : List Pt) (ms : List FrM) (w : World) (hB : BkAt w pp pf ps ms) (hb : bookB ps (frsM ms) = true) :
    Calls Try.prog 77 #[.agg #[.slice pp ps.length cp, .slice pf ms.length cf]] w (GaveInts (mostD ps (frsM ms)) w) := by
  have HB := Lib.hid hB
  have hok := bookB_iff.1 hb
  have HBB := Lib.hid hb
  have HOK := Lib.hid hok
  have hn4 : ps.length ≤ 4 := hok.p4
  have hn1 : 1 ≤ ps.length := hok.p1
  have HR := Lib.hid (Row.new w #[.slice pp ps.length cp, .slice pf ms.length cf] 25)
  have HE := Lib.hid (below_alloc w (.cells #[.slice pp ps.length cp, .slice pf ms.length cf] 25))
  have HS := Lib.hid (fun u => refSets_nil pp ps.length cp pf ms.length cf hn4 hn1 u)
  obtain ⟨nS, hnS⟩ : ∃ n, n = (setsL ps.length).length := ⟨_, rfl⟩
  have hnS1 : 1 ≤ nS := by rw [hnS, setsL_length]; exact Nat.pow_pos (by decide)
  have hnS4 : nS ≤ 256 := by
    rw [hnS, setsL_length]
    exact Nat.le_trans (Nat.pow_le_pow_right (by decide) hn4) (by decide)
  have HNS := Lib.hid hnS
  have HMO := Lib.hid (most_eq ps (frsM ms))
  have i0 : (0 : Int) < (nS : Int) := by omega
  clear hB hok hb hn4 hn1 hnS
  go_enter Try.func77, Try.ntmps77
  go_wp2_with (first | (go_at_call 104; refine (HS.out _).mono ?_; rintro e u ⟨b3, o3, c3, vals3, rfl, hc3, hr3, hbu⟩; have KI := Lib.hid hbu; have HC3 := Lib.hid hc3; have HR3 := Lib.hid hr3; clear hc3 hr3 hbu; obtain ⟨q, o, c, hv, hq, hqz⟩ := HR3.out.2 0 (by rw [← HNS.out]; exact hnS1); have c3 : u.cell? ⟨b3, o3, none⟩ = _ := HC3.out 0 _ hv; clear hv; rw [← HNS.out]))
  have hu := KI.out
  have HB1 := Lib.hid (HB.out.below (HE.out.trans (hu.mono HE.out.size)))
  have HR1 := Lib.hid (HR.out.below hu HR.out.lt)
  have HBU := Lib.hid (HE.out.trans (hu.mono HE.out.size))
  have HQ := Lib.hid hq
  clear hu KI HR HE HB HS hq
  have c0 := HR1.out.cell 0 (v := .slice pp ps.length cp) rfl
  have c1 := HR1.out.cell 1 (v := .slice pf ms.length cf) rfl
  have HG := Lib.hid (fun (s : List Int) (hs : s ∈ setsL ps.length) (n : Nat) (hn : (goodD ps (frsM ms) s).length = n) (q : Option Addr) (c : Nat) (hq : IntsAt u q s) w' (kk : From u w') => (by
    have hsB : isSetB ps.length s = true := by
      have h := mem_setsL.1 hs
      simp [isSetB, setB, h.1]
      exact h.2
    refine (refGoodOf_any pp cp pf cf ps ms q c s w' (HB1.out.below kk.b) HBB.out (kk.ints hq) hsB).mono ?_
    rintro e w2 ⟨p, c, rfl, _, hb⟩
    exact ⟨p, c, by rw [hn], hb⟩ : Calls Try.prog 71 #[.agg #[.slice pp ps.length cp, .slice pf ms.length cf], .slice q s.length c] w' fun e w'' => ∃ p c, e = .returned (.slice p n c) ∧ Below w'.heap.size w' w''))
  have HH := Lib.hid (fun (s : List Int) (hs : s ∈ setsL ps.length) (n : Int) (hn : heatD ps s = n) (q : Option Addr) (c : Nat) (hq : IntsAt u q s) w' (kk : From u w') => (by
    have hsB : isSetB ps.length s = true := by
      have h := mem_setsL.1 hs
      simp [isSetB, setB, h.1]
      exact h.2
    have h := refHeatOf_any pp cp pf ms.length cf ps q c s w' (HB1.out.below kk.b).p HOK.out.p HOK.out.p1 HOK.out.p4 (kk.ints hq) hsB
    rw [hn] at h
    exact h : Calls Try.prog 61 #[.agg #[.slice pp ps.length cp, .slice pf ms.length cf], .slice q s.length c] w' fun e w'' => e = .returned (.int .i64 n) ∧ Below w'.heap.size w' w''))
  go_loopw [4, 5] (fun bv i wr => ∃ k : Nat, 1 ≤ k ∧ k ≤ nS ∧ i = .int .i64 k ∧ (∃ s q o c, bv = .slice (some ⟨q, o, none⟩) s.length c ∧ IntsAt u (some ⟨q, o, none⟩) s ∧ s ∈ setsL ps.length ∧ bestOf (rankD ps (frsM ms)) ((setsL ps.length).take k) = some s) ∧ ∃ x : Later u, wr = x.w) (fun _ i _ => nS - (intOf i).toNat)
  case atStart =>
    have h0 : 0 < (setsL ps.length).length := by rw [← HNS.out]; exact hnS1
    refine ⟨1, by omega, hnS1, rfl, ⟨_, _, _, _, rfl, HQ.out, List.getElem_mem h0, ?_⟩, ⟨u, Below.refl _ _⟩, rfl⟩
    rw [take_snoc' h0]
    rfl
  case round =>
    obtain ⟨k, hk1, hk, rfl, ⟨sb, qb, ob, cb, rfl, hqb, hsb, hbest⟩, x, rfl⟩ := hrel
    have HBE := Lib.hid hbest
    by_cases hlt : k < nS
    · have hlt' : k < (setsL ps.length).length := by rw [← HNS.out]; exact hlt
      obtain ⟨q', o', c', hv, hq, _⟩ := HR3.out.2 k hlt'
      have hsm := List.getElem_mem hlt'
      have c3k := HC3.out k _ hv
      generalize hse : (setsL ps.length)[k] = s at *
      obtain ⟨n1, hn1⟩ : ∃ n, (goodD ps (frsM ms) s).length = n := ⟨_, rfl⟩
      obtain ⟨n2, hn2⟩ : ∃ n, (goodD ps (frsM ms) sb).length = n := ⟨_, rfl⟩
      obtain ⟨g1, hg1⟩ : ∃ n, heatD ps s = n := ⟨_, rfl⟩
      obtain ⟨g2, hg2⟩ : ∃ n, heatD ps sb = n := ⟨_, rfl⟩
      have HG1 := Lib.hid (HG.out s hsm n1 hn1 (some ⟨q', o', none⟩) c' hq)
      have HG2 := Lib.hid (HG.out sb hsb n2 hn2 (some ⟨qb, ob, none⟩) cb hqb)
      have HH1 := Lib.hid (HH.out s hsm g1 hg1 (some ⟨q', o', none⟩) c' hq)
      have HH2 := Lib.hid (HH.out sb hsb g2 hg2 (some ⟨qb, ob, none⟩) cb hqb)
      have HRK := Lib.hid (rank_lt hn1 hn2 hg1 hg2 (by rw [← hg1]; exact heatD_range HOK.out.p HOK.out.p4 s) (by rw [← hg2]; exact heatD_range HOK.out.p HOK.out.p4 sb))
      have HST := Lib.hid (best_step hlt' hse hbest)
      have HQ1 := Lib.hid hq
      have HQB := Lib.hid hqb
      have HSM := Lib.hid hsm
      have HSB := Lib.hid hsb
      have i1 : (0 : Int) ≤ (k : Int) := by omega
      have i2 : (k : Int) < (nS : Int) := by omega
      have HK := Lib.hid hk
      clear hse hv hn1 hn2 hg1 hg2 hsm hsb hq hqb hbest hk
      have KI := Lib.hid x.fr
      have HSS := Lib.hid (fun w' (kk : From u w') => (⟨kk.cell c0, kk.cell c1, kk.cell c3k⟩ : w'.cell? ⟨w.heap.size, 0, none⟩ = some (.slice pp ps.length cp) ∧ w'.cell? ⟨w.heap.size, 1, none⟩ = some (.slice pf ms.length cf) ∧ w'.cell? ⟨b3, o3 + k, none⟩ = some (.slice (some ⟨q', o', none⟩) s.length c')))
      go_wp2_with fail
      go_region_held3 (fun w' => w'.cell? ⟨w.heap.size, 0, none⟩ = some (.slice pp ps.length cp) ∧ w'.cell? ⟨w.heap.size, 1, none⟩ = some (.slice pf ms.length cf) ∧ w'.cell? ⟨b3, o3 + k, none⟩ = some (.slice (some ⟨q', o', none⟩) s.length c')) (first | with_reducible exact HSS.out _ KI.out | with_reducible exact HSS.out _ KI.out.drew)
        (first
          | (go_at_call 71; (first | with_reducible refine (HG1.out _ KI.out).mono ?_ | with_reducible refine (HG1.out _ KI.out.drew).mono ?_ | with_reducible refine (HG2.out _ KI.out).mono ?_ | with_reducible refine (HG2.out _ KI.out.drew).mono ?_); rintro e wy ⟨_, _, rfl, hbu⟩; have KI := Lib.hid (by first | with_reducible exact KI.out.drew.below hbu | with_reducible exact KI.out.below hbu); clear hbu))
      all_goals
        obtain ⟨z, hz⟩ := later_of KI.out.b
        subst hz
        have HKN := Lib.hid (show ∀ t q o c, IntsAt u (some ⟨q, o, none⟩) t → t ∈ setsL ps.length → (if rankD ps (frsM ms) s < rankD ps (frsM ms) sb then s else sb) = t → ∃ s_1 q_1 o_1 c_1, (Value.slice (some ⟨q, o, none⟩) t.length c) = .slice (some ⟨q_1, o_1, none⟩) s_1.length c_1 ∧ IntsAt u (some ⟨q_1, o_1, none⟩) s_1 ∧ s_1 ∈ setsL ps.length ∧ bestOf (rankD ps (frsM ms)) ((setsL ps.length).take (k + 1)) = some s_1 from fun t q o c h1 h2 h3 => ⟨t, q, o, c, rfl, h1, h2, by rw [HST.out, h3]⟩)
        by_cases e1 : n2 < n1
        · have e1' : (n2 : Int) < (n1 : Int) := by omega
          go_wp2_with fail
          refine wp_region_later (by kernel_rfl) (by kernel_rfl) ?_
          repeat (go_big_quiet_step (fail))
          refine wpQuiet_nil ?_
          intro _ hw'
          obtain ⟨y, hw''⟩ := hw'
          subst hw''
          go_wp2_with fail
          go_roundw
          case rel => exact ⟨k + 1, by omega, by have := HK.out; omega, by go_num, HKN.out s q' o' c' HQ1.out HSM.out (if_pos (HRK.out.2 (.inl e1))), z.up y⟩
          case measure => simp [intOf]; omega
        · have e1' : ¬ (n2 : Int) < (n1 : Int) := by omega
          by_cases e2 : n1 = n2
          · have e2' : ((n1 : Int) == (n2 : Int)) = true := beq_iff_eq.2 (by omega)
            have HE2 := Lib.hid e2
            by_cases e3 : g1 < g2
            · clear e2
              go_wp2_with fail
              refine wp_region_later (by kernel_rfl) (by kernel_rfl) ?_
              repeat (go_big_quiet_step (first | (go_at_call 61; first | with_reducible exact Calls.later_of (HH1.out _ ((Later.fr _).trans (Later.fr _))) | with_reducible exact Calls.later_of (HH2.out _ ((Later.fr _).trans (Later.fr _))))))
              refine wpQuiet_nil ?_
              intro _ hw'
              obtain ⟨y, hw''⟩ := hw'
              subst hw''
              go_wp2_with fail
              go_roundw
              case rel => exact ⟨k + 1, by omega, by have := HK.out; omega, by go_num, HKN.out s q' o' c' HQ1.out HSM.out (if_pos (HRK.out.2 (.inr ⟨HE2.out, e3⟩))), z.up y⟩
              case measure => simp [intOf]; omega
            · clear e2
              go_wp2_with fail
              refine wp_region_later (by kernel_rfl) (by kernel_rfl) ?_
              repeat (go_big_quiet_step (first | (go_at_call 61; first | with_reducible exact Calls.later_of (HH1.out _ ((Later.fr _).trans (Later.fr _))) | with_reducible exact Calls.later_of (HH2.out _ ((Later.fr _).trans (Later.fr _))))))
              refine wpQuiet_nil ?_
              intro _ hw'
              obtain ⟨y, hw''⟩ := hw'
              subst hw''
              go_wp2_with fail
              go_roundw
              case rel => exact ⟨k + 1, by omega, by have := HK.out; omega, by go_num, HKN.out sb qb ob cb HQB.out HSB.out (if_neg (fun h => by rcases HRK.out.1 h with h | h <;> omega)), z.up y⟩
              case measure => simp [intOf]; omega
          · have e2' : ((n1 : Int) == (n2 : Int)) = false := beq_eq_false_iff_ne.2 (by omega)
            go_wp2_with fail
            refine wp_region_later (by kernel_rfl) (by kernel_rfl) ?_
            repeat (go_big_quiet_step (fail))
            refine wpQuiet_nil ?_
            intro _ hw'
            obtain ⟨y, hw''⟩ := hw'
            subst hw''
            go_wp2_with fail
            go_roundw
            case rel => exact ⟨k + 1, by omega, by have := HK.out; omega, by go_num, HKN.out sb qb ob cb HQB.out HSB.out (if_neg (fun h => by rcases HRK.out.1 h with h | h <;> omega)), z.up y⟩
            case measure => simp [intOf]; omega
    · obtain rfl : k = nS := by omega
      have HQB := Lib.hid hqb
      have HMB := Lib.hid (show mostD ps (frsM ms) = sb by
        have h := HMO.out
        rw [HNS.out, List.take_length] at hbest
        rw [hbest] at h
        exact (Option.some.inj h).symm)
      clear hbest hqb
      go_wp2_with fail
      go_ret
      exact ⟨some ⟨qb, ob, none⟩, cb, by rw [HMB.out]; rfl, by rw [HMB.out]; exact x.fr.ints HQB.out, x.base HBU.out⟩
end Go.Proofs.Ytfppcmechfjpoaa
