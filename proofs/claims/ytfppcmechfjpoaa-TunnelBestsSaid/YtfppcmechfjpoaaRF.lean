/- The walks of the specification of layer 3: the frames that surely are dry in time. -/
import Derived.Test.YtfppcmechfjpoaaRDE
import Derived.Test.YtfppcmechfjpoaaWAX
namespace Go.Proofs.Ytfppcmechfjpoaa
open Go.RowKit Go.Maps
attribute [local go_sem] Oper.semAt_some

theorem dryI_K {ps : List Pt} {ms : List FrM} {s : List Int} {k : Nat} (h : k < ms.length) : (decide (ms[k].f.lo ≤ dryD Pt.hi ps s ms[k].f.stay) && decide (dryD Pt.lo ps s ms[k].f.stay ≤ ms[k].f.hi)) = dryI ps (frsM ms) s k := by
  rw [dryI_of (by rw [frsM_length]; exact h), Bool.eq_iff_iff]
  simp only [Bool.and_eq_true, decide_eq_true_eq]
  have e1 : (frsM ms)[k]'(by rw [frsM_length]; exact h) = ms[k].f := by simp [frsM]
  rw [e1, kind_zero]
set_option maxRecDepth 10000 in
set_option maxHeartbeats 3200000 in
theorem refGoodOf_any (pp : Option Addr) (cp : Nat) (pf : Option Addr) (cf : Nat) (ps : List Pt) (ms : List FrM) (q : Option Addr) (c : Nat) (s : List Int) (w : World) (hB : BkAt w pp pf ps ms) (hb : bookB ps (frsM ms) = true) (hI : IntsAt w q s) (hs : isSetB ps.length s = true) :
    Calls Try.prog 71 #[.agg #[.slice pp ps.length cp, .slice pf ms.length cf], .slice q s.length c] w (GaveInts (goodD ps (frsM ms) s) w) := by
  obtain ⟨i0, hi, hi0, hi1, hi2⟩ := info_parts Try.infoInt
  have HB := Lib.hid hB
  have HI := Lib.hid hI
  have hok := bookB_iff.1 hb
  have HBK := Lib.hid (bk_of hB hb)
  have HOK := Lib.hid hok
  have hn5 := HBK.out.n5
  have HG := Lib.hid (show goodD ps (frsM ms) s = pickL (dryI ps (frsM ms) s) ms.length by rw [goodD, frsM_length])
  have HSB := Lib.hid hs
  have HR := Lib.hid (Row.new w #[.slice pp ps.length cp, .slice pf ms.length cf] 25)
  have HE := Lib.hid (below_alloc w (.cells #[.slice pp ps.length cp, .slice pf ms.length cf] 25))
  rw [HG.out]
  clear hB hI hok hb hs
  go_enter Try.func71, Try.ntmps71
  go_wp2_with fail
  go_loopw [5, 6] (fun ls i wr => ∃ k : Nat, k ≤ ms.length ∧ i = .int .i64 k ∧ wr.ownsRow (w.heap.size + 1) 3 1 ls (pickL (dryI ps (frsM ms) s) k).length ((pickL (dryI ps (frsM ms) s) k).map (Value.int .i64)) ∧ Row wr w.heap.size #[.slice pp ps.length cp, .slice pf ms.length cf] 25 ∧ Below w.heap.size w wr) (fun _ i _ => ms.length - (intOf i).toNat)
  case atStart => exact ⟨0, by omega, rfl, World.ownsRow_nil _ _ _ _, HR.out, HE.out⟩
  case round =>
    clear HR HE
    obtain ⟨k, hk, rfl, hown, r0, e0⟩ := hrel
    have HO1 := Lib.hid hown
    have HR := Lib.hid r0
    have HE := Lib.hid e0
    have hz := r0.lt
    clear hown r0 e0
    have c1 := HR.out.cell 1 (v := .slice pf ms.length cf) rfl
    by_cases hlt : k < ms.length
    · obtain ⟨b', o', hpf, q0, q1, q2, q3⟩ := (HB.out.below HE.out).f k hlt
      have hfr := HBK.out.fr hlt
      have HS := Lib.hid (pickL_succ (dryI ps (frsM ms) s) k)
      have HDK := Lib.hid (dryI_K (ps := ps) (s := s) hlt)
      have hpl := pickL_length (dryI ps (frsM ms) s) k
      have HD := Lib.hid (fun w' (kk : Below w.heap.size w w') => (by
        obtain ⟨_, _, _, _, _, _, g3⟩ := (HB.out.below kk).f k hlt
        exact refDry_any pp cp pf ms.length cf ps q c s ms[k].p ms[k].c ms[k].f.stay ms[k].f.lo ms[k].f.hi w' (HB.out.below kk).p HOK.out.p HOK.out.p1 HOK.out.p4 (HI.out.below kk) HSB.out g3 hfr.n hfr.s : Calls Try.prog 84 #[.agg #[.slice pp ps.length cp, .slice pf ms.length cf], .slice q s.length c, .agg #[.slice ms[k].p ms[k].f.stay.length ms[k].c, .int .i64 ms[k].f.lo, .int .i64 ms[k].f.hi]] w' fun e w'' => e = .returned (.bool (decide (ms[k].f.lo ≤ dryD Pt.hi ps s ms[k].f.stay) && decide (dryD Pt.lo ps s ms[k].f.stay ≤ ms[k].f.hi))) ∧ Below w'.heap.size w' w''))
      rw [HDK.out] at HD
      generalize dryI ps (frsM ms) s k = dk at *
      generalize ms[k].f.stay = st at *
      generalize ms[k].f.lo = flo at *
      generalize ms[k].f.hi = fhi at *
      generalize ms[k].p = sp at *
      generalize ms[k].c = sc at *
      generalize pickL (dryI ps (frsM ms) s) k = pk at *
      have i1 : (0 : Int) ≤ (k : Int) := by omega
      have i2 : (k : Int) < (ms.length : Int) := by omega
      have HPF := Lib.hid hpf
      clear hpf hfr q3
      go_wp2_with fail
      have e1w := c1
      rw [HPF.out] at e1w
      have KI := Lib.hid (From.refl wr)
      have HSS := Lib.hid (fun w' (kk : From wr w') => (⟨(kk.row HR.out).cell 0 rfl, by rw [← HPF.out]; exact (kk.row HR.out).cell 1 rfl, kk.cell q0, kk.cell q1, kk.cell q2⟩ : w'.cell? ⟨w.heap.size, 0, none⟩ = some (.slice pp ps.length cp) ∧ w'.cell? ⟨w.heap.size, 1, none⟩ = some (.slice (some ⟨b', o', none⟩) ms.length cf) ∧ w'.cell? ⟨b', o' + k * 3, none⟩ = some (.slice sp st.length sc) ∧ w'.cell? ⟨b', o' + k * 3 + 1, none⟩ = some (.int .i64 flo) ∧ w'.cell? ⟨b', o' + k * 3 + 2, none⟩ = some (.int .i64 fhi)))
      clear c1 e1w q0 q1 q2
      rw [HPF.out] at HD
      go_region_held3 (fun w' => w'.cell? ⟨w.heap.size, 0, none⟩ = some (.slice pp ps.length cp) ∧ w'.cell? ⟨w.heap.size, 1, none⟩ = some (.slice (some ⟨b', o', none⟩) ms.length cf) ∧ w'.cell? ⟨b', o' + k * 3, none⟩ = some (.slice sp st.length sc) ∧ w'.cell? ⟨b', o' + k * 3 + 1, none⟩ = some (.int .i64 flo) ∧ w'.cell? ⟨b', o' + k * 3 + 2, none⟩ = some (.int .i64 fhi)) (first | with_reducible exact HSS.out _ KI.out | with_reducible exact HSS.out _ KI.out.drew)
        (first
          | (go_at_call 84; (first | refine (HD.out _ (HE.out.trans (KI.out.b.mono HE.out.size))).mono ?_ | refine (HD.out _ (HE.out.trans (KI.out.drew.b.mono HE.out.size))).mono ?_); rintro e wy ⟨rfl, hbu⟩; have KI := Lib.hid (by first | with_reducible exact KI.out.drew.below hbu | with_reducible exact KI.out.below hbu); clear hbu))
      all_goals
        have HR2 := Lib.hid (KI.out.row HR.out)
        have HE2 := Lib.hid (HE.out.trans (KI.out.b.mono HE.out.size))
        have HO2 := Lib.hid (owns_below HO1.out KI.out.b)
        have hz2 := HR2.out.lt
        clear HO1
        cases dk
        · go_wp2_with fail
          go_roundw
          case rel => exact ⟨k + 1, by omega, by go_num, by rw [HS.out]; exact HO2.out, HR2.out, HE2.out⟩
          case measure => simp [intOf]; omega
        · go_wp2_with (first
            | (at_builtin; (refine wpList_append_own _ rfl _ _ 26 rfl (w.heap.size + 1) 3 i0 (.int .i64 0) 1 8 Try.underlying26 hi hi0 hi1 hi2 rfl (by decide) _ _ _ rfl (HO2.out.alloc _) ⟨wy.heap.size, 0, none⟩ 1 1 [.int .i64 (k : Int)] rfl rfl (cell_one_new _ _ _) (by simp [Value.oneCell']) (by unfold maxLen; omega) (by omega) (by simp; omega) ?_); intro v' w2 hown' hgrow _; have HO := Lib.hid hown'; have hg2 : Below (w.heap.size + 1) wy w2 := ((Below.refl _ _).alloc (by omega) _).grown hgrow (by simp; omega) (fun k hk => (HO2.out.lt k hk).1); have HR2 := Lib.hid (HR2.out.below hg2 (by omega)); have HE2 := Lib.hid (HE2.out.trans (hg2.mono (by omega))); clear hg2 hown' hgrow))
          go_roundw
          case rel => exact ⟨k + 1, by omega, by go_num, by rw [HS.out]; simpa using HO.out, HR2.out, HE2.out⟩
          case measure => simp [intOf]; omega
    · obtain rfl : k = ms.length := by omega
      obtain ⟨p, c', rfl, hints, hle, hcm, hp⟩ := ints_of_owns2 HO1.out
      have HIN := Lib.hid hints
      clear hints
      unfold maxLen at hcm
      rcases hp with rfl | ⟨g, rfl, hg⟩
      · go_wp2
        go_ret
        exact ⟨_, _, rfl, HIN.out, HE.out⟩
      · go_wp2
        go_ret
        exact ⟨_, _, rfl, HIN.out, HE.out⟩
set_option maxRecDepth 10000 in
set_option maxHeartbeats 3200000 in
theorem refGood_any (pp : Option Addr) (cp : Nat) (pf : Option Addr) (cf : Nat) (ps : List Pt) (ms : List FrM) (w : World) (hB : BkAt w pp pf ps ms) (q : Option Addr) (c : Nat) (l : List Int) (hl : IntsAt w q l) (hn : l.length < 2 ^ 62) : Calls Try.prog 24 #[.agg #[.slice pp ps.length cp, .slice pf ms.length cf], .slice q l.length c] w (GaveListE (goodV ps (frsM ms) l) (setE ps (frsM ms) l) w) := by
  have hE := below_alloc w (.cells #[.slice pp ps.length cp, .slice pf ms.length cf] 25)
  have HB := Lib.hid hB
  have HE := Lib.hid hE
  have HR := Lib.hid (Row.new w #[.slice pp ps.length cp, .slice pf ms.length cf] 25)
  have HL := Lib.hid hl
  have hnp := hB.b1
  obtain ⟨W0, hW0⟩ : ∃ W, W = w.alloc (.cells #[.slice pp ps.length cp, .slice pf ms.length cf] 25) := ⟨_, rfl⟩
  rw [← hW0] at HE HR
  have HW0 := Lib.hid hW0
  have KI := Lib.hid (From.refl W0)
  have HSS := Lib.hid (fun w' (k : From W0 w') => (⟨(k.row HR.out).cell 0 rfl, (k.row HR.out).cell 1 rfl⟩ : w'.cell? ⟨w.heap.size, 0, none⟩ = some (.slice pp ps.length cp) ∧ w'.cell? ⟨w.heap.size, 1, none⟩ = some (.slice pf ms.length cf)))
  clear hE hB hl hW0
  obtain ⟨v, hv⟩ : ∃ x, setE ps (frsM ms) l = x := ⟨_, rfl⟩
  have HV := Lib.hid hv
  by_cases h0 : v = 0
  · subst h0
    have hbs : bookB ps (frsM ms) = true ∧ isSetB ps.length l = true := by
      unfold setE at hv
      split at hv
      · rename_i h1
        split at hv
        · rename_i h2; exact ⟨h1, h2⟩
        · cases hv
      · cases hv
    have HHV := Lib.hid (show goodV ps (frsM ms) l = goodD ps (frsM ms) l by rw [goodV, if_pos hv])
    have HBB := Lib.hid hbs.1
    have HSB := Lib.hid hbs.2
    clear hv hbs
    rw [HHV.out, HV.out]
    go_enter Try.func24, Try.ntmps24
    go_wp2_with fail
    rw [← HW0.out]
    go_region_held3 (fun w' => w'.cell? ⟨w.heap.size, 0, none⟩ = some (.slice pp ps.length cp) ∧ w'.cell? ⟨w.heap.size, 1, none⟩ = some (.slice pf ms.length cf)) (first | with_reducible exact HSS.out _ KI.out | with_reducible exact HSS.out _ KI.out.drew)
      (first
      | (go_at_call 60; (with_reducible refine (refIsSet_any _ _ _ _ _ _ _ _ l _ (by first | with_reducible exact HL.out.below (HE.out.trans (KI.out.b.mono HE.out.size)) | with_reducible exact HL.out.below (HE.out.trans (KI.out.drew.b.mono HE.out.size))) hn hnp).mono ?_); rintro e wy ⟨rfl, hbu⟩; have KI := Lib.hid (by first | with_reducible exact KI.out.drew.below hbu | with_reducible exact KI.out.below hbu); clear hbu)
      | (go_at_call 59; (with_reducible refine (refAsked_any _ _ _ _ ps ms _ _ (HB.out.below (HE.out.trans (KI.out.b.mono HE.out.size)))).mono ?_); rw [setE_asked, HV.out]; rintro e wy ⟨rfl, hbu⟩; have KI := Lib.hid (KI.out.below hbu); clear hbu))
    all_goals
      have c0 := (KI.out.row HR.out).cell 0 (v := .slice pp ps.length cp) rfl
      have c1 := (KI.out.row HR.out).cell 1 (v := .slice pf ms.length cf) rfl
      have HE2 := Lib.hid (HE.out.trans (KI.out.b.mono HE.out.size))
      go_wp2_with fail
      refine (refGoodOf_any _ _ _ _ ps ms _ _ l _ (HB.out.below HE2.out) HBB.out (HL.out.below HE2.out) HSB.out).mono ?_
      rintro e w9 ⟨pg, cg, rfl, hg, hb⟩
      have HG := Lib.hid hg
      have HE3 := Lib.hid (HE2.out.trans (hb.mono HE2.out.size))
      clear hg hb c0 c1
      go_wp2_with fail
      go_ret2
      exact ⟨pg, cg, rfl, HG.out, HE3.out⟩
  · have h0' : (v != 0) = true := by simpa using h0
    have HHV := Lib.hid (show goodV ps (frsM ms) l = [] by rw [goodV, if_neg (by rw [hv]; exact h0)])
    clear hv
    rw [HHV.out, HV.out]
    go_enter Try.func24, Try.ntmps24
    go_wp2_with fail
    rw [← HW0.out]
    go_region_held3 (fun w' => w'.cell? ⟨w.heap.size, 0, none⟩ = some (.slice pp ps.length cp) ∧ w'.cell? ⟨w.heap.size, 1, none⟩ = some (.slice pf ms.length cf)) (first | with_reducible exact HSS.out _ KI.out | with_reducible exact HSS.out _ KI.out.drew)
      (first
      | (go_at_call 60; (with_reducible refine (refIsSet_any _ _ _ _ _ _ _ _ l _ (by first | with_reducible exact HL.out.below (HE.out.trans (KI.out.b.mono HE.out.size)) | with_reducible exact HL.out.below (HE.out.trans (KI.out.drew.b.mono HE.out.size))) hn hnp).mono ?_); rintro e wy ⟨rfl, hbu⟩; have KI := Lib.hid (by first | with_reducible exact KI.out.drew.below hbu | with_reducible exact KI.out.below hbu); clear hbu)
      | (go_at_call 59; (with_reducible refine (refAsked_any _ _ _ _ ps ms _ _ (HB.out.below (HE.out.trans (KI.out.b.mono HE.out.size)))).mono ?_); rw [setE_asked, HV.out]; rintro e wy ⟨rfl, hbu⟩; have KI := Lib.hid (KI.out.below hbu); clear hbu))
    all_goals
      have HE2 := Lib.hid (HE.out.trans (KI.out.b.mono HE.out.size))
      go_wp2_with fail
      go_ret2
      exact nil_list v w _ HE2.out
end Go.Proofs.Ytfppcmechfjpoaa
