/- The walks of the specification of layer 3: how dry a frame is, and what becomes of it. -/
import Derived.Test.YtfppcmechfjpoaaRDE
import Derived.Test.YtfppcmechfjpoaaLT
import Derived.Test.YtfppcmechfjpoaaRMN
import Derived.Test.YtfppcmechfjpoaaUY
namespace Go.Proofs.Ytfppcmechfjpoaa
open Go.RowKit Go.Maps
attribute [local go_sem] Oper.semAt_some

set_option maxRecDepth 10000 in
set_option maxHeartbeats 1600000 in
theorem refDries_any (pp : Option Addr) (cp : Nat) (pf : Option Addr) (cf : Nat) (ps : List Pt) (ms : List FrM) (w : World) (hB : BkAt w pp pf ps ms) (q : Option Addr) (c : Nat) (l : List Int) (hl : IntsAt w q l) (hn : l.length < 2 ^ 62) (f : Int) : Calls Try.prog 20 #[.agg #[.slice pp ps.length cp, .slice pf ms.length cf], .slice q l.length c, .int .i64 f] w fun e w' => e = .returned (.tuple #[.agg #[.int .i64 (loV ps (frsM ms) l f), .int .i64 (hiV ps (frsM ms) l f)], .int .i64 (frameE ps (frsM ms) l f)]) ∧ Below w.heap.size w w' := by
  have hnp := hB.b1
  have hnf := hB.b2
  obtain ⟨W0, hW0⟩ : ∃ W, W = (w.alloc (.cells #[.slice pp ps.length cp, .slice pf ms.length cf] 25)).alloc (.cells #[.int .i64 0, .int .i64 0] 32) := ⟨_, rfl⟩
  have HW0 := Lib.hid hW0
  have HB := Lib.hid hB
  have HL := Lib.hid hl
  have HE := Lib.hid (show Below w.heap.size w W0 by rw [hW0]; exact below_alloc2 _ _ _)
  have HR := Lib.hid (show Row W0 w.heap.size #[.slice pp ps.length cp, .slice pf ms.length cf] 25 by rw [hW0]; exact (Row.new _ _ _).alloc _)
  have HQ := Lib.hid (show Row W0 (w.heap.size + 1) #[.int .i64 0, .int .i64 0] 32 by rw [hW0]; exact Row.new1 _ _ _ _)
  have HAF := Lib.hid (asked_frame ps (frsM ms) l f)
  have c0 := HR.out.cell 0 (v := .slice pp ps.length cp) rfl
  have c1 := HR.out.cell 1 (v := .slice pf ms.length cf) rfl
  have z0 := HQ.out.cell 0 (v := .int .i64 0) rfl
  have z1 := HQ.out.cell 1 (v := .int .i64 0) rfl
  have f0 := HQ.out.free 0
  have f1 := HQ.out.free 1
  have HIS := Lib.hid (fun w' (k : Below W0.heap.size W0 w') => refIsSet_any pp ps.length cp pf ms.length cf q c l w' (HL.out.below (HE.out.trans (k.mono HE.out.size))) hn hnp)
  have HIF := Lib.hid (fun w' (_ : Below W0.heap.size W0 w') => refIsFrame_any pp ps.length cp pf ms.length cf f w' hnf)
  have HAS := Lib.hid (fun r w' (k : Below W0.heap.size W0 w') => refAsked_any pp cp pf cf ps ms r w' (HB.out.below (HE.out.trans (k.mono HE.out.size))))
  rw [frsM_length] at HAF
  obtain ⟨v, hv⟩ : ∃ x, frameE ps (frsM ms) l f = x := ⟨_, rfl⟩
  have HV := Lib.hid hv
  clear hB hl hW0
  by_cases h0 : v = 0
  · subst h0
    obtain ⟨hbk, hsb, hf0, hf1⟩ := frame_zero hv
    obtain ⟨n, rfl⟩ : ∃ n : Nat, f = n := ⟨f.toNat, by omega⟩
    have hnl : n < ms.length := by omega
    have L1 : loV ps (frsM ms) l (n : Int) = dryD Pt.hi ps l ms[n].f.stay := by rw [loV, if_pos hv, stayF_at hnl]
    have L2 : hiV ps (frsM ms) l (n : Int) = dryD Pt.lo ps l ms[n].f.stay := by rw [hiV, if_pos hv, stayF_at hnl]
    rw [L1, L2, hv]
    have hok := bookB_iff.1 hbk
    have hfr := (bk_of HB.out hbk).fr hnl
    have HA1 := Lib.hid (show askedV ps (frsM ms) (fits (n : Int) 0 ((ms.length : Int) - 1)) = 0 by have h := HAF.out; rw [hsb, Bool.true_and, hv] at h; exact h)
    have HAS1 := Lib.hid (HAS.out (fits (n : Int) 0 ((ms.length : Int) - 1)))
    rw [HA1.out] at HAS1
    have hsb2 := hsb
    rw [hsb] at HIS
    have HD := Lib.hid (fun w' (k : Below W0.heap.size W0 w') => (by
      obtain ⟨_, _, _, _, _, _, g3⟩ := (HB.out.below (HE.out.trans (k.mono HE.out.size))).f n hnl
      exact refDriesOf_any pp cp pf ms.length cf ps q c l ms[n].p ms[n].c ms[n].f.stay ms[n].f.lo ms[n].f.hi w' (HB.out.below (HE.out.trans (k.mono HE.out.size))).p hok.p hok.p1 hok.p4 (HL.out.below (HE.out.trans (k.mono HE.out.size))) hsb2 g3 hfr.n hfr.s : Calls Try.prog 67 #[.agg #[.slice pp ps.length cp, .slice pf ms.length cf], .slice q l.length c, .agg #[.slice ms[n].p ms[n].f.stay.length ms[n].c, .int .i64 ms[n].f.lo, .int .i64 ms[n].f.hi]] w' fun e w'' => e = .returned (.agg #[.int .i64 (dryD Pt.hi ps l ms[n].f.stay), .int .i64 (dryD Pt.lo ps l ms[n].f.stay)]) ∧ Below w'.heap.size w' w''))
    have i1 : (0 : Int) ≤ (n : Int) := by omega
    have i2 : (n : Int) < (ms.length : Int) := by omega
    obtain ⟨b', o', hpf, q0, q1, q2, _⟩ := (HB.out.below HE.out).f n hnl
    subst hpf
    generalize dryD Pt.hi ps l ms[n].f.stay = v1 at *
    generalize dryD Pt.lo ps l ms[n].f.stay = v2 at *
    have hbw : b' ≠ w.heap.size + 1 := by
      obtain ⟨_, _, e2, q, _⟩ := HB.out.f n hnl
      cases e2
      have := cell_block q
      simp only at this
      omega
    have HSS := Lib.hid (fun w' (k : FromB (w.heap.size + 1) W0 w') => (⟨k.cell c0 (by omega), k.cell c1 (by omega), k.cell q0 hbw, k.cell q1 hbw, k.cell q2 hbw⟩ : w'.cell? ⟨w.heap.size, 0, none⟩ = some (.slice pp ps.length cp) ∧ w'.cell? ⟨w.heap.size, 1, none⟩ = some (.slice (some ⟨b', o', none⟩) ms.length cf) ∧ w'.cell? ⟨b', o' + n * 3, none⟩ = some (.slice ms[n].p ms[n].f.stay.length ms[n].c) ∧ w'.cell? ⟨b', o' + n * 3 + 1, none⟩ = some (.int .i64 ms[n].f.lo) ∧ w'.cell? ⟨b', o' + n * 3 + 2, none⟩ = some (.int .i64 ms[n].f.hi)))
    clear hv hbk hsb hsb2 hf0 hf1 L1 L2 hok hfr
    go_enter Try.func20, Try.ntmps20
    go_wp2_with fail
    rw [← HW0.out]
    refine wp_region_later (by kernel_rfl) (by kernel_rfl) ?_
    repeat (go_big_quiet_step (first
      | (go_at_call 60; exact Calls.later_of (HIS.out _ (Later.b _)))
      | (go_at_call 66; exact Calls.later_of (HIF.out _ (Later.b _)))
      | (go_at_call 59; exact Calls.later_of (HAS1.out _ (Later.b _)))))
    refine wpQuiet_nil ?_
    intro _ hw'
    obtain ⟨y, hw''⟩ := hw'
    subst hw''
    go_wp2_with fail
    have KI := Lib.hid ((FromB.refl (w.heap.size + 1) W0).below y.b)
    have RQ := Lib.hid (y.fr.row HQ.out)
    clear z0 z1 f0 f1 c0 c1 q0 q1 q2
    go_region_held3 (fun w' => w'.cell? ⟨w.heap.size, 0, none⟩ = some (.slice pp ps.length cp) ∧ w'.cell? ⟨w.heap.size, 1, none⟩ = some (.slice (some ⟨b', o', none⟩) ms.length cf) ∧ w'.cell? ⟨b', o' + n * 3, none⟩ = some (.slice ms[n].p ms[n].f.stay.length ms[n].c) ∧ w'.cell? ⟨b', o' + n * 3 + 1, none⟩ = some (.int .i64 ms[n].f.lo) ∧ w'.cell? ⟨b', o' + n * 3 + 2, none⟩ = some (.int .i64 ms[n].f.hi)) (first | with_reducible exact HSS.out _ KI.out | with_reducible exact HSS.out _ KI.out.drew | with_reducible exact HSS.out _ ((KI.out.set _ _).set _ _))
      (first
        | (go_at_call 67; refine (HD.out _ y.b.drew).mono ?_; rintro e wy ⟨rfl, hbu⟩; have RQ := Lib.hid (RQ.out.drew.below hbu RQ.out.drew.lt); have KI := Lib.hid (KI.out.drew.below hbu); have HE3 := Lib.hid ((y.base HE.out).drew.trans (hbu.mono (y.base HE.out).drew.size)); clear hbu; have z0 := RQ.out.cell 0 (v := .int .i64 0) rfl; have z1 := RQ.out.cell 1 (v := .int .i64 0) rfl; have f0 := RQ.out.free 0; have f1 := RQ.out.free 1))
    all_goals
      go_wp2_with fail
      have q := (RQ.out.set 0 (.int .i64 v1)).set 1 (.int .i64 v2)
      have e0 := q.cell 0 (v := .int .i64 v1) rfl
      have e1 := q.cell 1 (v := .int .i64 v2) rfl
      exact bodyPost_ret (v := .tuple #[.agg #[.int .i64 v1, .int .i64 v2], .int .i64 0]) (by simp [results, Try.results20, go_sem, e0, e1]) rfl
        ⟨rfl, (HE3.out.setCell (by dsimp only; omega) _).setCell (by dsimp only; omega) _⟩
  · have h0' : (v != 0) = true := by simpa using h0
    have L1 : loV ps (frsM ms) l f = 0 := by rw [loV, if_neg (by rw [hv]; exact h0)]
    have L2 : hiV ps (frsM ms) l f = 0 := by rw [hiV, if_neg (by rw [hv]; exact h0)]
    rw [L1, L2, hv]
    have key : ∀ r, r = (isSetB ps.length l && fits f 0 ((ms.length : Int) - 1)) → askedV ps (frsM ms) r = v := fun r h => by rw [h]; exact HAF.out.trans hv
    cases hsb : isSetB ps.length l
    all_goals
      rw [hsb] at HIS
      have HAS1 := Lib.hid (HAS.out (isSetB ps.length l && fits f 0 ((ms.length : Int) - 1)))
      rw [key _ rfl, hsb] at HAS1
      simp only [Bool.true_and, Bool.false_and] at HAS1
      clear hsb hv L1 L2 h0 key
      go_enter Try.func20, Try.ntmps20
      go_wp2_with fail
      rw [← HW0.out]
      refine wp_region_later (by kernel_rfl) (by kernel_rfl) ?_
      repeat (go_big_quiet_step (first
        | (go_at_call 60; exact Calls.later_of (HIS.out _ (Later.b _)))
        | (go_at_call 66; exact Calls.later_of (HIF.out _ (Later.b _)))
        | (go_at_call 59; exact Calls.later_of (HAS1.out _ (Later.b _)))))
      refine wpQuiet_nil ?_
      intro _ hw'
      obtain ⟨y, hw''⟩ := hw'
      subst hw''
      go_wp2_with fail
      have RQ := ((y.fr.row HQ.out).set 0 (.int .i64 0)).set 1 (.int .i64 0)
      have e0 := RQ.cell 0 (v := .int .i64 0) rfl
      have e1 := RQ.cell 1 (v := .int .i64 0) rfl
      exact bodyPost_ret (v := .tuple #[.agg #[.int .i64 0, .int .i64 0], .int .i64 v]) (by simp [results, Try.results20, go_sem, e0, e1]) rfl
        ⟨rfl, ((y.base HE.out).setCell (by dsimp only; omega) _).setCell (by dsimp only; omega) _⟩
end Go.Proofs.Ytfppcmechfjpoaa
/- The walks of the specification of layer 3: what becomes of a frame; the best settings; frames that are lost, and that clash. -/
namespace Go.Proofs.Ytfppcmechfjpoaa
open Go.RowKit Go.Maps
attribute [local go_sem] Oper.semAt_some

theorem kindD_at {ps : List Pt} {s : List Int} {f : Fr} {v1 v2 : Int} (h1 : dryD Pt.hi ps s f.stay = v1) (h2 : dryD Pt.lo ps s f.stay = v2) : kindD ps s f = (if v1 < f.lo then 1 else 0) + (if f.hi < v2 then 2 else 0) := by
  unfold kindD
  rw [h1, h2]
set_option maxRecDepth 10000 in
set_option maxHeartbeats 1600000 in
theorem refKind_any (pp : Option Addr) (cp : Nat) (pf : Option Addr) (cf : Nat) (ps : List Pt) (ms : List FrM) (w : World) (hB : BkAt w pp pf ps ms) (q : Option Addr) (c : Nat) (l : List Int) (hl : IntsAt w q l) (hn : l.length < 2 ^ 62) (f : Int) : Calls Try.prog 22 #[.agg #[.slice pp ps.length cp, .slice pf ms.length cf], .slice q l.length c, .int .i64 f] w fun e w' => e = .returned (.tuple #[.int .i64 (kindV ps (frsM ms) l f), .int .i64 (frameE ps (frsM ms) l f)]) ∧ Below w.heap.size w w' := by
  obtain ⟨W0, hW0⟩ : ∃ W, W = (w.alloc (.cells #[.slice pp ps.length cp, .slice pf ms.length cf] 25)) := ⟨_, rfl⟩
  have HW0 := Lib.hid hW0
  have HB := Lib.hid hB
  have HE := Lib.hid (show Below w.heap.size w W0 by rw [hW0]; exact below_alloc _ _)
  have HR := Lib.hid (show Row W0 w.heap.size #[.slice pp ps.length cp, .slice pf ms.length cf] 25 by rw [hW0]; exact Row.new _ _ _)
  have c0 := HR.out.cell 0 (v := .slice pp ps.length cp) rfl
  have c1 := HR.out.cell 1 (v := .slice pf ms.length cf) rfl
  have HL := Lib.hid hl
  have HDR := Lib.hid (refDries_any pp cp pf cf ps ms W0 (HB.out.below HE.out) q c l (HL.out.below HE.out) hn f)
  clear hl
  obtain ⟨v, hv⟩ : ∃ x, frameE ps (frsM ms) l f = x := ⟨_, rfl⟩
  have HV := Lib.hid hv
  clear hB hW0
  by_cases h0 : v = 0
  · subst h0
    obtain ⟨hbk, hsb, hf0, hf1⟩ := frame_zero hv
    obtain ⟨n, rfl⟩ : ∃ n : Nat, f = n := ⟨f.toNat, by omega⟩
    have hnl : n < ms.length := by omega
    have L1 : loV ps (frsM ms) l (n : Int) = dryD Pt.hi ps l ms[n].f.stay := by rw [loV, if_pos hv, stayF_at hnl]
    have L2 : hiV ps (frsM ms) l (n : Int) = dryD Pt.lo ps l ms[n].f.stay := by rw [hiV, if_pos hv, stayF_at hnl]
    have L3 : kindV ps (frsM ms) l (n : Int) = kindD ps l ms[n].f := by rw [kindV, if_pos hv, stayF_at hnl]
    rw [L3, hv]
    rw [L1, L2, hv] at HDR
    obtain ⟨b', o', hpf, q0, q1, q2, _⟩ := (HB.out.below HE.out).f n hnl
    subst hpf
    obtain ⟨v1, hv1⟩ : ∃ x, dryD Pt.hi ps l ms[n].f.stay = x := ⟨_, rfl⟩
    obtain ⟨v2, hv2⟩ : ∃ x, dryD Pt.lo ps l ms[n].f.stay = x := ⟨_, rfl⟩
    rw [hv1, hv2] at HDR
    rw [kindD_at hv1 hv2]
    generalize ms[n].f.lo = flo at *
    generalize ms[n].f.hi = fhi at *
    have i1 : (0 : Int) ≤ (n : Int) := by omega
    have i2 : (n : Int) < (ms.length : Int) := by omega
    clear hv hbk hsb hf0 hf1 L1 L2 L3 hv1 hv2 q0
    by_cases e1 : v1 < flo
    all_goals
      by_cases e2 : fhi < v2
      all_goals
        simp only [e1, e2, if_true, if_false]
        go_enter Try.func22, Try.ntmps22
        go_wp2_with fail
        rw [← HW0.out]
        refine HDR.out.mono ?_
        rintro e u ⟨rfl, hbu⟩
        obtain ⟨x, rfl⟩ := later_of hbu
        clear hbu
        have hx := x.base HE.out
        go_wp2_with fail
        go_ret2
        exact ⟨rfl, (hx.alloc hx.size _).alloc (by have := hx.size; simp; omega) _⟩
  · have h0' : (v != 0) = true := by simpa using h0
    have L3 : kindV ps (frsM ms) l f = 0 := by rw [kindV, if_neg (by rw [hv]; exact h0)]
    rw [L3, hv]
    rw [hv] at HDR
    clear hv L3 h0
    go_enter Try.func22, Try.ntmps22
    go_wp2_with fail
    rw [← HW0.out]
    refine HDR.out.mono ?_
    rintro e u ⟨rfl, hbu⟩
    obtain ⟨x, rfl⟩ := later_of hbu
    clear hbu
    have hx := x.base HE.out
    go_wp2_with fail
    go_ret2
    exact ⟨rfl, hx.alloc hx.size _⟩
end Go.Proofs.Ytfppcmechfjpoaa
