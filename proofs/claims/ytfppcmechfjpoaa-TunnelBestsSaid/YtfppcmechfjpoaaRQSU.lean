/- The walks of the specification of layer 3: frames that are lost; the best settings; frames that clash. -/
import Derived.Test.YtfppcmechfjpoaaRMN
import Derived.Test.YtfppcmechfjpoaaRF
import Derived.Test.YtfppcmechfjpoaaUY
import Derived.Test.YtfppcmechfjpoaaRHL
namespace Go.Proofs.Ytfppcmechfjpoaa
open Go.RowKit Go.Maps
attribute [local go_sem] Oper.semAt_some

theorem both_cool {ps : List Pt} {ms : List FrM} {one other : Nat} : (coolD ps (frsM ms) [one, other]).isNone = !bothR ps ms one other := by
  rw [Bool.eq_iff_iff, pair_none, Bool.not_eq_true', Bool.eq_false_iff, Ne, bothR_iff]
  constructor
  · rintro h ⟨s, hs, h1, h2⟩; exact h s hs ⟨h1, h2⟩
  · intro h s hs h1; exact h ⟨s, hs, h1⟩
theorem both_lost {ps : List Pt} {ms : List FrM} {i : Nat} : lostI ps (frsM ms) i = !bothR ps ms i i := by
  rw [← both_cool]
  unfold lostI coolD doesL
  congr 3
  funext s
  simp
set_option maxRecDepth 10000 in
set_option maxHeartbeats 3200000 in
theorem refLost_of (pp : Option Addr) (cp : Nat) (pf : Option Addr) (cf : Nat) (ps : List Pt) (ms : List FrM) (w : World) (hB : BkAt w pp pf ps ms) (hb : bookB ps (frsM ms) = true) : Calls Try.prog 80 #[.agg #[.slice pp ps.length cp, .slice pf ms.length cf]] w (GaveInts (pickL (lostI ps (frsM ms)) ms.length) w) := by
  obtain ⟨i0, hi, hi0, hi1, hi2⟩ := info_parts Try.infoInt
  obtain ⟨W0, hW0⟩ : ∃ W, W = (w.alloc (.cells #[.slice pp ps.length cp, .slice pf ms.length cf] 25)) := ⟨_, rfl⟩
  have HW0 := Lib.hid hW0
  have HB := Lib.hid hB
  have HE := Lib.hid (show Below w.heap.size w W0 by rw [hW0]; exact below_alloc _ _)
  have HR := Lib.hid (show Row W0 w.heap.size #[.slice pp ps.length cp, .slice pf ms.length cf] 25 by rw [hW0]; exact Row.new _ _ _)
  have c0 := HR.out.cell 0 (v := .slice pp ps.length cp) rfl
  have c1 := HR.out.cell 1 (v := .slice pf ms.length cf) rfl
  have hn5 := (bk_of hB hb).n5
  have hz0 : W0.heap.size = w.heap.size + 1 := by rw [hW0]; simp
  have HBO := Lib.hid (fun (i : Nat) (h : i < ms.length) (x : Later W0) => refBoth_any pp cp pf cf ps ms x.w (HB.out.below (x.base HE.out)) hb i i h h)
  clear hB hW0 hb
  go_enter Try.func80, Try.ntmps80
  go_wp2_with fail
  rw [← HW0.out]
  go_loopw [3, 4] (fun ls i wr => ∃ k : Nat, k ≤ ms.length ∧ i = .int .i64 k ∧ wr.ownsRow W0.heap.size 3 1 ls (pickL (lostI ps (frsM ms)) k).length ((pickL (lostI ps (frsM ms)) k).map (Value.int .i64)) ∧ ∃ x : Later W0, wr = x.w) (fun _ i _ => ms.length - (intOf i).toNat)
  case atStart => exact ⟨0, by omega, rfl, World.ownsRow_nil _ _ _ _, ⟨W0, Below.refl _ _⟩, rfl⟩
  case round =>
    obtain ⟨k, hk, rfl, hown, x, rfl⟩ := hrel
    have HO := Lib.hid hown
    clear hown
    by_cases hlt : k < ms.length
    · have HS := Lib.hid (pickL_succ (lostI ps (frsM ms)) k)
      have hpl := pickL_length (lostI ps (frsM ms)) k
      have HC := Lib.hid (HBO.out k hlt x)
      have i1 : (0 : Int) ≤ (k : Int) := by omega
      have i2 : (k : Int) < (ms.length : Int) := by omega
      generalize pickL (lostI ps (frsM ms)) k = pk at *
      obtain ⟨d, hd⟩ : ∃ d, bothR ps ms k k = d := ⟨_, rfl⟩
      rw [hd] at HC
      rw [both_lost, hd] at HS
      clear hd hk
      cases d
      · go_wp2_with fail
        refine HC.out.mono ?_
        rintro e u ⟨rfl, hbu⟩
        have HO2 := Lib.hid (owns_below HO.out hbu)
        obtain ⟨y, hy⟩ := x.on hbu
        subst hy
        have hz2 := y.b.size
        clear hbu HO
        go_wp2_with (first
          | (at_builtin; (refine wpList_append_own _ rfl _ _ 26 rfl W0.heap.size 3 i0 (.int .i64 0) 1 8 Try.underlying26 hi hi0 hi1 hi2 rfl (by decide) _ _ _ rfl (HO2.out.alloc _) ⟨y.w.heap.size, 0, none⟩ 1 1 [.int .i64 (k : Int)] rfl rfl (cell_one_new _ _ _) (by simp [Value.oneCell']) (by unfold maxLen; omega) (by omega) (by simp; omega) ?_); intro v' w2 hown' hgrow _; have HO := Lib.hid hown'; have hg2 : Below W0.heap.size y.w w2 := ((Below.refl _ _).alloc (by omega) _).grown hgrow (by simp; omega) (fun k hk => (HO2.out.lt k hk).1); obtain ⟨z, hz⟩ := later_of (y.b.trans hg2); clear hg2 hown' hgrow))
        subst hz
        go_roundw
        case rel => exact ⟨k + 1, by omega, by go_num, by rw [HS.out]; simpa using HO.out, z, rfl⟩
        case measure => simp [intOf]; omega
      · go_wp2_with fail
        refine HC.out.mono ?_
        rintro e u ⟨rfl, hbu⟩
        have HO2 := Lib.hid (owns_below HO.out hbu)
        obtain ⟨y, hy⟩ := x.on hbu
        subst hy
        clear hbu HO
        go_wp2_with fail
        go_roundw
        case rel => exact ⟨k + 1, by omega, by go_num, by rw [HS.out]; exact HO2.out, y, rfl⟩
        case measure => simp [intOf]; omega
    · obtain rfl : k = ms.length := by omega
      obtain ⟨p, c', rfl, hints, hle, hcm, hp⟩ := ints_of_owns2 HO.out
      have HIN := Lib.hid hints
      clear hints
      unfold maxLen at hcm
      go_wp2
      go_ret
      exact ⟨_, _, rfl, HIN.out, x.base HE.out⟩
set_option maxRecDepth 10000 in
set_option maxHeartbeats 1600000 in
theorem refLost_any (pp : Option Addr) (cp : Nat) (pf : Option Addr) (cf : Nat) (ps : List Pt) (ms : List FrM) (w : World) (hB : BkAt w pp pf ps ms) : Calls Try.prog 32 #[.agg #[.slice pp ps.length cp, .slice pf ms.length cf]] w (GaveListE (lostL ps (frsM ms)) (bookE ps (frsM ms)) w) := by
  obtain ⟨W0, hW0⟩ : ∃ W, W = (w.alloc (.cells #[.slice pp ps.length cp, .slice pf ms.length cf] 25)) := ⟨_, rfl⟩
  have HW0 := Lib.hid hW0
  have HB := Lib.hid hB
  have HE := Lib.hid (show Below w.heap.size w W0 by rw [hW0]; exact below_alloc _ _)
  have HR := Lib.hid (show Row W0 w.heap.size #[.slice pp ps.length cp, .slice pf ms.length cf] 25 by rw [hW0]; exact Row.new _ _ _)
  have c0 := HR.out.cell 0 (v := .slice pp ps.length cp) rfl
  have c1 := HR.out.cell 1 (v := .slice pf ms.length cf) rfl
  have HCK := Lib.hid (refCheck_any pp cp pf cf ps ms W0 (HB.out.below HE.out))
  clear hB hW0
  cases hb : bookB ps (frsM ms)
  · rw [bookE_bad hb] at HCK
    rw [show lostL ps (frsM ms) = [] by simp [lostL, hb], bookE_bad hb]
    clear hb
    go_enter Try.func32, Try.ntmps32
    go_wp2_with fail
    rw [← HW0.out]
    refine HCK.out.mono ?_
    rintro e u ⟨rfl, hbu⟩
    obtain ⟨x, rfl⟩ := later_of hbu
    clear hbu
    have hx := x.base HE.out
    go_wp2_with fail
    go_ret2
    exact nil_list _ w _ hx
  · rw [bookE_ok hb] at HCK
    rw [show lostL ps (frsM ms) = pickL (lostI ps (frsM ms)) ms.length by simp [lostL, hb, frsM_length], bookE_ok hb]
    have HL := Lib.hid (fun (x : Later W0) => refLost_of pp cp pf cf ps ms x.w (HB.out.below (x.base HE.out)) hb)
    clear hb
    go_enter Try.func32, Try.ntmps32
    go_wp2_with fail
    rw [← HW0.out]
    refine HCK.out.mono ?_
    rintro e u ⟨rfl, hbu⟩
    obtain ⟨x, rfl⟩ := later_of hbu
    clear hbu
    have hx := x.base HE.out
    go_wp2_with fail
    refine (HL.out x).mono ?_
    rintro e u ⟨p, c, rfl, hg, hbu⟩
    have HG := Lib.hid hg
    have hx2 := hx.trans (hbu.mono hx.size)
    clear hg hbu
    go_wp2_with fail
    go_ret2
    exact ⟨p, c, rfl, HG.out, hx2⟩
set_option maxRecDepth 10000 in
set_option maxHeartbeats 1600000 in
theorem refMost_any (pp : Option Addr) (cp : Nat) (pf : Option Addr) (cf : Nat) (ps : List Pt) (ms : List FrM) (w : World) (hB : BkAt w pp pf ps ms) : Calls Try.prog 30 #[.agg #[.slice pp ps.length cp, .slice pf ms.length cf]] w (GaveLists (mostL ps (frsM ms)) (mostF ps (frsM ms)) (bookE ps (frsM ms)) w) := by
  obtain ⟨W0, hW0⟩ : ∃ W, W = (w.alloc (.cells #[.slice pp ps.length cp, .slice pf ms.length cf] 25)) := ⟨_, rfl⟩
  have HW0 := Lib.hid hW0
  have HB := Lib.hid hB
  have HE := Lib.hid (show Below w.heap.size w W0 by rw [hW0]; exact below_alloc _ _)
  have HR := Lib.hid (show Row W0 w.heap.size #[.slice pp ps.length cp, .slice pf ms.length cf] 25 by rw [hW0]; exact Row.new _ _ _)
  have c0 := HR.out.cell 0 (v := .slice pp ps.length cp) rfl
  have c1 := HR.out.cell 1 (v := .slice pf ms.length cf) rfl
  have HCK := Lib.hid (refCheck_any pp cp pf cf ps ms W0 (HB.out.below HE.out))
  clear hB hW0
  cases hb : bookB ps (frsM ms)
  · rw [bookE_bad hb] at HCK
    rw [show mostL ps (frsM ms) = [] by simp [mostL, hb], show mostF ps (frsM ms) = [] by simp [mostF, hb], bookE_bad hb]
    clear hb
    go_enter Try.func30, Try.ntmps30
    go_wp2_with fail
    rw [← HW0.out]
    refine HCK.out.mono ?_
    rintro e u ⟨rfl, hbu⟩
    obtain ⟨x, rfl⟩ := later_of hbu
    clear hbu
    have hx := x.base HE.out
    go_wp2_with fail
    go_ret3
    exact ⟨none, 0, none, 0, rfl, fun i hi => by simp at hi, fun i hi => by simp at hi, hx⟩
  · rw [bookE_ok hb] at HCK
    rw [show mostL ps (frsM ms) = mostD ps (frsM ms) by simp [mostL, hb], show mostF ps (frsM ms) = goodD ps (frsM ms) (mostD ps (frsM ms)) by simp [mostF, hb], bookE_ok hb]
    have HL := Lib.hid (fun (x : Later W0) => refMost_of pp cp pf cf ps ms x.w (HB.out.below (x.base HE.out)) hb)
    have HG := Lib.hid (fun (x : Later W0) q c (hI : IntsAt x.w q (mostD ps (frsM ms))) => refGoodOf_any pp cp pf cf ps ms q c (mostD ps (frsM ms)) x.w (HB.out.below (x.base HE.out)) hb hI (set_of_mem (most_mem ps (frsM ms))))
    clear hb
    generalize goodD ps (frsM ms) (mostD ps (frsM ms)) = gl at *
    generalize mostD ps (frsM ms) = ml at *
    go_enter Try.func30, Try.ntmps30
    go_wp2_with fail
    rw [← HW0.out]
    refine HCK.out.mono ?_
    rintro e u ⟨rfl, hbu⟩
    obtain ⟨x, rfl⟩ := later_of hbu
    clear hbu
    have hx := x.base HE.out
    go_wp2_with fail
    refine (HL.out x).mono ?_
    rintro e u ⟨p, c, rfl, hg, hbu⟩
    obtain ⟨y, hy⟩ := x.on hbu
    subst hy
    have HM := Lib.hid hg
    clear hg hbu
    go_wp2_with fail
    refine (HG.out y _ _ HM.out).mono ?_
    rintro e u ⟨p2, c2, rfl, hg, hbu⟩
    have HM2 := Lib.hid (HM.out.below hbu)
    have HL2 := Lib.hid hg
    have hx2 := (y.base HE.out).trans (hbu.mono (y.base HE.out).size)
    clear hg hbu
    go_wp2_with fail
    go_ret3
    exact ⟨p, c, p2, c2, rfl, HM2.out, HL2.out, hx2⟩
end Go.Proofs.Ytfppcmechfjpoaa
/- The walks of the specification of layer 3: the best setting; frames that clash. -/
namespace Go.Proofs.Ytfppcmechfjpoaa
open Go.RowKit Go.Maps
attribute [local go_sem] Oper.semAt_some

theorem best_cool {ps : List Pt} {ms : List FrM} (hb : bookB ps (frsM ms) = true) : coolD ps (frsM ms) (List.range (frsM ms).length) = if (goodD ps (frsM ms) (mostD ps (frsM ms))).length < ms.length then none else some (mostD ps (frsM ms)) := by
  have hl := goodD_length ps (frsM ms) (mostD ps (frsM ms))
  rw [frsM_length] at hl
  by_cases h : (goodD ps (frsM ms) (mostD ps (frsM ms))).length < ms.length
  · rw [if_pos h, cool_none (bookB_iff.1 hb) (by rw [frsM_length]; omega)]
  · rw [if_neg h, cool_most (by rw [frsM_length]; omega)]
set_option maxRecDepth 10000 in
set_option maxHeartbeats 3200000 in
theorem refBest_any (pp : Option Addr) (cp : Nat) (pf : Option Addr) (cf : Nat) (ps : List Pt) (ms : List FrM) (w : World) (hB : BkAt w pp pf ps ms) : Calls Try.prog 28 #[.agg #[.slice pp ps.length cp, .slice pf ms.length cf]] w (GaveListE (bestL ps (frsM ms)) (bestE ps (frsM ms)) w) := by
  obtain ⟨W0, hW0⟩ : ∃ W, W = (w.alloc (.cells #[.slice pp ps.length cp, .slice pf ms.length cf] 25)) := ⟨_, rfl⟩
  have HW0 := Lib.hid hW0
  have HB := Lib.hid hB
  have HE := Lib.hid (show Below w.heap.size w W0 by rw [hW0]; exact below_alloc _ _)
  have HR := Lib.hid (show Row W0 w.heap.size #[.slice pp ps.length cp, .slice pf ms.length cf] 25 by rw [hW0]; exact Row.new _ _ _)
  have c0 := HR.out.cell 0 (v := .slice pp ps.length cp) rfl
  have c1 := HR.out.cell 1 (v := .slice pf ms.length cf) rfl
  have HCK := Lib.hid (refCheck_any pp cp pf cf ps ms W0 (HB.out.below HE.out))
  have HSS := Lib.hid (fun w' (kk : From W0 w') => (⟨kk.cell c0, kk.cell c1⟩ : w'.cell? ⟨w.heap.size, 0, none⟩ = some (.slice pp ps.length cp) ∧ w'.cell? ⟨w.heap.size, 1, none⟩ = some (.slice pf ms.length cf)))
  clear hB hW0
  cases hb : bookB ps (frsM ms)
  · rw [bookE_bad hb] at HCK
    rw [show bestL ps (frsM ms) = [] by simp [bestL, hb], show bestE ps (frsM ms) = 30 by simp [bestE, hb]]
    clear hb
    go_enter Try.func28, Try.ntmps28
    go_wp2_with fail
    rw [← HW0.out]
    refine HCK.out.mono ?_
    rintro e u ⟨rfl, hbu⟩
    obtain ⟨x, rfl⟩ := later_of hbu
    clear hbu
    have hx := x.base HE.out
    go_wp2_with fail
    go_ret2
    exact nil_list _ w _ hx
  · rw [bookE_ok hb] at HCK
    have HBC := Lib.hid (best_cool hb)
    have HEV := Lib.hid (show bestE ps (frsM ms) = if (goodD ps (frsM ms) (mostD ps (frsM ms))).length < ms.length then 4 else 0 by
      simp only [bestE, hb, HBC.out, if_true]; split <;> simp_all)
    have HLV := Lib.hid (show bestL ps (frsM ms) = if (goodD ps (frsM ms) (mostD ps (frsM ms))).length < ms.length then [] else mostD ps (frsM ms) by
      simp only [bestL, hb, HBC.out, if_true]; split <;> simp_all)
    rw [HEV.out, HLV.out]
    have HL := Lib.hid (fun (x : Later W0) => refMost_of pp cp pf cf ps ms x.w (HB.out.below (x.base HE.out)) hb)
    have HG := Lib.hid (fun (x : Later W0) q c (hI : IntsAt x.w q (mostD ps (frsM ms))) => (by
      refine (refGoodOf_any pp cp pf cf ps ms q c (mostD ps (frsM ms)) x.w (HB.out.below (x.base HE.out)) hb hI (set_of_mem (most_mem ps (frsM ms)))).mono ?_
      rintro e w2 ⟨p, c, rfl, _, hb⟩
      exact ⟨p, c, rfl, hb⟩ : Calls Try.prog 71 #[.agg #[.slice pp ps.length cp, .slice pf ms.length cf], .slice q (mostD ps (frsM ms)).length c] x.w fun e w'' => ∃ p c, e = .returned (.slice p (goodD ps (frsM ms) (mostD ps (frsM ms))).length c) ∧ Below x.w.heap.size x.w w''))
    clear hb HBC HEV HLV
    generalize (goodD ps (frsM ms) (mostD ps (frsM ms))).length = ng at *
    generalize mostD ps (frsM ms) = ml at *
    by_cases hlt : ng < ms.length
    · rw [if_pos hlt, if_pos hlt]
      have hd : decide (ng < ms.length) = true := decide_eq_true hlt
      go_enter Try.func28, Try.ntmps28
      go_wp2_with fail
      rw [← HW0.out]
      refine HCK.out.mono ?_
      rintro e u ⟨rfl, hbu⟩
      obtain ⟨x, rfl⟩ := later_of hbu
      clear hbu
      have hx := x.base HE.out
      go_wp2_with fail
      refine (HL.out x).mono ?_
      rintro e u ⟨p, c, rfl, hg, hbu⟩
      obtain ⟨y, hy⟩ := x.on hbu
      subst hy
      have HM := Lib.hid hg
      clear hg hbu
      go_wp2_with fail
      have KI := Lib.hid y.fr
      have HG1 := Lib.hid (fun w' (kk : From y.w w') (k2 : From W0 w') => HG.out ⟨w', k2.b⟩ p c (kk.ints HM.out))
      have KJ := Lib.hid (From.refl y.w)
      go_region_held3 (fun w' => w'.cell? ⟨w.heap.size, 0, none⟩ = some (.slice pp ps.length cp) ∧ w'.cell? ⟨w.heap.size, 1, none⟩ = some (.slice pf ms.length cf)) (first | with_reducible exact HSS.out _ KI.out | with_reducible exact HSS.out _ KI.out.drew) (first | (go_at_call 71; (first | with_reducible refine (HG1.out _ KJ.out KI.out).mono ?_ | with_reducible refine (HG1.out _ KJ.out.drew KI.out.drew).mono ?_); rintro e wy ⟨_, _, rfl, hbu⟩; have KI := Lib.hid (by first | with_reducible exact KI.out.drew.below hbu | with_reducible exact KI.out.below hbu); have KJ := Lib.hid (by first | with_reducible exact KJ.out.drew.below hbu | with_reducible exact KJ.out.below hbu); clear hbu))
      all_goals
        go_wp2_with fail
        go_ret2
        exact nil_list _ w _ (HE.out.trans (KI.out.b.mono HE.out.size))
    · rw [if_neg hlt, if_neg hlt]
      have hd : decide (ng < ms.length) = false := decide_eq_false hlt
      clear hlt
      go_enter Try.func28, Try.ntmps28
      go_wp2_with fail
      rw [← HW0.out]
      refine HCK.out.mono ?_
      rintro e u ⟨rfl, hbu⟩
      obtain ⟨x, rfl⟩ := later_of hbu
      clear hbu
      have hx := x.base HE.out
      go_wp2_with fail
      refine (HL.out x).mono ?_
      rintro e u ⟨p, c, rfl, hg, hbu⟩
      obtain ⟨y, hy⟩ := x.on hbu
      subst hy
      have HM := Lib.hid hg
      clear hg hbu
      go_wp2_with fail
      have KI := Lib.hid y.fr
      have HG1 := Lib.hid (fun w' (kk : From y.w w') (k2 : From W0 w') => HG.out ⟨w', k2.b⟩ p c (kk.ints HM.out))
      have KJ := Lib.hid (From.refl y.w)
      go_region_held3 (fun w' => w'.cell? ⟨w.heap.size, 0, none⟩ = some (.slice pp ps.length cp) ∧ w'.cell? ⟨w.heap.size, 1, none⟩ = some (.slice pf ms.length cf)) (first | with_reducible exact HSS.out _ KI.out | with_reducible exact HSS.out _ KI.out.drew) (first | (go_at_call 71; (first | with_reducible refine (HG1.out _ KJ.out KI.out).mono ?_ | with_reducible refine (HG1.out _ KJ.out.drew KI.out.drew).mono ?_); rintro e wy ⟨_, _, rfl, hbu⟩; have KI := Lib.hid (by first | with_reducible exact KI.out.drew.below hbu | with_reducible exact KI.out.below hbu); have KJ := Lib.hid (by first | with_reducible exact KJ.out.drew.below hbu | with_reducible exact KJ.out.below hbu); clear hbu))
      all_goals
        go_wp2_with fail
        go_ret2
        exact ⟨p, c, rfl, KJ.out.ints HM.out, HE.out.trans (KI.out.b.mono HE.out.size)⟩
set_option maxRecDepth 10000 in
set_option maxHeartbeats 3200000 in
theorem refClash_any (pp : Option Addr) (cp : Nat) (pf : Option Addr) (cf : Nat) (ps : List Pt) (ms : List FrM) (w : World) (hB : BkAt w pp pf ps ms) : Calls Try.prog 34 #[.agg #[.slice pp ps.length cp, .slice pf ms.length cf]] w fun e w' => e = .returned (Trip (clashV ps (frsM ms))) ∧ Below w.heap.size w w' := by
  obtain ⟨W0, hW0⟩ : ∃ W, W = (w.alloc (.cells #[.slice pp ps.length cp, .slice pf ms.length cf] 25)) := ⟨_, rfl⟩
  have HW0 := Lib.hid hW0
  have HB := Lib.hid hB
  have HE := Lib.hid (show Below w.heap.size w W0 by rw [hW0]; exact below_alloc _ _)
  have HR := Lib.hid (show Row W0 w.heap.size #[.slice pp ps.length cp, .slice pf ms.length cf] 25 by rw [hW0]; exact Row.new _ _ _)
  have c0 := HR.out.cell 0 (v := .slice pp ps.length cp) rfl
  have c1 := HR.out.cell 1 (v := .slice pf ms.length cf) rfl
  have HCK := Lib.hid (refCheck_any pp cp pf cf ps ms W0 (HB.out.below HE.out))
  clear hB hW0
  cases hb : bookB ps (frsM ms)
  · rw [bookE_bad hb] at HCK
    rw [show clashV ps (frsM ms) = (0, 0, 30) by simp [clashV, hb]]
    clear hb
    go_enter Try.func34, Try.ntmps34
    go_wp2_with fail
    rw [← HW0.out]
    refine HCK.out.mono ?_
    rintro e u ⟨rfl, hbu⟩
    obtain ⟨x, rfl⟩ := later_of hbu
    clear hbu
    have hx := x.base HE.out
    go_wp2_with fail
    go_ret3
    exact ⟨rfl, hx⟩
  · rw [bookE_ok hb] at HCK
    have hn5 := (bk_of HB.out hb).n5
    have HBB := Lib.hid hb
    have HLO := Lib.hid (fun (x : Later W0) => refLost_of pp cp pf cf ps ms x.w (HB.out.below (x.base HE.out)) hb)
    have HBO := Lib.hid (fun (i j : Nat) (h : i < ms.length) (k : j < ms.length) (x : Later W0) => refBoth_any pp cp pf cf ps ms x.w (HB.out.below (x.base HE.out)) hb i j h k)
    clear hb
    obtain ⟨nl, hnl⟩ : ∃ n, (pickL (lostI ps (frsM ms)) ms.length).length = n := ⟨_, rfl⟩
    have HNL := Lib.hid hnl
    clear hnl
    by_cases hz : nl = 0
    · have hz' : decide ((0 : Int) < (nl : Int)) = false := decide_eq_false (by omega)
      have hz2 : decide (0 < nl) = false := decide_eq_false (by omega)
      have HL0 := Lib.hid (show (pickL (lostI ps (frsM ms)) (frsM ms).length).length = 0 by rw [frsM_length, HNL.out]; exact hz)
      clear hz
      go_enter Try.func34, Try.ntmps34
      go_wp2_with fail
      rw [← HW0.out]
      refine HCK.out.mono ?_
      rintro e u ⟨rfl, hbu⟩
      obtain ⟨x, rfl⟩ := later_of hbu
      clear hbu
      have hx := x.base HE.out
      go_wp2_with fail
      refine (HLO.out x).mono ?_
      rintro e u ⟨p, c, rfl, hg, hbu⟩
      rw [HNL.out]
      obtain ⟨y, hy⟩ := x.on hbu
      subst hy
      clear hg hbu
      go_wp2_with fail
      go_loopw [6] (fun i wr => ∃ k : Nat, k ≤ ms.length ∧ i = .int .i64 k ∧ (∀ j, j < k → clashO ps (frsM ms) j = none) ∧ ∃ z : Later W0, wr = z.w) (fun i _ => ms.length - (intOf i).toNat)
      case atStart => exact ⟨0, by omega, rfl, fun j hj => by omega, y, rfl⟩
      case round =>
        obtain ⟨k, hk, rfl, hno, z, rfl⟩ := hrel
        have HNO := Lib.hid hno
        clear hno
        by_cases hlt : k < ms.length
        · have i1 : (k : Int) < (ms.length : Int) := by omega
          have hk5 : (k : Int) < 10 := by omega
          go_wp2_with fail
          go_loopw [7] (fun i wr => ∃ t : Nat, k + 1 ≤ t ∧ t ≤ ms.length ∧ i = .int .i64 t ∧ (∀ j, j < t → (decide (k < j) && (coolD ps (frsM ms) [k, j]).isNone) = false) ∧ ∃ z : Later W0, wr = z.w) (fun i _ => ms.length - (intOf i).toNat)
          case atStart => exact ⟨k + 1, by omega, by omega, by go_num, fun j hj => by rw [decide_eq_false (by omega), Bool.false_and], z, rfl⟩
          case round =>
            obtain ⟨t, ht1, ht, rfl, hno2, z, rfl⟩ := hrel
            have HNO2 := Lib.hid hno2
            clear hno2
            by_cases hlt2 : t < ms.length
            · have i2 : (t : Int) < (ms.length : Int) := by omega
              have HC := Lib.hid (HBO.out k t hlt hlt2 z)
              obtain ⟨d, hd⟩ : ∃ d, bothR ps ms k t = d := ⟨_, rfl⟩
              have HCD := Lib.hid (show (coolD ps (frsM ms) [k, t]).isNone = !d by rw [both_cool, hd])
              rw [hd] at HC
              clear hd
              go_wp2_with fail
              refine HC.out.mono ?_
              rintro e u ⟨rfl, hbu⟩
              obtain ⟨v, hv⟩ := z.on hbu
              subst hv
              clear hbu
              cases d
              · go_wp2_with fail
                go_ret3
                refine ⟨?_, v.base HE.out⟩
                rw [clash_yes HBB.out HL0.out (by rw [frsM_length]; exact hlt) (by rw [frsM_length]; exact hlt2) (by omega) (by have h := HCD.out; simpa using h) HNO.out HNO2.out]
                rfl
              · go_wp2_with fail
                go_roundw
                case rel => exact ⟨t + 1, by omega, by omega, by go_num, fun j hj => (by
                  by_cases e : j = t
                  · subst e; rw [HCD.out]; simp
                  · exact HNO2.out j (by omega)), v, rfl⟩
                case measure => simp [intOf]; omega
            · obtain rfl : t = ms.length := by omega
              go_wp2_with fail
              go_roundw
              case rel => exact ⟨k + 1, by omega, by go_num, fun j hj => (by
                by_cases e : j = k
                · subst e; exact clash_row (fun i hi => HNO2.out i (by rw [frsM_length] at hi; exact hi))
                · exact HNO.out j (by omega)), z, rfl⟩
              case measure => simp [intOf]; omega
        · obtain rfl : k = ms.length := by omega
          go_wp2_with fail
          go_ret3
          exact ⟨by rw [clash_no HBB.out HL0.out (fun i hi => HNO.out i (by rw [frsM_length] at hi; exact hi))]; rfl, z.base HE.out⟩
    · have hz' : decide ((0 : Int) < (nl : Int)) = true := decide_eq_true (by omega)
      have hz2 : decide (0 < nl) = true := decide_eq_true (by omega)
      rw [show clashV ps (frsM ms) = (0, 0, 32) by rw [clashV, if_pos HBB.out, frsM_length, HNL.out, if_neg hz]]
      clear hz
      go_enter Try.func34, Try.ntmps34
      go_wp2_with fail
      rw [← HW0.out]
      refine HCK.out.mono ?_
      rintro e u ⟨rfl, hbu⟩
      obtain ⟨x, rfl⟩ := later_of hbu
      clear hbu
      have hx := x.base HE.out
      go_wp2_with fail
      refine (HLO.out x).mono ?_
      rintro e u ⟨p, c, rfl, hg, hbu⟩
      rw [HNL.out]
      obtain ⟨y, hy⟩ := x.on hbu
      subst hy
      clear hg hbu
      go_wp2_with fail
      go_ret3
      exact ⟨rfl, y.base HE.out⟩
end Go.Proofs.Ytfppcmechfjpoaa
/- The walks of the specification of layer 3: what is asked for. -/
namespace Go.Proofs.Ytfppcmechfjpoaa
open Go.RowKit Go.Maps
attribute [local go_sem] Oper.semAt_some

/-- What the specification holds behind so many parts: which one, and what it is worth. -/
def askS (ps : List Pt) (fs : List Fr) : Nat → Int × Int
  | 0 => (-1, -1)
  | k + 1 => if (askS ps fs k).2 < worstD ps fs k then (k, worstD ps fs k) else askS ps fs k
theorem worstD_nonneg {ps : List Pt} {ms : List FrM} {k : Nat} : 0 ≤ worstD ps (frsM ms) k := by
  unfold worstD
  split
  · exact (worstTo_range ps ms k _ _).1
  · omega
theorem askS_is {ps : List Pt} {ms : List FrM} : ∀ {k : Nat}, 0 < k → ∃ a : Nat, a < k ∧ askS ps (frsM ms) k = ((a : Int), worstD ps (frsM ms) a) ∧ ∀ p, p < k → worstD ps (frsM ms) p ≤ worstD ps (frsM ms) a ∧ (worstD ps (frsM ms) p = worstD ps (frsM ms) a → a ≤ p)
  | 0, h => by omega
  | 1, _ => by
    have h0 := worstD_nonneg (ps := ps) (ms := ms) (k := 0)
    refine ⟨0, by omega, ?_, fun p hp => ?_⟩
    · rw [askS, askS, if_pos (by omega)]
    · obtain rfl : p = 0 := by omega
      exact ⟨Int.le_refl _, fun _ => Nat.le_refl _⟩
  | k + 2, _ => by
    obtain ⟨a, ha, he, hp⟩ := askS_is (ps := ps) (ms := ms) (k := k + 1) (by omega)
    rw [askS, he]
    by_cases h : worstD ps (frsM ms) a < worstD ps (frsM ms) (k + 1)
    · refine ⟨k + 1, by omega, if_pos h, fun p hpk => ?_⟩
      by_cases e : p = k + 1
      · subst e; exact ⟨Int.le_refl _, fun _ => Nat.le_refl _⟩
      · have := (hp p (by omega)).1
        exact ⟨by omega, fun e2 => by omega⟩
    · refine ⟨a, by omega, if_neg h, fun p hpk => ?_⟩
      by_cases e : p = k + 1
      · subst e; exact ⟨by omega, fun e2 => by omega⟩
      · exact hp p (by omega)
theorem askS_V {ps : List Pt} {ms : List FrM} (hb : bookB ps (frsM ms) = true) : (askS ps (frsM ms) ps.length).1 = askV ps (frsM ms) := by
  have h1 := (bookB_iff.1 hb).p1
  obtain ⟨a, ha, e1, h2⟩ := askS_is (ps := ps) (ms := ms) (k := ps.length) (by omega)
  obtain ⟨c, e2, hc, h3⟩ := ask_is hb
  rw [e1, e2]
  have q1 := h2 c hc
  have q2 := h3 a ha
  have e3 : worstD ps (frsM ms) c = worstD ps (frsM ms) a := by omega
  have := q1.2 e3
  have := q2.2 e3.symm
  simp only
  omega
set_option maxRecDepth 10000 in
set_option maxHeartbeats 3200000 in
theorem refAsk_any (pp : Option Addr) (cp : Nat) (pf : Option Addr) (cf : Nat) (ps : List Pt) (ms : List FrM) (w : World) (hB : BkAt w pp pf ps ms) : Calls Try.prog 38 #[.agg #[.slice pp ps.length cp, .slice pf ms.length cf]] w fun e w' => e = .returned (.tuple #[.int .i64 (askV ps (frsM ms)), .int .i64 (bookE ps (frsM ms))]) ∧ Below w.heap.size w w' := by
  obtain ⟨W0, hW0⟩ : ∃ W, W = (w.alloc (.cells #[.slice pp ps.length cp, .slice pf ms.length cf] 25)) := ⟨_, rfl⟩
  have HW0 := Lib.hid hW0
  have HB := Lib.hid hB
  have HE := Lib.hid (show Below w.heap.size w W0 by rw [hW0]; exact below_alloc _ _)
  have HR := Lib.hid (show Row W0 w.heap.size #[.slice pp ps.length cp, .slice pf ms.length cf] 25 by rw [hW0]; exact Row.new _ _ _)
  have c0 := HR.out.cell 0 (v := .slice pp ps.length cp) rfl
  have c1 := HR.out.cell 1 (v := .slice pf ms.length cf) rfl
  have HCK := Lib.hid (refCheck_any pp cp pf cf ps ms W0 (HB.out.below HE.out))
  clear hB hW0
  cases hb : bookB ps (frsM ms)
  · rw [bookE_bad hb] at HCK
    rw [show askV ps (frsM ms) = 0 by simp [askV, hb], bookE_bad hb]
    clear hb
    go_enter Try.func38, Try.ntmps38
    go_wp2_with fail
    rw [← HW0.out]
    refine HCK.out.mono ?_
    rintro e u ⟨rfl, hbu⟩
    obtain ⟨x, rfl⟩ := later_of hbu
    clear hbu
    have hx := x.base HE.out
    go_wp2_with fail
    go_ret2
    exact ⟨rfl, hx⟩
  · rw [bookE_ok hb] at HCK
    rw [← askS_V hb, bookE_ok hb]
    have hn5 := (bk_of HB.out hb).n5
    have hok := bookB_iff.1 hb
    have hn4 : ps.length ≤ 4 := hok.p4
    have HOK := Lib.hid hok
    have HBB := Lib.hid hb
    have hp1 := hok.p1
    have HPP := Lib.hid (HB.out.below HE.out).p
    obtain ⟨pb, po, hpp⟩ : ∃ b o, pp = some ⟨b, o, none⟩ := by obtain ⟨b, o, h, _⟩ := HPP.out 0 hp1; exact ⟨b, o, h⟩
    subst hpp
    clear hb hok hp1
    go_enter Try.func38, Try.ntmps38
    go_wp2_with fail
    rw [← HW0.out]
    refine HCK.out.mono ?_
    rintro e u ⟨rfl, hbu⟩
    obtain ⟨x, rfl⟩ := later_of hbu
    clear hbu
    have hx := x.base HE.out
    go_wp2_with fail
    go_loopw [5, 6, 7] (fun wv bv i wr => ∃ k : Nat, k ≤ ps.length ∧ i = .int .i64 k ∧ wv = .int .i64 (askS ps (frsM ms) k).1 ∧ bv = .int .i64 (askS ps (frsM ms) k).2 ∧ ∃ z : Later W0, wr = z.w) (fun _ _ i _ => ps.length - (intOf i).toNat)
    case atStart => exact ⟨0, by omega, rfl, rfl, rfl, x, rfl⟩
    case round =>
      obtain ⟨k, hk, rfl, rfl, rfl, z, rfl⟩ := hrel
      by_cases hlt0 : k < ps.length
      · have i1 : (0 : Int) ≤ (k : Int) := by omega
        have i2 : (k : Int) < (ps.length : Int) := by omega
        obtain ⟨pb2, po2, hpe, _, _, _, _, q4, q5⟩ := HPP.out k hlt0
        cases hpe
        have hpk := HOK.out.p ps[k] (List.getElem_mem _)
        obtain ⟨lo, hlo⟩ : ∃ x, ps[k].lo = x := ⟨_, rfl⟩
        obtain ⟨hi, hhi⟩ : ∃ x, ps[k].hi = x := ⟨_, rfl⟩
        rw [hlo] at q4
        rw [hhi] at q5
        have HLO := Lib.hid hlo
        have HHI := Lib.hid hhi
        have hb1 : 0 ≤ lo := by rw [← hlo]; exact hpk.l0
        have hb2 : hi ≤ 20 := by rw [← hhi]; exact hpk.l2
        have hb3 : lo ≤ hi := by rw [← hlo, ← hhi]; exact hpk.l1
        obtain ⟨T, hT⟩ : ∃ T : Nat, (hi - lo + 1).toNat = T := ⟨_, rfl⟩
        have HTT := Lib.hid (show (T : Int) = hi - lo + 1 by omega)
        have HWD := Lib.hid (show worstD ps (frsM ms) k = worstTo ps (frsM ms) k lo T by
          unfold worstD; rw [List.getElem?_eq_getElem hlt0]; simp only [hlo, hhi, hT])
        have HSK := Lib.hid (show askS ps (frsM ms) (k + 1) = if (askS ps (frsM ms) k).2 < worstD ps (frsM ms) k then ((k : Int), worstD ps (frsM ms) k) else askS ps (frsM ms) k from rfl)
        have hw0 : (ms.length : Int) = worstTo ps (frsM ms) k lo 0 := by simp [worstTo, frsM_length]
        have HW00 := Lib.hid hw0
        clear hlo hhi hpk hT hw0
        go_wp2_with fail
        rw [HW00.out]
        go_loopw [8, 9] (fun wv dv wr => ∃ j : Nat, j ≤ T ∧ dv = .int .i64 (lo + (j : Int)) ∧ wv = .int .i64 (worstTo ps (frsM ms) k lo j) ∧ ∃ z : Later W0, wr = z.w) (fun _ dv _ => T - (intOf dv - lo).toNat)
        case atStart => exact ⟨0, by omega, by simp, rfl, z, rfl⟩
        case round =>
          obtain ⟨j, hj, rfl, rfl, z, rfl⟩ := hrel
          have HTJ := Lib.hid HTT.out
          by_cases hlt : j < T
          · have hc : lo + (j : Int) ≤ hi := by have := HTT.out; omega
            have hd20 : lo + (j : Int) ≤ 20 := by omega
            have hd0 : 0 ≤ lo + (j : Int) := by omega
            have HME := Lib.hid (refMeasured_any (some ⟨pb, po, none⟩) cp pf ms.length cf ps z.w ((HB.out.below (z.base HE.out)).p) (by omega) k hlt0 (lo + (j : Int)))
            have hb2 : bookB (dampP ps k (lo + (j : Int)) (lo + (j : Int))) (frsM ms) = true := bookB_iff.2 (damp_ok HOK.out hlt0 (by rw [HLO.out]; omega) (by rw [HHI.out]; omega) (Int.le_refl _))
            have HB2 := Lib.hid hb2
            have HWJ := Lib.hid (show worstTo ps (frsM ms) k lo (j + 1) = min (worstTo ps (frsM ms) k lo j) (knownN ps (frsM ms) k (lo + (j : Int))) from rfl)
            have HKN := Lib.hid (show knownN ps (frsM ms) k (lo + (j : Int)) = ((goodD (dampP ps k (lo + (j : Int)) (lo + (j : Int))) (frsM ms) (mostD (dampP ps k (lo + (j : Int)) (lo + (j : Int))) (frsM ms))).length : Int) from rfl)
            have HDL := Lib.hid (dampP_length ps k (lo + (j : Int)) (lo + (j : Int)))
            generalize dampP ps k (lo + (j : Int)) (lo + (j : Int)) = qs at *
            have i4 : 0 ≤ (j : Int) := by omega
            clear hb2
            go_wp2_with fail
            refine HME.out.mono ?_
            rintro e u ⟨g, cap, rfl, hp2, _, hbu⟩
            rw [HDL.out]
            have hbk2 : BkAt u (some ⟨g, 0, none⟩) pf qs ms := by
              have h := HB.out.below ((z.base HE.out).trans (hbu.mono (z.base HE.out).size))
              exact ⟨hp2, h.f, by rw [HDL.out]; exact h.b1, h.b2, h.b3⟩
            obtain ⟨z2, hz2⟩ := z.on hbu
            subst hz2
            have HBK := Lib.hid hbk2
            clear hbu hbk2 hp2
            go_wp2_with fail
            have hb5 : Below W0.heap.size W0 (z2.w.alloc (.cells #[.slice (some ⟨g, 0, none⟩) ps.length cap, .slice pf ms.length cf] 25)) := z2.b.alloc z2.b.size _
            have r5 := Row.new z2.w #[.slice (some ⟨g, 0, none⟩) ps.length cap, .slice pf ms.length cf] 25
            have hbk3 := HBK.out.below (below_alloc z2.w (.cells #[.slice (some ⟨g, 0, none⟩) ps.length cap, .slice pf ms.length cf] 25))
            clear HBK
            generalize z2.w.alloc (.cells #[.slice (some ⟨g, 0, none⟩) ps.length cap, .slice pf ms.length cf] 25) = W1 at hb5 r5 hbk3 ⊢
            generalize z2.w.heap.size = b5 at r5 ⊢
            obtain ⟨x1, hx1⟩ := later_of hb5
            subst hx1
            have e0 := r5.cell 0 (v := .slice (some ⟨g, 0, none⟩) ps.length cap) rfl
            have e1 := r5.cell 1 (v := .slice pf ms.length cf) rfl
            have HSS := Lib.hid (fun w' (kk : From x1.w w') => (⟨kk.cell e0, kk.cell e1⟩ : w'.cell? ⟨b5, 0, none⟩ = some (.slice (some ⟨g, 0, none⟩) ps.length cap) ∧ w'.cell? ⟨b5, 1, none⟩ = some (.slice pf ms.length cf)))
            have HBK := Lib.hid hbk3
            have HM1 := Lib.hid (fun w' (kk : From x1.w w') => (by
              have h := refMost_of (some ⟨g, 0, none⟩) cap pf cf qs ms w' (HBK.out.below kk.b) HB2.out
              rw [HDL.out] at h
              exact h))
            have HG1 := Lib.hid (fun p c w' (kk : From x1.w w') (hI : IntsAt w' p (mostD qs (frsM ms))) => (by
              have h := refGoodOf_any (some ⟨g, 0, none⟩) cap pf cf qs ms p c (mostD qs (frsM ms)) w' (HBK.out.below kk.b) HB2.out hI (set_of_mem (most_mem qs (frsM ms)))
              rw [HDL.out] at h
              exact h))
            have KI := Lib.hid (From.refl x1.w)
            have hgn : (goodD qs (frsM ms) (mostD qs (frsM ms))).length ≤ ms.length := by have := goodD_length qs (frsM ms) (mostD qs (frsM ms)); rw [frsM_length] at this; exact this
            generalize goodD qs (frsM ms) (mostD qs (frsM ms)) = gl at *
            generalize mostD qs (frsM ms) = ml at *
            have hwr := worstTo_range ps ms k lo j
            generalize worstTo ps (frsM ms) k lo j = wj at *
            generalize knownN ps (frsM ms) k (lo + (j : Int)) = kn at *
            clear r5 hb5 hbk3 e0 e1
            go_region_held3 (fun w' => w'.cell? ⟨b5, 0, none⟩ = some (.slice (some ⟨g, 0, none⟩) ps.length cap) ∧ w'.cell? ⟨b5, 1, none⟩ = some (.slice pf ms.length cf)) (first | with_reducible exact HSS.out _ KI.out | with_reducible exact HSS.out _ KI.out.drew)
              (first
                | (go_at_call 77; (first | with_reducible refine (HM1.out _ KI.out).mono ?_ | with_reducible refine (HM1.out _ KI.out.drew).mono ?_); rintro e wy ⟨p, c, rfl, him, hbu⟩; have KI := Lib.hid (by first | with_reducible exact KI.out.drew.below hbu | with_reducible exact KI.out.below hbu); have HIM := Lib.hid him; clear him hbu)
                | (go_at_call 71; (with_reducible refine (HG1.out _ _ _ KI.out HIM.out).mono ?_); rintro e wy ⟨_, _, rfl, _, hbu⟩; have KI := Lib.hid (by first | with_reducible exact KI.out.drew.below hbu | with_reducible exact KI.out.below hbu); clear hbu))
            all_goals
              obtain ⟨z3, hz3⟩ := x1.on KI.out.b
              subst hz3
              go_wp2_with fail
              go_roundw
              case rel => exact ⟨j + 1, by omega, congrArg (Value.int .i64) (by omega), congrArg (Value.int .i64) (by rw [HWJ.out, HKN.out]; split <;> omega), z3, rfl⟩
              case measure => simp [intOf]; omega
          · obtain rfl : j = T := by omega
            have hc : ¬ lo + (j : Int) ≤ hi := by have := HTT.out; omega
            have hwd := HWD.out
            rw [hwd] at HSK
            generalize worstTo ps (frsM ms) k lo j = wj at *
            generalize hak : askS ps (frsM ms) k = ak at *
            have HWD := Lib.hid hwd
            clear hwd hak
            by_cases hcmp : ak.2 < wj
            · have HS2 := Lib.hid (HSK.out.trans (if_pos hcmp))
              go_wp2_with fail
              go_roundw
              case rel => exact ⟨k + 1, by omega, by go_num, by rw [HS2.out], by rw [HS2.out], z, rfl⟩
              case measure => simp [intOf]; omega
            · have HS2 := Lib.hid (HSK.out.trans (if_neg hcmp))
              go_wp2_with fail
              go_roundw
              case rel => exact ⟨k + 1, by omega, by go_num, by rw [HS2.out], by rw [HS2.out], z, rfl⟩
              case measure => simp [intOf]; omega
      · obtain rfl : k = ps.length := by omega
        go_wp2_with fail
        go_ret2
        exact ⟨rfl, z.base HE.out⟩
end Go.Proofs.Ytfppcmechfjpoaa
