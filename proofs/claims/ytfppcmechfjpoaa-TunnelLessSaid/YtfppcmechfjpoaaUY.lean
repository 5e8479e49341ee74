/- The walks of layer 3: Clash. -/
import Derived.Test.YtfppcmechfjpoaaUW
namespace Go.Proofs.Ytfppcmechfjpoaa
open Go.RowKit Go.Maps
attribute [local go_sem] Oper.semAt_some

/-- The first frame after one with which it cannot be dry in time. -/
def clashO (ps : List Pt) (fs : List Fr) (a : Nat) : Option Nat := (List.range fs.length).find? fun o => decide (a < o) && (coolD ps fs [a, o]).isNone
/-- The first frame that has one. -/
def clashF (ps : List Pt) (fs : List Fr) : Option Nat := (List.range fs.length).find? fun a => (clashO ps fs a).isSome
/-- What Clash returns. -/
def clashV (ps : List Pt) (fs : List Fr) : Int × Int × Int := if bookB ps fs then if (pickL (lostI ps fs) fs.length).length = 0 then (match clashF ps fs with
    | some a => ((a : Int), (((clashO ps fs a).getD 0 : Nat) : Int), 0)
    | none => (0, 0, 4)) else (0, 0, 32) else (0, 0, 30)
theorem clash_yes {ps : List Pt} {fs : List Fr} (hb : bookB ps fs = true) (hl : (pickL (lostI ps fs) fs.length).length = 0) {a o : Nat} (ha : a < fs.length) (ho : o < fs.length) (hao : a < o) (h : coolD ps fs [a, o] = none)
    (h1 : ∀ i, i < a → clashO ps fs i = none) (h2 : ∀ i, i < o → (decide (a < i) && (coolD ps fs [a, i]).isNone) = false) : clashV ps fs = ((a : Int), (o : Int), 0) := by
  have e : clashO ps fs a = some o := find_first ho (by simp [hao, h]) h2
  have e2 : clashF ps fs = some a := find_first ha (by simp [e]) (fun i hi => by simp [h1 i hi])
  simp [clashV, hb, hl, e2, e]
theorem clash_no {ps : List Pt} {fs : List Fr} (hb : bookB ps fs = true) (hl : (pickL (lostI ps fs) fs.length).length = 0) (h1 : ∀ i, i < fs.length → clashO ps fs i = none) : clashV ps fs = (0, 0, 4) := by
  have e2 : clashF ps fs = none := find_none (fun i hi => by simp [h1 i hi])
  simp [clashV, hb, hl, e2]
theorem clash_row {ps : List Pt} {fs : List Fr} {a : Nat} (h2 : ∀ i, i < fs.length → (decide (a < i) && (coolD ps fs [a, i]).isNone) = false) : clashO ps fs a = none := find_none h2
def Trip (v : Int × Int × Int) : Value := .tuple #[.int .i64 v.1, .int .i64 v.2.1, .int .i64 v.2.2]
theorem two_new (w : World) (a b : Nat) (t : TypeId) (n : Nat) (ha : a < n) (hb : b < n) : FrsL (w.alloc (.cells #[.int .i64 a, .int .i64 b] t)) (some ⟨w.heap.size, 0, none⟩) [a, b] n := by
  have hr := Row.new w #[.int .i64 (a : Int), .int .i64 (b : Int)] t
  refine ⟨fun i hi => ?_, by simp, fun i hi => by simp at hi; omega⟩
  have hi2 : i < 2 := by simpa using hi
  obtain rfl | rfl : i = 0 ∨ i = 1 := by omega
  · exact ⟨w.heap.size, 0, rfl, hr.cell 0 rfl⟩
  · exact ⟨w.heap.size, 0, rfl, hr.cell 1 rfl⟩

set_option maxRecDepth 10000 in
set_option maxHeartbeats 1600000 in
theorem Clash_any (pp : Option Addr) (cp : Nat) (pf : Option Addr) (cf : Nat) (ps : List Pt) (ms : List FrM) (w : World) (hB : BkAt w pp pf ps ms) : Calls Try.prog 33 #[.agg #[.slice pp ps.length cp, .slice pf ms.length cf]] w fun e w' => e = .returned (Trip (clashV ps (frsM ms))) ∧ Below w.heap.size w w' := by
  have hE := below_alloc w (.cells #[.slice pp ps.length cp, .slice pf ms.length cf] 25)
  have HB := Lib.hid (hB.below hE)
  have HE := Lib.hid hE
  have HR := Lib.hid (Row.new w #[.slice pp ps.length cp, .slice pf ms.length cf] 25)
  clear hE
  cases hb : bookB ps (frsM ms)
  · have HV := Lib.hid (bookE_bad hb)
    have HT := Lib.hid (show clashV ps (frsM ms) = (0, 0, 30) by simp [clashV, hb])
    clear hb
    go_enter Try.func33, Try.ntmps33
    go_wp2_with fail
    refine (Check_any pp cp pf cf ps ms _ HB.out).mono ?_
    rintro e w1 ⟨rfl, hb1⟩
    rw [HV.out]
    have HE := Lib.hid (HE.out.trans (hb1.mono HE.out.size))
    have HR := Lib.hid (HR.out.below hb1 HR.out.lt)
    clear hb1
    go_wp2_with fail
    go_ret3
    exact ⟨by rw [HT.out]; rfl, HE.out⟩
  · have HV := Lib.hid (bookE_ok hb)
    have HBK := Lib.hid (bk_of hB hb)
    have HBB := Lib.hid hb
    have hn4 := HBK.out.n4
    have hn5 := HBK.out.n5
    have hfl := frsM_length ms
    clear hb
    go_enter Try.func33, Try.ntmps33
    go_wp2_with fail
    refine (Check_any pp cp pf cf ps ms _ HB.out).mono ?_
    rintro e w1 ⟨rfl, hb1⟩
    rw [HV.out]
    have HE := Lib.hid (HE.out.trans (hb1.mono HE.out.size))
    have HR := Lib.hid (HR.out.below hb1 HR.out.lt)
    clear hb1
    have g0 := HR.out.cell 0 (v := .slice pp ps.length cp) rfl
    have g1 := HR.out.cell 1 (v := .slice pf ms.length cf) rfl
    go_wp2_with fail
    refine (open_any pp cp pf cf ps ms w1 (HBK.out.below HE.out)).mono ?_
    rintro e w2 ⟨mb, rfl, hmb, hbk, hb2⟩
    have hz1 := HE.out.size
    have HE := Lib.hid (HE.out.trans (hb2.mono HE.out.size))
    have HR := Lib.hid (HR.out.below hb2 HR.out.lt)
    clear hb2 g0 g1
    have hA := below_alloc w2 (.cells (bookA pp ps.length cp pf ms.length cf mb) 78)
    have RK := Lib.hid (Row.new w2 (bookA pp ps.length cp pf ms.length cf mb) 78)
    have BK := Lib.hid (hbk.below hA)
    have HE := Lib.hid (HE.out.trans (hA.mono HE.out.size))
    have HR := Lib.hid (HR.out.below hA HR.out.lt)
    have hzw : w.heap.size ≤ mb := by omega
    clear hA hbk hmb
    go_wp2_with fail
    refine (frames_lost pp cp pf cf mb 0 ps ms _ BK.out (by omega)).mono ?_
    rintro e w4 ⟨p, c, rfl, hi, _, hr4⟩
    have RK := Lib.hid (hr4.row BK.out.d RK.out)
    have HR := Lib.hid (hr4.row BK.out.d HR.out)
    have HE := Lib.hid (hr4.base HE.out hzw HE.out.size)
    have BK := Lib.hid (hr4.bkd BK.out)
    clear hr4 hi
    by_cases hl0 : (pickL (lostI ps (frsM ms)) ms.length).length = 0
    · have HL := Lib.hid hl0
      rw [hl0]
      clear hl0
      have g1 := HR.out.cell 1 (v := .slice pf ms.length cf) rfl
      go_wp2_with fail
      clear g1
      have hsz := HE.out.size
      go_loopw [27] (fun i wr => ∃ k : Nat, k ≤ ms.length ∧ i = .int .i64 k ∧ Hid (∀ i, i < k → clashO ps (frsM ms) i = none) ∧ Run w4 wr mb (12800 + 12800 * k) ps.length (dryI ps (frsM ms))) (fun i _ => ms.length - (intOf i).toNat)
      case atStart => exact ⟨0, by omega, rfl, Lib.hid (by intro i hi; omega), (Run.refl BK.out.d).mono (by omega)⟩
      case round =>
        obtain ⟨k, hk, rfl, HN, hrun⟩ := hrel
        have HRN := Lib.hid hrun
        clear hrun
        by_cases hlt : k < ms.length
        · go_wp2_with fail
          go_loopw [8] (fun o wr => ∃ j : Nat, k + 1 ≤ j ∧ j ≤ ms.length ∧ o = .int .i64 j ∧ Hid (∀ i, i < j → (decide (k < i) && (coolD ps (frsM ms) [k, i]).isNone) = false) ∧ Run w4 wr mb (12800 + 12800 * k + 2560 * j) ps.length (dryI ps (frsM ms))) (fun o _ => ms.length - (intOf o).toNat)
          case atStart => exact ⟨k + 1, by omega, by omega, by go_num, Lib.hid (by intro i hi; simp; omega), HRN.out.mono (by omega)⟩
          case round =>
            clear HRN
            obtain ⟨j, hj1, hj, rfl, HM, hrun⟩ := hrel
            have HRN := Lib.hid hrun
            have hz := hrun.size
            clear hrun
            have HRW := Lib.hid (HRN.out.row BK.out.d HR.out)
            have HRK := Lib.hid (HRN.out.row BK.out.d RK.out)
            have g1 := HRW.out.cell 1 (v := .slice pf ms.length cf) rfl
            by_cases hjl : j < ms.length
            · have k0 := HRK.out.cell 0 (v := .slice pp ps.length cp) rfl
              have k1 := HRK.out.cell 1 (v := .slice pf ms.length cf) rfl
              have k2 := HRK.out.cell 2 (v := .map (some mb)) rfl
              have hba := below_alloc wr (.cells #[.int .i64 k, .int .i64 j] 3)
              have HQ := Lib.hid (two_new wr k j 3 ms.length hlt hjl)
              have HR1 := Lib.hid (HRN.out.below hba)
              have BK1 := Lib.hid ((HRN.out.bkd BK.out).below hba)
              have hp4 : 4 ^ ps.length ≤ 4 ^ 4 := Nat.pow_le_pow_right (by decide) hn4
              clear hba
              cases hc : coolD ps (frsM ms) [k, j]
              · have HC := Lib.hid hc
                have HT := Lib.hid (clash_yes HBB.out (by rw [hfl]; exact HL.out) (by rw [hfl]; exact hlt) (by rw [hfl]; exact hjl) (by omega) hc HN.out HM.out)
                clear hc
                go_wp2_with fail
                refine (coolest_any pp cp pf cf mb _ ps ms _ 2 [k, j] _ BK1.out HQ.out (by omega)).mono ?_
                rintro e w5 ⟨rfl, hr5⟩
                rw [HC.out]
                have HR2 := Lib.hid ((HR1.out.trans hr5).mono (Nat.le_refl _))
                clear hr5 k0 k1 k2 g1
                go_wp2_with fail
                go_ret3
                exact ⟨by rw [HT.out]; rfl, (HR2.out.base HE.out hzw hsz).alloc (by have := HR2.out.size; omega) _⟩
              · have HC := Lib.hid hc
                clear hc
                go_wp2_with fail
                refine (coolest_any pp cp pf cf mb _ ps ms _ 2 [k, j] _ BK1.out HQ.out (by omega)).mono ?_
                rintro e w5 ⟨rfl, hr5⟩
                rw [HC.out]
                have HR2 := Lib.hid ((HR1.out.trans hr5).mono (show 12800 + 12800 * k + 2560 * j + 10 * 4 ^ ps.length ≤ 12800 + 12800 * k + 2560 * (j + 1) by omega))
                clear hr5 k0 k1 k2 g1
                go_wp2_with fail
                go_roundw
                case rel => exact ⟨j + 1, by omega, by omega, by go_num, Lib.hid (fun i hi => by
                  by_cases e : i = j
                  · subst e; simp [HC.out]
                  · exact HM.out i (by omega)), HR2.out.below (below_alloc _ _)⟩
                case measure => simp [intOf]; omega
            · obtain rfl : j = ms.length := by omega
              have HO := Lib.hid (clash_row (ps := ps) (fs := frsM ms) (a := k) (by rw [hfl]; exact HM.out))
              go_wp2_with fail
              clear g1
              go_roundw
              case rel => exact ⟨k + 1, by omega, by go_num, Lib.hid (fun i hi => by
                by_cases e : i = k
                · subst e; exact HO.out
                · exact HN.out i (by omega)), HRN.out.mono (by omega)⟩
              case measure => simp [intOf]; omega
        · obtain rfl : k = ms.length := by omega
          have HT := Lib.hid (clash_no HBB.out (by rw [hfl]; exact HL.out) (by rw [hfl]; exact HN.out))
          go_wp2_with fail
          go_ret3
          exact ⟨by rw [HT.out]; rfl, HRN.out.base HE.out hzw hsz⟩
    · have HT := Lib.hid (show clashV ps (frsM ms) = (0, 0, 32) by unfold clashV; rw [if_pos HBB.out, hfl, if_neg hl0])
      have hpos : (0 : Int) < (((pickL (lostI ps (frsM ms)) ms.length).length : Nat) : Int) := by omega
      generalize (pickL (lostI ps (frsM ms)) ms.length).length = n at *
      go_wp2_with fail
      go_ret3
      exact ⟨by rw [HT.out]; rfl, HE.out⟩
end Go.Proofs.Ytfppcmechfjpoaa
