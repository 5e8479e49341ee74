/- The walks of layer 3: which books are valid, all of it. -/
import Derived.Test.YticfcdbfplfmlaaTuUF4
namespace Go.Proofs.Yticfcdbfplfmlaa.Tu
open Go.RowKit Go.Maps
attribute [local go_sem] Oper.semAt_some

def stayB (l : List Int) : Bool := l.all fun s => decide (0 ≤ s ∧ s ≤ 20)
theorem stayB_at {l : List Int} (h : stayB l = true) {i : Nat} (hi : i < l.length) : 0 ≤ at0 l i ∧ at0 l i ≤ 20 := by
  have := List.all_eq_true.1 h _ (at0_mem hi)
  simpa using this
theorem stayB_take {l : List Int} {k : Nat} (hk : k < l.length) (h : stayB (l.take k) = true) (h0 : 0 ≤ at0 l k) (h1 : at0 l k ≤ 20) : stayB (l.take (k + 1)) = true := by
  rw [take_snoc hk, stayB, List.all_append]
  simp only [stayB] at h
  rw [h]
  simp [h0, h1]
theorem frB_no {n : Nat} {f : Fr} (h : ¬ (stayB f.stay = true ∧ f.stay.length = n ∧ 0 ≤ f.lo ∧ f.lo ≤ f.hi ∧ f.hi ≤ 999)) : false = frB n f := by
  cases hv : frB n f
  · rfl
  · exfalso
    apply h
    simp only [frB, Bool.and_eq_true, decide_eq_true_eq] at hv
    exact ⟨hv.1.1, hv.1.2, hv.2⟩
theorem frB_yes {n : Nat} {f : Fr} (h : stayB f.stay = true ∧ f.stay.length = n ∧ 0 ≤ f.lo ∧ f.lo ≤ f.hi ∧ f.hi ≤ 999) : true = frB n f := by
  symm
  simp only [frB, Bool.and_eq_true, decide_eq_true_eq]
  exact ⟨⟨h.1, h.2.1⟩, h.2.2⟩

set_option maxRecDepth 10000 in
set_option maxHeartbeats 1600000 in
theorem frValid_any (m : FrM) (n : Nat) (w : World) (hi : IntsAt w m.p m.f.stay) (hl : m.f.stay.length < 2 ^ 62) :
    Calls Try.prog 132 #[.agg m.A, .int .i64 n] w fun e w' => e = .returned (.bool (frB n m.f)) ∧ Below w.heap.size w w' := by
  obtain ⟨mp, mc, mf⟩ := m
  unfold FrM.A
  dsimp only at *
  have HI := Lib.hid (hi.below (below_alloc w (.cells #[.slice mp mf.stay.length mc, .int .i64 mf.lo, .int .i64 mf.hi] 186)))
  clear hi
  go_enter Try.func132, Try.ntmps132
  go_wp2
  go_loop [11] (fun i => ∃ k : Nat, k ≤ mf.stay.length ∧ i = .int .i64 k ∧ Hid (stayB (mf.stay.take k) = true)) (fun i => mf.stay.length - (intOf i).toNat)
  case atStart => exact ⟨0, by omega, rfl, Lib.hid rfl⟩
  case round =>
    obtain ⟨k, hk, rfl, HOK⟩ := hrel
    by_cases hlt : k < mf.stay.length
    · obtain ⟨b, o, rfl, hc⟩ := HI.out k hlt
      go_wp2
      all_goals first
        | (go_ret; exact ⟨ret_bool (frB_no (fun hh => by have := stayB_at hh.1 hlt; omega)), below_alloc _ _⟩)
        | (go_round
           case rel => exact ⟨k + 1, by omega, by go_num, Lib.hid (stayB_take hlt HOK.out (by omega) (by omega))⟩
           case measure => simp [intOf]; omega)
    · have HOK2 := Lib.hid (show stayB mf.stay = true by have := HOK.out; rwa [List.take_of_length_le (by omega)] at this)
      clear HOK
      go_wp2
      all_goals
        go_ret
        first
          | exact ⟨ret_bool (frB_no (fun hh => by omega)), below_alloc _ _⟩
          | exact ⟨ret_bool (frB_yes ⟨HOK2.out, by omega, by omega, by omega, by omega⟩), below_alloc _ _⟩
          | (refine ⟨ret_bool ?_, below_alloc _ _⟩
             by_cases h9 : mf.hi ≤ 999
             · rw [decide_eq_true h9]; exact frB_yes ⟨HOK2.out, by omega, by omega, by omega, h9⟩
             · rw [decide_eq_false h9]; exact frB_no (fun hh => by omega))

theorem bookB_no {ps : List Pt} {fs : List Fr} (h : ¬ (1 ≤ ps.length ∧ ps.length ≤ 4 ∧ fs.length ≤ 5 ∧ (∀ i (h : i < ps.length), ptB ps[i] = true) ∧ ∀ i (h : i < fs.length), frB ps.length fs[i] = true)) : false = bookB ps fs := by
  cases hv : bookB ps fs
  · rfl
  · exfalso
    apply h
    simp only [bookB, Bool.and_eq_true, decide_eq_true_eq, List.all_eq_true] at hv
    exact ⟨hv.1.1.1.1, hv.1.1.1.2, hv.1.1.2, fun i hi => hv.1.2 _ (List.getElem_mem _), fun i hi => hv.2 _ (List.getElem_mem _)⟩
theorem bookB_yes {ps : List Pt} {fs : List Fr} (h1 : 1 ≤ ps.length) (h2 : ps.length ≤ 4) (h3 : fs.length ≤ 5) (h4 : ∀ i (h : i < ps.length), ptB ps[i] = true) (h5 : ∀ i (h : i < fs.length), frB ps.length fs[i] = true) : true = bookB ps fs := by
  symm
  simp only [bookB, Bool.and_eq_true, decide_eq_true_eq, List.all_eq_true]
  refine ⟨⟨⟨⟨h1, h2⟩, h3⟩, fun p hp => ?_⟩, fun f hf => ?_⟩
  · obtain ⟨i, hi, rfl⟩ := List.mem_iff_getElem.1 hp; exact h4 i hi
  · obtain ⟨i, hi, rfl⟩ := List.mem_iff_getElem.1 hf; exact h5 i hi
theorem frsM_at {ms : List FrM} {i : Nat} (h : i < (frsM ms).length) : (frsM ms)[i] = (ms[i]'(by rwa [frsM_length] at h)).f := by simp [frsM]

set_option maxRecDepth 10000 in
set_option maxHeartbeats 1600000 in
theorem valid_any (pp : Option Addr) (cp : Nat) (pf : Option Addr) (cf : Nat) (ps : List Pt) (ms : List FrM) (w : World) (hB : BkAt w pp pf ps ms) :
    Calls Try.prog 92 #[.agg #[.slice pp ps.length cp, .slice pf ms.length cf]] w fun e w' => e = .returned (.bool (bookB ps (frsM ms))) ∧ Below w.heap.size w w' := by
  have HBK := Lib.hid hB
  have b1 := hB.b1
  have b2 := hB.b2
  have HFL := Lib.hid (frsM_length ms)
  clear hB
  by_cases hsz : 1 ≤ ps.length ∧ ps.length ≤ 4 ∧ ms.length ≤ 5
  · obtain ⟨s1, s2, s3⟩ := hsz
    go_enter Try.func92, Try.ntmps92
    go_wp2
    go_loopw [26] (fun i wr => ∃ k : Nat, k ≤ ps.length ∧ i = .int .i64 k ∧ (∀ i (h : i < ps.length), i < k → ptB ps[i] = true) ∧ Row wr w.heap.size #[.slice pp ps.length cp, .slice pf ms.length cf] 54 ∧ Below w.heap.size w wr) (fun i _ => ps.length - (intOf i).toNat)
    case atStart => exact ⟨0, by omega, rfl, fun i _ h => by omega, Row.new _ _ _, below_alloc _ _⟩
    case round =>
      obtain ⟨k, hk, rfl, hok, r0, hb⟩ := hrel
      have HOK := Lib.hid hok
      have HR := Lib.hid r0
      have HB := Lib.hid hb
      have hz := r0.lt
      clear hok r0 hb
      by_cases hlt : k < ps.length
      · obtain ⟨b, o, rfl, q0, q1, q2, q3, q4, q5⟩ := (HBK.out.p.below HB.out) k hlt
        go_wp2_with fail
        refine (ptValid_any ps[k] _).mono ?_
        rintro e w1 ⟨rfl, hb1⟩
        have hE := (below_alloc wr (.cells ps[k].A 59)).trans (hb1.mono (by simp))
        have HR := Lib.hid (HR.out.below hE hz)
        have HB := Lib.hid (HB.out.trans (hE.mono (by omega)))
        clear q0 q1 q2 q3 q4 q5 hb1 hE
        cases hv : ptB ps[k]
        · have HV := Lib.hid hv
          clear hv
          go_wp2
          go_ret
          exact ⟨ret_bool (bookB_no (fun hh => by have := hh.2.2.2.1 k hlt; rw [HV.out] at this; cases this)), HB.out⟩
        · have HV := Lib.hid hv
          clear hv
          go_wp2
          go_roundw
          case rel => exact ⟨k + 1, by omega, by go_num, fun i h h2 => by
            by_cases e : i = k
            · subst e; exact HV.out
            · exact HOK.out i h (by omega), HR.out, HB.out⟩
          case measure => simp [intOf]; omega
      · obtain rfl : k = ps.length := by omega
        have k1 := HR.out.cell 1 (v := .slice pf ms.length cf) rfl
        go_wp2_with fail
        clear k1
        go_loopw [38] (fun i wr => ∃ k : Nat, k ≤ ms.length ∧ i = .int .i64 k ∧ (∀ i (h : i < ms.length), i < k → frB ps.length ms[i].f = true) ∧ Row wr w.heap.size #[.slice pp ps.length cp, .slice pf ms.length cf] 54 ∧ Below w.heap.size w wr) (fun i _ => ms.length - (intOf i).toNat)
        case atStart => exact ⟨0, by omega, rfl, fun i _ h => by omega, HR.out, HB.out⟩
        case round =>
          clear HR HB hz
          obtain ⟨k, hk, rfl, hok, r0, hb⟩ := hrel
          have HOK2 := Lib.hid hok
          have HR := Lib.hid r0
          have HB := Lib.hid hb
          have hz := r0.lt
          clear hok r0 hb
          by_cases hlt : k < ms.length
          · obtain ⟨b, o, rfl, q0, q1, q2, q3⟩ := (HBK.out.f.below HB.out) k hlt
            have hb3 := HBK.out.b3 ms[k] (List.getElem_mem _)
            have Q3 := Lib.hid q3
            have p0 := HR.out.cell 0 (v := .slice pp ps.length cp) rfl
            clear q3
            go_wp2_with fail
            refine (frValid_any ms[k] ps.length _ (Q3.out.below (below_alloc _ _)) hb3).mono ?_
            rintro e w1 ⟨rfl, hb1⟩
            have hE := (below_alloc wr (.cells ms[k].A 61)).trans (hb1.mono (by simp))
            have HR := Lib.hid (HR.out.below hE hz)
            have HB := Lib.hid (HB.out.trans (hE.mono (by omega)))
            clear q0 q1 q2 hb1 hE p0
            cases hv : frB ps.length ms[k].f
            · have HV := Lib.hid hv
              clear hv
              go_wp2
              go_ret
              exact ⟨ret_bool (bookB_no (fun hh => by have := hh.2.2.2.2 k (by rw [HFL.out]; exact hlt); rw [frsM_at, HV.out] at this; cases this)), HB.out⟩
            · have HV := Lib.hid hv
              clear hv
              go_wp2
              go_roundw
              case rel => exact ⟨k + 1, by omega, by go_num, fun i h h2 => by
                by_cases e : i = k
                · subst e; exact HV.out
                · exact HOK2.out i h (by omega), HR.out, HB.out⟩
              case measure => simp [intOf]; omega
          · obtain rfl : k = ms.length := by omega
            go_wp2
            go_ret
            exact ⟨ret_bool (bookB_yes s1 s2 (by rw [HFL.out]; exact s3) (fun i h => HOK.out i h h) (fun i h => by rw [frsM_at]; exact HOK2.out i (by rwa [HFL.out] at h) (by rwa [HFL.out] at h))), HB.out⟩
  · go_enter Try.func92, Try.ntmps92
    go_wp2
    all_goals first
      | (go_ret; exact ⟨ret_bool (bookB_no (fun hh => by have := hh.1; have := hh.2.1; have := hh.2.2.1; rw [HFL.out] at this; omega)), below_alloc _ _⟩)
      | skip

theorem Check_any (pp : Option Addr) (cp : Nat) (pf : Option Addr) (cf : Nat) (ps : List Pt) (ms : List FrM) (w : World) (hB : BkAt w pp pf ps ms) :
    Calls Try.prog 35 #[.agg #[.slice pp ps.length cp, .slice pf ms.length cf]] w fun e w' => e = .returned (.int .i64 (bookE ps (frsM ms))) ∧ Below w.heap.size w w' := by
  have HBK := Lib.hid (hB.below (below_alloc w (.cells #[.slice pp ps.length cp, .slice pf ms.length cf] 54)))
  clear hB
  unfold bookE
  cases hv : bookB ps (frsM ms)
  all_goals
    have HV := Lib.hid hv
    clear hv
    go_enter Try.func35, Try.ntmps35
    go_wp2_with fail
    refine (valid_any pp cp pf cf ps ms _ HBK.out).mono ?_
    rintro e w1 ⟨rfl, hb1⟩
    rw [HV.out]
    have HB := Lib.hid ((below_alloc w (.cells #[.slice pp ps.length cp, .slice pf ms.length cf] 54)).trans (hb1.mono (by simp)))
    clear hb1
    go_wp2
    go_ret
    exact ⟨rfl, HB.out⟩
end Go.Proofs.Yticfcdbfplfmlaa.Tu
