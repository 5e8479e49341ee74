/- The walks of the specification of layer 3: Check. -/
import Derived.Test.YtfppcmechfjpoaaWB
namespace Go.Proofs.Ytfppcmechfjpoaa
open Go.RowKit Go.Maps
attribute [local go_sem] Oper.semAt_some

/-- The heat of a part, as far as some dampers go. -/
def heatK (p : Pt) : Nat → Bool
  | 0 => true
  | 1 => fits p.h0 0 20
  | 2 => fits p.h0 0 20 && (fits p.h1 0 20 && decide (p.h0 ≤ p.h1))
  | 3 => fits p.h0 0 20 && (fits p.h1 0 20 && decide (p.h0 ≤ p.h1)) && (fits p.h2 0 20 && decide (p.h1 ≤ p.h2))
  | _ => fits p.h0 0 20 && (fits p.h1 0 20 && decide (p.h0 ≤ p.h1)) && (fits p.h2 0 20 && decide (p.h1 ≤ p.h2)) && (fits p.h3 0 20 && decide (p.h2 ≤ p.h3))
def dampK (p : Pt) : Bool := (decide (0 ≤ p.lo) && decide (p.lo ≤ p.hi) && decide (p.hi ≤ 20)) && decide (p.hi - p.lo ≤ 3)
theorem ptB_K (p : Pt) : (dampK p && heatK p 4) = ptB p := by
  rw [Bool.eq_iff_iff]
  simp only [dampK, heatK, ptB, fits, Bool.and_eq_true, decide_eq_true_eq]
  omega
theorem take_all {α : Type} {P : α → Bool} {l : List α} {k : Nat} (h : k < l.length) : (l.take (k + 1)).all P = ((l.take k).all P && P l[k]) := by
  rw [List.take_add_one, List.getElem?_eq_getElem h, List.all_append]
  simp
theorem take_false {α : Type} {P : α → Bool} {l : List α} {k : Nat} (h : (l.take k).all P = false) : l.all P = false := by
  rw [List.all_eq_false] at h ⊢
  obtain ⟨x, hx, hp⟩ := h
  exact ⟨x, List.mem_of_mem_take hx, hp⟩
theorem heatK_mono (p : Pt) {s : Nat} (hs : s < 4) (h : heatK p s = false) : heatK p (s + 1) = false := by
  obtain rfl | rfl | rfl | rfl : s = 0 ∨ s = 1 ∨ s = 2 ∨ s = 3 := by omega
  · cases h
  · show (heatK p 1 && _) = false
    rw [h, Bool.false_and]
  · show (heatK p 2 && _) = false
    rw [h, Bool.false_and]
  · show (heatK p 3 && _) = false
    rw [h, Bool.false_and]
theorem heat_no {p : Pt} {d : Bool} {s : Nat} (hs : s < 4) (h : false = (d && heatK p s)) : false = (d && heatK p (s + 1)) := by
  cases d
  · rfl
  · rw [Bool.true_and] at h ⊢
    exact (heatK_mono p hs h.symm).symm
theorem heat_out {p : Pt} {d : Bool} {s : Nat} (h : heatK p (s + 1) = false) : false = (d && heatK p (s + 1)) := by rw [h]; simp
theorem heat_yes {p : Pt} {d b : Bool} {s : Nat} (h : true = (d && heatK p s)) (h2 : heatK p s = true → heatK p (s + 1) = b) : b = (d && heatK p (s + 1)) := by
  have h3 := h.symm
  rw [Bool.and_eq_true] at h3
  rw [h3.1, h2 h3.2, Bool.true_and]
def stayK (st : List Int) (j : Nat) : Bool := (st.take j).all fun s => decide (0 ≤ s ∧ s ≤ 20)

set_option maxRecDepth 10000 in
set_option maxHeartbeats 3200000 in
theorem refCheck_base (pp : Option Addr) (cp : Nat) (pf : Option Addr) (cf : Nat) (ps : List Pt) (ms : List FrM) (w : World) (hB : BkAt w pp pf ps ms) (h : ¬ (1 ≤ ps.length ∧ ps.length ≤ 4 ∧ ms.length ≤ 5)) : Calls Try.prog 18 #[.agg #[.slice pp ps.length cp, .slice pf ms.length cf]] w fun e w' => e = .returned (.int .i64 (bookE ps (frsM ms))) ∧ Below w.heap.size w w' := by
  have HV := Lib.hid (show bookE ps (frsM ms) = 30 from bookE_bad (by
    cases hb : bookB ps (frsM ms)
    · rfl
    · have hk := bookB_iff.1 hb
      have h5 := hk.f5
      rw [frsM_length] at h5
      exact absurd ⟨hk.p1, hk.p4, h5⟩ h))
  have hb1 := hB.b1
  have hb2 := hB.b2
  have hE := below_alloc w (.cells #[.slice pp ps.length cp, .slice pf ms.length cf] 25)
  have HB := Lib.hid hB
  have HE := Lib.hid hE
  have HR := Lib.hid (Row.new w #[.slice pp ps.length cp, .slice pf ms.length cf] 25)
  have c0 := HR.out.cell 0 (v := .slice pp ps.length cp) rfl
  have c1 := HR.out.cell 1 (v := .slice pf ms.length cf) rfl
  clear hE hB
  have hcs : (fits (ps.length : Int) 1 4 = false) ∨ (fits (ps.length : Int) 1 4 = true ∧ ¬ ms.length ≤ 5) := by
    by_cases h2 : 1 ≤ ps.length ∧ ps.length ≤ 4
    · exact .inr ⟨fits_yes (by omega), by omega⟩
    · exact .inl (by simp only [fits, Bool.and_eq_false_iff, decide_eq_false_iff_not]; omega)
  clear h
  rcases hcs with hf | ⟨hf, hm⟩
  all_goals
    have HF := Lib.hid hf
    clear hf
    (try have hm2 : decide ((ms.length : Int) ≤ 5) = false := by simp; omega)
    go_enter Try.func18, Try.ntmps18
    go_wp2_with (first | (go_at_call 46; (with_reducible refine (Fits_any _ _ _ _).mono ?_); rintro e wf ⟨rfl, rfl⟩; rw [HF.out]))
    go_loopw [3, 4] (fun a i wr => a = .bool false ∧ Below w.heap.size w wr) (fun _ _ _ => 0)
    case atStart => exact ⟨rfl, HE.out⟩
    case round =>
      clear HE
      obtain ⟨rfl, e0⟩ := hrel
      have HE := Lib.hid e0
      clear e0
      go_wp2_with fail
      go_loopw [3, 7] (fun a i wr => a = .bool false ∧ Below w.heap.size w wr) (fun _ _ _ => 0)
      case atStart => exact ⟨rfl, HE.out⟩
      case round =>
        obtain ⟨rfl, e0⟩ := hrel
        go_wp2_with fail
        go_ret
        exact ⟨ret_int HV.out.symm, e0⟩

theorem frB_K (n : Nat) (f : Fr) : ((decide (f.stay.length = n) && (decide (0 ≤ f.lo) && decide (f.lo ≤ f.hi) && decide (f.hi ≤ 999))) && stayK f.stay f.stay.length) = frB n f := by
  rw [Bool.eq_iff_iff]
  simp only [stayK, frB, List.take_length, Bool.and_eq_true, decide_eq_true_eq]
  constructor
  · rintro ⟨⟨a, ⟨b, c⟩, d⟩, e⟩; exact ⟨⟨e, a⟩, b, c, d⟩
  · rintro ⟨⟨e, a⟩, b, c, d⟩; exact ⟨⟨a, ⟨b, c⟩, d⟩, e⟩
theorem stayK_succ {st : List Int} {t : Nat} (h : t < st.length) : stayK st (t + 1) = (stayK st t && fits (at0 st t) 0 20) := by
  rw [stayK, take_all h, at0_lt h]
  congr 1
  simp [fits, Bool.decide_and]
theorem stay_no {st : List Int} {d : Bool} {t : Nat} (h : false = (d && stayK st t)) : false = (d && stayK st st.length) := by
  cases d
  · rfl
  · rw [Bool.true_and] at h ⊢
    have h2 := take_false h.symm
    rw [stayK, List.take_length]
    exact h2.symm
theorem stay_go {st : List Int} {d : Bool} {t : Nat} (ht : t < st.length) (h : true = (d && stayK st t)) : fits (at0 st t) 0 20 = (d && stayK st (t + 1)) := by
  have h3 := h.symm
  rw [Bool.and_eq_true] at h3
  rw [h3.1, stayK_succ ht, h3.2, Bool.true_and, Bool.true_and]
theorem frs_take {ms : List FrM} {n j : Nat} (h : j < ms.length) : ((frsM ms).take (j + 1)).all (frB n) = (((frsM ms).take j).all (frB n) && frB n ms[j].f) := by
  have h2 := take_all (P := frB n) (l := frsM ms) (k := j) (by rw [frsM_length]; exact h)
  simpa [frsM] using h2

set_option maxRecDepth 10000 in
set_option maxHeartbeats 3200000 in
theorem refCheck_main (pp : Option Addr) (cp : Nat) (pf : Option Addr) (cf : Nat) (ps : List Pt) (ms : List FrM) (w : World) (hB : BkAt w pp pf ps ms) (h1 : 1 ≤ ps.length) (h4 : ps.length ≤ 4) (h5 : ms.length ≤ 5) : Calls Try.prog 18 #[.agg #[.slice pp ps.length cp, .slice pf ms.length cf]] w fun e w' => e = .returned (.int .i64 (bookE ps (frsM ms))) ∧ Below w.heap.size w w' := by
  obtain ⟨b, o, rfl⟩ : ∃ b o, pp = some ⟨b, o, none⟩ := by
    obtain ⟨b, o, e, _⟩ := hB.p 0 h1
    exact ⟨b, o, e⟩
  have hE := below_alloc w (.cells #[.slice (some ⟨b, o, none⟩) ps.length cp, .slice pf ms.length cf] 25)
  have HB := Lib.hid hB
  have HE := Lib.hid hE
  have HR := Lib.hid (Row.new w #[.slice (some ⟨b, o, none⟩) ps.length cp, .slice pf ms.length cf] 25)
  have c0 := HR.out.cell 0 (v := .slice (some ⟨b, o, none⟩) ps.length cp) rfl
  have c1 := HR.out.cell 1 (v := .slice pf ms.length cf) rfl
  have HFT := Lib.hid (fits_yes (n := (ps.length : Int)) (lo := 1) (hi := 4) (by omega))
  have hm2 : (ms.length : Int) ≤ 5 := by omega
  have h4' : (ps.length : Int) ≤ 4 := by omega
  have HPB := Lib.hid (fun (h : ps.all ptB = false) => (bookE_bad (by simp [bookB, h]) : bookE ps (frsM ms) = 30))
  have HFB := Lib.hid (fun (h : (frsM ms).all (frB ps.length) = false) => (bookE_bad (by simp [bookB, h]) : bookE ps (frsM ms) = 30))
  have HYB := Lib.hid (fun (h : ps.all ptB = true) (k : (frsM ms).all (frB ps.length) = true) => (bookE_ok (by simp [bookB, h, k, h1, h4, frsM_length, h5]) : bookE ps (frsM ms) = 0))
  have hst := hB.b3
  clear hE hB
  go_enter Try.func18, Try.ntmps18
  go_wp2_with (first | (go_at_call 46; (with_reducible refine (Fits_any _ _ _ _).mono ?_); rintro e wf ⟨rfl, rfl⟩; rw [HFT.out]))
  clear c0 c1
  go_loopw [3, 4] (fun a i wr => ∃ k : Nat, k ≤ ps.length ∧ i = .int .i64 k ∧ (∃ okv : Bool, a = .bool okv ∧ Hid (okv = (ps.take k).all ptB)) ∧ Row wr w.heap.size #[.slice (some ⟨b, o, none⟩) ps.length cp, .slice pf ms.length cf] 25 ∧ Below w.heap.size w wr) (fun _ i _ => ps.length - (intOf i).toNat)
  case atStart => exact ⟨0, by omega, rfl, ⟨true, rfl, Lib.hid (by simp)⟩, HR.out, HE.out⟩
  case round =>
    clear HR HE
    obtain ⟨k, hk, rfl, ⟨okv, rfl, HOK⟩, r0, e0⟩ := hrel
    have HRr := Lib.hid r0
    have HE := Lib.hid e0
    clear r0 e0
    cases okv
    · have HV := Lib.hid (HPB.out (take_false HOK.out.symm))
      go_wp2_with fail
      go_loopw [3, 7] (fun a i wr => a = .bool false ∧ Below w.heap.size w wr) (fun _ _ _ => 0)
      case atStart => exact ⟨rfl, HE.out⟩
      case round =>
        obtain ⟨rfl, e0⟩ := hrel
        go_wp2_with fail
        go_ret
        exact ⟨ret_int HV.out.symm, e0⟩
    · have c0 := HRr.out.cell 0 (v := .slice (some ⟨b, o, none⟩) ps.length cp) rfl
      by_cases hlt : k < ps.length
      · obtain ⟨b', o', e', q0, q1, q2, q3, q4, q5⟩ := (HB.out.below HE.out).p k hlt
        cases e'
        have HTA := Lib.hid (take_all (P := ptB) hlt)
        generalize ps[k] = p at *
        have HKP := Lib.hid (ptB_K p)
        have i1 : (0 : Int) ≤ (k : Int) := by omega
        have i2 : (k : Int) < (ps.length : Int) := by omega
        have hb := below_alloc wr (.cells #[.int .i64 p.h0, .int .i64 p.h1, .int .i64 p.h2, .int .i64 p.h3, .int .i64 p.lo, .int .i64 p.hi] 64)
        have RX := Lib.hid (Row.new wr #[.int .i64 p.h0, .int .i64 p.h1, .int .i64 p.h2, .int .i64 p.h3, .int .i64 p.lo, .int .i64 p.hi] 64)
        have HRr := Lib.hid (HRr.out.below hb HRr.out.lt)
        have HEr := Lib.hid (HE.out.trans (hb.mono HE.out.size))
        clear hb
        have x4 := RX.out.cell 4 (v := .int .i64 p.lo) rfl
        have x5 := RX.out.cell 5 (v := .int .i64 p.hi) rfl
        obtain ⟨rv, hrv⟩ : ∃ rv, (decide (0 ≤ p.lo) && decide (p.lo ≤ p.hi) && decide (p.hi ≤ 20)) = rv := ⟨_, rfl⟩
        have HRV := Lib.hid hrv
        obtain ⟨xb, hxb⟩ : ∃ n, wr.heap.size = n := ⟨_, rfl⟩
        rw [hxb] at RX x4 x5
        go_upto_region 6 with (fail)
        clear hxb q0 q1 q2 q3 q4 q5 c0
        go_cut [3] from 35 to 47 (fun a wx => (∃ dk, a = .bool dk ∧ dk = dampK p) ∧ Row wx w.heap.size #[.slice (some ⟨b, o, none⟩) ps.length cp, .slice pf ms.length cf] 25 ∧ Row wx xb #[.int .i64 p.h0, .int .i64 p.h1, .int .i64 p.h2, .int .i64 p.h3, .int .i64 p.lo, .int .i64 p.hi] 64 ∧ Below w.heap.size w wx)
        case first =>
          cases rv
          · go_wp2_with (first | (go_at_call 63; (with_reducible refine (Right_any _ _ _ _ _).mono ?_); rintro e wq ⟨rfl, hb⟩; rw [HRV.out]; have HRr := Lib.hid (HRr.out.below hb HRr.out.lt); have RX := Lib.hid (RX.out.below hb RX.out.lt); have HEr := Lib.hid (HEr.out.trans (hb.mono HEr.out.size)); clear hb))
            go_meet
            exact ⟨⟨false, rfl, by simp only [dampK]; rw [HRV.out]; rfl⟩, HRr.out, RX.out, HEr.out⟩
          · have hbd : 0 ≤ p.lo ∧ p.lo ≤ p.hi ∧ p.hi ≤ 20 := by simpa [and_assoc] using hrv
            go_wp2_with (first | (go_at_call 63; (with_reducible refine (Right_any _ _ _ _ _).mono ?_); rintro e wq ⟨rfl, hb⟩; rw [HRV.out]; have HRr := Lib.hid (HRr.out.below hb HRr.out.lt); have RX := Lib.hid (RX.out.below hb RX.out.lt); have HEr := Lib.hid (HEr.out.trans (hb.mono HEr.out.size)); clear hb; have x4 := RX.out.cell 4 (v := .int .i64 p.lo) rfl; have x5 := RX.out.cell 5 (v := .int .i64 p.hi) rfl))
            go_meet
            exact ⟨⟨_, rfl, by simp only [dampK]; rw [HRV.out, Bool.true_and]⟩, HRr.out, RX.out, HEr.out⟩
        case rest =>
          obtain ⟨⟨dk, rfl, hdk⟩, ra, rb, re⟩ := hcut
          clear HRr RX HEr HE x4 x5 hrv HRV
          generalize wc = w8 at *
          have HRr := Lib.hid ra
          have RX := Lib.hid rb
          have HEr := Lib.hid re
          have HDK := Lib.hid hdk
          clear ra rb re hdk
          go_wp2_with fail
          go_loopw [3, 6] (fun a i wr' => Row wr' w.heap.size #[.slice (some ⟨b, o, none⟩) ps.length cp, .slice pf ms.length cf] 25 ∧ Row wr' xb #[.int .i64 p.h0, .int .i64 p.h1, .int .i64 p.h2, .int .i64 p.h3, .int .i64 p.lo, .int .i64 p.hi] 64 ∧ Below w.heap.size w wr' ∧ ∃ s : Nat, s ≤ 4 ∧ i = .int .i64 s ∧ ∃ okw : Bool, a = .bool okw ∧ Hid (okw = (dk && heatK p s))) (fun _ i _ => 4 - (intOf i).toNat)
          case atStart => exact ⟨HRr.out, RX.out, HEr.out, 0, by omega, rfl, dk, rfl, Lib.hid (by simp [heatK])⟩
          case round =>
            clear HRr RX HEr
            obtain ⟨ra, rb, re, s, hs, rfl, okw, rfl, HOW⟩ := hrel
            have HRr := Lib.hid ra
            have RX := Lib.hid rb
            have HEr := Lib.hid re
            clear ra rb re
            obtain rfl | rfl | rfl | rfl | rfl : s = 0 ∨ s = 1 ∨ s = 2 ∨ s = 3 ∨ s = 4 := by omega
            · -- damper 0
              have x0 := RX.out.cell 0 (v := .int .i64 p.h0) rfl
              cases okw
              · go_wp2_with fail
                go_quiet (fail)
                go_wp2_with fail
                go_roundw
                case rel => exact ⟨HRr.out.drewN _, RX.out.drewN _, below_drewN HEr.out _, 1, by omega, rfl, false, rfl, Lib.hid (heat_no (by omega) HOW.out)⟩
                case measure => simp [intOf]
              · by_cases hf : 0 ≤ p.h0 ∧ p.h0 ≤ 20
                · go_wp2_with fail
                  go_quiet ((go_at_call 46; exact quiet_eq (Fits_yes _ _ _ _ hf.1 hf.2)))
                  go_wp2_with fail
                  go_roundw
                  case rel => exact ⟨HRr.out.drewN _, RX.out.drewN _, below_drewN HEr.out _, 1, by omega, rfl, _, rfl, Lib.hid (heat_yes HOW.out (fun h => by simp [heatK, fits, hf.1, hf.2]))⟩
                  case measure => simp [intOf]
                · have hf2 : p.h0 < 0 ∨ 20 < p.h0 := by omega
                  go_wp2_with fail
                  go_quiet ((go_at_call 46; exact quiet_eq (Fits_no _ _ _ _ hf2)))
                  go_wp2_with fail
                  go_roundw
                  case rel => exact ⟨HRr.out.drewN _, RX.out.drewN _, below_drewN HEr.out _, 1, by omega, rfl, false, rfl, Lib.hid (heat_out (by have : fits p.h0 0 20 = false := (by simp only [fits, Bool.and_eq_false_iff, decide_eq_false_iff_not]; omega); simp [heatK, this]))⟩
                  case measure => simp [intOf]
            · -- damper 1
              have x1 := RX.out.cell 1 (v := .int .i64 p.h1) rfl
              have x0 := RX.out.cell 0 (v := .int .i64 p.h0) rfl
              cases okw
              · go_wp2_with fail
                go_quiet (fail)
                go_wp2_with fail
                go_roundw
                case rel => exact ⟨HRr.out.drewN _, RX.out.drewN _, below_drewN HEr.out _, 2, by omega, rfl, false, rfl, Lib.hid (heat_no (by omega) HOW.out)⟩
                case measure => simp [intOf]
              · by_cases hf : 0 ≤ p.h1 ∧ p.h1 ≤ 20
                · go_wp2_with fail
                  go_quiet ((go_at_call 46; exact quiet_eq (Fits_yes _ _ _ _ hf.1 hf.2)))
                  go_wp2_with fail
                  go_roundw
                  case rel => exact ⟨HRr.out.drewN _, RX.out.drewN _, below_drewN HEr.out _, 2, by omega, rfl, _, rfl, Lib.hid (heat_yes HOW.out (fun h => by simp_all [heatK, fits]))⟩
                  case measure => simp [intOf]
                · have hf2 : p.h1 < 0 ∨ 20 < p.h1 := by omega
                  go_wp2_with fail
                  go_quiet ((go_at_call 46; exact quiet_eq (Fits_no _ _ _ _ hf2)))
                  go_wp2_with fail
                  go_roundw
                  case rel => exact ⟨HRr.out.drewN _, RX.out.drewN _, below_drewN HEr.out _, 2, by omega, rfl, false, rfl, Lib.hid (heat_out (by have : fits p.h1 0 20 = false := (by simp only [fits, Bool.and_eq_false_iff, decide_eq_false_iff_not]; omega); simp [heatK, this]))⟩
                  case measure => simp [intOf]
            · -- damper 2
              have x2 := RX.out.cell 2 (v := .int .i64 p.h2) rfl
              have x1 := RX.out.cell 1 (v := .int .i64 p.h1) rfl
              cases okw
              · go_wp2_with fail
                go_quiet (fail)
                go_wp2_with fail
                go_roundw
                case rel => exact ⟨HRr.out.drewN _, RX.out.drewN _, below_drewN HEr.out _, 3, by omega, rfl, false, rfl, Lib.hid (heat_no (by omega) HOW.out)⟩
                case measure => simp [intOf]
              · by_cases hf : 0 ≤ p.h2 ∧ p.h2 ≤ 20
                · go_wp2_with fail
                  go_quiet ((go_at_call 46; exact quiet_eq (Fits_yes _ _ _ _ hf.1 hf.2)))
                  go_wp2_with fail
                  go_roundw
                  case rel => exact ⟨HRr.out.drewN _, RX.out.drewN _, below_drewN HEr.out _, 3, by omega, rfl, _, rfl, Lib.hid (heat_yes HOW.out (fun h => by simp_all [heatK, fits]))⟩
                  case measure => simp [intOf]
                · have hf2 : p.h2 < 0 ∨ 20 < p.h2 := by omega
                  go_wp2_with fail
                  go_quiet ((go_at_call 46; exact quiet_eq (Fits_no _ _ _ _ hf2)))
                  go_wp2_with fail
                  go_roundw
                  case rel => exact ⟨HRr.out.drewN _, RX.out.drewN _, below_drewN HEr.out _, 3, by omega, rfl, false, rfl, Lib.hid (heat_out (by have : fits p.h2 0 20 = false := (by simp only [fits, Bool.and_eq_false_iff, decide_eq_false_iff_not]; omega); simp [heatK, this]))⟩
                  case measure => simp [intOf]
            · -- damper 3
              have x3 := RX.out.cell 3 (v := .int .i64 p.h3) rfl
              have x2 := RX.out.cell 2 (v := .int .i64 p.h2) rfl
              cases okw
              · go_wp2_with fail
                go_quiet (fail)
                go_wp2_with fail
                go_roundw
                case rel => exact ⟨HRr.out.drewN _, RX.out.drewN _, below_drewN HEr.out _, 4, by omega, rfl, false, rfl, Lib.hid (heat_no (by omega) HOW.out)⟩
                case measure => simp [intOf]
              · by_cases hf : 0 ≤ p.h3 ∧ p.h3 ≤ 20
                · go_wp2_with fail
                  go_quiet ((go_at_call 46; exact quiet_eq (Fits_yes _ _ _ _ hf.1 hf.2)))
                  go_wp2_with fail
                  go_roundw
                  case rel => exact ⟨HRr.out.drewN _, RX.out.drewN _, below_drewN HEr.out _, 4, by omega, rfl, _, rfl, Lib.hid (heat_yes HOW.out (fun h => by simp_all [heatK, fits]))⟩
                  case measure => simp [intOf]
                · have hf2 : p.h3 < 0 ∨ 20 < p.h3 := by omega
                  go_wp2_with fail
                  go_quiet ((go_at_call 46; exact quiet_eq (Fits_no _ _ _ _ hf2)))
                  go_wp2_with fail
                  go_roundw
                  case rel => exact ⟨HRr.out.drewN _, RX.out.drewN _, below_drewN HEr.out _, 4, by omega, rfl, false, rfl, Lib.hid (heat_out (by have : fits p.h3 0 20 = false := (by simp only [fits, Bool.and_eq_false_iff, decide_eq_false_iff_not]; omega); simp [heatK, this]))⟩
                  case measure => simp [intOf]
            · go_wp2_with fail
              go_roundw
              case rel => exact ⟨k + 1, by omega, by go_num, ⟨okw, rfl, Lib.hid (by rw [HTA.out, ← HOK.out, Bool.true_and, ← HKP.out, ← HDK.out]; exact HOW.out)⟩, HRr.out, HEr.out⟩
              case measure => simp [intOf]; omega
      · obtain rfl : k = ps.length := by omega
        have HPA := Lib.hid (show ps.all ptB = true by have h := HOK.out.symm; rwa [List.take_length] at h)
        go_wp2_with fail
        clear c0
        go_loopw [3, 7] (fun a i wr => ∃ j : Nat, j ≤ ms.length ∧ i = .int .i64 j ∧ (∃ okv : Bool, a = .bool okv ∧ Hid (okv = ((frsM ms).take j).all (frB ps.length))) ∧ Row wr w.heap.size #[.slice (some ⟨b, o, none⟩) ps.length cp, .slice pf ms.length cf] 25 ∧ Below w.heap.size w wr) (fun _ i _ => ms.length - (intOf i).toNat)
        case atStart => exact ⟨0, by omega, rfl, ⟨true, rfl, Lib.hid (by simp)⟩, HRr.out, HE.out⟩
        case round =>
          clear HRr HE HOK
          obtain ⟨j, hj, rfl, ⟨okv, rfl, HOK⟩, r0, e0⟩ := hrel
          have HRr := Lib.hid r0
          have HE := Lib.hid e0
          clear r0 e0
          cases okv
          · have HV := Lib.hid (HFB.out (take_false HOK.out.symm))
            go_wp2_with fail
            go_ret
            exact ⟨ret_int HV.out.symm, HE.out⟩
          · have c1 := HRr.out.cell 1 (v := .slice pf ms.length cf) rfl
            have c0 := HRr.out.cell 0 (v := .slice (some ⟨b, o, none⟩) ps.length cp) rfl
            by_cases hlt : j < ms.length
            · obtain ⟨b', o', e', q0, q1, q2, q3⟩ := (HB.out.below HE.out).f j hlt
              have HTA := Lib.hid (frs_take (n := ps.length) hlt)
              have hsb := hst ms[j] (List.getElem_mem _)
              rw [e'] at c1
              clear e'
              have HKF := Lib.hid (frB_K ps.length ms[j].f)
              have Q3 := Lib.hid q3
              generalize frB ps.length ms[j].f = fb at *
              generalize ms[j].f.stay = st at *
              generalize ms[j].f.lo = flo at *
              generalize ms[j].f.hi = fhi at *
              generalize ms[j].p = sp at *
              generalize ms[j].c = sc at *
              have i1 : (0 : Int) ≤ (j : Int) := by omega
              have i2 : (j : Int) < (ms.length : Int) := by omega
              have hb := below_alloc wr (.cells #[.slice sp st.length sc, .int .i64 flo, .int .i64 fhi] 55)
              have RY := Lib.hid (Row.new wr #[.slice sp st.length sc, .int .i64 flo, .int .i64 fhi] 55)
              have HRr := Lib.hid (HRr.out.below hb HRr.out.lt)
              have HEr := Lib.hid (HE.out.trans (hb.mono HE.out.size))
              have Q3 := Lib.hid (Q3.out.below hb)
              have d0 := HRr.out.cell 0 (v := .slice (some ⟨b, o, none⟩) ps.length cp) rfl
              clear hb q3
              obtain ⟨yb, hyb⟩ : ∃ n, wr.heap.size = n := ⟨_, rfl⟩
              rw [hyb] at RY
              have y0 := RY.out.cell 0 (v := .slice sp st.length sc) rfl
              have y1 := RY.out.cell 1 (v := .int .i64 flo) rfl
              have y2 := RY.out.cell 2 (v := .int .i64 fhi) rfl
              go_upto_region 15 with (fail)
              clear hyb q0 q1 q2 c0 c1
              go_cut [3] from 91 to 102 (fun a wx => (∃ dk, a = .bool dk ∧ dk = (decide (st.length = ps.length) && (decide (0 ≤ flo) && decide (flo ≤ fhi) && decide (fhi ≤ 999)))) ∧ Row wx w.heap.size #[.slice (some ⟨b, o, none⟩) ps.length cp, .slice pf ms.length cf] 25 ∧ Row wx yb #[.slice sp st.length sc, .int .i64 flo, .int .i64 fhi] 55 ∧ Below w.heap.size w wx ∧ IntsAt wx sp st)
              case first =>
                by_cases e1 : st.length = ps.length
                · have he : ((st.length : Int) == (ps.length : Int)) = true := beq_iff_eq.2 (by omega)
                  have hd : decide (st.length = ps.length) = true := by simp [e1]
                  have HD := Lib.hid hd
                  clear e1 hd
                  go_wp2_with (first | (go_at_call 63; (with_reducible refine (Right_any _ _ _ _ _).mono ?_); rintro e wq ⟨rfl, hb⟩; have HRr := Lib.hid (HRr.out.below hb HRr.out.lt); have RY := Lib.hid (RY.out.below hb RY.out.lt); have Q3 := Lib.hid (Q3.out.below hb); have HEr := Lib.hid (HEr.out.trans (hb.mono HEr.out.size)); clear hb))
                  go_meet
                  exact ⟨⟨_, rfl, by rw [HD.out, Bool.true_and]⟩, HRr.out, RY.out, HEr.out, Q3.out⟩
                · have he : ((st.length : Int) == (ps.length : Int)) = false := beq_eq_false_iff_ne.2 (by omega)
                  go_wp2_with fail
                  go_meet
                  exact ⟨⟨false, rfl, by simp [e1]⟩, HRr.out, RY.out, HEr.out, Q3.out⟩
              case rest =>
                obtain ⟨⟨dk, rfl, hdk⟩, ra, rb, re, rq⟩ := hcut
                clear HRr RY HEr HE Q3 d0 y0 y1 y2
                generalize wc = w8 at *
                have HRr := Lib.hid ra
                have RY := Lib.hid rb
                have HEr := Lib.hid re
                have Q3 := Lib.hid rq
                have HDK := Lib.hid hdk
                clear ra rb re rq hdk
                go_wp2_with fail
                go_loopw [3, 9] (fun a i wr' => Row wr' w.heap.size #[.slice (some ⟨b, o, none⟩) ps.length cp, .slice pf ms.length cf] 25 ∧ Row wr' yb #[.slice sp st.length sc, .int .i64 flo, .int .i64 fhi] 55 ∧ Below w.heap.size w wr' ∧ IntsAt wr' sp st ∧ ∃ t : Nat, t ≤ st.length ∧ i = .int .i64 t ∧ ∃ okw : Bool, a = .bool okw ∧ Hid (okw = (dk && stayK st t))) (fun _ i _ => st.length - (intOf i).toNat)
                case atStart => exact ⟨HRr.out, RY.out, HEr.out, Q3.out, 0, by omega, rfl, dk, rfl, Lib.hid (by simp [stayK])⟩
                case round =>
                  clear HRr RY HEr Q3
                  obtain ⟨ra, rb, re, rq, t, ht, rfl, okw, rfl, HOW⟩ := hrel
                  have HRr := Lib.hid ra
                  have RY := Lib.hid rb
                  have HEr := Lib.hid re
                  have Q3 := Lib.hid rq
                  clear ra rb re rq
                  have y0 := RY.out.cell 0 (v := .slice sp st.length sc) rfl
                  cases okw
                  · go_wp2_with fail
                    go_roundw
                    case rel => exact ⟨j + 1, by omega, by go_num, ⟨false, rfl, Lib.hid (by rw [HTA.out, ← HOK.out, Bool.true_and, ← HKF.out, ← HDK.out]; exact stay_no HOW.out)⟩, HRr.out, HEr.out⟩
                    case measure => simp [intOf]; omega
                  · by_cases htl : t < st.length
                    · obtain ⟨b3, o3, hsp, hc3⟩ := Q3.out t htl
                      rw [hsp] at y0
                      clear hsp
                      have j1 : (0 : Int) ≤ (t : Int) := by omega
                      have j2 : (t : Int) < (st.length : Int) := by omega
                      go_wp2_with (first | (go_at_call 46; (with_reducible refine (Fits_any _ _ _ _).mono ?_); rintro e wf ⟨rfl, rfl⟩))
                      go_roundw
                      case rel => exact ⟨HRr.out, RY.out, HEr.out, Q3.out, t + 1, by omega, by go_num, _, rfl, Lib.hid (stay_go htl HOW.out)⟩
                      case measure => simp [intOf]; omega
                    · obtain rfl : t = st.length := by omega
                      go_wp2_with fail
                      go_roundw
                      case rel => exact ⟨j + 1, by omega, by go_num, ⟨true, rfl, Lib.hid (by rw [HTA.out, ← HOK.out, Bool.true_and, ← HKF.out, ← HDK.out]; exact HOW.out)⟩, HRr.out, HEr.out⟩
                      case measure => simp [intOf]; omega
            · obtain rfl : j = ms.length := by omega
              have HV := Lib.hid (HYB.out HPA.out (by have h := HOK.out.symm; rwa [← frsM_length ms, List.take_length] at h))
              go_wp2_with fail
              go_ret
              exact ⟨ret_int HV.out.symm, HE.out⟩

theorem refCheck_any (pp : Option Addr) (cp : Nat) (pf : Option Addr) (cf : Nat) (ps : List Pt) (ms : List FrM) (w : World) (hB : BkAt w pp pf ps ms) : Calls Try.prog 18 #[.agg #[.slice pp ps.length cp, .slice pf ms.length cf]] w fun e w' => e = .returned (.int .i64 (bookE ps (frsM ms))) ∧ Below w.heap.size w w' := by
  by_cases h : 1 ≤ ps.length ∧ ps.length ≤ 4 ∧ ms.length ≤ 5
  · exact refCheck_main pp cp pf cf ps ms w hB h.1 h.2.1 h.2.2
  · exact refCheck_base pp cp pf cf ps ms w hB h
end Go.Proofs.Ytfppcmechfjpoaa
/- The walks of the specification of layer 3: what is asked, the heat. -/
namespace Go.Proofs.Ytfppcmechfjpoaa
open Go.RowKit Go.Maps
attribute [local go_sem] Oper.semAt_some

theorem setB_snoc {l : List Int} {k : Nat} (h : k < l.length) : setB (l.take (k + 1)) = (setB (l.take k) && fits (at0 l k) 0 3) := by
  rw [setB, take_all h, at0_lt h]
  congr 1
  simp [fits, Bool.decide_and]
theorem setB_no {l : List Int} {k : Nat} (h : setB (l.take k) = false) : setB l = false := take_false h

set_option maxRecDepth 10000 in
set_option maxHeartbeats 1600000 in
theorem refIsSet_any (pp : Option Addr) (np cp : Nat) (pf : Option Addr) (nf cf : Nat) (q : Option Addr) (c : Nat) (l : List Int) (w : World) (hl : IntsAt w q l) (hn : l.length < 2 ^ 62) (_hnp : np < 2 ^ 62) :
    Calls Try.prog 60 #[.agg #[.slice pp np cp, .slice pf nf cf], .slice q l.length c] w fun e w' => e = .returned (.bool (isSetB np l)) ∧ Below w.heap.size w w' := by
  have HL := Lib.hid hl
  have HE := Lib.hid (below_alloc w (.cells #[.slice pp np cp, .slice pf nf cf] 25))
  clear hl
  by_cases he : l.length = np
  · have hb : ((l.length : Int) != (np : Int)) = false := by rw [he]; simp
    have HV := Lib.hid (show isSetB np l = setB l by simp [isSetB, he])
    clear he
    go_enter Try.func60, Try.ntmps60
    go_wp2_with fail
    go_loopw [5] (fun i wr => ∃ k : Nat, k ≤ l.length ∧ i = .int .i64 k ∧ Hid (setB (l.take k) = true) ∧ Below w.heap.size w wr) (fun i _ => l.length - (intOf i).toNat)
    case atStart => exact ⟨0, by omega, rfl, Lib.hid (by simp [setB]), HE.out⟩
    case round =>
      clear HE
      obtain ⟨k, hk, rfl, HS, e0⟩ := hrel
      have HE := Lib.hid e0
      clear e0
      by_cases hlt : k < l.length
      · obtain ⟨b, o, rfl, hc⟩ := (HL.out.below HE.out) k hlt
        have i1 : (0 : Int) ≤ (k : Int) := by omega
        have i2 : (k : Int) < (l.length : Int) := by omega
        have HT := Lib.hid (setB_snoc hlt)
        cases hf : fits (at0 l k) 0 3
        · have HF := Lib.hid hf
          have HN := Lib.hid (setB_no (k := k + 1) (by rw [HT.out, hf]; simp))
          clear hf
          go_wp2_with (first | (go_at_call 46; (with_reducible refine (Fits_any _ _ _ _).mono ?_); rintro e wf ⟨rfl, rfl⟩; rw [HF.out]))
          go_ret
          exact ⟨ret_bool (by rw [HV.out, HN.out]), HE.out⟩
        · have HF := Lib.hid hf
          clear hf
          go_wp2_with (first | (go_at_call 46; (with_reducible refine (Fits_any _ _ _ _).mono ?_); rintro e wf ⟨rfl, rfl⟩; rw [HF.out]))
          go_roundw
          case rel => exact ⟨k + 1, by omega, by go_num, Lib.hid (by rw [HT.out, HS.out, HF.out]; rfl), HE.out⟩
          case measure => simp [intOf]; omega
      · obtain rfl : k = l.length := by omega
        go_wp2_with fail
        go_ret
        exact ⟨ret_bool (by have h := HS.out; rw [List.take_length] at h; rw [HV.out, h]), HE.out⟩
  · have hb : ((l.length : Int) != (np : Int)) = true := bne_iff_ne.2 (by omega)
    have HV := Lib.hid (show isSetB np l = false by simp [isSetB, he])
    clear he
    go_enter Try.func60, Try.ntmps60
    go_wp2_with fail
    go_ret
    exact ⟨ret_bool (by rw [HV.out]), HE.out⟩
set_option maxRecDepth 10000 in
theorem refIsFrame_any (pp : Option Addr) (np cp : Nat) (pf : Option Addr) (nf cf : Nat) (n : Int) (w : World) (hnf : nf < 2 ^ 62) :
    Calls Try.prog 66 #[.agg #[.slice pp np cp, .slice pf nf cf], .int .i64 n] w fun e w' => e = .returned (.bool (fits n 0 ((nf : Int) - 1))) ∧ Below w.heap.size w w' := by
  have HE := Lib.hid (below_alloc w (.cells #[.slice pp np cp, .slice pf nf cf] 25))
  go_enter Try.func66, Try.ntmps66
  go_wp2_with (first | (go_at_call 46; (with_reducible refine (Fits_any _ _ _ _).mono ?_); rintro e wf ⟨rfl, rfl⟩))
  go_ret
  exact ⟨rfl, HE.out⟩
/-- The error of a book, and of a question. -/
def askedV (ps : List Pt) (fs : List Fr) (right : Bool) : Int := if bookB ps fs then (if right then 0 else 31) else 30
set_option maxRecDepth 10000 in
set_option maxHeartbeats 800000 in
theorem refAsked_any (pp : Option Addr) (cp : Nat) (pf : Option Addr) (cf : Nat) (ps : List Pt) (ms : List FrM) (right : Bool) (w : World) (hB : BkAt w pp pf ps ms) :
    Calls Try.prog 59 #[.agg #[.slice pp ps.length cp, .slice pf ms.length cf], .bool right] w fun e w' => e = .returned (.int .i64 (askedV ps (frsM ms) right)) ∧ Below w.heap.size w w' := by
  have hE := below_alloc w (.cells #[.slice pp ps.length cp, .slice pf ms.length cf] 25)
  have HB := Lib.hid (hB.below hE)
  have HE := Lib.hid hE
  clear hE hB
  cases hb : bookB ps (frsM ms)
  · have HV := Lib.hid (bookE_bad hb)
    have HA := Lib.hid (show askedV ps (frsM ms) right = 30 by simp [askedV, hb])
    clear hb
    go_enter Try.func59, Try.ntmps59
    go_wp2_with fail
    refine (refCheck_any pp cp pf cf ps ms _ HB.out).mono ?_
    rintro e w1 ⟨rfl, hb1⟩
    rw [HV.out]
    have HE := Lib.hid (HE.out.trans (hb1.mono HE.out.size))
    clear hb1
    go_wp2_with fail
    go_ret
    exact ⟨ret_int (by rw [HA.out]), HE.out⟩
  · have HV := Lib.hid (bookE_ok hb)
    have HA := Lib.hid (show askedV ps (frsM ms) right = if right then 0 else 31 by simp [askedV, hb])
    clear hb
    cases right
    all_goals
      go_enter Try.func59, Try.ntmps59
      go_wp2_with fail
      refine (refCheck_any pp cp pf cf ps ms _ HB.out).mono ?_
      rintro e w1 ⟨rfl, hb1⟩
      rw [HV.out]
      have HE := Lib.hid (HE.out.trans (hb1.mono HE.out.size))
      clear hb1
      go_wp2_with fail
      go_ret
      exact ⟨ret_int (by rw [HA.out]; rfl), HE.out⟩
end Go.Proofs.Ytfppcmechfjpoaa
/- The walks of the specification of layer 3: heat, how dry a frame is. -/
namespace Go.Proofs.Ytfppcmechfjpoaa
open Go.RowKit Go.Maps
attribute [local go_sem] Oper.semAt_some

theorem setE_asked (ps : List Pt) (fs : List Fr) (l : List Int) : askedV ps fs (isSetB ps.length l) = setE ps fs l := rfl
set_option maxRecDepth 10000 in
set_option maxHeartbeats 3200000 in
theorem refHeatOf_any (pp : Option Addr) (cp : Nat) (pf : Option Addr) (nf cf : Nat) (ps : List Pt) (q : Option Addr) (c : Nat) (s : List Int) (w : World) (hP : PtsAt w pp ps) (hok : ∀ p ∈ ps, PtOk p) (h0 : 0 < ps.length) (h4 : ps.length ≤ 4) (hI : IntsAt w q s) (hs : isSetB ps.length s = true) :
    Calls Try.prog 61 #[.agg #[.slice pp ps.length cp, .slice pf nf cf], .slice q s.length c] w fun e w' => e = .returned (.int .i64 (heatD ps s)) ∧ Below w.heap.size w w' := by
  obtain ⟨b, o, rfl⟩ : ∃ b o, pp = some ⟨b, o, none⟩ := by
    obtain ⟨b, o, e, _⟩ := hP 0 h0
    exact ⟨b, o, e⟩
  simp only [isSetB, setB, Bool.and_eq_true, decide_eq_true_eq, List.all_eq_true] at hs
  obtain ⟨hsl, hm⟩ := hs
  have HSL := Lib.hid hsl
  have HM := Lib.hid hm
  have HP := Lib.hid hP
  have HI := Lib.hid hI
  have HOKP := Lib.hid hok
  have HHR := Lib.hid (fun n (h : n ≤ ps.length) => heatTo_range (s := s) hok n h)
  clear hsl hm hP hI hok
  go_enter Try.func61, Try.ntmps61
  go_wp2_with fail
  go_loopw [5, 6] (fun a i wr => ∃ k : Nat, k ≤ s.length ∧ i = .int .i64 k ∧ a = .int .i64 (heatTo ps s k) ∧ Row wr w.heap.size #[.slice (some ⟨b, o, none⟩) ps.length cp, .slice pf nf cf] 25 ∧ Below w.heap.size w wr) (fun _ i _ => s.length - (intOf i).toNat)
  case atStart => exact ⟨0, by omega, rfl, by simp [heatTo], Row.new _ _ _, below_alloc _ _⟩
  case round =>
    obtain ⟨k, hk, rfl, rfl, r0, e0⟩ := hrel
    have HR := Lib.hid r0
    have HE := Lib.hid e0
    clear r0 e0
    by_cases hlt : k < s.length
    · have hkp : k < ps.length := by have := HSL.out; omega
      have hsk := HM.out _ (at0_mem hlt)
      obtain ⟨d, hd⟩ : ∃ d : Nat, at0 s k = d := ⟨(at0 s k).toNat, by omega⟩
      have hd3 : d ≤ 3 := by omega
      obtain ⟨b', o', e', hcell⟩ := (HP.out.below HE.out).heat hkp hd3
      cases e'
      obtain ⟨b2, o2, rfl, hsc⟩ := (HI.out.below HE.out) k hlt
      rw [hd] at hsc
      have c0 := HR.out.cell 0 (v := .slice (some ⟨b, o, none⟩) ps.length cp) rfl
      have hr3 := Pt.h_range (HOKP.out ps[k] (List.getElem_mem _)) d
      have hra := HHR.out k (by omega)
      have HN := Lib.hid (heatTo_succ (ps := ps) (s := s) hkp)
      have HD := Lib.hid hd
      have i1 : (0 : Int) ≤ (k : Int) := by omega
      have i2 : (k : Int) < (ps.length : Int) := by omega
      have i3 : (k : Int) < (s.length : Int) := by omega
      have i5 : (0 : Int) ≤ (d : Int) := by omega
      have i6 : (d : Int) < 4 := by omega
      obtain ⟨hh, eh⟩ : ∃ x, ps[k].h d = x := ⟨_, rfl⟩
      obtain ⟨aa, ea⟩ : ∃ x, heatTo ps s k = x := ⟨_, rfl⟩
      have HX := Lib.hid (show heatTo ps s (k + 1) = aa + hh by rw [HN.out, ea, HD.out, eh])
      rw [eh] at hcell hr3
      rw [ea] at hra
      have EA := Lib.hid ea
      clear eh ea hd HN
      have e1 : IntKind.i64.wrap (aa + hh) = aa + hh := IntWalk.i64_in _ (by omega)
      rw [EA.out]
      go_wp2_with fail
      go_quiet (fail)
      go_wp2_with fail
      go_roundw
      case rel => exact ⟨k + 1, by omega, by go_num, by rw [HX.out], HR.out.drewN _, below_drewN HE.out _⟩
      case measure => simp [intOf]; omega
    · obtain rfl : k = s.length := by omega
      go_wp2_with fail
      go_ret
      exact ⟨ret_int (by rw [heatD, HSL.out]), HE.out⟩

set_option maxRecDepth 10000 in
set_option maxHeartbeats 3200000 in
theorem refHeat_any (pp : Option Addr) (cp : Nat) (pf : Option Addr) (cf : Nat) (ps : List Pt) (ms : List FrM) (w : World) (hB : BkAt w pp pf ps ms) (q : Option Addr) (c : Nat) (l : List Int) (hl : IntsAt w q l) (hn : l.length < 2 ^ 62) : Calls Try.prog 16 #[.agg #[.slice pp ps.length cp, .slice pf ms.length cf], .slice q l.length c] w fun e w' => e = .returned (.tuple #[.int .i64 (heatV ps (frsM ms) l), .int .i64 (setE ps (frsM ms) l)]) ∧ Below w.heap.size w w' := by
  have hE := below_alloc w (.cells #[.slice pp ps.length cp, .slice pf ms.length cf] 25)
  have HB := Lib.hid hB
  have HE := Lib.hid hE
  have HR := Lib.hid (Row.new w #[.slice pp ps.length cp, .slice pf ms.length cf] 25)
  have HL := Lib.hid hl
  have hnp := hB.b1
  obtain ⟨W0, hW0⟩ : ∃ W, W = w.alloc (.cells #[.slice pp ps.length cp, .slice pf ms.length cf] 25) := ⟨_, rfl⟩
  rw [← hW0] at HE HR
  have HW0 := Lib.hid hW0
  have KI := Lib.hid (From.refl W0)
  have HSS := Lib.hid (fun w' (k : From W0 w') => (⟨(k.row HR.out).cell 0 rfl, (k.row HR.out).cell 1 rfl⟩ : w'.cell? ⟨w.heap.size, 0, none⟩ = some (.slice pp ps.length cp) ∧ w'.cell? ⟨w.heap.size, 1, none⟩ = some (.slice pf ms.length cf)))
  clear hE hB hl hW0
  obtain ⟨v, hv⟩ : ∃ x, setE ps (frsM ms) l = x := ⟨_, rfl⟩
  have HV := Lib.hid hv
  by_cases h0 : v = 0
  · subst h0
    have hbs : bookB ps (frsM ms) = true ∧ isSetB ps.length l = true := by
      unfold setE at hv
      split at hv
      · rename_i h1
        split at hv
        · rename_i h2; exact ⟨h1, h2⟩
        · cases hv
      · cases hv
    have HHV := Lib.hid (show heatV ps (frsM ms) l = heatD ps l by rw [heatV, if_pos hv])
    have hok := bookB_iff.1 hbs.1
    have HOK := Lib.hid hok
    have HSB := Lib.hid hbs.2
    clear hv hbs hok
    rw [HHV.out, HV.out]
    go_enter Try.func16, Try.ntmps16
    go_wp2_with fail
    rw [← HW0.out]
    go_region_held3 (fun w' => w'.cell? ⟨w.heap.size, 0, none⟩ = some (.slice pp ps.length cp) ∧ w'.cell? ⟨w.heap.size, 1, none⟩ = some (.slice pf ms.length cf)) (first | with_reducible exact HSS.out _ KI.out | with_reducible exact HSS.out _ KI.out.drew)
      (first
      | (go_at_call 60; (with_reducible refine (refIsSet_any _ _ _ _ _ _ _ _ l _ (by first | with_reducible exact HL.out.below (HE.out.trans (KI.out.b.mono HE.out.size)) | with_reducible exact HL.out.below (HE.out.trans (KI.out.drew.b.mono HE.out.size))) hn hnp).mono ?_); rintro e wy ⟨rfl, hbu⟩; have KI := Lib.hid (by first | with_reducible exact KI.out.drew.below hbu | with_reducible exact KI.out.below hbu); clear hbu)
      | (go_at_call 59; (with_reducible refine (refAsked_any _ _ _ _ ps ms _ _ (HB.out.below (HE.out.trans (KI.out.b.mono HE.out.size)))).mono ?_); rw [setE_asked, HV.out]; rintro e wy ⟨rfl, hbu⟩; have KI := Lib.hid (KI.out.below hbu); clear hbu))
    all_goals
      have c0 := (KI.out.row HR.out).cell 0 (v := .slice pp ps.length cp) rfl
      have c1 := (KI.out.row HR.out).cell 1 (v := .slice pf ms.length cf) rfl
      have HE2 := Lib.hid (HE.out.trans (KI.out.b.mono HE.out.size))
      go_wp2_with fail
      refine (refHeatOf_any _ _ _ _ _ ps _ _ l _ (HB.out.below HE2.out).p HOK.out.p HOK.out.p1 HOK.out.p4 (HL.out.below HE2.out) HSB.out).mono ?_
      rintro e w9 ⟨rfl, hb⟩
      have HE3 := Lib.hid (HE2.out.trans (hb.mono HE2.out.size))
      clear hb c0 c1
      go_wp2_with fail
      go_ret2
      exact ⟨rfl, HE3.out⟩
  · have h0' : (v != 0) = true := by simpa using h0
    have HHV := Lib.hid (show heatV ps (frsM ms) l = 0 by rw [heatV, if_neg (by rw [hv]; exact h0)])
    clear hv
    rw [HHV.out, HV.out]
    go_enter Try.func16, Try.ntmps16
    go_wp2_with fail
    rw [← HW0.out]
    go_region_held3 (fun w' => w'.cell? ⟨w.heap.size, 0, none⟩ = some (.slice pp ps.length cp) ∧ w'.cell? ⟨w.heap.size, 1, none⟩ = some (.slice pf ms.length cf)) (first | with_reducible exact HSS.out _ KI.out | with_reducible exact HSS.out _ KI.out.drew)
      (first
      | (go_at_call 60; (with_reducible refine (refIsSet_any _ _ _ _ _ _ _ _ l _ (by first | with_reducible exact HL.out.below (HE.out.trans (KI.out.b.mono HE.out.size)) | with_reducible exact HL.out.below (HE.out.trans (KI.out.drew.b.mono HE.out.size))) hn hnp).mono ?_); rintro e wy ⟨rfl, hbu⟩; have KI := Lib.hid (by first | with_reducible exact KI.out.drew.below hbu | with_reducible exact KI.out.below hbu); clear hbu)
      | (go_at_call 59; (with_reducible refine (refAsked_any _ _ _ _ ps ms _ _ (HB.out.below (HE.out.trans (KI.out.b.mono HE.out.size)))).mono ?_); rw [setE_asked, HV.out]; rintro e wy ⟨rfl, hbu⟩; have KI := Lib.hid (KI.out.below hbu); clear hbu))
    all_goals
      have HE2 := Lib.hid (HE.out.trans (KI.out.b.mono HE.out.size))
      go_wp2_with fail
      go_ret2
      exact ⟨rfl, HE2.out⟩
end Go.Proofs.Ytfppcmechfjpoaa
