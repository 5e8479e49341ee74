/- The law's own helpers of layer 3: is there a book? -/
import Derived.Test.YtfppcmechfjpoaaVD
namespace Go.Proofs.Ytfppcmechfjpoaa
open Go.RowKit Go.Maps
attribute [local go_sem] Oper.semAt_some

set_option maxRecDepth 10000 in
set_option maxHeartbeats 1600000 in
theorem sound_no (pp : Option Addr) (cp : Nat) (pf : Option Addr) (cf : Nat) (ps : List Pt) (ms : List FrM) (w : World) (hB : BkAt w pp pf ps ms) (hb : bookB ps (frsM ms) = false) : Calls Try.prog 39 #[.agg #[.slice pp ps.length cp, .slice pf ms.length cf]] w fun e w' => e = .returned (.bool false) ∧ Below w.heap.size w w' := by
  have hE := below_alloc w (.cells #[.slice pp ps.length cp, .slice pf ms.length cf] 25)
  have HB := Lib.hid (hB.below hE)
  have HE := Lib.hid hE
  have HV := Lib.hid (bookE_bad hb)
  clear hE hB hb
  go_enter Try.func39, Try.ntmps39
  go_wp2_with fail
  refine (Check_any pp cp pf cf ps ms _ HB.out).mono ?_
  rintro e w1 ⟨rfl, hb1⟩
  rw [HV.out]
  have HE := Lib.hid (HE.out.trans (hb1.mono HE.out.size))
  clear hb1
  go_wp2_with fail
  go_loopw [3] (fun a wr => a = .bool false ∧ wr = w1) (fun _ _ => 0)
  case atStart => exact ⟨rfl, rfl⟩
  case round =>
    obtain ⟨rfl, rfl⟩ := hrel
    go_wp2_with fail
    go_loopw [3] (fun a wr' => a = .bool false ∧ wr' = wr) (fun _ _ => 0)
    case atStart => exact ⟨rfl, rfl⟩
    case round =>
      obtain ⟨rfl, rfl⟩ := hrel
      go_wp2_with fail
      go_ret
      exact ⟨rfl, HE.out⟩
theorem fits_yes {n lo hi : Int} (h : lo ≤ n ∧ n ≤ hi) : fits n lo hi = true := by simp [fits, h.1, h.2]
set_option maxRecDepth 10000 in
set_option maxHeartbeats 3200000 in
theorem sound_yes (pp : Option Addr) (cp : Nat) (pf : Option Addr) (cf : Nat) (ps : List Pt) (ms : List FrM) (w : World) (hB : BkAt w pp pf ps ms) (hb : bookB ps (frsM ms) = true) : Calls Try.prog 39 #[.agg #[.slice pp ps.length cp, .slice pf ms.length cf]] w fun e w' => e = .returned (.bool true) ∧ Below w.heap.size w w' := by
  have hE := below_alloc w (.cells #[.slice pp ps.length cp, .slice pf ms.length cf] 25)
  have HB := Lib.hid (hB.below hE)
  have HE := Lib.hid hE
  have HR := Lib.hid (Row.new w #[.slice pp ps.length cp, .slice pf ms.length cf] 25)
  have HV := Lib.hid (bookE_ok hb)
  have HBK := Lib.hid (bk_of hB hb)
  have hn4 := HBK.out.n4
  have hn5 := HBK.out.n5
  have hn1 := HBK.out.ok.p1
  have hn5' : (ms.length : Int) ≤ 5 := by omega
  have HFT := Lib.hid (fits_yes (n := (ps.length : Int)) (lo := 1) (hi := 4) (by omega))
  clear hE hB hb
  go_enter Try.func39, Try.ntmps39
  go_wp2_with fail
  refine (Check_any pp cp pf cf ps ms _ HB.out).mono ?_
  rintro e w1 ⟨rfl, hb1⟩
  rw [HV.out]
  have HE := Lib.hid (HE.out.trans (hb1.mono HE.out.size))
  have HR := Lib.hid (HR.out.below hb1 HR.out.lt)
  clear hb1
  have c0 := HR.out.cell 0 (v := .slice pp ps.length cp) rfl
  have c1 := HR.out.cell 1 (v := .slice pf ms.length cf) rfl
  go_wp2_with (first | (go_at_call 46; (with_reducible refine (Fits_any _ _ _ _).mono ?_); rintro e u ⟨rfl, rfl⟩; rw [HFT.out]))
  clear c0 c1
  go_loopw [3, 4] (fun a i wr => ∃ k : Nat, k ≤ ps.length ∧ i = .int .i64 k ∧ a = .bool true ∧ Row wr w.heap.size #[.slice pp ps.length cp, .slice pf ms.length cf] 25 ∧ Below w.heap.size w wr) (fun _ i _ => ps.length - (intOf i).toNat)
  case atStart => exact ⟨0, by omega, rfl, rfl, HR.out, HE.out⟩
  case round =>
    obtain ⟨k, hk, rfl, rfl, r0, hbw⟩ := hrel
    have HRr := Lib.hid r0
    have HEr := Lib.hid hbw
    have hz := r0.lt
    have c0 := r0.cell 0 (v := .slice pp ps.length cp) rfl
    have c1 := r0.cell 1 (v := .slice pf ms.length cf) rfl
    clear r0 hbw
    by_cases hlt : k < ps.length
    · obtain ⟨b, o, rfl, q0, q1, q2, q3, q4, q5⟩ := (HBK.out.p.below HEr.out) k hlt
      have hok := HBK.out.ok.p ps[k] (List.getElem_mem _)
      obtain ⟨a0, a1, a2, a3, a4, l0, l1, l2, l3⟩ := hok
      have i1 : (0 : Int) ≤ (k : Int) := by omega
      have i2 : (k : Int) < (ps.length : Int) := by omega
      have HRT := Lib.hid (show (decide (0 ≤ ps[k].lo) && decide (ps[k].lo ≤ ps[k].hi) && decide (ps[k].hi ≤ 20)) = true by simp; omega)
      have F0 := Lib.hid (fits_yes (n := ps[k].h0) (lo := 0) (hi := 20) (by omega))
      have F1 := Lib.hid (fits_yes (n := ps[k].h1) (lo := 0) (hi := 20) (by omega))
      have F2 := Lib.hid (fits_yes (n := ps[k].h2) (lo := 0) (hi := 20) (by omega))
      have F3 := Lib.hid (fits_yes (n := ps[k].h3) (lo := 0) (hi := 20) (by omega))
      have hba := below_alloc wr (.cells #[.int .i64 ps[k].h0, .int .i64 ps[k].h1, .int .i64 ps[k].h2, .int .i64 ps[k].h3, .int .i64 ps[k].lo, .int .i64 ps[k].hi] 64)
      have RX := Lib.hid (Row.new wr #[.int .i64 ps[k].h0, .int .i64 ps[k].h1, .int .i64 ps[k].h2, .int .i64 ps[k].h3, .int .i64 ps[k].lo, .int .i64 ps[k].hi] 64)
      have HRr := Lib.hid (HRr.out.below hba HRr.out.lt)
      have HEr := Lib.hid (HEr.out.trans (hba.mono HEr.out.size))
      clear hba
      generalize ps[k].h0 = h0 at *
      generalize ps[k].h1 = h1 at *
      generalize ps[k].h2 = h2 at *
      generalize ps[k].h3 = h3 at *
      generalize ps[k].lo = lo at *
      generalize ps[k].hi = hi at *
      go_wp2_with fail
      refine (Right_any _ _ _ _ _).mono ?_
      rintro e w2 ⟨rfl, hb2⟩
      rw [HRT.out]
      have RX := Lib.hid (RX.out.below hb2 RX.out.lt)
      have HRr := Lib.hid (HRr.out.below hb2 HRr.out.lt)
      have HEr := Lib.hid (HEr.out.trans (hb2.mono HEr.out.size))
      clear hb2 q0 q1 q2 q3 q4 q5 c0 c1
      have x4 := RX.out.cell 4 (v := .int .i64 lo) rfl
      have x5 := RX.out.cell 5 (v := .int .i64 hi) rfl
      go_wp2_with fail
      clear x4 x5
      go_loopw [3, 6] (fun a i wr' => a = .bool true ∧ wr' = w2 ∧ (i = .int .i64 0 ∨ i = .int .i64 1 ∨ i = .int .i64 2 ∨ i = .int .i64 3 ∨ i = .int .i64 4)) (fun _ i _ => 4 - (intOf i).toNat)
      case atStart => exact ⟨rfl, rfl, .inl rfl⟩
      case round =>
        obtain ⟨rfl, rfl, hi⟩ := hrel
        have x0 := RX.out.cell 0 (v := .int .i64 h0) rfl
        have x1 := RX.out.cell 1 (v := .int .i64 h1) rfl
        have x2 := RX.out.cell 2 (v := .int .i64 h2) rfl
        have x3 := RX.out.cell 3 (v := .int .i64 h3) rfl
        rcases hi with rfl | rfl | rfl | rfl | rfl
        · go_wp2_with (first | (go_at_call 46; (with_reducible refine (Fits_any _ _ _ _).mono ?_); rintro e u ⟨rfl, rfl⟩; rw [F0.out]))
          go_roundw
          case rel => exact ⟨rfl, trivial, .inr (.inl rfl)⟩
          case measure => simp [intOf]
        · go_wp2_with (first | (go_at_call 46; (with_reducible refine (Fits_any _ _ _ _).mono ?_); rintro e u ⟨rfl, rfl⟩; rw [F1.out]))
          go_roundw
          case rel => exact ⟨rfl, trivial, .inr (.inr (.inl rfl))⟩
          case measure => simp [intOf]
        · go_wp2_with (first | (go_at_call 46; (with_reducible refine (Fits_any _ _ _ _).mono ?_); rintro e u ⟨rfl, rfl⟩; rw [F2.out]))
          go_roundw
          case rel => exact ⟨rfl, trivial, .inr (.inr (.inr (.inl rfl)))⟩
          case measure => simp [intOf]
        · go_wp2_with (first | (go_at_call 46; (with_reducible refine (Fits_any _ _ _ _).mono ?_); rintro e u ⟨rfl, rfl⟩; rw [F3.out]))
          go_roundw
          case rel => exact ⟨rfl, trivial, .inr (.inr (.inr (.inr rfl)))⟩
          case measure => simp [intOf]
        · go_wp2_with fail
          go_roundw
          case rel => exact ⟨k + 1, by omega, by go_num, rfl, HRr.out, HEr.out⟩
          case measure => simp [intOf]; omega
    · obtain rfl : k = ps.length := by omega
      go_wp2_with fail
      clear c0 c1
      go_loopw [3, 7] (fun a i wr => ∃ k : Nat, k ≤ ms.length ∧ i = .int .i64 k ∧ a = .bool true ∧ Row wr w.heap.size #[.slice pp ps.length cp, .slice pf ms.length cf] 25 ∧ Below w.heap.size w wr) (fun _ i _ => ms.length - (intOf i).toNat)
      case atStart => exact ⟨0, by omega, rfl, rfl, HRr.out, HEr.out⟩
      case round =>
        clear HRr HEr hz
        obtain ⟨k, hk, rfl, rfl, r0, hbw⟩ := hrel
        have HR2 := Lib.hid r0
        have HE2 := Lib.hid hbw
        have hz := r0.lt
        have c0 := r0.cell 0 (v := .slice pp ps.length cp) rfl
        have c1 := r0.cell 1 (v := .slice pf ms.length cf) rfl
        clear r0 hbw
        by_cases hlt : k < ms.length
        · obtain ⟨b, o, rfl, q0, q1, q2, q3⟩ := (HBK.out.f.below HE2.out) k hlt
          have hok := HBK.out.fr hlt
          obtain ⟨s0, sn, l0, l1, l2⟩ := hok
          have i1 : (0 : Int) ≤ (k : Int) := by omega
          have i2 : (k : Int) < (ms.length : Int) := by omega
          have HRT := Lib.hid (show (decide (0 ≤ ms[k].f.lo) && decide (ms[k].f.lo ≤ ms[k].f.hi) && decide (ms[k].f.hi ≤ 999)) = true by simp; omega)
          have HST := Lib.hid s0
          have Q3 := Lib.hid q3
          clear s0 q3
          generalize ms[k].f.stay = st at *
          generalize ms[k].f.lo = lo at *
          generalize ms[k].f.hi = hi at *
          generalize ms[k].p = sp at *
          generalize ms[k].c = sc at *
          have hba := below_alloc wr (.cells #[.slice sp st.length sc, .int .i64 lo, .int .i64 hi] 55)
          have RX := Lib.hid (Row.new wr #[.slice sp st.length sc, .int .i64 lo, .int .i64 hi] 55)
          have HR2 := Lib.hid (HR2.out.below hba HR2.out.lt)
          have HE2 := Lib.hid (HE2.out.trans (hba.mono HE2.out.size))
          have Q3 := Lib.hid (Q3.out.below hba)
          have hsn : ((st.length : Int) == (ps.length : Int)) = true := by simp; omega
          have hst4 : st.length ≤ 4 := by omega
          clear hba sn
          go_wp2_with fail
          refine (Right_any _ _ _ _ _).mono ?_
          rintro e w2 ⟨rfl, hb2⟩
          rw [HRT.out]
          have RX := Lib.hid (RX.out.below hb2 RX.out.lt)
          have HR2 := Lib.hid (HR2.out.below hb2 HR2.out.lt)
          have HE2 := Lib.hid (HE2.out.trans (hb2.mono HE2.out.size))
          have Q3 := Lib.hid (Q3.out.below hb2)
          clear hb2 q0 q1 q2 c0 c1
          have x0 := RX.out.cell 0 (v := .slice sp st.length sc) rfl
          go_wp2_with fail
          clear x0
          go_loopw [3, 9] (fun a i wr' => wr' = w2 ∧ ∃ j : Nat, j ≤ st.length ∧ i = .int .i64 j ∧ a = .bool true) (fun _ i _ => st.length - (intOf i).toNat)
          case atStart => exact ⟨rfl, 0, by omega, rfl, rfl⟩
          case round =>
            obtain ⟨rfl, j, hj, rfl, rfl⟩ := hrel
            have x0 := RX.out.cell 0 (v := .slice sp st.length sc) rfl
            by_cases hjl : j < st.length
            · obtain ⟨b', o', rfl, hc⟩ := Q3.out j hjl
              have j1 : (0 : Int) ≤ (j : Int) := by omega
              have j2 : (j : Int) < (st.length : Int) := by omega
              have HF := Lib.hid (fits_yes (n := at0 st j) (lo := 0) (hi := 20) (by have := HST.out st[j] (List.getElem_mem _); rw [at0_lt hjl]; exact this))
              go_wp2_with (first | (go_at_call 46; (with_reducible refine (Fits_any _ _ _ _).mono ?_); rintro e u ⟨rfl, rfl⟩; rw [HF.out]))
              go_roundw
              case rel => exact ⟨trivial, j + 1, by omega, by go_num, rfl⟩
              case measure => simp [intOf]; omega
            · obtain rfl : j = st.length := by omega
              go_wp2_with fail
              go_roundw
              case rel => exact ⟨k + 1, by omega, by go_num, rfl, HR2.out, HE2.out⟩
              case measure => simp [intOf]; omega
        · obtain rfl : k = ms.length := by omega
          go_wp2_with fail
          go_ret
          exact ⟨rfl, HE2.out⟩
theorem sound_any (pp : Option Addr) (cp : Nat) (pf : Option Addr) (cf : Nat) (ps : List Pt) (ms : List FrM) (w : World) (hB : BkAt w pp pf ps ms) : Calls Try.prog 39 #[.agg #[.slice pp ps.length cp, .slice pf ms.length cf]] w fun e w' => e = .returned (.bool (bookB ps (frsM ms))) ∧ Below w.heap.size w w' := by
  cases hb : bookB ps (frsM ms)
  · exact sound_no pp cp pf cf ps ms w hB hb
  · exact sound_yes pp cp pf cf ps ms w hB hb
end Go.Proofs.Ytfppcmechfjpoaa
