/- The law of layer 3 on the part that is asked for. -/
import Derived.Test.YtjaeheodabojfaaWF
namespace Go.Proofs.Ytjaeheodabojfaa
open Go.RowKit Go.Maps
attribute [local go_sem] Oper.semAt_some

set_option maxRecDepth 10000 in
set_option maxHeartbeats 3200000 in
theorem ask_bad (pp : Option Addr) (cp : Nat) (pf : Option Addr) (cf : Nat) (ps : List Pt) (ms : List FrM) (n : Int) (w : World) (hB : BkAt w pp pf ps ms) (hb : bookB ps (frsM ms) = false) : Calls Try.prog 13 #[.agg #[.slice pp ps.length cp, .slice pf ms.length cf], .int .i64 n] w fun e w' => e = .returned (.bool true) ∧ Below w.heap.size w w' := by
  have hE := below_alloc w (.cells #[.slice pp ps.length cp, .slice pf ms.length cf] 25)
  have HB := Lib.hid (hB.below hE)
  have HE := Lib.hid hE
  have HR := Lib.hid (Row.new w #[.slice pp ps.length cp, .slice pf ms.length cf] 25)
  clear hE
  have HV := Lib.hid hb
  clear hb 
  go_enter Try.func13, Try.ntmps13
  go_wp2_with fail
  refine (sound_any pp cp pf cf ps ms _ HB.out).mono ?_
  rintro e w1 ⟨rfl, hb1⟩
  rw [HV.out]
  have HE := Lib.hid (HE.out.trans (hb1.mono HE.out.size))
  have HR := Lib.hid (HR.out.below hb1 HR.out.lt)
  clear hb1
  go_wp2_with fail
  refine (warmed_any _).mono ?_
  rintro e w2 ⟨rfl, hb2⟩
  have HE := Lib.hid (HE.out.trans (hb2.mono HE.out.size))
  clear hb2
  go_wp2_with fail
  go_ret
  exact ⟨rfl, HE.out⟩

set_option maxRecDepth 10000 in
set_option maxHeartbeats 3200000 in
theorem ask_main (pp : Option Addr) (cp : Nat) (pf : Option Addr) (cf : Nat) (ps : List Pt) (ms : List FrM) (n : Int) (w : World) (hB : BkAt w pp pf ps ms) (hb : bookB ps (frsM ms) = true) : Calls Try.prog 13 #[.agg #[.slice pp ps.length cp, .slice pf ms.length cf], .int .i64 n] w fun e w' => e = .returned (.bool true) ∧ Below w.heap.size w w' := by
  obtain ⟨b, o, rfl⟩ : ∃ b o, pp = some ⟨b, o, none⟩ := by
    obtain ⟨b, o, e, _⟩ := hB.p 0 (bookB_iff.1 hb).p1
    exact ⟨b, o, e⟩
  have hE := below_alloc w (.cells #[.slice (some ⟨b, o, none⟩) ps.length cp, .slice pf ms.length cf] 25)
  have HB := Lib.hid (hB.below hE)
  have HE := Lib.hid hE
  have HR := Lib.hid (Row.new w #[.slice (some ⟨b, o, none⟩) ps.length cp, .slice pf ms.length cf] 25)
  clear hE
  have HV := Lib.hid hb
  have HBK := Lib.hid (bk_of hB hb)
  have hok := bookB_iff.1 hb
  have hn4 := HBK.out.n4
  have hn5 := HBK.out.n5
  have hn1 := HBK.out.ok.p1
  have HB0 := Lib.hid hB
  obtain ⟨a, ha, hal, hask⟩ := ask_is hb
  obtain ⟨p, hp, hpl⟩ : ∃ p : Nat, spin n ps.length = p ∧ p < ps.length := ⟨(spin n ps.length).toNat, by have := spin_range n ps.length (by omega); omega, by have := spin_range n ps.length (by omega); omega⟩
  have HAV := Lib.hid ha
  have HP := Lib.hid hp
  have h1 := worst_ge hok hal
  obtain ⟨h2, h3⟩ := hask p hpl
  have BE := Lib.hid (bookE_ok hb)
  have MF := Lib.hid (show mostF ps (frsM ms) = goodD ps (frsM ms) (mostD ps (frsM ms)) by rw [mostF, if_pos hb])
  have HFT := Lib.hid (fits_yes (n := (a : Int)) (lo := 0) (hi := (ps.length : Int) - 1) (by omega))
  have W1 := Lib.hid (fun w hB => lworst_any (some ⟨b, o, none⟩) cp pf cf ps ms w hB hb a hal)
  have W2 := Lib.hid (fun w hB => lworst_any (some ⟨b, o, none⟩) cp pf cf ps ms w hB hb p hpl)
  generalize goodD ps (frsM ms) (mostD ps (frsM ms)) = gd at *
  generalize worstD ps (frsM ms) a = x at *
  generalize worstD ps (frsM ms) p = y at *
  have H3 := Lib.hid h3
  clear hb hok ha hp hask h3
  go_enter Try.func13, Try.ntmps13
  go_wp2_with fail
  refine (sound_any (some ⟨b, o, none⟩) cp pf cf ps ms _ HB.out).mono ?_
  rintro e w1 ⟨rfl, hb1⟩
  rw [HV.out]
  have HE := Lib.hid (HE.out.trans (hb1.mono HE.out.size))
  have HR := Lib.hid (HR.out.below hb1 HR.out.lt)
  clear hb1
  have c0 := HR.out.cell 0 (v := .slice (some ⟨b, o, none⟩) ps.length cp) rfl
  have c1 := HR.out.cell 1 (v := .slice pf ms.length cf) rfl
  go_wp2_with fail
  clear c0 c1
  have hd := Ask_any (some ⟨b, o, none⟩) cp pf cf ps ms _ (HB0.out.below HE.out)
  rw [HAV.out, BE.out] at hd
  refine hd.mono ?_
  clear hd
  rintro e w3 ⟨rfl, hb⟩
  have HE := Lib.hid (HE.out.trans (hb.mono HE.out.size))
  have HR := Lib.hid (HR.out.below hb HR.out.lt)
  clear hb
  have c0 := HR.out.cell 0 (v := .slice (some ⟨b, o, none⟩) ps.length cp) rfl
  have c1 := HR.out.cell 1 (v := .slice pf ms.length cf) rfl
  go_wp2_with fail
  clear c0 c1
  have hd := Most_any (some ⟨b, o, none⟩) cp pf cf ps ms _ (HB0.out.below HE.out)
  rw [MF.out, BE.out] at hd
  refine hd.mono ?_
  clear hd
  rintro e w5 ⟨qm, cm, qf, cf2, rfl, _, _, hb⟩
  have HE := Lib.hid (HE.out.trans (hb.mono HE.out.size))
  have HR := Lib.hid (HR.out.below hb HR.out.lt)
  clear hb
  have c0 := HR.out.cell 0 (v := .slice (some ⟨b, o, none⟩) ps.length cp) rfl
  have c1 := HR.out.cell 1 (v := .slice pf ms.length cf) rfl
  go_wp2_with (first
    | (go_at_call 46; (with_reducible refine (Fits_any _ _ _ _).mono ?_); rintro e u ⟨rfl, rfl⟩; rw [HFT.out])
    | (go_at_call 48; (with_reducible refine (Spin_any _ _ _ (by unfold I64; omega)).mono ?_); rintro e u ⟨rfl, rfl⟩; rw [HP.out]))
  clear c0 c1
  have hS : ∀ w', From w5 w' → (w'.cell? ⟨w.heap.size, 0, none⟩ = some (.slice (some ⟨b, o, none⟩) ps.length cp) ∧ w'.cell? ⟨w.heap.size, 1, none⟩ = some (.slice pf ms.length cf)) := fun w' k => ⟨(k.row HR.out).cell 0 rfl, (k.row HR.out).cell 1 rfl⟩
  have HSS := Lib.hid hS
  have KI := Lib.hid (From.refl w5)
  clear hS
  go_region_held3 (fun w' => (w'.cell? ⟨w.heap.size, 0, none⟩ = some (.slice (some ⟨b, o, none⟩) ps.length cp) ∧ w'.cell? ⟨w.heap.size, 1, none⟩ = some (.slice pf ms.length cf))) (first | with_reducible exact HSS.out _ KI.out | with_reducible exact HSS.out _ KI.out.drew)
    (first
      | (go_at_call 53; (first | with_reducible refine (W1.out _ (by first | with_reducible exact (HB0.out.below (HE.out.trans (KI.out.b.mono HE.out.size))) | with_reducible exact (HB0.out.below (HE.out.trans (KI.out.drew.b.mono HE.out.size))))).mono ?_ | with_reducible refine (W2.out _ (by first | with_reducible exact (HB0.out.below (HE.out.trans (KI.out.b.mono HE.out.size))) | with_reducible exact (HB0.out.below (HE.out.trans (KI.out.drew.b.mono HE.out.size))))).mono ?_); rintro e u ⟨rfl, hbu⟩; have KI := Lib.hid (by first | with_reducible exact KI.out.drew.below hbu | with_reducible exact KI.out.below hbu); clear hbu))
  all_goals
    have HE := Lib.hid (HE.out.trans (KI.out.b.mono HE.out.size))
    by_cases h4 : x = y
    · have h5 := H3.out h4.symm
      have h4' : (x == y) = true := by simpa using h4
      have h6 : (a : Int) ≤ (p : Int) := by omega
      have h7 : ¬ y < x := by omega
      go_wp2_with fail
      refine (warmed_any _).mono ?_
      rintro e w9 ⟨rfl, hb⟩
      have HE := Lib.hid (HE.out.trans (hb.mono HE.out.size))
      clear hb
      go_wp2_with fail
      go_ret
      exact ⟨rfl, HE.out⟩
    · have h4' : (x == y) = false := by simpa using h4
      have h7 : y < x := by omega
      go_wp2_with fail
      refine (warmed_any _).mono ?_
      rintro e w9 ⟨rfl, hb⟩
      have HE := Lib.hid (HE.out.trans (hb.mono HE.out.size))
      clear hb
      go_wp2_with fail
      go_ret
      exact ⟨rfl, HE.out⟩
theorem TunnelAsk_any (pp : Option Addr) (cp : Nat) (pf : Option Addr) (cf : Nat) (ps : List Pt) (ms : List FrM) (n : Int) (w : World) (hB : BkAt w pp pf ps ms) : Calls Try.prog 13 #[.agg #[.slice pp ps.length cp, .slice pf ms.length cf], .int .i64 n] w fun e w' => e = .returned (.bool true) ∧ Below w.heap.size w w' := by
  cases hb : bookB ps (frsM ms)
  · exact ask_bad pp cp pf cf ps ms n w hB hb
  · exact ask_main pp cp pf cf ps ms n w hB hb
end Go.Proofs.Ytjaeheodabojfaa
