/- The law of layer 3 on minutes more. -/
import Derived.Test.YtjaeheodabojfaaWE
namespace Go.Proofs.Ytjaeheodabojfaa
open Go.RowKit Go.Maps
attribute [local go_sem] Oper.semAt_some

theorem long_bk {w w' : World} {pp pf pf' : Option Addr} {ps : List Pt} {ms : List FrM} {f g c k : Nat} {m : Int} (hB : BkAt w pp pf ps ms) (hb : Below w.heap.size w w') (hf : f < ms.length) (h : FrsAt w' pf' (ms.set f (longF ms[f] g c k m))) : BkAt w' pp pf' ps (ms.set f (longF ms[f] g c k m)) := by
  refine ⟨hB.p.below hb, h, hB.b1, by rw [List.length_set]; exact hB.b2, fun x hx => ?_⟩
  rcases List.mem_or_eq_of_mem_set hx with hx | rfl
  · exact hB.b3 x hx
  · have := hB.b3 ms[f] (List.getElem_mem _)
    simpa [longF] using this
theorem long_vals {ps : List Pt} {ms : List FrM} {s : List Int} {f k : Nat} {m : Int} (hb : bookB ps (frsM ms) = true) (hs : isSetB ps.length s = true) (hf : f < ms.length) (hk : k < ps.length) (h0 : 0 ≤ m) (h1 : at0 ms[f].f.stay k + m ≤ 20) (g c : Nat) : kindV ps (frsM (ms.set f (longF ms[f] g c k m))) s f = kindD ps s (longFr ms[f].f k m) ∧ frameE ps (frsM (ms.set f (longF ms[f] g c k m))) s f = 0 := by
  have hok := bookB_iff.1 hb
  have hf' : f < (frsM ms).length := by rw [frsM_length]; exact hf
  have h2 := long_ok hok hf' (k := k) (more := m) h0 hk (by simpa [frsM] using h1)
  have h3 : (frsM ms)[f] = ms[f].f := by simp [frsM]
  rw [h3] at h2
  have h4 := bookB_iff.2 h2
  rw [← frsM_long _ _ g c _ _ hf] at h4
  have hE : frameE ps (frsM (ms.set f (longF ms[f] g c k m))) s f = 0 := frameE_yes h4 hs (by omega) (by simp; omega)
  refine ⟨?_, hE⟩
  rw [kindV, if_pos hE, stayF_at (by simp; exact hf)]
  simp [longF, longFr]

set_option maxRecDepth 10000 in
set_option maxHeartbeats 3200000 in
theorem longer_bad (pp : Option Addr) (cp : Nat) (pf : Option Addr) (cf : Nat) (ps : List Pt) (ms : List FrM) (pbits : Option Addr) (cbits : Nat) (bits : List Int) (n0 n1 : Int) (w : World) (hB : BkAt w pp pf ps ms) (_hibits : IntsAt w pbits bits) (_hnbits : bits.length ≤ maxLen) (hb : bookB ps (frsM ms) = false) : Calls Try.prog 11 #[.agg #[.slice pp ps.length cp, .slice pf ms.length cf], .slice pbits bits.length cbits, .agg #[.int .i64 n0, .int .i64 n1]] w fun e w' => e = .returned (.bool true) ∧ Below w.heap.size w w' := by
  have hE := below_alloc2 w (.cells #[.slice pp ps.length cp, .slice pf ms.length cf] 25) (.cells #[.int .i64 n0, .int .i64 n1] 47)
  have HB := Lib.hid (hB.below hE)
  have HE := Lib.hid hE
  have HR := Lib.hid ((Row.new w #[.slice pp ps.length cp, .slice pf ms.length cf] 25).alloc (.cells #[.int .i64 n0, .int .i64 n1] 47))
  have HN := Lib.hid (Row.new1 w (.cells #[.slice pp ps.length cp, .slice pf ms.length cf] 25) #[.int .i64 n0, .int .i64 n1] 47)
  clear hE
  have HV := Lib.hid hb
  clear hb _hibits _hnbits
  go_enter Try.func11, Try.ntmps11
  go_wp2_with fail
  refine (sound_any pp cp pf cf ps ms _ HB.out).mono ?_
  rintro e w1 ⟨rfl, hb1⟩
  rw [HV.out]
  have HE := Lib.hid (HE.out.trans (hb1.mono HE.out.size))
  have HR := Lib.hid (HR.out.below hb1 HR.out.lt)
  have HN := Lib.hid (HN.out.below hb1 HN.out.lt)
  clear hb1
  go_wp2_with fail
  refine (warmed_any _).mono ?_
  rintro e w2 ⟨rfl, hb2⟩
  have HE := Lib.hid (HE.out.trans (hb2.mono HE.out.size))
  clear hb2
  go_wp2_with fail
  go_ret
  exact ⟨rfl, HE.out⟩

set_option maxRecDepth 10000 in
set_option maxHeartbeats 3200000 in
theorem longer_none (pp : Option Addr) (cp : Nat) (pf : Option Addr) (cf : Nat) (ps : List Pt) (ms : List FrM) (pbits : Option Addr) (cbits : Nat) (bits : List Int) (n0 n1 : Int) (w : World) (hB : BkAt w pp pf ps ms) (_hibits : IntsAt w pbits bits) (_hnbits : bits.length ≤ maxLen) (hb : bookB ps (frsM ms) = true) (h0 : ms.length = 0) : Calls Try.prog 11 #[.agg #[.slice pp ps.length cp, .slice pf ms.length cf], .slice pbits bits.length cbits, .agg #[.int .i64 n0, .int .i64 n1]] w fun e w' => e = .returned (.bool true) ∧ Below w.heap.size w w' := by
  have hE := below_alloc2 w (.cells #[.slice pp ps.length cp, .slice pf ms.length cf] 25) (.cells #[.int .i64 n0, .int .i64 n1] 47)
  have HB := Lib.hid (hB.below hE)
  have HE := Lib.hid hE
  have HR := Lib.hid ((Row.new w #[.slice pp ps.length cp, .slice pf ms.length cf] 25).alloc (.cells #[.int .i64 n0, .int .i64 n1] 47))
  have HN := Lib.hid (Row.new1 w (.cells #[.slice pp ps.length cp, .slice pf ms.length cf] 25) #[.int .i64 n0, .int .i64 n1] 47)
  clear hE
  have HV := Lib.hid hb
  have H0 := Lib.hid h0
  clear hb _hibits _hnbits h0
  go_enter Try.func11, Try.ntmps11
  go_wp2_with fail
  refine (sound_any pp cp pf cf ps ms _ HB.out).mono ?_
  rintro e w1 ⟨rfl, hb1⟩
  rw [HV.out]
  have HE := Lib.hid (HE.out.trans (hb1.mono HE.out.size))
  have HR := Lib.hid (HR.out.below hb1 HR.out.lt)
  have HN := Lib.hid (HN.out.below hb1 HN.out.lt)
  clear hb1
  have c1 := HR.out.cell 1 (v := .slice pf ms.length cf) rfl
  clear HR HN HV HB hB
  rw [H0.out] at c1
  go_wp2_with fail
  refine (warmed_any _).mono ?_
  rintro e w2 ⟨rfl, hb2⟩
  have HE := Lib.hid (HE.out.trans (hb2.mono HE.out.size))
  clear hb2 c1
  go_wp2_with fail
  go_ret
  exact ⟨rfl, HE.out⟩

set_option maxRecDepth 10000 in
set_option maxHeartbeats 3200000 in
theorem longer_no (pp : Option Addr) (cp : Nat) (pf : Option Addr) (cf : Nat) (ps : List Pt) (ms : List FrM) (pbits : Option Addr) (cbits : Nat) (bits : List Int) (n0 n1 : Int) (w : World) (hB : BkAt w pp pf ps ms) (hibits : IntsAt w pbits bits) (hnbits : bits.length ≤ maxLen) (hb : bookB ps (frsM ms) = true) (h0 : 0 < ms.length) (hkd : ∀ f s, spin n0 ms.length = ((f : Nat) : Int) → s = settingL bits ps.length → (hf : f < ms.length) → kindD ps s ms[f].f ≠ 0) : Calls Try.prog 11 #[.agg #[.slice pp ps.length cp, .slice pf ms.length cf], .slice pbits bits.length cbits, .agg #[.int .i64 n0, .int .i64 n1]] w fun e w' => e = .returned (.bool true) ∧ Below w.heap.size w w' := by
  obtain ⟨b, o, rfl⟩ : ∃ b o, pf = some ⟨b, o, none⟩ := by
    obtain ⟨b, o, e, _⟩ := hB.f 0 h0
    exact ⟨b, o, e⟩
  have hE := below_alloc2 w (.cells #[.slice pp ps.length cp, .slice (some ⟨b, o, none⟩) ms.length cf] 25) (.cells #[.int .i64 n0, .int .i64 n1] 47)
  have HB := Lib.hid (hB.below hE)
  have HE := Lib.hid hE
  have HR := Lib.hid ((Row.new w #[.slice pp ps.length cp, .slice (some ⟨b, o, none⟩) ms.length cf] 25).alloc (.cells #[.int .i64 n0, .int .i64 n1] 47))
  have HN := Lib.hid (Row.new1 w (.cells #[.slice pp ps.length cp, .slice (some ⟨b, o, none⟩) ms.length cf] 25) #[.int .i64 n0, .int .i64 n1] 47)
  clear hE
  have HV := Lib.hid hb
  have HBK := Lib.hid (bk_of hB hb)
  have hn4 := HBK.out.n4
  have hn5 := HBK.out.n5
  have hn1 := HBK.out.ok.p1
  have hpos : (0 : Int) < (ms.length : Int) := by omega
  obtain ⟨f, hf, hfl⟩ : ∃ f : Nat, spin n0 ms.length = f ∧ f < ms.length := ⟨(spin n0 ms.length).toNat, by have := spin_range n0 ms.length (by omega); omega, by have := spin_range n0 ms.length (by omega); omega⟩
  obtain ⟨k, hk, hkl⟩ : ∃ k : Nat, spin n1 ps.length = k ∧ k < ps.length := ⟨(spin n1 ps.length).toNat, by have := spin_range n1 ps.length (by omega); omega, by have := spin_range n1 ps.length (by omega); omega⟩
  have HF := Lib.hid hf
  have HK := Lib.hid hk
  have HBI := Lib.hid hibits
  have HBN := Lib.hid hnbits
  obtain ⟨s, hs⟩ : ∃ s, s = settingL bits ps.length := ⟨_, rfl⟩
  have HS := Lib.hid hs
  have hsl : s.length = ps.length := by rw [hs, settingL_length]
  have HSL := Lib.hid hsl
  have HB0 := Lib.hid hB
  have hi1' : isSetB ps.length s = true := by rw [hs]; exact settingL_set _ _
  have HSS0 := Lib.hid hi1'
  have hkn := hkd f s hf hs hfl
  have hfe : frameE ps (frsM ms) s f = 0 := frameE_yes hb hi1' (by omega) (by omega)
  have FE := Lib.hid hfe
  have hst := stayF_at (ms := ms) hfl
  obtain ⟨kv, hkv⟩ : ∃ x, kindV ps (frsM ms) s f = x := ⟨_, rfl⟩
  have KV := Lib.hid hkv
  have hkn2 : kv ≠ 0 := by rw [← hkv, kindV, if_pos hfe, hst]; exact hkn
  have LE := Lib.hid (show longE ps (frsM ms) s f k = 4 by rw [longE, if_pos hfe, if_pos ⟨by omega, by omega⟩, hst, if_neg hkn])
  have LV := Lib.hid (show longV ps (frsM ms) s f k = 0 by rw [longV, LE.out, if_neg (by decide)])
  have hkn3 : (kv != 0) = true := by simpa using hkn2
  have h0' : ((ms.length : Int) == 0) = false := beq_eq_false_iff_ne.2 (by omega)
  clear hb hsl hibits hnbits hf hk hs hi1' hfe hst hkv hkn hkd
  go_enter Try.func11, Try.ntmps11
  go_wp2_with fail
  refine (sound_any pp cp (some ⟨b, o, none⟩) cf ps ms _ HB.out).mono ?_
  rintro e w1 ⟨rfl, hb1⟩
  rw [HV.out]
  have HE := Lib.hid (HE.out.trans (hb1.mono HE.out.size))
  have HR := Lib.hid (HR.out.below hb1 HR.out.lt)
  have HN := Lib.hid (HN.out.below hb1 HN.out.lt)
  clear hb1
  have c1 := HR.out.cell 1 (v := .slice (some ⟨b, o, none⟩) ms.length cf) rfl
  go_wp2_with fail
  clear c1
  have hS : ∀ w', From w1 w' → (w'.cell? ⟨w.heap.size, 0, none⟩ = some (.slice pp ps.length cp) ∧ w'.cell? ⟨w.heap.size, 1, none⟩ = some (.slice (some ⟨b, o, none⟩) ms.length cf) ∧ w'.cell? ⟨w.heap.size + 1, 0, none⟩ = some (.int .i64 n0) ∧ w'.cell? ⟨w.heap.size + 1, 1, none⟩ = some (.int .i64 n1)) := fun w' k => ⟨(k.row HR.out).cell 0 rfl, (k.row HR.out).cell 1 rfl, (k.row HN.out).cell 0 rfl, (k.row HN.out).cell 1 rfl⟩
  have HSS := Lib.hid hS
  have KI := Lib.hid (From.refl w1)
  clear hS
  go_region_held3 (fun w' => (w'.cell? ⟨w.heap.size, 0, none⟩ = some (.slice pp ps.length cp) ∧ w'.cell? ⟨w.heap.size, 1, none⟩ = some (.slice (some ⟨b, o, none⟩) ms.length cf) ∧ w'.cell? ⟨w.heap.size + 1, 0, none⟩ = some (.int .i64 n0) ∧ w'.cell? ⟨w.heap.size + 1, 1, none⟩ = some (.int .i64 n1))) (first | with_reducible exact HSS.out _ KI.out | with_reducible exact HSS.out _ KI.out.drew)
    (first
      | (go_at_call 41; (with_reducible refine (setting_any _ _ _ (by omega) _ _ _ _ _ bits _ (by first | with_reducible exact (HBI.out.below (HE.out.trans (KI.out.b.mono HE.out.size))) | with_reducible exact (HBI.out.below (HE.out.trans (KI.out.drew.b.mono HE.out.size)))) HBN.out).mono ?_); rw [← HS.out]; rintro e u ⟨q, c, rfl, hi, hbu⟩; have HI := Lib.hid hi; have KI := Lib.hid (by first | with_reducible exact KI.out.drew.below hbu | with_reducible exact KI.out.below hbu); clear hbu hi)
      | (go_at_call 48; (with_reducible refine (Spin_any _ _ _ (by unfold I64; omega)).mono ?_); rintro e u' ⟨rfl, rfl⟩; first | rw [HF.out] | rw [HK.out]))
  all_goals
    have HE := Lib.hid (HE.out.trans (KI.out.b.mono HE.out.size))
    have HR := Lib.hid (KI.out.row HR.out)
    have c0 := HR.out.cell 0 (v := .slice pp ps.length cp) rfl
    have c1 := HR.out.cell 1 (v := .slice (some ⟨b, o, none⟩) ms.length cf) rfl
    go_wp2_with fail
    clear c0 c1
    have hd := Longer_any pp cp (some ⟨b, o, none⟩) cf ps ms _ (HB0.out.below HE.out) q c s HI.out (by rw [HSL.out]; omega) f k
    rw [LE.out, LV.out] at hd
    refine hd.mono ?_
    clear hd
    rintro e w3 ⟨rfl, hb⟩
    have HE := Lib.hid (HE.out.trans (hb.mono HE.out.size))
    have HR := Lib.hid (HR.out.below hb HR.out.lt)
    have HI := Lib.hid (HI.out.below hb)
    clear hb
    have c0 := HR.out.cell 0 (v := .slice pp ps.length cp) rfl
    have c1 := HR.out.cell 1 (v := .slice (some ⟨b, o, none⟩) ms.length cf) rfl
    go_wp2_with fail
    clear c0 c1
    have hd := Kind_any pp cp (some ⟨b, o, none⟩) cf ps ms _ (HB0.out.below HE.out) q c s HI.out (by rw [HSL.out]; omega) f
    rw [FE.out, KV.out] at hd
    refine hd.mono ?_
    clear hd
    rintro e w4 ⟨rfl, hb⟩
    have HE := Lib.hid (HE.out.trans (hb.mono HE.out.size))
    have HR := Lib.hid (HR.out.below hb HR.out.lt)
    have HI := Lib.hid (HI.out.below hb)
    clear hb
    go_wp2_with fail
    refine (warmed_any _).mono ?_
    rintro e w5 ⟨rfl, hb⟩
    have HE := Lib.hid (HE.out.trans (hb.mono HE.out.size))
    clear hb
    go_wp2_with fail
    go_ret
    exact ⟨rfl, HE.out⟩

set_option maxRecDepth 10000 in
set_option maxHeartbeats 3200000 in
theorem longer_yes (pp : Option Addr) (cp : Nat) (pf : Option Addr) (cf : Nat) (ps : List Pt) (ms : List FrM) (pbits : Option Addr) (cbits : Nat) (bits : List Int) (n0 n1 : Int) (w : World) (hB : BkAt w pp pf ps ms) (hibits : IntsAt w pbits bits) (hnbits : bits.length ≤ maxLen) (hb : bookB ps (frsM ms) = true) (h0 : 0 < ms.length) (hkd : ∀ f s, spin n0 ms.length = ((f : Nat) : Int) → s = settingL bits ps.length → (hf : f < ms.length) → kindD ps s ms[f].f = 0) : Calls Try.prog 11 #[.agg #[.slice pp ps.length cp, .slice pf ms.length cf], .slice pbits bits.length cbits, .agg #[.int .i64 n0, .int .i64 n1]] w fun e w' => e = .returned (.bool true) ∧ Below w.heap.size w w' := by
  obtain ⟨b, o, rfl⟩ : ∃ b o, pf = some ⟨b, o, none⟩ := by
    obtain ⟨b, o, e, _⟩ := hB.f 0 h0
    exact ⟨b, o, e⟩
  have hE := below_alloc2 w (.cells #[.slice pp ps.length cp, .slice (some ⟨b, o, none⟩) ms.length cf] 25) (.cells #[.int .i64 n0, .int .i64 n1] 47)
  have HB := Lib.hid (hB.below hE)
  have HE := Lib.hid hE
  have HR := Lib.hid ((Row.new w #[.slice pp ps.length cp, .slice (some ⟨b, o, none⟩) ms.length cf] 25).alloc (.cells #[.int .i64 n0, .int .i64 n1] 47))
  have HN := Lib.hid (Row.new1 w (.cells #[.slice pp ps.length cp, .slice (some ⟨b, o, none⟩) ms.length cf] 25) #[.int .i64 n0, .int .i64 n1] 47)
  clear hE
  have HV := Lib.hid hb
  have HBK := Lib.hid (bk_of hB hb)
  have hn4 := HBK.out.n4
  have hn5 := HBK.out.n5
  have hn1 := HBK.out.ok.p1
  have hpos : (0 : Int) < (ms.length : Int) := by omega
  obtain ⟨f, hf, hfl⟩ : ∃ f : Nat, spin n0 ms.length = f ∧ f < ms.length := ⟨(spin n0 ms.length).toNat, by have := spin_range n0 ms.length (by omega); omega, by have := spin_range n0 ms.length (by omega); omega⟩
  obtain ⟨k, hk, hkl⟩ : ∃ k : Nat, spin n1 ps.length = k ∧ k < ps.length := ⟨(spin n1 ps.length).toNat, by have := spin_range n1 ps.length (by omega); omega, by have := spin_range n1 ps.length (by omega); omega⟩
  have HF := Lib.hid hf
  have HK := Lib.hid hk
  have HBI := Lib.hid hibits
  have HBN := Lib.hid hnbits
  obtain ⟨s, hs⟩ : ∃ s, s = settingL bits ps.length := ⟨_, rfl⟩
  have HS := Lib.hid hs
  have hsl : s.length = ps.length := by rw [hs, settingL_length]
  have HSL := Lib.hid hsl
  have HB0 := Lib.hid hB
  have hi1' : isSetB ps.length s = true := by rw [hs]; exact settingL_set _ _
  have HSS0 := Lib.hid hi1'
  have hkn := hkd f s hf hs hfl
  have hfe : frameE ps (frsM ms) s f = 0 := frameE_yes hb hi1' (by omega) (by omega)
  have FE := Lib.hid hfe
  have hst := stayF_at (ms := ms) hfl
  have hfr := HBK.out.fr hfl
  have hks : k < ms[f].f.stay.length := by rw [hfr.n]; exact hkl
  have hsr := hfr.s _ (at0_mem hks)
  have KV := Lib.hid (show kindV ps (frsM ms) s f = 0 by rw [kindV, if_pos hfe, hst]; exact hkn)
  have LE := Lib.hid (show longE ps (frsM ms) s f k = 0 by rw [longE, if_pos hfe, if_pos ⟨by omega, by omega⟩, hst, if_pos hkn])
  obtain ⟨m, hm⟩ : ∃ m : Nat, longN (longB ps s ms[f].f k) (20 - at0 ms[f].f.stay k).toNat = m := ⟨_, rfl⟩
  have hm1 := longN_le (longB ps s ms[f].f k) (20 - at0 ms[f].f.stay k).toNat
  have hm2 := longN_true (B := longB ps s ms[f].f k) (by show decide (kindD ps s (longFr ms[f].f k (0 : Nat)) = 0) = true; rw [show ((0 : Nat) : Int) = 0 from rfl, longFr_zero hks]; simpa using hkn) (20 - at0 ms[f].f.stay k).toNat
  have hm3 := longN_next (B := longB ps s ms[f].f k) (20 - at0 ms[f].f.stay k).toNat
  rw [hm] at hm1 hm2 hm3
  simp only [longB, decide_eq_true_eq, decide_eq_false_iff_not] at hm2 hm3
  have LV := Lib.hid (show longV ps (frsM ms) s f k = (m : Int) by rw [longV, if_pos LE.out, hst, show ((k : Int)).toNat = k by omega, hm])
  have V1 := Lib.hid (fun g c => long_vals (ps := ps) (s := s) (m := (m : Int)) hb hi1' hfl hkl (by omega) (by omega) g c)
  have V2 := Lib.hid (fun g c (h : at0 ms[f].f.stay k + (m : Int) + 1 ≤ 20) => long_vals (ps := ps) (s := s) (m := ((m + 1 : Nat) : Int)) hb hi1' hfl hkl (by omega) (by push_cast; omega) g c)
  have M2 := Lib.hid hm2
  have M3 := Lib.hid hm3
  have hmi : (m : Int) ≤ 20 - at0 ms[f].f.stay k := by omega
  have HSN := Lib.hid (show ms[f].f.stay.length ≤ 10 by rw [hfr.n]; omega)
  have HFT := Lib.hid (fits_yes (n := (m : Int)) (lo := 0) (hi := 20 - at0 ms[f].f.stay k) (by omega))
  have h0' : ((ms.length : Int) == 0) = false := beq_eq_false_iff_ne.2 (by omega)
  have i1 : (0 : Int) ≤ (f : Int) := by omega
  have i2 : (f : Int) < (ms.length : Int) := by omega
  have i3 : (0 : Int) ≤ (k : Int) := by omega
  have i4 : (k : Int) < (ms[f].f.stay.length : Int) := by omega
  clear hb hsl hibits hnbits hf hk hs hi1' hfe hst hkn hkd hm hm1 hm2 hm3 hfr
  go_enter Try.func11, Try.ntmps11
  go_wp2_with fail
  refine (sound_any pp cp (some ⟨b, o, none⟩) cf ps ms _ HB.out).mono ?_
  rintro e w1 ⟨rfl, hb1⟩
  rw [HV.out]
  have HE := Lib.hid (HE.out.trans (hb1.mono HE.out.size))
  have HR := Lib.hid (HR.out.below hb1 HR.out.lt)
  have HN := Lib.hid (HN.out.below hb1 HN.out.lt)
  clear hb1
  have c1 := HR.out.cell 1 (v := .slice (some ⟨b, o, none⟩) ms.length cf) rfl
  go_wp2_with fail
  clear c1
  have hS : ∀ w', From w1 w' → (w'.cell? ⟨w.heap.size, 0, none⟩ = some (.slice pp ps.length cp) ∧ w'.cell? ⟨w.heap.size, 1, none⟩ = some (.slice (some ⟨b, o, none⟩) ms.length cf) ∧ w'.cell? ⟨w.heap.size + 1, 0, none⟩ = some (.int .i64 n0) ∧ w'.cell? ⟨w.heap.size + 1, 1, none⟩ = some (.int .i64 n1)) := fun w' k => ⟨(k.row HR.out).cell 0 rfl, (k.row HR.out).cell 1 rfl, (k.row HN.out).cell 0 rfl, (k.row HN.out).cell 1 rfl⟩
  have HSS := Lib.hid hS
  have KI := Lib.hid (From.refl w1)
  clear hS
  go_region_held3 (fun w' => (w'.cell? ⟨w.heap.size, 0, none⟩ = some (.slice pp ps.length cp) ∧ w'.cell? ⟨w.heap.size, 1, none⟩ = some (.slice (some ⟨b, o, none⟩) ms.length cf) ∧ w'.cell? ⟨w.heap.size + 1, 0, none⟩ = some (.int .i64 n0) ∧ w'.cell? ⟨w.heap.size + 1, 1, none⟩ = some (.int .i64 n1))) (first | with_reducible exact HSS.out _ KI.out | with_reducible exact HSS.out _ KI.out.drew)
    (first
      | (go_at_call 41; (with_reducible refine (setting_any _ _ _ (by omega) _ _ _ _ _ bits _ (by first | with_reducible exact (HBI.out.below (HE.out.trans (KI.out.b.mono HE.out.size))) | with_reducible exact (HBI.out.below (HE.out.trans (KI.out.drew.b.mono HE.out.size)))) HBN.out).mono ?_); rw [← HS.out]; rintro e u ⟨q, c, rfl, hi, hbu⟩; have HI := Lib.hid hi; have KI := Lib.hid (by first | with_reducible exact KI.out.drew.below hbu | with_reducible exact KI.out.below hbu); clear hbu hi)
      | (go_at_call 48; (with_reducible refine (Spin_any _ _ _ (by unfold I64; omega)).mono ?_); rintro e u' ⟨rfl, rfl⟩; first | rw [HF.out] | rw [HK.out]))
  all_goals
    have HE := Lib.hid (HE.out.trans (KI.out.b.mono HE.out.size))
    have HR := Lib.hid (KI.out.row HR.out)
    have c0 := HR.out.cell 0 (v := .slice pp ps.length cp) rfl
    have c1 := HR.out.cell 1 (v := .slice (some ⟨b, o, none⟩) ms.length cf) rfl
    go_wp2_with fail
    clear c0 c1
    have hd := Longer_any pp cp (some ⟨b, o, none⟩) cf ps ms _ (HB0.out.below HE.out) q c s HI.out (by rw [HSL.out]; omega) f k
    rw [LE.out, LV.out] at hd
    refine hd.mono ?_
    clear hd
    rintro e w3 ⟨rfl, hb⟩
    have HE := Lib.hid (HE.out.trans (hb.mono HE.out.size))
    have HR := Lib.hid (HR.out.below hb HR.out.lt)
    have HI := Lib.hid (HI.out.below hb)
    clear hb
    have c0 := HR.out.cell 0 (v := .slice pp ps.length cp) rfl
    have c1 := HR.out.cell 1 (v := .slice (some ⟨b, o, none⟩) ms.length cf) rfl
    go_wp2_with fail
    clear c0 c1
    have hd := Kind_any pp cp (some ⟨b, o, none⟩) cf ps ms _ (HB0.out.below HE.out) q c s HI.out (by rw [HSL.out]; omega) f
    rw [FE.out, KV.out] at hd
    refine hd.mono ?_
    clear hd
    rintro e w4 ⟨rfl, hb⟩
    have HE := Lib.hid (HE.out.trans (hb.mono HE.out.size))
    have HR := Lib.hid (HR.out.below hb HR.out.lt)
    have HI := Lib.hid (HI.out.below hb)
    clear hb
    have c0 := HR.out.cell 0 (v := .slice pp ps.length cp) rfl
    have c1 := HR.out.cell 1 (v := .slice (some ⟨b, o, none⟩) ms.length cf) rfl
    obtain ⟨b', o', e', q0, _, _, q3⟩ := (HB0.out.below HE.out).f f hfl
    cases e'
    obtain ⟨b', o', hsp, q4⟩ := q3 k hks
    have HSP := Lib.hid hsp
    rw [hsp] at q0
    clear q3 hsp
    go_wp2_with (first | (go_at_call 46; (with_reducible refine (Fits_any _ _ _ _).mono ?_); rintro e u ⟨rfl, rfl⟩; rw [HFT.out]))
    clear c0 c1 q0 q4
    refine (stays_any pp ps.length cp (some ⟨b, o, none⟩) cf ms _ (HB0.out.below HE.out).f (by omega) f hfl k hks HSN.out m).mono ?_
    rintro e w5 ⟨g, cap, g2, c2, _, rfl, hfr2, _, _, hb⟩
    have HL := Lib.hid (long_bk (HB0.out.below HE.out) hb hfl hfr2)
    clear hfr2
    have HE := Lib.hid (HE.out.trans (hb.mono HE.out.size))
    have HR := Lib.hid (HR.out.below hb HR.out.lt)
    have HI := Lib.hid (HI.out.below hb)
    clear hb
    have hb := below_alloc w5 (.cells #[.slice pp ps.length cp, .slice (some ⟨g, 0, none⟩) ms.length cap] 25)
    have HL := Lib.hid (HL.out.below hb)
    have HE := Lib.hid (HE.out.trans (hb.mono HE.out.size))
    have HR := Lib.hid (HR.out.below hb HR.out.lt)
    have HI := Lib.hid (HI.out.below hb)
    clear hb
    go_wp2_with fail
    have hd := Kind_any pp cp (some ⟨g, 0, none⟩) cap ps _ _ HL.out q c s HI.out (by rw [HSL.out]; omega) f
    rw [(V1.out g2 c2).1, (V1.out g2 c2).2, M2.out, List.length_set] at hd
    refine hd.mono ?_
    clear hd
    rintro e w6 ⟨rfl, hb⟩
    have HE := Lib.hid (HE.out.trans (hb.mono HE.out.size))
    have HR := Lib.hid (HR.out.below hb HR.out.lt)
    have HI := Lib.hid (HI.out.below hb)
    clear hb HL
    by_cases h20 : at0 ms[f].f.stay k + (m : Int) = 20
    · have h20' : (at0 ms[f].f.stay k + (m : Int) == 20) = true := by simpa using h20
      go_wp2_with fail
      refine (warmed_any _).mono ?_
      rintro e w7 ⟨rfl, hb⟩
      have HE := Lib.hid (HE.out.trans (hb.mono HE.out.size))
      clear hb
      go_wp2_with fail
      go_ret
      exact ⟨rfl, HE.out⟩
    · have h20' : (at0 ms[f].f.stay k + (m : Int) == 20) = false := by simpa using h20
      have hle : at0 ms[f].f.stay k + (m : Int) + 1 ≤ 20 := by omega
      have c0 := HR.out.cell 0 (v := .slice pp ps.length cp) rfl
      have c1 := HR.out.cell 1 (v := .slice (some ⟨b, o, none⟩) ms.length cf) rfl
      go_wp2_with fail
      clear c0 c1
      have hs := stays_any pp ps.length cp (some ⟨b, o, none⟩) cf ms _ (HB0.out.below HE.out).f (by omega) f hfl k hks HSN.out ((m + 1 : Nat) : Int)
      rw [show at0 ms[f].f.stay k + ((m + 1 : Nat) : Int) = at0 ms[f].f.stay k + (m : Int) + 1 by push_cast; omega] at hs
      refine hs.mono ?_
      clear hs
      rintro e w7 ⟨g', cap', g2', c2', _, rfl, hfr2, _, _, hb⟩
      have HL := Lib.hid (long_bk (HB0.out.below HE.out) hb hfl hfr2)
      clear hfr2
      have HE := Lib.hid (HE.out.trans (hb.mono HE.out.size))
      have HR := Lib.hid (HR.out.below hb HR.out.lt)
      have HI := Lib.hid (HI.out.below hb)
      clear hb
      go_wp2_with fail
      have hd := Kind_any pp cp (some ⟨g', 0, none⟩) cap' ps _ _ HL.out q c s HI.out (by rw [HSL.out]; omega) f
      have hk3 := M3.out (by omega)
      rw [(V2.out g2' c2' hle).1, (V2.out g2' c2' hle).2, List.length_set] at hd
      generalize kindD ps s (longFr ms[f].f k ((m + 1 : Nat) : Int)) = kv at *
      have hk4 : (kv != 0) = true := by simpa using hk3
      refine hd.mono ?_
      clear hd
      rintro e w8 ⟨rfl, hb⟩
      have HE := Lib.hid (HE.out.trans (hb.mono HE.out.size))
      have HR := Lib.hid (HR.out.below hb HR.out.lt)
      have HI := Lib.hid (HI.out.below hb)
      clear hb HL
      go_wp2_with fail
      refine (warmed_any _).mono ?_
      rintro e w9 ⟨rfl, hb⟩
      have HE := Lib.hid (HE.out.trans (hb.mono HE.out.size))
      clear hb
      go_wp2_with fail
      go_ret
      exact ⟨rfl, HE.out⟩

theorem TunnelLonger_any (pp : Option Addr) (cp : Nat) (pf : Option Addr) (cf : Nat) (ps : List Pt) (ms : List FrM) (pbits : Option Addr) (cbits : Nat) (bits : List Int) (n0 n1 : Int) (w : World) (hB : BkAt w pp pf ps ms) (hibits : IntsAt w pbits bits) (hnbits : bits.length ≤ maxLen) : Calls Try.prog 11 #[.agg #[.slice pp ps.length cp, .slice pf ms.length cf], .slice pbits bits.length cbits, .agg #[.int .i64 n0, .int .i64 n1]] w fun e w' => e = .returned (.bool true) ∧ Below w.heap.size w w' := by
  cases hb : bookB ps (frsM ms)
  · exact longer_bad pp cp pf cf ps ms pbits cbits bits n0 n1 w hB hibits hnbits hb
  · by_cases h0 : ms.length = 0
    · exact longer_none pp cp pf cf ps ms pbits cbits bits n0 n1 w hB hibits hnbits hb h0
    · have hr := spin_range n0 ms.length (by omega)
      have hfl : (spin n0 ms.length).toNat < ms.length := by omega
      by_cases hk : kindD ps (settingL bits ps.length) (ms[(spin n0 ms.length).toNat]).f = 0
      · exact longer_yes pp cp pf cf ps ms pbits cbits bits n0 n1 w hB hibits hnbits hb (by omega) fun f s hf hs hl => by
          have : f = (spin n0 ms.length).toNat := by omega
          subst this hs
          exact hk
      · exact longer_no pp cp pf cf ps ms pbits cbits bits n0 n1 w hB hibits hnbits hb (by omega) fun f s hf hs hl => by
          have : f = (spin n0 ms.length).toNat := by omega
          subst this hs
          exact hk
end Go.Proofs.Ytjaeheodabojfaa
