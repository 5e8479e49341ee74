/- The walks of layer 3: how much longer a frame can stay; the worst of a part. -/
import Derived.Test.YticfcdbfplfmlaaTuUM
namespace Go.Proofs.Yticfcdbfplfmlaa.Tu
open Go.RowKit Go.Maps
attribute [local go_sem] Oper.semAt_some

theorem open_n (pp : Option Addr) (cp : Nat) (pf : Option Addr) (cf : Nat) (ps : List Pt) (ms : List FrM) (w : World) (nf : Nat) (hn : ms.length = nf) (hB : Bk w pp pf ps ms) :
    Calls Try.prog 83 #[.agg #[.slice pp ps.length cp, .slice pf nf cf]] w (GaveBook pp ps.length cp pf nf cf ps ms w) := by
  subst hn; exact open_any pp cp pf cf ps ms w hB
theorem dry_n (pp : Option Addr) (cp : Nat) (pf : Option Addr) (cf mb n : Nat) (s : List Int) (ps : List Pt) (ms : List FrM) (w : World) (nf : Nat) (hnf : ms.length = nf) (hB : BkD w pp pf ps ms mb n) (hn : n < 1000000000) (hl : s.length = ps.length) (hs : SetOk s) (f : Nat) (hf : f < nf) :
    Calls Try.prog 82 #[.agg (pasA pp ps.length cp pf nf cf mb s), .int .i64 f] w fun e w' => e = .returned (.bool (dryI ps (frsM ms) s f)) ∧ Run w w' mb (n + 1) ps.length (dryI ps (frsM ms)) := by
  subst hnf; exact dry_run pp cp pf cf mb n s ps ms w hB hn hl hs f hf
theorem From.run {W w w' : World} (h : From W w) {mb m np : Nat} {F : List Int → Nat → Bool} (hr : Run w w' mb m np F) (hm : W.heap.size ≤ mb) : From W w' := ⟨hr.base h.b hm h.b.size⟩
/-- A frame that stays longer, in plain data. -/
def longFr (f : Fr) (k : Nat) (more : Int) : Fr := { f with stay := f.stay.set k (at0 f.stay k + more) }
def longB (ps : List Pt) (s : List Int) (f : Fr) (k : Nat) (m : Nat) : Bool := decide (kindD ps s (longFr f k m) = 0)
def longN (B : Nat → Bool) : Nat → Nat
  | 0 => 0
  | n + 1 => if B (n + 1) then n + 1 else longN B n
theorem longN_pos (B : Nat → Bool) {m : Nat} (h : 1 ≤ m) : longN B m = if B m then m else longN B (m - 1) := by
  obtain ⟨n, rfl⟩ : ∃ n, m = n + 1 := ⟨m - 1, by omega⟩
  rfl
theorem frsM_long (ms : List FrM) (f g c k : Nat) (more : Int) (hf : f < ms.length) : frsM (ms.set f (longF ms[f] g c k more)) = (frsM ms).set f (longFr ms[f].f k more) := by
  simp [frsM, List.map_set, longF, longFr]
theorem long_dry {ps : List Pt} {ms : List FrM} {s : List Int} {f k m : Nat} (hf : f < ms.length) (g c : Nat) : dryI ps (frsM (ms.set f (longF ms[f] g c k m))) s f = longB ps s ms[f].f k m := by
  rw [frsM_long _ _ _ _ _ _ hf]
  simp [dryI, longB, frsM, hf]
theorem long_ok {ps : List Pt} {fs : List Fr} (h : BookOk ps fs) {f : Nat} (hf : f < fs.length) {k : Nat} {more : Int} (h0 : 0 ≤ more) (hk : k < ps.length) (h1 : at0 fs[f].stay k + more ≤ 20) : BookOk ps (fs.set f (longFr fs[f] k more)) := by
  refine ⟨h.p1, h.p4, by simpa using h.f5, h.p, fun x hx => ?_⟩
  rcases List.mem_or_eq_of_mem_set hx with hx | rfl
  · exact h.f x hx
  · have hfo := h.f fs[f] (List.getElem_mem _)
    refine ⟨fun y hy => ?_, by simp [longFr]; exact hfo.n, hfo.l0, hfo.l1, hfo.l2⟩
    simp only [longFr] at hy
    rcases List.mem_or_eq_of_mem_set hy with hy | rfl
    · exact hfo.s y hy
    · have := hfo.s _ (at0_mem (l := fs[f].stay) (i := k) (by rw [hfo.n]; exact hk))
      omega

set_option maxRecDepth 10000 in
set_option maxHeartbeats 1600000 in
theorem longer_any (pp : Option Addr) (cp : Nat) (pf : Option Addr) (cf mb : Nat) (s : List Int) (ps : List Pt) (ms : List FrM) (w : World) (hB : Bk w pp pf ps ms) (hl : s.length = ps.length) (hs : SetOk s) (f : Nat) (hf : f < ms.length) (k : Nat) (hk : k < ps.length) :
    Calls Try.prog 89 #[.agg (pasA pp ps.length cp pf ms.length cf mb s), .int .i64 f, .int .i64 k] w fun e w' => e = .returned (.int .i64 (longN (longB ps s ms[f].f k) (20 - at0 ms[f].f.stay k).toNat)) ∧ Below w.heap.size w w' := by
  have hfr := hB.fr hf
  have h4 := hB.n4
  have h5 := hB.n5
  have hkl : k < ms[f].f.stay.length := by rw [hfr.n]; exact hk
  have hk0 := hfr.s _ (at0_mem hkl)
  have HBK := Lib.hid hB
  have HL := Lib.hid hl
  have HFN := Lib.hid hfr.n
  obtain ⟨bf, of, rfl, g0, _, _, gi⟩ := (hB.below (below_alloc w (.cells (pasA pp ps.length cp pf ms.length cf mb s) 130))).f f hf
  obtain ⟨bs, os, es, gs⟩ := gi k hkl
  rw [es] at g0
  have ES := Lib.hid es
  obtain ⟨top, htop⟩ : ∃ top : Nat, 20 - at0 ms[f].f.stay k = top := ⟨(20 - at0 ms[f].f.stay k).toNat, by omega⟩
  rw [show (20 - at0 ms[f].f.stay k).toNat = top by omega]
  have HT := Lib.hid htop
  have i1 : (0 : Int) ≤ (f : Int) := by omega
  have i2 : (f : Int) < (ms.length : Int) := by omega
  have i3 : (0 : Int) ≤ (k : Int) := by omega
  have i4 : (k : Int) < (ms[f].f.stay.length : Int) := by omega
  clear hB hl gi es
  go_enter Try.func89, Try.ntmps89
  go_wp2
  clear htop g0 gs
  go_loopw [7] (fun a wr => ∃ m : Nat, m ≤ top ∧ a = .int .i64 m ∧ Hid (longN (longB ps s ms[f].f k) top = longN (longB ps s ms[f].f k) m) ∧ Row wr w.heap.size (pasA pp ps.length cp (some ⟨bf, of, none⟩) ms.length cf mb s) 130 ∧ Below w.heap.size w wr) (fun a _ => (intOf a).toNat)
  case atStart => exact ⟨top, by omega, rfl, Lib.hid rfl, Row.new _ _ _, below_alloc _ _⟩
  case round =>
    obtain ⟨m, hm, rfl, HE, r0, hb⟩ := hrel
    have HR := Lib.hid r0
    have HB := Lib.hid hb
    have hz := r0.lt
    clear r0 hb
    by_cases h0 : m = 0
    · subst h0
      go_wp2_with fail
      go_quiet (fail)
      go_wp2
      go_ret
      exact ⟨ret_int (by rw [HE.out]; rfl), below_drewN HB.out _⟩
    · have hm1 : 1 ≤ m := by omega
      have hS : ∀ w', From wr w' → PasCells w.heap.size pp ps.length cp (some ⟨bf, of, none⟩) ms.length cf mb s w' := fun w' k => (k.row HR.out).pas
      have HS := Lib.hid hS
      have KI := Lib.hid (From.refl wr)
      have HBW := Lib.hid (HBK.out.below HB.out)
      have HNX := Lib.hid (longN_pos (longB ps s ms[f].f k) hm1)
      have hcmp : decide ((0 : Int) < (m : Int)) = true := by simp; omega
      have hcmp2 : decide (0 < m) = true := by simp; omega
      have hmt : (m : Int) ≤ 20 - at0 ms[f].f.stay k := by have := HT.out; omega
      have HLD := Lib.hid (fun g c => long_dry (ps := ps) (s := s) (k := k) (m := m) hf g c)
      have HOK := Lib.hid (fun g c => (by rw [frsM_long _ _ _ _ _ _ hf]; have := long_ok HBW.out.ok (f := f) (by rw [frsM_length]; exact hf) (k := k) (more := (m : Int)) (by omega) hk (by simp only [frsM_at]; omega); simpa only [frsM_at] using this : BookOk ps (frsM (ms.set f (longF ms[f] g c k (m : Int))))))
      clear hS
      cases hv : longB ps s ms[f].f k m
      all_goals
        have HV := Lib.hid hv
        clear hv
        go_wp2_with fail
        go_region_held3 (fun w' => PasCells w.heap.size pp ps.length cp (some ⟨bf, of, none⟩) ms.length cf mb s w') (first | with_reducible exact HS.out _ KI.out | with_reducible exact HS.out _ KI.out.drew)
          (first
            | (go_at_call 129; (with_reducible refine (delayed_any _ _ _ _ _ _ _ (by first | with_reducible exact (KI.out.bk HBW.out).f | with_reducible exact (KI.out.drew.bk HBW.out).f) (by omega) f hf k hkl (by have := HFN.out; omega) _ hk0.1 (by omega) (by omega) (by omega)).mono ?_); rintro e u ⟨g, cap, g2, c2, hff, rfl, hfr2, hg, hg2, hbu⟩; have HF2 := Lib.hid hfr2; have KI := Lib.hid (by first | with_reducible exact KI.out.drew.below hbu | with_reducible exact KI.out.below hbu); clear hbu hfr2 hg hg2)
            | (go_at_call 83; (with_reducible refine (open_n _ _ _ _ _ _ _ (ms.length) (by simp) ⟨(KI.out.bk HBW.out).p, HF2.out, HOK.out g2 c2⟩).mono ?_); rintro e u ⟨mb', rfl, hmb', hbk, hbu⟩; have HM := Lib.hid (Nat.le_trans KI.out.b.size hmb'); have BK := Lib.hid hbk; have KI := Lib.hid (KI.out.below hbu); clear hbu hbk hmb')
            | (go_at_call 120; (with_reducible refine (by_any _ _ _ _ _ _ _ _ _).mono ?_); rintro e u ⟨rfl, hbu⟩; have BK := Lib.hid (BK.out.below hbu); have KI := Lib.hid (KI.out.below hbu); clear hbu)
            | (go_at_call 82; (with_reducible refine (dry_n _ _ _ _ _ _ s _ _ _ (ms.length) (by simp) BK.out (by omega) HL.out hs f hf).mono ?_); rintro e u ⟨rfl, hru⟩; rw [HLD.out, HV.out]; have KI := Lib.hid (KI.out.run hru HM.out); clear hru))
        all_goals
          clear hcmp hcmp2
          go_wp2_with fail
          first
            | (go_ret
               exact ⟨ret_int (by rw [HE.out, HNX.out, HV.out]; rfl), HB.out.trans (KI.out.b.mono HB.out.size)⟩)
            | (go_roundw
               case rel => exact ⟨m - 1, by omega, by rw [show ((m - 1 : Nat) : Int) = (m : Int) - 1 by omega], Lib.hid (by rw [HE.out, HNX.out, HV.out]; rfl), KI.out.row HR.out, HB.out.trans (KI.out.b.mono HB.out.size)⟩
               case measure => simp [intOf]; omega)

/-- The fewest frames by one setting, once the damp of a part is known, of the first so many numbers. -/
def knownN (ps : List Pt) (fs : List Fr) (k : Nat) (d : Int) : Int := ((goodD (dampP ps k d d) fs (mostD (dampP ps k d d) fs)).length : Int)
def worstTo (ps : List Pt) (fs : List Fr) (k : Nat) (lo : Int) : Nat → Int
  | 0 => fs.length
  | j + 1 => min (worstTo ps fs k lo j) (knownN ps fs k (lo + (j : Int)))
def worstD (ps : List Pt) (fs : List Fr) (k : Nat) : Int := match ps[k]? with
  | some p => worstTo ps fs k p.lo (p.hi - p.lo + 1).toNat
  | none => 0
theorem damp_ok {ps : List Pt} {fs : List Fr} (h : BookOk ps fs) {k : Nat} (hk : k < ps.length) {d e : Int} (h0 : ps[k].lo ≤ d) (h1 : e ≤ ps[k].hi) (h2 : d ≤ e) : BookOk (dampP ps k d e) fs := by
  have hl := dampP_length ps k d e
  have hp := h.p ps[k] (List.getElem_mem _)
  refine ⟨by rw [hl]; exact h.p1, by rw [hl]; exact h.p4, h.f5, fun x hx => ?_, fun x hx => by rw [hl]; exact h.f x hx⟩
  rw [dampP_at hk] at hx
  rcases List.mem_or_eq_of_mem_set hx with hx | rfl
  · exact h.p x hx
  · obtain ⟨a0, a1, a2, a3, a4, l0, l1, l2, l3⟩ := hp
    exact ⟨a0, a1, a2, a3, a4, by simp only; omega, h2, by simp only; omega, by simp only; omega⟩
theorem knownN_range (ps : List Pt) (ms : List FrM) (k : Nat) (d : Int) : 0 ≤ knownN ps (frsM ms) k d ∧ knownN ps (frsM ms) k d ≤ ms.length := by
  have := good_le (dampP ps k d d) ms (mostD (dampP ps k d d) (frsM ms))
  unfold knownN; omega
theorem worstTo_range (ps : List Pt) (ms : List FrM) (k : Nat) (lo : Int) : ∀ j, 0 ≤ worstTo ps (frsM ms) k lo j ∧ worstTo ps (frsM ms) k lo j ≤ ms.length
  | 0 => by simp [worstTo, frsM]
  | j + 1 => by
    have := worstTo_range ps ms k lo j
    have := knownN_range ps ms k (lo + j)
    simp only [worstTo]; omega
theorem most_n (pp : Option Addr) (np cp : Nat) (pf : Option Addr) (cf mb n : Nat) (ps : List Pt) (ms : List FrM) (w : World) (hnp : ps.length = np) (hB : BkD w pp pf ps ms mb n) (hn : n < 10000000) :
    Calls Try.prog 87 #[.agg (bookA pp np cp pf ms.length cf mb)] w (GaveMost ps ms mb (n + 5 * 4 ^ ps.length) w) := by
  subst hnp; exact most_any pp cp pf cf mb n ps ms w hB hn
theorem open_m (pp : Option Addr) (np cp : Nat) (pf : Option Addr) (cf : Nat) (ps : List Pt) (ms : List FrM) (w : World) (hnp : ps.length = np) (hB : Bk w pp pf ps ms) :
    Calls Try.prog 83 #[.agg #[.slice pp np cp, .slice pf ms.length cf]] w (GaveBook pp np cp pf ms.length cf ps ms w) := by
  subst hnp; exact open_any pp cp pf cf ps ms w hB

theorem field_dry (s : List Int) (h : Int) (p : Option Addr) (n c : Nat) (w : World) : (Instr.field 141 (.agg (outA s h p n c)) 2).run Try.prog w = .ok (.slice p n c) w := by
  simp [Instr.field, go_sem, asAgg]
set_option maxRecDepth 10000 in
set_option maxHeartbeats 1600000 in
theorem worst_any (pp : Option Addr) (cp : Nat) (pf : Option Addr) (cf : Nat) (ps : List Pt) (ms : List FrM) (w : World) (hB : Bk w pp pf ps ms) (k : Nat) (hk : k < ps.length) :
    Calls Try.prog 90 #[.agg #[.slice pp ps.length cp, .slice pf ms.length cf], .int .i64 k] w fun e w' => e = .returned (.int .i64 (worstD ps (frsM ms) k)) ∧ Below w.heap.size w w' := by
  have hpk := hB.ok.p ps[k] (List.getElem_mem _)
  have h4 := hB.n4
  have h5 := hB.n5
  obtain ⟨l0, l1, l2, l3⟩ : 0 ≤ ps[k].lo ∧ ps[k].lo ≤ ps[k].hi ∧ ps[k].hi ≤ 20 ∧ ps[k].hi - ps[k].lo ≤ 3 := ⟨hpk.l0, hpk.l1, hpk.l2, hpk.l3⟩
  obtain ⟨b, o, rfl, _, _, _, _, q4, _⟩ := (hB.p.below (below_alloc w (.cells #[.slice pp ps.length cp, .slice pf ms.length cf] 54))) k hk
  have HBK := Lib.hid hB
  have i1 : (0 : Int) ≤ (k : Int) := by omega
  have i2 : (k : Int) < (ps.length : Int) := by omega
  have HW := Lib.hid (show worstD ps (frsM ms) k = worstTo ps (frsM ms) k ps[k].lo (ps[k].hi - ps[k].lo + 1).toNat by simp [worstD, hk])
  clear hB hpk
  go_enter Try.func90, Try.ntmps90
  go_wp2
  clear q4
  go_loopw [5, 6] (fun a d wr => ∃ j : Nat, (j : Int) ≤ ps[k].hi - ps[k].lo + 1 ∧ d = .int .i64 (ps[k].lo + j) ∧ a = .int .i64 (worstTo ps (frsM ms) k ps[k].lo j) ∧ Row wr w.heap.size #[.slice (some ⟨b, o, none⟩) ps.length cp, .slice pf ms.length cf] 54 ∧ Below w.heap.size w wr) (fun _ d _ => (ps[k].hi + 1 - intOf d).toNat)
  case atStart => exact ⟨0, by omega, by simp, by simp [worstTo, frsM], Row.new _ _ _, below_alloc _ _⟩
  case round =>
    obtain ⟨j, hj, rfl, rfl, r0, hb⟩ := hrel
    have HR := Lib.hid r0
    have HB := Lib.hid hb
    have hz := r0.lt
    have c0 := r0.cell 0 (v := .slice (some ⟨b, o, none⟩) ps.length cp) rfl
    have c1 := r0.cell 1 (v := .slice pf ms.length cf) rfl
    have HBW := Lib.hid (HBK.out.below hb)
    obtain ⟨b', o', e', _, _, _, _, _, q5⟩ := HBW.out.p k hk
    cases e'
    have hwr := worstTo_range ps ms k ps[k].lo j
    clear r0 hb
    by_cases hlt : ps[k].lo + (j : Int) ≤ ps[k].hi
    · have HOK := Lib.hid (damp_ok HBW.out.ok hk (d := ps[k].lo + (j : Int)) (e := ps[k].lo + (j : Int)) (by omega) hlt (Int.le_refl _))
      have hkr := knownN_range ps ms k (ps[k].lo + (j : Int))
      have HST := Lib.hid (show worstTo ps (frsM ms) k ps[k].lo (j + 1) = min (worstTo ps (frsM ms) k ps[k].lo j) (knownN ps (frsM ms) k (ps[k].lo + (j : Int))) from rfl)
      have HDL := Lib.hid (dampP_length ps k (ps[k].lo + (j : Int)) (ps[k].lo + (j : Int)))
      go_wp2_with fail
      refine (measured_any _ cp pf ms.length cf ps wr HBW.out.p (by omega) k hk _).mono ?_
      rintro e w1 ⟨g, cap, rfl, hp1, hg, hb1⟩
      rw [HDL.out]
      have HP1 := Lib.hid hp1
      have HR := Lib.hid (HR.out.below hb1 hz)
      have HB := Lib.hid (HB.out.trans (hb1.mono HB.out.size))
      have HBW := Lib.hid (HBW.out.below hb1)
      clear hp1 hb1 hg c0 c1 q5
      go_wp2_with fail
      refine (open_m _ ps.length cap pf cf _ ms w1 HDL.out ⟨HP1.out, HBW.out.f, HOK.out⟩).mono ?_
      rintro e w2 ⟨mb, rfl, hmb, hbk, hb2⟩
      have BK := Lib.hid hbk
      have HR := Lib.hid (HR.out.below hb2 HR.out.lt)
      have hz1 := HB.out.size
      have HB := Lib.hid (HB.out.trans (hb2.mono HB.out.size))
      clear hbk hb2
      go_wp2_with fail
      refine (most_n _ ps.length cap pf cf mb 0 _ ms w2 HDL.out BK.out (by omega)).mono ?_
      rintro e w3 ⟨p, c, rfl, _, _, hr3⟩
      have HR := Lib.hid (hr3.row BK.out.d HR.out)
      have HB := Lib.hid (hr3.base HB.out (by omega) HB.out.size)
      have HKN := Lib.hid (show ((goodD (dampP ps k (ps[k].lo + (j : Int)) (ps[k].lo + (j : Int))) (frsM ms) (mostD (dampP ps k (ps[k].lo + (j : Int)) (ps[k].lo + (j : Int))) (frsM ms))).length : Int) = knownN ps (frsM ms) k (ps[k].lo + (j : Int)) from rfl)
      clear hr3
      have hfd := field_dry (mostD (dampP ps k (ps[k].lo + (j : Int)) (ps[k].lo + (j : Int))) (frsM ms)) (heatD (dampP ps k (ps[k].lo + (j : Int)) (ps[k].lo + (j : Int))) (mostD (dampP ps k (ps[k].lo + (j : Int)) (ps[k].lo + (j : Int))) (frsM ms))) p (goodD (dampP ps k (ps[k].lo + (j : Int)) (ps[k].lo + (j : Int))) (frsM ms) (mostD (dampP ps k (ps[k].lo + (j : Int)) (ps[k].lo + (j : Int))) (frsM ms))).length c w3
      generalize knownN ps (frsM ms) k (ps[k].lo + (j : Int)) = kn at *
      generalize (goodD (dampP ps k (ps[k].lo + (j : Int)) (ps[k].lo + (j : Int))) (frsM ms) (mostD (dampP ps k (ps[k].lo + (j : Int)) (ps[k].lo + (j : Int))) (frsM ms))).length = gl at *
      have HFD := Lib.hid hfd
      have hgl : 0 ≤ (gl : Int) ∧ (gl : Int) ≤ 5 := by have := HKN.out; omega
      go_wp2_with fail
      clear hfd
      all_goals
        go_roundw
        case rel => exact ⟨j + 1, by omega, by congr 1; omega, by rw [HST.out, ← HKN.out]; congr 1; omega, HR.out, HB.out⟩
        case measure => simp [intOf]; omega
    · go_wp2
      go_ret
      exact ⟨ret_int (by rw [HW.out, show (ps[k].hi - ps[k].lo + 1).toNat = j by omega]), HB.out⟩
end Go.Proofs.Yticfcdbfplfmlaa.Tu
