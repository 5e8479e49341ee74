/- The law of layer 3 on both ends. -/
import Derived.Test.YtjaeheodabojfaaWAX
import Derived.Test.YtjaeheodabojfaaWT
namespace Go.Proofs.Ytjaeheodabojfaa
open Go.RowKit Go.Maps
attribute [local go_sem] Oper.semAt_some

set_option maxRecDepth 10000 in
set_option maxHeartbeats 3200000 in
theorem ends_bad (pp : Option Addr) (cp : Nat) (pf : Option Addr) (cf : Nat) (ps : List Pt) (ms : List FrM) (pset : Option Addr) (cset : Nat) (set : List Int) (n : Int) (w : World) (hB : BkAt w pp pf ps ms) (_hiset : IntsAt w pset set) (_hnset : set.length ≤ maxLen) (hb : bookB ps (frsM ms) = false) : Calls Try.prog 7 #[.agg #[.slice pp ps.length cp, .slice pf ms.length cf], .slice pset set.length cset, .int .i64 n] w fun e w' => e = .returned (.bool true) ∧ Below w.heap.size w w' := by
  have hE := below_alloc w (.cells #[.slice pp ps.length cp, .slice pf ms.length cf] 25)
  have HB := Lib.hid (hB.below hE)
  have HE := Lib.hid hE
  have HR := Lib.hid (Row.new w #[.slice pp ps.length cp, .slice pf ms.length cf] 25)
  clear hE
  have HV := Lib.hid hb
  clear hb _hiset _hnset
  go_enter Try.func7, Try.ntmps7
  go_wp2_with fail
  refine (sound_any pp cp pf cf ps ms _ HB.out).mono ?_
  rintro e w1 ⟨rfl, hb1⟩
  rw [HV.out]
  have HE := Lib.hid (HE.out.trans (hb1.mono HE.out.size))
  have HR := Lib.hid (HR.out.below hb1 HR.out.lt)
  clear hb1
  go_wp2_with fail
  refine (warmed_any _).mono ?_
  rintro e w2 ⟨rfl, hb2⟩
  have HE := Lib.hid (HE.out.trans (hb2.mono HE.out.size))
  clear hb2
  go_wp2_with fail
  go_ret
  exact ⟨rfl, HE.out⟩

set_option maxRecDepth 10000 in
set_option maxHeartbeats 3200000 in
theorem ends_none (pp : Option Addr) (cp : Nat) (pf : Option Addr) (cf : Nat) (ps : List Pt) (ms : List FrM) (pset : Option Addr) (cset : Nat) (set : List Int) (n : Int) (w : World) (hB : BkAt w pp pf ps ms) (_hiset : IntsAt w pset set) (_hnset : set.length ≤ maxLen) (hb : bookB ps (frsM ms) = true) (h0 : ms.length = 0) : Calls Try.prog 7 #[.agg #[.slice pp ps.length cp, .slice pf ms.length cf], .slice pset set.length cset, .int .i64 n] w fun e w' => e = .returned (.bool true) ∧ Below w.heap.size w w' := by
  have hE := below_alloc w (.cells #[.slice pp ps.length cp, .slice pf ms.length cf] 25)
  have HB := Lib.hid (hB.below hE)
  have HE := Lib.hid hE
  have HR := Lib.hid (Row.new w #[.slice pp ps.length cp, .slice pf ms.length cf] 25)
  clear hE
  have HV := Lib.hid hb
  have H0 := Lib.hid h0
  clear hb _hiset _hnset h0
  go_enter Try.func7, Try.ntmps7
  go_wp2_with fail
  refine (sound_any pp cp pf cf ps ms _ HB.out).mono ?_
  rintro e w1 ⟨rfl, hb1⟩
  rw [HV.out]
  have HE := Lib.hid (HE.out.trans (hb1.mono HE.out.size))
  have HR := Lib.hid (HR.out.below hb1 HR.out.lt)
  clear hb1
  have c1 := HR.out.cell 1 (v := .slice pf ms.length cf) rfl
  clear HR HV HB hB
  rw [H0.out] at c1
  go_wp2_with fail
  refine (warmed_any _).mono ?_
  rintro e w2 ⟨rfl, hb2⟩
  have HE := Lib.hid (HE.out.trans (hb2.mono HE.out.size))
  clear hb2 c1
  go_wp2_with fail
  go_ret
  exact ⟨rfl, HE.out⟩

theorem knowP_ok {g : Nat → Int} {n : Nat} {ps : List Pt} (hok : ∀ p ∈ ps, PtOk p) (h : ∀ i (h : i < ps.length), ps[i].lo ≤ g i ∧ g i ≤ ps[i].hi) : ∀ p ∈ knowP g n ps, PtOk p := by
  intro p hp
  obtain ⟨i, hi, rfl⟩ := List.mem_iff_getElem.1 hp
  have hi' : i < ps.length := by rwa [knowP_length] at hi
  have hpo := hok ps[i] (List.getElem_mem _)
  rw [knowP_at hi]
  split
  · obtain ⟨a0, a1, a2, a3, a4, l0, l1, l2, l3⟩ := hpo
    have := h i hi'
    exact ⟨a0, a1, a2, a3, a4, by simp only; omega, by simp only; omega, by simp only; omega, by simp only; omega⟩
  · exact hpo
theorem anchor {w : World} {pp pf : Option Addr} {ps : List Pt} {ms : List FrM} (_ : BkAt w pp pf ps ms) : From w w := From.refl w
section
variable {w : World} {bx by' zb tb : Nat} {a0 a1 b0 b1 z0 z1 z2 d0 d1 : Value} {t t' t'' t3 : TypeId}
theorem s14 (rx : Row w bx #[a0, a1] t) (rz : Row w zb #[z0, z1, z2] t') : ∀ w', From w w' → w'.cell? ⟨bx, 0, none⟩ = some a0 ∧ w'.cell? ⟨bx, 1, none⟩ = some a1 ∧ w'.cell? ⟨zb, 0, none⟩ = some z0 ∧ w'.cell? ⟨zb, 1, none⟩ = some z1 ∧ w'.cell? ⟨zb, 2, none⟩ = some z2 :=
  fun _ q => ⟨(q.row rx).cell 0 rfl, (q.row rx).cell 1 rfl, (q.row rz).cell 0 rfl, (q.row rz).cell 1 rfl, (q.row rz).cell 2 rfl⟩
theorem s18 (rx : Row w bx #[a0, a1] t) (ry : Row w by' #[b0, b1] t'') (rz : Row w zb #[z0, z1, z2] t') (rt : Row w tb #[d0, d1] t3) : ∀ w', From w w' → w'.cell? ⟨bx, 0, none⟩ = some a0 ∧ w'.cell? ⟨bx, 1, none⟩ = some a1 ∧ w'.cell? ⟨by', 0, none⟩ = some b0 ∧ w'.cell? ⟨by', 1, none⟩ = some b1 ∧ w'.cell? ⟨zb, 0, none⟩ = some z0 ∧ w'.cell? ⟨zb, 1, none⟩ = some z1 ∧ w'.cell? ⟨zb, 2, none⟩ = some z2 ∧ w'.cell? ⟨tb, 0, none⟩ = some d0 ∧ w'.cell? ⟨tb, 1, none⟩ = some d1 :=
  fun _ q => ⟨(q.row rx).cell 0 rfl, (q.row rx).cell 1 rfl, (q.row ry).cell 0 rfl, (q.row ry).cell 1 rfl, (q.row rz).cell 0 rfl, (q.row rz).cell 1 rfl, (q.row rz).cell 2 rfl, (q.row rt).cell 0 rfl, (q.row rt).cell 1 rfl⟩
end

theorem row_up {w w' : World} {b : Nat} {cs : Array Value} {t : TypeId} (hr : Row w b cs t) (hb : Below w.heap.size w w') : Row w' b cs t ∧ b < w.heap.size := ⟨hr.below hb hr.lt, hr.lt⟩
theorem copy_ex {w1 w : World} {ps : List Pt} {b o cp : Nat} (hp : PtsAt w1 (some ⟨b, o, none⟩) ps) (h1 : 0 < ps.length) (h3 : ps.length ≤ 10) (h : From w1 w) (ty : TypeId) (z : Nat) :
    ∃ v' w', (Builtin.append_ #[22, 22] ty #[.slice (some ⟨z, 0, none⟩) 0 0, .slice (some ⟨b, o, none⟩) ps.length cp]).run Try.prog w = .ok v' w' ∧ (∃ g cap cur, v' = .slice (some ⟨g, 0, none⟩) ps.length cap ∧ Row w' g cur 64 ∧ HoldsP (cur[·]?) ps ∧ w.heap.size ≤ g ∧ Below w.heap.size w w') := by
  obtain ⟨v, g, cap, cur, w2, hr, ⟨rfl, hrow, hg, _, hb2⟩, hh⟩ := copy_parts w ps b o cp (hp.below h.b) h1 h3 ty z
  exact ⟨_, _, hr, g, cap, cur, rfl, hrow, hh, hg, hb2⟩

set_option maxRecDepth 10000 in
set_option maxHeartbeats 3200000 in
theorem ends_main (pp : Option Addr) (cp : Nat) (pf : Option Addr) (cf : Nat) (ps : List Pt) (ms : List FrM) (pset : Option Addr) (cset : Nat) (set : List Int) (n : Int) (w : World) (hB : BkAt w pp pf ps ms) (hiset : IntsAt w pset set) (hnset : set.length ≤ maxLen) (hb : bookB ps (frsM ms) = true) (h0 : 0 < ms.length) : Calls Try.prog 7 #[.agg #[.slice pp ps.length cp, .slice pf ms.length cf], .slice pset set.length cset, .int .i64 n] w fun e w' => e = .returned (.bool true) ∧ Below w.heap.size w w' := by
  obtain ⟨b, o, rfl⟩ : ∃ b o, pp = some ⟨b, o, none⟩ := by
    obtain ⟨b, o, e, _⟩ := hB.p 0 (bookB_iff.1 hb).p1
    exact ⟨b, o, e⟩
  have hE := below_alloc w (.cells #[.slice (some ⟨b, o, none⟩) ps.length cp, .slice pf ms.length cf] 25)
  have HB := Lib.hid (hB.below hE)
  have HE := Lib.hid hE
  have HR := Lib.hid (Row.new w #[.slice (some ⟨b, o, none⟩) ps.length cp, .slice pf ms.length cf] 25)
  clear hE
  have HV := Lib.hid hb
  have HBK := Lib.hid (bk_of hB hb)
  have hok := bookB_iff.1 hb
  have HOKP := Lib.hid hok.p
  have hn4 := HBK.out.n4
  have hn5 := HBK.out.n5
  have hn1 := HBK.out.ok.p1
  have HSI := Lib.hid hiset
  have HSN := Lib.hid hnset
  have HB0 := Lib.hid hB
  have hfl := frsM_length ms
  obtain ⟨s, hs⟩ : ∃ s, s = settingL set ps.length := ⟨_, rfl⟩
  have HS := Lib.hid hs
  have HSL := Lib.hid (show s.length = ps.length by rw [hs, settingL_length])
  have hss : isSetB ps.length s = true := by rw [hs]; exact settingL_set _ _
  have HM := Lib.hid (show ∀ x ∈ s, 0 ≤ x ∧ x ≤ 3 by rw [hs]; exact settingL_mem _ _)
  have HSS0 := Lib.hid hss
  obtain ⟨f, hf, hfl2⟩ : ∃ f : Nat, spin n ms.length = f ∧ f < ms.length := ⟨(spin n ms.length).toNat, by have := spin_range n ms.length (by omega); omega, by have := spin_range n ms.length (by omega); omega⟩
  have HF := Lib.hid hf
  have h0' : ((ms.length : Int) == 0) = false := beq_eq_false_iff_ne.2 (by omega)
  have HFE := Lib.hid (frameE_yes hb hss (f := (f : Int)) (by omega) (by omega))
  clear hb hfl hiset hnset hs hss hok hf
  go_enter Try.func7, Try.ntmps7
  go_wp2_with fail
  refine (sound_any (some ⟨b, o, none⟩) cp pf cf ps ms _ HB.out).mono ?_
  rintro e w1 ⟨rfl, hb1⟩
  rw [HV.out]
  have HE := Lib.hid (HE.out.trans (hb1.mono HE.out.size))
  have HR := Lib.hid (HR.out.below hb1 HR.out.lt)
  clear hb1
  have hS : ∀ w', From w1 w' → w'.cell? ⟨w.heap.size, 0, none⟩ = some (.slice (some ⟨b, o, none⟩) ps.length cp) ∧ w'.cell? ⟨w.heap.size, 1, none⟩ = some (.slice pf ms.length cf) := fun w' k => ⟨(k.row HR.out).cell 0 rfl, (k.row HR.out).cell 1 rfl⟩
  have HSS := Lib.hid hS
  have hw1 := HR.out.lt
  clear hS
  have c1 := HR.out.cell 1 (v := .slice pf ms.length cf) rfl
  go_wp2_with fail
  clear c1
  go_cut [7, 8] from 28 to 29 (fun a7 a8 wx => ∃ bx by', bx ≠ by' ∧ a7 = .pointer (some ⟨bx, 0, none⟩) ∧ a8 = .pointer (some ⟨by', 0, none⟩) ∧ w1.heap.size ≤ bx ∧ w1.heap.size ≤ by' ∧ Row wx bx #[.slice (some ⟨b, o, none⟩) ps.length cp, .slice pf ms.length cf] 25 ∧ Row wx by' #[.slice (some ⟨b, o, none⟩) ps.length cp, .slice pf ms.length cf] 25 ∧ From w1 wx)
  case first =>
    have v0 := ((Row.new w1 #[.slice none 0 0, .slice none 0 0] 25).alloc (.cells #[.slice none 0 0, .slice none 0 0] 25)).drew
    have v1 := (Row.new1 w1 (.cells #[.slice none 0 0, .slice none 0 0] 25) #[.slice none 0 0, .slice none 0 0] 25).drew
    have v2 := (Row.new1 w1 (.cells #[.slice (some ⟨b, o, none⟩) ps.length cp, .slice pf ms.length cf] 25) #[.slice none 0 0, .slice none 0 0] 25).drew
    have v3 := ((Row.new w1 #[.slice none 0 0, .slice none 0 0] 25).alloc (.cells #[.slice (some ⟨b, o, none⟩) ps.length cp, .slice pf ms.length cf] 25)).drew
    have a0 := v0.cell 0 (v := .slice none 0 0) rfl
    have af0 := v0.free 0
    have a1 := v0.cell 1 (v := .slice none 0 0) rfl
    have af1 := v0.free 1
    have b0 := v1.cell 0 (v := .slice none 0 0) rfl
    have bf0 := v1.free 0
    have b1 := v1.cell 1 (v := .slice none 0 0) rfl
    have bf1 := v1.free 1
    have c0 := v2.cell 0 (v := .slice none 0 0) rfl
    have cf0 := v2.free 0
    have c1 := v2.cell 1 (v := .slice none 0 0) rfl
    have cf1 := v2.free 1
    have d0 := v3.cell 0 (v := .slice none 0 0) rfl
    have df0 := v3.free 0
    have d1 := v3.cell 1 (v := .slice none 0 0) rfl
    have df1 := v3.free 1
    clear v0 v1 v2 v3
    go_region_held3 (fun w' => w'.cell? ⟨w.heap.size, 0, none⟩ = some (.slice (some ⟨b, o, none⟩) ps.length cp) ∧ w'.cell? ⟨w.heap.size, 1, none⟩ = some (.slice pf ms.length cf)) (first
        | exact HSS.out _ (From.refl w1)
        | exact HSS.out _ (From.refl w1).drew
        | exact HSS.out _ ((From.refl w1).below (below_alloc _ _))
        | exact HSS.out _ ((From.refl w1).below (below_alloc _ _)).drew
        | exact HSS.out _ ((From.refl w1).below (below_alloc2 _ _ _))
        | exact HSS.out _ ((From.refl w1).below (below_alloc2 _ _ _)).drew) (fail)
    all_goals
      go_wp2_with fail
      go_meet
      first
        | exact ⟨_, _, by omega, rfl, rfl, by omega, by omega, ((Row.new w1 #[.slice (some ⟨b, o, none⟩) ps.length cp, .slice pf ms.length cf] 25).alloc (.cells #[.slice (some ⟨b, o, none⟩) ps.length cp, .slice pf ms.length cf] 25)).drew, (Row.new1 w1 (.cells #[.slice (some ⟨b, o, none⟩) ps.length cp, .slice pf ms.length cf] 25) #[.slice (some ⟨b, o, none⟩) ps.length cp, .slice pf ms.length cf] 25).drew, ((From.refl w1).below (below_alloc2 _ _ _)).drew⟩
        | exact ⟨_, _, by omega, rfl, rfl, by omega, by omega, (Row.new1 w1 (.cells #[.slice (some ⟨b, o, none⟩) ps.length cp, .slice pf ms.length cf] 25) #[.slice (some ⟨b, o, none⟩) ps.length cp, .slice pf ms.length cf] 25).drew, ((Row.new w1 #[.slice (some ⟨b, o, none⟩) ps.length cp, .slice pf ms.length cf] 25).alloc (.cells #[.slice (some ⟨b, o, none⟩) ps.length cp, .slice pf ms.length cf] 25)).drew, ((From.refl w1).below (below_alloc2 _ _ _)).drew⟩
  case rest =>
    obtain ⟨bx, by', hne, rfl, rfl, hx0, hy0, rx, ry, hk⟩ := hcut
    generalize wc = w2 at *
    have RX := Lib.hid rx
    have RY := Lib.hid ry
    have KI := Lib.hid hk
    have HPW := Lib.hid (HB0.out.below HE.out).p
    have HK2 := Lib.hid hk
    clear rx ry hk
    go_upto_region 4 with (fail)
    go_cut [] from 30 to 39 (fun wx => ∃ gx cx curx gy cy cury, gx ≠ gy ∧ w1.heap.size ≤ gx ∧ w1.heap.size ≤ gy ∧ bx ≠ gx ∧ by' ≠ gx ∧ bx ≠ gy ∧ by' ≠ gy ∧ Row wx bx #[.slice (some ⟨gx, 0, none⟩) ps.length cx, .slice pf ms.length cf] 25 ∧ Row wx by' #[.slice (some ⟨gy, 0, none⟩) ps.length cy, .slice pf ms.length cf] 25 ∧ Row wx gx curx 64 ∧ HoldsP (curx[·]?) ps ∧ Row wx gy cury 64 ∧ HoldsP (cury[·]?) ps ∧ From w1 wx)
    case first =>
      have HSA := Lib.hid (fun w' (k : From w1 w') => ((k.row HR.out).cell 0 rfl : w'.cell? ⟨w.heap.size, 0, none⟩ = some (.slice (some ⟨b, o, none⟩) ps.length cp)))
      go_region_held3 (fun w' => w'.cell? ⟨w.heap.size, 0, none⟩ = some (.slice (some ⟨b, o, none⟩) ps.length cp)) (first
          | exact HSA.out _ (by first | exact KI.out | exact KI.out.drew | exact KI.out.below (below_alloc _ _) | exact (KI.out.below (below_alloc _ _)).drew | exact KI.out.below (below_alloc2 _ _ _) | exact (KI.out.below (below_alloc2 _ _ _)).drew)
          | exact HSA.out _ ⟨KI.out.b.setCell (by dsimp only; omega) _⟩
          | exact HSA.out _ ⟨(KI.out.b.setCell (by dsimp only; omega) _).setCell (by dsimp only; omega) _⟩)
        (first
          | (refine step_append_ex rfl _ _ _ rfl _ _ rfl rfl _ (copy_ex HPW.out (by omega) (by omega) (by first | exact KI.out | exact KI.out.drew | exact KI.out.below (below_alloc _ _) | exact (KI.out.below (below_alloc _ _)).drew | exact KI.out.below (below_alloc2 _ _ _) | exact (KI.out.below (below_alloc2 _ _ _)).drew) _ _) ?_; rintro v' wa2 ⟨g2, cap2, cur2, rfl, hr, hh, hg, hb⟩; obtain ⟨q1, q2⟩ := row_up (b := g1) (cs := cur1) (t := 64) (by first | exact HG1.out | exact HG1.out.drew | exact HG1.out.alloc _ | exact (HG1.out.alloc _).drew | exact (HG1.out.alloc _).alloc _ | exact ((HG1.out.alloc _).alloc _).drew) hb; obtain ⟨x1, x2⟩ := row_up (b := bx) (cs := #[.slice (some ⟨b, o, none⟩) ps.length cp, .slice pf ms.length cf]) (t := 25) (by first | exact RX.out | exact RX.out.drew | exact RX.out.alloc _ | exact (RX.out.alloc _).drew | exact (RX.out.alloc _).alloc _ | exact ((RX.out.alloc _).alloc _).drew) hb; obtain ⟨y1, y2⟩ := row_up (b := by') (cs := #[.slice (some ⟨b, o, none⟩) ps.length cp, .slice pf ms.length cf]) (t := 25) (by first | exact RY.out | exact RY.out.drew | exact RY.out.alloc _ | exact (RY.out.alloc _).drew | exact (RY.out.alloc _).alloc _ | exact ((RY.out.alloc _).alloc _).drew) hb; have KI := Lib.hid (From.below (W := w1) (by first | exact KI.out | exact KI.out.drew | exact KI.out.below (below_alloc _ _) | exact (KI.out.below (below_alloc _ _)).drew | exact KI.out.below (below_alloc2 _ _ _) | exact (KI.out.below (below_alloc2 _ _ _)).drew) hb); have RX := Lib.hid x1; have RY := Lib.hid y1; have HG2 := Lib.hid hr; have HH2 := Lib.hid hh; have HG1 := Lib.hid q1; have hgg : g1 < g2 := (by omega); have hgx2 : bx < g2 := (by omega); have hgy2 : by' < g2 := (by omega); clear hr hh hg hb x1 x2 y1 y2 q1 q2; have s0 := RX.out.cell 0 (v := .slice (some ⟨b, o, none⟩) ps.length cp) rfl; have s1 := RX.out.free 0; have s2 := (RY.out.set_other ⟨bx, 0, none⟩ (.slice (some ⟨g1, 0, none⟩) ps.length cap1) (by dsimp only; omega)).cell 0 (v := .slice (some ⟨b, o, none⟩) ps.length cp) rfl; have s3 := (RY.out.set_other ⟨bx, 0, none⟩ (.slice (some ⟨g1, 0, none⟩) ps.length cap1) (by dsimp only; omega)).free 0; have s4 := (RY.out.set_other ⟨bx, 0, none⟩ (.slice (some ⟨g2, 0, none⟩) ps.length cap2) (by dsimp only; omega)).cell 0 (v := .slice (some ⟨b, o, none⟩) ps.length cp) rfl; have s5 := (RY.out.set_other ⟨bx, 0, none⟩ (.slice (some ⟨g2, 0, none⟩) ps.length cap2) (by dsimp only; omega)).free 0)
          | (refine step_append_ex rfl _ _ _ rfl _ _ rfl rfl _ (copy_ex HPW.out (by omega) (by omega) (by first | exact KI.out | exact KI.out.drew | exact KI.out.below (below_alloc _ _) | exact (KI.out.below (below_alloc _ _)).drew | exact KI.out.below (below_alloc2 _ _ _) | exact (KI.out.below (below_alloc2 _ _ _)).drew) _ _) ?_; rintro v' wa1 ⟨g1, cap1, cur1, rfl, hr, hh, hg, hb⟩; obtain ⟨x1, x2⟩ := row_up (b := bx) (cs := #[.slice (some ⟨b, o, none⟩) ps.length cp, .slice pf ms.length cf]) (t := 25) (by first | exact RX.out | exact RX.out.drew | exact RX.out.alloc _ | exact (RX.out.alloc _).drew | exact (RX.out.alloc _).alloc _ | exact ((RX.out.alloc _).alloc _).drew) hb; obtain ⟨y1, y2⟩ := row_up (b := by') (cs := #[.slice (some ⟨b, o, none⟩) ps.length cp, .slice pf ms.length cf]) (t := 25) (by first | exact RY.out | exact RY.out.drew | exact RY.out.alloc _ | exact (RY.out.alloc _).drew | exact (RY.out.alloc _).alloc _ | exact ((RY.out.alloc _).alloc _).drew) hb; have KI := Lib.hid (From.below (W := w1) (by first | exact KI.out | exact KI.out.drew | exact KI.out.below (below_alloc _ _) | exact (KI.out.below (below_alloc _ _)).drew | exact KI.out.below (below_alloc2 _ _ _) | exact (KI.out.below (below_alloc2 _ _ _)).drew) hb); have RX := Lib.hid x1; have RY := Lib.hid y1; have HG1 := Lib.hid hr; have HH1 := Lib.hid hh; have hgx1 : bx < g1 := (by omega); have hgy1 : by' < g1 := (by omega); clear hr hh hg hb x1 x2 y1 y2))
      all_goals
        go_wp2_with fail
        go_meet
        first
          | exact ⟨g1, cap1, cur1, g2, cap2, cur2, by omega, by omega, by omega, by omega, by omega, by omega, by omega, (RX.out.set 0 _).set_other _ _ (by dsimp only; omega), (RY.out.set_other _ _ (by dsimp only; omega)).set 0 _, (HG1.out.set_other _ _ (by dsimp only; omega)).set_other _ _ (by dsimp only; omega), HH1.out, (HG2.out.set_other _ _ (by dsimp only; omega)).set_other _ _ (by dsimp only; omega), HH2.out, ⟨(KI.out.b.setCell (by dsimp only; omega) _).setCell (by dsimp only; omega) _⟩⟩
          | exact ⟨g2, cap2, cur2, g1, cap1, cur1, by omega, by omega, by omega, by omega, by omega, by omega, by omega, (RX.out.set 0 _).set_other _ _ (by dsimp only; omega), (RY.out.set_other _ _ (by dsimp only; omega)).set 0 _, (HG2.out.set_other _ _ (by dsimp only; omega)).set_other _ _ (by dsimp only; omega), HH2.out, (HG1.out.set_other _ _ (by dsimp only; omega)).set_other _ _ (by dsimp only; omega), HH1.out, ⟨(KI.out.b.setCell (by dsimp only; omega) _).setCell (by dsimp only; omega) _⟩⟩
    case rest =>
      obtain ⟨gx, cx, curx, gy, cy, cury, n1, n2, n3, n4, n5, n6, n7, rx, ry, rgx, hhx, rgy, hhy, hk⟩ := hcut
      clear RX RY KI HK2
      generalize wc = w3 at *
      have RX := Lib.hid rx
      have RY := Lib.hid ry
      have GX := Lib.hid rgx
      have GY := Lib.hid rgy
      have HHX := Lib.hid hhx
      have HHY := Lib.hid hhy
      have KI := Lib.hid hk
      clear rx ry rgx rgy hhx hhy hk
      go_wp2_with fail
      go_loopw [9] (fun i wr => ∃ k : Nat, k ≤ ps.length ∧ i = .int .i64 k ∧ (∃ cu, Row wr gx cu 64 ∧ HoldsP (cu[·]?) (knowP (hiAt ps) k ps)) ∧ (∃ cv, Row wr gy cv 64 ∧ HoldsP (cv[·]?) (knowP (loAt ps) k ps)) ∧ Row wr bx #[.slice (some ⟨gx, 0, none⟩) ps.length cx, .slice pf ms.length cf] 25 ∧ Row wr by' #[.slice (some ⟨gy, 0, none⟩) ps.length cy, .slice pf ms.length cf] 25 ∧ From w1 wr) (fun i _ => ps.length - (intOf i).toNat)
      case atStart => exact ⟨0, by omega, rfl, ⟨curx, GX.out, by rw [knowP_zero]; exact HHX.out⟩, ⟨cury, GY.out, by rw [knowP_zero]; exact HHY.out⟩, RX.out, RY.out, KI.out⟩
      case round =>
        clear RX RY GX GY HHX HHY KI
        obtain ⟨k, hk, rfl, ⟨cu, r1, h1⟩, ⟨cv, r2, h2⟩, r3, r4, ki⟩ := hrel
        have GX := Lib.hid r1
        have GY := Lib.hid r2
        have HHX := Lib.hid h1
        have HHY := Lib.hid h2
        have RX := Lib.hid r3
        have RY := Lib.hid r4
        have KI := Lib.hid ki
        clear r1 r2 h1 h2 r3 r4 ki
        have c0 := (KI.out.row HR.out).cell 0 (v := .slice (some ⟨b, o, none⟩) ps.length cp) rfl
        by_cases hlt : k < ps.length
        · obtain ⟨b1, o1, e1, _, _, _, _, q4, q5⟩ := (HPW.out.below KI.out.b) k hlt
          cases e1
          have q5' : wr.cell? ⟨b, o + k * 6 + 4 + 1, none⟩ = some (.int .i64 ps[k].hi) := q5
          have hbw : b < w1.heap.size := by
            obtain ⟨_, _, e2, q, _⟩ := HPW.out k hlt
            cases e2
            exact cell_block q
          obtain ⟨hkx, hknx⟩ := knowP_get (hiAt ps) hlt
          obtain ⟨hky, hkny⟩ := knowP_get (loAt ps) hlt
          obtain ⟨_, _, _, _, g4, g5⟩ := HHX.out k hkx
          obtain ⟨_, _, _, _, j4, j5⟩ := HHY.out k hky
          rw [hknx] at g4 g5
          rw [hkny] at j4 j5
          have HSX := Lib.hid (knowP_succ (g := hiAt ps) hlt)
          have HSY := Lib.hid (knowP_succ (g := loAt ps) hlt)
          obtain ⟨lo, hlo⟩ : ∃ x, ps[k].lo = x := ⟨_, rfl⟩
          obtain ⟨hi, hhi⟩ : ∃ x, ps[k].hi = x := ⟨_, rfl⟩
          have HAX := Lib.hid (show hiAt ps k = hi by rw [hiAt_at hlt, hhi])
          have HAY := Lib.hid (show loAt ps k = lo by rw [loAt_at hlt, hlo])
          rw [hlo] at g4 j4 q4
          rw [hhi] at g5 j5 q5'
          have g5' : cu[k * 6 + 4 + 1]? = some (.int .i64 hi) := g5
          have j5' : cv[k * 6 + 4 + 1]? = some (.int .i64 hi) := j5
          have G4 := Lib.hid g4
          have G5 := Lib.hid g5'
          have J4 := Lib.hid j4
          have J5 := Lib.hid j5'
          have i1 : (0 : Int) ≤ (k : Int) := by omega
          have i2 : (k : Int) < (ps.length : Int) := by omega
          have HRW := Lib.hid (KI.out.row HR.out)
          have hS : ∀ w', From wr w' → w'.cell? ⟨bx, 0, none⟩ = some (.slice (some ⟨gx, 0, none⟩) ps.length cx) ∧ w'.cell? ⟨by', 0, none⟩ = some (.slice (some ⟨gy, 0, none⟩) ps.length cy) ∧ w'.cell? ⟨w.heap.size, 0, none⟩ = some (.slice (some ⟨b, o, none⟩) ps.length cp) ∧ w'.cell? ⟨b, o + k * 6 + 4, none⟩ = some (.int .i64 lo) ∧ w'.cell? ⟨b, o + k * 6 + 4 + 1, none⟩ = some (.int .i64 hi) := fun w' q => ⟨(q.row RX.out).cell 0 rfl, (q.row RY.out).cell 0 rfl, (q.row HRW.out).cell 0 rfl, q.cell q4, q.cell q5'⟩
          have hS2 : ∀ w', From wr w' → ((w'.setCell ⟨gx, k * 6 + 4, none⟩ (.int .i64 hi)).setCell ⟨gx, k * 6 + 4 + 1, none⟩ (.int .i64 hi)).cell? ⟨bx, 0, none⟩ = some (.slice (some ⟨gx, 0, none⟩) ps.length cx) ∧ ((w'.setCell ⟨gx, k * 6 + 4, none⟩ (.int .i64 hi)).setCell ⟨gx, k * 6 + 4 + 1, none⟩ (.int .i64 hi)).cell? ⟨by', 0, none⟩ = some (.slice (some ⟨gy, 0, none⟩) ps.length cy) ∧ ((w'.setCell ⟨gx, k * 6 + 4, none⟩ (.int .i64 hi)).setCell ⟨gx, k * 6 + 4 + 1, none⟩ (.int .i64 hi)).cell? ⟨w.heap.size, 0, none⟩ = some (.slice (some ⟨b, o, none⟩) ps.length cp) ∧ ((w'.setCell ⟨gx, k * 6 + 4, none⟩ (.int .i64 hi)).setCell ⟨gx, k * 6 + 4 + 1, none⟩ (.int .i64 hi)).cell? ⟨b, o + k * 6 + 4, none⟩ = some (.int .i64 lo) ∧ ((w'.setCell ⟨gx, k * 6 + 4, none⟩ (.int .i64 hi)).setCell ⟨gx, k * 6 + 4 + 1, none⟩ (.int .i64 hi)).cell? ⟨b, o + k * 6 + 4 + 1, none⟩ = some (.int .i64 hi) := fun w' q => ⟨(((q.row RX.out).set_other _ _ (by dsimp only; omega)).set_other _ _ (by dsimp only; omega)).cell 0 rfl, (((q.row RY.out).set_other _ _ (by dsimp only; omega)).set_other _ _ (by dsimp only; omega)).cell 0 rfl, (((q.row HRW.out).set_other _ _ (by dsimp only; omega)).set_other _ _ (by dsimp only; omega)).cell 0 rfl, (((FromB.refl gx _).set _ _).set _ _).cell (q.cell q4) (by omega), (((FromB.refl gx _).set _ _).set _ _).cell (q.cell q5') (by omega)⟩
          have hS3 : ∀ w', From wr w' → ((((w'.setCell ⟨gx, k * 6 + 4, none⟩ (.int .i64 hi)).setCell ⟨gx, k * 6 + 4 + 1, none⟩ (.int .i64 hi)).setCell ⟨gy, k * 6 + 4, none⟩ (.int .i64 lo)).setCell ⟨gy, k * 6 + 4 + 1, none⟩ (.int .i64 lo)).cell? ⟨bx, 0, none⟩ = some (.slice (some ⟨gx, 0, none⟩) ps.length cx) ∧ ((((w'.setCell ⟨gx, k * 6 + 4, none⟩ (.int .i64 hi)).setCell ⟨gx, k * 6 + 4 + 1, none⟩ (.int .i64 hi)).setCell ⟨gy, k * 6 + 4, none⟩ (.int .i64 lo)).setCell ⟨gy, k * 6 + 4 + 1, none⟩ (.int .i64 lo)).cell? ⟨by', 0, none⟩ = some (.slice (some ⟨gy, 0, none⟩) ps.length cy) ∧ ((((w'.setCell ⟨gx, k * 6 + 4, none⟩ (.int .i64 hi)).setCell ⟨gx, k * 6 + 4 + 1, none⟩ (.int .i64 hi)).setCell ⟨gy, k * 6 + 4, none⟩ (.int .i64 lo)).setCell ⟨gy, k * 6 + 4 + 1, none⟩ (.int .i64 lo)).cell? ⟨w.heap.size, 0, none⟩ = some (.slice (some ⟨b, o, none⟩) ps.length cp) ∧ ((((w'.setCell ⟨gx, k * 6 + 4, none⟩ (.int .i64 hi)).setCell ⟨gx, k * 6 + 4 + 1, none⟩ (.int .i64 hi)).setCell ⟨gy, k * 6 + 4, none⟩ (.int .i64 lo)).setCell ⟨gy, k * 6 + 4 + 1, none⟩ (.int .i64 lo)).cell? ⟨b, o + k * 6 + 4, none⟩ = some (.int .i64 lo) ∧ ((((w'.setCell ⟨gx, k * 6 + 4, none⟩ (.int .i64 hi)).setCell ⟨gx, k * 6 + 4 + 1, none⟩ (.int .i64 hi)).setCell ⟨gy, k * 6 + 4, none⟩ (.int .i64 lo)).setCell ⟨gy, k * 6 + 4 + 1, none⟩ (.int .i64 lo)).cell? ⟨b, o + k * 6 + 4 + 1, none⟩ = some (.int .i64 hi) := fun w' q => ⟨((((((q.row RX.out).set_other _ _ (by dsimp only; omega)).set_other _ _ (by dsimp only; omega))).set_other _ _ (by dsimp only; omega)).set_other _ _ (by dsimp only; omega)).cell 0 rfl, ((((((q.row RY.out).set_other _ _ (by dsimp only; omega)).set_other _ _ (by dsimp only; omega))).set_other _ _ (by dsimp only; omega)).set_other _ _ (by dsimp only; omega)).cell 0 rfl, ((((((q.row HRW.out).set_other _ _ (by dsimp only; omega)).set_other _ _ (by dsimp only; omega))).set_other _ _ (by dsimp only; omega)).set_other _ _ (by dsimp only; omega)).cell 0 rfl, (((FromB.refl gy _).set _ _).set _ _).cell ((((FromB.refl gx _).set _ _).set _ _).cell (q.cell q4) (by omega)) (by omega), (((FromB.refl gy _).set _ _).set _ _).cell ((((FromB.refl gx _).set _ _).set _ _).cell (q.cell q5') (by omega)) (by omega)⟩
          have HSS1 := Lib.hid hS
          have HSS2 := Lib.hid hS2
          have HSS3 := Lib.hid hS3
          have KJ := Lib.hid (From.refl wr)
          clear hS hS2 hS3 g4 g5 g5' j4 j5 j5' q4 q5 q5' hknx hkny hlo hhi
          go_wp2_with fail
          clear c0
          go_region_held3 (fun w' => w'.cell? ⟨bx, 0, none⟩ = some (.slice (some ⟨gx, 0, none⟩) ps.length cx) ∧ w'.cell? ⟨by', 0, none⟩ = some (.slice (some ⟨gy, 0, none⟩) ps.length cy) ∧ w'.cell? ⟨w.heap.size, 0, none⟩ = some (.slice (some ⟨b, o, none⟩) ps.length cp) ∧ w'.cell? ⟨b, o + k * 6 + 4, none⟩ = some (.int .i64 lo) ∧ w'.cell? ⟨b, o + k * 6 + 4 + 1, none⟩ = some (.int .i64 hi)) (first | with_reducible exact HSS1.out _ KJ.out | with_reducible exact HSS1.out _ KJ.out.drew | with_reducible exact HSS2.out _ KJ.out | with_reducible exact HSS3.out _ KJ.out)
            (first
              | (go_at_call 47; (with_reducible refine (Only_any _ _).mono ?_); rintro e wu ⟨rfl, hbu⟩; have KJ := Lib.hid (by first | with_reducible exact KJ.out.drew.below hbu | with_reducible exact KJ.out.below hbu); have t0 := (KJ.out.row GX.out).cell _ G4.out; have t1 := (KJ.out.row GX.out).cell _ G5.out; have t2 := (KJ.out.row GX.out).free (k * 6 + 4); have t3 := (KJ.out.row GX.out).free (k * 6 + 4 + 1); have s0 := (((KJ.out.row GY.out).set_other ⟨gx, k * 6 + 4, none⟩ (.int .i64 hi) (by dsimp only; omega)).set_other ⟨gx, k * 6 + 4 + 1, none⟩ (.int .i64 hi) (by dsimp only; omega)).cell _ J4.out; have s1 := (((KJ.out.row GY.out).set_other ⟨gx, k * 6 + 4, none⟩ (.int .i64 hi) (by dsimp only; omega)).set_other ⟨gx, k * 6 + 4 + 1, none⟩ (.int .i64 hi) (by dsimp only; omega)).cell _ J5.out; have s2 := (((KJ.out.row GY.out).set_other ⟨gx, k * 6 + 4, none⟩ (.int .i64 hi) (by dsimp only; omega)).set_other ⟨gx, k * 6 + 4 + 1, none⟩ (.int .i64 hi) (by dsimp only; omega)).free (k * 6 + 4); have s3 := (((KJ.out.row GY.out).set_other ⟨gx, k * 6 + 4, none⟩ (.int .i64 hi) (by dsimp only; omega)).set_other ⟨gx, k * 6 + 4 + 1, none⟩ (.int .i64 hi) (by dsimp only; omega)).free (k * 6 + 4 + 1); clear hbu))
          all_goals
            clear t0 t1 t2 t3 s0 s1 s2 s3
            go_wp2_with fail
            go_roundw
            case rel => exact ⟨k + 1, by omega, by go_num, ⟨_, (((((KJ.out.row GX.out).set (k * 6 + 4) _).set (k * 6 + 4 + 1) _).set_other _ _ (by dsimp only; omega)).set_other _ _ (by dsimp only; omega)), by rw [HSX.out, HAX.out]; exact holdsP_set HHX.out hkx hi hi⟩, ⟨_, ((((KJ.out.row GY.out).set_other _ _ (by dsimp only; omega)).set_other _ _ (by dsimp only; omega)).set (k * 6 + 4) _).set (k * 6 + 4 + 1) _, by rw [HSY.out, HAY.out]; exact holdsP_set HHY.out hky lo lo⟩, ((((((KJ.out.row RX.out).set_other _ _ (by dsimp only; omega)).set_other _ _ (by dsimp only; omega))).set_other _ _ (by dsimp only; omega)).set_other _ _ (by dsimp only; omega)), ((((((KJ.out.row RY.out).set_other _ _ (by dsimp only; omega)).set_other _ _ (by dsimp only; omega))).set_other _ _ (by dsimp only; omega)).set_other _ _ (by dsimp only; omega)), ⟨((((KI.out.b.trans (KJ.out.b.mono KI.out.b.size)).setCell (by dsimp only; omega) _).setCell (by dsimp only; omega) _).setCell (by dsimp only; omega) _).setCell (by dsimp only; omega) _⟩⟩
            case measure => simp [intOf]; omega
        · obtain rfl : k = ps.length := by omega
          go_wp2_with fail
          have hS9 : ∀ w', From wr w' → w'.cell? ⟨w.heap.size, 0, none⟩ = some (.slice (some ⟨b, o, none⟩) ps.length cp) ∧ w'.cell? ⟨w.heap.size, 1, none⟩ = some (.slice pf ms.length cf) := fun w' q => ⟨(q.row (KI.out.row HR.out)).cell 0 rfl, (q.row (KI.out.row HR.out)).cell 1 rfl⟩
          have HSS9 := Lib.hid hS9
          have KJ := Lib.hid (From.refl wr)
          have HE2 := Lib.hid (HE.out.trans (KI.out.b.mono HE.out.size))
          clear hS9 c0
          go_region_held3 (fun w' => w'.cell? ⟨w.heap.size, 0, none⟩ = some (.slice (some ⟨b, o, none⟩) ps.length cp) ∧ w'.cell? ⟨w.heap.size, 1, none⟩ = some (.slice pf ms.length cf)) (first | with_reducible exact HSS9.out _ KJ.out | with_reducible exact HSS9.out _ KJ.out.drew)
            (first
              | (go_at_call 41; (with_reducible refine (setting_any _ _ _ (by omega) _ _ _ _ _ set _ (by first | with_reducible exact (HSI.out.below (HE2.out.trans (KJ.out.b.mono HE2.out.size))) | with_reducible exact (HSI.out.below (HE2.out.trans (KJ.out.drew.b.mono HE2.out.size)))) HSN.out).mono ?_); rw [← HS.out]; rintro e wy ⟨q, c, rfl, hi, hbu⟩; have HI := Lib.hid hi; have KJ := Lib.hid (by first | with_reducible exact KJ.out.drew.below hbu | with_reducible exact KJ.out.below hbu); clear hbu hi)
              | (go_at_call 48; (with_reducible refine (Spin_any _ _ _ (by unfold I64; omega)).mono ?_); rintro e wt ⟨rfl, rfl⟩; rw [HF.out]))
          all_goals
            have PX := Lib.hid (pts_row (KJ.out.row GX.out) HHX.out)
            have PY := Lib.hid (pts_row (KJ.out.row GY.out) HHY.out)
            have RX := Lib.hid (KJ.out.row RX.out)
            have RY := Lib.hid (KJ.out.row RY.out)
            have RB := Lib.hid ((KJ.out.row (KI.out.row HR.out)))
            have HB2 := Lib.hid (HB0.out.below (HE2.out.trans (KJ.out.b.mono HE2.out.size)))
            have HE3 := Lib.hid (HE2.out.trans (KJ.out.b.mono HE2.out.size))
            clear KI KJ HE2 HSS9 GX GY
            -- the numbers
            have hst0 := (HBK.out.fr hfl2).s
            have hsn0 := (HBK.out.fr hfl2).n
            have e1 : loV ps (frsM ms) s (f : Int) = dryD Pt.hi ps s ms[f].f.stay := by rw [loV, if_pos HFE.out, stayF_at hfl2]
            have e2 : hiV ps (frsM ms) s (f : Int) = dryD Pt.lo ps s ms[f].f.stay := by rw [hiV, if_pos HFE.out, stayF_at hfl2]
            have e3 : kindV ps (frsM ms) s (f : Int) = kindD ps s ms[f].f := by rw [kindV, if_pos HFE.out, stayF_at hfl2]
            have ex := know_dry (d := Pt.hi) (ps := ps) (s := s) (stay := ms[f].f.stay) (g := hiAt ps) (fun x hx => (hst0 x hx).1) (fun i hi => hiAt_at hi)
            have ey := know_dry (d := Pt.lo) (ps := ps) (s := s) (stay := ms[f].f.stay) (g := loAt ps) (fun x hx => (hst0 x hx).1) (fun i hi => loAt_at hi)
            have okx : ∀ p ∈ knowP (hiAt ps) ps.length ps, PtOk p := knowP_ok HOKP.out (fun i hi => by rw [hiAt_at hi]; exact ⟨(HOKP.out _ (List.getElem_mem _)).l1, Int.le_refl _⟩)
            have oky : ∀ p ∈ knowP (loAt ps) ps.length ps, PtOk p := knowP_ok HOKP.out (fun i hi => by rw [loAt_at hi]; exact ⟨Int.le_refl _, (HOKP.out _ (List.getElem_mem _)).l1⟩)
            have ekd : kindD ps s ms[f].f = (if dryD Pt.hi ps s ms[f].f.stay < ms[f].f.lo then 1 else 0) + (if dryD Pt.lo ps s ms[f].f.stay > ms[f].f.hi then 2 else 0) := rfl
            obtain ⟨b', o', e', q0, q1, q2, q3⟩ := HB2.out.f f hfl2
            rw [← e1] at ex
            rw [← e2] at ey
            rw [← e3, ← e1, ← e2] at ekd
            generalize hfst : ms[f].f.stay = st at *
            generalize ms[f].f.lo = flo at *
            generalize ms[f].f.hi = fhi at *
            generalize ms[f].p = sp at *
            generalize ms[f].c = sc at *
            generalize hd1 : loV ps (frsM ms) s (f : Int) = d1 at *
            generalize hd2 : hiV ps (frsM ms) s (f : Int) = d2 at *
            generalize hkv : kindV ps (frsM ms) s (f : Int) = kv at *
            generalize hXP : knowP (hiAt ps) ps.length ps = XP at *
            generalize hYP : knowP (loAt ps) ps.length ps = YP at *
            have hxl : XP.length = ps.length := by rw [← hXP, knowP_length]
            have hyl : YP.length = ps.length := by rw [← hYP, knowP_length]
            have HDX := Lib.hid (fun w hP hI hJ => (by
              have h := ldryness_any (some ⟨gx, 0, none⟩) cx pf ms.length cf XP q c s sp sc st flo fhi w hP okx (by rw [hxl]; omega) hI (by rw [hxl, HSL.out]) HM.out hJ (by rw [hxl]; exact hsn0) hst0
              rw [hxl, ex] at h
              exact h : Calls Try.prog 43 #[.agg #[.slice (some ⟨gx, 0, none⟩) ps.length cx, .slice pf ms.length cf], .slice q s.length c, .agg #[.slice sp st.length sc, .int .i64 flo, .int .i64 fhi]] w fun e w' => e = .returned (.int .i64 d1) ∧ Below w.heap.size w w'))
            have HDY := Lib.hid (fun w hP hI hJ => (by
              have h := ldryness_any (some ⟨gy, 0, none⟩) cy pf ms.length cf YP q c s sp sc st flo fhi w hP oky (by rw [hyl]; omega) hI (by rw [hyl, HSL.out]) HM.out hJ (by rw [hyl]; exact hsn0) hst0
              rw [hyl, ey] at h
              exact h : Calls Try.prog 43 #[.agg #[.slice (some ⟨gy, 0, none⟩) ps.length cy, .slice pf ms.length cf], .slice q s.length c, .agg #[.slice sp st.length sc, .int .i64 flo, .int .i64 fhi]] w fun e w' => e = .returned (.int .i64 d2) ∧ Below w.heap.size w w'))
            have Q3 := Lib.hid q3
            have EP := Lib.hid e'
            have EK := Lib.hid ekd
            have HD1 := Lib.hid hd1
            have HD2 := Lib.hid hd2
            have HKV := Lib.hid hkv
            have Q0 := Lib.hid q0
            have Q1 := Lib.hid q1
            have Q2 := Lib.hid q2
            have KJ := Lib.hid (anchor HB2.out)
            have i1 : (0 : Int) ≤ (f : Int) := by omega
            have i2 : (f : Int) < (ms.length : Int) := by omega
            clear q0 q1 q2 q3 e' e1 e2 e3 ex ey okx oky ekd hst0 hsn0 hfst hXP hYP hxl hyl hd1 hd2 hkv
            have c0 := RB.out.cell 0 (v := .slice (some ⟨b, o, none⟩) ps.length cp) rfl
            have c1 := RB.out.cell 1 (v := .slice pf ms.length cf) rfl
            go_wp2_with fail
            clear c0 c1
            have hd := Dries_any (some ⟨b, o, none⟩) cp pf cf ps ms _ HB2.out q c s HI.out (by rw [HSL.out]; omega) f
            rw [HFE.out, HD1.out, HD2.out] at hd
            refine hd.mono ?_
            clear hd
            rintro e w5 ⟨rfl, hb⟩
            have KJ := Lib.hid (KJ.out.below hb)
            clear hb
            have hb := below_alloc w5 (.cells #[.int .i64 d1, .int .i64 d2] 32)
            have RT := Lib.hid (Row.new w5 #[.int .i64 d1, .int .i64 d2] 32)
            have KJ := Lib.hid (KJ.out.below hb)
            clear hb
            have c0 := (KJ.out.row RB.out).cell 0 (v := .slice (some ⟨b, o, none⟩) ps.length cp) rfl
            have c1 := (KJ.out.row RB.out).cell 1 (v := .slice pf ms.length cf) rfl
            go_wp2_with fail
            clear c0 c1
            have hd := Kind_any (some ⟨b, o, none⟩) cp pf cf ps ms _ (HB2.out.below KJ.out.b) q c s (KJ.out.ints HI.out) (by rw [HSL.out]; omega) f
            rw [HFE.out, HKV.out] at hd
            refine hd.mono ?_
            clear hd
            rintro e w6 ⟨rfl, hb⟩
            have RT := Lib.hid (RT.out.below hb RT.out.lt)
            have KJ := Lib.hid (KJ.out.below hb)
            clear hb
            have c1 := (KJ.out.row RB.out).cell 1 (v := .slice pf ms.length cf) rfl
            rw [EP.out] at c1
            have q0 := KJ.out.cell Q0.out
            have q1 := KJ.out.cell Q1.out
            have q2 := KJ.out.cell Q2.out
            have hb := below_alloc w6 (.cells #[.slice sp st.length sc, .int .i64 flo, .int .i64 fhi] 55)
            have RZ := Lib.hid (Row.new w6 #[.slice sp st.length sc, .int .i64 flo, .int .i64 fhi] 55)
            have RT := Lib.hid (RT.out.below hb RT.out.lt)
            have KJ := Lib.hid (KJ.out.below hb)
            clear hb
            go_wp2_with fail
            clear c1 q0 q1 q2
            have RX := Lib.hid (KJ.out.row RX.out)
            have RY := Lib.hid (KJ.out.row RY.out)
            have PX := Lib.hid (PX.out.below KJ.out.b)
            have PY := Lib.hid (PY.out.below KJ.out.b)
            have HI := Lib.hid (KJ.out.ints HI.out)
            have Q3 := Lib.hid (Q3.out.below KJ.out.b)
            have HE3 := Lib.hid (HE3.out.trans (KJ.out.b.mono HE3.out.size))
            have HB2 := Lib.hid (HB2.out.below KJ.out.b)
            generalize w6.heap.size = zb at *
            generalize w5.heap.size = tb at *
            have KJ := Lib.hid (anchor HB2.out)
            have hlow : d1 < flo ∨ ¬ d1 < flo := by omega
            have hhig : d2 > fhi ∨ ¬ d2 > fhi := by omega
            have hkk : kv = (if d1 < flo then 1 else 0) + (if d2 > fhi then 2 else 0) := EK.out
            rcases hlow with hlow | hlow <;> rcases hhig with hhig | hhig
            · rw [if_pos hlow, if_pos hhig] at hkk
              obtain rfl : kv = 3 := by omega
              clear hkk EK HKV
              have HSS := Lib.hid (s14 RX.out RZ.out)
              go_region_held3 (fun w' => w'.cell? ⟨bx, 0, none⟩ = some (.slice (some ⟨gx, 0, none⟩) ps.length cx) ∧ w'.cell? ⟨bx, 1, none⟩ = some (.slice pf ms.length cf) ∧ w'.cell? ⟨zb, 0, none⟩ = some (.slice sp st.length sc) ∧ w'.cell? ⟨zb, 1, none⟩ = some (.int .i64 flo) ∧ w'.cell? ⟨zb, 2, none⟩ = some (.int .i64 fhi)) (first | with_reducible exact HSS.out _ KJ.out | with_reducible exact HSS.out _ KJ.out.drew)
                (first
                  | (go_at_call 43; (first | with_reducible refine (HDX.out _ (PX.out.below KJ.out.b) (HI.out.below KJ.out.b) (Q3.out.below KJ.out.b)).mono ?_ | with_reducible refine (HDX.out _ (PX.out.below KJ.out.drew.b) (HI.out.below KJ.out.drew.b) (Q3.out.below KJ.out.drew.b)).mono ?_); rintro e wv ⟨rfl, hbu⟩; have KJ := Lib.hid (by first | with_reducible exact KJ.out.drew.below hbu | with_reducible exact KJ.out.below hbu); clear hbu))
              all_goals
                go_wp2_with fail
                have HSS := Lib.hid (fun w' (q : From _ w') => s14 RY.out RZ.out w' q)
                go_region_held3 (fun w' => w'.cell? ⟨by', 0, none⟩ = some (.slice (some ⟨gy, 0, none⟩) ps.length cy) ∧ w'.cell? ⟨by', 1, none⟩ = some (.slice pf ms.length cf) ∧ w'.cell? ⟨zb, 0, none⟩ = some (.slice sp st.length sc) ∧ w'.cell? ⟨zb, 1, none⟩ = some (.int .i64 flo) ∧ w'.cell? ⟨zb, 2, none⟩ = some (.int .i64 fhi)) (first | with_reducible exact HSS.out _ KJ.out | with_reducible exact HSS.out _ KJ.out.drew)
                  (first
                    | (go_at_call 43; (first | with_reducible refine (HDY.out _ (PY.out.below KJ.out.b) (HI.out.below KJ.out.b) (Q3.out.below KJ.out.b)).mono ?_ | with_reducible refine (HDY.out _ (PY.out.below KJ.out.drew.b) (HI.out.below KJ.out.drew.b) (Q3.out.below KJ.out.drew.b)).mono ?_); rintro e wv ⟨rfl, hbu⟩; have KJ := Lib.hid (by first | with_reducible exact KJ.out.drew.below hbu | with_reducible exact KJ.out.below hbu); clear hbu))
                all_goals
                  go_wp2_with fail
                  have HSS := Lib.hid (fun w' (q : From _ w') => s18 RX.out RY.out RZ.out RT.out w' q)
                  go_region_held3 (fun w' => w'.cell? ⟨bx, 0, none⟩ = some (.slice (some ⟨gx, 0, none⟩) ps.length cx) ∧ w'.cell? ⟨bx, 1, none⟩ = some (.slice pf ms.length cf) ∧ w'.cell? ⟨by', 0, none⟩ = some (.slice (some ⟨gy, 0, none⟩) ps.length cy) ∧ w'.cell? ⟨by', 1, none⟩ = some (.slice pf ms.length cf) ∧ w'.cell? ⟨zb, 0, none⟩ = some (.slice sp st.length sc) ∧ w'.cell? ⟨zb, 1, none⟩ = some (.int .i64 flo) ∧ w'.cell? ⟨zb, 2, none⟩ = some (.int .i64 fhi) ∧ w'.cell? ⟨tb, 0, none⟩ = some (.int .i64 d1) ∧ w'.cell? ⟨tb, 1, none⟩ = some (.int .i64 d2)) (first | with_reducible exact HSS.out _ KJ.out | with_reducible exact HSS.out _ KJ.out.drew)
                    (first
                      | (go_at_call 43; (first | with_reducible refine (HDX.out _ (PX.out.below KJ.out.b) (HI.out.below KJ.out.b) (Q3.out.below KJ.out.b)).mono ?_ | with_reducible refine (HDX.out _ (PX.out.below KJ.out.drew.b) (HI.out.below KJ.out.drew.b) (Q3.out.below KJ.out.drew.b)).mono ?_); rintro e wv ⟨rfl, hbu⟩; have KJ := Lib.hid (by first | with_reducible exact KJ.out.drew.below hbu | with_reducible exact KJ.out.below hbu); clear hbu)
                      | (go_at_call 43; (first | with_reducible refine (HDY.out _ (PY.out.below KJ.out.b) (HI.out.below KJ.out.b) (Q3.out.below KJ.out.b)).mono ?_ | with_reducible refine (HDY.out _ (PY.out.below KJ.out.drew.b) (HI.out.below KJ.out.drew.b) (Q3.out.below KJ.out.drew.b)).mono ?_); rintro e wv ⟨rfl, hbu⟩; have KJ := Lib.hid (by first | with_reducible exact KJ.out.drew.below hbu | with_reducible exact KJ.out.below hbu); clear hbu)
                      | (go_at_call 49; (with_reducible refine (Sp_any _ _ _).mono ?_); rintro e wv ⟨rfl, hbu⟩; have KJ := Lib.hid (by first | with_reducible exact KJ.out.drew.below hbu | with_reducible exact KJ.out.below hbu); clear hbu)
                      | (go_at_call 26; (with_reducible refine (warmed_any _).mono ?_); rintro e wv ⟨rfl, hbu⟩; have KJ := Lib.hid (by first | with_reducible exact KJ.out.drew.below hbu | with_reducible exact KJ.out.below hbu); clear hbu))
                  all_goals
                    go_wp2_with fail
                    go_ret
                    exact ⟨rfl, HE3.out.trans (KJ.out.b.mono HE3.out.size)⟩
            · rw [if_pos hlow, if_neg hhig] at hkk
              obtain rfl : kv = 1 := by omega
              clear hkk EK HKV
              have HSS := Lib.hid (s14 RX.out RZ.out)
              go_region_held3 (fun w' => w'.cell? ⟨bx, 0, none⟩ = some (.slice (some ⟨gx, 0, none⟩) ps.length cx) ∧ w'.cell? ⟨bx, 1, none⟩ = some (.slice pf ms.length cf) ∧ w'.cell? ⟨zb, 0, none⟩ = some (.slice sp st.length sc) ∧ w'.cell? ⟨zb, 1, none⟩ = some (.int .i64 flo) ∧ w'.cell? ⟨zb, 2, none⟩ = some (.int .i64 fhi)) (first | with_reducible exact HSS.out _ KJ.out | with_reducible exact HSS.out _ KJ.out.drew)
                (first
                  | (go_at_call 43; (first | with_reducible refine (HDX.out _ (PX.out.below KJ.out.b) (HI.out.below KJ.out.b) (Q3.out.below KJ.out.b)).mono ?_ | with_reducible refine (HDX.out _ (PX.out.below KJ.out.drew.b) (HI.out.below KJ.out.drew.b) (Q3.out.below KJ.out.drew.b)).mono ?_); rintro e wv ⟨rfl, hbu⟩; have KJ := Lib.hid (by first | with_reducible exact KJ.out.drew.below hbu | with_reducible exact KJ.out.below hbu); clear hbu))
              all_goals
                go_wp2_with fail
                have HSS := Lib.hid (fun w' (q : From _ w') => s14 RY.out RZ.out w' q)
                go_region_held3 (fun w' => w'.cell? ⟨by', 0, none⟩ = some (.slice (some ⟨gy, 0, none⟩) ps.length cy) ∧ w'.cell? ⟨by', 1, none⟩ = some (.slice pf ms.length cf) ∧ w'.cell? ⟨zb, 0, none⟩ = some (.slice sp st.length sc) ∧ w'.cell? ⟨zb, 1, none⟩ = some (.int .i64 flo) ∧ w'.cell? ⟨zb, 2, none⟩ = some (.int .i64 fhi)) (first | with_reducible exact HSS.out _ KJ.out | with_reducible exact HSS.out _ KJ.out.drew)
                  (first
                    | (go_at_call 43; (first | with_reducible refine (HDY.out _ (PY.out.below KJ.out.b) (HI.out.below KJ.out.b) (Q3.out.below KJ.out.b)).mono ?_ | with_reducible refine (HDY.out _ (PY.out.below KJ.out.drew.b) (HI.out.below KJ.out.drew.b) (Q3.out.below KJ.out.drew.b)).mono ?_); rintro e wv ⟨rfl, hbu⟩; have KJ := Lib.hid (by first | with_reducible exact KJ.out.drew.below hbu | with_reducible exact KJ.out.below hbu); clear hbu))
                all_goals
                  go_wp2_with fail
                  have HSS := Lib.hid (fun w' (q : From _ w') => s18 RX.out RY.out RZ.out RT.out w' q)
                  go_region_held3 (fun w' => w'.cell? ⟨bx, 0, none⟩ = some (.slice (some ⟨gx, 0, none⟩) ps.length cx) ∧ w'.cell? ⟨bx, 1, none⟩ = some (.slice pf ms.length cf) ∧ w'.cell? ⟨by', 0, none⟩ = some (.slice (some ⟨gy, 0, none⟩) ps.length cy) ∧ w'.cell? ⟨by', 1, none⟩ = some (.slice pf ms.length cf) ∧ w'.cell? ⟨zb, 0, none⟩ = some (.slice sp st.length sc) ∧ w'.cell? ⟨zb, 1, none⟩ = some (.int .i64 flo) ∧ w'.cell? ⟨zb, 2, none⟩ = some (.int .i64 fhi) ∧ w'.cell? ⟨tb, 0, none⟩ = some (.int .i64 d1) ∧ w'.cell? ⟨tb, 1, none⟩ = some (.int .i64 d2)) (first | with_reducible exact HSS.out _ KJ.out | with_reducible exact HSS.out _ KJ.out.drew)
                    (first
                      | (go_at_call 43; (first | with_reducible refine (HDX.out _ (PX.out.below KJ.out.b) (HI.out.below KJ.out.b) (Q3.out.below KJ.out.b)).mono ?_ | with_reducible refine (HDX.out _ (PX.out.below KJ.out.drew.b) (HI.out.below KJ.out.drew.b) (Q3.out.below KJ.out.drew.b)).mono ?_); rintro e wv ⟨rfl, hbu⟩; have KJ := Lib.hid (by first | with_reducible exact KJ.out.drew.below hbu | with_reducible exact KJ.out.below hbu); clear hbu)
                      | (go_at_call 43; (first | with_reducible refine (HDY.out _ (PY.out.below KJ.out.b) (HI.out.below KJ.out.b) (Q3.out.below KJ.out.b)).mono ?_ | with_reducible refine (HDY.out _ (PY.out.below KJ.out.drew.b) (HI.out.below KJ.out.drew.b) (Q3.out.below KJ.out.drew.b)).mono ?_); rintro e wv ⟨rfl, hbu⟩; have KJ := Lib.hid (by first | with_reducible exact KJ.out.drew.below hbu | with_reducible exact KJ.out.below hbu); clear hbu)
                      | (go_at_call 49; (with_reducible refine (Sp_any _ _ _).mono ?_); rintro e wv ⟨rfl, hbu⟩; have KJ := Lib.hid (by first | with_reducible exact KJ.out.drew.below hbu | with_reducible exact KJ.out.below hbu); clear hbu)
                      | (go_at_call 26; (with_reducible refine (warmed_any _).mono ?_); rintro e wv ⟨rfl, hbu⟩; have KJ := Lib.hid (by first | with_reducible exact KJ.out.drew.below hbu | with_reducible exact KJ.out.below hbu); clear hbu))
                  all_goals
                    go_wp2_with fail
                    go_ret
                    exact ⟨rfl, HE3.out.trans (KJ.out.b.mono HE3.out.size)⟩
            · rw [if_neg hlow, if_pos hhig] at hkk
              obtain rfl : kv = 2 := by omega
              clear hkk EK HKV
              have HSS := Lib.hid (s14 RX.out RZ.out)
              go_region_held3 (fun w' => w'.cell? ⟨bx, 0, none⟩ = some (.slice (some ⟨gx, 0, none⟩) ps.length cx) ∧ w'.cell? ⟨bx, 1, none⟩ = some (.slice pf ms.length cf) ∧ w'.cell? ⟨zb, 0, none⟩ = some (.slice sp st.length sc) ∧ w'.cell? ⟨zb, 1, none⟩ = some (.int .i64 flo) ∧ w'.cell? ⟨zb, 2, none⟩ = some (.int .i64 fhi)) (first | with_reducible exact HSS.out _ KJ.out | with_reducible exact HSS.out _ KJ.out.drew)
                (first
                  | (go_at_call 43; (first | with_reducible refine (HDX.out _ (PX.out.below KJ.out.b) (HI.out.below KJ.out.b) (Q3.out.below KJ.out.b)).mono ?_ | with_reducible refine (HDX.out _ (PX.out.below KJ.out.drew.b) (HI.out.below KJ.out.drew.b) (Q3.out.below KJ.out.drew.b)).mono ?_); rintro e wv ⟨rfl, hbu⟩; have KJ := Lib.hid (by first | with_reducible exact KJ.out.drew.below hbu | with_reducible exact KJ.out.below hbu); clear hbu))
              all_goals
                go_wp2_with fail
                have HSS := Lib.hid (fun w' (q : From _ w') => s14 RY.out RZ.out w' q)
                go_region_held3 (fun w' => w'.cell? ⟨by', 0, none⟩ = some (.slice (some ⟨gy, 0, none⟩) ps.length cy) ∧ w'.cell? ⟨by', 1, none⟩ = some (.slice pf ms.length cf) ∧ w'.cell? ⟨zb, 0, none⟩ = some (.slice sp st.length sc) ∧ w'.cell? ⟨zb, 1, none⟩ = some (.int .i64 flo) ∧ w'.cell? ⟨zb, 2, none⟩ = some (.int .i64 fhi)) (first | with_reducible exact HSS.out _ KJ.out | with_reducible exact HSS.out _ KJ.out.drew)
                  (first
                    | (go_at_call 43; (first | with_reducible refine (HDY.out _ (PY.out.below KJ.out.b) (HI.out.below KJ.out.b) (Q3.out.below KJ.out.b)).mono ?_ | with_reducible refine (HDY.out _ (PY.out.below KJ.out.drew.b) (HI.out.below KJ.out.drew.b) (Q3.out.below KJ.out.drew.b)).mono ?_); rintro e wv ⟨rfl, hbu⟩; have KJ := Lib.hid (by first | with_reducible exact KJ.out.drew.below hbu | with_reducible exact KJ.out.below hbu); clear hbu))
                all_goals
                  go_wp2_with fail
                  have HSS := Lib.hid (fun w' (q : From _ w') => s18 RX.out RY.out RZ.out RT.out w' q)
                  go_region_held3 (fun w' => w'.cell? ⟨bx, 0, none⟩ = some (.slice (some ⟨gx, 0, none⟩) ps.length cx) ∧ w'.cell? ⟨bx, 1, none⟩ = some (.slice pf ms.length cf) ∧ w'.cell? ⟨by', 0, none⟩ = some (.slice (some ⟨gy, 0, none⟩) ps.length cy) ∧ w'.cell? ⟨by', 1, none⟩ = some (.slice pf ms.length cf) ∧ w'.cell? ⟨zb, 0, none⟩ = some (.slice sp st.length sc) ∧ w'.cell? ⟨zb, 1, none⟩ = some (.int .i64 flo) ∧ w'.cell? ⟨zb, 2, none⟩ = some (.int .i64 fhi) ∧ w'.cell? ⟨tb, 0, none⟩ = some (.int .i64 d1) ∧ w'.cell? ⟨tb, 1, none⟩ = some (.int .i64 d2)) (first | with_reducible exact HSS.out _ KJ.out | with_reducible exact HSS.out _ KJ.out.drew)
                    (first
                      | (go_at_call 43; (first | with_reducible refine (HDX.out _ (PX.out.below KJ.out.b) (HI.out.below KJ.out.b) (Q3.out.below KJ.out.b)).mono ?_ | with_reducible refine (HDX.out _ (PX.out.below KJ.out.drew.b) (HI.out.below KJ.out.drew.b) (Q3.out.below KJ.out.drew.b)).mono ?_); rintro e wv ⟨rfl, hbu⟩; have KJ := Lib.hid (by first | with_reducible exact KJ.out.drew.below hbu | with_reducible exact KJ.out.below hbu); clear hbu)
                      | (go_at_call 43; (first | with_reducible refine (HDY.out _ (PY.out.below KJ.out.b) (HI.out.below KJ.out.b) (Q3.out.below KJ.out.b)).mono ?_ | with_reducible refine (HDY.out _ (PY.out.below KJ.out.drew.b) (HI.out.below KJ.out.drew.b) (Q3.out.below KJ.out.drew.b)).mono ?_); rintro e wv ⟨rfl, hbu⟩; have KJ := Lib.hid (by first | with_reducible exact KJ.out.drew.below hbu | with_reducible exact KJ.out.below hbu); clear hbu)
                      | (go_at_call 49; (with_reducible refine (Sp_any _ _ _).mono ?_); rintro e wv ⟨rfl, hbu⟩; have KJ := Lib.hid (by first | with_reducible exact KJ.out.drew.below hbu | with_reducible exact KJ.out.below hbu); clear hbu)
                      | (go_at_call 26; (with_reducible refine (warmed_any _).mono ?_); rintro e wv ⟨rfl, hbu⟩; have KJ := Lib.hid (by first | with_reducible exact KJ.out.drew.below hbu | with_reducible exact KJ.out.below hbu); clear hbu))
                  all_goals
                    go_wp2_with fail
                    go_ret
                    exact ⟨rfl, HE3.out.trans (KJ.out.b.mono HE3.out.size)⟩
            · rw [if_neg hlow, if_neg hhig] at hkk
              obtain rfl : kv = 0 := by omega
              clear hkk EK HKV
              have HSS := Lib.hid (s14 RX.out RZ.out)
              go_region_held3 (fun w' => w'.cell? ⟨bx, 0, none⟩ = some (.slice (some ⟨gx, 0, none⟩) ps.length cx) ∧ w'.cell? ⟨bx, 1, none⟩ = some (.slice pf ms.length cf) ∧ w'.cell? ⟨zb, 0, none⟩ = some (.slice sp st.length sc) ∧ w'.cell? ⟨zb, 1, none⟩ = some (.int .i64 flo) ∧ w'.cell? ⟨zb, 2, none⟩ = some (.int .i64 fhi)) (first | with_reducible exact HSS.out _ KJ.out | with_reducible exact HSS.out _ KJ.out.drew)
                (first
                  | (go_at_call 43; (first | with_reducible refine (HDX.out _ (PX.out.below KJ.out.b) (HI.out.below KJ.out.b) (Q3.out.below KJ.out.b)).mono ?_ | with_reducible refine (HDX.out _ (PX.out.below KJ.out.drew.b) (HI.out.below KJ.out.drew.b) (Q3.out.below KJ.out.drew.b)).mono ?_); rintro e wv ⟨rfl, hbu⟩; have KJ := Lib.hid (by first | with_reducible exact KJ.out.drew.below hbu | with_reducible exact KJ.out.below hbu); clear hbu))
              all_goals
                go_wp2_with fail
                have HSS := Lib.hid (fun w' (q : From _ w') => s14 RY.out RZ.out w' q)
                go_region_held3 (fun w' => w'.cell? ⟨by', 0, none⟩ = some (.slice (some ⟨gy, 0, none⟩) ps.length cy) ∧ w'.cell? ⟨by', 1, none⟩ = some (.slice pf ms.length cf) ∧ w'.cell? ⟨zb, 0, none⟩ = some (.slice sp st.length sc) ∧ w'.cell? ⟨zb, 1, none⟩ = some (.int .i64 flo) ∧ w'.cell? ⟨zb, 2, none⟩ = some (.int .i64 fhi)) (first | with_reducible exact HSS.out _ KJ.out | with_reducible exact HSS.out _ KJ.out.drew)
                  (first
                    | (go_at_call 43; (first | with_reducible refine (HDY.out _ (PY.out.below KJ.out.b) (HI.out.below KJ.out.b) (Q3.out.below KJ.out.b)).mono ?_ | with_reducible refine (HDY.out _ (PY.out.below KJ.out.drew.b) (HI.out.below KJ.out.drew.b) (Q3.out.below KJ.out.drew.b)).mono ?_); rintro e wv ⟨rfl, hbu⟩; have KJ := Lib.hid (by first | with_reducible exact KJ.out.drew.below hbu | with_reducible exact KJ.out.below hbu); clear hbu))
                all_goals
                  go_wp2_with fail
                  have HSS := Lib.hid (fun w' (q : From _ w') => s18 RX.out RY.out RZ.out RT.out w' q)
                  go_region_held3 (fun w' => w'.cell? ⟨bx, 0, none⟩ = some (.slice (some ⟨gx, 0, none⟩) ps.length cx) ∧ w'.cell? ⟨bx, 1, none⟩ = some (.slice pf ms.length cf) ∧ w'.cell? ⟨by', 0, none⟩ = some (.slice (some ⟨gy, 0, none⟩) ps.length cy) ∧ w'.cell? ⟨by', 1, none⟩ = some (.slice pf ms.length cf) ∧ w'.cell? ⟨zb, 0, none⟩ = some (.slice sp st.length sc) ∧ w'.cell? ⟨zb, 1, none⟩ = some (.int .i64 flo) ∧ w'.cell? ⟨zb, 2, none⟩ = some (.int .i64 fhi) ∧ w'.cell? ⟨tb, 0, none⟩ = some (.int .i64 d1) ∧ w'.cell? ⟨tb, 1, none⟩ = some (.int .i64 d2)) (first | with_reducible exact HSS.out _ KJ.out | with_reducible exact HSS.out _ KJ.out.drew)
                    (first
                      | (go_at_call 43; (first | with_reducible refine (HDX.out _ (PX.out.below KJ.out.b) (HI.out.below KJ.out.b) (Q3.out.below KJ.out.b)).mono ?_ | with_reducible refine (HDX.out _ (PX.out.below KJ.out.drew.b) (HI.out.below KJ.out.drew.b) (Q3.out.below KJ.out.drew.b)).mono ?_); rintro e wv ⟨rfl, hbu⟩; have KJ := Lib.hid (by first | with_reducible exact KJ.out.drew.below hbu | with_reducible exact KJ.out.below hbu); clear hbu)
                      | (go_at_call 43; (first | with_reducible refine (HDY.out _ (PY.out.below KJ.out.b) (HI.out.below KJ.out.b) (Q3.out.below KJ.out.b)).mono ?_ | with_reducible refine (HDY.out _ (PY.out.below KJ.out.drew.b) (HI.out.below KJ.out.drew.b) (Q3.out.below KJ.out.drew.b)).mono ?_); rintro e wv ⟨rfl, hbu⟩; have KJ := Lib.hid (by first | with_reducible exact KJ.out.drew.below hbu | with_reducible exact KJ.out.below hbu); clear hbu)
                      | (go_at_call 49; (with_reducible refine (Sp_any _ _ _).mono ?_); rintro e wv ⟨rfl, hbu⟩; have KJ := Lib.hid (by first | with_reducible exact KJ.out.drew.below hbu | with_reducible exact KJ.out.below hbu); clear hbu)
                      | (go_at_call 26; (with_reducible refine (warmed_any _).mono ?_); rintro e wv ⟨rfl, hbu⟩; have KJ := Lib.hid (by first | with_reducible exact KJ.out.drew.below hbu | with_reducible exact KJ.out.below hbu); clear hbu))
                  all_goals
                    go_wp2_with fail
                    go_ret
                    exact ⟨rfl, HE3.out.trans (KJ.out.b.mono HE3.out.size)⟩

theorem TunnelEnds_any (pp : Option Addr) (cp : Nat) (pf : Option Addr) (cf : Nat) (ps : List Pt) (ms : List FrM) (pset : Option Addr) (cset : Nat) (set : List Int) (n : Int) (w : World) (hB : BkAt w pp pf ps ms) (hiset : IntsAt w pset set) (hnset : set.length ≤ maxLen) : Calls Try.prog 7 #[.agg #[.slice pp ps.length cp, .slice pf ms.length cf], .slice pset set.length cset, .int .i64 n] w fun e w' => e = .returned (.bool true) ∧ Below w.heap.size w w' := by
  cases hb : bookB ps (frsM ms)
  · exact ends_bad pp cp pf cf ps ms pset cset set n w hB hiset hnset hb
  · by_cases h0 : ms.length = 0
    · exact ends_none pp cp pf cf ps ms pset cset set n w hB hiset hnset hb h0
    · exact ends_main pp cp pf cf ps ms pset cset set n w hB hiset hnset hb (by omega)
end Go.Proofs.Ytjaeheodabojfaa
