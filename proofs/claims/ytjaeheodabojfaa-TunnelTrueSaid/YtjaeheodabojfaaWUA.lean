/- The law of layer 3 on each head. -/
import Derived.Test.YtjaeheodabojfaaWAX
import Derived.Test.YtjaeheodabojfaaWT
namespace Go.Proofs.Ytjaeheodabojfaa
open Go.RowKit Go.Maps
attribute [local go_sem] Oper.semAt_some

theorem knowP_ok {g : Nat → Int} {n : Nat} {ps : List Pt} (hok : ∀ p ∈ ps, PtOk p) (h : ∀ i (h : i < ps.length), ps[i].lo ≤ g i ∧ g i ≤ ps[i].hi) : ∀ p ∈ knowP g n ps, PtOk p := by
  intro p hp
  obtain ⟨i, hi, rfl⟩ := List.mem_iff_getElem.1 hp
  have hi' : i < ps.length := by rwa [knowP_length] at hi
  have hpo := hok ps[i] (List.getElem_mem _)
  rw [knowP_at hi]
  split
  · obtain ⟨a0, a1, a2, a3, a4, l0, l1, l2, l3⟩ := hpo
    have := h i hi'
    exact ⟨a0, a1, a2, a3, a4, by simp only; omega, by simp only; omega, by simp only; omega, by simp only; omega⟩
  · exact hpo
/-- What is so of a frame, by a setting, whatever the damp truly is. -/
theorem true_dry {ps : List Pt} (hok : ∀ p ∈ ps, PtOk p) (bits s : List Int) {st : List Int} (hst : ∀ x ∈ st, 0 ≤ x ∧ x ≤ 20) : dryD Pt.hi ps s st ≤ dryD Pt.lo (knowP (trueD ps bits) ps.length ps) s st ∧ dryD Pt.lo (knowP (trueD ps bits) ps.length ps) s st ≤ dryD Pt.lo ps s st :=
  ⟨know_dry_le (fun x hx => (hst x hx).1) fun _ hi => (trueD_range hok bits hi).2, know_dry_ge (fun x hx => (hst x hx).1) fun _ hi => (trueD_range hok bits hi).1⟩
theorem ints_ne_row {w : World} {b : Nat} {q a a' : Option Addr} {n c n' c' : Nat} {t : TypeId} {s : List Int} (hr : Row w b #[.slice a n c, .slice a' n' c'] t) (hi : IntsAt w q s) : ∀ c o, q = some ⟨c, o, none⟩ → 0 < s.length → c ≠ b := by
  intro x o e hl h
  subst h
  obtain ⟨b', o', e', hc⟩ := hi 0 hl
  cases e.symm.trans e'
  rw [cell_of_row w x (o + 0) _ t (0, 0) hr] at hc
  rcases o with _ | _ | o <;> simp at hc
theorem kind_odd {ps : List Pt} {s : List Int} {f : Fr} {n : Int} (h1 : dryD Pt.hi ps s f.stay ≤ n) (h2 : n < f.lo) : kindD ps s f = 1 ∨ kindD ps s f = 3 := by
  have := kind_wet h1 h2
  have := kind_range ps s f
  omega

set_option maxRecDepth 10000 in
set_option maxHeartbeats 3200000 in
theorem true_bad (pp : Option Addr) (cp : Nat) (pf : Option Addr) (cf : Nat) (ps : List Pt) (ms : List FrM) (pbits : Option Addr) (cbits : Nat) (bits : List Int) (pset : Option Addr) (cset : Nat) (set : List Int) (w : World) (hB : BkAt w pp pf ps ms) (_hibits : IntsAt w pbits bits) (_hnbits : bits.length ≤ maxLen) (_hiset : IntsAt w pset set) (_hnset : set.length ≤ maxLen) (hb : bookB ps (frsM ms) = false) : Calls Try.prog 6 #[.agg #[.slice pp ps.length cp, .slice pf ms.length cf], .slice pbits bits.length cbits, .slice pset set.length cset] w fun e w' => e = .returned (.bool true) ∧ Below w.heap.size w w' := by
  have hE := below_alloc w (.cells #[.slice pp ps.length cp, .slice pf ms.length cf] 25)
  have HB := Lib.hid (hB.below hE)
  have HE := Lib.hid hE
  have HR := Lib.hid (Row.new w #[.slice pp ps.length cp, .slice pf ms.length cf] 25)
  clear hE
  have HV := Lib.hid hb
  clear hb _hibits _hnbits _hiset _hnset
  go_enter Try.func6, Try.ntmps6
  go_wp2_with fail
  refine (sound_any pp cp pf cf ps ms _ HB.out).mono ?_
  rintro e w1 ⟨rfl, hb1⟩
  rw [HV.out]
  have HE := Lib.hid (HE.out.trans (hb1.mono HE.out.size))
  have HR := Lib.hid (HR.out.below hb1 HR.out.lt)
  clear hb1
  go_wp2_with fail
  refine (warmed_any _).mono ?_
  rintro e w2 ⟨rfl, hb2⟩
  have HE := Lib.hid (HE.out.trans (hb2.mono HE.out.size))
  clear hb2
  go_wp2_with fail
  go_ret
  exact ⟨rfl, HE.out⟩

set_option maxRecDepth 10000 in
set_option maxHeartbeats 3200000 in
theorem true_no (pp : Option Addr) (cp : Nat) (pf : Option Addr) (cf : Nat) (ps : List Pt) (ms : List FrM) (pbits : Option Addr) (cbits : Nat) (bits : List Int) (pset : Option Addr) (cset : Nat) (set : List Int) (w : World) (hB : BkAt w pp pf ps ms) (hibits : IntsAt w pbits bits) (hnbits : bits.length ≤ maxLen) (hiset : IntsAt w pset set) (hnset : set.length ≤ maxLen) (hb : bookB ps (frsM ms) = true) (hc : coolD ps (frsM ms) (List.range (frsM ms).length) = none) : Calls Try.prog 6 #[.agg #[.slice pp ps.length cp, .slice pf ms.length cf], .slice pbits bits.length cbits, .slice pset set.length cset] w fun e w' => e = .returned (.bool true) ∧ Below w.heap.size w w' := by
  have hE := below_alloc w (.cells #[.slice pp ps.length cp, .slice pf ms.length cf] 25)
  have HB := Lib.hid (hB.below hE)
  have HE := Lib.hid hE
  have HR := Lib.hid (Row.new w #[.slice pp ps.length cp, .slice pf ms.length cf] 25)
  clear hE
  have HV := Lib.hid hb
  have HBK := Lib.hid (bk_of hB hb)
  have hok := bookB_iff.1 hb
  have HOKP := Lib.hid hok.p
  have hn4 := HBK.out.n4
  have hn5 := HBK.out.n5
  have hn1 := HBK.out.ok.p1
  have HBI := Lib.hid hibits
  have HBN := Lib.hid hnbits
  have HSI := Lib.hid hiset
  have HSN := Lib.hid hnset
  have HB0 := Lib.hid hB
  have hfl := frsM_length ms
  obtain ⟨s, hs⟩ : ∃ s, s = settingL set ps.length := ⟨_, rfl⟩
  have HS := Lib.hid hs
  have hsl : s.length = ps.length := by rw [hs, settingL_length]
  have HSL := Lib.hid hsl
  have hss : isSetB ps.length s = true := by rw [hs]; exact settingL_set _ _
  have HM := Lib.hid (show ∀ x ∈ s, 0 ≤ x ∧ x ≤ 3 by rw [hs]; exact settingL_mem _ _)
  obtain ⟨kn, hkn⟩ : ∃ x, knowP (trueD ps bits) ps.length ps = x := ⟨_, rfl⟩
  have HKN := Lib.hid hkn
  have HKL := Lib.hid (show kn.length = ps.length by rw [← hkn, knowP_length])
  have HKO := Lib.hid (show ∀ p ∈ kn, PtOk p by rw [← hkn]; exact knowP_ok hok.p fun i hi => trueD_range hok.p bits hi)
  have SE1 := Lib.hid (setE_yes hb hss)
  obtain ⟨l, hl⟩ : ∃ l, goodD ps (frsM ms) s = l := ⟨_, rfl⟩
  have GV1 := Lib.hid (show goodV ps (frsM ms) s = l by rw [goodV, if_pos SE1.out, hl])
  have HG := Lib.hid (show Grown l ms.length by rw [← hl, goodD, hfl]; exact grown_pick _ _)
  have hll : l.length ≤ 5 := by have := goodD_length ps (frsM ms) s; rw [hl, hfl] at this; omega
  -- what is so of each frame
  have HFR := Lib.hid (fun k (hk : k < ms.length) => (by
    have hk' : k < (frsM ms).length := by rw [hfl]; exact hk
    have e1 : (frsM ms)[k] = ms[k].f := by simp [frsM]
    have h1 := good_mem (ps := ps) (s := s) hk'
    rw [e1, hl] at h1
    have h2 := true_dry hok.p bits s (HBK.out.fr hk).s
    rw [hkn] at h2
    have h3 := frameE_yes hb hss (f := (k : Int)) (by omega) (by omega)
    exact ⟨by rw [idx_mem, h1], h2.1, h2.2, h3, by rw [loV, if_pos h3, stayF_at hk], by rw [hiV, if_pos h3, stayF_at hk], by rw [kindV, if_pos h3, stayF_at hk]⟩ : (0 ≤ idxN l (k : Int) ↔ kindD ps s ms[k].f = 0) ∧ dryD Pt.hi ps s ms[k].f.stay ≤ dryD Pt.lo kn s ms[k].f.stay ∧ dryD Pt.lo kn s ms[k].f.stay ≤ dryD Pt.lo ps s ms[k].f.stay ∧ frameE ps (frsM ms) s (k : Int) = 0 ∧ loV ps (frsM ms) s (k : Int) = dryD Pt.hi ps s ms[k].f.stay ∧ hiV ps (frsM ms) s (k : Int) = dryD Pt.lo ps s ms[k].f.stay ∧ kindV ps (frsM ms) s (k : Int) = kindD ps s ms[k].f))
  have BSE := Lib.hid (show bestE ps (frsM ms) = 4 by rw [bestE, if_pos hb, hc]; rfl)
  have BSL := Lib.hid (show bestL ps (frsM ms) = [] by rw [bestL, if_pos hb, hc]; rfl)
  clear hb hsl hfl hibits hnbits hiset hnset hs hss hok hc hkn hl 
  go_enter Try.func6, Try.ntmps6
  go_wp2_with fail
  refine (sound_any pp cp pf cf ps ms _ HB.out).mono ?_
  rintro e w1 ⟨rfl, hb1⟩
  rw [HV.out]
  have HE := Lib.hid (HE.out.trans (hb1.mono HE.out.size))
  have HR := Lib.hid (HR.out.below hb1 HR.out.lt)
  clear hb1
  have hS : ∀ w', From w1 w' → w'.cell? ⟨w.heap.size, 0, none⟩ = some (.slice pp ps.length cp) ∧ w'.cell? ⟨w.heap.size, 1, none⟩ = some (.slice pf ms.length cf) := fun w' k => ⟨(k.row HR.out).cell 0 rfl, (k.row HR.out).cell 1 rfl⟩
  have HSS := Lib.hid hS
  have hw1 := HR.out.lt
  have HSS2 := Lib.hid (fun w' x v v' (q : From w1 w') (hx : w.heap.size < x) => (⟨(((q.row HR.out).set_other _ _ (by dsimp only; omega)).set_other _ _ (by dsimp only; omega)).cell 0 rfl, (((q.row HR.out).set_other _ _ (by dsimp only; omega)).set_other _ _ (by dsimp only; omega)).cell 1 rfl⟩ : ((w'.setCell ⟨x, 0, none⟩ v).setCell ⟨x, 1, none⟩ v').cell? ⟨w.heap.size, 0, none⟩ = some (.slice pp ps.length cp) ∧ ((w'.setCell ⟨x, 0, none⟩ v).setCell ⟨x, 1, none⟩ v').cell? ⟨w.heap.size, 1, none⟩ = some (.slice pf ms.length cf)))
  have KI := Lib.hid (From.refl w1)
  clear hS
  go_wp2_with fail
  go_cut [7, 8] from 25 to 30 (fun a7 a8 wx => ∃ bx g cap q c, a7 = .pointer (some ⟨bx, 0, none⟩) ∧ a8 = .slice q s.length c ∧ Row wx bx #[.slice (some ⟨g, 0, none⟩) ps.length cap, .slice pf ms.length cf] 25 ∧ PtsAt wx (some ⟨g, 0, none⟩) kn ∧ IntsAt wx q s ∧ From w1 wx)
  case first =>
    go_region_held3 (fun w' => w'.cell? ⟨w.heap.size, 0, none⟩ = some (.slice pp ps.length cp) ∧ w'.cell? ⟨w.heap.size, 1, none⟩ = some (.slice pf ms.length cf)) (first | with_reducible exact HSS.out _ KI.out | with_reducible exact HSS.out _ KI.out.drew | with_reducible exact HSS.out _ (KI.out.below (below_alloc _ _)) | with_reducible exact HSS.out _ (KI.out.drew.below (below_alloc _ _)) | with_reducible exact HSS.out _ (KI.out.below (below_alloc _ _)).drew | with_reducible exact HSS2.out _ _ _ _ KI.out (by omega))
      (first
        | (go_at_call 41; (with_reducible refine (setting_any _ _ _ (by omega) _ _ _ _ _ set _ (by with_reducible exact (HSI.out.below (HE.out.trans (KI.out.b.mono HE.out.size)))) HSN.out).mono ?_); rw [← HS.out]; rintro e u ⟨q, c, rfl, hi, hbu⟩; have HPK := Lib.hid (HPK.out.below hbu); (try (have HZ := Lib.hid (HZ.out.below hbu HZ.out.lt); have z0 := HZ.out.cell 0 (v := .slice none 0 0) rfl; have z1 := HZ.out.cell 1 (v := .slice none 0 0) rfl; have z2 := HZ.out.free 0; have z3 := HZ.out.free 1)); have HI := Lib.hid hi; have KI := Lib.hid (KI.out.below hbu); clear hbu hi)
        | (go_at_call 41; (with_reducible refine (setting_any _ _ _ (by omega) _ _ _ _ _ set _ (by with_reducible exact (HSI.out.below (HE.out.trans ((KI.out.below (below_alloc _ _)).b.mono HE.out.size)))) HSN.out).mono ?_); rw [← HS.out]; rintro e wy2 ⟨q, c, rfl, hi, hbu⟩; have HPK := Lib.hid ((HPK.out.below (below_alloc _ _)).below hbu); have hxl : w.heap.size < u.heap.size := (by have := KI.out.b.size; omega); have hxw := KI.out.b.size; have HZ := Lib.hid ((Row.new u #[.slice none 0 0, .slice none 0 0] 25).below hbu (by simp)); have z0 := HZ.out.cell 0 (v := .slice none 0 0) rfl; have z1 := HZ.out.cell 1 (v := .slice none 0 0) rfl; have z2 := HZ.out.free 0; have z3 := HZ.out.free 1; have HI := Lib.hid hi; have KI := Lib.hid ((KI.out.below (below_alloc _ _)).below hbu); clear hbu hi)
        | (go_at_call 40; (with_reducible refine (truly_any _ _ _ _ _ ps _ _ bits _ (by with_reducible exact (HB0.out.below (HE.out.trans (KI.out.drew.b.mono HE.out.size))).p) HOKP.out (by omega) (by omega) (by with_reducible exact (HBI.out.below (HE.out.trans (KI.out.drew.b.mono HE.out.size)))) HBN.out).mono ?_); rw [HKN.out]; rintro e u ⟨g, cap, rfl, hp, hgx, hbu⟩; simp at hgx; have hgu : g < u.heap.size := (by obtain ⟨_, _, e, q0, _⟩ := hp 0 (by rw [HKL.out]; omega); cases e; exact cell_block q0); have HPK := Lib.hid hp; have KI := Lib.hid (KI.out.drew.below hbu); clear hbu hp)
        | (go_at_call 40; (with_reducible refine (truly_any _ _ _ _ _ ps _ _ bits _ (by with_reducible exact (HB0.out.below (HE.out.trans ((KI.out.below (below_alloc _ _)).drew.b.mono HE.out.size))).p) HOKP.out (by omega) (by omega) (by with_reducible exact (HBI.out.below (HE.out.trans ((KI.out.below (below_alloc _ _)).drew.b.mono HE.out.size)))) HBN.out).mono ?_); rw [HKN.out]; rintro e u ⟨g, cap, rfl, hp, hgx, hbu⟩; simp at hgx; have hgu : g < u.heap.size := (by obtain ⟨_, _, e, q0, _⟩ := hp 0 (by rw [HKL.out]; omega); cases e; exact cell_block q0); have HPK := Lib.hid hp; have HZ := Lib.hid ((Row.new w1 #[.slice none 0 0, .slice none 0 0] 25).drew.below hbu (by simp)); have z0 := HZ.out.cell 0 (v := .slice none 0 0) rfl; have z1 := HZ.out.cell 1 (v := .slice none 0 0) rfl; have z2 := HZ.out.free 0; have z3 := HZ.out.free 1; have KI := Lib.hid ((KI.out.below (below_alloc _ _)).drew.below hbu); clear hbu hp))
    all_goals
      go_wp2_with fail
      go_meet
      rw [HKL.out]
      first
        | exact ⟨_, g, cap, q, c, rfl, rfl, Row.new _ _ _, HPK.out.below (below_alloc _ _), HI.out.below (below_alloc _ _), KI.out.below (below_alloc _ _)⟩
        | exact ⟨_, g, cap, q, c, rfl, rfl, (HZ.out.set 0 _).set 1 _, HPK.out.fromB (((FromB.refl _ _).set 0 _).set 1 _) (fun c o e => by cases e; omega), (((FromB.refl _ _).set 0 _).set 1 _).ints HI.out (ints_ne_row HZ.out HI.out), ⟨(KI.out.b.setCell (by dsimp only; omega) _).setCell (by dsimp only; omega) _⟩⟩
  case rest =>
    obtain ⟨bx, g, cap, q, c, rfl, rfl, hx, hp, hi, hk⟩ := hcut
    generalize wc = w2 at *
    have HX := Lib.hid hx
    have HPK := Lib.hid hp
    have HI := Lib.hid hi
    have HR2 := Lib.hid (hk.row HR.out)
    have HE2 := Lib.hid (HE.out.trans (hk.b.mono HE.out.size))
    have HBW := Lib.hid (HB0.out.below HE2.out)
    clear hx hp hi hk HSS HSS2 HR HE KI HB
    have c0 := HR2.out.cell 0 (v := .slice pp ps.length cp) rfl
    have c1 := HR2.out.cell 1 (v := .slice pf ms.length cf) rfl
    go_wp2_with fail
    clear c0 c1
    have hd := Good_any pp cp pf cf ps ms _ HBW.out q c s HI.out (by rw [HSL.out]; omega)
    rw [GV1.out, SE1.out] at hd
    refine hd.mono ?_
    clear hd
    rintro e w3 ⟨ql, cl, rfl, hl, hb⟩
    have KI := Lib.hid ((From.refl w2).below hb)
    have HL := Lib.hid hl
    clear hl hb
    have c0 := (KI.out.row HR2.out).cell 0 (v := .slice pp ps.length cp) rfl
    have c1 := (KI.out.row HR2.out).cell 1 (v := .slice pf ms.length cf) rfl
    go_wp2_with fail
    clear c0 c1
    have hd := Best_any pp cp pf cf ps ms _ (HBW.out.below KI.out.b)
    rw [BSL.out, BSE.out] at hd
    refine hd.mono ?_
    clear hd
    rintro e w4 ⟨qb, cb, rfl, hbs, hb⟩
    have KI := Lib.hid (KI.out.below hb)
    have HL := Lib.hid (HL.out.below hb)
    have HBS := Lib.hid hbs
    clear hbs hb
    have c1 := (KI.out.row HR2.out).cell 1 (v := .slice pf ms.length cf) rfl
    go_wp2_with (first
      | (go_at_call 42; (with_reducible refine (Grows_any _ _ l ms.length (by omega) (by omega) _ HL.out HG.out).mono ?_); rintro e u ⟨rfl, hb⟩; have KI := Lib.hid (KI.out.below hb); have HL := Lib.hid (HL.out.below hb); have HBS := Lib.hid (HBS.out.below hb); clear hb; have c0 := (KI.out.row HR2.out).cell 0 (v := .slice pp ps.length cp) rfl))
    clear c0 c1
    have R1 := Lib.hid (KI.out.row HR2.out)
    have R2 := Lib.hid (KI.out.row HX.out)
    have R3 := Lib.hid (KI.out.ints HI.out)
    have R4 := Lib.hid HL.out
    have R5 := Lib.hid HBS.out
    have R6 := Lib.hid (HPK.out.below KI.out.b)
    have R7 := Lib.hid (HBW.out.below KI.out.b)
    have R8 := Lib.hid (HE2.out.trans (KI.out.b.mono HE2.out.size))
    go_loopw [13] (fun i wr => ∃ k : Nat, k ≤ ms.length ∧ i = .int .i64 k ∧ From u wr) (fun i _ => ms.length - (intOf i).toNat)
    case atStart => exact ⟨0, by omega, rfl, From.refl u⟩
    case round =>
      clear KI HL HBS HR2 HX HI HPK HBW HE2
      obtain ⟨k, hk, rfl, ki⟩ := hrel
      have KI := Lib.hid ki
      clear ki
      have c1 := (KI.out.row R1.out).cell 1 (v := .slice pf ms.length cf) rfl
      by_cases hlt : k < ms.length
      · obtain ⟨b', o', e', q0, q1, q2, q3⟩ := (R7.out.below KI.out.b).f k hlt
        obtain ⟨f1, f2, f3, f4, f5, f6, f7⟩ := HFR.out k hlt
        have hfo := HBK.out.fr hlt
        have kn1 := kind_odd (ps := ps) (s := s) (f := ms[k].f) f2
        have kn2 := kind_dry (ps := ps) (s := s) (f := ms[k].f) f3
        have kn3 := kind_range ps s ms[k].f
        have HFO := Lib.hid hfo.s
        have HFN := Lib.hid hfo.n
        have F4 := Lib.hid f4
        have F5 := Lib.hid f5
        have F6 := Lib.hid f6
        have F7 := Lib.hid f7
        have Q3 := Lib.hid q3
        rw [e'] at c1
        have i1 : (0 : Int) ≤ (k : Int) := by omega
        have i2 : (k : Int) < (ms.length : Int) := by omega
        clear f4 f5 f6 f7 q3 hfo
        generalize kindD ps s ms[k].f = kv at *
        generalize dryD Pt.hi ps s ms[k].f.stay = d1 at *
        generalize dryD Pt.lo ps s ms[k].f.stay = d2 at *
        generalize hd0 : dryD Pt.lo kn s ms[k].f.stay = d0 at *
        have HD0 := Lib.hid hd0
        generalize ms[k].f.lo = flo at *
        generalize ms[k].f.hi = fhi at *
        generalize ms[k].f.stay = st at *
        generalize ms[k].p = sp at *
        generalize ms[k].c = sc at *
        have hst4 : st.length ≤ 4 := by have := HFN.out; omega
        clear hd0 e'
        have hb := below_alloc wr (.cells #[.slice sp st.length sc, .int .i64 flo, .int .i64 fhi] 55)
        have RY := Lib.hid (Row.new wr #[.slice sp st.length sc, .int .i64 flo, .int .i64 fhi] 55)
        have KI := Lib.hid (KI.out.below hb)
        have Q3 := Lib.hid (Q3.out.below hb)
        clear hb
        have x0 := (KI.out.row R2.out).cell 0 (v := .slice (some ⟨g, 0, none⟩) ps.length cap) rfl
        have x1 := (KI.out.row R2.out).cell 1 (v := .slice pf ms.length cf) rfl
        have y0 := RY.out.cell 0 (v := .slice sp st.length sc) rfl
        have y1 := RY.out.cell 1 (v := .int .i64 flo) rfl
        have y2 := RY.out.cell 2 (v := .int .i64 fhi) rfl
        go_wp2_with fail
        clear c1 q0 q1 q2 x0 x1 y0 y1 y2
        have hd := ldryness_any (some ⟨g, 0, none⟩) cap pf ms.length cf kn q c s sp sc st flo fhi _ (R6.out.below KI.out.b) HKO.out (by rw [HKL.out]; omega) (KI.out.ints R3.out) (by rw [HKL.out, HSL.out]) HM.out Q3.out (by rw [HKL.out, HFN.out]) HFO.out
        rw [HKL.out, HD0.out] at hd
        refine hd.mono ?_
        clear hd
        rintro e w5 ⟨rfl, hb⟩
        have RY := Lib.hid (RY.out.below hb RY.out.lt)
        have Q3 := Lib.hid (Q3.out.below hb)
        have KI := Lib.hid (KI.out.below hb)
        clear hb
        have c0 := (KI.out.row R1.out).cell 0 (v := .slice pp ps.length cp) rfl
        have c1 := (KI.out.row R1.out).cell 1 (v := .slice pf ms.length cf) rfl
        go_wp2_with fail
        clear c0 c1
        have hd := Dries_any pp cp pf cf ps ms _ (R7.out.below KI.out.b) q c s (KI.out.ints R3.out) (by rw [HSL.out]; omega) k
        rw [F4.out, F5.out, F6.out] at hd
        refine hd.mono ?_
        clear hd
        rintro e w6 ⟨rfl, hb⟩
        have RY := Lib.hid (RY.out.below hb RY.out.lt)
        have Q3 := Lib.hid (Q3.out.below hb)
        have KI := Lib.hid (KI.out.below hb)
        clear hb
        have hb := below_alloc w6 (.cells #[.int .i64 d1, .int .i64 d2] 32)
        have RT := Lib.hid (Row.new w6 #[.int .i64 d1, .int .i64 d2] 32)
        have RY := Lib.hid (RY.out.below hb RY.out.lt)
        have Q3 := Lib.hid (Q3.out.below hb)
        have KI := Lib.hid (KI.out.below hb)
        clear hb
        have c0 := (KI.out.row R1.out).cell 0 (v := .slice pp ps.length cp) rfl
        have c1 := (KI.out.row R1.out).cell 1 (v := .slice pf ms.length cf) rfl
        go_wp2_with fail
        clear c0 c1
        have hd := Kind_any pp cp pf cf ps ms _ (R7.out.below KI.out.b) q c s (KI.out.ints R3.out) (by rw [HSL.out]; omega) k
        rw [F4.out, F7.out] at hd
        refine hd.mono ?_
        clear hd
        rintro e w7 ⟨rfl, hb⟩
        have RT := Lib.hid (RT.out.below hb RT.out.lt)
        have RY := Lib.hid (RY.out.below hb RY.out.lt)
        have Q3 := Lib.hid (Q3.out.below hb)
        have KI := Lib.hid (KI.out.below hb)
        clear hb
        have t0 := RT.out.cell 0 (v := .int .i64 d1) rfl
        have t1 := RT.out.cell 1 (v := .int .i64 d2) rfl
        have HHD := Lib.hid (fits_yes (n := d0) (lo := d1) (hi := d2) ⟨f2, f3⟩)
        have hll2 : l.length ≤ 1000 := by omega
        obtain ⟨ix, hix⟩ : ∃ x, idxN l (k : Int) = x := ⟨_, rfl⟩
        rw [hix] at f1
        have HIX := Lib.hid hix
        clear hix
        have hlow : d0 < flo ∨ ¬ d0 < flo := by omega
        have hhig : fhi < d0 ∨ ¬ fhi < d0 := by omega
        have hcs : (kv = 0 ∧ 0 ≤ ix ∧ ¬ d0 < flo ∧ ¬ fhi < d0) ∨ (kv = 1 ∧ ix < 0 ∧ ¬ fhi < d0) ∨ (kv = 2 ∧ ix < 0 ∧ ¬ d0 < flo) ∨ (kv = 3 ∧ ix < 0) := by omega
        clear f1 f2 f3 kn1 kn2 kn3
        have hX : decide (0 ≤ ix) = (kv == 0) := by
          by_cases h : kv = 0
          · rw [decide_eq_true (by omega)]; simp [h]
          · rw [decide_eq_false (by omega)]; simp [h]
        go_upto_region 15 with (fail)
        go_cut [150] from 107 to 149 (fun a wx => a = .bool false ∧ From u wx ∧ Row wx wr.heap.size #[.slice sp st.length sc, .int .i64 flo, .int .i64 fhi] 55 ∧ IntsAt wx sp st)
        case first =>
          clear R1 R2 R3 R5 R6 R7 R8 HFR HBK HOKP HBI HBN HSI HSN HB0 HS HSL HM HKN HKL HKO SE1 GV1 HG BSE BSL F4 F5 F6 F7 HD0 HFO HFN
          have hk1 : d0 < flo → ¬ kv % 2 = 0 := by omega
          have hk2 : fhi < d0 → ¬ kv < 2 := by omega
          have hk0 : 0 ≤ kv ∧ kv ≤ 3 := by omega
          clear hcs
          rcases hlow with hlow | hlow <;> rcases hhig with hhig | hhig
          all_goals
            (try replace hk1 := hk1 hlow)
            (try replace hk2 := hk2 hhig)
          all_goals
            go_wp2_with (first
              | (go_at_call 44; (with_reducible refine (Has_any _ _ _ _).mono ?_); rintro e wy2 ⟨rfl, hb⟩; rw [HHD.out]; have RY := Lib.hid (RY.out.below hb RY.out.lt); have Q3 := Lib.hid (Q3.out.below hb); have KI := Lib.hid (KI.out.below hb); clear hb; have y1 := RY.out.cell 1 (v := .int .i64 flo) rfl; have y2 := RY.out.cell 2 (v := .int .i64 fhi) rfl)
              | (go_at_call 45; (with_reducible refine (Index_any _ _ _ _ hll2 _ (KI.out.b |> R4.out.below)).mono ?_); rintro e wy3 ⟨rfl, rfl⟩; rw [HIX.out]))
            go_meet
            exact ⟨by first | rfl | exact congrArg Value.bool (by simp; omega), KI.out, RY.out, Q3.out⟩
        case rest =>
          obtain ⟨rfl, ki, ry, qq⟩ := hcut
          clear t0 t1
          generalize wc = w8 at *
          have KI := Lib.hid ki
          have RY := Lib.hid ry
          have Q3 := Lib.hid qq
          clear ki ry qq hcs hlow hhig
          go_wp2_with fail
          go_roundw
          case rel => exact ⟨k + 1, by omega, by go_num, KI.out⟩
          case measure => simp [intOf]; omega
      · obtain rfl : k = ms.length := by omega
        have HE := Lib.hid (R8.out.trans (KI.out.b.mono R8.out.size))
        go_wp2_with fail
        refine (warmed_any _).mono ?_
        rintro e w12 ⟨rfl, hb⟩
        have HE := Lib.hid (HE.out.trans (hb.mono HE.out.size))
        clear hb
        go_wp2_with fail
        go_ret
        exact ⟨rfl, HE.out⟩
end Go.Proofs.Ytjaeheodabojfaa
