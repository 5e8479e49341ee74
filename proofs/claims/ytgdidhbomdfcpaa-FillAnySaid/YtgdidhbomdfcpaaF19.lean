/- The walks of layer 5: what becomes of a plan. -/
import Derived.Test.YtgdidhbomdfcpaaF18
namespace Go.Proofs.Ytgdidhbomdfcpaa
open Go.RowKit Go.Maps
attribute [local go_sem] Oper.semAt_some

set_option maxRecDepth 10000 in
set_option maxHeartbeats 1600000 in
theorem by_any (b : Bf) (p : Option Addr) (c mb : Nat) (q : Option Addr) (cq : Nat) (l : List Int) (w : World) (hB : BkF w p c mb b) (hl : IntsAt w q l) (hn : l.length < 2 ^ 62) (hp : planB b l = true) :
    Calls Try.prog 99 #[.agg (bkA b p c mb), .slice q l.length cq] w (GaveOut b q cq l w) := by
  obtain ⟨i0, hi, hi0, hi1, hi2⟩ := info_parts Try.infoInt
  obtain ⟨i9, hj, hj0, hj1, hj2⟩ := info_parts Try.infoSpan
  have HB := Lib.hid hB
  have hn8 := HB.out.ok.n8
  have HL := Lib.hid hl
  clear hB hl
  refine calls_marks Try.func99 rfl ?_
  simp only [Try.ntmps99, List.size_toArray, List.length_cons, List.length_nil, Nat.reduceAdd, Nat.reduceSub, Array.replicate_succ, Array.replicate_zero, List.push_toArray, List.append_toArray, List.nil_append, List.cons_append]
  go_wp2_with fail
  go_step3
  go_wp2_with fail
  go_step3
  go_wp2_with (first | (go_at_call 97; (refine (boxes_any _ _ _ _).mono ?_); rintro e w' ⟨rfl, rfl⟩))
  have hb4 : Below w.heap.size w ((((w.alloc (.cells (bkA b p c mb) 79)).alloc (.cells #[.slice none 0 0, .slice none 0 0, .slice none 0 0] 90)).alloc (.cells #[.slice q l.length cq, .slice none 0 0, .slice none 0 0] 90)).alloc (.cells #[.slice q l.length cq] 38)) := ((below_alloc2 w _ _).alloc (by simp; omega) _).alloc (by simp; omega) _
  have rB := (((Row.new w (bkA b p c mb) 79).alloc (.cells #[.slice none 0 0, .slice none 0 0, .slice none 0 0] 90)).alloc (.cells #[.slice q l.length cq, .slice none 0 0, .slice none 0 0] 90)).alloc (.cells #[.slice q l.length cq] 38)
  have rD := ((Row.new1 w (.cells (bkA b p c mb) 79) #[.slice none 0 0, .slice none 0 0, .slice none 0 0] 90).alloc (.cells #[.slice q l.length cq, .slice none 0 0, .slice none 0 0] 90)).alloc (.cells #[.slice q l.length cq] 38)
  have rE := (Row.new2 w (.cells (bkA b p c mb) 79) (.cells #[.slice none 0 0, .slice none 0 0, .slice none 0 0] 90) #[.slice q l.length cq, .slice none 0 0, .slice none 0 0] 90).alloc (.cells #[.slice q l.length cq] 38)
  have rN := Row.new' (w := (((w.alloc (.cells (bkA b p c mb) 79)).alloc (.cells #[.slice none 0 0, .slice none 0 0, .slice none 0 0] 90)).alloc (.cells #[.slice q l.length cq, .slice none 0 0, .slice none 0 0] 90))) (n := w.heap.size + 1 + 1 + 1) (by simp) #[.slice q l.length cq] 38
  have hs4 : ((((w.alloc (.cells (bkA b p c mb) 79)).alloc (.cells #[.slice none 0 0, .slice none 0 0, .slice none 0 0] 90)).alloc (.cells #[.slice q l.length cq, .slice none 0 0, .slice none 0 0] 90)).alloc (.cells #[.slice q l.length cq] 38)).heap.size = w.heap.size + 4 := by simp
  change Code.wp _ _ _ _ ((((w.alloc (.cells (bkA b p c mb) 79)).alloc (.cells #[.slice none 0 0, .slice none 0 0, .slice none 0 0] 90)).alloc (.cells #[.slice q l.length cq, .slice none 0 0, .slice none 0 0] 90)).alloc (.cells #[.slice q l.length cq] 38))
  generalize ((((w.alloc (.cells (bkA b p c mb) 79)).alloc (.cells #[.slice none 0 0, .slice none 0 0, .slice none 0 0] 90)).alloc (.cells #[.slice q l.length cq, .slice none 0 0, .slice none 0 0] 90)).alloc (.cells #[.slice q l.length cq] 38)) = w4 at *
  have HB4 := Lib.hid hb4
  have RB := Lib.hid rB
  have RD := Lib.hid rD
  have HPL := Lib.hid hp
  have HL4 := Lib.hid (HL.out.below hb4)
  have hqlt : ∀ m o, 0 < l.length → q = some ⟨m, o, none⟩ → m < w.heap.size := fun m o h0 e => by
    obtain ⟨b', o', e', hc⟩ := HL.out 0 h0
    rw [e] at e'
    cases e'
    exact cell_block hc
  have hpt : planTo b l l.length = true := (Bool.and_eq_true _ _ ▸ (show (planTo b l l.length && decide (bgn l l.length = b.hs.length)) = true from hp)).1
  have HPT := Lib.hid hpt
  clear hb4 rB rD hp hpt
  refine range_lawP 108 #[.pointer (some ⟨w.heap.size + 1 + 1 + 1, 0, none⟩)] (fun m => m = w.heap.size + 1 + 1 + 1 ∨ (0 < l.length ∧ ∃ o, q = some ⟨m, o, none⟩)) l.length (fun k x O A => x = #[.int .i64 k, .agg #[.int .i64 (bgn l k), .int .i64 (at0 l k)]]) rfl (fun args w => Try.call108 args w)
    (fun W1 hb _ => boxes_iterP q cq l _ hn W1 (rN.below hb rN.lt) (HL4.out.below hb)) (fun k x O A h => by rw [h]; rfl) (fun m => m = w.heap.size + 1 + 1)
    (by
      rintro m rfl
      refine ⟨by omega, ?_⟩
      rintro (h | ⟨h0, o, e⟩)
      · omega
      · have := hqlt _ o h0 e
        omega)
    (by
      rintro (h | ⟨h0, o, e⟩)
      · omega
      · have := hqlt _ o h0 e
        omega)
    (fun k O A => ¬ O (w.heap.size + 1 + 1) ∧ ∃ vr vh, Row A (w.heap.size + 1 + 1) #[.slice q l.length cq, vr, vh] 90 ∧ Both w4.heap.size b l vr vh k O A)
    (fun _ _ _ => False)
    (fun k O O' A B h hb _ hO => by
      obtain ⟨h1, vr, vh, h2, h3⟩ := h
      exact ⟨fun x => (hO _ x).elim h1 (fun y => by have := h2.lt; omega), vr, vh, h2.keeps hb h1, h3.keeps hb hO⟩)
    (fun _ _ _ _ _ h _ _ _ => h)
    ⟨fun h => h.elim, _, _, rE, ⟨⟨rfl, .inl ⟨rfl, rfl⟩⟩, ⟨rfl, .inl ⟨rfl, rfl⟩⟩, fun g hg => (by cases hg), fun g hg => (by cases hg), fun g hg => (by cases hg)⟩⟩ ?body ?done ?stop
  case body =>
    rintro li k x O O' A rfl hk hx hOO hO hOw hOl ⟨hn1, vr, vh, hE, hbo⟩ hkeep hlA
    obtain ⟨pr, cr, rfl⟩ := owns_slice hbo.r
    obtain ⟨ph, ch, rfl⟩ := owns_slice hbo.h
    obtain ⟨vr, hvr⟩ : ∃ v, v = Value.slice pr (rightTo b l k).length cr := ⟨_, rfl⟩
    obtain ⟨vh, hvh⟩ : ∃ v, v = Value.slice ph (handTo b l k).length ch := ⟨_, rfl⟩
    rw [← hvr, ← hvh] at hE hbo
    have HVR := Lib.hid hvr
    have HVH := Lib.hid hvh
    clear hvr hvh
    obtain rfl := hx
    have RBA := Lib.hid (RB.out.keeps hkeep (by omega))
    have HK := Lib.hid hkeep
    have HEE := Lib.hid hE
    have HBO := Lib.hid hbo
    have hszA := hE.lt
    have hbx : boxB b (bgn l k) (at0 l k) = true := planTo_all HPT.out hk
    have HBX := Lib.hid hbx
    have hnum := plan_nums (b := b) (l := l) (k := k) (by unfold planTo; rw [List.all_eq_true]; intro i hi; exact planTo_all HPT.out (by have := List.mem_range.1 hi; omega)) (by omega)
    have hnum2 := plan_nums (b := b) (l := l) (k := k + 1) (by unfold planTo; rw [List.all_eq_true]; intro i hi; exact planTo_all HPT.out (by have := List.mem_range.1 hi; omega)) (by omega)
    rw [bgn_succ] at hnum2
    clear hkeep hE hbo hbx
    gi_wp2_with fail
    refine ⟨(KeepsBut.refl _ _).alloc _, fun oo => ?_⟩
    have hk2 : KeepsBut (fun m => m = w4.heap.size + 1) A ((A.alloc (.cells #[.int .i64 (bgn l k), .int .i64 (at0 l k)] 72)).putObj (w4.heap.size + 1) oo) := ((KeepsBut.refl (fun m => m = w4.heap.size + 1) A).alloc (.cells #[.int .i64 (bgn l k), .int .i64 (at0 l k)] 72)).putObj (l := w4.heap.size + 1) (.inl rfl) oo
    have hk5 := (HK.out.alloc (.cells #[.int .i64 (bgn l k), .int .i64 (at0 l k)] 72)).putObj (l := w4.heap.size + 1) (.inr (by omega)) oo
    have RS := Lib.hid ((Row.new A #[.int .i64 (bgn l k), .int .i64 (at0 l k)] 72).keeps ((KeepsBut.refl (fun m => m = w4.heap.size + 1) _).putObj (l := w4.heap.size + 1) (.inl rfl) oo) (by omega))
    have RB2 := Lib.hid (RBA.out.keeps hk2 (by omega))
    have RE2 := Lib.hid (HEE.out.keeps hk2 (by omega))
    have HB2 := Lib.hid (HB.out.below (below_keep HB4.out hk5 (by omega) (fun m hm => by omega)))
    have HBO2 := Lib.hid (show Both w4.heap.size b l vr vh k O ((A.alloc (.cells #[.int .i64 (bgn l k), .int .i64 (at0 l k)] 72)).putObj (w4.heap.size + 1) oo) from
      ⟨owns_keeps HBO.out.r hk2 (fun g hg e => HBO.out.nr g hg (e ▸ hOl)), owns_keeps HBO.out.h hk2 (fun g hg e => HBO.out.nh g hg (e ▸ hOl)), HBO.out.nr, HBO.out.nh, HBO.out.ne⟩)
    have hszB : A.heap.size < ((A.alloc (.cells #[.int .i64 (bgn l k), .int .i64 (at0 l k)] 72)).putObj (w4.heap.size + 1) oo).heap.size := RS.out.lt
    change Code.wpIn _ _ _ _ _ _ ((A.alloc (.cells #[.int .i64 (bgn l k), .int .i64 (at0 l k)] 72)).putObj (w4.heap.size + 1) oo)
    generalize (A.alloc (.cells #[.int .i64 (bgn l k), .int .i64 (at0 l k)] 72)).putObj (w4.heap.size + 1) oo = A2 at *
    obtain ⟨lo, hi, hlk, hlv, _⟩ := HB2.out.s.look1 (x := bgn l k) (y := at0 l k) (I64_of (by omega) (by omega)) (I64_of (by omega) (by omega))
    obtain ⟨e1, e2⟩ := hlv HBX.out
    subst e1
    subst e2
    have HLK := Lib.hid hlk
    have b0 := RB2.out.cell 0 (v := .int .i64 b.pr) rfl
    have b1 := RB2.out.cell 1 (v := .int .i64 b.le) rfl
    have b2 := RB2.out.cell 2 (v := .int .i64 b.mo) rfl
    have b3 := RB2.out.cell 3 (v := .int .i64 b.gr) rfl
    have b4 := RB2.out.cell 4 (v := .slice p b.hs.length c) rfl
    have b5 := RB2.out.cell 5 (v := .map (some mb)) rfl
    have s0 := RS.out.cell 0 (v := .int .i64 (bgn l k)) rfl
    have s1 := RS.out.cell 1 (v := .int .i64 (at0 l k)) rfl
    clear hk2 hk5 RBA HK HEE hlk hlv HBO
    gi_wp2_with (first | (refine lookup_opIn rfl 77 _ _ _ rfl mb _ rfl rfl _ HLK.out ?_))
    have RSP := Lib.hid (Row.new A2 #[.int .i64 (loF b (bgn l k) (at0 l k)), .int .i64 (hiF b (bgn l k) (at0 l k))] 27)
    have RE3 := Lib.hid (RE2.out.alloc (.cells #[.int .i64 (loF b (bgn l k) (at0 l k)), .int .i64 (hiF b (bgn l k) (at0 l k))] 27))
    have HB3 := Lib.hid (HB2.out.below (below_alloc A2 (.cells #[.int .i64 (loF b (bgn l k) (at0 l k)), .int .i64 (hiF b (bgn l k) (at0 l k))] 27)))
    have hkA : KeepsBut (fun _ => False) A2 (A2.alloc (.cells #[.int .i64 (loF b (bgn l k) (at0 l k)), .int .i64 (hiF b (bgn l k) (at0 l k))] 27)) := KeepsBut.of_below (below_alloc A2 (.cells #[.int .i64 (loF b (bgn l k) (at0 l k)), .int .i64 (hiF b (bgn l k) (at0 l k))] 27))
    have HBO3 := Lib.hid (show Both w4.heap.size b l vr vh k O (A2.alloc (.cells #[.int .i64 (loF b (bgn l k) (at0 l k)), .int .i64 (hiF b (bgn l k) (at0 l k))] 27)) from
      ⟨owns_keeps HBO2.out.r hkA (fun _ _ h => h), owns_keeps HBO2.out.h hkA (fun _ _ h => h), HBO2.out.nr, HBO2.out.nh, HBO2.out.ne⟩)
    have HKA := Lib.hid (KeepsBut.of_below (M := fun m => m = w.heap.size + 1 + 1 ∨ (w4.heap.size ≤ m ∧ ¬ O m)) (below_alloc A2 (.cells #[.int .i64 (loF b (bgn l k) (at0 l k)), .int .i64 (hiF b (bgn l k) (at0 l k))] 27)))
    obtain ⟨fw, hfw⟩ : ∃ x, fewB b (loF b (bgn l k) (at0 l k)) = x := ⟨_, rfl⟩
    obtain ⟨mn, hmn⟩ : ∃ x, manyB b (hiF b (bgn l k) (at0 l k)) = x := ⟨_, rfl⟩
    have HFW := Lib.hid (fun w' => (by have h := few_any b HB2.out.ok p c mb (loF b (bgn l k) (at0 l k)) (hiF b (bgn l k) (at0 l k)) w'; rw [hfw] at h; exact h : Calls Try.prog 94 #[.agg (bkA b p c mb), .agg #[.int .i64 (loF b (bgn l k) (at0 l k)), .int .i64 (hiF b (bgn l k) (at0 l k))]] w' fun e w'' => e = .returned (.bool fw) ∧ Below w'.heap.size w' w''))
    have HMN := Lib.hid (fun w' => (by have h := many_any b HB2.out.ok p c mb (loF b (bgn l k) (at0 l k)) (hiF b (bgn l k) (at0 l k)) w'; rw [hmn] at h; exact h : Calls Try.prog 95 #[.agg (bkA b p c mb), .agg #[.int .i64 (loF b (bgn l k) (at0 l k)), .int .i64 (hiF b (bgn l k) (at0 l k))]] w' fun e w'' => e = .returned (.bool mn) ∧ Below w'.heap.size w' w''))
    have HRT := Lib.hid (show rightI b l k = (!fw && !mn) by
      unfold rightI kindS
      rw [show loI b l k = loF b (bgn l k) (at0 l k) from rfl, show hiI b l k = hiF b (bgn l k) (at0 l k) from rfl, hfw, hmn]
      cases fw <;> cases mn <;> rfl)
    clear b0 b1 b2 b3 b4 b5 s0 s1 hkA hfw hmn HBO2 RE2 RS RB2
    change Code.wpIn _ _ _ _ _ _ (A2.alloc (.cells #[.int .i64 (loF b (bgn l k) (at0 l k)), .int .i64 (hiF b (bgn l k) (at0 l k))] 27))
    have hzA3 : A2.heap.size < (A2.alloc (.cells #[.int .i64 (loF b (bgn l k) (at0 l k)), .int .i64 (hiF b (bgn l k) (at0 l k))] 27)).heap.size := RSP.out.lt
    generalize A2.alloc (.cells #[.int .i64 (loF b (bgn l k) (at0 l k)), .int .i64 (hiF b (bgn l k) (at0 l k))] 27) = A3 at *
    gi_loopw [26] (fun i wr => (i = .int .i64 0 ∨ (i = .int .i64 1 ∧ fw = false) ∨ (i = .int .i64 2 ∧ fw = false ∧ mn = false)) ∧ From A3 wr) (fun i _ => 2 - (intOf i).toNat)
    case atStart => exact ⟨.inl rfl, From.refl A3⟩
    case round =>
      obtain ⟨hi3, hq⟩ := hrel
      have KQ := Lib.hid hq
      have t0 := (hq.row RSP.out).cell 0 (v := .int .i64 (loF b (bgn l k) (at0 l k))) rfl
      have t1 := (hq.row RSP.out).cell 1 (v := .int .i64 (hiF b (bgn l k) (at0 l k))) rfl
      clear hq
      rcases hi3 with rfl | ⟨rfl, hf⟩ | ⟨rfl, hf, hm⟩
      · gi_wp2_with (first | (refine index_opIn rfl 127 _ _ rfl _ _ rfl rfl _ (idx0 _ _ _) ?_))
        refine inRound_of (HFW.out _) ?_
        rintro e B ⟨rfl, hbu⟩
        have KQ := Lib.hid (KQ.out.below hbu)
        clear hbu t0 t1
        cases fw
        · gi_wp2_with fail
          go_roundw
          case rel => exact ⟨.inr (.inl ⟨rfl, by trivial⟩), KQ.out⟩
          case measure => simp [intOf]
        · have RO := Lib.hid (KQ.out.row RE3.out)
          have HHO := Lib.hid ((owns_below HBO3.out.h KQ.out.b).alloc (.cells #[.int .i64 (k : Int)] 3))
          have hcn := count_to b l k
          have c2 := RO.out.cell 2 (v := vh) rfl
          rw [HVH.out] at c2
          have hzB := KQ.out.b.size
          gi_wp2_with (first
            | ((refine wpListIn_append_own_at _ rfl _ _ 38 rfl w4.heap.size 3 i0 (.int .i64 0) 1 8 Try.underlying38 hi hi0 hi1 hi2 rfl (by decide) vh _ _ HVH.out.symm HHO.out ⟨B.heap.size, 0, none⟩ 1 1 [.int .i64 (k : Int)] rfl rfl (cell_one_new _ _ _) (by simp [Value.oneCell']) (by unfold maxLen; omega) (by omega) (by simp; omega) ?_); intro v' w2 hown' hgrow _ hat; obtain ⟨p', c', hv'⟩ := owns_slice hown'; subst hv'; have HO2 := Lib.hid hown'; have HG := Lib.hid hgrow; have HAT := Lib.hid hat; have RO2 := Lib.hid ((RO.out.alloc (.cells #[.int .i64 (k : Int)] 3)).grown hgrow (fun e => by have := (own_lt HBO3.out.h e.symm).1; omega)); have d2 := RO2.out.cell 2 (v := vh) rfl; rw [HVH.out] at d2; have f2 := RO2.out.free 2; clear hown' hgrow hat c2))
          have hr : rightI b l k = false := by rw [HRT.out]; simp
          refine ⟨(((HKA.out.after KQ.out.b).alloc _).trans (grown_keeps HG.out (fun g hg => .inr ⟨(own_lt HBO3.out.h hg).1, HBO3.out.nh g hg⟩))).setCell (.inl (.inl rfl)) _, hn1, vr, _, RO2.out.set 2 _, HBO3.out.hand hr (KQ.out.b.alloc KQ.out.b.size _) (fun m hm => by have := (hOw m hm).2; omega) (by omega) HO2.out HG.out HAT.out 2 _⟩
      · subst hf
        gi_wp2_with (first | (refine index_opIn rfl 127 _ _ rfl _ _ rfl rfl _ (idx1 _ _ _) ?_))
        refine inRound_of (HMN.out _) ?_
        rintro e B ⟨rfl, hbu⟩
        have KQ := Lib.hid (KQ.out.below hbu)
        clear hbu t0 t1
        cases mn
        · gi_wp2_with fail
          go_roundw
          case rel => exact ⟨.inr (.inr ⟨rfl, by trivial, by trivial⟩), KQ.out⟩
          case measure => simp [intOf]
        · have RO := Lib.hid (KQ.out.row RE3.out)
          have HHO := Lib.hid ((owns_below HBO3.out.h KQ.out.b).alloc (.cells #[.int .i64 (k : Int)] 3))
          have hcn := count_to b l k
          have c2 := RO.out.cell 2 (v := vh) rfl
          rw [HVH.out] at c2
          have hzB := KQ.out.b.size
          gi_wp2_with (first
            | ((refine wpListIn_append_own_at _ rfl _ _ 38 rfl w4.heap.size 3 i0 (.int .i64 0) 1 8 Try.underlying38 hi hi0 hi1 hi2 rfl (by decide) vh _ _ HVH.out.symm HHO.out ⟨B.heap.size, 0, none⟩ 1 1 [.int .i64 (k : Int)] rfl rfl (cell_one_new _ _ _) (by simp [Value.oneCell']) (by unfold maxLen; omega) (by omega) (by simp; omega) ?_); intro v' w2 hown' hgrow _ hat; obtain ⟨p', c', hv'⟩ := owns_slice hown'; subst hv'; have HO2 := Lib.hid hown'; have HG := Lib.hid hgrow; have HAT := Lib.hid hat; have RO2 := Lib.hid ((RO.out.alloc (.cells #[.int .i64 (k : Int)] 3)).grown hgrow (fun e => by have := (own_lt HBO3.out.h e.symm).1; omega)); have d2 := RO2.out.cell 2 (v := vh) rfl; rw [HVH.out] at d2; have f2 := RO2.out.free 2; clear hown' hgrow hat c2))
          have hr : rightI b l k = false := by rw [HRT.out]; simp
          refine ⟨(((HKA.out.after KQ.out.b).alloc _).trans (grown_keeps HG.out (fun g hg => .inr ⟨(own_lt HBO3.out.h hg).1, HBO3.out.nh g hg⟩))).setCell (.inl (.inl rfl)) _, hn1, vr, _, RO2.out.set 2 _, HBO3.out.hand hr (KQ.out.b.alloc KQ.out.b.size _) (fun m hm => by have := (hOw m hm).2; omega) (by omega) HO2.out HG.out HAT.out 2 _⟩
      · subst hf
        subst hm
        have RO := Lib.hid (KQ.out.row RE3.out)
        have HHO := Lib.hid ((owns_below HBO3.out.r KQ.out.b).alloc (.cells #[.int .i64 (loF b (bgn l k) (at0 l k)), .int .i64 (hiF b (bgn l k) (at0 l k))] 27))
        have hcn := count_to b l k
        have c1 := RO.out.cell 1 (v := vr) rfl
        rw [HVR.out] at c1
        have hzB := KQ.out.b.size
        gi_wp2_with (first
          | ((refine wpListIn_append_own_at _ rfl _ _ 22 rfl w4.heap.size 27 i9 _ 2 16 Try.underlying22 hj hj0 hj1 hj2 rfl (by decide) vr _ _ HVR.out.symm HHO.out ⟨wr.heap.size, 0, none⟩ 1 1 [.int .i64 (loF b (bgn l k) (at0 l k)), .int .i64 (hiF b (bgn l k) (at0 l k))] rfl rfl (fun q u hq => by rw [Addr.add_lit, Nat.zero_add]; exact (Row.new wr #[.int .i64 (loF b (bgn l k) (at0 l k)), .int .i64 (hiF b (bgn l k) (at0 l k))] 27).cell q (by simpa using hq)) (by simp [Value.oneCell']) (by unfold maxLen; omega) (by omega) (by simp; omega) ?_); intro v' w2 hown' hgrow _ hat; obtain ⟨p', c', hv'⟩ := owns_slice hown'; subst hv'; have HO2 := Lib.hid hown'; have HG := Lib.hid hgrow; have HAT := Lib.hid hat; have RO2 := Lib.hid ((RO.out.alloc (.cells #[.int .i64 (loF b (bgn l k) (at0 l k)), .int .i64 (hiF b (bgn l k) (at0 l k))] 27)).grown hgrow (fun e => by have := (own_lt HBO3.out.r e.symm).1; omega)); have d1 := RO2.out.cell 1 (v := vr) rfl; rw [HVR.out] at d1; have f1 := RO2.out.free 1; clear hown' hgrow hat c1))
        have hr : rightI b l k = true := by rw [HRT.out]; simp
        exact ⟨(((HKA.out.after KQ.out.b).alloc _).trans (grown_keeps HG.out (fun g hg => .inr ⟨(own_lt HBO3.out.r hg).1, HBO3.out.nr g hg⟩))).setCell (.inl (.inl rfl)) _, hn1, _, vh, RO2.out.set 1 _, HBO3.out.right hr (KQ.out.b.alloc KQ.out.b.size _) (fun m hm => by have := (hOw m hm).2; omega) (by omega) HO2.out HG.out HAT.out 1 _⟩
  case done =>
    rintro O B ⟨hn1, vr, vh, hE, hbo⟩ hO hkeep hsz hDef
    obtain ⟨pr, cr, hvr⟩ := owns_slice hbo.r
    obtain ⟨ph, ch, hvh⟩ := owns_slice hbo.h
    subst hvr
    subst hvh
    have RBB := Lib.hid (RD.out.keeps hkeep (by omega))
    have HKE := Lib.hid hkeep
    have HDF := Lib.hid hDef
    have HEE := Lib.hid hE
    have HBO := Lib.hid hbo
    have e0 := hE.cell 0 (v := .slice q l.length cq) rfl
    have e1 := hE.cell 1 (v := .slice pr (rightTo b l l.length).length cr) rfl
    have e2 := hE.cell 2 (v := .slice ph (handTo b l l.length).length ch) rfl
    have d0 := RBB.out.cell 0 (v := .slice none 0 0) rfl
    have d1 := RBB.out.cell 1 (v := .slice none 0 0) rfl
    have d2 := RBB.out.cell 2 (v := .slice none 0 0) rfl
    have f0 := RBB.out.free 0
    have f1 := RBB.out.free 1
    have f2 := RBB.out.free 2
    have hzB := hE.lt
    clear hkeep hDef hE hbo
    go_wp2
    have q0 := ((RBB.out.set 0 (.slice q l.length cq)).set 1 (.slice pr (rightTo b l l.length).length cr)).set 2 (.slice ph (handTo b l l.length).length ch)
    have q0 : Row (((B.setCell ⟨w.heap.size + 1, 0, none⟩ (.slice q l.length cq)).setCell ⟨w.heap.size + 1, 1, none⟩ (.slice pr (rightTo b l l.length).length cr)).setCell ⟨w.heap.size + 1, 2, none⟩ (.slice ph (handTo b l l.length).length ch)) (w.heap.size + 1) (outA q l.length cq pr (rightL b l).length cr ph (handL b l).length ch) 90 := q0
    have k0 : KeepsBut (fun m => m = w.heap.size + 1) B (((B.setCell ⟨w.heap.size + 1, 0, none⟩ (.slice q l.length cq)).setCell ⟨w.heap.size + 1, 1, none⟩ (.slice pr (rightTo b l l.length).length cr)).setCell ⟨w.heap.size + 1, 2, none⟩ (.slice ph (handTo b l l.length).length ch)) :=
      (set_keeps _ _ _ _).trans ((set_keeps _ _ _ _).trans (set_keeps _ _ _ _))
    generalize (((B.setCell ⟨w.heap.size + 1, 0, none⟩ (.slice q l.length cq)).setCell ⟨w.heap.size + 1, 1, none⟩ (.slice pr (rightTo b l l.length).length cr)).setCell ⟨w.heap.size + 1, 2, none⟩ (.slice ph (handTo b l l.length).length ch)) = B1 at *
    have hDC := (k0.block w4.heap.size (by omega) (by omega)).trans HDF.out
    have hzk := k0.size
    have hmk : Marks w.heap.size [{ target := .collected w4.heap.size, args := #[] }] B1 := ⟨⟨_, rfl, by omega, hDC, by simp⟩, trivial⟩
    refine marks_leave hmk (fun B2 hB2 => ?_)
    have hrest : ∀ g cur e, B1.heap[g]? = some (Obj.cells cur e (0, 0)) → B2.heap[g]? = B1.heap[g]? := fun g cur e h => hB2.rest _ (fun o h' => by rw [h] at h'; cases h')
    have q1 : Row B2 (w.heap.size + 1) (outA q l.length cq pr (rightL b l).length cr ph (handL b l).length ch) 90 := by
      have := q0
      unfold Row at this ⊢
      rw [hrest _ _ _ this]
      exact this
    have hr2 := owns_same (owns_keeps HBO.out.r k0 (fun g hg e => by have := (own_lt HBO.out.r hg).1; omega)) (fun g cur h => hrest g cur _ h)
    have hh2 := owns_same (owns_keeps HBO.out.h k0 (fun g hg e => by have := (own_lt HBO.out.h hg).1; omega)) (fun g cur h => hrest g cur _ h)
    obtain ⟨p1, c1, h1, hds⟩ := hds_of_owns (hs := rightTo b l l.length) hr2
    obtain ⟨p2, c2, h2, hin, _⟩ := ints_of_owns (xs := handTo b l l.length) hh2
    cases h1
    cases h2
    refine ⟨_, results_cell_row Try.results99 _ _ _ _ (outA q l.length cq pr (rightL b l).length cr ph (handL b l).length ch) _ _ rfl q1 Try.underlying90 rfl (by kernel_rfl), ?_⟩
    exact ⟨_, _, _, _, rfl, hds, hin, fun g o e => by have := (own_lt hr2 (g := g) (by rw [e]; rfl)).1; omega, fun g o e => by have := (own_lt hh2 (g := g) (by rw [e]; rfl)).1; omega, (below_keep (below_keep HB4.out HKE.out (by omega) (fun m hm => by omega)) k0 (by omega) (fun m hm => by omega)).trans hB2.below⟩
  case stop =>
    intro cc O B h
    exact h.elim
end Go.Proofs.Ytgdidhbomdfcpaa
