/- The walks of layer 5: the best plan. -/
import Derived.Test.YtgdidhbomdfcpaaF22
import Derived.Test.YtgdidhbomdfcpaaF14
import Derived.Test.YtgdidhbomdfcpaaF23
namespace Go.Proofs.Ytgdidhbomdfcpaa
open Go.RowKit Go.Maps
attribute [local go_sem] Oper.semAt_some

/-- The choice behind some plans. -/
def ChoSo (b : Bf) (rk : List Int → Int) (f : Nat) (k : Nat) (N : Nat → Prop) (A : World) (cs : Array Value) : Prop :=
  (bestO rk ((plansB b).take k) = none ∧ cs = choA none 0 0 none 0 0 none 0 0 false f) ∨
  ∃ m q cq pr cr ph ch, bestO rk ((plansB b).take k) = some m ∧ m ∈ plansB b ∧ cs = choA q m.length cq pr (rightL b m).length cr ph (handL b m).length ch true f ∧ IntsOff N A q m ∧ HdsOff N A pr (rightL b m) ∧ IntsOff N A ph (handL b m)
theorem ChoSo.keeps {b : Bf} {rk : List Int → Int} {f k : Nat} {N N' : Nat → Prop} {A B : World} {cs : Array Value} (h : ChoSo b rk f k N A cs) (hk : KeepsBut N A B) (hN : ∀ m, N' m → N m ∨ A.heap.size ≤ m) : ChoSo b rk f k N' B cs := by
  rcases h with h | ⟨m, q, cq, pr, cr, ph, ch, h1, h2, h3, h4, h5, h6⟩
  · exact .inl h
  · exact .inr ⟨m, q, cq, pr, cr, ph, ch, h1, h2, h3, h4.keeps hk hN, h5.keeps hk hN, h6.keeps hk hN⟩
/-- What an outcome that is offered makes of a choice. -/
def Offers (b : Bf) (rk : List Int → Int) (f : Nat) : Prop :=
  ∀ (Z : Nat) (m : List Int) (q : Option Addr) (cq : Nat) (pr : Option Addr) (cr : Nat) (ph : Option Addr) (ch : Nat) (l : List Int) (q' : Option Addr) (cq' : Nat) (pr' : Option Addr) (cr' : Nat) (ph' : Option Addr) (ch' : Nat) (w : World), m ∈ plansB b → l ∈ plansB b →
    Row w Z (choA q m.length cq pr (rightL b m).length cr ph (handL b m).length ch true f) 116 →
    Calls Try.prog 101 #[.pointer (some ⟨Z, 0, none⟩), .agg (outA q' l.length cq' pr' (rightL b l).length cr' ph' (handL b l).length ch')] w
      (Offered Z (if rk l < rk m then choA q' l.length cq' pr' (rightL b l).length cr' ph' (handL b l).length ch' true f else choA q m.length cq pr (rightL b m).length cr ph (handL b m).length ch true f) w)
theorem offers_quicker (b : Bf) (hok : BfOk b) : Offers b (rankQ b) 81 := by
  intro Z m q cq pr cr ph ch l q' cq' pr' cr' ph' ch' w hm hl hr
  have h := offer_quicker Z q m.length cq pr (rightL b m).length cr ph (handL b m).length ch q' l.length cq' pr' (rightL b l).length cr' ph' (handL b l).length ch' w hr (decide (rankQ b l < rankQ b m)) (by
    have h1 := plan_len ((plansB_iff hok.g1 m).1 hm)
    have h2 := plan_len ((plansB_iff hok.g1 l).1 hl)
    have := hok.n8
    unfold rankQ
    split
    · exact decide_eq_decide.2 (by omega)
    · exact decide_eq_decide.2 (by omega))
  simpa using h
theorem offers_surer (b : Bf) : Offers b (rankR b) 83 := by
  intro Z m q cq pr cr ph ch l q' cq' pr' cr' ph' ch' w _ _ hr
  have h := offer_surer Z q m.length cq pr (rightL b m).length cr ph (handL b m).length ch q' l.length cq' pr' (rightL b l).length cr' ph' (handL b l).length ch' w hr (decide (rankR b l < rankR b m)) (by
    unfold rankR
    exact decide_eq_decide.2 (by omega))
  simpa using h
/-- The best outcome is returned. -/
def GaveBest (b : Bf) (rk : List Int → Int) (w : World) (e : Ending) (w' : World) : Prop :=
  ∃ m q cq pr cr ph ch, bestO rk (plansB b) = some m ∧ m ∈ plansB b ∧ e = .returned (.agg (outA q m.length cq pr (rightL b m).length cr ph (handL b m).length ch)) ∧ IntsAt w' q m ∧ HdsAt w' pr (rightL b m) ∧ IntsAt w' ph (handL b m) ∧ Below w.heap.size w w'
set_option maxRecDepth 100000 in
set_option maxHeartbeats 3200000 in
theorem best_any (b : Bf) (p : Option Addr) (c mb : Nat) (f : Nat) (rk : List Int → Int) (w : World) (hB : BkF w p c mb b) (hof : Offers b rk f) :
    Calls Try.prog 80 #[.agg (bkA b p c mb), .func (.func f) #[] #[]] w (GaveBest b rk w) := by
  have HB := Lib.hid hB
  have hn8 := hB.ok.n8
  have HOF := Lib.hid hof
  clear hB hof
  refine calls_marks Try.func80 rfl ?_
  simp only [Try.ntmps80, List.size_toArray, List.length_cons, List.length_nil, Nat.reduceAdd, Nat.reduceSub, Array.replicate_succ, Array.replicate_zero, List.push_toArray, List.append_toArray, List.nil_append, List.cons_append]
  go_wp2_with (first | (go_at_call 100; (refine (plans_any _ _ _ _ _).mono ?_); rintro e w' ⟨rfl, rfl⟩))
  have hb4 : Below w.heap.size w ((((w.alloc (.cells (bkA b p c mb) 79)).alloc (.cells #[.slice none 0 0, .slice none 0 0, .slice none 0 0] 90)).alloc (.cells (choA none 0 0 none 0 0 none 0 0 false f) 116)).alloc (.cells (bkA b p c mb) 79)) := ((below_alloc2 w _ _).alloc (by simp; omega) _).alloc (by simp; omega) _
  have rB := (((Row.new w (bkA b p c mb) 79).alloc (.cells #[.slice none 0 0, .slice none 0 0, .slice none 0 0] 90)).alloc (.cells (choA none 0 0 none 0 0 none 0 0 false f) 116)).alloc (.cells (bkA b p c mb) 79)
  have rD := ((Row.new1 w (.cells (bkA b p c mb) 79) #[.slice none 0 0, .slice none 0 0, .slice none 0 0] 90).alloc (.cells (choA none 0 0 none 0 0 none 0 0 false f) 116)).alloc (.cells (bkA b p c mb) 79)
  have rE := (Row.new2 w (.cells (bkA b p c mb) 79) (.cells #[.slice none 0 0, .slice none 0 0, .slice none 0 0] 90) (choA none 0 0 none 0 0 none 0 0 false f) 116).alloc (.cells (bkA b p c mb) 79)
  have rN := Row.new' (w := (((w.alloc (.cells (bkA b p c mb) 79)).alloc (.cells #[.slice none 0 0, .slice none 0 0, .slice none 0 0] 90)).alloc (.cells (choA none 0 0 none 0 0 none 0 0 false f) 116))) (n := w.heap.size + 1 + 1 + 1) (by simp) (bkA b p c mb) 79
  have hs4 : ((((w.alloc (.cells (bkA b p c mb) 79)).alloc (.cells #[.slice none 0 0, .slice none 0 0, .slice none 0 0] 90)).alloc (.cells (choA none 0 0 none 0 0 none 0 0 false f) 116)).alloc (.cells (bkA b p c mb) 79)).heap.size = w.heap.size + 4 := by simp
  change Code.wp _ _ _ _ ((((w.alloc (.cells (bkA b p c mb) 79)).alloc (.cells #[.slice none 0 0, .slice none 0 0, .slice none 0 0] 90)).alloc (.cells (choA none 0 0 none 0 0 none 0 0 false f) 116)).alloc (.cells (bkA b p c mb) 79))
  generalize ((((w.alloc (.cells (bkA b p c mb) 79)).alloc (.cells #[.slice none 0 0, .slice none 0 0, .slice none 0 0] 90)).alloc (.cells (choA none 0 0 none 0 0 none 0 0 false f) 116)).alloc (.cells (bkA b p c mb) 79)) = w4 at *
  have HB4 := Lib.hid hb4
  have RB := Lib.hid rB
  have RD := Lib.hid rD
  have RN := Lib.hid rN
  have hg1 := HB.out.ok.g1
  clear hb4 rB rD rN
  refine range_lawO 109 #[.pointer (some ⟨w.heap.size + 1 + 1 + 1, 0, none⟩)] (fun m => m < w.heap.size ∨ m = w.heap.size + 1 + 1 + 1) (plansB b).length (PlanX b (w4.heap.size + 2)) rfl (fun args w => Try.call109 args w)
    (fun W1 hb hz => plans_iter b p c mb w HB.out _ _ W1 (HB4.out.trans (hb.mono (by omega))) (RN.out.below hb RN.out.lt) (by omega)) (fun k x O A h => by obtain ⟨q, cq, rfl, _⟩ := h; rfl) (fun m => m = w.heap.size + 1 + 1)
    (by rintro m rfl; exact ⟨by omega, by omega⟩) (by omega)
    (fun k O A => ¬ O (w.heap.size + 1 + 1) ∧ ∃ cs, Row A (w.heap.size + 1 + 1) cs 116 ∧ ChoSo b rk f k (fun g => O g ∨ g < w4.heap.size) A cs)
    (fun _ _ _ => False)
    (fun k O O' A B h hb _ hO => by
      obtain ⟨h1, cs, h2, h3⟩ := h
      exact ⟨fun x => (hO _ x).elim h1 (fun y => by have := h2.lt; omega), cs, h2.keeps hb h1, h3.keeps (hb.mono (fun m _ h => .inl h)) (fun m h => by
        rcases h with h | h
        · exact (hO m h).imp .inl id
        · exact .inl (.inr h))⟩)
    (fun _ _ _ _ _ h _ _ _ => h)
    ⟨fun h => h.elim, _, rE, .inl ⟨by simp [bestO], rfl⟩⟩ ?body ?done ?stop
  case body =>
    rintro li k x O O' A rfl hk hx hOO hO hOw hOl ⟨hn1, cs, hE, hcs⟩ hkeep hlA
    obtain ⟨q, cq, rfl, hin, hqO⟩ := hx
    have hlm := plansB_at hk
    obtain ⟨l, hl⟩ : ∃ l, l = (plansB b).getD k [] := ⟨_, rfl⟩
    rw [← hl] at hin hqO hlm ⊢
    have hpl := (plansB_iff hg1 l).1 hlm
    have hll := plan_len hpl
    have HLM := Lib.hid hlm
    have HPL := Lib.hid hpl
    have HSU := Lib.hid (bestO_succ rk (plansB b) hk)
    rw [← hl] at HSU
    have HQO := Lib.hid hqO
    have HIN := Lib.hid hin
    have HK := Lib.hid hkeep
    have HEE := Lib.hid hE
    have HCS := Lib.hid hcs
    have HOO := Lib.hid hO
    have RBA := Lib.hid (RB.out.keeps hkeep (by omega))
    have hszA := hE.lt
    clear hin hqO hlm hpl hkeep hE hcs hOO hO hl
    gi_wp2_with fail
    refine ⟨KeepsBut.refl _ _, fun oo => ?_⟩
    have hk2 : KeepsBut (fun m => m = w4.heap.size + 1) A (A.putObj (w4.heap.size + 1) oo) := (KeepsBut.refl (fun m => m = w4.heap.size + 1) A).putObj (l := w4.heap.size + 1) (.inl rfl) oo
    have RB2 := Lib.hid (RBA.out.keeps hk2 (by omega))
    have RE2 := Lib.hid (HEE.out.keeps hk2 (by omega))
    have HC2 := Lib.hid (HCS.out.keeps (hk2.mono (fun m _ h => by rw [h]; exact .inl hOl)) (N' := fun g => O g ∨ g < w4.heap.size) (fun m h => .inl h))
    have HB2 := Lib.hid (HB.out.below (below_keep (below_keep HB4.out HK.out (by omega) (fun m hm => by omega)) hk2 (by have := HK.out.size; omega) (fun m hm => by omega)))
    have HNQ := Lib.hid (show ∀ g o, 0 < l.length → q = some ⟨g, o, none⟩ → ¬ (O g ∨ g < w4.heap.size) from fun g o h1 h2 => by
      have h3 := HQO.out g o h1 h2
      rintro (h | h)
      · rcases HOO.out g h with h | h | h
        · exact h3.2 h
        · omega
        · omega
      · omega)
    have HI2 := Lib.hid ((HIN.out.off HNQ.out).keeps (hk2.mono (fun m _ h => by rw [h]; exact .inl hOl)) (N' := fun g => O g ∨ g < w4.heap.size) (fun m h => .inl h))
    have hszB : A.heap.size ≤ (A.putObj (w4.heap.size + 1) oo).heap.size := hk2.size
    clear hk2 HIN HEE RBA HCS HK
    change Code.wpIn _ _ _ _ _ _ (A.putObj (w4.heap.size + 1) oo)
    generalize A.putObj (w4.heap.size + 1) oo = A2 at *
    have b0 := RB2.out.cell 0 (v := .int .i64 b.pr) rfl
    have b1 := RB2.out.cell 1 (v := .int .i64 b.le) rfl
    have b2 := RB2.out.cell 2 (v := .int .i64 b.mo) rfl
    have b3 := RB2.out.cell 3 (v := .int .i64 b.gr) rfl
    have b4 := RB2.out.cell 4 (v := .slice p b.hs.length c) rfl
    have b5 := RB2.out.cell 5 (v := .map (some mb)) rfl
    gi_wp2_with fail
    refine inRound_of (by_any b p c mb q cq l A2 HB2.out HI2.out.at (by omega) HPL.out) ?_
    rintro e A3 ⟨pr, cr, ph, ch, rfl, hds, hih, hpr, hph, hb3⟩
    have RE3 := Lib.hid (RE2.out.below hb3 RE2.out.lt)
    have HC3 := Lib.hid (HC2.out.keeps (KeepsBut.of_below (M := fun g => O g ∨ g < w4.heap.size) hb3) (N' := fun g => O g ∨ g < w4.heap.size) (fun m h => .inl h))
    have HI3 := Lib.hid (HI2.out.keeps (KeepsBut.of_below (M := fun g => O g ∨ g < w4.heap.size) hb3) (N' := fun g => O g ∨ g < w4.heap.size) (fun m h => .inl h))
    have HD3 := Lib.hid (hds.off (N := fun g => O g ∨ g < w4.heap.size) (fun g o e h => by have h1 := hpr g o e; rcases h with h | h; (have := (hOw g h).2; omega); omega))
    have HH3 := Lib.hid (hih.off (N := fun g => O g ∨ g < w4.heap.size) (fun g o _ e h => by have h1 := hph g o e; rcases h with h | h; (have := (hOw g h).2; omega); omega))
    have HK3 := Lib.hid (KeepsBut.of_below (M := fun m => m = w.heap.size + 1 + 1) hb3)
    clear hds hih hpr hph hb3 b0 b1 b2 b3 b4 b5
    obtain ⟨cs2, hoffer, hso⟩ : ∃ cs2, Calls Try.prog 101 #[.pointer (some ⟨w.heap.size + 1 + 1, 0, none⟩), .agg (outA q l.length cq pr (rightL b l).length cr ph (handL b l).length ch)] A3 (Offered (w.heap.size + 1 + 1) cs2 A3) ∧ ChoSo b rk f (k + 1) (fun g => O g ∨ g < w4.heap.size) A3 cs2 := by
      rcases HC3.out with ⟨h1, h2⟩ | ⟨m, q', cq', pr', cr', ph', ch', h1, h2, h3, h4, h5, h6⟩
      · refine ⟨_, offer_first (w.heap.size + 1 + 1) none 0 0 none 0 0 none 0 0 q l.length cq pr (rightL b l).length cr ph (handL b l).length ch f A3 (by rw [← h2]; exact RE3.out), .inr ⟨l, q, cq, pr, cr, ph, ch, by rw [HSU.out, h1]; rfl, HLM.out, rfl, HI3.out, HD3.out, HH3.out⟩⟩
      · refine ⟨_, HOF.out (w.heap.size + 1 + 1) m q' cq' pr' cr' ph' ch' l q cq pr cr ph ch A3 h2 HLM.out (by rw [← h3]; exact RE3.out), ?_⟩
        by_cases hlt : rk l < rk m
        · rw [if_pos hlt]
          exact .inr ⟨l, q, cq, pr, cr, ph, ch, by rw [HSU.out, h1]; simp only [pick, if_pos hlt], HLM.out, rfl, HI3.out, HD3.out, HH3.out⟩
        · rw [if_neg hlt]
          exact .inr ⟨m, q', cq', pr', cr', ph', ch', by rw [HSU.out, h1]; simp only [pick, if_neg hlt], h2, rfl, h4, h5, h6⟩
    have HSO := Lib.hid hso
    have HOFF := Lib.hid hoffer
    clear hoffer hso
    gi_wp2_with fail
    refine inRound_of HOFF.out ?_
    rintro e A4 ⟨⟨v, rfl⟩, hrow, hfrom⟩
    have HROW := Lib.hid hrow
    have HFR := Lib.hid hfrom.k
    clear hrow hfrom
    gi_wp2_with fail
    exact ⟨HK3.out.trans HFR.out, hn1, cs2, HROW.out, HSO.out.keeps (HFR.out.mono (fun m _ h => by rw [h]; exact .inr (by omega))) (fun m h => .inl h)⟩
  case done =>
    rintro O B ⟨hn1, cs, hE, hcs⟩ hO hkeep hsz hDef
    obtain ⟨j, _, hj, _⟩ := bestO_least rk (plansB b) (plansB b).length (Nat.le_refl _) (plansB_pos hg1)
    rcases hcs with ⟨h1, _⟩ | ⟨m, q, cq, pr, cr, ph, ch, h1, h2, rfl, h4, h5, h6⟩
    · rw [h1] at hj; cases hj
    rw [List.take_length] at h1
    have H1 := Lib.hid h1
    have H2 := Lib.hid h2
    have H4 := Lib.hid h4
    have H5 := Lib.hid h5
    have H6 := Lib.hid h6
    have RBB := Lib.hid (RD.out.keeps hkeep (by omega))
    have HKE := Lib.hid hkeep
    have HDF := Lib.hid hDef
    have HEE := Lib.hid hE
    have e0 := hE.cell 0 (v := .slice q m.length cq) rfl
    have e1 := hE.cell 1 (v := .slice pr (rightL b m).length cr) rfl
    have e2 := hE.cell 2 (v := .slice ph (handL b m).length ch) rfl
    have d0 := RBB.out.cell 0 (v := .slice none 0 0) rfl
    have d1 := RBB.out.cell 1 (v := .slice none 0 0) rfl
    have d2 := RBB.out.cell 2 (v := .slice none 0 0) rfl
    have f0 := RBB.out.free 0
    have f1 := RBB.out.free 1
    have f2 := RBB.out.free 2
    have hzB := hE.lt
    clear hkeep hDef hE h1 h2 h4 h5 h6 hj
    go_wp2
    have q0 := ((RBB.out.set 0 (.slice q m.length cq)).set 1 (.slice pr (rightL b m).length cr)).set 2 (.slice ph (handL b m).length ch)
    have q0 : Row (((B.setCell ⟨w.heap.size + 1, 0, none⟩ (.slice q m.length cq)).setCell ⟨w.heap.size + 1, 1, none⟩ (.slice pr (rightL b m).length cr)).setCell ⟨w.heap.size + 1, 2, none⟩ (.slice ph (handL b m).length ch)) (w.heap.size + 1) (outA q m.length cq pr (rightL b m).length cr ph (handL b m).length ch) 90 := q0
    have k0 : KeepsBut (fun m => m = w.heap.size + 1) B (((B.setCell ⟨w.heap.size + 1, 0, none⟩ (.slice q m.length cq)).setCell ⟨w.heap.size + 1, 1, none⟩ (.slice pr (rightL b m).length cr)).setCell ⟨w.heap.size + 1, 2, none⟩ (.slice ph (handL b m).length ch)) :=
      (set_keeps _ _ _ _).trans ((set_keeps _ _ _ _).trans (set_keeps _ _ _ _))
    generalize (((B.setCell ⟨w.heap.size + 1, 0, none⟩ (.slice q m.length cq)).setCell ⟨w.heap.size + 1, 1, none⟩ (.slice pr (rightL b m).length cr)).setCell ⟨w.heap.size + 1, 2, none⟩ (.slice ph (handL b m).length ch)) = B1 at *
    have hDC := (k0.block w4.heap.size (by omega) (by omega)).trans HDF.out
    have hzk := k0.size
    have hmk : Marks w.heap.size [{ target := .collected w4.heap.size, args := #[] }] B1 := ⟨⟨_, rfl, by omega, hDC, by simp⟩, trivial⟩
    refine marks_leave hmk (fun B2 hB2 => ?_)
    have hrest : ∀ g : Nat, (∀ o, B1.heap[g]? ≠ some (Obj.deferred o)) → B2.heap[g]? = B1.heap[g]? := fun g h => hB2.rest g h
    have q1 : Row B2 (w.heap.size + 1) (outA q m.length cq pr (rightL b m).length cr ph (handL b m).length ch) 90 := by
      have := q0
      unfold Row at this ⊢
      rw [hrest _ (fun o h => by rw [h] at this; cases this)]
      exact this
    have kN : KeepsBut (fun g => O g ∨ g < w4.heap.size) B B1 := k0.mono (fun m _ h => by rw [h]; exact .inr (by omega))
    refine ⟨_, results_cell_row Try.results80 _ _ _ _ (outA q m.length cq pr (rightL b m).length cr ph (handL b m).length ch) _ _ rfl q1 Try.underlying90 rfl (by kernel_rfl), ?_⟩
    exact ⟨m, q, cq, pr, cr, ph, ch, H1.out, H2.out, rfl, (H4.out.keeps kN (N' := fun g => O g ∨ g < w4.heap.size) (fun m h => .inl h)).at.same hrest, (H5.out.keeps kN (N' := fun g => O g ∨ g < w4.heap.size) (fun m h => .inl h)).at.same hrest, (H6.out.keeps kN (N' := fun g => O g ∨ g < w4.heap.size) (fun m h => .inl h)).at.same hrest,
      (below_keep (below_keep HB4.out HKE.out (by omega) (fun m hm => by omega)) k0 (by omega) (fun m hm => by omega)).trans hB2.below⟩
  case stop =>
    intro cc O B h
    exact h.elim
end Go.Proofs.Ytgdidhbomdfcpaa
