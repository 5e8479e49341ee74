/- The walks of layer 1: the ribbon of a valid log, with what it lies on; what is asked of a cutting. -/
import Derived.Test.YtnnlbbmimdohoaaT
namespace Go.Proofs.Ytnnlbbmimdohoaa
open Go.RowKit Go.Maps
attribute [local go_sem] Oper.semAt_some

/-- A log lies in memory. -/
structure LogAt (w : World) (p1 p2 : Option Addr) (long : List Int) (ks : List K4) : Prop where
  l : IntsAt w p1 long
  k : KnotsAt w p2 ks
  b1 : long.length < 2 ^ 62
  b2 : ks.length < 2 ^ 62
theorem LogAt.below {w w' : World} {p1 p2 : Option Addr} {long : List Int} {ks : List K4} (h : LogAt w p1 p2 long ks) (hb : Below w.heap.size w w') : LogAt w' p1 p2 long ks := ⟨h.l.below hb, h.k.below hb, h.b1, h.b2⟩

/-- The ribbon of a log. -/
structure RibOf (R : Rib) (p1 : Option Addr) (c1 : Nat) (p2 : Option Addr) (c2 : Nat) (long : List Int) (sz : Int) (ks : List K4) : Prop where
  p1 : R.p1 = p1
  c1 : R.c1 = c1
  p2 : R.p2 = p2
  n2 : R.n2 = ks.length
  c2 : R.c2 = c2
  sz : R.sz = sz
  s : R.s = (rb long).s
  wide : R.wide = psum long long.length
  ok : RibOk R long
/-- What the ribbon lies on: its map, its knots, its turns. -/
structure RibAt (w : World) (R : Rib) (long : List Int) (ks : List K4) (mb nn : Nat) (f : Int → Int → Option (List Bool)) : Prop where
  e : R.mb = some mb
  m : MapIs w mb nn f
  t : Trails R long ks f
  k : KnotsAt w R.p2 ks
  l : IntsAt w R.p1 long
theorem RibAt.below {w w' : World} {R : Rib} {long : List Int} {ks : List K4} {mb nn : Nat} {f : Int → Int → Option (List Bool)} (h : RibAt w R long ks mb nn f) (hb : Below w.heap.size w w') : RibAt w' R long ks mb nn f :=
  ⟨h.e, h.m.of_same (hb.block _ h.m.lt), h.t, h.k.below hb, h.l.below hb⟩

theorem unroll_of (p1 : Option Addr) (c1 : Nat) (p2 : Option Addr) (c2 : Nat) (long : List Int) (sz : Int) (ks : List K4) (w : World) (h : LogAt w p1 p2 long ks) (hv : LogOk long sz ks) :
    Calls Try.prog 56 #[.agg #[.slice p1 long.length c1, .int .i64 sz, .slice p2 ks.length c2]] w fun e w' => ∃ R mb nn f, e = .returned (.agg R.A) ∧ RibOf R p1 c1 p2 c2 long sz ks ∧ RibAt w' R long ks mb nn f ∧ Below w.heap.size w w' := by
  refine (unroll_any p1 c1 p2 c2 long sz ks w hv.L h.l h.k hv.ok hv.k3).mono ?_
  rintro e w' ⟨mb, nn, f, rfl, hm, ht, hb⟩
  exact ⟨_, mb, nn, f, rfl, ⟨rfl, rfl, rfl, rfl, rfl, rfl, rfl, rfl, rib_ok hv.L⟩, ⟨rfl, hm, ht, h.k.below hb, h.l.below hb⟩, hb⟩

theorem reach_of {R : Rib} {p1 : Option Addr} {c1 : Nat} {p2 : Option Addr} {c2 : Nat} {long : List Int} {sz : Int} {ks : List K4} {mb nn : Nat} {f : Int → Int → Option (List Bool)} (hR : RibOf R p1 c1 p2 c2 long sz ks) (hv : LogOk long sz ks) (w : World) (hA : RibAt w R long ks mb nn f) :
    Calls Try.prog 68 #[.agg R.A, .slice p2 ks.length c2] w fun e w' => e = .returned (cols (reachD long ks)) ∧ Below w.heap.size w w' := by
  have h := reach_any R long hR.ok.s6 p2 c2 ks w (by have := hA.k; rw [hR.p2] at this; exact this) hv.ok hv.k3 mb nn f hA.e hA.m hA.t
  rw [reachL_s (R' := rb long) hR.s] at h
  exact h

theorem alloc_setRow (w : World) (old cs : Array Value) (t : TypeId) : (w.alloc (.cells old t)).setRow w.heap.size cs = w.alloc (.cells cs t) := by
  have e : (w.heap.push (Obj.cells old t)).modify w.heap.size (fun x => match x with | Obj.cells c elem frozen => Obj.cells cs elem frozen | o => o) = w.heap.push (Obj.cells cs t) := by
    apply Array.ext
    · simp
    · intro i h1 h2
      rw [Array.getElem_modify]
      simp only [Array.size_push] at h2
      by_cases hi : i = w.heap.size
      · subst hi; simp
      · rw [if_neg (Ne.symm hi), Array.getElem_push_lt (by omega), Array.getElem_push_lt (by omega)]
  show ({ heap := _, tape := w.tape, drawn := w.drawn, os := w.os, output := w.output } : World) = { heap := _, tape := w.tape, drawn := w.drawn, os := w.os, output := w.output }
  congr 1
/-- A new variable gets its value. -/
theorem store_new {P : Program} {ops : Array Oper} {rest : List Oper} {op : Oper} {a : Act} {w : World} {Q : Exit → Act → World → Prop} (hgd : op.guard = none) (ty : TypeId) (x y : Operand) (ho : op.op = .store ty x y)
    (cs old : Array Value) (t : TypeId) (hx : a.eval x = .pointer (some ⟨w.heap.size, 0, none⟩)) (hy : a.eval y = .agg cs)
    (hi : (P.info? ty).map (·.size) = some cs.size) (hold : old.size = cs.size) (h1 : cs.all (·.oneCell') = true)
    (h : wpList P ops Q rest (a.put op.dst undef) (w.alloc (.cells cs t))) : wpList P ops Q (op :: rest) a (w.alloc (.cells old t)) :=
  store_row hgd ty x y ho w.heap.size cs old t hx hy (Row.new _ _ _) hi hold h1 (by rw [alloc_setRow]; exact h)

theorem isCut_of {R : Rib} {p1 : Option Addr} {c1 : Nat} {p2 : Option Addr} {c2 : Nat} {long : List Int} {sz : Int} {ks : List K4} (hR : RibOf R p1 c1 p2 c2 long sz ks) (hv : LogOk long sz ks) (p : Option Addr) (c : Nat) (cut : List Int) (w : World) (hn : cut.length ≤ maxLen) (hc : IntsAt w p cut) :
    Calls Try.prog 64 #[.agg R.A, .slice p cut.length c] w fun e w' => e = .returned (.bool (cutOk sz (psum long long.length) 0 cut)) ∧ Below w.heap.size w w' := by
  have hw := wideN_eq hv.L
  have h := isCut_any R (by rw [hR.wide]; omega) (by rw [hR.wide]; omega) (by rw [hR.sz]; exact hv.s1) (by rw [hR.sz]; exact hv.s6) p c cut w hn hc
  rw [hR.sz, hR.wide] at h
  exact h

theorem RibAt.drew {w : World} {R : Rib} {long : List Int} {ks : List K4} {mb nn : Nat} {f : Int → Int → Option (List Bool)} (h : RibAt w R long ks mb nn f) : RibAt w.drew R long ks mb nn f := ⟨h.e, h.m, h.t, h.k, h.l⟩
theorem wholesD_length (long : List Int) (sz : Int) (kn : List Bool) : (wholesD long sz kn).length = 72 := wholeL_length _ _ _
section
variable {R : Rib} {p1 : Option Addr} {c1 : Nat} {p2 : Option Addr} {c2 : Nat} {long : List Int} {sz : Int} {ks : List K4}
theorem knife_of (hR : RibOf R p1 c1 p2 c2 long sz ks) (hv : LogOk long sz ks) (kn : List Bool) (hk : kn.length = 72) (w : World) :
    Calls Try.prog 67 #[.agg R.A, cols kn] w fun e w' => e = .returned (knifeV (wideN long) sz.toNat (wholesD long sz kn)) ∧ Below w.heap.size w w' := by
  have hw := wideN_eq hv.L
  have h1 := hv.s1
  have h6 := hv.s6
  have h := knife_any R sz.toNat hR.ok.s6 (by rw [hR.sz]; omega) (by omega) (by omega) (by rw [hR.wide]; omega) (by rw [hR.wide]; omega) kn hk w
  rw [hR.wide] at h
  rw [hw.1]
  exact h
theorem cut_of (hv : LogOk long sz ks) (c : List Bool) (hc : c.length = 72) (w : World) :
    Calls Try.prog 74 #[knifeV (wideN long) sz.toNat c] w (GaveInts (cutL c sz.toNat (wideN long) 0) w) := by
  have hw := wideN_eq hv.L
  have h1 := hv.s1
  have h6 := hv.s6
  exact cut_any _ _ (by omega) (by omega) hw.2.1 c hc w
theorem pieces_of (hR : RibOf R p1 c1 p2 c2 long sz ks) (hv : LogOk long sz ks) (kn : List Bool) (hk : kn.length = 72) (w : World) :
    Calls Try.prog 76 #[.agg R.A, cols kn] w fun e w' => e = .returned (.int .i64 ((cutD long sz kn).length : Nat)) ∧ Below w.heap.size w w' := by
  have hw := wideN_eq hv.L
  have h1 := hv.s1
  have h6 := hv.s6
  have h := pieces_any R sz.toNat (wideN long) hR.ok.s6 (by rw [hR.sz]; omega) (by omega) (by omega) (by rw [hR.wide]; omega) hw.2.1 kn hk w
  rw [hR.wide] at h
  exact h
theorem cutD_short (hv : LogOk long sz ks) (kn : List Bool) : ((cutD long sz kn).length : Int) ≤ 72 := by
  have hw := wideN_eq hv.L
  have h1 := hv.s1
  have := cutL_length (c := wholesD long sz kn) (sz := sz.toNat) (wide := wideN long) (by omega) (wideN long + 1) 0 (by omega)
  unfold cutD
  omega
theorem count_of (hv : LogOk long sz ks) (c : List Bool) (hc : c.length = 72) (p : Option Addr) (cc : Nat) (cut : List Int) (w : World) (hn : cut.length ≤ maxLen) (hi : IntsAt w p cut) (hcut : cutOk sz (psum long long.length) 0 cut = true) :
    Calls Try.prog 69 #[knifeV (wideN long) sz.toNat c, .slice p cut.length cc] w fun e w' => e = .returned (.int .i64 (countL c cut)) ∧ Below w.heap.size w w' := by
  have hw := wideN_eq hv.L
  have h1 := hv.s1
  exact count_any _ _ c hc p cc cut w hn hi (cutOk_at (by omega) hcut (by omega) h1)
end
theorem MapIs.ne {w : World} {mb n : Nat} {f : Int → Int → Option (List Bool)} {b : Nat} {cs : Array Value} {t : TypeId} (h : MapIs w mb n f) (hr : Row w b cs t) : mb ≠ b := by
  intro e
  subst e
  obtain ⟨D, ⟨es, clock, hb, _⟩, _⟩ := h
  unfold Row at hr
  rw [hb] at hr
  cases hr

/-- The same in a round. -/
theorem store_newIn {F : Fence} {n : Nat} {P : Program} {ops : Array Oper} {rest : List Oper} {op : Oper} {a : Act} {w : World} {Q : Exit → Act → World → Prop} (hgd : op.guard = none) (ty : TypeId) (x y : Operand) (ho : op.op = .store ty x y)
    (cs old : Array Value) (t : TypeId) (hx : a.eval x = .pointer (some ⟨w.heap.size, 0, none⟩)) (hy : a.eval y = .agg cs)
    (hi : (P.info? ty).map (·.size) = some cs.size) (hold : old.size = cs.size) (h1 : cs.all (·.oneCell') = true)
    (h : wpListIn F n P ops Q rest (a.put op.dst undef) (w.alloc (.cells cs t))) : wpListIn F n P ops Q (op :: rest) a (w.alloc (.cells old t)) :=
  wpListIn_plain hgd fun K hK => by
    refine ⟨fun f hf => by simp [Oper.about, ho] at hf, ?_⟩
    rw [Oper.semAt_eq _ _ _ (by intro c hc; rw [ho] at hc; cases hc)]
    unfold execOp
    simp only [ho, hx, hy, Instr.storeAt, Instr.sureAddr, Sem.run_bind, Sem.run_pure, Result.andThen_ok, run_storeVar_row (w.alloc (.cells old t)) w.heap.size t ty old cs (Row.new _ _ _) hi hold h1]
    rw [alloc_setRow]
    exact hK _ _ h

theorem truthsL_length (R : Rib) (long : List Int) : ∀ (ks : List K4) (acc : List Bool), acc.length = 72 → ∀ kn ∈ truthsL R long ks acc, kn.length = 72
  | [], acc, h, kn, hm => by rw [truthsL, List.mem_singleton] at hm; rw [hm]; exact h
  | k :: ks, acc, h, kn, hm => by
    rw [truthsL, List.mem_flatMap] at hm
    obtain ⟨q, _, hq⟩ := hm
    exact truthsL_length R long ks _ (orL_length h (trailL_length _ _ _ _)) kn hq
theorem truths_of {R : Rib} {p1 : Option Addr} {c1 : Nat} {p2 : Option Addr} {c2 : Nat} {long : List Int} {sz : Int} {ks : List K4} {mb nn : Nat} {f : Int → Int → Option (List Bool)} (hR : RibOf R p1 c1 p2 c2 long sz ks) (hv : LogOk long sz ks) (b : Nat) (W : World) (hr : Row W b R.A 76) (hA : RibAt W R long ks mb nn f) :
    IterAt Try.prog 85 #[.pointer (some ⟨b, 0, none⟩)] (readsR R ks b mb) ((truthsD long ks).map fun c => #[cols c]) W := by
  have h := truths1_iter R long ks hR.ok.s6 hR.n2 hv.k3 hv.ok b mb nn f hA.e hA.t W hr hA.m hA.k
  rw [show truthsOf R long ks = truthsD long ks from truthsL_s hR.s long ks _] at h
  exact h
theorem truthsD_length {long : List Int} {ks : List K4} {kn : List Bool} (h : kn ∈ truthsD long ks) : kn.length = 72 := truthsL_length _ _ _ _ (by simp) kn h
/-- What the rounds read is none of the caller's new variables. -/
theorem not_reads {R : Rib} {long : List Int} {ks : List K4} {mb nn : Nat} {f : Int → Int → Option (List Bool)} {w w0 : World} {b m : Nat} {cs : Array Value} {t : TypeId} (hA : RibAt w R long ks mb nn f) (hr : Row w m cs t) (hb : m ≠ b) (hk : KnotsAt w0 R.p2 ks) (hm : w0.heap.size ≤ m) : ¬ readsR R ks b mb m := by
  rintro (e | e | ⟨hne, o, e⟩)
  · exact hb e
  · exact hA.m.ne hr e.symm
  · obtain ⟨b', o', hp, h0, _⟩ := hk 0 (List.length_pos_iff.2 hne)
    rw [e] at hp
    cases hp
    have := cell_block h0
    dsimp only at this
    omega

theorem not_reads_new {R : Rib} {long : List Int} {ks : List K4} {mb nn : Nat} {f : Int → Int → Option (List Bool)} {w : World} {b m : Nat} {cs : Array Value} {t : TypeId} (hA : RibAt w R long ks mb nn f) (hr : Row w b cs t) (hm : w.heap.size ≤ m) : ¬ readsR R ks b mb m := by
  have h1 := hA.m.lt
  have h2 := hr.lt
  rintro (e | e | ⟨hne, o, e⟩)
  · omega
  · omega
  · obtain ⟨b', o', hp, h0, _⟩ := hA.k 0 (List.length_pos_iff.2 hne)
    rw [e] at hp
    cases hp
    have := cell_block h0
    dsimp only at this
    omega
theorem map_at {l : List (List Bool)} {j : Nat} {x : Array Value} (h : (l.map fun c => #[cols c])[j]? = some x) : ∃ kn, l[j]? = some kn ∧ x = #[cols kn] := by
  rw [List.getElem?_map] at h
  cases hq : l[j]? with
  | none => rw [hq] at h; cases h
  | some q => rw [hq] at h; cases h; exact ⟨q, rfl, rfl⟩

theorem results_cell_two {P : Program} {fn : Func} {p q : Tmp} {ty : TypeId} (h : fn.results = #[.cell p ty, .tmp q]) (tmps : Array Value) (w : World) (g : Nat) (t : TypeId) (cs : Array Value) (fr : Nat × Nat) (d : TypeDesc) (v2 : Value)
    (hp : tmps.getD p undef = .pointer (some ⟨g, 0, none⟩)) (hq : tmps.getD q undef = v2) (hg : w.heap[g]? = some (.cells cs t fr))
    (hu : P.underlying ty = some d) (hd : (match d with | .struct _ | .array _ _ => true | _ => false) = true) (hi : (P.info? ty).map (·.size) = some cs.size) :
    (results fn tmps).run P w = .ok (.tuple #[.agg cs, v2]) w := by
  have hp' : tmps[p]?.getD undef = .pointer (some ⟨g, 0, none⟩) := by simpa using hp
  have hq' : tmps[q]?.getD undef = v2 := by simpa using hq
  simp [results, h, hp', hq', asAddr, run_loadVar_row w g t ty cs fr d hg hu hd hi]

abbrev zero76 : Array Value := #[.slice none 0 0, .int .i64 0, .slice none 0 0, .int .i64 0, .int .i64 0, .int .i64 0, .int .i64 0, .int .i64 0, .int .i64 0, .int .i64 0, .map none]
theorem zero76_size : (Try.prog.info? 76).map (·.size) = some zero76.size := by kernel_rfl
theorem zero76_one : zero76.all (·.oneCell') = true := by kernel_rfl

set_option maxRecDepth 10000 in
set_option maxHeartbeats 800000 in
theorem ask_bad (p1 : Option Addr) (c1 : Nat) (p2 : Option Addr) (c2 : Nat) (long : List Int) (sz : Int) (ks : List K4) (w : World) (h : LogAt w p1 p2 long ks) (hv : validB long sz ks = false) (pc : Option Addr) (nc cc : Nat) :
    Calls Try.prog 66 #[.agg #[.slice p1 long.length c1, .int .i64 sz, .slice p2 ks.length c2], .slice pc nc cc] w fun e w' => e = .returned (.tuple #[.agg zero76, .int .i64 10]) ∧ Below w.heap.size w w' := by
  go_enter Try.func66, Try.ntmps66
  have hba := (below_alloc w (.cells #[.slice p1 long.length c1, .int .i64 sz, .slice p2 ks.length c2] 25)).alloc (Nat.le_of_lt (by simp)) (.cells zero76 76)
  have r1 : Row _ (w.heap.size + 1) zero76 76 := Row.new' (w := w.alloc (.cells #[.slice p1 long.length c1, .int .i64 sz, .slice p2 ks.length c2] 25)) (by simp) _ _
  have HC := Lib.hid (check_any p1 c1 p2 c2 long sz ks _ (h.l.below hba) (h.k.below hba) h.b1 h.b2)
  clear h
  go_wp2_with (first | (refine HC.out.mono ?_; rw [checkE, hv]; rintro e w2 ⟨rfl, hb3⟩; have R1 := Lib.hid (r1.below hb3 (by simp)); have HB := Lib.hid (hba.trans (hb3.mono (by simp; omega))); clear hb3 hba r1) | (refine store_row rfl 76 _ _ rfl _ zero76 zero76 76 rfl rfl R1.out zero76_size rfl zero76_one ?_))
  have hr2 := R1.out.setRow zero76
  exact bodyPost_ret (v := .tuple #[.agg zero76, .int .i64 10]) (results_cell_two Try.results66 _ _ _ _ _ _ _ _ rfl rfl hr2 Try.underlying76 rfl zero76_size) rfl ⟨rfl, below_setRow HB.out (by omega) _⟩

set_option maxRecDepth 10000 in
set_option maxHeartbeats 800000 in
theorem ask_good (p1 : Option Addr) (c1 : Nat) (p2 : Option Addr) (c2 : Nat) (long : List Int) (sz : Int) (ks : List K4) (w : World) (h : LogAt w p1 p2 long ks) (hv : validB long sz ks = true) (pc : Option Addr) (cut : List Int) (cc : Nat) (hc : IntsAt w pc cut) (hn : cut.length ≤ maxLen) :
    Calls Try.prog 66 #[.agg #[.slice p1 long.length c1, .int .i64 sz, .slice p2 ks.length c2], .slice pc cut.length cc] w fun e w' => Below w.heap.size w w' ∧
      ((cutOk sz (psum long long.length) 0 cut = false ∧ e = .returned (.tuple #[.agg zero76, .int .i64 11])) ∨
        (cutOk sz (psum long long.length) 0 cut = true ∧ ∃ R mb nn f, e = .returned (.tuple #[.agg R.A, .int .i64 0]) ∧ RibOf R p1 c1 p2 c2 long sz ks ∧ RibAt w' R long ks mb nn f)) := by
  have hok := valid_ok hv
  go_enter Try.func66, Try.ntmps66
  have hba := (below_alloc w (.cells #[.slice p1 long.length c1, .int .i64 sz, .slice p2 ks.length c2] 25)).alloc (Nat.le_of_lt (by simp)) (.cells zero76 76)
  have r0 : Row _ w.heap.size #[.slice p1 long.length c1, .int .i64 sz, .slice p2 ks.length c2] 25 := (Row.new w _ _).alloc (.cells zero76 76)
  have r1 : Row _ (w.heap.size + 1) zero76 76 := Row.new' (w := w.alloc (.cells #[.slice p1 long.length c1, .int .i64 sz, .slice p2 ks.length c2] 25)) (by simp) _ _
  have HC := Lib.hid (check_any p1 c1 p2 c2 long sz ks _ (h.l.below hba) (h.k.below hba) h.b1 h.b2)
  have HH := Lib.hid h
  have HI := Lib.hid hc
  clear h hc
  go_wp2_with (first | (refine HC.out.mono ?_; rw [checkE, hv]; rintro e w2 ⟨rfl, hb3⟩; have R0 := Lib.hid (r0.below hb3 (by simp; omega)); have R1 := Lib.hid (r1.below hb3 (by simp)); have HB := Lib.hid (hba.trans (hb3.mono (by simp; omega))); clear hb3 hba r1 r0; have k0 := R0.out.cell 0 (v := .slice p1 long.length c1) rfl; have k1 := R0.out.cell 1 (v := .int .i64 sz) rfl; have k2 := R0.out.cell 2 (v := .slice p2 ks.length c2) rfl; have hz := R1.out.lt) | (refine (unroll_of p1 c1 p2 c2 long sz ks _ (HH.out.below HB.out) hok).mono ?_; rintro e w3 ⟨R, mb, nn, f, rfl, hR, hA, hb4⟩) | (refine store_new rfl 76 _ _ rfl R.A zero76 76 rfl rfl (size76 hR.ok.s6) (by rw [R.size hR.ok.s6]; rfl) R.one ?_) | (refine load_row rfl 76 _ rfl _ rfl 76 _ _ (Row.new _ _ _) Try.underlying76 rfl (size76 hR.ok.s6) ?_))
  have hb5 := ((HB.out.trans (hb4.mono (by omega))).trans ((below_alloc w3 (.cells R.A 76)).mono (by have := hb4.size; omega)))
  have hR1 := (R1.out.below hb4 hz).alloc (.cells R.A 76)
  refine (isCut_of hR hok _ _ _ _ hn ((HI.out.below (HB.out.trans (hb4.mono (by omega)))).below (below_alloc _ _))).mono ?_
  rintro e w4 ⟨rfl, hb6⟩
  have HB := Lib.hid (hb5.trans (hb6.mono (by have := hb4.size; simp; omega)))
  have R1 := Lib.hid (hR1.below hb6 (by have := hb4.size; simp; omega))
  have hRr : Row w4 w3.heap.size R.A 76 := (Row.new _ _ _).below hb6 (by simp)
  have HA := Lib.hid ((hA.below (below_alloc w3 (.cells R.A 76))).below hb6)
  have HR := Lib.hid hRr
  clear hb5 hR1 hb6 hRr k0 k1 k2 hA HC
  cases hcut : cutOk sz (psum long long.length) 0 cut
  · have HCUT := Lib.hid hcut
    clear hcut
    go_wp2_with (first | (refine store_row rfl 76 _ _ rfl _ zero76 zero76 76 rfl rfl R1.out zero76_size rfl zero76_one ?_))
    have hr2 := R1.out.setRow zero76
    exact bodyPost_ret (v := .tuple #[.agg zero76, .int .i64 11]) (results_cell_two Try.results66 _ _ _ _ _ _ _ _ rfl rfl hr2 Try.underlying76 rfl zero76_size) rfl ⟨below_setRow HB.out (by omega) _, .inl ⟨by assumption, rfl⟩⟩
  · have HCUT := Lib.hid hcut
    clear hcut
    go_wp2_with (first | (refine load_row rfl 76 _ rfl _ rfl 76 _ _ HR.out Try.underlying76 rfl (size76 hR.ok.s6) ?_) | (refine store_row rfl 76 _ _ rfl _ R.A zero76 76 rfl rfl R1.out (size76 hR.ok.s6) (by rw [R.size hR.ok.s6]; rfl) R.one ?_))
    have hr2 := R1.out.setRow R.A
    refine bodyPost_ret (v := .tuple #[.agg R.A, .int .i64 0]) (results_cell_two Try.results66 _ _ _ _ _ _ _ _ rfl rfl hr2 Try.underlying76 rfl (size76 hR.ok.s6)) rfl ⟨below_setRow HB.out (by omega) _, .inr ⟨by assumption, R, mb, nn, f, rfl, hR, ?_⟩⟩
    have hbb := below_setRow HB.out (show w.heap.size ≤ w.heap.size + 1 by omega) R.A
    exact ⟨HA.out.e, HA.out.m.of_same (_root_.Go.setRow_other _ _ _ _ (HA.out.m.ne R1.out)), HA.out.t, by rw [hR.p2]; exact HH.out.k.below hbb, by rw [hR.p1]; exact HH.out.l.below hbb⟩

theorem ask_no (p1 : Option Addr) (c1 : Nat) (p2 : Option Addr) (c2 : Nat) (long : List Int) (sz : Int) (ks : List K4) (w : World) (h : LogAt w p1 p2 long ks) (hv : validB long sz ks = true) (pc : Option Addr) (cut : List Int) (cc : Nat) (hc : IntsAt w pc cut) (hn : cut.length ≤ maxLen) (hcut : cutOk sz (psum long long.length) 0 cut = false) :
    Calls Try.prog 66 #[.agg #[.slice p1 long.length c1, .int .i64 sz, .slice p2 ks.length c2], .slice pc cut.length cc] w fun e w' => e = .returned (.tuple #[.agg zero76, .int .i64 11]) ∧ Below w.heap.size w w' := by
  refine (ask_good p1 c1 p2 c2 long sz ks w h hv pc cut cc hc hn).mono ?_
  rintro e w' ⟨hb, (⟨_, h⟩ | ⟨h, _⟩)⟩
  · exact ⟨h, hb⟩
  · rw [hcut] at h; cases h
theorem ask_yes (p1 : Option Addr) (c1 : Nat) (p2 : Option Addr) (c2 : Nat) (long : List Int) (sz : Int) (ks : List K4) (w : World) (h : LogAt w p1 p2 long ks) (hv : validB long sz ks = true) (pc : Option Addr) (cut : List Int) (cc : Nat) (hc : IntsAt w pc cut) (hn : cut.length ≤ maxLen) (hcut : cutOk sz (psum long long.length) 0 cut = true) :
    Calls Try.prog 66 #[.agg #[.slice p1 long.length c1, .int .i64 sz, .slice p2 ks.length c2], .slice pc cut.length cc] w fun e w' => ∃ R mb nn f, e = .returned (.tuple #[.agg R.A, .int .i64 0]) ∧ RibOf R p1 c1 p2 c2 long sz ks ∧ RibAt w' R long ks mb nn f ∧ Below w.heap.size w w' := by
  refine (ask_good p1 c1 p2 c2 long sz ks w h hv pc cut cc hc hn).mono ?_
  rintro e w' ⟨hb, (⟨h, _⟩ | ⟨h, R, mb, nn, f, he, hR, hA⟩)⟩
  · rw [hcut] at h; cases h
  · exact ⟨R, mb, nn, f, he, hR, hA, hb⟩

end Go.Proofs.Ytnnlbbmimdohoaa
