/- The law's own helper of layer 1: how few pieces the best cutting has, at the worst, once a knot is found. -/
import Derived.Test.YtnnlbbmimdohoaaT67
import Derived.Test.YtnnlbbmimdohoaaP25
import Derived.Deep.RegionHeld3
import Derived.Deep.DeepCutAuto
import Derived.Deep.CutRange
namespace Go.Proofs.Ytnnlbbmimdohoaa
open Go.RowKit Go.Maps
attribute [local go_sem] Oper.semAt_some

/-- All knots, in a row of the call's own. -/
theorem copy_knots (w : World) (ks : List K4) (b o c2 : Nat) (hks : KnotsAt w (some ⟨b, o, none⟩) ks) (h1 : 0 < ks.length) (h3 : ks.length ≤ 3) (ty : TypeId) (z : Nat) :
    ∃ g cap cur w', (Builtin.append_ #[23, 23] ty #[.slice (some ⟨z, 0, none⟩) 0 0, .slice (some ⟨b, o, none⟩) ks.length c2]).run Try.prog w = .ok (.slice (some ⟨g, 0, none⟩) ks.length cap) w' ∧ Row w' g cur 61 ∧ w.heap.size ≤ g ∧ cur.toList.take (ks.length * 4) = knotVals ks ∧ ks.length ≤ cap ∧ Below w.heap.size w w' := by
  obtain ⟨i0, hi, hi0, hi1, hi2⟩ := info_parts Try.infoKnot
  obtain ⟨v', w', hr, hown, hg⟩ := run_append_arg_grows (P := Try.prog) w 23 ty 61 i0 _ 4 32 Try.underlying23 hi hi0 hi1 hi2 rfl (by decide) ⟨z, 0, none⟩ 0 0 [] rfl (fun j u h => by simp at h)
      ⟨b, o, none⟩ ks.length c2 (knotVals ks) (knotVals_length ks) (fun j u h => by rw [Addr.add_lit]; exact hks.cells j u h) (by omega) (by unfold maxLen; omega) (by omega)
  rw [List.nil_append, Nat.zero_add] at hown
  rcases hown.2 with ⟨_, hn⟩ | ⟨g, cap, cur, hv, hg0, hh, h1, h2, h3, h4⟩
  · omega
  · exact ⟨g, cap, cur, w', by rw [hr, hv], hh, hg0, h4, h1, ⟨hg.os, hg.tape, hg.output, hg.size, fun k hk => hg.block k hk (by simp)⟩⟩
theorem wpList_append_run {P : Program} {ops : Array Oper} {rest : List Oper} {o : Oper} {a : Act} {w w' : World} {Q : Exit → Act → World → Prop} (hgd : o.guard = none) (s x : Operand) (t t' : TypeId) (ho : o.op = Op.call { callee := Callee.builtin Builtin.append, args := #[s, x], argTypes := #[t, t'] }) (vs vx v : Value) (hs : a.eval s = vs) (hx : a.eval x = vx)
    (hr : (Builtin.append_ #[t, t'] o.type #[vs, vx]).run P w = .ok v w') (h : wpList P ops Q rest (a.put o.dst v) w') : wpList P ops Q (o :: rest) a w :=
  wpList_plain hgd fun _ hK => wp_append_run s x t t' ho vs vx v hs hx hr (hK _ _ h)

/-- A knot that is found where a number chooses. -/
def foundP (k : K4) (j : Nat) : Int × Int := (drawn k.al k.ah ((j : Int) % 4), drawn k.fl k.fh ((j : Int) / 4))
def foundK (ks : List K4) (k : Nat) (j : Nat) : List K4 := match ks[k]? with
  | none => ks
  | some x => ks.set k (ptK (foundP x j))
theorem foundK_length (ks : List K4) (k j : Nat) : (foundK ks k j).length = ks.length := by
  unfold foundK
  split <;> simp
theorem found_places {x : K4} (h : K4Ok x) (j : Nat) : foundP x j ∈ placesL x := by
  have h1 := drawn_in (n := (j : Int) % 4) h.a0 h.a (by have := h.a1; omega)
  have h2 := drawn_in (n := (j : Int) / 4) h.f0 h.f (by have := h.f1; omega)
  exact mem_places h1.1 h1.2.1 h2.1 h2.2.1
theorem found_valid {long : List Int} {sz : Int} {ks : List K4} (h : validB long sz ks = true) (k j : Nat) : validB long sz (foundK ks k j) = true := by
  have hv := valid_ok h
  have hl := foundK_length ks k j
  have h0 := h
  simp only [validB, Bool.and_eq_true, decide_eq_true_eq] at h ⊢
  obtain ⟨⟨⟨⟨⟨⟨a, b⟩, c⟩, d⟩, e⟩, f⟩, g⟩ := h
  refine ⟨⟨⟨⟨⟨⟨a, b⟩, c⟩, d⟩, by omega⟩, f⟩, ?_⟩
  unfold foundK
  split
  · exact g
  · rename_i x hx
    have hxm : x ∈ ks := List.mem_of_getElem? hx
    rw [List.all_eq_true] at g ⊢
    intro y hy
    rcases List.mem_or_eq_of_mem_set hy with hy | rfl
    · exact g y hy
    · have hp := places_in (found_places (hv.ok x hxm) j)
      have := (hv.ok x hxm).a0
      have := (hv.ok x hxm).a1
      have := (hv.ok x hxm).f0
      have := hv.fh x hxm
      exact point_kvalid ⟨rfl, rfl, by simp only [ptK]; omega, by simp only [ptK]; omega, by simp only [ptK]; omega, by simp only [ptK]; omega⟩ hv.L.n6
/-- The fewest pieces, of the first such places. -/
def leastI (long : List Int) (sz : Int) (ks : List K4) (k : Nat) : Nat → Int
  | 0 => psum long long.length
  | j + 1 => min (leastI long sz ks k j) ((bestD long sz (foundK ks k j)).length : Int)

/-- What the region keeps. -/
structure WInv (p1 : Option Addr) (c1 : Nat) (long : List Int) (sz : Int) (ks : List K4) (b o c2 g cap l x : Nat) (cur : Array Value) (w0 w : World) : Prop where
  rl : Row w l #[.slice p1 long.length c1, .int .i64 sz, .slice (some ⟨b, o, none⟩) ks.length c2] 25
  rx : Row w x #[.slice p1 long.length c1, .int .i64 sz, .slice (some ⟨g, 0, none⟩) ks.length cap] 25
  rg : Row w g cur 61
  hl : LogAt w0 p1 (some ⟨b, o, none⟩) long ks
  hb : Below w0.heap.size w0 w
  n1 : g ≠ l
  n2 : g ≠ x
  n3 : w0.heap.size ≤ g
section
variable {p1 : Option Addr} {c1 : Nat} {long : List Int} {sz : Int} {ks : List K4} {b o c2 g cap l x : Nat} {cur : Array Value} {w0 w w' : World}
theorem WInv.below (h : WInv p1 c1 long sz ks b o c2 g cap l x cur w0 w) (hb : Below w.heap.size w w') : WInv p1 c1 long sz ks b o c2 g cap l x cur w0 w' :=
  ⟨h.rl.below hb h.rl.lt, h.rx.below hb h.rx.lt, h.rg.below hb h.rg.lt, h.hl, h.hb.trans (hb.mono h.hb.size), h.n1, h.n2, h.n3⟩
theorem WInv.drew (h : WInv p1 c1 long sz ks b o c2 g cap l x cur w0 w) : WInv p1 c1 long sz ks b o c2 g cap l x cur w0 w.drew :=
  ⟨h.rl.drew, h.rx.drew, h.rg.drew, h.hl, h.hb.drew, h.n1, h.n2, h.n3⟩
theorem WInv.set (h : WInv p1 c1 long sz ks b o c2 g cap l x cur w0 w) (i : Nat) (v : Value) : WInv p1 c1 long sz ks b o c2 g cap l x (cur.setIfInBounds i v) w0 (w.setCell ⟨g, i, none⟩ v) :=
  ⟨h.rl.set_other _ _ (fun e => h.n1 e.symm), h.rx.set_other _ _ (fun e => h.n2 e.symm), h.rg.set i v, h.hl, h.hb.setCell h.n3 _, h.n1, h.n2, h.n3⟩
theorem WInv.t (h : WInv p1 c1 long sz ks b o c2 g cap l x cur w0 w) (ht : cur.toList.take (ks.length * 4) = knotVals ks) {k : Nat} (hk : k < ks.length) : w.cell? ⟨g, k * 4, none⟩ = some (.int .i64 ks[k].al) ∧ w.cell? ⟨g, k * 4 + 1, none⟩ = some (.int .i64 ks[k].ah) ∧ w.cell? ⟨g, k * 4 + 2, none⟩ = some (.int .i64 ks[k].fl) ∧ w.cell? ⟨g, k * 4 + 3, none⟩ = some (.int .i64 ks[k].fh) ∧ w.frozen? ⟨g, k * 4, none⟩ = false ∧ w.frozen? ⟨g, k * 4 + 1, none⟩ = false ∧ w.frozen? ⟨g, k * 4 + 2, none⟩ = false ∧ w.frozen? ⟨g, k * 4 + 3, none⟩ = false := by
  obtain ⟨a0, a1, a2, a3⟩ := knotVals_at hk
  have key : ∀ i v, i < ks.length * 4 → (knotVals ks)[i]? = some v → w.cell? ⟨g, i, none⟩ = some v := by
    intro i v hi hv
    refine h.rg.cell i ?_
    rw [← ht, List.getElem?_take_of_lt hi] at hv
    simpa using hv
  exact ⟨key _ _ (by omega) a0, key _ _ (by omega) a1, key _ _ (by omega) a2, key _ _ (by omega) a3, h.rg.free _, h.rg.free _, h.rg.free _, h.rg.free _⟩
theorem WInv.s (h : WInv p1 c1 long sz ks b o c2 g cap l x cur w0 w) {k : Nat} (hk : k < ks.length) : w.cell? ⟨x, 2, none⟩ = some (.slice (some ⟨g, 0, none⟩) ks.length cap) ∧ w.cell? ⟨l, 2, none⟩ = some (.slice (some ⟨b, o, none⟩) ks.length c2) ∧ w.cell? ⟨b, o + k * 4, none⟩ = some (.int .i64 ks[k].al) ∧ w.cell? ⟨b, o + k * 4 + 1, none⟩ = some (.int .i64 ks[k].ah) ∧ w.cell? ⟨b, o + k * 4 + 2, none⟩ = some (.int .i64 ks[k].fl) ∧ w.cell? ⟨b, o + k * 4 + 3, none⟩ = some (.int .i64 ks[k].fh) := by
  obtain ⟨b', o', e, h0, h1, h2, h3⟩ := (h.hl.k.below h.hb) k hk
  cases e
  exact ⟨h.rx.cell 2 rfl, h.rl.cell 2 rfl, h0, h1, h2, h3⟩
theorem knotVals_set : ∀ (ks : List K4) (k : Nat) (q : K4), knotVals (ks.set k q) = ((((knotVals ks).set (k * 4) (.int .i64 q.al)).set (k * 4 + 1) (.int .i64 q.ah)).set (k * 4 + 2) (.int .i64 q.fl)).set (k * 4 + 3) (.int .i64 q.fh)
  | [], _, _ => by simp [knotVals]
  | x :: ks, 0, q => by simp [knotVals, K4.A]
  | x :: ks, k + 1, q => by
    have ih := knotVals_set ks k q
    have e0 : (k + 1) * 4 = k * 4 + 1 + 1 + 1 + 1 := by omega
    rw [List.set_cons_succ]
    simp only [e0]
    simp only [knotVals, List.flatMap_cons, K4.A] at ih ⊢
    simp only [List.cons_append, List.nil_append, List.set_cons_succ]
    rw [ih]
/-- The knots in the row, one of them anew. -/
theorem knots_set {w : World} {k : Nat} {q : K4} (hg : Row w g ((((cur.setIfInBounds (k * 4) (.int .i64 q.al)).setIfInBounds (k * 4 + 1) (.int .i64 q.ah)).setIfInBounds (k * 4 + 2) (.int .i64 q.fl)).setIfInBounds (k * 4 + 3) (.int .i64 q.fh)) 61) (ht : cur.toList.take (ks.length * 4) = knotVals ks) : KnotsAt w (some ⟨g, 0, none⟩) (ks.set k q) := by
  refine knots_of_cells fun i u hi => ?_
  rw [Nat.zero_add]
  refine hg.cell i ?_
  have hlt : i < ks.length * 4 := by
    have := (List.getElem?_eq_some_iff.1 hi).1
    rwa [knotVals_length, List.length_set] at this
  rw [knotVals_set, ← ht, ← List.take_set, ← List.take_set, ← List.take_set, ← List.take_set, List.getElem?_take_of_lt hlt] at hi
  rw [← Array.getElem?_toList]
  simpa using hi
end

set_option maxRecDepth 10000 in
set_option maxHeartbeats 1600000 in
theorem lawworst_any (p1 : Option Addr) (c1 : Nat) (p2 : Option Addr) (c2 : Nat) (long : List Int) (sz : Int) (ks : List K4) (w0 : World) (h : LogAt w0 p1 p2 long ks) (hb : validB long sz ks = true) (k : Nat) (hk : k < ks.length) :
    Calls Try.prog 51 #[.agg #[.slice p1 long.length c1, .int .i64 sz, .slice p2 ks.length c2], .int .i64 k] w0 fun e w' => e = .returned (.int .i64 (leastI long sz ks k 8)) ∧ Below w0.heap.size w0 w' := by
  have hok := valid_ok hb
  have hk3 := hok.k3
  have hn6 := hok.L.n6
  have hlong := total_psum hok.L long.length (Nat.le_refl _)
  rw [List.take_length] at hlong
  have hko := hok.ok ks[k] (List.getElem_mem hk)
  have HKK := Lib.hid (List.getElem?_eq_getElem hk)
  go_enter Try.func51, Try.ntmps51
  have hba := below_alloc w0 (.cells #[.slice p1 long.length c1, .int .i64 sz, .slice p2 ks.length c2] 25)
  have r0 := Row.new w0 #[.slice p1 long.length c1, .int .i64 sz, .slice p2 ks.length c2] 25
  have HH := Lib.hid (h.below hba)
  have HTOT := Lib.hid (show Calls Try.prog 47 #[.slice p1 long.length c1] (w0.alloc (.cells #[.slice p1 long.length c1, .int .i64 sz, .slice p2 ks.length c2] 25)) fun e w' => e = .returned (.int .i64 (psum long long.length)) ∧ (w0.alloc (.cells #[.slice p1 long.length c1, .int .i64 sz, .slice p2 ks.length c2] 25)) = w' from by have h := Total_any p1 c1 long (w0.alloc (.cells #[.slice p1 long.length c1, .int .i64 sz, .slice p2 ks.length c2] 25)) (by unfold maxLen; omega) HH.out.l; rw [hlong] at h; exact h)
  have H0 := Lib.hid h
  clear hlong h
  go_wp2_with (first | (refine HTOT.out.mono ?_; rintro e u ⟨rfl, rfl⟩))
  clear HTOT
  go_loopw [5, 6] (fun m i wr => ∃ j : Nat, j ≤ 8 ∧ i = .int .i64 j ∧ m = .int .i64 (leastI long sz ks k j) ∧ Row wr w0.heap.size #[.slice p1 long.length c1, .int .i64 sz, .slice p2 ks.length c2] 25 ∧ Below w0.heap.size w0 wr ∧ LogAt wr p1 p2 long ks) (fun _ i _ => 8 - (intOf i).toNat)
  case atStart => exact ⟨0, by omega, rfl, rfl, r0, hba, HH.out⟩
  case round =>
    clear hba r0 HH
    obtain ⟨j, hj, rfl, rfl, g0, gb, gl⟩ := hrel
    by_cases hj8 : j < 8
    · have k2 := g0.cell 2 (v := .slice p2 ks.length c2) rfl
      obtain ⟨b, o, rfl, _⟩ := gl.k k hk
      have hcp := fun w hw z => copy_knots w ks b o c2 hw (by omega) hk3 23 z
      have HFK := Lib.hid (show foundK ks k j = ks.set k (ptK (foundP ks[k] j)) by unfold foundK; rw [HKK.out])
      have G0 := Lib.hid g0
      have GB := Lib.hid gb
      have GL := Lib.hid gl
      have HCP := Lib.hid hcp
      have hz := g0.lt
      clear g0 gb gl hcp
      have G1 := Lib.hid ((G0.out.alloc (.cells #[.slice p1 long.length c1, .int .i64 sz, .slice (some ⟨b, o, none⟩) ks.length c2] 25)).alloc (.cells #[] 61))
      have X1 := Lib.hid ((Row.new wr #[.slice p1 long.length c1, .int .i64 sz, .slice (some ⟨b, o, none⟩) ks.length c2] 25).alloc (.cells #[] 61))
      have GB1 := Lib.hid ((GB.out.alloc GB.out.size (.cells #[.slice p1 long.length c1, .int .i64 sz, .slice (some ⟨b, o, none⟩) ks.length c2] 25)).alloc (by have := GB.out.size; simp; omega) (.cells #[] 61))
      have GL1 := Lib.hid ((GL.out.below (below_alloc wr (.cells #[.slice p1 long.length c1, .int .i64 sz, .slice (some ⟨b, o, none⟩) ks.length c2] 25))).below (below_alloc _ (.cells #[] 61)))
      obtain ⟨g, cap, cur, w3, hr, hrow, hg0, htake, hcap, hb3⟩ := HCP.out _ GL1.out.k (wr.heap.size + 1)
      simp at hg0
      have HR := Lib.hid hr
      have G3 := Lib.hid (G1.out.below hb3 (by simp; omega))
      have X3 := Lib.hid (X1.out.below hb3 (by simp; omega))
      have GB3 := Lib.hid (GB1.out.trans (hb3.mono (by simp; omega)))
      have GL3 := Lib.hid (GL1.out.below hb3)
      have K3 := Lib.hid hrow
      have HT := Lib.hid htake
      have hgz := hrow.lt
      have x2 := X3.out.cell 2 (v := .slice (some ⟨b, o, none⟩) ks.length c2) rfl
      have x2f := X3.out.free 2
      clear hr hrow htake hb3 G1 X1 GB1 GL1 HCP GB GL
      go_wp2_with (first | (refine load_row rfl 25 _ rfl _ rfl 25 _ _ G0.out Try.underlying25 rfl (by kernel_rfl) ?_) | (at_builtin; refine wpList_append_run rfl _ _ _ _ rfl _ _ _ rfl rfl HR.out ?_))
      have hWI : WInv p1 c1 long sz ks b o c2 g cap w0.heap.size wr.heap.size cur w0 (w3.setCell ⟨wr.heap.size, 2, none⟩ (.slice (some ⟨g, 0, none⟩) ks.length cap)) :=
        ⟨G3.out.set_other _ _ (by dsimp only; omega), X3.out.set 2 _, K3.out.set_other _ _ (by dsimp only; omega), H0.out, GB3.out.setCell (by dsimp only; omega) _, by omega, by omega, by omega⟩
      have WI := Lib.hid hWI.drew
      have hs0 := hWI.s hk
      clear hWI G3 X3 K3 GL3 GB3 x2 x2f G0 k2 HR
      generalize w3.setCell ⟨wr.heap.size, 2, none⟩ (.slice (some ⟨g, 0, none⟩) ks.length cap) = w4 at *
      generalize wr.heap.size = x at *
      have e1 : (j : Int).tmod 4 = (j : Int) % 4 := Int.tmod_eq_emod_of_nonneg (by omega)
      have e2 : IntKind.i64.wrap ((j : Int) / 4) = (j : Int) / 4 := IntWalk.i64_in _ (by omega)
      obtain ⟨hA1, hA2, hA3, hF1, hF2, hF3⟩ : -1000000000 ≤ ks[k].al ∧ ks[k].al ≤ ks[k].ah ∧ ks[k].ah ≤ 1000000000 ∧ -1000000000 ≤ ks[k].fl ∧ ks[k].fl ≤ ks[k].fh ∧ ks[k].fh ≤ 1000000000 := by
        obtain ⟨a, f, a0, a1, f0, f1⟩ := hko
        omega
      go_cut [] from 13 to 58 (fun wx => Row wx w0.heap.size #[.slice p1 long.length c1, .int .i64 sz, .slice (some ⟨b, o, none⟩) ks.length c2] 25 ∧ Row wx x #[.slice p1 long.length c1, .int .i64 sz, .slice (some ⟨g, 0, none⟩) ks.length cap] 25 ∧ Below w0.heap.size w0 wx ∧ KnotsAt wx (some ⟨g, 0, none⟩) (foundK ks k j))
      case first =>
        go_region_held3 (fun w' => w'.cell? ⟨x, 2, none⟩ = some (.slice (some ⟨g, 0, none⟩) ks.length cap) ∧ w'.cell? ⟨w0.heap.size, 2, none⟩ = some (.slice (some ⟨b, o, none⟩) ks.length c2) ∧ w'.cell? ⟨b, o + k * 4, none⟩ = some (.int .i64 ks[k].al) ∧ w'.cell? ⟨b, o + k * 4 + 1, none⟩ = some (.int .i64 ks[k].ah) ∧ w'.cell? ⟨b, o + k * 4 + 2, none⟩ = some (.int .i64 ks[k].fl) ∧ w'.cell? ⟨b, o + k * 4 + 3, none⟩ = some (.int .i64 ks[k].fh)) (first | exact hs0 | exact WI.out.s hk | exact ((((WI.out.set _ _).set _ _).set _ _).set _ _).s hk)
          (first | (go_at_call 50; refine (Drawn_any _ _ _ _ (by first | exact hA1 | exact hF1) (by first | exact hA2 | exact hF2) (by first | exact hA3 | exact hF3)).mono ?_; rintro e u ⟨rfl, hbu⟩; have WI := Lib.hid (WI.out.below hbu)) | (go_at_call 55; refine (Only_any _ _).mono ?_; rintro e u ⟨rfl, hbu⟩; have WI := Lib.hid (WI.out.below hbu); obtain ⟨t0, t1, t2, t3, t4, t5, t6, t7⟩ := WI.out.t HT.out hk))
        all_goals
          have WF := Lib.hid ((((WI.out.set (k * 4) (.int .i64 (drawn ks[k].al ks[k].ah ((j : Int) % 4)))).set (k * 4 + 1) (.int .i64 (drawn ks[k].al ks[k].ah ((j : Int) % 4)))).set (k * 4 + 2) (.int .i64 (drawn ks[k].fl ks[k].fh ((j : Int) / 4)))).set (k * 4 + 3) (.int .i64 (drawn ks[k].fl ks[k].fh ((j : Int) / 4))))
          clear t0 t1 t2 t3 t4 t5 t6 t7 hs0 e1 e2
          go_wp2_with fail
          go_meet
          exact ⟨WF.out.rl, WF.out.rx, WF.out.hb, by rw [HFK.out]; exact knots_set WF.out.rg HT.out⟩
      case rest =>
        obtain ⟨cl, cx, cb, ck⟩ := hcut
        have CL := Lib.hid cl
        have CX := Lib.hid cx
        have CB := Lib.hid cb
        have CK := Lib.hid ck
        have hxz := cx.lt
        clear cl cx cb ck e1 e2 hs0 WI
        have hfv := found_valid hb k j
        have hfl := foundK_length ks k j
        have HBE := Lib.hid (show Calls Try.prog 30 #[.agg #[.slice p1 long.length c1, .int .i64 sz, .slice (some ⟨g, 0, none⟩) ks.length cap]] wc fun e w' => ∃ p c, e = .returned (.tuple #[.slice p (bestD long sz (foundK ks k j)).length c, .int .i64 0]) ∧ IntsAt w' p (bestD long sz (foundK ks k j)) ∧ Below wc.heap.size wc w' from by
          have h := Best_good p1 c1 (some ⟨g, 0, none⟩) cap long sz (foundK ks k j) wc ⟨H0.out.l.below CB.out, CK.out, H0.out.b1, by rw [hfl]; exact H0.out.b2⟩ hfv
          rw [hfl] at h
          exact h)
        have HST := Lib.hid (show leastI long sz ks k (j + 1) = min (leastI long sz ks k j) ((bestD long sz (foundK ks k j)).length : Int) from rfl)
        clear hfv hfl
        generalize bestD long sz (foundK ks k j) = bj at *
        go_wp2_with (first | (refine load_row rfl 25 _ rfl _ rfl 25 _ _ CX.out Try.underlying25 rfl (by kernel_rfl) ?_))
        refine HBE.out.mono ?_
        rintro e w5 ⟨pb, cb, rfl, _, hb5⟩
        have CL := Lib.hid (CL.out.below hb5 CL.out.lt)
        have CB := Lib.hid (CB.out.trans (hb5.mono CB.out.size))
        clear hb5 HBE CX CK
        go_wp2
        go_roundw
        case rel => exact ⟨j + 1, by omega, by go_num, by rw [HST.out]; congr 1; omega, CL.out, CB.out, ⟨H0.out.l.below CB.out, H0.out.k.below CB.out, H0.out.b1, H0.out.b2⟩⟩
        case measure => simp [intOf]; omega
    · obtain rfl : j = 8 := by omega
      go_wp2
      go_ret
      exact ⟨rfl, gb⟩
end Go.Proofs.Ytnnlbbmimdohoaa
