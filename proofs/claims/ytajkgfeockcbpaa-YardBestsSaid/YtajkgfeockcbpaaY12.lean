/- The walks of layer 6: whether a choice is allowed; closures; which store is better. -/
import Derived.Test.YtajkgfeockcbpaaY11
namespace Go.Proofs.Ytajkgfeockcbpaa
open Go.RowKit Go.Maps
attribute [local go_sem] Oper.semAt_some

def boolsA (l : List Bool) : Array Value := (l.map Value.bool).toArray
theorem all_range_bools : ∀ (xs ys : List Bool), xs.length = ys.length → ((List.range xs.length).all fun i => xs.getD i false == ys.getD i false) = (xs == ys)
  | [], [], _ => rfl
  | x :: xs, y :: ys, h => by
    have ih := all_range_bools xs ys (by simpa using h)
    rw [List.length_cons, List.range_succ_eq_map, List.all_cons, List.all_map]
    simp only [List.getD_cons_zero, Function.comp_def, List.getD_cons_succ, ih, List.cons_beq_cons]
  | [], _ :: _, h => by simp at h
  | _ :: _, [], h => by simp at h
/-- Two arrays of bools, compared. -/
theorem eq_bools {P : Program} (d : Nat) (t e : TypeId) (n : Nat) (ht : P.underlying t = some (.array n e)) (he : P.underlying e = some .bool) (hsz : ∀ w, (sizeOf e).run P w = .ok 1 w)
    (xs ys : List Bool) (hx : xs.length = n) (hy : ys.length = n) (w : World) :
    (Op.equalIn (d + 2) t (.agg (boolsA xs)) (.agg (boolsA ys))).run P w = .ok (xs == ys) w := by
  rw [← all_range_bools xs ys (hx.trans hy.symm), hx, List.range_eq_range', Op.equalIn]
  simp only [Sem.run_bind, run_underlying ht, Result.andThen_ok, hsz, Std.Legacy.Range.forIn_eq_forIn_range', Std.Legacy.Range.size, Nat.sub_zero, Nat.add_sub_cancel, Nat.div_one]
  have hl : ∀ i ∈ List.range' 0 n 1, i < n := fun i hi => by simpa using (List.mem_range'_1.1 hi).2
  generalize List.range' 0 n 1 = l at hl ⊢
  induction l with
  | nil => simp
  | cons i l ih =>
    have hi : i < n := hl i (by simp)
    have px : (part e (boolsA xs) (i * 1)).run P w = .ok (.bool (xs.getD i false)) w := by
      simp [part, isAgg, run_underlying he, boolsA, List.getD, List.getElem?_eq_getElem (show i < xs.length by omega)]
    have py : (part e (boolsA ys) (i * 1)).run P w = .ok (.bool (ys.getD i false)) w := by
      simp [part, isAgg, run_underlying he, boolsA, List.getD, List.getElem?_eq_getElem (show i < ys.length by omega)]
    have pe : (Op.equalIn (d + 1) e (.bool (xs.getD i false)) (.bool (ys.getD i false))).run P w = .ok (xs.getD i false == ys.getD i false) w := run_equalIn_bool w d e _ _ he
    simp only [List.forIn_cons, Sem.run_bind, px, py, pe, Result.andThen_ok, List.all_cons]
    cases hb : (xs.getD i false == ys.getD i false)
    · simp
    · simp only [Bool.not_true, Bool.false_eq_true, if_false, Sem.run_pure, Result.andThen_ok, Bool.true_and]
      exact ih fun j hj => hl j (by simp [hj])
theorem eq_lots (c : Nat → Bool) (d : Bool) (hd : ((List.range 7).all fun i => !c i) = d) (w : World) : (Op.equalIn 10000 99 (.agg (lotF c)) (.agg noneA)).run Try.prog w = .ok d w := by
  rw [show lotF c = boolsA [c 0, c 1, c 2, c 3, c 4, c 5, c 6] from rfl, show noneA = boolsA [false, false, false, false, false, false, false] from rfl,
    eq_bools 9998 99 4 7 (by kernel_rfl) (by kernel_rfl) (fun w => by simp [go_sem]) _ _ rfl rfl, ← hd]
  congr 1
  simp [List.range, List.range.loop]
set_option maxRecDepth 10000 in
set_option maxHeartbeats 1600000 in
theorem allowed_any (b : Yb) (P : Yp) (mb : Nat) (k : Bool) (c : Nat → Bool) (hcl : ∀ i, i < 7 → c i = true → i < b.lots.length) (w : World) (hK : YkAt w P mb b) :
    Calls Try.prog 70 #[.agg (trA b P mb k), .agg (lotF c)] w fun e w' => e = .returned (.bool (allowK b k c)) ∧ Below w.heap.size w w' := by
  obtain ⟨W0, hW0⟩ : ∃ W, W = (w.alloc (.cells (trA b P mb k) 89)).alloc (.cells (lotF c) 99) := ⟨_, rfl⟩
  have HW0 := Lib.hid hW0
  have HE := Lib.hid (show Below w.heap.size w W0 by rw [hW0]; exact below_alloc2 _ _ _)
  have HT := Lib.hid (show Row W0 w.heap.size (trA b P mb k) 89 by rw [hW0]; exact (Row.new w _ _).alloc _)
  have HC := Lib.hid (show Row W0 (w.heap.size + 1) (lotF c) 99 by rw [hW0]; exact Row.new1 w _ _ _)
  clear hW0
  have HBR := Lib.hid (breaks_any b P mb k c hcl W0 (hK.below HE.out))
  clear hK hcl
  rw [show allowK b k c = ((pairsL (nearK b k) (lotsL c)).isEmpty && (List.range 7).all fun i => !unservF b k c i) from rfl]
  unfold GaveBreaks at HBR
  generalize pairsL (nearK b k) (lotsL c) = PL at *
  generalize unservF b k c = UF at *
  obtain ⟨d, hd⟩ : ∃ d, ((List.range 7).all fun i => !UF i) = d := ⟨_, rfl⟩
  have heq := eq_lots UF d hd
  rw [hd]
  obtain ⟨pe, hpe⟩ : ∃ pe, ((PL.length : Int) == 0) = pe := ⟨_, rfl⟩
  have HPE := Lib.hid (show PL.isEmpty = pe by
    rw [← hpe]
    cases PL <;> simp
    omega)
  rw [HPE.out]
  clear hd
  go_enter Try.func70, Try.ntmps70
  go_upto_region 1 with (fail)
  rw [← HW0.out]
  go_wp2_with (first
    | (refine load_row rfl 89 _ rfl w.heap.size rfl 89 (trA b P mb k) _ HT.out Try.underlying89 rfl (by kernel_rfl) ?_)
    | (refine load_row rfl 99 _ rfl (w.heap.size + 1) rfl 99 (lotF c) _ HC.out Try.underlying99 rfl (by kernel_rfl) ?_))
  refine HBR.out.mono ?_
  rintro e u ⟨p, rfl, _, hbu⟩
  have HB := Lib.hid (HE.out.trans (hbu.mono HE.out.size))
  clear hbu
  cases pe
  · go_wp2_with (first
      | (refine store_new rfl 99 _ _ rfl (lotF UF) noneA 99 rfl rfl (by kernel_rfl) rfl (one_lotF _) ?_))
    go_ret
    exact ⟨ret_bool (by simp), HB.out.alloc HB.out.size _⟩
  · go_wp2_with (first
      | (refine store_new rfl 99 _ _ rfl (lotF UF) noneA 99 rfl rfl (by kernel_rfl) rfl (one_lotF _) ?_))
    go_ret
    exact ⟨ret_bool (by simp), HB.out.alloc HB.out.size _⟩
set_option maxRecDepth 10000 in
set_option maxHeartbeats 1600000 in
theorem near1_any (b : Yb) (P : Yp) (mb : Nat) (k : Bool) (i j p1 p2 : Nat) (hi : i < b.lots.length) (hj : j < b.lots.length) (w : World) (hK : YkAt w P mb b) (h1 : w.cell? ⟨p1, 0, none⟩ = some (.int .i64 (i : Int))) (h2 : w.cell? ⟨p2, 0, none⟩ = some (.int .i64 (j : Int))) :
    Calls Try.prog 57 #[.agg (trA b P mb k), .pointer (some ⟨p1, 0, none⟩), .pointer (some ⟨p2, 0, none⟩)] w fun e w' => e = .returned (.bool (nearK b k i j)) ∧ Below w.heap.size w w' := by
  have hE := below_alloc w (.cells (trA b P mb k) 89)
  have HT := Lib.hid (Row.new w (trA b P mb k) 89)
  have HCL := Lib.hid (near_any b P mb k i j hi hj _ (hK.below hE))
  have HE := Lib.hid hE
  clear hE hK
  have kh1 := ((From.refl w).below (below_alloc w (.cells (trA b P mb k) 89))).cell h1
  have kh2 := ((From.refl w).below (below_alloc w (.cells (trA b P mb k) 89))).cell h2
  clear h1 h2
  generalize nearK b k i j = RR at *
  go_enter Try.func57, Try.ntmps57
  go_wp2_with (first
    | (refine load_row rfl 89 _ rfl w.heap.size rfl 89 (trA b P mb k) _ HT.out Try.underlying89 rfl (by kernel_rfl) ?_))
  refine HCL.out.mono ?_
  rintro e u ⟨rfl, hbu⟩
  have HB := Lib.hid (HE.out.trans (hbu.mono HE.out.size))
  clear hbu
  go_wp2_with fail
  go_ret
  exact ⟨rfl, HB.out⟩
set_option maxRecDepth 10000 in
set_option maxHeartbeats 1600000 in
theorem served1_any (b : Yb) (P : Yp) (mb : Nat) (k : Bool) (i p1 : Nat) (hi : i < b.lots.length) (w : World) (hK : YkAt w P mb b) (h1 : w.cell? ⟨p1, 0, none⟩ = some (.int .i64 (i : Int))) :
    Calls Try.prog 65 #[.agg (trA b P mb k), .pointer (some ⟨p1, 0, none⟩)] w fun e w' => e = .returned (.bool (servK b k i)) ∧ Below w.heap.size w w' := by
  have hE := below_alloc w (.cells (trA b P mb k) 89)
  have HT := Lib.hid (Row.new w (trA b P mb k) 89)
  have HCL := Lib.hid (served_any b P mb k i hi _ (hK.below hE))
  have HE := Lib.hid hE
  clear hE hK
  have kh1 := ((From.refl w).below (below_alloc w (.cells (trA b P mb k) 89))).cell h1
  clear h1
  generalize servK b k i = RR at *
  go_enter Try.func65, Try.ntmps65
  go_wp2_with (first
    | (refine load_row rfl 89 _ rfl w.heap.size rfl 89 (trA b P mb k) _ HT.out Try.underlying89 rfl (by kernel_rfl) ?_))
  refine HCL.out.mono ?_
  rintro e u ⟨rfl, hbu⟩
  have HB := Lib.hid (HE.out.trans (hbu.mono HE.out.size))
  clear hbu
  go_wp2_with fail
  go_ret
  exact ⟨rfl, HB.out⟩
set_option maxRecDepth 10000 in
set_option maxHeartbeats 1600000 in
theorem allowed1_any (b : Yb) (P : Yp) (mb : Nat) (k : Bool) (c : Nat → Bool) (p1 : Nat) (hcl : ∀ i, i < 7 → c i = true → i < b.lots.length) (w : World) (hK : YkAt w P mb b) (h1 : Row w p1 (lotF c) 99) :
    Calls Try.prog 69 #[.agg (trA b P mb k), .pointer (some ⟨p1, 0, none⟩)] w fun e w' => e = .returned (.bool (allowK b k c)) ∧ Below w.heap.size w w' := by
  have hE := below_alloc w (.cells (trA b P mb k) 89)
  have HT := Lib.hid (Row.new w (trA b P mb k) 89)
  have HCL := Lib.hid (allowed_any b P mb k c hcl _ (hK.below hE))
  have HE := Lib.hid hE
  clear hE hK
  have HC := Lib.hid (h1.alloc (.cells (trA b P mb k) 89))
  clear h1
  generalize allowK b k c = RR at *
  go_enter Try.func69, Try.ntmps69
  go_wp2_with (first
    | (refine load_row rfl 89 _ rfl w.heap.size rfl 89 (trA b P mb k) _ HT.out Try.underlying89 rfl (by kernel_rfl) ?_)
    | (refine load_row rfl 99 _ rfl p1 rfl 99 (lotF c) _ HC.out Try.underlying99 rfl (by kernel_rfl) ?_))
  refine HCL.out.mono ?_
  rintro e u ⟨rfl, hbu⟩
  have HB := Lib.hid (HE.out.trans (hbu.mono HE.out.size))
  clear hbu
  go_wp2_with fail
  go_ret
  exact ⟨rfl, HB.out⟩
set_option maxRecDepth 10000 in
set_option maxHeartbeats 1600000 in
theorem clear1_any (c : Nat → Bool) (p1 i : Nat) (hi : i < 7) (w : World) (h1 : Row w p1 (lotF c) 99) :
    Calls Try.prog 116 #[.int .i64 (i : Int), .pointer (some ⟨p1, 0, none⟩)] w fun e w' => e = .returned (.bool (!c i)) ∧ Below w.heap.size w w' := by
  have c0 := h1.cell i (lotF_at c hi)
  have i1 : (0 : Int) ≤ (i : Int) := by omega
  have i2 : (i : Int) < 7 := by omega
  clear h1
  go_enter Try.func116, Try.ntmps116
  go_wp2_with fail
  go_ret
  exact ⟨rfl, Below.refl _ _⟩
set_option maxRecDepth 10000 in
set_option maxHeartbeats 1600000 in
theorem more1_any (b : Yb) (P : Yp) (mb : Nat) (c : Nat → Bool) (p1 p2 i : Nat) (hi : i < b.lots.length) (hn : b.lots.length ≤ 7) (hcl : ∀ i, i < 7 → c i = true → i < b.lots.length) (w : World) (hK : YkAt w P mb b) (h1 : Row w p1 (lotF c) 99) (h2 : Row w p2 (trA b P mb false) 89) :
    Calls Try.prog 112 #[.int .i64 (i : Int), .pointer (some ⟨p1, 0, none⟩), .pointer (some ⟨p2, 0, none⟩)] w fun e w' => e = .returned (.bool (!c i && allowK b false (withF c i))) ∧ Below w.heap.size w w' := by
  obtain ⟨z0, hz0⟩ : ∃ z : Later w, w = z.w := ⟨⟨w, Below.refl _ _⟩, rfl⟩
  have HZ0 := Lib.hid hz0
  clear hz0
  have HWI := Lib.hid (fun w' => with_any c i (by omega) w')
  have HAL := Lib.hid (fun (x : Later z0.w) => allowed_any b P mb false (withF c i) (fun j hj h => by
    unfold withF at h
    by_cases e : j = i
    · omega
    · rw [if_neg e] at h; exact hcl j hj h) x.w ((hK.below z0.b).below x.b))
  have c0 := h1.cell i (lotF_at c (by omega))
  have d0 := h1.cell 0 (v := .bool (c 0)) rfl
  have d1 := h1.cell 1 (v := .bool (c 1)) rfl
  have d2 := h1.cell 2 (v := .bool (c 2)) rfl
  have d3 := h1.cell 3 (v := .bool (c 3)) rfl
  have d4 := h1.cell 4 (v := .bool (c 4)) rfl
  have d5 := h1.cell 5 (v := .bool (c 5)) rfl
  have d6 := h1.cell 6 (v := .bool (c 6)) rfl
  have t0 := h2.cell 0 (v := .slice P.pl b.lots.length P.cl) rfl
  have t1 := h2.cell 1 (v := .slice P.pd b.doors.length P.cd) rfl
  have t2 := h2.cell 2 (v := .slice P.pb b.buckets.length P.cb) rfl
  have t3 := h2.cell 3 (v := .slice P.ps b.spare.length P.cs) rfl
  have t4 := h2.cell 4 (v := .int .i64 b.apart) rfl
  have t5 := h2.cell 5 (v := .int .i64 b.door) rfl
  have t6 := h2.cell 6 (v := .int .i64 b.bucket) rfl
  have t7 := h2.cell 7 (v := .int .i64 b.err) rfl
  have t8 := h2.cell 8 (v := .map (some mb)) rfl
  have t9 := h2.cell 9 (v := .func (.func (idE false)) #[] #[]) rfl
  have t10 := h2.cell 10 (v := .func (.func (idO false)) #[] #[]) rfl
  have t11 := h2.cell 11 (v := .func (.func (idE false)) #[] #[]) rfl
  have i1 : (0 : Int) ≤ (i : Int) := by omega
  have i2 : (i : Int) < 7 := by omega
  obtain ⟨ci, hci⟩ : ∃ x, c i = x := ⟨_, rfl⟩
  rw [hci] at c0 ⊢
  obtain ⟨wf, hwf⟩ : ∃ x, withF c i = x := ⟨_, rfl⟩
  obtain ⟨al, hal⟩ : ∃ x, allowK b false (withF c i) = x := ⟨_, rfl⟩
  rw [hal] at HAL ⊢
  rw [hwf] at HAL HWI
  clear hci h1 h2 hK hcl hwf hal hi hn
  cases ci
  all_goals
    go_enter Try.func112, Try.ntmps112
    go_upto_region 1 with (fail)
    rw [HZ0.out]
    refine wp_region_later (by kernel_rfl) (by kernel_rfl) ?_
    repeat (go_big_quiet_step (first
      | (go_at_call 113; with_reducible exact Calls.later_of (HWI.out _))
      | (go_at_call 70; with_reducible exact Calls.later_of (HAL.out _))))
    refine wpQuiet_nil ?_
    intro _ hw'
    obtain ⟨yy, hw''⟩ := hw'
    subst hw''
    obtain ⟨z1, hy⟩ := z0.up yy
    rw [hy]
    clear hy
    go_wp2_with fail
    go_ret
    exact ⟨ret_bool (by simp), z1.b⟩
set_option maxRecDepth 10000 in
set_option maxHeartbeats 1600000 in
theorem more_any (b : Yb) (P : Yp) (mb : Nat) (c : Nat → Bool) (hcl : ∀ i, i < 7 → c i = true → i < b.lots.length) (w : World) (hK : YkAt w P mb b) :
    Calls Try.prog 80 #[.agg (trA b P mb false), .agg (lotF c)] w fun e w' => e = .returned (.agg (lotF (moreF b c))) ∧ Below w.heap.size w w' := by
  obtain ⟨W0, hW0⟩ : ∃ W, W = ((w.alloc (.cells (trA b P mb false) 89)).alloc (.cells (lotF c) 99)).alloc (.cells noneA 99) := ⟨_, rfl⟩
  have HW0 := Lib.hid hW0
  have HE := Lib.hid (show Below w.heap.size w W0 by rw [hW0]; exact below_alloc3 _ _ _ _)
  have HT := Lib.hid (show Row W0 w.heap.size (trA b P mb false) 89 by rw [hW0]; exact ((Row.new w _ _).alloc _).alloc _)
  have HC := Lib.hid (show Row W0 (w.heap.size + 1) (lotF c) 99 by rw [hW0]; exact (Row.new1 w _ _ _).alloc _)
  have HZ := Lib.hid (show Row W0 (w.heap.size + 1 + 1) noneA 99 by rw [hW0]; exact Row.new2 w _ _ _ _)
  clear hW0
  have hn7 := hK.ok.n7
  have HAL := Lib.hid (fun w' => all_any b P mb hn7 w')
  have HON := Lib.hid (fun (x : Later W0) => only_more (w.heap.size + 1) w.heap.size (allF b) (fun i => !c i && allowK b false (withF c i)) x.w (fun i hi ha w'' hb => by
    have hil : i < b.lots.length := by simpa [allF] using ha
    exact more1_any b P mb c (w.heap.size + 1) w.heap.size i hil hn7 hcl w'' (((hK.below HE.out).below x.b).below hb) ((x.fr.row HC.out).below hb (x.fr.row HC.out).lt) ((x.fr.row HT.out).below hb (x.fr.row HT.out).lt)))
  have HMF := Lib.hid (show (fun i => allF b i && (!c i && allowK b false (withF c i))) = moreF b c from rfl)
  rw [HMF.out] at HON
  obtain ⟨AF, hAF⟩ : ∃ x, allF b = x := ⟨_, rfl⟩
  obtain ⟨MF, hMF⟩ : ∃ x, moreF b c = x := ⟨_, rfl⟩
  rw [hAF] at HAL HON
  rw [hMF] at HON ⊢
  clear hAF hMF HMF hK hcl
  have t0 := HT.out.cell 0 (v := .slice P.pl b.lots.length P.cl) rfl
  have t1 := HT.out.cell 1 (v := .slice P.pd b.doors.length P.cd) rfl
  have t2 := HT.out.cell 2 (v := .slice P.pb b.buckets.length P.cb) rfl
  have t3 := HT.out.cell 3 (v := .slice P.ps b.spare.length P.cs) rfl
  have t4 := HT.out.cell 4 (v := .int .i64 b.apart) rfl
  have t5 := HT.out.cell 5 (v := .int .i64 b.door) rfl
  have t6 := HT.out.cell 6 (v := .int .i64 b.bucket) rfl
  have t7 := HT.out.cell 7 (v := .int .i64 b.err) rfl
  have t8 := HT.out.cell 8 (v := .map (some mb)) rfl
  go_enter Try.func80, Try.ntmps80
  go_upto_region 1 with (fail)
  rw [← HW0.out]
  go_wp2_with fail
  refine (HAL.out _).mono ?_
  rintro e u ⟨rfl, hbu⟩
  obtain ⟨x1, hx1⟩ := later_of hbu
  subst hx1
  clear hbu
  go_wp2_with fail
  refine (HON.out x1).mono ?_
  rintro e u ⟨rfl, hbu⟩
  obtain ⟨x2, hx2⟩ := x1.on hbu
  subst hx2
  clear hbu
  have RZ := Lib.hid (x2.fr.row HZ.out)
  have HB := Lib.hid (x2.base HE.out)
  go_wp2_with (first
    | (refine store_row rfl 99 _ _ rfl (w.heap.size + 1 + 1) (lotF MF) noneA 99 rfl rfl RZ.out (by kernel_rfl) rfl (one_lotF _) ?_))
  exact bodyPost_ret (v := .agg (lotF MF)) (results_cell_row Try.results80 _ _ _ _ _ _ _ rfl (RZ.out.setRow (lotF MF)) Try.underlying99 rfl (by kernel_rfl)) rfl ⟨rfl, below_setRow' HB.out (by omega) _⟩
end Go.Proofs.Ytajkgfeockcbpaa
