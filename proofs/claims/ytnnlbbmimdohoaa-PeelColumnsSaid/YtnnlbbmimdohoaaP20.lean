/- The walks of layer 1: whether a column has a knot. -/
import Derived.Test.YtnnlbbmimdohoaaP14
namespace Go.Proofs.Ytnnlbbmimdohoaa
open Go.RowKit Go.Maps
attribute [local go_sem] Oper.semAt_some

set_option maxRecDepth 10000 in
set_option maxHeartbeats 800000 in
theorem Knotty_good (p1 : Option Addr) (c1 : Nat) (p2 : Option Addr) (c2 : Nat) (long : List Int) (sz : Int) (ks : List K4) (w0 : World) (h : LogAt w0 p1 p2 long ks) (c : Nat) (hc : c < wideN long) (hb : validB long sz ks = true) :
    Calls Try.prog 21 #[.agg #[.slice p1 long.length c1, .int .i64 sz, .slice p2 ks.length c2], .int .i64 c] w0 fun e w' => e = .returned (.tuple #[.int .i64 (knotD long ks c), .int .i64 0]) ∧ Below w0.heap.size w0 w' := by
  have hok := valid_ok hb
  obtain ⟨hw1, hw2, hw3⟩ := wideN_eq hok.L
  refine calls_marks Try.func21 rfl ?_
  simp only [Try.ntmps21, List.size_toArray, List.length_cons, List.length_nil, Nat.reduceAdd, Nat.reduceSub, Array.replicate_succ, Array.replicate_zero, List.push_toArray, List.append_toArray, List.nil_append, List.cons_append]
  have hba := (below_alloc w0 (.cells #[.slice p1 long.length c1, .int .i64 sz, .slice p2 ks.length c2] 25)).alloc (Nat.le_of_lt (by simp)) (.cells #[.int .i64 c] 3)
  have r0 : Row _ w0.heap.size #[.slice p1 long.length c1, .int .i64 sz, .slice p2 ks.length c2] 25 := (Row.new w0 _ _).alloc (.cells #[.int .i64 c] 3)
  have r1 : Row _ (w0.heap.size + 1) #[.int .i64 c] 3 := Row.new' (w := w0.alloc (.cells #[.slice p1 long.length c1, .int .i64 sz, .slice p2 ks.length c2] 25)) (by simp) _ _
  have HC := Lib.hid (check_any p1 c1 p2 c2 long sz ks _ (h.l.below hba) (h.k.below hba) h.b1 h.b2)
  have HH := Lib.hid h
  clear h
  go_wp2_with (first | (refine HC.out.mono ?_; rw [checkE, hb]; rintro e w2 ⟨rfl, hb3⟩; have HB2 := Lib.hid (hba.trans (hb3.mono (by simp; omega))); have r2 := Lib.hid (r0.below hb3 (by simp; omega)); have r3 := Lib.hid (r1.below hb3 (by simp)); clear hb3; have k0 := r2.out.cell 0 (v := .slice p1 long.length c1) rfl; have k1 := r2.out.cell 1 (v := .int .i64 sz) rfl; have k2 := r2.out.cell 2 (v := .slice p2 ks.length c2) rfl; have hz := r3.out.lt) | (refine (unroll_of p1 c1 p2 c2 long sz ks _ (HH.out.below HB2.out) hok).mono ?_; rintro e w3 ⟨R, mb, nn, f, rfl, hR, hA, hb4⟩; have HB4 := Lib.hid (HB2.out.trans (hb4.mono (by omega))); have hz3 := hb4.size; have HA3 := Lib.hid hA; have R1 := Lib.hid (r3.out.below hb4 hz); clear hb4 hA k0 k1 k2) | (refine store_new rfl 76 _ _ rfl R.A zero76 76 rfl rfl (size76 hR.ok.s6) (by rw [R.size hR.ok.s6]; rfl) R.one ?_; have R0 := Lib.hid (Row.new w3 R.A 76); have k0 := (R1.out.alloc (.cells R.A 76)).cell 0 (v := .int .i64 c) rfl; have k1 := R0.out.cell 3 R.a3; rw [hR.wide] at k1) | (refine load_row rfl 76 _ rfl _ rfl 76 _ _ ((R0.out.alloc (.cells #[.bool false] 4)).alloc (.cells #[.bool true] 4)) Try.underlying76 rfl (size76 hR.ok.s6) ?_) | (refine (truths_any R hR.ok.s6 _).mono ?_; rintro e w5 ⟨rfl, rfl⟩))
  have hA5 := (((HA3.out.below (below_alloc w3 (.cells R.A 76))).below (below_alloc _ (.cells #[.bool false] 4))).below (below_alloc _ (.cells #[.bool true] 4))).below (below_alloc _ (.cells R.A 76))
  have hB5 : Below w0.heap.size w0 ((((w3.alloc (.cells R.A 76)).alloc (.cells #[.bool false] 4)).alloc (.cells #[.bool true] 4)).alloc (.cells R.A 76)) := (((HB4.out.alloc (by omega) _).alloc (by simp; omega) _).alloc (by simp; omega) _).alloc (by simp; omega) _
  have rS : Row ((((w3.alloc (.cells R.A 76)).alloc (.cells #[.bool false] 4)).alloc (.cells #[.bool true] 4)).alloc (.cells R.A 76)) (w3.heap.size + 1) #[.bool false] 4 := ((Row.new' (by simp) _ _).alloc _).alloc _
  have rL : Row ((((w3.alloc (.cells R.A 76)).alloc (.cells #[.bool false] 4)).alloc (.cells #[.bool true] 4)).alloc (.cells R.A 76)) (w3.heap.size + 1 + 1) #[.bool true] 4 := (Row.new' (by simp) _ _).alloc _
  have rT : Row ((((w3.alloc (.cells R.A 76)).alloc (.cells #[.bool false] 4)).alloc (.cells #[.bool true] 4)).alloc (.cells R.A 76)) (w3.heap.size + 1 + 1 + 1) R.A 76 := Row.new' (by simp) _ _
  have rC : Row ((((w3.alloc (.cells R.A 76)).alloc (.cells #[.bool false] 4)).alloc (.cells #[.bool true] 4)).alloc (.cells R.A 76)) (w0.heap.size + 1) #[.int .i64 c] 3 := (((R1.out.alloc _).alloc _).alloc _).alloc _
  have hs5 : w3.heap.size + 1 + 1 + 1 + 1 = ((((w3.alloc (.cells R.A 76)).alloc (.cells #[.bool false] 4)).alloc (.cells #[.bool true] 4)).alloc (.cells R.A 76)).heap.size := by simp
  have HS5 := Lib.hid hs5
  have HW := Lib.hid (show w0.heap.size + 1 < w3.heap.size by omega)
  clear hs5 hba r0 r1 HC HA3 HB4 HB2 R1 R0 r2 r3
  go_wp2_with fail
  generalize ((((w3.alloc (.cells R.A 76)).alloc (.cells #[.bool false] 4)).alloc (.cells #[.bool true] 4)).alloc (.cells R.A 76)) = w5 at *
  have RC := Lib.hid rC
  have HA5 := Lib.hid hA5
  have HB5 := Lib.hid hB5
  have hk0 : KnotsAt w0 R.p2 ks := by rw [hR.p2]; exact HH.out.k
  have hnS := not_reads (b := w3.heap.size + 1 + 1 + 1) hA5 rS (by omega) hk0 (by have := HW.out; omega)
  have hnL := not_reads (b := w3.heap.size + 1 + 1 + 1) hA5 rL (by omega) hk0 (by have := HW.out; omega)
  clear rC hA5 hB5 k0 k1
  refine range_law 85 #[.pointer (some ⟨w3.heap.size + 1 + 1 + 1, 0, none⟩)] (readsR R ks (w3.heap.size + 1 + 1 + 1) mb) ((truthsD long ks).map fun c => #[cols c]) rfl (fun args w => Try.call85 args w)
    (fun W1 hb _ => truths_of hR hok _ W1 (rT.below hb (by have := HS5.out; omega)) (HA5.out.below hb)) (by intro x hx; simp at hx; obtain ⟨_, _, rfl⟩ := hx; rfl) (fun m => m = w3.heap.size + 1 ∨ m = w3.heap.size + 1 + 1)
    (by rintro m (rfl | rfl); exact ⟨by have := HS5.out; omega, hnS⟩; exact ⟨by have := HS5.out; omega, hnL⟩) (not_reads_new HA5.out rT (by omega))
    (fun j A => Row A (w3.heap.size + 1) #[.bool (((truthsD long ks).take j).any (b0 · c))] 4 ∧ Row A (w3.heap.size + 1 + 1) #[.bool (((truthsD long ks).take j).all (b0 · c))] 4) (fun _ _ => False)
    (fun j A B h hb => by have := HS5.out; exact ⟨h.1.below hb (by omega), h.2.below hb (by omega)⟩) (fun _ _ _ h _ => h) ⟨rS, rL⟩ ?body ?done ?stop
  case body =>
    rintro l j x A rfl hx ⟨hI1, hI2⟩ hkeep hlA
    obtain ⟨kn, hq, rfl⟩ := map_at hx
    have hlen := truthsD_length (List.mem_of_getElem? hq)
    have HLEN := Lib.hid hlen
    have hany : ((truthsD long ks).take (j + 1)).any (b0 · c) = (((truthsD long ks).take j).any (b0 · c) || b0 kn c) := by rw [List.take_add_one, hq]; simp
    have hall : ((truthsD long ks).take (j + 1)).all (b0 · c) = (((truthsD long ks).take j).all (b0 · c) && b0 kn c) := by rw [List.take_add_one, hq]; simp
    rw [hany, hall]
    have RC2 := Lib.hid (RC.out.keeps hkeep (by have := HW.out; omega))
    generalize ((truthsD long ks).take j).any (b0 · c) = bs at *
    generalize ((truthsD long ks).take j).all (b0 · c) = bl at *
    clear hany hall hx hq
    rw [cols_def]
    gi_wp2_with (first | (refine store_newIn rfl 88 _ _ rfl (boolsA kn) Try.zeroCells88 88 rfl rfl (size88 HLEN.out) (by rw [zero88, boolsA_size, boolsA_size, HLEN.out, List.length_replicate]) (boolsA_one _) ?_))
    refine ⟨(KeepsBut.refl _ _).alloc _, fun oo => ?_⟩
    generalize hA2 : (A.alloc (Obj.cells (boolsA kn) 88)).putObj (w5.heap.size + 1) oo = A2
    have hsame : ∀ m, m ≠ w5.heap.size + 1 → A2.heap[m]? = (A.alloc (Obj.cells (boolsA kn) 88)).heap[m]? := fun m hm => by rw [← hA2]; exact World.putObj_heap_other hm
    have qS : Row A2 (w3.heap.size + 1) #[.bool bs] 4 := by unfold Row; rw [hsame _ (by have := HS5.out; omega)]; exact hI1.alloc _
    have qL : Row A2 (w3.heap.size + 1 + 1) #[.bool bl] 4 := by unfold Row; rw [hsame _ (by have := HS5.out; omega)]; exact hI2.alloc _
    have qC : Row A2 (w0.heap.size + 1) #[.int .i64 c] 3 := by unfold Row; rw [hsame _ (by have := HS5.out; have := HW.out; omega)]; exact RC2.out.alloc _
    have qK : Row A2 A.heap.size (boolsA kn) 88 := by unfold Row; rw [hsame _ (by omega)]; exact Row.new _ _ _
    clear hsame hA2 hI1 hI2 RC2 hkeep
    have hcl : c < 72 := by omega
    have hkc : (boolsA kn)[c]? = some (.bool (b0 kn c)) := boolsA_at (by rw [b0_lt (by omega)]; simp [hlen, hcl])
    have hAS : w3.heap.size + 1 + 1 + 1 < A.heap.size := by have := HS5.out; omega
    have hW0 := HW.out
    generalize b0 kn c = bk at *
    have cS := qS.cell 0 (v := .bool bs) rfl
    have fS := qS.free 0
    have cC := qC.cell 0 (v := .int .i64 c) rfl
    have cK := qK.cell c hkc
    have cL : (A2.setCell ⟨w3.heap.size + 1, 0, none⟩ (.bool (bs || bk))).cell? ⟨w3.heap.size + 1 + 1, 0, none⟩ = some (.bool bl) := (qL.set_other _ _ (by dsimp only; omega)).cell 0 rfl
    have fL : (A2.setCell ⟨w3.heap.size + 1, 0, none⟩ (.bool (bs || bk))).frozen? ⟨w3.heap.size + 1 + 1, 0, none⟩ = false := (qL.set_other _ _ (by dsimp only; omega)).free 0
    have cC2 : (A2.setCell ⟨w3.heap.size + 1, 0, none⟩ (.bool (bs || bk))).cell? ⟨w0.heap.size + 1, 0, none⟩ = some (.int .i64 c) := (qC.set_other _ _ (by dsimp only; omega)).cell 0 rfl
    have cK2 : (A2.setCell ⟨w3.heap.size + 1, 0, none⟩ (.bool (bs || bk))).cell? ⟨A.heap.size, c, none⟩ = some (.bool bk) := (qK.set_other _ _ (by dsimp only; omega)).cell c hkc
    have hfin : KeepsBut (fun m => m = w3.heap.size + 1 ∨ m = w3.heap.size + 1 + 1) A2 ((A2.setCell ⟨w3.heap.size + 1, 0, none⟩ (.bool (bs || bk))).setCell ⟨w3.heap.size + 1 + 1, 0, none⟩ (.bool (bl && bk))) ∧ Row ((A2.setCell ⟨w3.heap.size + 1, 0, none⟩ (.bool (bs || bk))).setCell ⟨w3.heap.size + 1 + 1, 0, none⟩ (.bool (bl && bk))) (w3.heap.size + 1) #[.bool (bs || bk)] 4 ∧ Row ((A2.setCell ⟨w3.heap.size + 1, 0, none⟩ (.bool (bs || bk))).setCell ⟨w3.heap.size + 1 + 1, 0, none⟩ (.bool (bl && bk))) (w3.heap.size + 1 + 1) #[.bool (bl && bk)] 4 :=
      ⟨((KeepsBut.refl _ _).setCell (.inl (.inl rfl)) _).setCell (.inl (.inr rfl)) _, (qS.set 0 _).set_other _ _ (by dsimp only; omega), (qL.set_other _ _ (by dsimp only; omega)).set 0 _⟩
    have HFIN := Lib.hid hfin
    clear hfin
    clear qS qL qC qK hkc hAS hW0 hk0 hnS hnL rS rL rT
    generalize h1 : (bs || bk) = b1 at *
    generalize h2 : (bl && bk) = b2 at *
    cases bs <;> cases bl <;> cases bk
    all_goals simp at h1 h2
    all_goals subst h1 h2
    all_goals gi_wp2
    all_goals exact HFIN.out
  case done =>
    intro W3 hI hkeep hsz hD
    have hI : Row W3 (w3.heap.size + 1) #[.bool (((truthsD long ks).take ((truthsD long ks).map fun c => #[cols c]).length).any (b0 · c))] 4 ∧ Row W3 (w3.heap.size + 1 + 1) #[.bool (((truthsD long ks).take ((truthsD long ks).map fun c => #[cols c]).length).all (b0 · c))] 4 := hI
    rw [List.length_map, List.take_length] at hI
    obtain ⟨hI1, hI2⟩ := hI
    have hmarks := (show Marks w0.heap.size [] w5 from trivial).push hkeep (fun m oo hm h => by rcases hm with rfl | rfl; unfold Row at rS; rw [rS] at h; cases h; unfold Row at rL; rw [rL] at h; cases h) (by have := HS5.out; have := HW.out; omega) hD
    have HM := Lib.hid hmarks
    have HB6 := Lib.hid (HB5.out.trans (hkeep.below (n := w0.heap.size) (by have := HS5.out; have := HW.out; omega) (fun m hm => by have := HS5.out; have := HW.out; omega)))
    have cS := hI1.cell 0 (v := .bool ((truthsD long ks).any (b0 · c))) rfl
    have cL := hI2.cell 0 (v := .bool ((truthsD long ks).all (b0 · c))) rfl
    clear hkeep hD hmarks hI1 hI2 rS rL rT hnS hnL hk0
    have hres : knotD long ks c = if (truthsD long ks).all (b0 · c) then 2 else if (truthsD long ks).any (b0 · c) then 1 else 0 := rfl
    generalize (truthsD long ks).any (b0 · c) = bs at *
    generalize (truthsD long ks).all (b0 · c) = bl at *
    have HRES := Lib.hid hres
    clear hres
    cases bs <;> cases bl
    all_goals go_wp2
    all_goals refine marks_leave HM.out (fun B2 hB2 => ⟨_, results_tmp2 rfl _ _ _, ?_⟩)
    all_goals exact ⟨by rw [HRES.out]; rfl, HB6.out.trans hB2.below⟩
  case stop => intro c W3 h; exact h.elim

set_option maxRecDepth 10000 in
set_option maxHeartbeats 800000 in
theorem Knotty_bad (p1 : Option Addr) (c1 : Nat) (p2 : Option Addr) (c2 : Nat) (long : List Int) (sz : Int) (ks : List K4) (w0 : World) (h : LogAt w0 p1 p2 long ks) (c : Int) (hb : validB long sz ks = false) :
    Calls Try.prog 21 #[.agg #[.slice p1 long.length c1, .int .i64 sz, .slice p2 ks.length c2], .int .i64 c] w0 fun e w' => e = .returned (.tuple #[.int .i64 0, .int .i64 10]) ∧ Below w0.heap.size w0 w' := by
  go_enter Try.func21, Try.ntmps21
  have hba := (below_alloc w0 (.cells #[.slice p1 long.length c1, .int .i64 sz, .slice p2 ks.length c2] 25)).alloc (Nat.le_of_lt (by simp)) (.cells #[.int .i64 c] 3)
  have HC := Lib.hid (check_any p1 c1 p2 c2 long sz ks _ (h.l.below hba) (h.k.below hba) h.b1 h.b2)
  clear h
  go_wp2_with (first | (refine HC.out.mono ?_; rw [checkE, hb]; rintro e w2 ⟨rfl, hb3⟩))
  go_ret2
  exact ⟨rfl, hba.trans (hb3.mono (by simp; omega))⟩

set_option maxRecDepth 10000 in
set_option maxHeartbeats 800000 in
theorem Knotty_no (p1 : Option Addr) (c1 : Nat) (p2 : Option Addr) (c2 : Nat) (long : List Int) (sz : Int) (ks : List K4) (w0 : World) (h : LogAt w0 p1 p2 long ks) (c : Int) (hb : validB long sz ks = true) (hc : c < 0 ∨ psum long long.length ≤ c) :
    Calls Try.prog 21 #[.agg #[.slice p1 long.length c1, .int .i64 sz, .slice p2 ks.length c2], .int .i64 c] w0 fun e w' => e = .returned (.tuple #[.int .i64 0, .int .i64 11]) ∧ Below w0.heap.size w0 w' := by
  have hok := valid_ok hb
  go_enter Try.func21, Try.ntmps21
  have hba := (below_alloc w0 (.cells #[.slice p1 long.length c1, .int .i64 sz, .slice p2 ks.length c2] 25)).alloc (Nat.le_of_lt (by simp)) (.cells #[.int .i64 c] 3)
  have r0 : Row _ w0.heap.size #[.slice p1 long.length c1, .int .i64 sz, .slice p2 ks.length c2] 25 := (Row.new w0 _ _).alloc (.cells #[.int .i64 c] 3)
  have r1 : Row _ (w0.heap.size + 1) #[.int .i64 c] 3 := Row.new' (w := w0.alloc (.cells #[.slice p1 long.length c1, .int .i64 sz, .slice p2 ks.length c2] 25)) (by simp) _ _
  have HC := Lib.hid (check_any p1 c1 p2 c2 long sz ks _ (h.l.below hba) (h.k.below hba) h.b1 h.b2)
  have HH := Lib.hid h
  clear h
  by_cases hneg : c < 0
  all_goals
    go_wp2_with (first | (refine HC.out.mono ?_; rw [checkE, hb]; rintro e w2 ⟨rfl, hb3⟩; have HB2 := Lib.hid (hba.trans (hb3.mono (by simp; omega))); have r2 := Lib.hid (r0.below hb3 (by simp; omega)); have r3 := Lib.hid (r1.below hb3 (by simp)); clear hb3; have k0 := r2.out.cell 0 (v := .slice p1 long.length c1) rfl; have k1 := r2.out.cell 1 (v := .int .i64 sz) rfl; have k2 := r2.out.cell 2 (v := .slice p2 ks.length c2) rfl; have hz := r3.out.lt) | (refine (unroll_of p1 c1 p2 c2 long sz ks _ (HH.out.below HB2.out) hok).mono ?_; rintro e w3 ⟨R, mb, nn, f, rfl, hR, hA, hb4⟩; have HB4 := Lib.hid (HB2.out.trans (hb4.mono (by omega))); have hz3 := hb4.size; have HA3 := Lib.hid hA; have R1 := Lib.hid (r3.out.below hb4 hz); clear hb4 hA k0 k1 k2) | (refine store_new rfl 76 _ _ rfl R.A zero76 76 rfl rfl (size76 hR.ok.s6) (by rw [R.size hR.ok.s6]; rfl) R.one ?_; have R0 := Lib.hid (Row.new w3 R.A 76); have k0 := (R1.out.alloc (.cells R.A 76)).cell 0 (v := .int .i64 c) rfl; have k1 := R0.out.cell 3 R.a3; rw [hR.wide] at k1))
    go_ret2
    exact ⟨rfl, HB4.out.alloc (by omega) _⟩

end Go.Proofs.Ytnnlbbmimdohoaa
