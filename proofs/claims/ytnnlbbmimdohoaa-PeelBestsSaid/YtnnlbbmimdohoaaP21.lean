/- The walks of layer 1: how many pieces can be hoped for. -/
import Derived.Test.YtnnlbbmimdohoaaP14
import Derived.Test.YtnnlbbmimdohoaaT2
namespace Go.Proofs.Ytnnlbbmimdohoaa
open Go.RowKit Go.Maps
attribute [local go_sem] Oper.semAt_some


theorem all_range_bools : ∀ (xs ys : List Bool), xs.length = ys.length → ((List.range xs.length).all fun i => xs.getD i false == ys.getD i false) = (xs == ys)
  | [], [], _ => rfl
  | x :: xs, y :: ys, h => by
    have ih := all_range_bools xs ys (by simpa using h)
    rw [List.length_cons, List.range_succ_eq_map, List.all_cons, List.all_map]
    simp only [List.getD_cons_zero, Function.comp_def, List.getD_cons_succ, ih, List.cons_beq_cons]
  | [], _ :: _, h => by simp at h
  | _ :: _, [], h => by simp at h
/-- Two arrays of bools, compared. -/
theorem eq_bools {P : Program} (d : Nat) (t e : TypeId) (n : Nat) (ht : P.underlying t = some (.array n e)) (he : P.underlying e = some .bool) (hsz : ∀ w, (sizeOf e).run P w = .ok 1 w)
    (xs ys : List Bool) (hx : xs.length = n) (hy : ys.length = n) (w : World) :
    (Op.equalIn (d + 2) t (.agg (boolsA xs)) (.agg (boolsA ys))).run P w = .ok (xs == ys) w := by
  rw [← all_range_bools xs ys (hx.trans hy.symm), hx, List.range_eq_range', Op.equalIn]
  simp only [Sem.run_bind, run_underlying ht, Result.andThen_ok, hsz, Std.Legacy.Range.forIn_eq_forIn_range', Std.Legacy.Range.size, Nat.sub_zero, Nat.add_sub_cancel, Nat.div_one]
  have hl : ∀ i ∈ List.range' 0 n 1, i < n := fun i hi => by simpa using (List.mem_range'_1.1 hi).2
  generalize List.range' 0 n 1 = l at hl ⊢
  induction l with
  | nil => simp
  | cons i l ih =>
    have hi : i < n := hl i (by simp)
    have px : (part e (boolsA xs) (i * 1)).run P w = .ok (.bool (xs.getD i false)) w := by
      simp [part, isAgg, run_underlying he, boolsA, List.getD, List.getElem?_eq_getElem (show i < xs.length by omega)]
    have py : (part e (boolsA ys) (i * 1)).run P w = .ok (.bool (ys.getD i false)) w := by
      simp [part, isAgg, run_underlying he, boolsA, List.getD, List.getElem?_eq_getElem (show i < ys.length by omega)]
    have pe : (Op.equalIn (d + 1) e (.bool (xs.getD i false)) (.bool (ys.getD i false))).run P w = .ok (xs.getD i false == ys.getD i false) w := run_equalIn_bool w d e _ _ he
    simp only [List.forIn_cons, Sem.run_bind, px, py, pe, Result.andThen_ok, List.all_cons]
    cases hb : (xs.getD i false == ys.getD i false)
    · simp
    · simp only [Bool.not_true, Bool.false_eq_true, if_false, Sem.run_pure, Result.andThen_ok, Bool.true_and]
      exact ih fun j hj => hl j (by simp [hj])
theorem eq88 (xs : List Bool) (hx : xs.length = 72) (w : World) : (binOp .eql 88 (.agg (boolsA xs)) (.agg Try.zeroCells88)).run Try.prog w = .ok (.bool (xs == List.replicate 72 false)) w := by
  rw [run_eql_struct, zero88, eq_bools 9998 88 4 72 (by kernel_rfl) (by kernel_rfl) (fun w => by simp [go_sem]) xs _ hx (by simp)]
  rfl

theorem ints_one (w : World) (x : Int) : IntsAt (w.alloc (.cells #[.int .i64 x] 3)) (some ⟨w.heap.size, 0, none⟩) [x] := by
  intro i hi
  obtain rfl : i = 0 := by simpa using hi
  exact ⟨w.heap.size, 0, rfl, by rw [(Row.new w _ _).cell 0 (v := .int .i64 x) rfl]; rfl⟩
theorem maxL_one (a b : Int) : maxL a [b] = max a b := rfl

set_option maxRecDepth 10000 in
set_option maxHeartbeats 800000 in
theorem Hope_bad (p1 : Option Addr) (c1 : Nat) (p2 : Option Addr) (c2 : Nat) (long : List Int) (sz : Int) (ks : List K4) (w0 : World) (h : LogAt w0 p1 p2 long ks) (hb : validB long sz ks = false) :
    Calls Try.prog 35 #[.agg #[.slice p1 long.length c1, .int .i64 sz, .slice p2 ks.length c2]] w0 fun e w' => e = .returned (.tuple #[.int .i64 0, .int .i64 10]) ∧ Below w0.heap.size w0 w' := by
  go_enter Try.func35, Try.ntmps35
  have hba := below_alloc w0 (.cells #[.slice p1 long.length c1, .int .i64 sz, .slice p2 ks.length c2] 25)
  have r0 := Row.new w0 #[.slice p1 long.length c1, .int .i64 sz, .slice p2 ks.length c2] 25
  have HC := Lib.hid (check_any p1 c1 p2 c2 long sz ks _ (h.l.below hba) (h.k.below hba) h.b1 h.b2)
  have HH := Lib.hid h
  clear h
  go_wp2_with (first | (refine HC.out.mono ?_; rw [checkE, hb]; rintro e w2 ⟨rfl, hb3⟩))
  go_ret2
  exact ⟨rfl, hba.trans (hb3.mono (by simp))⟩


set_option maxRecDepth 10000 in
set_option maxHeartbeats 800000 in
theorem Hope_good (p1 : Option Addr) (c1 : Nat) (p2 : Option Addr) (c2 : Nat) (long : List Int) (sz : Int) (ks : List K4) (w0 : World) (h : LogAt w0 p1 p2 long ks) (hb : validB long sz ks = true) :
    Calls Try.prog 35 #[.agg #[.slice p1 long.length c1, .int .i64 sz, .slice p2 ks.length c2]] w0 fun e w' => e = .returned (.tuple #[.int .i64 (hopeD long sz ks), .int .i64 0]) ∧ Below w0.heap.size w0 w' := by
  have hok := valid_ok hb
  refine calls_marks Try.func35 rfl ?_
  simp only [Try.ntmps35, List.size_toArray, List.length_cons, List.length_nil, Nat.reduceAdd, Nat.reduceSub, Array.replicate_succ, Array.replicate_zero, List.push_toArray, List.append_toArray, List.nil_append, List.cons_append]
  have hba := below_alloc w0 (.cells #[.slice p1 long.length c1, .int .i64 sz, .slice p2 ks.length c2] 25)
  have r0 := Row.new w0 #[.slice p1 long.length c1, .int .i64 sz, .slice p2 ks.length c2] 25
  have HC := Lib.hid (check_any p1 c1 p2 c2 long sz ks _ (h.l.below hba) (h.k.below hba) h.b1 h.b2)
  have HH := Lib.hid h
  clear h
  go_wp2_with (first | (refine HC.out.mono ?_; rw [checkE, hb]; rintro e w2 ⟨rfl, hb3⟩; have HB2 := Lib.hid (hba.trans (hb3.mono (by simp))); have r2 := Lib.hid (r0.below hb3 (by simp)); clear hb3; have k0 := r2.out.cell 0 (v := .slice p1 long.length c1) rfl; have k1 := r2.out.cell 1 (v := .int .i64 sz) rfl; have k2 := r2.out.cell 2 (v := .slice p2 ks.length c2) rfl; have hz := r2.out.lt) | (refine (unroll_of p1 c1 p2 c2 long sz ks _ (HH.out.below HB2.out) hok).mono ?_; rintro e w3 ⟨R, mb, nn, f, rfl, hR, hA, hb4⟩; have HB4 := Lib.hid (HB2.out.trans (hb4.mono (by omega))); have hz3 := hb4.size; have HA3 := Lib.hid hA; clear hb4 hA k0 k1 k2) | (refine store_new rfl 76 _ _ rfl R.A zero76 76 rfl rfl (size76 hR.ok.s6) (by rw [R.size hR.ok.s6]; rfl) R.one ?_) | (refine load_row rfl 76 _ rfl _ rfl 76 _ _ ((Row.new w3 R.A 76).alloc (.cells #[.int .i64 0] 3)) Try.underlying76 rfl (size76 hR.ok.s6) ?_) | (refine (truths_any R hR.ok.s6 _).mono ?_; rintro e w5 ⟨rfl, rfl⟩))
  have hA5 := ((HA3.out.below (below_alloc w3 (.cells R.A 76))).below (below_alloc _ (.cells #[.int .i64 0] 3))).below (below_alloc _ (.cells R.A 76))
  have hB5 : Below w0.heap.size w0 (((w3.alloc (.cells R.A 76)).alloc (.cells #[.int .i64 0] 3)).alloc (.cells R.A 76)) := ((HB4.out.alloc (by omega) _).alloc (by simp; omega) _).alloc (by simp; omega) _
  have rR : Row (((w3.alloc (.cells R.A 76)).alloc (.cells #[.int .i64 0] 3)).alloc (.cells R.A 76)) w3.heap.size R.A 76 := ((Row.new _ _ _).alloc _).alloc _
  have rM : Row (((w3.alloc (.cells R.A 76)).alloc (.cells #[.int .i64 0] 3)).alloc (.cells R.A 76)) (w3.heap.size + 1) #[.int .i64 0] 3 := (Row.new' (by simp) _ _).alloc _
  have rT : Row (((w3.alloc (.cells R.A 76)).alloc (.cells #[.int .i64 0] 3)).alloc (.cells R.A 76)) (w3.heap.size + 1 + 1) R.A 76 := Row.new' (by simp) _ _
  have hs5 : w3.heap.size + 1 + 1 + 1 = (((w3.alloc (.cells R.A 76)).alloc (.cells #[.int .i64 0] 3)).alloc (.cells R.A 76)).heap.size := by simp
  have HS5 := Lib.hid hs5
  have HW := Lib.hid (show w0.heap.size < w3.heap.size by omega)
  clear hs5 hba r0 HC HA3 HB4 HB2 r2
  go_wp2_with fail
  generalize (((w3.alloc (.cells R.A 76)).alloc (.cells #[.int .i64 0] 3)).alloc (.cells R.A 76)) = w5 at *
  have RR := Lib.hid rR
  have HA5 := Lib.hid hA5
  have HB5 := Lib.hid hB5
  have hk0 : KnotsAt w0 R.p2 ks := by rw [hR.p2]; exact HH.out.k
  have hnM := not_reads (b := w3.heap.size + 1 + 1) hA5 rM (by omega) hk0 (by have := HW.out; omega)
  clear rR hA5 hB5
  refine range_law 85 #[.pointer (some ⟨w3.heap.size + 1 + 1, 0, none⟩)] (readsR R ks (w3.heap.size + 1 + 1) mb) ((truthsD long ks).map fun c => #[cols c]) rfl (fun args w => Try.call85 args w)
    (fun W1 hb _ => truths_of hR hok _ W1 (rT.below hb (by have := HS5.out; omega)) (HA5.out.below hb)) (by intro x hx; simp at hx; obtain ⟨_, _, rfl⟩ := hx; rfl) (fun m => m = w3.heap.size + 1)
    (by rintro m rfl; exact ⟨by have := HS5.out; omega, hnM⟩) (not_reads_new HA5.out rT (by omega))
    (fun j A => Row A (w3.heap.size + 1) #[.int .i64 (((hopesD long sz ks).take j).foldl max 0)] 3) (fun c A => c = .exit 0 ∧ Row A (w3.heap.size + 1) #[.int .i64 (hopeD long sz ks)] 3)
    (fun j A B h hb => by have := HS5.out; exact Row.below h hb (by omega)) (fun c A B h hb => by have := HS5.out; exact ⟨h.1, h.2.below hb (by omega)⟩) rM ?body ?done ?stop
  case body =>
    rintro l j x A rfl hx hI hkeep hlA
    obtain ⟨kn, hq, rfl⟩ := map_at hx
    have hlen := truthsD_length (List.mem_of_getElem? hq)
    have HLEN := Lib.hid hlen
    have HST := Lib.hid (hope_step (sz := sz) hq)
    have HSTOP := Lib.hid (fun e : kn = List.replicate 72 false => hope_stop (ks := ks) hok.s1 (by rw [← e]; exact hq))
    have hln := cutD_short hok kn
    have hmr := hope_range hok j
    have RR2 := Lib.hid (RR.out.keeps hkeep (by omega))
    generalize hmo : ((hopesD long sz ks).take j).foldl max 0 = mo at *
    clear hmo hx hq hkeep
    rw [cols_def]
    gi_wp2_with (first | (refine store_newIn rfl 88 _ _ rfl (boolsA kn) Try.zeroCells88 88 rfl rfl (size88 HLEN.out) (by rw [zero88, boolsA_size, boolsA_size, HLEN.out, List.length_replicate]) (boolsA_one _) ?_))
    refine ⟨(KeepsBut.refl _ _).alloc _, fun oo => ?_⟩
    generalize hA2 : (A.alloc (Obj.cells (boolsA kn) 88)).putObj (w5.heap.size + 1) oo = A2
    have hsame : ∀ m, m ≠ w5.heap.size + 1 → A2.heap[m]? = (A.alloc (Obj.cells (boolsA kn) 88)).heap[m]? := fun m hm => by rw [← hA2]; exact World.putObj_heap_other hm
    have q0 : Row A2 w3.heap.size R.A 76 := by unfold Row; rw [hsame _ (by have := HS5.out; omega)]; exact RR2.out.alloc _
    have qm : Row A2 (w3.heap.size + 1) #[.int .i64 mo] 3 := by unfold Row; rw [hsame _ (by have := HS5.out; omega)]; exact Row.alloc hI _
    have qk : Row A2 A.heap.size (boolsA kn) 88 := by unfold Row; rw [hsame _ (by omega)]; exact Row.new _ _ _
    have HAS := Lib.hid (show w3.heap.size + 1 + 1 < A.heap.size by have := HS5.out; omega)
    have heq := eq88 kn hlen
    have HEQ := Lib.hid heq
    clear hsame hA2 hI RR2 hlen heq hnM rM rT hk0
    gi_wp2_with fail
    refine region_invIn rfl (by kernel_rfl) (by kernel_rfl) (fun L a v => ∃ x18 x19 x20 x21 x22 x23 : Value, a = { tmps := #[.agg #[.slice p1 long.length c1, .int .i64 sz, .slice p2 ks.length c2], .pointer (some ⟨w0.heap.size, 0, none⟩), .int .i64 0, .int .i64 0, .int .i64 0, .pointer (some ⟨w3.heap.size, 0, none⟩), .pointer (some ⟨w3.heap.size + 1, 0, none⟩), .pointer (some ⟨A.heap.size, 0, none⟩), .agg #[.slice p1 long.length c1, .int .i64 sz, .slice p2 ks.length c2], .int .i64 0, .int .i64 0, .bool false, undef, .agg #[.slice p1 long.length c1, .int .i64 sz, .slice p2 ks.length c2], .agg R.A, .agg R.A, .func (.func 85) #[] #[.pointer (some ⟨w3.heap.size + 1 + 1, 0, none⟩)], .agg (boolsA kn), x18, x19, x20, x21, x22, x23, undef, undef, undef, undef], defers := [] } ∧ Hid (L 0 = true → x18 = .int .i64 mo) ∧ Hid (L 1 = true → x19 = .agg R.A) ∧ Hid (L 2 = true → x20 = .agg (boolsA kn)) ∧ Hid (L 3 = true → x21 = .int .i64 ((cutD long sz kn).length : Int)) ∧ Hid (L 5 = true → x23 = .int .i64 (max mo ((cutD long sz kn).length : Int))) ∧ Hid (Row v w3.heap.size R.A 76) ∧ Hid (Row v A.heap.size (boolsA kn) 88) ∧ Hid (L 6 = false → Row v (w3.heap.size + 1) #[.int .i64 mo] 3) ∧ Hid (L 6 = true → Row v (w3.heap.size + 1) #[.int .i64 (max mo ((cutD long sz kn).length : Int))] 3) ∧ Hid (L 4 = true → L 5 = false → ∃ g, x22 = .slice (some ⟨g, 0, none⟩) 1 1 ∧ IntsAt v (some ⟨g, 0, none⟩) [((cutD long sz kn).length : Int)]) ∧ Hid (L 6 = true → L 0 = true) ∧ Hid (KeepsBut (fun m => m = w3.heap.size + 1) A2 v)) ?h0 ?steps ?hd
    case h0 => exact ⟨_, _, _, _, _, _, rfl, Lib.hid nofun, Lib.hid nofun, Lib.hid nofun, Lib.hid nofun, Lib.hid nofun, Lib.hid (q0), Lib.hid (qk), Lib.hid (fun _ => qm), Lib.hid (nofun), Lib.hid (fun h => by cases h), Lib.hid (nofun), Lib.hid ((KeepsBut.refl _ _).drew)⟩
    case hd =>
      rintro L a v hL ⟨x18, x19, x20, x21, x22, x23, rfl, hf0, hf1, hf2, hf3, hf5, hr0, hkn, hm, hm2, hsl, hord, hkb⟩
      obtain rfl := hf0.out (hL 0 (by decide))
      obtain rfl := hf1.out (hL 1 (by decide))
      obtain rfl := hf2.out (hL 2 (by decide))
      obtain rfl := hf3.out (hL 3 (by decide))
      obtain rfl := hf5.out (hL 5 (by decide))
      clear hf0
      clear hf1
      clear hf2
      clear hf3
      clear hf5
      have hmz := hm2.out (hL 6 (by decide))
      clear hL hm hm2 hsl hord
      cases hz : (kn == List.replicate 72 false)
      · have he : ∀ w, (binOp .eql 88 (.agg (boolsA kn)) (.agg Try.zeroCells88)).run Try.prog w = .ok (.bool false) w := fun w => by rw [HEQ.out w, hz]
        gi_wp2_with (first | (refine load_rowIn rfl 88 _ rfl _ rfl 88 _ _ hkn.out Try.underlying88 rfl (size88 HLEN.out) ?_))
        exact ⟨hkb.out, by rw [HST.out]; exact hmz⟩
      · have he : ∀ w, (binOp .eql 88 (.agg (boolsA kn)) (.agg Try.zeroCells88)).run Try.prog w = .ok (.bool true) w := fun w => by rw [HEQ.out w, hz]
        gi_wp2_with (first | (refine load_rowIn rfl 88 _ rfl _ rfl 88 _ _ hkn.out Try.underlying88 rfl (size88 HLEN.out) ?_))
        exact ⟨hkb.out, rfl, by rw [← HSTOP.out (by simpa using hz), HST.out]; exact hmz⟩
    case steps =>
      refine ⟨?_, ?_, ?_, ?_, ?_, ?_, ?_, trivial⟩
      · rintro L a v hL hk ⟨x18, x19, x20, x21, x22, x23, rfl, hf0, hf1, hf2, hf3, hf5, hr0, hkn, hm, hm2, hsl, hord, hkb⟩ K hK
        have HK0 := Lib.hid hK
        clear hK
        clear hL
        have h6 : L 6 = false := by cases h7 : L 6; rfl; exact absurd (hord.out h7) (by simp [hk])
        have c0 := (hm.out h6).cell 0 (v := .int .i64 mo) rfl
        clear hk
        go_wp2
        exact HK0.out _ _ ⟨_, _, _, _, _, _, rfl, Lib.hid (fun _ => rfl), Lib.hid (fun h => hf1.out (by simpa [upd] using h)), Lib.hid (fun h => hf2.out (by simpa [upd] using h)), Lib.hid (fun h => hf3.out (by simpa [upd] using h)), Lib.hid (fun h => hf5.out (by simpa [upd] using h)), hr0, hkn, Lib.hid (fun h => hm.out (by simpa [upd] using h)), Lib.hid (fun h => hm2.out (by simpa [upd] using h)), Lib.hid (fun h h5 => hsl.out (by simpa [upd] using h) (by simpa [upd] using h5)), Lib.hid (fun h => by have := hord.out (by simpa [upd] using h); first | (simp [upd]; done) | (simp [upd]; simp [this])), hkb⟩
      · rintro L a v hL hk ⟨x18, x19, x20, x21, x22, x23, rfl, hf0, hf1, hf2, hf3, hf5, hr0, hkn, hm, hm2, hsl, hord, hkb⟩ K hK
        have HK0 := Lib.hid hK
        clear hK
        clear hL
        clear hk
        refine wp_load_row 76 _ rfl _ rfl 76 _ (0, 0) _ hr0.out Try.underlying76 rfl (size76 hR.ok.s6) ?_
        exact HK0.out _ _ ⟨_, _, _, _, _, _, rfl, Lib.hid (fun h => hf0.out (by simpa [upd] using h)), Lib.hid (fun _ => rfl), Lib.hid (fun h => hf2.out (by simpa [upd] using h)), Lib.hid (fun h => hf3.out (by simpa [upd] using h)), Lib.hid (fun h => hf5.out (by simpa [upd] using h)), hr0, hkn, Lib.hid (fun h => hm.out (by simpa [upd] using h)), Lib.hid (fun h => hm2.out (by simpa [upd] using h)), Lib.hid (fun h h5 => hsl.out (by simpa [upd] using h) (by simpa [upd] using h5)), Lib.hid (fun h => by have := hord.out (by simpa [upd] using h); first | (simp [upd]; done) | (simp [upd]; simp [this])), hkb⟩
      · rintro L a v hL hk ⟨x18, x19, x20, x21, x22, x23, rfl, hf0, hf1, hf2, hf3, hf5, hr0, hkn, hm, hm2, hsl, hord, hkb⟩ K hK
        have HK0 := Lib.hid hK
        clear hK
        clear hL
        clear hk
        refine wp_load_row 88 _ rfl _ rfl 88 _ (0, 0) _ hkn.out Try.underlying88 rfl (size88 HLEN.out) ?_
        exact HK0.out _ _ ⟨_, _, _, _, _, _, rfl, Lib.hid (fun h => hf0.out (by simpa [upd] using h)), Lib.hid (fun h => hf1.out (by simpa [upd] using h)), Lib.hid (fun _ => rfl), Lib.hid (fun h => hf3.out (by simpa [upd] using h)), Lib.hid (fun h => hf5.out (by simpa [upd] using h)), hr0, hkn, Lib.hid (fun h => hm.out (by simpa [upd] using h)), Lib.hid (fun h => hm2.out (by simpa [upd] using h)), Lib.hid (fun h h5 => hsl.out (by simpa [upd] using h) (by simpa [upd] using h5)), Lib.hid (fun h => by have := hord.out (by simpa [upd] using h); first | (simp [upd]; done) | (simp [upd]; simp [this])), hkb⟩
      · rintro L a v hL hk ⟨x18, x19, x20, x21, x22, x23, rfl, hf0, hf1, hf2, hf3, hf5, hr0, hkn, hm, hm2, hsl, hord, hkb⟩ K hK
        have HK0 := Lib.hid hK
        clear hK
        obtain rfl := hf1.out (after_on hL 1 rfl)
        obtain rfl := hf2.out (after_on hL 2 rfl)
        clear hL
        clear hk
        go_wp2_with fail
        refine (pieces_of hR hok kn HLEN.out _).mono ?_
        rintro e w6 ⟨rfl, hb6⟩
        exact HK0.out _ _ ⟨_, _, _, _, _, _, rfl, Lib.hid (fun h => hf0.out (by simpa [upd] using h)), Lib.hid (fun _ => rfl), Lib.hid (fun _ => rfl), Lib.hid (fun _ => rfl), Lib.hid (fun h => hf5.out (by simpa [upd] using h)), Lib.hid (hr0.out.below hb6 hr0.out.lt), Lib.hid (hkn.out.below hb6 hkn.out.lt), Lib.hid (fun h => (hm.out (by simpa [upd] using h)).below hb6 (hm.out (by simpa [upd] using h)).lt), Lib.hid (fun h => (hm2.out (by simpa [upd] using h)).below hb6 (hm2.out (by simpa [upd] using h)).lt), Lib.hid (fun h h5 => (hsl.out (by simpa [upd] using h) (by simpa [upd] using h5)).imp fun g h => ⟨h.1, h.2.below hb6⟩), Lib.hid (fun h => by have := hord.out (by simpa [upd] using h); first | (simp [upd]; done) | (simp [upd]; simp [this])), Lib.hid (hkb.out.after hb6)⟩
      · rintro L a v hL hk ⟨x18, x19, x20, x21, x22, x23, rfl, hf0, hf1, hf2, hf3, hf5, hr0, hkn, hm, hm2, hsl, hord, hkb⟩ K hK
        have HK0 := Lib.hid hK
        clear hK
        obtain rfl := hf3.out (after_on hL 3 rfl)
        clear hL
        clear hk
        go_wp2
        exact HK0.out _ _ ⟨_, _, _, _, _, _, rfl, Lib.hid (fun h => hf0.out (by simpa [upd] using h)), Lib.hid (fun h => hf1.out (by simpa [upd] using h)), Lib.hid (fun h => hf2.out (by simpa [upd] using h)), Lib.hid (fun _ => rfl), Lib.hid (fun h => hf5.out (by simpa [upd] using h)), Lib.hid (hr0.out.below (below_alloc v _) hr0.out.lt), Lib.hid (hkn.out.below (below_alloc v _) hkn.out.lt), Lib.hid (fun h => (hm.out (by simpa [upd] using h)).below (below_alloc v _) (hm.out (by simpa [upd] using h)).lt), Lib.hid (fun h => (hm2.out (by simpa [upd] using h)).below (below_alloc v _) (hm2.out (by simpa [upd] using h)).lt), Lib.hid (fun _ _ => ⟨_, rfl, ints_one _ _⟩), Lib.hid (fun h => by have := hord.out (by simpa [upd] using h); first | (simp [upd]; done) | (simp [upd]; simp [this])), Lib.hid (hkb.out.after (below_alloc v _))⟩
      · rintro L a v hL hk ⟨x18, x19, x20, x21, x22, x23, rfl, hf0, hf1, hf2, hf3, hf5, hr0, hkn, hm, hm2, hsl, hord, hkb⟩ K hK
        have HK0 := Lib.hid hK
        clear hK
        obtain rfl := hf0.out (after_on hL 0 rfl)
        obtain ⟨g, rfl, hi⟩ := hsl.out (after_on hL 4 rfl) hk
        clear hL hk
        go_wp2_with fail
        refine (greatest_any mo (some ⟨g, 0, none⟩) 1 [((cutD long sz kn).length : Int)] _ (by simp [maxLen]) hi).mono ?_
        rintro e w6 ⟨rfl, rfl⟩
        rw [maxL_one]
        exact HK0.out _ _ ⟨_, _, _, _, _, _, rfl, Lib.hid (fun _ => rfl), Lib.hid (fun h => hf1.out (by simpa [upd] using h)), Lib.hid (fun h => hf2.out (by simpa [upd] using h)), Lib.hid (fun h => hf3.out (by simpa [upd] using h)), Lib.hid (fun _ => rfl), hr0, hkn, Lib.hid (fun h => hm.out (by simpa [upd] using h)), Lib.hid (fun h => hm2.out (by simpa [upd] using h)), Lib.hid (fun _ h => by simp [upd] at h), Lib.hid (fun h => by have := hord.out (by simpa [upd] using h); first | (simp [upd]; done) | (simp [upd]; simp [this])), hkb⟩
      · rintro L a v hL hk ⟨x18, x19, x20, x21, x22, x23, rfl, hf0, hf1, hf2, hf3, hf5, hr0, hkn, hm, hm2, hsl, hord, hkb⟩ K hK
        have HK0 := Lib.hid hK
        clear hK
        obtain rfl := hf5.out (after_on hL 5 rfl)
        have hrz := hm.out hk
        have f0 := hrz.free 0
        have c0 := hrz.cell 0 (v := .int .i64 mo) rfl
        have HLL := Lib.hid hL
        clear hL hk
        go_wp2
        exact HK0.out _ _ ⟨_, _, _, _, _, _, rfl, Lib.hid (fun h => hf0.out (by simpa [upd] using h)), Lib.hid (fun h => hf1.out (by simpa [upd] using h)), Lib.hid (fun h => hf2.out (by simpa [upd] using h)), Lib.hid (fun h => hf3.out (by simpa [upd] using h)), Lib.hid (fun _ => rfl), Lib.hid (hr0.out.set_other _ _ (by dsimp only; omega)), Lib.hid (hkn.out.set_other _ _ (by have := HAS.out; dsimp only; omega)), Lib.hid (fun h => by simp [upd] at h), Lib.hid (fun _ => hrz.set 0 _), Lib.hid (fun _ h5 => absurd (after_on HLL.out 5 rfl) (by have h9 : L 5 = false := (by simpa [upd] using h5); simp [h9])), Lib.hid (fun _ => by rw [upd_other _ (by decide)]; exact after_on HLL.out 0 rfl), Lib.hid (hkb.out.setCell (.inl rfl) _)⟩
  case done =>
    intro W3 hI hkeep hsz hD
    have hI : Row W3 (w3.heap.size + 1) #[.int .i64 (((hopesD long sz ks).take ((truthsD long ks).map fun c => #[cols c]).length).foldl max 0)] 3 := hI
    rw [List.length_map, List.take_of_length_le (by simp [hopesD])] at hI
    have hmarks := (show Marks w0.heap.size [] w5 from trivial).push hkeep (fun m oo hm h => by subst hm; unfold Row at rM; rw [rM] at h; cases h) (by have := HS5.out; have := HW.out; omega) hD
    have HM := Lib.hid hmarks
    have HB6 := Lib.hid (HB5.out.trans (hkeep.below (n := w0.heap.size) (by have := HS5.out; have := HW.out; omega) (fun m hm => by have := HS5.out; have := HW.out; omega)))
    have cM := hI.cell 0 (v := .int .i64 ((hopesD long sz ks).foldl max 0)) rfl
    clear hkeep hD hmarks hI rM rT hnM hk0
    go_wp2
    refine marks_leave HM.out (fun B2 hB2 => ⟨_, results_tmp2 rfl _ _ _, ?_⟩)
    exact ⟨rfl, HB6.out.trans hB2.below⟩
  case stop =>
    rintro c W3 ⟨rfl, hI⟩ hkeep hsz hD
    have hmarks := (show Marks w0.heap.size [] w5 from trivial).push hkeep (fun m oo hm h => by subst hm; unfold Row at rM; rw [rM] at h; cases h) (by have := HS5.out; have := HW.out; omega) hD
    have HM := Lib.hid hmarks
    have HB6 := Lib.hid (HB5.out.trans (hkeep.below (n := w0.heap.size) (by have := HS5.out; have := HW.out; omega) (fun m hm => by have := HS5.out; have := HW.out; omega)))
    have cM := hI.cell 0 (v := .int .i64 (hopeD long sz ks)) rfl
    clear hkeep hD hmarks hI rM rT hnM hk0
    go_wp2
    refine marks_leave HM.out (fun B2 hB2 => ⟨_, results_tmp2 rfl _ _ _, ?_⟩)
    exact ⟨rfl, HB6.out.trans hB2.below⟩

end Go.Proofs.Ytnnlbbmimdohoaa
