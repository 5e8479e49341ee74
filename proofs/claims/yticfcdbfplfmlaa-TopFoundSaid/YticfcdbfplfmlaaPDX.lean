/- Layer 1, in plain lists: fewer knots, more pieces; the greatest of several numbers. -/
import Derived.Test.YticfcdbfplfmlaaPCX
import Derived.ArgAppend
import Derived.Deep.Upon
namespace Go.Proofs.Yticfcdbfplfmlaa.Pe
open Go.RowKit

theorem b0_wholeL {kn : List Bool} {sz : Nat} {wide : Int} {i : Nat} : b0 (wholeL kn sz wide) i = (decide (i < 72) && decide (i < (wide - sz + 1).toNat) && freeAt kn i sz) := by
  by_cases hi : i < 72
  · rw [b0_lt (by rw [wholeL_length]; exact hi)]
    have := wholeTo_at kn sz (wide - sz + 1).toNat i hi
    rw [List.getElem?_eq_getElem (by rw [wholeTo_length]; exact hi)] at this
    simp only [wholeL, Option.some.inj this, hi, decide_true, Bool.true_and]
  · simp [b0, List.getD_eq_getElem?_getD, wholeL, wholeTo, hi]
theorem freeAt_iff {kn : List Bool} {i sz : Nat} : freeAt kn i sz = true ↔ ∀ j, j < sz → b0 kn (i + j) = false := by
  simp [freeAt, List.all_eq_true]
theorem b0_wholesD {long : List Int} {sz : Int} {kn : List Bool} {i : Nat} : b0 (wholesD long sz kn) i = true ↔ i < 72 ∧ i < (psum long long.length - sz.toNat + 1).toNat ∧ ∀ j, j < sz.toNat → b0 kn (i + j) = false := by
  rw [wholesD, b0_wholeL]
  simp only [Bool.and_eq_true, decide_eq_true_eq, freeAt_iff]
  constructor
  · rintro ⟨⟨a, b⟩, c⟩; exact ⟨a, b, c⟩
  · rintro ⟨a, b, c⟩; exact ⟨⟨a, b⟩, c⟩
/-- Where there are fewer knots, more pieces are whole. -/
theorem wholesD_mono {long : List Int} {sz : Int} {kn kn' : List Bool} (h : ∀ i, b0 kn' i = true → b0 kn i = true) (i : Nat) (hi : b0 (wholesD long sz kn) i = true) : b0 (wholesD long sz kn') i = true := by
  rw [b0_wholesD] at hi ⊢
  refine ⟨hi.1, hi.2.1, fun j hj => ?_⟩
  have := hi.2.2 j hj
  cases hb : b0 kn' (i + j)
  · rfl
  · rw [h _ hb] at this; cases this
theorem b0_false (n i : Nat) : b0 (List.replicate n false) i = false := by
  by_cases h : i < n
  · simp [b0, h]
  · simp [b0, List.getD_eq_getElem?_getD, h]
theorem cutD_mono {long : List Int} {sz : Int} (h1 : 1 ≤ sz) {kn kn' : List Bool} (h : ∀ i, b0 kn' i = true → b0 kn i = true) : (cutD long sz kn).length ≤ (cutD long sz kn').length :=
  greedy_mono (by omega) (Nat.le_refl _) (wholesD_mono h)

theorem maxF (l : List Int) : ∀ m, m ≤ l.foldl max m ∧ (∀ x ∈ l, x ≤ l.foldl max m) ∧ (l.foldl max m = m ∨ l.foldl max m ∈ l) := by
  induction l with
  | nil => intro m; simp
  | cons a l ih =>
    intro m
    obtain ⟨h1, h2, h3⟩ := ih (max m a)
    rw [List.foldl_cons]
    refine ⟨by omega, ?_, ?_⟩
    · intro x hx
      rcases List.mem_cons.1 hx with rfl | hx
      · omega
      · exact h2 x hx
    · rcases h3 with h3 | h3
      · rcases Int.le_total m a with h | h
        · right; rw [h3, show max m a = a by omega]; simp
        · left; omega
      · right; exact List.mem_cons_of_mem _ h3
/-- No number behind a place is greater than the one that stands there. -/
theorem maxF_stop {l : List Int} {j : Nat} {m x : Int} (hx : l[j]? = some x) (h : ∀ y ∈ l, y ≤ x) : (l.take (j + 1)).foldl max m = l.foldl max m := by
  obtain ⟨a1, a2, a3⟩ := maxF (l.take (j + 1)) m
  obtain ⟨b1, b2, b3⟩ := maxF l m
  have hxt : x ∈ l.take (j + 1) := by rw [List.take_add_one, hx]; simp
  have := a2 x hxt
  have h2 : (l.take (j + 1)).foldl max m ≤ l.foldl max m := by
    rcases a3 with e | e
    · omega
    · exact b2 _ (List.mem_of_mem_take e)
  rcases b3 with e | e
  · omega
  · have := h _ e; omega

/-- How many pieces can be cut in each truth. -/
def hopesD (long : List Int) (sz : Int) (ks : List K4) : List Int := (truthsD long ks).map fun kn => ((cutD long sz kn).length : Int)
theorem hope_stop {long : List Int} {sz : Int} {ks : List K4} (h1 : 1 ≤ sz) {j : Nat} (hj : (truthsD long ks)[j]? = some (List.replicate 72 false)) : ((hopesD long sz ks).take (j + 1)).foldl max 0 = hopeD long sz ks := by
  refine maxF_stop (x := ((cutD long sz (List.replicate 72 false)).length : Int)) (by rw [hopesD, List.getElem?_map, hj]; rfl) ?_
  intro y hy
  simp only [hopesD, List.mem_map] at hy
  obtain ⟨kn, _, rfl⟩ := hy
  have := cutD_mono (long := long) h1 (kn := kn) (kn' := List.replicate 72 false) (fun i hi => by rw [b0_false] at hi; cases hi)
  omega
theorem hope_step {long : List Int} {sz : Int} {ks : List K4} {j : Nat} {kn : List Bool} (hj : (truthsD long ks)[j]? = some kn) : ((hopesD long sz ks).take (j + 1)).foldl max 0 = max (((hopesD long sz ks).take j).foldl max 0) ((cutD long sz kn).length : Int) := by
  rw [List.take_add_one, hopesD, List.getElem?_map, hj]
  simp
theorem hope_range {long : List Int} {sz : Int} {ks : List K4} (hv : LogOk long sz ks) (j : Nat) : 0 ≤ ((hopesD long sz ks).take j).foldl max 0 ∧ ((hopesD long sz ks).take j).foldl max 0 ≤ 72 := by
  obtain ⟨a, b, c⟩ := maxF ((hopesD long sz ks).take j) 0
  refine ⟨a, ?_⟩
  rcases c with e | e
  · omega
  · have hm := List.mem_of_mem_take e
    generalize ((hopesD long sz ks).take j).foldl max 0 = v at *
    simp only [hopesD, List.mem_map] at hm
    obtain ⟨kn, _, h⟩ := hm
    have h1 := hv.s1
    have hw := wideN_eq hv.L
    have := cutL_length (c := wholesD long sz kn) (sz := sz.toNat) (wide := wideN long) (by omega) (wideN long + 1) 0 (by omega)
    rw [← h]
    unfold cutD
    omega

end Go.Proofs.Yticfcdbfplfmlaa.Pe
/- The walks of layer 1: how many pieces can be hoped for. -/
namespace Go.Proofs.Yticfcdbfplfmlaa.Pe
open Go.RowKit Go.Maps
attribute [local go_sem] Oper.semAt_some


theorem all_range_bools : ∀ (xs ys : List Bool), xs.length = ys.length → ((List.range xs.length).all fun i => xs.getD i false == ys.getD i false) = (xs == ys)
  | [], [], _ => rfl
  | x :: xs, y :: ys, h => by
    have ih := all_range_bools xs ys (by simpa using h)
    rw [List.length_cons, List.range_succ_eq_map, List.all_cons, List.all_map]
    simp only [List.getD_cons_zero, Function.comp_def, List.getD_cons_succ, ih, List.cons_beq_cons]
  | [], _ :: _, h => by simp at h
  | _ :: _, [], h => by simp at h
/-- Two arrays of bools, compared. -/
theorem eq_bools {P : Program} (d : Nat) (t e : TypeId) (n : Nat) (ht : P.underlying t = some (.array n e)) (he : P.underlying e = some .bool) (hsz : ∀ w, (sizeOf e).run P w = .ok 1 w)
    (xs ys : List Bool) (hx : xs.length = n) (hy : ys.length = n) (w : World) :
    (Op.equalIn (d + 2) t (.agg (boolsA xs)) (.agg (boolsA ys))).run P w = .ok (xs == ys) w := by
  rw [← all_range_bools xs ys (hx.trans hy.symm), hx, List.range_eq_range', Op.equalIn]
  simp only [Sem.run_bind, run_underlying ht, Result.andThen_ok, hsz, Std.Legacy.Range.forIn_eq_forIn_range', Std.Legacy.Range.size, Nat.sub_zero, Nat.add_sub_cancel, Nat.div_one]
  have hl : ∀ i ∈ List.range' 0 n 1, i < n := fun i hi => by simpa using (List.mem_range'_1.1 hi).2
  generalize List.range' 0 n 1 = l at hl ⊢
  induction l with
  | nil => simp
  | cons i l ih =>
    have hi : i < n := hl i (by simp)
    have px : (part e (boolsA xs) (i * 1)).run P w = .ok (.bool (xs.getD i false)) w := by
      simp [part, isAgg, run_underlying he, boolsA, List.getD, List.getElem?_eq_getElem (show i < xs.length by omega)]
    have py : (part e (boolsA ys) (i * 1)).run P w = .ok (.bool (ys.getD i false)) w := by
      simp [part, isAgg, run_underlying he, boolsA, List.getD, List.getElem?_eq_getElem (show i < ys.length by omega)]
    have pe : (Op.equalIn (d + 1) e (.bool (xs.getD i false)) (.bool (ys.getD i false))).run P w = .ok (xs.getD i false == ys.getD i false) w := run_equalIn_bool w d e _ _ he
    simp only [List.forIn_cons, Sem.run_bind, px, py, pe, Result.andThen_ok, List.all_cons]
    cases hb : (xs.getD i false == ys.getD i false)
    · simp
    · simp only [Bool.not_true, Bool.false_eq_true, if_false, Sem.run_pure, Result.andThen_ok, Bool.true_and]
      exact ih fun j hj => hl j (by simp [hj])
theorem eq88 (xs : List Bool) (hx : xs.length = 72) (w : World) : (binOp .eql 108 (.agg (boolsA xs)) (.agg Try.zeroCells108)).run Try.prog w = .ok (.bool (xs == List.replicate 72 false)) w := by
  rw [run_eql_struct, zero88, eq_bools 9998 108 4 72 (by kernel_rfl) (by kernel_rfl) (fun w => by simp [go_sem]) xs _ hx (by simp)]
  rfl

theorem ints_one (w : World) (x : Int) : IntsAt (w.alloc (.cells #[.int .i64 x] 3)) (some ⟨w.heap.size, 0, none⟩) [x] := by
  intro i hi
  obtain rfl : i = 0 := by simpa using hi
  exact ⟨w.heap.size, 0, rfl, by rw [(Row.new w _ _).cell 0 (v := .int .i64 x) rfl]; rfl⟩
theorem maxL_one (a b : Int) : maxL a [b] = max a b := rfl

set_option maxRecDepth 10000 in
set_option maxHeartbeats 800000 in
theorem Hope_bad (p1 : Option Addr) (c1 : Nat) (p2 : Option Addr) (c2 : Nat) (long : List Int) (sz : Int) (ks : List K4) (w0 : World) (h : LogAt w0 p1 p2 long ks) (hb : validB long sz ks = false) :
    Calls Try.prog 17 #[.agg #[.slice p1 long.length c1, .int .i64 sz, .slice p2 ks.length c2]] w0 fun e w' => e = .returned (.tuple #[.int .i64 0, .int .i64 10]) ∧ Below w0.heap.size w0 w' := by
  go_enter Try.func17, Try.ntmps17
  have hba := below_alloc w0 (.cells #[.slice p1 long.length c1, .int .i64 sz, .slice p2 ks.length c2] 25)
  have r0 := Row.new w0 #[.slice p1 long.length c1, .int .i64 sz, .slice p2 ks.length c2] 25
  have HC := Lib.hid (check_any p1 c1 p2 c2 long sz ks _ (h.l.below hba) (h.k.below hba) h.b1 h.b2)
  have HH := Lib.hid h
  clear h
  go_wp2_with (first | (refine HC.out.mono ?_; rw [checkE, hb]; rintro e w2 ⟨rfl, hb3⟩))
  go_ret2
  exact ⟨rfl, hba.trans (hb3.mono (by simp))⟩


set_option maxRecDepth 10000 in
set_option maxHeartbeats 800000 in
theorem Hope_good (p1 : Option Addr) (c1 : Nat) (p2 : Option Addr) (c2 : Nat) (long : List Int) (sz : Int) (ks : List K4) (w0 : World) (h : LogAt w0 p1 p2 long ks) (hb : validB long sz ks = true) :
    Calls Try.prog 17 #[.agg #[.slice p1 long.length c1, .int .i64 sz, .slice p2 ks.length c2]] w0 fun e w' => e = .returned (.tuple #[.int .i64 (hopeD long sz ks), .int .i64 0]) ∧ Below w0.heap.size w0 w' := by
  have hok := valid_ok hb
  refine calls_marks Try.func17 rfl ?_
  simp only [Try.ntmps17, List.size_toArray, List.length_cons, List.length_nil, Nat.reduceAdd, Nat.reduceSub, Array.replicate_succ, Array.replicate_zero, List.push_toArray, List.append_toArray, List.nil_append, List.cons_append]
  have hba := below_alloc w0 (.cells #[.slice p1 long.length c1, .int .i64 sz, .slice p2 ks.length c2] 25)
  have r0 := Row.new w0 #[.slice p1 long.length c1, .int .i64 sz, .slice p2 ks.length c2] 25
  have HC := Lib.hid (check_any p1 c1 p2 c2 long sz ks _ (h.l.below hba) (h.k.below hba) h.b1 h.b2)
  have HH := Lib.hid h
  clear h
  go_wp2_with (first | (refine HC.out.mono ?_; rw [checkE, hb]; rintro e w2 ⟨rfl, hb3⟩; have HB2 := Lib.hid (hba.trans (hb3.mono (by simp))); have r2 := Lib.hid (r0.below hb3 (by simp)); clear hb3; have k0 := r2.out.cell 0 (v := .slice p1 long.length c1) rfl; have k1 := r2.out.cell 1 (v := .int .i64 sz) rfl; have k2 := r2.out.cell 2 (v := .slice p2 ks.length c2) rfl; have hz := r2.out.lt) | (refine (unroll_of p1 c1 p2 c2 long sz ks _ (HH.out.below HB2.out) hok).mono ?_; rintro e w3 ⟨R, mb, nn, f, rfl, hR, hA, hb4⟩; have HB4 := Lib.hid (HB2.out.trans (hb4.mono (by omega))); have hz3 := hb4.size; have HA3 := Lib.hid hA; clear hb4 hA k0 k1 k2) | (refine store_new rfl 98 _ _ rfl R.A zero76 98 rfl rfl (size76 hR.ok.s6) (by rw [R.size hR.ok.s6]; rfl) R.one ?_) | (refine load_row rfl 98 _ rfl _ rfl 98 _ _ ((Row.new w3 R.A 98).alloc (.cells #[.int .i64 0] 3)) Try.underlying98 rfl (size76 hR.ok.s6) ?_) | (refine (truths_any R hR.ok.s6 _).mono ?_; rintro e w5 ⟨rfl, rfl⟩))
  have hA5 := ((HA3.out.below (below_alloc w3 (.cells R.A 98))).below (below_alloc _ (.cells #[.int .i64 0] 3))).below (below_alloc _ (.cells R.A 98))
  have hB5 : Below w0.heap.size w0 (((w3.alloc (.cells R.A 98)).alloc (.cells #[.int .i64 0] 3)).alloc (.cells R.A 98)) := ((HB4.out.alloc (by omega) _).alloc (by simp; omega) _).alloc (by simp; omega) _
  have rR : Row (((w3.alloc (.cells R.A 98)).alloc (.cells #[.int .i64 0] 3)).alloc (.cells R.A 98)) w3.heap.size R.A 98 := ((Row.new _ _ _).alloc _).alloc _
  have rM : Row (((w3.alloc (.cells R.A 98)).alloc (.cells #[.int .i64 0] 3)).alloc (.cells R.A 98)) (w3.heap.size + 1) #[.int .i64 0] 3 := (Row.new' (by simp) _ _).alloc _
  have rT : Row (((w3.alloc (.cells R.A 98)).alloc (.cells #[.int .i64 0] 3)).alloc (.cells R.A 98)) (w3.heap.size + 1 + 1) R.A 98 := Row.new' (by simp) _ _
  have hs5 : w3.heap.size + 1 + 1 + 1 = (((w3.alloc (.cells R.A 98)).alloc (.cells #[.int .i64 0] 3)).alloc (.cells R.A 98)).heap.size := by simp
  have HS5 := Lib.hid hs5
  have HW := Lib.hid (show w0.heap.size < w3.heap.size by omega)
  clear hs5 hba r0 HC HA3 HB4 HB2 r2
  go_wp2_with fail
  generalize (((w3.alloc (.cells R.A 98)).alloc (.cells #[.int .i64 0] 3)).alloc (.cells R.A 98)) = w5 at *
  have RR := Lib.hid rR
  have HA5 := Lib.hid hA5
  have HB5 := Lib.hid hB5
  have hk0 : KnotsAt w0 R.p2 ks := by rw [hR.p2]; exact HH.out.k
  have hnM := not_reads (b := w3.heap.size + 1 + 1) hA5 rM (by omega) hk0 (by have := HW.out; omega)
  clear rR hA5 hB5
  refine range_law 113 #[.pointer (some ⟨w3.heap.size + 1 + 1, 0, none⟩)] (readsR R ks (w3.heap.size + 1 + 1) mb) ((truthsD long ks).map fun c => #[cols c]) rfl (fun args w => Try.call113 args w)
    (fun W1 hb _ => truths_of hR hok _ W1 (rT.below hb (by have := HS5.out; omega)) (HA5.out.below hb)) (by intro x hx; simp at hx; obtain ⟨_, _, rfl⟩ := hx; rfl) (fun m => m = w3.heap.size + 1)
    (by rintro m rfl; exact ⟨by have := HS5.out; omega, hnM⟩) (not_reads_new HA5.out rT (by omega))
    (fun j A => Row A (w3.heap.size + 1) #[.int .i64 (((hopesD long sz ks).take j).foldl max 0)] 3) (fun c A => c = .exit 0 ∧ Row A (w3.heap.size + 1) #[.int .i64 (hopeD long sz ks)] 3)
    (fun j A B h hb => by have := HS5.out; exact Row.below h hb (by omega)) (fun c A B h hb => by have := HS5.out; exact ⟨h.1, h.2.below hb (by omega)⟩) rM ?body ?done ?stop
  case body =>
    rintro l j x A rfl hx hI hkeep hlA
    obtain ⟨kn, hq, rfl⟩ := map_at hx
    have hlen := truthsD_length (List.mem_of_getElem? hq)
    have HLEN := Lib.hid hlen
    have HST := Lib.hid (hope_step (sz := sz) hq)
    have HSTOP := Lib.hid (fun e : kn = List.replicate 72 false => hope_stop (ks := ks) hok.s1 (by rw [← e]; exact hq))
    have hln := cutD_short hok kn
    have hmr := hope_range hok j
    have RR2 := Lib.hid (RR.out.keeps hkeep (by omega))
    generalize hmo : ((hopesD long sz ks).take j).foldl max 0 = mo at *
    clear hmo hx hq hkeep
    rw [cols_def]
    gi_wp2_with (first | (refine store_newIn rfl 108 _ _ rfl (boolsA kn) Try.zeroCells108 108 rfl rfl (size88 HLEN.out) (by rw [zero88, boolsA_size, boolsA_size, HLEN.out, List.length_replicate]) (boolsA_one _) ?_))
    refine ⟨(KeepsBut.refl _ _).alloc _, fun oo => ?_⟩
    generalize hA2 : (A.alloc (Obj.cells (boolsA kn) 108)).putObj (w5.heap.size + 1) oo = A2
    have hsame : ∀ m, m ≠ w5.heap.size + 1 → A2.heap[m]? = (A.alloc (Obj.cells (boolsA kn) 108)).heap[m]? := fun m hm => by rw [← hA2]; exact World.putObj_heap_other hm
    have q0 : Row A2 w3.heap.size R.A 98 := by unfold Row; rw [hsame _ (by have := HS5.out; omega)]; exact RR2.out.alloc _
    have qm : Row A2 (w3.heap.size + 1) #[.int .i64 mo] 3 := by unfold Row; rw [hsame _ (by have := HS5.out; omega)]; exact Row.alloc hI _
    have qk : Row A2 A.heap.size (boolsA kn) 108 := by unfold Row; rw [hsame _ (by omega)]; exact Row.new _ _ _
    have HAS := Lib.hid (show w3.heap.size + 1 + 1 < A.heap.size by have := HS5.out; omega)
    have heq := eq88 kn hlen
    have HEQ := Lib.hid heq
    clear hsame hA2 hI RR2 hlen heq hnM rM rT hk0
    gi_wp2_with fail
    refine region_invIn rfl (by kernel_rfl) (by kernel_rfl) (fun L a v => ∃ x18 x19 x20 x21 x22 x23 : Value, a = { tmps := #[.agg #[.slice p1 long.length c1, .int .i64 sz, .slice p2 ks.length c2], .pointer (some ⟨w0.heap.size, 0, none⟩), .int .i64 0, .int .i64 0, .int .i64 0, .pointer (some ⟨w3.heap.size, 0, none⟩), .pointer (some ⟨w3.heap.size + 1, 0, none⟩), .pointer (some ⟨A.heap.size, 0, none⟩), .agg #[.slice p1 long.length c1, .int .i64 sz, .slice p2 ks.length c2], .int .i64 0, .int .i64 0, .bool false, undef, .agg #[.slice p1 long.length c1, .int .i64 sz, .slice p2 ks.length c2], .agg R.A, .agg R.A, .func (.func 113) #[] #[.pointer (some ⟨w3.heap.size + 1 + 1, 0, none⟩)], .agg (boolsA kn), x18, x19, x20, x21, x22, x23, undef, undef, undef, undef], defers := [] } ∧ Hid (L 0 = true → x18 = .int .i64 mo) ∧ Hid (L 1 = true → x19 = .agg R.A) ∧ Hid (L 2 = true → x20 = .agg (boolsA kn)) ∧ Hid (L 3 = true → x21 = .int .i64 ((cutD long sz kn).length : Int)) ∧ Hid (L 5 = true → x23 = .int .i64 (max mo ((cutD long sz kn).length : Int))) ∧ Hid (Row v w3.heap.size R.A 98) ∧ Hid (Row v A.heap.size (boolsA kn) 108) ∧ Hid (L 6 = false → Row v (w3.heap.size + 1) #[.int .i64 mo] 3) ∧ Hid (L 6 = true → Row v (w3.heap.size + 1) #[.int .i64 (max mo ((cutD long sz kn).length : Int))] 3) ∧ Hid (L 4 = true → L 5 = false → ∃ g, x22 = .slice (some ⟨g, 0, none⟩) 1 1 ∧ IntsAt v (some ⟨g, 0, none⟩) [((cutD long sz kn).length : Int)]) ∧ Hid (L 6 = true → L 0 = true) ∧ Hid (KeepsBut (fun m => m = w3.heap.size + 1) A2 v)) ?h0 ?steps ?hd
    case h0 => exact ⟨_, _, _, _, _, _, rfl, Lib.hid nofun, Lib.hid nofun, Lib.hid nofun, Lib.hid nofun, Lib.hid nofun, Lib.hid (q0), Lib.hid (qk), Lib.hid (fun _ => qm), Lib.hid (nofun), Lib.hid (fun h => by cases h), Lib.hid (nofun), Lib.hid ((KeepsBut.refl _ _).drew)⟩
    case hd =>
      rintro L a v hL ⟨x18, x19, x20, x21, x22, x23, rfl, hf0, hf1, hf2, hf3, hf5, hr0, hkn, hm, hm2, hsl, hord, hkb⟩
      obtain rfl := hf0.out (hL 0 (by decide))
      obtain rfl := hf1.out (hL 1 (by decide))
      obtain rfl := hf2.out (hL 2 (by decide))
      obtain rfl := hf3.out (hL 3 (by decide))
      obtain rfl := hf5.out (hL 5 (by decide))
      clear hf0
      clear hf1
      clear hf2
      clear hf3
      clear hf5
      have hmz := hm2.out (hL 6 (by decide))
      clear hL hm hm2 hsl hord
      cases hz : (kn == List.replicate 72 false)
      · have he : ∀ w, (binOp .eql 108 (.agg (boolsA kn)) (.agg Try.zeroCells108)).run Try.prog w = .ok (.bool false) w := fun w => by rw [HEQ.out w, hz]
        gi_wp2_with (first | (refine load_rowIn rfl 108 _ rfl _ rfl 108 _ _ hkn.out Try.underlying108 rfl (size88 HLEN.out) ?_))
        exact ⟨hkb.out, by rw [HST.out]; exact hmz⟩
      · have he : ∀ w, (binOp .eql 108 (.agg (boolsA kn)) (.agg Try.zeroCells108)).run Try.prog w = .ok (.bool true) w := fun w => by rw [HEQ.out w, hz]
        gi_wp2_with (first | (refine load_rowIn rfl 108 _ rfl _ rfl 108 _ _ hkn.out Try.underlying108 rfl (size88 HLEN.out) ?_))
        exact ⟨hkb.out, rfl, by rw [← HSTOP.out (by simpa using hz), HST.out]; exact hmz⟩
    case steps =>
      refine ⟨?_, ?_, ?_, ?_, ?_, ?_, ?_, trivial⟩
      · rintro L a v hL hk ⟨x18, x19, x20, x21, x22, x23, rfl, hf0, hf1, hf2, hf3, hf5, hr0, hkn, hm, hm2, hsl, hord, hkb⟩ K hK
        have HK0 := Lib.hid hK
        clear hK
        clear hL
        have h6 : L 6 = false := by cases h7 : L 6; rfl; exact absurd (hord.out h7) (by simp [hk])
        have c0 := (hm.out h6).cell 0 (v := .int .i64 mo) rfl
        clear hk
        go_wp2
        exact HK0.out _ _ ⟨_, _, _, _, _, _, rfl, Lib.hid (fun _ => rfl), Lib.hid (fun h => hf1.out (by simpa [upd] using h)), Lib.hid (fun h => hf2.out (by simpa [upd] using h)), Lib.hid (fun h => hf3.out (by simpa [upd] using h)), Lib.hid (fun h => hf5.out (by simpa [upd] using h)), hr0, hkn, Lib.hid (fun h => hm.out (by simpa [upd] using h)), Lib.hid (fun h => hm2.out (by simpa [upd] using h)), Lib.hid (fun h h5 => hsl.out (by simpa [upd] using h) (by simpa [upd] using h5)), Lib.hid (fun h => by have := hord.out (by simpa [upd] using h); first | (simp [upd]; done) | (simp [upd]; simp [this])), hkb⟩
      · rintro L a v hL hk ⟨x18, x19, x20, x21, x22, x23, rfl, hf0, hf1, hf2, hf3, hf5, hr0, hkn, hm, hm2, hsl, hord, hkb⟩ K hK
        have HK0 := Lib.hid hK
        clear hK
        clear hL
        clear hk
        refine wp_load_row 98 _ rfl _ rfl 98 _ (0, 0) _ hr0.out Try.underlying98 rfl (size76 hR.ok.s6) ?_
        exact HK0.out _ _ ⟨_, _, _, _, _, _, rfl, Lib.hid (fun h => hf0.out (by simpa [upd] using h)), Lib.hid (fun _ => rfl), Lib.hid (fun h => hf2.out (by simpa [upd] using h)), Lib.hid (fun h => hf3.out (by simpa [upd] using h)), Lib.hid (fun h => hf5.out (by simpa [upd] using h)), hr0, hkn, Lib.hid (fun h => hm.out (by simpa [upd] using h)), Lib.hid (fun h => hm2.out (by simpa [upd] using h)), Lib.hid (fun h h5 => hsl.out (by simpa [upd] using h) (by simpa [upd] using h5)), Lib.hid (fun h => by have := hord.out (by simpa [upd] using h); first | (simp [upd]; done) | (simp [upd]; simp [this])), hkb⟩
      · rintro L a v hL hk ⟨x18, x19, x20, x21, x22, x23, rfl, hf0, hf1, hf2, hf3, hf5, hr0, hkn, hm, hm2, hsl, hord, hkb⟩ K hK
        have HK0 := Lib.hid hK
        clear hK
        clear hL
        clear hk
        refine wp_load_row 108 _ rfl _ rfl 108 _ (0, 0) _ hkn.out Try.underlying108 rfl (size88 HLEN.out) ?_
        exact HK0.out _ _ ⟨_, _, _, _, _, _, rfl, Lib.hid (fun h => hf0.out (by simpa [upd] using h)), Lib.hid (fun h => hf1.out (by simpa [upd] using h)), Lib.hid (fun _ => rfl), Lib.hid (fun h => hf3.out (by simpa [upd] using h)), Lib.hid (fun h => hf5.out (by simpa [upd] using h)), hr0, hkn, Lib.hid (fun h => hm.out (by simpa [upd] using h)), Lib.hid (fun h => hm2.out (by simpa [upd] using h)), Lib.hid (fun h h5 => hsl.out (by simpa [upd] using h) (by simpa [upd] using h5)), Lib.hid (fun h => by have := hord.out (by simpa [upd] using h); first | (simp [upd]; done) | (simp [upd]; simp [this])), hkb⟩
      · rintro L a v hL hk ⟨x18, x19, x20, x21, x22, x23, rfl, hf0, hf1, hf2, hf3, hf5, hr0, hkn, hm, hm2, hsl, hord, hkb⟩ K hK
        have HK0 := Lib.hid hK
        clear hK
        obtain rfl := hf1.out (after_on hL 1 rfl)
        obtain rfl := hf2.out (after_on hL 2 rfl)
        clear hL
        clear hk
        go_wp2_with fail
        refine (pieces_of hR hok kn HLEN.out _).mono ?_
        rintro e w6 ⟨rfl, hb6⟩
        exact HK0.out _ _ ⟨_, _, _, _, _, _, rfl, Lib.hid (fun h => hf0.out (by simpa [upd] using h)), Lib.hid (fun _ => rfl), Lib.hid (fun _ => rfl), Lib.hid (fun _ => rfl), Lib.hid (fun h => hf5.out (by simpa [upd] using h)), Lib.hid (hr0.out.below hb6 hr0.out.lt), Lib.hid (hkn.out.below hb6 hkn.out.lt), Lib.hid (fun h => (hm.out (by simpa [upd] using h)).below hb6 (hm.out (by simpa [upd] using h)).lt), Lib.hid (fun h => (hm2.out (by simpa [upd] using h)).below hb6 (hm2.out (by simpa [upd] using h)).lt), Lib.hid (fun h h5 => (hsl.out (by simpa [upd] using h) (by simpa [upd] using h5)).imp fun g h => ⟨h.1, h.2.below hb6⟩), Lib.hid (fun h => by have := hord.out (by simpa [upd] using h); first | (simp [upd]; done) | (simp [upd]; simp [this])), Lib.hid (hkb.out.after hb6)⟩
      · rintro L a v hL hk ⟨x18, x19, x20, x21, x22, x23, rfl, hf0, hf1, hf2, hf3, hf5, hr0, hkn, hm, hm2, hsl, hord, hkb⟩ K hK
        have HK0 := Lib.hid hK
        clear hK
        obtain rfl := hf3.out (after_on hL 3 rfl)
        clear hL
        clear hk
        go_wp2
        exact HK0.out _ _ ⟨_, _, _, _, _, _, rfl, Lib.hid (fun h => hf0.out (by simpa [upd] using h)), Lib.hid (fun h => hf1.out (by simpa [upd] using h)), Lib.hid (fun h => hf2.out (by simpa [upd] using h)), Lib.hid (fun _ => rfl), Lib.hid (fun h => hf5.out (by simpa [upd] using h)), Lib.hid (hr0.out.below (below_alloc v _) hr0.out.lt), Lib.hid (hkn.out.below (below_alloc v _) hkn.out.lt), Lib.hid (fun h => (hm.out (by simpa [upd] using h)).below (below_alloc v _) (hm.out (by simpa [upd] using h)).lt), Lib.hid (fun h => (hm2.out (by simpa [upd] using h)).below (below_alloc v _) (hm2.out (by simpa [upd] using h)).lt), Lib.hid (fun _ _ => ⟨_, rfl, ints_one _ _⟩), Lib.hid (fun h => by have := hord.out (by simpa [upd] using h); first | (simp [upd]; done) | (simp [upd]; simp [this])), Lib.hid (hkb.out.after (below_alloc v _))⟩
      · rintro L a v hL hk ⟨x18, x19, x20, x21, x22, x23, rfl, hf0, hf1, hf2, hf3, hf5, hr0, hkn, hm, hm2, hsl, hord, hkb⟩ K hK
        have HK0 := Lib.hid hK
        clear hK
        obtain rfl := hf0.out (after_on hL 0 rfl)
        obtain ⟨g, rfl, hi⟩ := hsl.out (after_on hL 4 rfl) hk
        clear hL hk
        go_wp2_with fail
        refine (greatest_any mo (some ⟨g, 0, none⟩) 1 [((cutD long sz kn).length : Int)] _ (by simp [maxLen]) hi).mono ?_
        rintro e w6 ⟨rfl, rfl⟩
        rw [maxL_one]
        exact HK0.out _ _ ⟨_, _, _, _, _, _, rfl, Lib.hid (fun _ => rfl), Lib.hid (fun h => hf1.out (by simpa [upd] using h)), Lib.hid (fun h => hf2.out (by simpa [upd] using h)), Lib.hid (fun h => hf3.out (by simpa [upd] using h)), Lib.hid (fun _ => rfl), hr0, hkn, Lib.hid (fun h => hm.out (by simpa [upd] using h)), Lib.hid (fun h => hm2.out (by simpa [upd] using h)), Lib.hid (fun _ h => by simp [upd] at h), Lib.hid (fun h => by have := hord.out (by simpa [upd] using h); first | (simp [upd]; done) | (simp [upd]; simp [this])), hkb⟩
      · rintro L a v hL hk ⟨x18, x19, x20, x21, x22, x23, rfl, hf0, hf1, hf2, hf3, hf5, hr0, hkn, hm, hm2, hsl, hord, hkb⟩ K hK
        have HK0 := Lib.hid hK
        clear hK
        obtain rfl := hf5.out (after_on hL 5 rfl)
        have hrz := hm.out hk
        have f0 := hrz.free 0
        have c0 := hrz.cell 0 (v := .int .i64 mo) rfl
        have HLL := Lib.hid hL
        clear hL hk
        go_wp2
        exact HK0.out _ _ ⟨_, _, _, _, _, _, rfl, Lib.hid (fun h => hf0.out (by simpa [upd] using h)), Lib.hid (fun h => hf1.out (by simpa [upd] using h)), Lib.hid (fun h => hf2.out (by simpa [upd] using h)), Lib.hid (fun h => hf3.out (by simpa [upd] using h)), Lib.hid (fun _ => rfl), Lib.hid (hr0.out.set_other _ _ (by dsimp only; omega)), Lib.hid (hkn.out.set_other _ _ (by have := HAS.out; dsimp only; omega)), Lib.hid (fun h => by simp [upd] at h), Lib.hid (fun _ => hrz.set 0 _), Lib.hid (fun _ h5 => absurd (after_on HLL.out 5 rfl) (by have h9 : L 5 = false := (by simpa [upd] using h5); simp [h9])), Lib.hid (fun _ => by rw [upd_other _ (by decide)]; exact after_on HLL.out 0 rfl), Lib.hid (hkb.out.setCell (.inl rfl) _)⟩
  case done =>
    intro W3 hI hkeep hsz hD
    have hI : Row W3 (w3.heap.size + 1) #[.int .i64 (((hopesD long sz ks).take ((truthsD long ks).map fun c => #[cols c]).length).foldl max 0)] 3 := hI
    rw [List.length_map, List.take_of_length_le (by simp [hopesD])] at hI
    have hmarks := (show Marks w0.heap.size [] w5 from trivial).push hkeep (fun m oo hm h => by subst hm; unfold Row at rM; rw [rM] at h; cases h) (by have := HS5.out; have := HW.out; omega) hD
    have HM := Lib.hid hmarks
    have HB6 := Lib.hid (HB5.out.trans (hkeep.below (n := w0.heap.size) (by have := HS5.out; have := HW.out; omega) (fun m hm => by have := HS5.out; have := HW.out; omega)))
    have cM := hI.cell 0 (v := .int .i64 ((hopesD long sz ks).foldl max 0)) rfl
    clear hkeep hD hmarks hI rM rT hnM hk0
    go_wp2
    refine marks_leave HM.out (fun B2 hB2 => ⟨_, results_tmp2 rfl _ _ _, ?_⟩)
    exact ⟨rfl, HB6.out.trans hB2.below⟩
  case stop =>
    rintro c W3 ⟨rfl, hI⟩ hkeep hsz hD
    have hmarks := (show Marks w0.heap.size [] w5 from trivial).push hkeep (fun m oo hm h => by subst hm; unfold Row at rM; rw [rM] at h; cases h) (by have := HS5.out; have := HW.out; omega) hD
    have HM := Lib.hid hmarks
    have HB6 := Lib.hid (HB5.out.trans (hkeep.below (n := w0.heap.size) (by have := HS5.out; have := HW.out; omega) (fun m hm => by have := HS5.out; have := HW.out; omega)))
    have cM := hI.cell 0 (v := .int .i64 (hopeD long sz ks)) rfl
    clear hkeep hD hmarks hI rM rT hnM hk0
    go_wp2
    refine marks_leave HM.out (fun B2 hB2 => ⟨_, results_tmp2 rfl _ _ _, ?_⟩)
    exact ⟨rfl, HB6.out.trans hB2.below⟩

end Go.Proofs.Yticfcdbfplfmlaa.Pe
/- The walks of layer 1: a list of knots without one of them, by 'append'. -/
namespace Go.Proofs.Yticfcdbfplfmlaa.Pe
open Go.RowKit Go.Maps
attribute [local go_sem] Oper.semAt_some

/-- The cells of knots. -/
def knotVals (ks : List K4) : List Value := ks.flatMap fun k => k.A.toList
theorem knotVals_length : ∀ ks : List K4, (knotVals ks).length = ks.length * 4
  | [] => rfl
  | k :: ks => by
    have := knotVals_length ks
    rw [knotVals] at this ⊢
    rw [List.flatMap_cons, List.length_append, this]
    simp [K4.A]; omega
theorem knotVals_at : ∀ {ks : List K4} {i : Nat} (h : i < ks.length), (knotVals ks)[i * 4]? = some (.int .i64 ks[i].al) ∧ (knotVals ks)[i * 4 + 1]? = some (.int .i64 ks[i].ah) ∧ (knotVals ks)[i * 4 + 2]? = some (.int .i64 ks[i].fl) ∧ (knotVals ks)[i * 4 + 3]? = some (.int .i64 ks[i].fh)
  | [], _, h => by simp at h
  | k :: ks, 0, _ => by simp [knotVals, K4.A]
  | k :: ks, i + 1, h => by
    have := knotVals_at (ks := ks) (i := i) (by simpa using h)
    have e0 : (i + 1) * 4 = i * 4 + 1 + 1 + 1 + 1 := by omega
    have e1 : (i + 1) * 4 + 1 = i * 4 + 1 + 1 + 1 + 1 + 1 := by omega
    have e2 : (i + 1) * 4 + 2 = i * 4 + 2 + 1 + 1 + 1 + 1 := by omega
    have e3 : (i + 1) * 4 + 3 = i * 4 + 3 + 1 + 1 + 1 + 1 := by omega
    rw [e1, e2, e3, e0]
    simpa [knotVals, K4.A] using this
theorem KnotsAt.cells {w : World} {b o : Nat} {ks : List K4} (h : KnotsAt w (some ⟨b, o, none⟩) ks) : ∀ j u, (knotVals ks)[j]? = some u → w.cell? ⟨b, o + j, none⟩ = some u := by
  intro j u hj
  have hlt : j < ks.length * 4 := by rw [← knotVals_length]; exact (List.getElem?_eq_some_iff.1 hj).1
  have hi : j / 4 < ks.length := by omega
  have hcs : j = j / 4 * 4 ∨ j = j / 4 * 4 + 1 ∨ j = j / 4 * 4 + 2 ∨ j = j / 4 * 4 + 3 := by omega
  generalize j / 4 = q at *
  obtain ⟨b', o', e, h0, h1, h2, h3⟩ := h q hi
  cases e
  obtain ⟨a0, a1, a2, a3⟩ := knotVals_at hi
  rcases hcs with rfl | rfl | rfl | rfl
  · rw [a0] at hj; cases hj; exact h0
  · rw [a1] at hj; cases hj; exact h1
  · rw [a2] at hj; cases hj; exact h2
  · rw [a3] at hj; cases hj; exact h3
theorem knots_of_cells {w : World} {b o : Nat} {ks : List K4} (h : ∀ j u, (knotVals ks)[j]? = some u → w.cell? ⟨b, o + j, none⟩ = some u) : KnotsAt w (some ⟨b, o, none⟩) ks := by
  intro i hi
  obtain ⟨a0, a1, a2, a3⟩ := knotVals_at hi
  exact ⟨b, o, rfl, h _ _ a0, h _ _ a1, h _ _ a2, h _ _ a3⟩
theorem knotVals_append (a b : List K4) : knotVals (a ++ b) = knotVals a ++ knotVals b := List.flatMap_append
theorem knotVals_one (ks : List K4) : ∀ u ∈ knotVals ks, u.oneCell' = true := by
  intro u hu
  simp only [knotVals, List.mem_flatMap] at hu
  obtain ⟨k, _, hu⟩ := hu
  simp [K4.A] at hu
  rcases hu with rfl | rfl | rfl | rfl <;> rfl
theorem KnotsAt.drop {w : World} {b o : Nat} {ks : List K4} (h : KnotsAt w (some ⟨b, o, none⟩) ks) (n : Nat) : KnotsAt w (some ⟨b, o + n * 4, none⟩) (ks.drop n) := by
  intro i hi
  rw [List.length_drop] at hi
  obtain ⟨b', o', e, h0, h1, h2, h3⟩ := h (n + i) (by omega)
  cases e
  refine ⟨b, o + n * 4, rfl, ?_⟩
  rw [show o + n * 4 + i * 4 = o + (n + i) * 4 by omega]
  simp only [List.getElem_drop]
  exact ⟨h0, h1, h2, h3⟩
theorem KnotsAt.take {w : World} {p : Option Addr} {ks : List K4} (h : KnotsAt w p ks) (n : Nat) : KnotsAt w p (ks.take n) := by
  intro i hi
  rw [List.length_take] at hi
  have := h i (by omega)
  simp only [List.getElem_take]
  exact this

theorem wp_append_run {P : Program} {o : Oper} {a : Act} {w w' : World} {Q : Exit → Act → World → Prop} {K : Act → World → Prop} (s x : Operand) (t t' : TypeId) (ho : o.op = Op.call { callee := Callee.builtin Builtin.append, args := #[s, x], argTypes := #[t, t'] }) (vs vx v : Value) (hs : a.eval s = vs) (hx : a.eval x = vx)
    (hr : (Builtin.append_ #[t, t'] o.type #[vs, vx]).run P w = .ok v w') (h : K (a.put o.dst v) w') : o.wp P a w K Q := by
  unfold Oper.wp
  simp [execOp, ho, resolve, invoke, builtin, hs, hx, hr, Result.andThen]
  exact h
theorem Try.infoKnot : (Try.prog.info? 32).map (fun i => (i.zero, i.size, i.bytes)) = some (some (.agg #[.int .i64 0, .int .i64 0, .int .i64 0, .int .i64 0]), 4, 32) := by kernel_rfl

/-- One knot is left out. -/
theorem append_knots (w : World) (ks : List K4) (p2 : Option Addr) (k : Nat) (hk : k < ks.length) (hks : KnotsAt w p2 ks) (h3 : ks.length ≤ 3) (ty : TypeId) (q : Option Addr) (c' : Nat) (hq : KnotsAt w q (ks.drop (k + 1))) :
    ∃ p c w', (Builtin.append_ #[23, 23] ty #[.slice p2 k k, .slice q (ks.length - (k + 1)) c']).run Try.prog w = .ok (.slice p (ks.eraseIdx k).length c) w' ∧ KnotsAt w' p (ks.eraseIdx k) ∧ Below w.heap.size w w' := by
  obtain ⟨i0, hi, hi0, hi1, hi2⟩ := info_parts Try.infoKnot
  have he : ks.eraseIdx k = ks.take k ++ ks.drop (k + 1) := List.eraseIdx_eq_take_drop_succ ks k
  have hel : (ks.eraseIdx k).length = k + (ks.length - (k + 1)) := by rw [he, List.length_append, List.length_take, List.length_drop]; omega
  rw [hel]
  obtain ⟨b, o, rfl, _⟩ := hks 0 (by omega)
  rcases Nat.eq_zero_or_pos (ks.length - (k + 1)) with h0 | h0
  · rw [h0, Nat.add_zero]
    have hsrc : Src Try.prog i0.size 23 (.slice q 0 c') 0 [] w := by
      cases q with
      | none => exact Src.ofNil w Try.underlying23 c'
      | some a => exact Src.ofSlice w Try.underlying23 a 0 c' [] (by simp) (by simp) (by simp)
    refine ⟨_, _, _, run_append_nothing w 23 23 ty 32 i0 Try.underlying23 hi _ k k (Nat.le_refl _) _ hsrc, ?_, Below.refl _ _⟩
    rw [he, List.drop_eq_nil_of_le (by omega), List.append_nil]
    exact hks.take k
  · obtain ⟨b', o', rfl, _⟩ := hq 0 (by rw [List.length_drop]; omega)
    have hlt : (ks.take k).length = k := by rw [List.length_take]; omega
    obtain ⟨v', w', hr, hown, hg⟩ := run_append_arg_grows (P := Try.prog) w 23 ty 32 i0 _ 4 32 Try.underlying23 hi hi0 hi1 hi2 rfl (by decide) ⟨b, o, none⟩ k k (knotVals (ks.take k)) (by rw [knotVals_length, hlt]) (fun j u h => by rw [Addr.add_lit]; exact (hks.take k).cells j u h)
      ⟨b', o', none⟩ (ks.length - (k + 1)) c' (knotVals (ks.drop (k + 1))) (by rw [knotVals_length, List.length_drop]) (fun j u h => by rw [Addr.add_lit]; exact hq.cells j u h) (by omega) (by unfold maxLen; omega) (by omega)
    rw [← knotVals_append, ← he] at hown
    rcases hown.2 with ⟨_, hn⟩ | ⟨g, cap, cur, hv, hg0, hh, h1, h2, h3, h4⟩
    · omega
    · refine ⟨_, _, w', by rw [hr, hv], ?_, ⟨hg.os, hg.tape, hg.output, hg.size, fun k hk => hg.block k hk (by simp)⟩⟩
      refine knots_of_cells fun j u hj => ?_
      rw [cell_of_row w' g (0 + j) cur _ (0, 0) hh, Nat.zero_add]
      have hjl : j < (k + (ks.length - (k + 1))) * 4 := by
        have := (List.getElem?_eq_some_iff.1 hj).1
        rw [knotVals_length, hel] at this
        exact this
      rw [← h4, List.getElem?_take_of_lt hjl] at hj
      simpa using hj

end Go.Proofs.Yticfcdbfplfmlaa.Pe
/- Layer 1, in plain lists: what is so in each truth, and in some truth. -/
namespace Go.Proofs.Yticfcdbfplfmlaa.Pe
open Go.RowKit

theorem b0_orL {l m : List Bool} (hl : l.length = 72) (hm : m.length = 72) (i : Nat) : b0 (orL l m) i = (b0 l i || b0 m i) := by
  by_cases h : i < 72
  · rw [b0_lt (by rw [orL_length hl hm]; exact h), b0_lt (by omega), b0_lt (by omega)]
    simp [orL]
  · have e1 : b0 (orL l m) i = false := by simp [b0, List.getD_eq_getElem?_getD, List.getElem?_eq_none (show (orL l m).length ≤ i by rw [orL_length hl hm]; omega)]
    have e2 : b0 l i = false := by simp [b0, List.getD_eq_getElem?_getD, List.getElem?_eq_none (show l.length ≤ i by omega)]
    have e3 : b0 m i = false := by simp [b0, List.getD_eq_getElem?_getD, List.getElem?_eq_none (show m.length ≤ i by omega)]
    rw [e1, e2, e3]; rfl

/-- A column is one that some knots can have: it was before, or some place of some knot has it. -/
theorem reachK_iff {R : Rib} {long : List Int} (k : K4) : ∀ {acc : List Bool}, acc.length = 72 → ∀ i, b0 (reachK R long acc k) i = true ↔ b0 acc i = true ∨ ∃ p ∈ placesL k, b0 (trailL R long p.1 p.2.toNat) i = true := by
  unfold reachK
  induction placesL k with
  | nil => intro acc h i; simp
  | cons q l ih =>
    intro acc h i
    rw [List.foldl_cons, ih (orL_length h (trailL_length _ _ _ _)), b0_orL h (trailL_length _ _ _ _)]
    simp only [Bool.or_eq_true, List.mem_cons]
    constructor
    · rintro ((h1 | h1) | ⟨p, hp, h1⟩)
      · exact .inl h1
      · exact .inr ⟨q, .inl rfl, h1⟩
      · exact .inr ⟨p, .inr hp, h1⟩
    · rintro (h1 | ⟨p, rfl | hp, h1⟩)
      · exact .inl (.inl h1)
      · exact .inl (.inr h1)
      · exact .inr ⟨p, hp, h1⟩
theorem reachF_iff {R : Rib} {long : List Int} : ∀ (ks : List K4) {acc : List Bool}, acc.length = 72 → ∀ i, b0 (ks.foldl (reachK R long) acc) i = true ↔ b0 acc i = true ∨ ∃ k ∈ ks, ∃ p ∈ placesL k, b0 (trailL R long p.1 p.2.toNat) i = true
  | [], _, _, i => by simp
  | k :: ks, acc, h, i => by
    rw [List.foldl_cons, reachF_iff ks (reachK_length R long k h), reachK_iff k h]
    simp only [List.mem_cons]
    constructor
    · rintro ((h1 | h1) | ⟨k', hk, h1⟩)
      · exact .inl h1
      · exact .inr ⟨k, .inl rfl, h1⟩
      · exact .inr ⟨k', .inr hk, h1⟩
    · rintro (h1 | ⟨k', rfl | hk, h1⟩)
      · exact .inl (.inl h1)
      · exact .inl (.inr h1)
      · exact .inr ⟨k', hk, h1⟩
theorem reachD_iff {long : List Int} {ks : List K4} (i : Nat) : b0 (reachD long ks) i = true ↔ ∃ k ∈ ks, ∃ p ∈ placesL k, b0 (trailD long p.1 p.2.toNat) i = true := by
  have h := reachF_iff (R := rb long) (long := long) ks (acc := List.replicate 72 false) (by simp) i
  rw [b0_false] at h
  simpa [reachD, reachL, trailD] using h
/-- Fewer places of fewer knots: fewer columns. -/
theorem reachD_mono {long : List Int} {ks ks' : List K4} (h : ∀ k ∈ ks, ∀ p ∈ placesL k, ∃ k' ∈ ks', p ∈ placesL k') (i : Nat) (hi : b0 (reachD long ks) i = true) : b0 (reachD long ks') i = true := by
  rw [reachD_iff] at hi ⊢
  obtain ⟨k, hk, p, hp, hb⟩ := hi
  obtain ⟨k', hk', hp'⟩ := h k hk p hp
  exact ⟨k', hk', p, hp', hb⟩

/-- What is so in a truth. -/
theorem truthsL_sub {R : Rib} {long : List Int} : ∀ (ks : List K4) {acc kn : List Bool}, acc.length = 72 → kn ∈ truthsL R long ks acc → ∀ i, b0 kn i = true → b0 acc i = true ∨ ∃ k ∈ ks, ∃ p ∈ placesL k, b0 (trailL R long p.1 p.2.toNat) i = true
  | [], acc, kn, _, hm, i, hi => by
    rw [truthsL, List.mem_singleton] at hm
    exact .inl (hm ▸ hi)
  | k :: ks, acc, kn, h, hm, i, hi => by
    rw [truthsL, List.mem_flatMap] at hm
    obtain ⟨q, hq, hm⟩ := hm
    rcases truthsL_sub ks (orL_length h (trailL_length _ _ _ _)) hm i hi with h1 | ⟨k', hk, h1⟩
    · rw [b0_orL h (trailL_length _ _ _ _), Bool.or_eq_true] at h1
      rcases h1 with h1 | h1
      · exact .inl h1
      · exact .inr ⟨k, by simp, q, hq, h1⟩
    · exact .inr ⟨k', by simp [hk], h1⟩
theorem truthsL_acc {R : Rib} {long : List Int} : ∀ (ks : List K4) {acc kn : List Bool}, acc.length = 72 → kn ∈ truthsL R long ks acc → ∀ i, b0 acc i = true → b0 kn i = true
  | [], acc, kn, _, hm, i, hi => by
    rw [truthsL, List.mem_singleton] at hm
    exact hm ▸ hi
  | k :: ks, acc, kn, h, hm, i, hi => by
    rw [truthsL, List.mem_flatMap] at hm
    obtain ⟨q, hq, hm⟩ := hm
    exact truthsL_acc ks (orL_length h (trailL_length _ _ _ _)) hm i (by rw [b0_orL h (trailL_length _ _ _ _), hi]; rfl)
/-- What is so in a truth can be so. -/
theorem truth_reach {long : List Int} {ks : List K4} {kn : List Bool} (hm : kn ∈ truthsD long ks) (i : Nat) (hi : b0 kn i = true) : b0 (reachD long ks) i = true := by
  rw [reachD_iff]
  rcases truthsL_sub ks (by simp) hm i hi with h | h
  · rw [b0_false] at h; cases h
  · exact h
theorem placesL_ne {k : K4} (h : K4Ok k) : ∃ p, p ∈ placesL k := by
  refine ⟨(k.al, k.fl), ?_⟩
  simp only [placesL, List.mem_flatMap, List.mem_map, List.mem_range]
  exact ⟨0, by have := h.a; omega, 0, by have := h.f; omega, by simp⟩
theorem truthsL_ne {R : Rib} {long : List Int} : ∀ (ks : List K4) (acc : List Bool), (∀ k ∈ ks, K4Ok k) → ∃ kn, kn ∈ truthsL R long ks acc
  | [], acc, _ => ⟨acc, by rw [truthsL]; simp⟩
  | k :: ks, acc, h => by
    obtain ⟨p, hp⟩ := placesL_ne (h k (by simp))
    obtain ⟨kn, hk⟩ := truthsL_ne (R := R) (long := long) ks (orL acc (trailL R long p.1 p.2.toNat)) (fun k hk => h k (by simp [hk]))
    exact ⟨kn, by rw [truthsL, List.mem_flatMap]; exact ⟨p, hp, hk⟩⟩
/-- What can be so is so in some truth. -/
theorem reach_truth {R : Rib} {long : List Int} : ∀ (ks : List K4) {acc : List Bool}, acc.length = 72 → (∀ k ∈ ks, K4Ok k) → ∀ i, (∃ k ∈ ks, ∃ p ∈ placesL k, b0 (trailL R long p.1 p.2.toNat) i = true) → ∃ kn ∈ truthsL R long ks acc, b0 kn i = true
  | [], _, _, _, _, h => by simp at h
  | k :: ks, acc, hl, ho, i, h => by
    obtain ⟨k', hk, p, hp, hb⟩ := h
    rcases List.mem_cons.1 hk with rfl | hk
    · obtain ⟨kn, hkn⟩ := truthsL_ne (R := R) (long := long) ks (orL acc (trailL R long p.1 p.2.toNat)) (fun k hk => ho k (by simp [hk]))
      exact ⟨kn, by rw [truthsL, List.mem_flatMap]; exact ⟨p, hp, hkn⟩, truthsL_acc ks (orL_length hl (trailL_length _ _ _ _)) hkn i (by rw [b0_orL hl (trailL_length _ _ _ _), hb]; simp)⟩
    · obtain ⟨q, hq⟩ := placesL_ne (ho k (by simp))
      obtain ⟨kn, hkn, h1⟩ := reach_truth ks (acc := orL acc (trailL R long q.1 q.2.toNat)) (orL_length hl (trailL_length _ _ _ _)) (fun k hk => ho k (by simp [hk])) i ⟨k', hk, p, hp, hb⟩
      exact ⟨kn, by rw [truthsL, List.mem_flatMap]; exact ⟨q, hq, hkn⟩, h1⟩

/-- Logs whose knots have fewer places have fewer truths. -/
theorem truthsL_mono {R : Rib} {long : List Int} : ∀ (ks ks' : List K4) (acc : List Bool), ks.length = ks'.length → (∀ j (h : j < ks.length) (h' : j < ks'.length), ∀ p ∈ placesL ks[j], p ∈ placesL ks'[j]) → ∀ kn ∈ truthsL R long ks acc, kn ∈ truthsL R long ks' acc
  | [], [], _, _, _, _, h => h
  | [], _ :: _, _, h, _, _, _ => by simp at h
  | _ :: _, [], _, h, _, _, _ => by simp at h
  | k :: ks, k' :: ks', acc, hl, hp, kn, h => by
    rw [truthsL, List.mem_flatMap] at h ⊢
    obtain ⟨q, hq, h⟩ := h
    refine ⟨q, hp 0 (by simp) (by simp) q hq, truthsL_mono ks ks' _ (by simpa using hl) (fun j h h' p hpp => ?_) kn h⟩
    have := hp (j + 1) (by simp; omega) (by simp; omega) p (by simpa using hpp)
    simpa using this

end Go.Proofs.Yticfcdbfplfmlaa.Pe
/- The walks of layer 1: between which numbers the whole pieces of a cutting lie. -/
namespace Go.Proofs.Yticfcdbfplfmlaa.Pe
open Go.RowKit Go.Maps
attribute [local go_sem] Oper.semAt_some

/-- The bounds, as far as some truths go. -/
def loTo (long : List Int) (sz : Int) (ks : List K4) (cut : List Int) (j : Nat) : Int := ((truthsD long ks).take j).foldl (fun m kn => min m (countL (wholesD long sz kn) cut)) cut.length
def hiTo (long : List Int) (sz : Int) (ks : List K4) (cut : List Int) (j : Nat) : Int := ((truthsD long ks).take j).foldl (fun m kn => max m (countL (wholesD long sz kn) cut)) 0
theorem loTo_step {long : List Int} {sz : Int} {ks : List K4} {cut : List Int} {j : Nat} {kn : List Bool} (h : (truthsD long ks)[j]? = some kn) : loTo long sz ks cut (j + 1) = min (loTo long sz ks cut j) (countL (wholesD long sz kn) cut) := by
  unfold loTo; rw [List.take_add_one, h]; simp
theorem hiTo_step {long : List Int} {sz : Int} {ks : List K4} {cut : List Int} {j : Nat} {kn : List Bool} (h : (truthsD long ks)[j]? = some kn) : hiTo long sz ks cut (j + 1) = max (hiTo long sz ks cut j) (countL (wholesD long sz kn) cut) := by
  unfold hiTo; rw [List.take_add_one, h]; simp

set_option maxRecDepth 10000 in
set_option maxHeartbeats 800000 in
theorem Whole_bad (p1 : Option Addr) (c1 : Nat) (p2 : Option Addr) (c2 : Nat) (long : List Int) (sz : Int) (ks : List K4) (w0 : World) (h : LogAt w0 p1 p2 long ks) (pc : Option Addr) (cut : List Int) (cc : Nat) (hb : validB long sz ks = false) :
    Calls Try.prog 14 #[.agg #[.slice p1 long.length c1, .int .i64 sz, .slice p2 ks.length c2], .slice pc cut.length cc] w0 fun e w' => e = .returned (.tuple #[.agg #[.int .i64 0, .int .i64 0], .int .i64 10]) ∧ Below w0.heap.size w0 w' := by
  go_enter Try.func14, Try.ntmps14
  have hba := ((below_alloc w0 (.cells #[.slice p1 long.length c1, .int .i64 sz, .slice p2 ks.length c2] 25)).alloc (Nat.le_of_lt (by simp)) (.cells #[.slice pc cut.length cc] 22)).alloc (by simp; omega) (.cells #[.int .i64 0, .int .i64 0] 29)
  have r3 : Row _ (w0.heap.size + 1 + 1) #[.int .i64 0, .int .i64 0] 29 := Row.new' (w := ((w0.alloc (.cells #[.slice p1 long.length c1, .int .i64 sz, .slice p2 ks.length c2] 25)).alloc (.cells #[.slice pc cut.length cc] 22))) (by simp) _ _
  have HH := Lib.hid (h.below hba)
  clear h
  go_wp2_with (first | (refine (ask_bad p1 c1 p2 c2 long sz ks _ HH.out hb pc _ _).mono ?_; rintro e w2 ⟨rfl, hb3⟩; have HB2 := Lib.hid (hba.trans (hb3.mono (by simp; omega))); have R3 := Lib.hid (r3.below hb3 (by simp)); have hz := hb3.size; simp at hz; clear hb3) | (refine store_new rfl 98 _ _ rfl zero76 zero76 98 rfl rfl zero76_size rfl zero76_one ?_; have R4 := Lib.hid (R3.out.alloc (.cells zero76 98))) | (refine store_row rfl 29 _ _ rfl _ #[.int .i64 0, .int .i64 0] #[.int .i64 0, .int .i64 0] 29 rfl rfl R4.out (by kernel_rfl) rfl (by simp [Value.oneCell']) ?_))
  have hr2 := R4.out.setRow #[.int .i64 0, .int .i64 0]
  exact bodyPost_ret (v := .tuple #[.agg #[.int .i64 0, .int .i64 0], .int .i64 10]) (results_cell_two Try.results14 _ _ _ _ _ _ _ _ rfl rfl hr2 Try.underlying29 rfl (by kernel_rfl)) rfl ⟨rfl, below_setRow (HB2.out.alloc (by omega) _) (by omega) _⟩

set_option maxRecDepth 10000 in
set_option maxHeartbeats 800000 in
theorem Whole_no (p1 : Option Addr) (c1 : Nat) (p2 : Option Addr) (c2 : Nat) (long : List Int) (sz : Int) (ks : List K4) (w0 : World) (h : LogAt w0 p1 p2 long ks) (pc : Option Addr) (cut : List Int) (cc : Nat) (hc : IntsAt w0 pc cut) (hn : cut.length ≤ maxLen) (hb : validB long sz ks = true) (hcut : cutOk sz (psum long long.length) 0 cut = false) :
    Calls Try.prog 14 #[.agg #[.slice p1 long.length c1, .int .i64 sz, .slice p2 ks.length c2], .slice pc cut.length cc] w0 fun e w' => e = .returned (.tuple #[.agg #[.int .i64 0, .int .i64 0], .int .i64 11]) ∧ Below w0.heap.size w0 w' := by
  go_enter Try.func14, Try.ntmps14
  have hba := ((below_alloc w0 (.cells #[.slice p1 long.length c1, .int .i64 sz, .slice p2 ks.length c2] 25)).alloc (Nat.le_of_lt (by simp)) (.cells #[.slice pc cut.length cc] 22)).alloc (by simp; omega) (.cells #[.int .i64 0, .int .i64 0] 29)
  have r3 : Row _ (w0.heap.size + 1 + 1) #[.int .i64 0, .int .i64 0] 29 := Row.new' (w := ((w0.alloc (.cells #[.slice p1 long.length c1, .int .i64 sz, .slice p2 ks.length c2] 25)).alloc (.cells #[.slice pc cut.length cc] 22))) (by simp) _ _
  have HH := Lib.hid (h.below hba)
  have HI2 := Lib.hid (hc.below hba)
  clear h hc
  go_wp2_with (first | (refine (ask_no p1 c1 p2 c2 long sz ks _ HH.out hb pc cut cc HI2.out hn hcut).mono ?_; rintro e w2 ⟨rfl, hb3⟩; have HB2 := Lib.hid (hba.trans (hb3.mono (by simp; omega))); have R3 := Lib.hid (r3.below hb3 (by simp)); have hz := hb3.size; simp at hz; clear hb3) | (refine store_new rfl 98 _ _ rfl zero76 zero76 98 rfl rfl zero76_size rfl zero76_one ?_; have R4 := Lib.hid (R3.out.alloc (.cells zero76 98))) | (refine store_row rfl 29 _ _ rfl _ #[.int .i64 0, .int .i64 0] #[.int .i64 0, .int .i64 0] 29 rfl rfl R4.out (by kernel_rfl) rfl (by simp [Value.oneCell']) ?_))
  have hr2 := R4.out.setRow #[.int .i64 0, .int .i64 0]
  exact bodyPost_ret (v := .tuple #[.agg #[.int .i64 0, .int .i64 0], .int .i64 11]) (results_cell_two Try.results14 _ _ _ _ _ _ _ _ rfl rfl hr2 Try.underlying29 rfl (by kernel_rfl)) rfl ⟨rfl, below_setRow (HB2.out.alloc (by omega) _) (by omega) _⟩

set_option maxRecDepth 10000 in
set_option maxHeartbeats 1600000 in
theorem Whole_good (p1 : Option Addr) (c1 : Nat) (p2 : Option Addr) (c2 : Nat) (long : List Int) (sz : Int) (ks : List K4) (w0 : World) (h : LogAt w0 p1 p2 long ks) (pc : Option Addr) (cut : List Int) (cc : Nat) (hc : IntsAt w0 pc cut) (hn : cut.length ≤ maxLen) (hb : validB long sz ks = true) (hcut : cutOk sz (psum long long.length) 0 cut = true) :
    Calls Try.prog 14 #[.agg #[.slice p1 long.length c1, .int .i64 sz, .slice p2 ks.length c2], .slice pc cut.length cc] w0 fun e w' => e = .returned (.tuple #[.agg #[.int .i64 (loD long sz ks cut), .int .i64 (hiD long sz ks cut)], .int .i64 0]) ∧ Below w0.heap.size w0 w' := by
  have hok := valid_ok hb
  refine calls_marks Try.func14 rfl ?_
  simp only [Try.ntmps14, List.size_toArray, List.length_cons, List.length_nil, Nat.reduceAdd, Nat.reduceSub, Array.replicate_succ, Array.replicate_zero, List.push_toArray, List.append_toArray, List.nil_append, List.cons_append]
  have hba := ((below_alloc w0 (.cells #[.slice p1 long.length c1, .int .i64 sz, .slice p2 ks.length c2] 25)).alloc (Nat.le_of_lt (by simp)) (.cells #[.slice pc cut.length cc] 22)).alloc (by simp; omega) (.cells #[.int .i64 0, .int .i64 0] 29)
  have r3 : Row _ (w0.heap.size + 1 + 1) #[.int .i64 0, .int .i64 0] 29 := Row.new' (w := ((w0.alloc (.cells #[.slice p1 long.length c1, .int .i64 sz, .slice p2 ks.length c2] 25)).alloc (.cells #[.slice pc cut.length cc] 22))) (by simp) _ _
  have HH := Lib.hid (h.below hba)
  have rc : Row _ (w0.heap.size + 1) #[.slice pc cut.length cc] 22 := (Row.new' (w := (w0.alloc (.cells #[.slice p1 long.length c1, .int .i64 sz, .slice p2 ks.length c2] 25))) (by simp) _ _).alloc (.cells #[.int .i64 0, .int .i64 0] 29)
  have HI2 := Lib.hid (hc.below hba)
  have HH0 := Lib.hid h
  have HI0 := Lib.hid hc
  clear h hc
  have hcn := hn
  unfold maxLen at hcn
  go_wp2_with (first | (refine (ask_yes p1 c1 p2 c2 long sz ks _ HH.out hb pc cut cc HI2.out hn hcut).mono ?_; rintro e w2 ⟨R, mb, nn, f, rfl, hR, hA, hb3⟩; have HB2 := Lib.hid (hba.trans (hb3.mono (by simp; omega))); have R3 := Lib.hid (r3.below hb3 (by simp)); have RC := Lib.hid (rc.below hb3 (by simp <;> omega)); have HA3 := Lib.hid hA; have hz := hb3.size; simp at hz; clear hb3 hA) | (refine store_new rfl 98 _ _ rfl R.A zero76 98 rfl rfl (size76 hR.ok.s6) (by rw [R.size hR.ok.s6]; rfl) R.one ?_; have cc0 := (RC.out.alloc (.cells R.A 98)).cell 0 (v := .slice pc cut.length cc) rfl) | (refine load_row rfl 98 _ rfl _ rfl 98 _ _ ((Row.new w2 R.A 98).alloc (.cells #[.int .i64 cut.length, .int .i64 0] 29)) Try.underlying98 rfl (size76 hR.ok.s6) ?_) | (refine (truths_any R hR.ok.s6 _).mono ?_; rintro e w5 ⟨rfl, rfl⟩))
  have hA5 := ((HA3.out.below (below_alloc w2 (.cells R.A 98))).below (below_alloc _ (.cells #[.int .i64 cut.length, .int .i64 0] 29))).below (below_alloc _ (.cells R.A 98))
  have hB5 : Below w0.heap.size w0 (((w2.alloc (.cells R.A 98)).alloc (.cells #[.int .i64 cut.length, .int .i64 0] 29)).alloc (.cells R.A 98)) := ((HB2.out.alloc (by omega) _).alloc (by simp; omega) _).alloc (by simp; omega) _
  have rR : Row (((w2.alloc (.cells R.A 98)).alloc (.cells #[.int .i64 cut.length, .int .i64 0] 29)).alloc (.cells R.A 98)) w2.heap.size R.A 98 := ((Row.new _ _ _).alloc _).alloc _
  have rM : Row (((w2.alloc (.cells R.A 98)).alloc (.cells #[.int .i64 cut.length, .int .i64 0] 29)).alloc (.cells R.A 98)) (w2.heap.size + 1) #[.int .i64 cut.length, .int .i64 0] 29 := (Row.new' (by simp) _ _).alloc _
  have rT : Row (((w2.alloc (.cells R.A 98)).alloc (.cells #[.int .i64 cut.length, .int .i64 0] 29)).alloc (.cells R.A 98)) (w2.heap.size + 1 + 1) R.A 98 := Row.new' (by simp) _ _
  have rO : Row (((w2.alloc (.cells R.A 98)).alloc (.cells #[.int .i64 cut.length, .int .i64 0] 29)).alloc (.cells R.A 98)) (w0.heap.size + 1 + 1) #[.int .i64 0, .int .i64 0] 29 := ((R3.out.alloc _).alloc _).alloc _
  have rC : Row (((w2.alloc (.cells R.A 98)).alloc (.cells #[.int .i64 cut.length, .int .i64 0] 29)).alloc (.cells R.A 98)) (w0.heap.size + 1) #[.slice pc cut.length cc] 22 := ((RC.out.alloc _).alloc _).alloc _
  have hs5 : w2.heap.size + 1 + 1 + 1 = ((((w2.alloc (.cells R.A 98)).alloc (.cells #[.int .i64 cut.length, .int .i64 0] 29)).alloc (.cells R.A 98))).heap.size := by simp
  have HS5 := Lib.hid hs5
  have HW := Lib.hid (show w0.heap.size + 1 + 1 < w2.heap.size by omega)
  clear hs5 hba r3 rc HA3 HB2 R3 RC HH HI2 cc0
  go_wp2_with fail
  generalize (((w2.alloc (.cells R.A 98)).alloc (.cells #[.int .i64 cut.length, .int .i64 0] 29)).alloc (.cells R.A 98)) = w5 at *
  have RR := Lib.hid rR
  have RO := Lib.hid rO
  have RC := Lib.hid rC
  have HA5 := Lib.hid hA5
  have HB5 := Lib.hid hB5
  have hk0 : KnotsAt w0 R.p2 ks := by rw [hR.p2]; exact HH0.out.k
  have hnM := not_reads (b := w2.heap.size + 1 + 1) hA5 rM (by omega) hk0 (by have := HW.out; omega)
  clear rR rO rC hA5 hB5
  refine range_law 113 #[.pointer (some ⟨w2.heap.size + 1 + 1, 0, none⟩)] (readsR R ks (w2.heap.size + 1 + 1) mb) ((truthsD long ks).map fun c => #[cols c]) rfl (fun args w => Try.call113 args w)
    (fun W1 hb _ => truths_of hR hok _ W1 (rT.below hb (by have := HS5.out; omega)) (HA5.out.below hb)) (by intro x hx; simp at hx; obtain ⟨_, _, rfl⟩ := hx; rfl) (fun m => m = w2.heap.size + 1)
    (by rintro m rfl; exact ⟨by have := HS5.out; omega, hnM⟩) (not_reads_new HA5.out rT (by omega))
    (fun j A => Row A (w2.heap.size + 1) #[.int .i64 (loTo long sz ks cut j), .int .i64 (hiTo long sz ks cut j)] 29) (fun _ _ => False)
    (fun j A B h hb => by have := HS5.out; exact Row.below h hb (by omega)) (fun _ _ _ h _ => h) rM ?body ?done ?stop
  case body =>
    rintro l j x A rfl hx hI hkeep hlA
    obtain ⟨kn, hq, rfl⟩ := map_at hx
    have hlen := truthsD_length (List.mem_of_getElem? hq)
    have HLEN := Lib.hid hlen
    have HLO := Lib.hid (loTo_step (sz := sz) (cut := cut) hq)
    have HHI := Lib.hid (hiTo_step (sz := sz) (cut := cut) hq)
    have RR2 := Lib.hid (RR.out.keeps hkeep (by omega))
    have RC2 := Lib.hid (RC.out.keeps hkeep (by have := HW.out; omega))
    have hkB := ((hkeep.below (n := w0.heap.size) (by have := HS5.out; have := HW.out; omega) (fun m hm => by have := HW.out; omega)))
    have hI : Row A (w2.heap.size + 1) #[.int .i64 (loTo long sz ks cut j), .int .i64 (hiTo long sz ks cut j)] 29 := hI
    generalize loTo long sz ks cut j = lo at *
    generalize hiTo long sz ks cut j = hi0 at *
    clear hx hq hkeep
    rw [cols_def]
    gi_wp2_with (first | (refine store_newIn rfl 108 _ _ rfl (boolsA kn) Try.zeroCells108 108 rfl rfl (size88 HLEN.out) (by rw [zero88, boolsA_size, boolsA_size, HLEN.out, List.length_replicate]) (boolsA_one _) ?_))
    refine ⟨(KeepsBut.refl _ _).alloc _, fun oo => ?_⟩
    generalize hA2 : (A.alloc (Obj.cells (boolsA kn) 108)).putObj (w5.heap.size + 1) oo = A2
    have hsame : ∀ m, m ≠ w5.heap.size + 1 → A2.heap[m]? = (A.alloc (Obj.cells (boolsA kn) 108)).heap[m]? := fun m hm => by rw [← hA2]; exact World.putObj_heap_other hm
    have hAo : Below w5.heap.size A A2 := by rw [← hA2]; exact ((below_alloc _ _).mono (by omega)).trans (below_putObj _ _ _ (by omega))
    have q0 : Row A2 w2.heap.size R.A 98 := by unfold Row; rw [hsame _ (by have := HS5.out; omega)]; exact RR2.out.alloc _
    have qm : Row A2 (w2.heap.size + 1) #[.int .i64 lo, .int .i64 hi0] 29 := by unfold Row; rw [hsame _ (by have := HS5.out; omega)]; exact hI.alloc _
    have qk : Row A2 A.heap.size (boolsA kn) 108 := by unfold Row; rw [hsame _ (by omega)]; exact Row.new _ _ _
    have qc : Row A2 (w0.heap.size + 1) #[.slice pc cut.length cc] 22 := by unfold Row; rw [hsame _ (by have := HS5.out; have := HW.out; omega)]; exact RC2.out.alloc _
    have qi : IntsAt A2 pc cut := HI0.out.below ((HB5.out.trans hkB).trans (hAo.mono (by have := HS5.out; have := HW.out; omega)))
    have HAS := Lib.hid (show w2.heap.size + 1 + 1 < A.heap.size by have := HS5.out; omega)
    clear hsame hA2 hI RR2 RC2 hlen hnM rM rT hk0 hAo hkB
    gi_wp2_with fail
    refine region_invIn rfl (by kernel_rfl) (by kernel_rfl) (fun L a v => ∃ x10 x27 x28 x29 x30 x31 : Value, a = { tmps := #[.agg #[.slice p1 long.length c1, .int .i64 sz, .slice p2 ks.length c2], .slice pc cut.length cc, .pointer (some ⟨w0.heap.size, 0, none⟩), .pointer (some ⟨w0.heap.size + 1, 0, none⟩), .pointer (some ⟨w0.heap.size + 1 + 1, 0, none⟩), .int .i64 0, .pointer (some ⟨w2.heap.size, 0, none⟩), .int .i64 0, .pointer (some ⟨w2.heap.size + 1, 0, none⟩), .pointer (some ⟨A.heap.size, 0, none⟩), x10, .tuple #[.agg R.A, .int .i64 0], .agg #[.slice p1 long.length c1, .int .i64 sz, .slice p2 ks.length c2], .slice pc cut.length cc, .tuple #[.agg R.A, .int .i64 0], .agg R.A, .int .i64 0, .int .i64 0, .bool false, undef, undef, .slice pc cut.length cc, .int .i64 cut.length, .agg #[.int .i64 cut.length, .int .i64 0], .agg R.A, .func (.func 113) #[] #[.pointer (some ⟨w2.heap.size + 1 + 1, 0, none⟩)], .agg (boolsA kn), x27, x28, x29, x30, x31, undef, undef, undef, undef, undef, undef, undef, undef, undef, undef, undef], defers := [] } ∧ Hid (L 0 = true → x27 = .agg R.A) ∧ Hid (L 1 = true → x28 = .agg (boolsA kn)) ∧ Hid (L 2 = true → x29 = knifeV (wideN long) sz.toNat (wholesD long sz kn)) ∧ Hid (L 3 = true → x30 = .slice pc cut.length cc) ∧ Hid (L 4 = true → x31 = .int .i64 (countL (wholesD long sz kn) cut)) ∧ Hid (L 5 = true → x10 = .int .i64 (countL (wholesD long sz kn) cut)) ∧ Hid (Row v w2.heap.size R.A 98) ∧ Hid (Row v A.heap.size (boolsA kn) 108) ∧ Hid (Row v (w2.heap.size + 1) #[.int .i64 lo, .int .i64 hi0] 29) ∧ Hid (Row v (w0.heap.size + 1) #[.slice pc cut.length cc] 22) ∧ Hid (IntsAt v pc cut) ∧ Hid (KeepsBut (fun m => m = w2.heap.size + 1) A2 v)) ?h0 ?steps ?hd
    case h0 => exact ⟨_, _, _, _, _, _, rfl, Lib.hid nofun, Lib.hid nofun, Lib.hid nofun, Lib.hid nofun, Lib.hid nofun, Lib.hid nofun, Lib.hid (q0), Lib.hid (qk), Lib.hid (qm), Lib.hid (qc), Lib.hid (qi), Lib.hid ((KeepsBut.refl _ _).drew)⟩
    case hd =>
      rintro L a v hL ⟨x10, x27, x28, x29, x30, x31, rfl, hf0, hf1, hf2, hf3, hf4, hf5, hr0, hkn, hm, hc, hi, hkb⟩
      obtain rfl := hf0.out (hL 0 (by decide))
      obtain rfl := hf1.out (hL 1 (by decide))
      obtain rfl := hf2.out (hL 2 (by decide))
      obtain rfl := hf3.out (hL 3 (by decide))
      obtain rfl := hf4.out (hL 4 (by decide))
      obtain rfl := hf5.out (hL 5 (by decide))
      clear hf0
      clear hf1
      clear hf2
      clear hf3
      clear hf4
      clear hf5
      clear hL
      have Hm := hm
      have Hkb := hkb
      clear hm hkb hr0 hkn hc hi q0 qk qm qc qi
      gi_wp2_with fail
      refine region_invIn rfl (by kernel_rfl) (by kernel_rfl) (fun L a u => ∃ x32 x33 x34 x35 x36 x37 x38 x39 x40 x41 : Value, a = { tmps := #[.agg #[.slice p1 long.length c1, .int .i64 sz, .slice p2 ks.length c2], .slice pc cut.length cc, .pointer (some ⟨w0.heap.size, 0, none⟩), .pointer (some ⟨w0.heap.size + 1, 0, none⟩), .pointer (some ⟨w0.heap.size + 1 + 1, 0, none⟩), .int .i64 0, .pointer (some ⟨w2.heap.size, 0, none⟩), .int .i64 0, .pointer (some ⟨w2.heap.size + 1, 0, none⟩), .pointer (some ⟨A.heap.size, 0, none⟩), .int .i64 (countL (wholesD long sz kn) cut), .tuple #[.agg R.A, .int .i64 0], .agg #[.slice p1 long.length c1, .int .i64 sz, .slice p2 ks.length c2], .slice pc cut.length cc, .tuple #[.agg R.A, .int .i64 0], .agg R.A, .int .i64 0, .int .i64 0, .bool false, undef, undef, .slice pc cut.length cc, .int .i64 cut.length, .agg #[.int .i64 cut.length, .int .i64 0], .agg R.A, .func (.func 113) #[] #[.pointer (some ⟨w2.heap.size + 1 + 1, 0, none⟩)], .agg (boolsA kn), .agg R.A, .agg (boolsA kn), knifeV (wideN long) sz.toNat (wholesD long sz kn), .slice pc cut.length cc, .int .i64 (countL (wholesD long sz kn) cut), x32, x33, x34, x35, x36, x37, x38, x39, x40, x41, undef], defers := [] } ∧ Hid (L 0 = true → x32 = .pointer (some ⟨w2.heap.size + 1, 0, none⟩)) ∧ Hid (L 1 = true → x33 = .int .i64 lo) ∧ Hid (L 2 = true → x34 = .int .i64 (countL (wholesD long sz kn) cut)) ∧ Hid (L 3 = true → x35 = .int .i64 (min lo (countL (wholesD long sz kn) cut))) ∧ Hid (L 4 = true → x36 = .pointer (some ⟨w2.heap.size + 1, 1, none⟩)) ∧ Hid (L 5 = true → x37 = .int .i64 hi0) ∧ Hid (L 6 = true → x38 = .int .i64 (countL (wholesD long sz kn) cut)) ∧ Hid (L 8 = true → x40 = .int .i64 (max hi0 (countL (wholesD long sz kn) cut))) ∧ Hid (L 9 = true → x41 = .agg #[.int .i64 (min lo (countL (wholesD long sz kn) cut)), .int .i64 (max hi0 (countL (wholesD long sz kn) cut))]) ∧ Hid (L 10 = false → Row u (w2.heap.size + 1) #[.int .i64 lo, .int .i64 hi0] 29) ∧ Hid (L 10 = true → Row u (w2.heap.size + 1) #[.int .i64 (min lo (countL (wholesD long sz kn) cut)), .int .i64 (max hi0 (countL (wholesD long sz kn) cut))] 29) ∧ Hid (L 7 = true → L 8 = false → ∃ g, x39 = .slice (some ⟨g, 0, none⟩) 1 1 ∧ IntsAt u (some ⟨g, 0, none⟩) [(countL (wholesD long sz kn) cut)]) ∧ Hid (L 10 = true → L 1 = true ∧ L 5 = true) ∧ Hid (KeepsBut (fun m => m = w2.heap.size + 1) A2 u)) ?g0 ?gsteps ?gd
      case g0 => exact ⟨_, _, _, _, _, _, _, _, _, _, rfl, Lib.hid nofun, Lib.hid nofun, Lib.hid nofun, Lib.hid nofun, Lib.hid nofun, Lib.hid nofun, Lib.hid nofun, Lib.hid nofun, Lib.hid nofun, Lib.hid (fun _ => Hm.out.drew), Lib.hid (nofun), Lib.hid (fun h => by cases h), Lib.hid (nofun), Lib.hid (Hkb.out.drew)⟩
      case gd =>
        rintro L a u hL ⟨x32, x33, x34, x35, x36, x37, x38, x39, x40, x41, rfl, hf0, hf1, hf2, hf3, hf4, hf5, hf6, hf8, hf9, hm, hm2, hsl, hord, hkb⟩
        obtain rfl := hf0.out (hL 0 (by decide))
        obtain rfl := hf1.out (hL 1 (by decide))
        obtain rfl := hf2.out (hL 2 (by decide))
        obtain rfl := hf3.out (hL 3 (by decide))
        obtain rfl := hf4.out (hL 4 (by decide))
        obtain rfl := hf5.out (hL 5 (by decide))
        obtain rfl := hf6.out (hL 6 (by decide))
        obtain rfl := hf8.out (hL 8 (by decide))
        obtain rfl := hf9.out (hL 9 (by decide))
        clear hf0
        clear hf1
        clear hf2
        clear hf3
        clear hf4
        clear hf5
        clear hf6
        clear hf8
        clear hf9
        have hmz := hm2.out (hL 10 (by decide))
        clear hL hm hm2 hsl hord
        exact ⟨hkb.out, by rw [HLO.out, HHI.out]; exact hmz⟩
      case gsteps =>
        refine ⟨?_, ?_, ?_, ?_, ?_, ?_, ?_, ?_, ?_, ?_, ?_, trivial⟩
        · rintro L a u hL hk ⟨x32, x33, x34, x35, x36, x37, x38, x39, x40, x41, rfl, hf0, hf1, hf2, hf3, hf4, hf5, hf6, hf8, hf9, hm, hm2, hsl, hord, hkb⟩ K hK
          have HK0 := Lib.hid hK
          clear hK
          clear hL
          clear hk
          go_wp2
          exact HK0.out _ _ ⟨_, _, _, _, _, _, _, _, _, _, rfl, Lib.hid (fun _ => rfl), Lib.hid (fun h => hf1.out (by simpa [upd] using h)), Lib.hid (fun h => hf2.out (by simpa [upd] using h)), Lib.hid (fun h => hf3.out (by simpa [upd] using h)), Lib.hid (fun h => hf4.out (by simpa [upd] using h)), Lib.hid (fun h => hf5.out (by simpa [upd] using h)), Lib.hid (fun h => hf6.out (by simpa [upd] using h)), Lib.hid (fun h => hf8.out (by simpa [upd] using h)), Lib.hid (fun h => hf9.out (by simpa [upd] using h)), Lib.hid (fun h => hm.out (by simpa [upd] using h)), Lib.hid (fun h => hm2.out (by simpa [upd] using h)), Lib.hid (fun h h5 => hsl.out (by simpa [upd] using h) (by simpa [upd] using h5)), Lib.hid (fun h => by have := hord.out (by simpa [upd] using h); first | (simp [upd]; done) | (simp [upd]; simp [this])), hkb⟩
        · rintro L a u hL hk ⟨x32, x33, x34, x35, x36, x37, x38, x39, x40, x41, rfl, hf0, hf1, hf2, hf3, hf4, hf5, hf6, hf8, hf9, hm, hm2, hsl, hord, hkb⟩ K hK
          have HK0 := Lib.hid hK
          clear hK
          obtain rfl := hf0.out (after_on hL 0 rfl)
          clear hL
          have h10 : L 10 = false := by cases h7 : L 10; rfl; exact absurd (hord.out h7).1 (by simp [hk])
          have c0 := (hm.out h10).cell 0 (v := .int .i64 lo) rfl
          clear hk
          go_wp2
          exact HK0.out _ _ ⟨_, _, _, _, _, _, _, _, _, _, rfl, Lib.hid (fun _ => rfl), Lib.hid (fun _ => rfl), Lib.hid (fun h => hf2.out (by simpa [upd] using h)), Lib.hid (fun h => hf3.out (by simpa [upd] using h)), Lib.hid (fun h => hf4.out (by simpa [upd] using h)), Lib.hid (fun h => hf5.out (by simpa [upd] using h)), Lib.hid (fun h => hf6.out (by simpa [upd] using h)), Lib.hid (fun h => hf8.out (by simpa [upd] using h)), Lib.hid (fun h => hf9.out (by simpa [upd] using h)), Lib.hid (fun h => hm.out (by simpa [upd] using h)), Lib.hid (fun h => hm2.out (by simpa [upd] using h)), Lib.hid (fun h h5 => hsl.out (by simpa [upd] using h) (by simpa [upd] using h5)), Lib.hid (fun h => by have := hord.out (by simpa [upd] using h); first | (simp [upd]; done) | (simp [upd]; simp [this])), hkb⟩
        · rintro L a u hL hk ⟨x32, x33, x34, x35, x36, x37, x38, x39, x40, x41, rfl, hf0, hf1, hf2, hf3, hf4, hf5, hf6, hf8, hf9, hm, hm2, hsl, hord, hkb⟩ K hK
          have HK0 := Lib.hid hK
          clear hK
          clear hL
          clear hk
          go_wp2
          exact HK0.out _ _ ⟨_, _, _, _, _, _, _, _, _, _, rfl, Lib.hid (fun h => hf0.out (by simpa [upd] using h)), Lib.hid (fun h => hf1.out (by simpa [upd] using h)), Lib.hid (fun _ => rfl), Lib.hid (fun h => hf3.out (by simpa [upd] using h)), Lib.hid (fun h => hf4.out (by simpa [upd] using h)), Lib.hid (fun h => hf5.out (by simpa [upd] using h)), Lib.hid (fun h => hf6.out (by simpa [upd] using h)), Lib.hid (fun h => hf8.out (by simpa [upd] using h)), Lib.hid (fun h => hf9.out (by simpa [upd] using h)), Lib.hid (fun h => hm.out (by simpa [upd] using h)), Lib.hid (fun h => hm2.out (by simpa [upd] using h)), Lib.hid (fun h h5 => hsl.out (by simpa [upd] using h) (by simpa [upd] using h5)), Lib.hid (fun h => by have := hord.out (by simpa [upd] using h); first | (simp [upd]; done) | (simp [upd]; simp [this])), hkb⟩
        · rintro L a u hL hk ⟨x32, x33, x34, x35, x36, x37, x38, x39, x40, x41, rfl, hf0, hf1, hf2, hf3, hf4, hf5, hf6, hf8, hf9, hm, hm2, hsl, hord, hkb⟩ K hK
          have HK0 := Lib.hid hK
          clear hK
          obtain rfl := hf1.out (after_on hL 1 rfl)
          obtain rfl := hf2.out (after_on hL 2 rfl)
          clear hL
          clear hk
          go_wp2
          all_goals exact HK0.out _ _ ⟨_, _, _, _, _, _, _, _, _, _, rfl, Lib.hid (fun h => hf0.out (by simpa [upd] using h)), Lib.hid (fun _ => rfl), Lib.hid (fun _ => rfl), Lib.hid (fun _ => by congr 1; omega), Lib.hid (fun h => hf4.out (by simpa [upd] using h)), Lib.hid (fun h => hf5.out (by simpa [upd] using h)), Lib.hid (fun h => hf6.out (by simpa [upd] using h)), Lib.hid (fun h => hf8.out (by simpa [upd] using h)), Lib.hid (fun h => hf9.out (by simpa [upd] using h)), Lib.hid (fun h => hm.out (by simpa [upd] using h)), Lib.hid (fun h => hm2.out (by simpa [upd] using h)), Lib.hid (fun h h5 => hsl.out (by simpa [upd] using h) (by simpa [upd] using h5)), Lib.hid (fun h => by have := hord.out (by simpa [upd] using h); first | (simp [upd]; done) | (simp [upd]; simp [this])), hkb⟩
        · rintro L a u hL hk ⟨x32, x33, x34, x35, x36, x37, x38, x39, x40, x41, rfl, hf0, hf1, hf2, hf3, hf4, hf5, hf6, hf8, hf9, hm, hm2, hsl, hord, hkb⟩ K hK
          have HK0 := Lib.hid hK
          clear hK
          clear hL
          clear hk
          go_wp2
          exact HK0.out _ _ ⟨_, _, _, _, _, _, _, _, _, _, rfl, Lib.hid (fun h => hf0.out (by simpa [upd] using h)), Lib.hid (fun h => hf1.out (by simpa [upd] using h)), Lib.hid (fun h => hf2.out (by simpa [upd] using h)), Lib.hid (fun h => hf3.out (by simpa [upd] using h)), Lib.hid (fun _ => rfl), Lib.hid (fun h => hf5.out (by simpa [upd] using h)), Lib.hid (fun h => hf6.out (by simpa [upd] using h)), Lib.hid (fun h => hf8.out (by simpa [upd] using h)), Lib.hid (fun h => hf9.out (by simpa [upd] using h)), Lib.hid (fun h => hm.out (by simpa [upd] using h)), Lib.hid (fun h => hm2.out (by simpa [upd] using h)), Lib.hid (fun h h5 => hsl.out (by simpa [upd] using h) (by simpa [upd] using h5)), Lib.hid (fun h => by have := hord.out (by simpa [upd] using h); first | (simp [upd]; done) | (simp [upd]; simp [this])), hkb⟩
        · rintro L a u hL hk ⟨x32, x33, x34, x35, x36, x37, x38, x39, x40, x41, rfl, hf0, hf1, hf2, hf3, hf4, hf5, hf6, hf8, hf9, hm, hm2, hsl, hord, hkb⟩ K hK
          have HK0 := Lib.hid hK
          clear hK
          obtain rfl := hf4.out (after_on hL 4 rfl)
          clear hL
          have h10 : L 10 = false := by cases h7 : L 10; rfl; exact absurd (hord.out h7).2 (by simp [hk])
          have c0 := (hm.out h10).cell 1 (v := .int .i64 hi0) rfl
          clear hk
          go_wp2
          exact HK0.out _ _ ⟨_, _, _, _, _, _, _, _, _, _, rfl, Lib.hid (fun h => hf0.out (by simpa [upd] using h)), Lib.hid (fun h => hf1.out (by simpa [upd] using h)), Lib.hid (fun h => hf2.out (by simpa [upd] using h)), Lib.hid (fun h => hf3.out (by simpa [upd] using h)), Lib.hid (fun _ => rfl), Lib.hid (fun _ => rfl), Lib.hid (fun h => hf6.out (by simpa [upd] using h)), Lib.hid (fun h => hf8.out (by simpa [upd] using h)), Lib.hid (fun h => hf9.out (by simpa [upd] using h)), Lib.hid (fun h => hm.out (by simpa [upd] using h)), Lib.hid (fun h => hm2.out (by simpa [upd] using h)), Lib.hid (fun h h5 => hsl.out (by simpa [upd] using h) (by simpa [upd] using h5)), Lib.hid (fun h => by have := hord.out (by simpa [upd] using h); first | (simp [upd]; done) | (simp [upd]; simp [this])), hkb⟩
        · rintro L a u hL hk ⟨x32, x33, x34, x35, x36, x37, x38, x39, x40, x41, rfl, hf0, hf1, hf2, hf3, hf4, hf5, hf6, hf8, hf9, hm, hm2, hsl, hord, hkb⟩ K hK
          have HK0 := Lib.hid hK
          clear hK
          clear hL
          clear hk
          go_wp2
          exact HK0.out _ _ ⟨_, _, _, _, _, _, _, _, _, _, rfl, Lib.hid (fun h => hf0.out (by simpa [upd] using h)), Lib.hid (fun h => hf1.out (by simpa [upd] using h)), Lib.hid (fun h => hf2.out (by simpa [upd] using h)), Lib.hid (fun h => hf3.out (by simpa [upd] using h)), Lib.hid (fun h => hf4.out (by simpa [upd] using h)), Lib.hid (fun h => hf5.out (by simpa [upd] using h)), Lib.hid (fun _ => rfl), Lib.hid (fun h => hf8.out (by simpa [upd] using h)), Lib.hid (fun h => hf9.out (by simpa [upd] using h)), Lib.hid (fun h => hm.out (by simpa [upd] using h)), Lib.hid (fun h => hm2.out (by simpa [upd] using h)), Lib.hid (fun h h5 => hsl.out (by simpa [upd] using h) (by simpa [upd] using h5)), Lib.hid (fun h => by have := hord.out (by simpa [upd] using h); first | (simp [upd]; done) | (simp [upd]; simp [this])), hkb⟩
        · rintro L a u hL hk ⟨x32, x33, x34, x35, x36, x37, x38, x39, x40, x41, rfl, hf0, hf1, hf2, hf3, hf4, hf5, hf6, hf8, hf9, hm, hm2, hsl, hord, hkb⟩ K hK
          have HK0 := Lib.hid hK
          clear hK
          obtain rfl := hf6.out (after_on hL 6 rfl)
          clear hL
          clear hk
          go_wp2
          exact HK0.out _ _ ⟨_, _, _, _, _, _, _, _, _, _, rfl, Lib.hid (fun h => hf0.out (by simpa [upd] using h)), Lib.hid (fun h => hf1.out (by simpa [upd] using h)), Lib.hid (fun h => hf2.out (by simpa [upd] using h)), Lib.hid (fun h => hf3.out (by simpa [upd] using h)), Lib.hid (fun h => hf4.out (by simpa [upd] using h)), Lib.hid (fun h => hf5.out (by simpa [upd] using h)), Lib.hid (fun _ => rfl), Lib.hid (fun h => hf8.out (by simpa [upd] using h)), Lib.hid (fun h => hf9.out (by simpa [upd] using h)), Lib.hid (fun h => (hm.out (by simpa [upd] using h)).below (below_alloc u _) (hm.out (by simpa [upd] using h)).lt), Lib.hid (fun h => (hm2.out (by simpa [upd] using h)).below (below_alloc u _) (hm2.out (by simpa [upd] using h)).lt), Lib.hid (fun _ _ => ⟨_, rfl, ints_one _ _⟩), Lib.hid (fun h => by have := hord.out (by simpa [upd] using h); first | (simp [upd]; done) | (simp [upd]; simp [this])), Lib.hid (hkb.out.after (below_alloc u _))⟩
        · rintro L a u hL hk ⟨x32, x33, x34, x35, x36, x37, x38, x39, x40, x41, rfl, hf0, hf1, hf2, hf3, hf4, hf5, hf6, hf8, hf9, hm, hm2, hsl, hord, hkb⟩ K hK
          have HK0 := Lib.hid hK
          clear hK
          obtain rfl := hf5.out (after_on hL 5 rfl)
          obtain ⟨g, rfl, hi⟩ := hsl.out (after_on hL 7 rfl) hk
          clear hL hk
          go_wp2_with fail
          refine (greatest_any hi0 (some ⟨g, 0, none⟩) 1 [(countL (wholesD long sz kn) cut)] _ (by simp [maxLen]) hi).mono ?_
          rintro e w6 ⟨rfl, rfl⟩
          rw [maxL_one]
          exact HK0.out _ _ ⟨_, _, _, _, _, _, _, _, _, _, rfl, Lib.hid (fun h => hf0.out (by simpa [upd] using h)), Lib.hid (fun h => hf1.out (by simpa [upd] using h)), Lib.hid (fun h => hf2.out (by simpa [upd] using h)), Lib.hid (fun h => hf3.out (by simpa [upd] using h)), Lib.hid (fun h => hf4.out (by simpa [upd] using h)), Lib.hid (fun _ => rfl), Lib.hid (fun h => hf6.out (by simpa [upd] using h)), Lib.hid (fun _ => rfl), Lib.hid (fun h => hf9.out (by simpa [upd] using h)), Lib.hid (fun h => hm.out (by simpa [upd] using h)), Lib.hid (fun h => hm2.out (by simpa [upd] using h)), Lib.hid (fun _ h => by simp [upd] at h), Lib.hid (fun h => by have := hord.out (by simpa [upd] using h); first | (simp [upd]; done) | (simp [upd]; simp [this])), hkb⟩
        · rintro L a u hL hk ⟨x32, x33, x34, x35, x36, x37, x38, x39, x40, x41, rfl, hf0, hf1, hf2, hf3, hf4, hf5, hf6, hf8, hf9, hm, hm2, hsl, hord, hkb⟩ K hK
          have HK0 := Lib.hid hK
          clear hK
          obtain rfl := hf3.out (after_on hL 3 rfl)
          obtain rfl := hf8.out (after_on hL 8 rfl)
          clear hL
          clear hk
          go_wp2
          exact HK0.out _ _ ⟨_, _, _, _, _, _, _, _, _, _, rfl, Lib.hid (fun h => hf0.out (by simpa [upd] using h)), Lib.hid (fun h => hf1.out (by simpa [upd] using h)), Lib.hid (fun h => hf2.out (by simpa [upd] using h)), Lib.hid (fun _ => rfl), Lib.hid (fun h => hf4.out (by simpa [upd] using h)), Lib.hid (fun h => hf5.out (by simpa [upd] using h)), Lib.hid (fun h => hf6.out (by simpa [upd] using h)), Lib.hid (fun _ => rfl), Lib.hid (fun _ => rfl), Lib.hid (fun h => hm.out (by simpa [upd] using h)), Lib.hid (fun h => hm2.out (by simpa [upd] using h)), Lib.hid (fun h h5 => hsl.out (by simpa [upd] using h) (by simpa [upd] using h5)), Lib.hid (fun h => by have := hord.out (by simpa [upd] using h); first | (simp [upd]; done) | (simp [upd]; simp [this])), hkb⟩
        · rintro L a u hL hk ⟨x32, x33, x34, x35, x36, x37, x38, x39, x40, x41, rfl, hf0, hf1, hf2, hf3, hf4, hf5, hf6, hf8, hf9, hm, hm2, hsl, hord, hkb⟩ K hK
          have HK0 := Lib.hid hK
          clear hK
          obtain rfl := hf9.out (after_on hL 9 rfl)
          have hrz := hm.out hk
          have HLL := Lib.hid hL
          clear hL hk
          refine wp_store_row' 29 _ _ rfl _ #[.int .i64 (min lo (countL (wholesD long sz kn) cut)), .int .i64 (max hi0 (countL (wholesD long sz kn) cut))] _ _ rfl rfl hrz (by kernel_rfl) rfl (by simp [Value.oneCell']) ?_
          exact HK0.out _ _ ⟨_, _, _, _, _, _, _, _, _, _, rfl, Lib.hid (fun h => hf0.out (by simpa [upd] using h)), Lib.hid (fun h => hf1.out (by simpa [upd] using h)), Lib.hid (fun h => hf2.out (by simpa [upd] using h)), Lib.hid (fun h => hf3.out (by simpa [upd] using h)), Lib.hid (fun h => hf4.out (by simpa [upd] using h)), Lib.hid (fun h => hf5.out (by simpa [upd] using h)), Lib.hid (fun h => hf6.out (by simpa [upd] using h)), Lib.hid (fun h => hf8.out (by simpa [upd] using h)), Lib.hid (fun _ => rfl), Lib.hid (fun h => by simp [upd] at h), Lib.hid (fun _ => hrz.setRow _), Lib.hid (fun _ h5 => absurd (after_on HLL.out 8 rfl) (by have h9 : L 8 = false := (by simpa [upd] using h5); simp [h9])), Lib.hid (fun _ => by rw [upd_other _ (by decide), upd_other _ (by decide)]; exact ⟨after_on HLL.out 1 rfl, after_on HLL.out 5 rfl⟩), Lib.hid (hkb.out.setRow (.inl rfl) _)⟩
    case steps =>
      refine ⟨?_, ?_, ?_, ?_, ?_, ?_, trivial⟩
      · rintro L a v hL hk ⟨x10, x27, x28, x29, x30, x31, rfl, hf0, hf1, hf2, hf3, hf4, hf5, hr0, hkn, hm, hc, hi, hkb⟩ K hK
        have HK0 := Lib.hid hK
        clear hK
        clear hL
        clear hk
        refine wp_load_row 98 _ rfl _ rfl 98 _ (0, 0) _ hr0.out Try.underlying98 rfl (size76 hR.ok.s6) ?_
        exact HK0.out _ _ ⟨_, _, _, _, _, _, rfl, Lib.hid (fun _ => rfl), Lib.hid (fun h => hf1.out (by simpa [upd] using h)), Lib.hid (fun h => hf2.out (by simpa [upd] using h)), Lib.hid (fun h => hf3.out (by simpa [upd] using h)), Lib.hid (fun h => hf4.out (by simpa [upd] using h)), Lib.hid (fun h => hf5.out (by simpa [upd] using h)), hr0, hkn, hm, hc, hi, hkb⟩
      · rintro L a v hL hk ⟨x10, x27, x28, x29, x30, x31, rfl, hf0, hf1, hf2, hf3, hf4, hf5, hr0, hkn, hm, hc, hi, hkb⟩ K hK
        have HK0 := Lib.hid hK
        clear hK
        clear hL
        clear hk
        refine wp_load_row 108 _ rfl _ rfl 108 _ (0, 0) _ hkn.out Try.underlying108 rfl (size88 HLEN.out) ?_
        exact HK0.out _ _ ⟨_, _, _, _, _, _, rfl, Lib.hid (fun h => hf0.out (by simpa [upd] using h)), Lib.hid (fun _ => rfl), Lib.hid (fun h => hf2.out (by simpa [upd] using h)), Lib.hid (fun h => hf3.out (by simpa [upd] using h)), Lib.hid (fun h => hf4.out (by simpa [upd] using h)), Lib.hid (fun h => hf5.out (by simpa [upd] using h)), hr0, hkn, hm, hc, hi, hkb⟩
      · rintro L a v hL hk ⟨x10, x27, x28, x29, x30, x31, rfl, hf0, hf1, hf2, hf3, hf4, hf5, hr0, hkn, hm, hc, hi, hkb⟩ K hK
        have HK0 := Lib.hid hK
        clear hK
        obtain rfl := hf0.out (after_on hL 0 rfl)
        obtain rfl := hf1.out (after_on hL 1 rfl)
        clear hL
        clear hk
        go_wp2_with fail
        refine (knife_of hR hok kn HLEN.out _).mono ?_
        rintro e w6 ⟨rfl, hb6⟩
        exact HK0.out _ _ ⟨_, _, _, _, _, _, rfl, Lib.hid (fun _ => rfl), Lib.hid (fun _ => rfl), Lib.hid (fun _ => rfl), Lib.hid (fun h => hf3.out (by simpa [upd] using h)), Lib.hid (fun h => hf4.out (by simpa [upd] using h)), Lib.hid (fun h => hf5.out (by simpa [upd] using h)), Lib.hid (hr0.out.below hb6 hr0.out.lt), Lib.hid (hkn.out.below hb6 hkn.out.lt), Lib.hid (hm.out.below hb6 hm.out.lt), Lib.hid (hc.out.below hb6 hc.out.lt), Lib.hid (hi.out.below hb6), Lib.hid (hkb.out.after hb6)⟩
      · rintro L a v hL hk ⟨x10, x27, x28, x29, x30, x31, rfl, hf0, hf1, hf2, hf3, hf4, hf5, hr0, hkn, hm, hc, hi, hkb⟩ K hK
        have HK0 := Lib.hid hK
        clear hK
        clear hL
        clear hk
        have c0 := hc.out.cell 0 (v := .slice pc cut.length cc) rfl
        go_wp2
        exact HK0.out _ _ ⟨_, _, _, _, _, _, rfl, Lib.hid (fun h => hf0.out (by simpa [upd] using h)), Lib.hid (fun h => hf1.out (by simpa [upd] using h)), Lib.hid (fun h => hf2.out (by simpa [upd] using h)), Lib.hid (fun _ => rfl), Lib.hid (fun h => hf4.out (by simpa [upd] using h)), Lib.hid (fun h => hf5.out (by simpa [upd] using h)), hr0, hkn, hm, hc, hi, hkb⟩
      · rintro L a v hL hk ⟨x10, x27, x28, x29, x30, x31, rfl, hf0, hf1, hf2, hf3, hf4, hf5, hr0, hkn, hm, hc, hi, hkb⟩ K hK
        have HK0 := Lib.hid hK
        clear hK
        obtain rfl := hf2.out (after_on hL 2 rfl)
        obtain rfl := hf3.out (after_on hL 3 rfl)
        clear hL
        clear hk
        go_wp2_with fail
        refine (count_of hok _ (wholesD_length _ _ _) _ _ _ _ hn hi.out hcut).mono ?_
        rintro e w6 ⟨rfl, hb6⟩
        exact HK0.out _ _ ⟨_, _, _, _, _, _, rfl, Lib.hid (fun h => hf0.out (by simpa [upd] using h)), Lib.hid (fun h => hf1.out (by simpa [upd] using h)), Lib.hid (fun _ => rfl), Lib.hid (fun _ => rfl), Lib.hid (fun _ => rfl), Lib.hid (fun h => hf5.out (by simpa [upd] using h)), Lib.hid (hr0.out.below hb6 hr0.out.lt), Lib.hid (hkn.out.below hb6 hkn.out.lt), Lib.hid (hm.out.below hb6 hm.out.lt), Lib.hid (hc.out.below hb6 hc.out.lt), Lib.hid (hi.out.below hb6), Lib.hid (hkb.out.after hb6)⟩
      · rintro L a v hL hk ⟨x10, x27, x28, x29, x30, x31, rfl, hf0, hf1, hf2, hf3, hf4, hf5, hr0, hkn, hm, hc, hi, hkb⟩ K hK
        have HK0 := Lib.hid hK
        clear hK
        obtain rfl := hf4.out (after_on hL 4 rfl)
        clear hL
        clear hk
        go_wp2
        exact HK0.out _ _ ⟨_, _, _, _, _, _, rfl, Lib.hid (fun h => hf0.out (by simpa [upd] using h)), Lib.hid (fun h => hf1.out (by simpa [upd] using h)), Lib.hid (fun h => hf2.out (by simpa [upd] using h)), Lib.hid (fun h => hf3.out (by simpa [upd] using h)), Lib.hid (fun _ => rfl), Lib.hid (fun _ => rfl), hr0, hkn, hm, hc, hi, hkb⟩
  case done =>
    intro W3 hI hkeep hsz hD
    have hI : Row W3 (w2.heap.size + 1) #[.int .i64 (loTo long sz ks cut ((truthsD long ks).map fun c => #[cols c]).length), .int .i64 (hiTo long sz ks cut ((truthsD long ks).map fun c => #[cols c]).length)] 29 := hI
    rw [List.length_map, loTo, hiTo, List.take_length] at hI
    have hmarks := (show Marks w0.heap.size [] w5 from trivial).push hkeep (fun m oo hm h => by subst hm; unfold Row at rM; rw [rM] at h; cases h) (by have := HS5.out; have := HW.out; omega) hD
    have HM := Lib.hid hmarks
    have HB6 := Lib.hid (HB5.out.trans (hkeep.below (n := w0.heap.size) (by have := HS5.out; have := HW.out; omega) (fun m hm => by have := HS5.out; have := HW.out; omega)))
    have RO2 := Lib.hid (RO.out.keeps hkeep (by have := HW.out; omega))
    have HI3 := Lib.hid (show Row W3 (w2.heap.size + 1) #[.int .i64 (loD long sz ks cut), .int .i64 (hiD long sz ks cut)] 29 from hI)
    clear hkeep hD hmarks hI rM rT hnM hk0
    go_wp2_with (first | (refine load_row rfl 29 _ rfl _ rfl 29 _ _ HI3.out Try.underlying29 rfl (by kernel_rfl) ?_) | (refine store_row rfl 29 _ _ rfl _ #[.int .i64 (loD long sz ks cut), .int .i64 (hiD long sz ks cut)] #[.int .i64 0, .int .i64 0] 29 rfl rfl RO2.out (by kernel_rfl) rfl (by simp [Value.oneCell']) ?_))
    have hr2 := RO2.out.setRow #[.int .i64 (loD long sz ks cut), .int .i64 (hiD long sz ks cut)]
    have hmk := HM.out.same (B := W3.setRow (w0.heap.size + 1 + 1) #[.int .i64 (loD long sz ks cut), .int .i64 (hiD long sz ks cut)]) (fun m o h => _root_.Go.setRow_other _ _ _ _ (fun e => by subst e; have := RO2.out; unfold Row at this; rw [this] at h; cases h))
    have hbb := below_setRow HB6.out (show w0.heap.size ≤ w0.heap.size + 1 + 1 by omega) #[.int .i64 (loD long sz ks cut), .int .i64 (hiD long sz ks cut)]
    refine marks_leave hmk (fun B2 hB2 => ?_)
    have hr3 : Row B2 (w0.heap.size + 1 + 1) #[.int .i64 (loD long sz ks cut), .int .i64 (hiD long sz ks cut)] 29 := by unfold Row; rw [hB2.rest _ (fun o h => by unfold Row at hr2; rw [hr2] at h; cases h)]; exact hr2
    exact ⟨_, results_cell_two Try.results14 _ _ _ _ _ _ _ _ rfl rfl hr3 Try.underlying29 rfl (by kernel_rfl), rfl, hbb.trans hB2.below⟩
  case stop => intro c W3 h; exact h.elim

end Go.Proofs.Yticfcdbfplfmlaa.Pe
