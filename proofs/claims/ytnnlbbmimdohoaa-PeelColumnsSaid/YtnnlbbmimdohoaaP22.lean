/- The walks of layer 1: between which numbers the whole pieces of a cutting lie. -/
import Derived.Test.YtnnlbbmimdohoaaP21
namespace Go.Proofs.Ytnnlbbmimdohoaa
open Go.RowKit Go.Maps
attribute [local go_sem] Oper.semAt_some

/-- The bounds, as far as some truths go. -/
def loTo (long : List Int) (sz : Int) (ks : List K4) (cut : List Int) (j : Nat) : Int := ((truthsD long ks).take j).foldl (fun m kn => min m (countL (wholesD long sz kn) cut)) cut.length
def hiTo (long : List Int) (sz : Int) (ks : List K4) (cut : List Int) (j : Nat) : Int := ((truthsD long ks).take j).foldl (fun m kn => max m (countL (wholesD long sz kn) cut)) 0
theorem loTo_step {long : List Int} {sz : Int} {ks : List K4} {cut : List Int} {j : Nat} {kn : List Bool} (h : (truthsD long ks)[j]? = some kn) : loTo long sz ks cut (j + 1) = min (loTo long sz ks cut j) (countL (wholesD long sz kn) cut) := by
  unfold loTo; rw [List.take_add_one, h]; simp
theorem hiTo_step {long : List Int} {sz : Int} {ks : List K4} {cut : List Int} {j : Nat} {kn : List Bool} (h : (truthsD long ks)[j]? = some kn) : hiTo long sz ks cut (j + 1) = max (hiTo long sz ks cut j) (countL (wholesD long sz kn) cut) := by
  unfold hiTo; rw [List.take_add_one, h]; simp

set_option maxRecDepth 10000 in
set_option maxHeartbeats 800000 in
theorem Whole_bad (p1 : Option Addr) (c1 : Nat) (p2 : Option Addr) (c2 : Nat) (long : List Int) (sz : Int) (ks : List K4) (w0 : World) (h : LogAt w0 p1 p2 long ks) (pc : Option Addr) (cut : List Int) (cc : Nat) (hb : validB long sz ks = false) :
    Calls Try.prog 28 #[.agg #[.slice p1 long.length c1, .int .i64 sz, .slice p2 ks.length c2], .slice pc cut.length cc] w0 fun e w' => e = .returned (.tuple #[.agg #[.int .i64 0, .int .i64 0], .int .i64 10]) ∧ Below w0.heap.size w0 w' := by
  go_enter Try.func28, Try.ntmps28
  have hba := ((below_alloc w0 (.cells #[.slice p1 long.length c1, .int .i64 sz, .slice p2 ks.length c2] 25)).alloc (Nat.le_of_lt (by simp)) (.cells #[.slice pc cut.length cc] 22)).alloc (by simp; omega) (.cells #[.int .i64 0, .int .i64 0] 39)
  have r3 : Row _ (w0.heap.size + 1 + 1) #[.int .i64 0, .int .i64 0] 39 := Row.new' (w := ((w0.alloc (.cells #[.slice p1 long.length c1, .int .i64 sz, .slice p2 ks.length c2] 25)).alloc (.cells #[.slice pc cut.length cc] 22))) (by simp) _ _
  have HH := Lib.hid (h.below hba)
  clear h
  go_wp2_with (first | (refine (ask_bad p1 c1 p2 c2 long sz ks _ HH.out hb pc _ _).mono ?_; rintro e w2 ⟨rfl, hb3⟩; have HB2 := Lib.hid (hba.trans (hb3.mono (by simp; omega))); have R3 := Lib.hid (r3.below hb3 (by simp)); have hz := hb3.size; simp at hz; clear hb3) | (refine store_new rfl 76 _ _ rfl zero76 zero76 76 rfl rfl zero76_size rfl zero76_one ?_; have R4 := Lib.hid (R3.out.alloc (.cells zero76 76))) | (refine store_row rfl 39 _ _ rfl _ #[.int .i64 0, .int .i64 0] #[.int .i64 0, .int .i64 0] 39 rfl rfl R4.out (by kernel_rfl) rfl (by simp [Value.oneCell']) ?_))
  have hr2 := R4.out.setRow #[.int .i64 0, .int .i64 0]
  exact bodyPost_ret (v := .tuple #[.agg #[.int .i64 0, .int .i64 0], .int .i64 10]) (results_cell_two Try.results28 _ _ _ _ _ _ _ _ rfl rfl hr2 Try.underlying39 rfl (by kernel_rfl)) rfl ⟨rfl, below_setRow (HB2.out.alloc (by omega) _) (by omega) _⟩

set_option maxRecDepth 10000 in
set_option maxHeartbeats 800000 in
theorem Whole_no (p1 : Option Addr) (c1 : Nat) (p2 : Option Addr) (c2 : Nat) (long : List Int) (sz : Int) (ks : List K4) (w0 : World) (h : LogAt w0 p1 p2 long ks) (pc : Option Addr) (cut : List Int) (cc : Nat) (hc : IntsAt w0 pc cut) (hn : cut.length ≤ maxLen) (hb : validB long sz ks = true) (hcut : cutOk sz (psum long long.length) 0 cut = false) :
    Calls Try.prog 28 #[.agg #[.slice p1 long.length c1, .int .i64 sz, .slice p2 ks.length c2], .slice pc cut.length cc] w0 fun e w' => e = .returned (.tuple #[.agg #[.int .i64 0, .int .i64 0], .int .i64 11]) ∧ Below w0.heap.size w0 w' := by
  go_enter Try.func28, Try.ntmps28
  have hba := ((below_alloc w0 (.cells #[.slice p1 long.length c1, .int .i64 sz, .slice p2 ks.length c2] 25)).alloc (Nat.le_of_lt (by simp)) (.cells #[.slice pc cut.length cc] 22)).alloc (by simp; omega) (.cells #[.int .i64 0, .int .i64 0] 39)
  have r3 : Row _ (w0.heap.size + 1 + 1) #[.int .i64 0, .int .i64 0] 39 := Row.new' (w := ((w0.alloc (.cells #[.slice p1 long.length c1, .int .i64 sz, .slice p2 ks.length c2] 25)).alloc (.cells #[.slice pc cut.length cc] 22))) (by simp) _ _
  have HH := Lib.hid (h.below hba)
  have HI2 := Lib.hid (hc.below hba)
  clear h hc
  go_wp2_with (first | (refine (ask_no p1 c1 p2 c2 long sz ks _ HH.out hb pc cut cc HI2.out hn hcut).mono ?_; rintro e w2 ⟨rfl, hb3⟩; have HB2 := Lib.hid (hba.trans (hb3.mono (by simp; omega))); have R3 := Lib.hid (r3.below hb3 (by simp)); have hz := hb3.size; simp at hz; clear hb3) | (refine store_new rfl 76 _ _ rfl zero76 zero76 76 rfl rfl zero76_size rfl zero76_one ?_; have R4 := Lib.hid (R3.out.alloc (.cells zero76 76))) | (refine store_row rfl 39 _ _ rfl _ #[.int .i64 0, .int .i64 0] #[.int .i64 0, .int .i64 0] 39 rfl rfl R4.out (by kernel_rfl) rfl (by simp [Value.oneCell']) ?_))
  have hr2 := R4.out.setRow #[.int .i64 0, .int .i64 0]
  exact bodyPost_ret (v := .tuple #[.agg #[.int .i64 0, .int .i64 0], .int .i64 11]) (results_cell_two Try.results28 _ _ _ _ _ _ _ _ rfl rfl hr2 Try.underlying39 rfl (by kernel_rfl)) rfl ⟨rfl, below_setRow (HB2.out.alloc (by omega) _) (by omega) _⟩

set_option maxRecDepth 10000 in
set_option maxHeartbeats 1600000 in
theorem Whole_good (p1 : Option Addr) (c1 : Nat) (p2 : Option Addr) (c2 : Nat) (long : List Int) (sz : Int) (ks : List K4) (w0 : World) (h : LogAt w0 p1 p2 long ks) (pc : Option Addr) (cut : List Int) (cc : Nat) (hc : IntsAt w0 pc cut) (hn : cut.length ≤ maxLen) (hb : validB long sz ks = true) (hcut : cutOk sz (psum long long.length) 0 cut = true) :
    Calls Try.prog 28 #[.agg #[.slice p1 long.length c1, .int .i64 sz, .slice p2 ks.length c2], .slice pc cut.length cc] w0 fun e w' => e = .returned (.tuple #[.agg #[.int .i64 (loD long sz ks cut), .int .i64 (hiD long sz ks cut)], .int .i64 0]) ∧ Below w0.heap.size w0 w' := by
  have hok := valid_ok hb
  refine calls_marks Try.func28 rfl ?_
  simp only [Try.ntmps28, List.size_toArray, List.length_cons, List.length_nil, Nat.reduceAdd, Nat.reduceSub, Array.replicate_succ, Array.replicate_zero, List.push_toArray, List.append_toArray, List.nil_append, List.cons_append]
  have hba := ((below_alloc w0 (.cells #[.slice p1 long.length c1, .int .i64 sz, .slice p2 ks.length c2] 25)).alloc (Nat.le_of_lt (by simp)) (.cells #[.slice pc cut.length cc] 22)).alloc (by simp; omega) (.cells #[.int .i64 0, .int .i64 0] 39)
  have r3 : Row _ (w0.heap.size + 1 + 1) #[.int .i64 0, .int .i64 0] 39 := Row.new' (w := ((w0.alloc (.cells #[.slice p1 long.length c1, .int .i64 sz, .slice p2 ks.length c2] 25)).alloc (.cells #[.slice pc cut.length cc] 22))) (by simp) _ _
  have HH := Lib.hid (h.below hba)
  have rc : Row _ (w0.heap.size + 1) #[.slice pc cut.length cc] 22 := (Row.new' (w := (w0.alloc (.cells #[.slice p1 long.length c1, .int .i64 sz, .slice p2 ks.length c2] 25))) (by simp) _ _).alloc (.cells #[.int .i64 0, .int .i64 0] 39)
  have HI2 := Lib.hid (hc.below hba)
  have HH0 := Lib.hid h
  have HI0 := Lib.hid hc
  clear h hc
  have hcn := hn
  unfold maxLen at hcn
  go_wp2_with (first | (refine (ask_yes p1 c1 p2 c2 long sz ks _ HH.out hb pc cut cc HI2.out hn hcut).mono ?_; rintro e w2 ⟨R, mb, nn, f, rfl, hR, hA, hb3⟩; have HB2 := Lib.hid (hba.trans (hb3.mono (by simp; omega))); have R3 := Lib.hid (r3.below hb3 (by simp)); have RC := Lib.hid (rc.below hb3 (by simp <;> omega)); have HA3 := Lib.hid hA; have hz := hb3.size; simp at hz; clear hb3 hA) | (refine store_new rfl 76 _ _ rfl R.A zero76 76 rfl rfl (size76 hR.ok.s6) (by rw [R.size hR.ok.s6]; rfl) R.one ?_; have cc0 := (RC.out.alloc (.cells R.A 76)).cell 0 (v := .slice pc cut.length cc) rfl) | (refine load_row rfl 76 _ rfl _ rfl 76 _ _ ((Row.new w2 R.A 76).alloc (.cells #[.int .i64 cut.length, .int .i64 0] 39)) Try.underlying76 rfl (size76 hR.ok.s6) ?_) | (refine (truths_any R hR.ok.s6 _).mono ?_; rintro e w5 ⟨rfl, rfl⟩))
  have hA5 := ((HA3.out.below (below_alloc w2 (.cells R.A 76))).below (below_alloc _ (.cells #[.int .i64 cut.length, .int .i64 0] 39))).below (below_alloc _ (.cells R.A 76))
  have hB5 : Below w0.heap.size w0 (((w2.alloc (.cells R.A 76)).alloc (.cells #[.int .i64 cut.length, .int .i64 0] 39)).alloc (.cells R.A 76)) := ((HB2.out.alloc (by omega) _).alloc (by simp; omega) _).alloc (by simp; omega) _
  have rR : Row (((w2.alloc (.cells R.A 76)).alloc (.cells #[.int .i64 cut.length, .int .i64 0] 39)).alloc (.cells R.A 76)) w2.heap.size R.A 76 := ((Row.new _ _ _).alloc _).alloc _
  have rM : Row (((w2.alloc (.cells R.A 76)).alloc (.cells #[.int .i64 cut.length, .int .i64 0] 39)).alloc (.cells R.A 76)) (w2.heap.size + 1) #[.int .i64 cut.length, .int .i64 0] 39 := (Row.new' (by simp) _ _).alloc _
  have rT : Row (((w2.alloc (.cells R.A 76)).alloc (.cells #[.int .i64 cut.length, .int .i64 0] 39)).alloc (.cells R.A 76)) (w2.heap.size + 1 + 1) R.A 76 := Row.new' (by simp) _ _
  have rO : Row (((w2.alloc (.cells R.A 76)).alloc (.cells #[.int .i64 cut.length, .int .i64 0] 39)).alloc (.cells R.A 76)) (w0.heap.size + 1 + 1) #[.int .i64 0, .int .i64 0] 39 := ((R3.out.alloc _).alloc _).alloc _
  have rC : Row (((w2.alloc (.cells R.A 76)).alloc (.cells #[.int .i64 cut.length, .int .i64 0] 39)).alloc (.cells R.A 76)) (w0.heap.size + 1) #[.slice pc cut.length cc] 22 := ((RC.out.alloc _).alloc _).alloc _
  have hs5 : w2.heap.size + 1 + 1 + 1 = ((((w2.alloc (.cells R.A 76)).alloc (.cells #[.int .i64 cut.length, .int .i64 0] 39)).alloc (.cells R.A 76))).heap.size := by simp
  have HS5 := Lib.hid hs5
  have HW := Lib.hid (show w0.heap.size + 1 + 1 < w2.heap.size by omega)
  clear hs5 hba r3 rc HA3 HB2 R3 RC HH HI2 cc0
  go_wp2_with fail
  generalize (((w2.alloc (.cells R.A 76)).alloc (.cells #[.int .i64 cut.length, .int .i64 0] 39)).alloc (.cells R.A 76)) = w5 at *
  have RR := Lib.hid rR
  have RO := Lib.hid rO
  have RC := Lib.hid rC
  have HA5 := Lib.hid hA5
  have HB5 := Lib.hid hB5
  have hk0 : KnotsAt w0 R.p2 ks := by rw [hR.p2]; exact HH0.out.k
  have hnM := not_reads (b := w2.heap.size + 1 + 1) hA5 rM (by omega) hk0 (by have := HW.out; omega)
  clear rR rO rC hA5 hB5
  refine range_law 85 #[.pointer (some ⟨w2.heap.size + 1 + 1, 0, none⟩)] (readsR R ks (w2.heap.size + 1 + 1) mb) ((truthsD long ks).map fun c => #[cols c]) rfl (fun args w => Try.call85 args w)
    (fun W1 hb _ => truths_of hR hok _ W1 (rT.below hb (by have := HS5.out; omega)) (HA5.out.below hb)) (by intro x hx; simp at hx; obtain ⟨_, _, rfl⟩ := hx; rfl) (fun m => m = w2.heap.size + 1)
    (by rintro m rfl; exact ⟨by have := HS5.out; omega, hnM⟩) (not_reads_new HA5.out rT (by omega))
    (fun j A => Row A (w2.heap.size + 1) #[.int .i64 (loTo long sz ks cut j), .int .i64 (hiTo long sz ks cut j)] 39) (fun _ _ => False)
    (fun j A B h hb => by have := HS5.out; exact Row.below h hb (by omega)) (fun _ _ _ h _ => h) rM ?body ?done ?stop
  case body =>
    rintro l j x A rfl hx hI hkeep hlA
    obtain ⟨kn, hq, rfl⟩ := map_at hx
    have hlen := truthsD_length (List.mem_of_getElem? hq)
    have HLEN := Lib.hid hlen
    have HLO := Lib.hid (loTo_step (sz := sz) (cut := cut) hq)
    have HHI := Lib.hid (hiTo_step (sz := sz) (cut := cut) hq)
    have RR2 := Lib.hid (RR.out.keeps hkeep (by omega))
    have RC2 := Lib.hid (RC.out.keeps hkeep (by have := HW.out; omega))
    have hkB := ((hkeep.below (n := w0.heap.size) (by have := HS5.out; have := HW.out; omega) (fun m hm => by have := HW.out; omega)))
    have hI : Row A (w2.heap.size + 1) #[.int .i64 (loTo long sz ks cut j), .int .i64 (hiTo long sz ks cut j)] 39 := hI
    generalize loTo long sz ks cut j = lo at *
    generalize hiTo long sz ks cut j = hi0 at *
    clear hx hq hkeep
    rw [cols_def]
    gi_wp2_with (first | (refine store_newIn rfl 88 _ _ rfl (boolsA kn) Try.zeroCells88 88 rfl rfl (size88 HLEN.out) (by rw [zero88, boolsA_size, boolsA_size, HLEN.out, List.length_replicate]) (boolsA_one _) ?_))
    refine ⟨(KeepsBut.refl _ _).alloc _, fun oo => ?_⟩
    generalize hA2 : (A.alloc (Obj.cells (boolsA kn) 88)).putObj (w5.heap.size + 1) oo = A2
    have hsame : ∀ m, m ≠ w5.heap.size + 1 → A2.heap[m]? = (A.alloc (Obj.cells (boolsA kn) 88)).heap[m]? := fun m hm => by rw [← hA2]; exact World.putObj_heap_other hm
    have hAo : Below w5.heap.size A A2 := by rw [← hA2]; exact ((below_alloc _ _).mono (by omega)).trans (below_putObj _ _ _ (by omega))
    have q0 : Row A2 w2.heap.size R.A 76 := by unfold Row; rw [hsame _ (by have := HS5.out; omega)]; exact RR2.out.alloc _
    have qm : Row A2 (w2.heap.size + 1) #[.int .i64 lo, .int .i64 hi0] 39 := by unfold Row; rw [hsame _ (by have := HS5.out; omega)]; exact hI.alloc _
    have qk : Row A2 A.heap.size (boolsA kn) 88 := by unfold Row; rw [hsame _ (by omega)]; exact Row.new _ _ _
    have qc : Row A2 (w0.heap.size + 1) #[.slice pc cut.length cc] 22 := by unfold Row; rw [hsame _ (by have := HS5.out; have := HW.out; omega)]; exact RC2.out.alloc _
    have qi : IntsAt A2 pc cut := HI0.out.below ((HB5.out.trans hkB).trans (hAo.mono (by have := HS5.out; have := HW.out; omega)))
    have HAS := Lib.hid (show w2.heap.size + 1 + 1 < A.heap.size by have := HS5.out; omega)
    clear hsame hA2 hI RR2 RC2 hlen hnM rM rT hk0 hAo hkB
    gi_wp2_with fail
    refine region_invIn rfl (by kernel_rfl) (by kernel_rfl) (fun L a v => ∃ x10 x27 x28 x29 x30 x31 : Value, a = { tmps := #[.agg #[.slice p1 long.length c1, .int .i64 sz, .slice p2 ks.length c2], .slice pc cut.length cc, .pointer (some ⟨w0.heap.size, 0, none⟩), .pointer (some ⟨w0.heap.size + 1, 0, none⟩), .pointer (some ⟨w0.heap.size + 1 + 1, 0, none⟩), .int .i64 0, .pointer (some ⟨w2.heap.size, 0, none⟩), .int .i64 0, .pointer (some ⟨w2.heap.size + 1, 0, none⟩), .pointer (some ⟨A.heap.size, 0, none⟩), x10, .tuple #[.agg R.A, .int .i64 0], .agg #[.slice p1 long.length c1, .int .i64 sz, .slice p2 ks.length c2], .slice pc cut.length cc, .tuple #[.agg R.A, .int .i64 0], .agg R.A, .int .i64 0, .int .i64 0, .bool false, undef, undef, .slice pc cut.length cc, .int .i64 cut.length, .agg #[.int .i64 cut.length, .int .i64 0], .agg R.A, .func (.func 85) #[] #[.pointer (some ⟨w2.heap.size + 1 + 1, 0, none⟩)], .agg (boolsA kn), x27, x28, x29, x30, x31, undef, undef, undef, undef, undef, undef, undef, undef, undef, undef, undef], defers := [] } ∧ Hid (L 0 = true → x27 = .agg R.A) ∧ Hid (L 1 = true → x28 = .agg (boolsA kn)) ∧ Hid (L 2 = true → x29 = knifeV (wideN long) sz.toNat (wholesD long sz kn)) ∧ Hid (L 3 = true → x30 = .slice pc cut.length cc) ∧ Hid (L 4 = true → x31 = .int .i64 (countL (wholesD long sz kn) cut)) ∧ Hid (L 5 = true → x10 = .int .i64 (countL (wholesD long sz kn) cut)) ∧ Hid (Row v w2.heap.size R.A 76) ∧ Hid (Row v A.heap.size (boolsA kn) 88) ∧ Hid (Row v (w2.heap.size + 1) #[.int .i64 lo, .int .i64 hi0] 39) ∧ Hid (Row v (w0.heap.size + 1) #[.slice pc cut.length cc] 22) ∧ Hid (IntsAt v pc cut) ∧ Hid (KeepsBut (fun m => m = w2.heap.size + 1) A2 v)) ?h0 ?steps ?hd
    case h0 => exact ⟨_, _, _, _, _, _, rfl, Lib.hid nofun, Lib.hid nofun, Lib.hid nofun, Lib.hid nofun, Lib.hid nofun, Lib.hid nofun, Lib.hid (q0), Lib.hid (qk), Lib.hid (qm), Lib.hid (qc), Lib.hid (qi), Lib.hid ((KeepsBut.refl _ _).drew)⟩
    case hd =>
      rintro L a v hL ⟨x10, x27, x28, x29, x30, x31, rfl, hf0, hf1, hf2, hf3, hf4, hf5, hr0, hkn, hm, hc, hi, hkb⟩
      obtain rfl := hf0.out (hL 0 (by decide))
      obtain rfl := hf1.out (hL 1 (by decide))
      obtain rfl := hf2.out (hL 2 (by decide))
      obtain rfl := hf3.out (hL 3 (by decide))
      obtain rfl := hf4.out (hL 4 (by decide))
      obtain rfl := hf5.out (hL 5 (by decide))
      clear hf0
      clear hf1
      clear hf2
      clear hf3
      clear hf4
      clear hf5
      clear hL
      have Hm := hm
      have Hkb := hkb
      clear hm hkb hr0 hkn hc hi q0 qk qm qc qi
      gi_wp2_with fail
      refine region_invIn rfl (by kernel_rfl) (by kernel_rfl) (fun L a u => ∃ x32 x33 x34 x35 x36 x37 x38 x39 x40 x41 : Value, a = { tmps := #[.agg #[.slice p1 long.length c1, .int .i64 sz, .slice p2 ks.length c2], .slice pc cut.length cc, .pointer (some ⟨w0.heap.size, 0, none⟩), .pointer (some ⟨w0.heap.size + 1, 0, none⟩), .pointer (some ⟨w0.heap.size + 1 + 1, 0, none⟩), .int .i64 0, .pointer (some ⟨w2.heap.size, 0, none⟩), .int .i64 0, .pointer (some ⟨w2.heap.size + 1, 0, none⟩), .pointer (some ⟨A.heap.size, 0, none⟩), .int .i64 (countL (wholesD long sz kn) cut), .tuple #[.agg R.A, .int .i64 0], .agg #[.slice p1 long.length c1, .int .i64 sz, .slice p2 ks.length c2], .slice pc cut.length cc, .tuple #[.agg R.A, .int .i64 0], .agg R.A, .int .i64 0, .int .i64 0, .bool false, undef, undef, .slice pc cut.length cc, .int .i64 cut.length, .agg #[.int .i64 cut.length, .int .i64 0], .agg R.A, .func (.func 85) #[] #[.pointer (some ⟨w2.heap.size + 1 + 1, 0, none⟩)], .agg (boolsA kn), .agg R.A, .agg (boolsA kn), knifeV (wideN long) sz.toNat (wholesD long sz kn), .slice pc cut.length cc, .int .i64 (countL (wholesD long sz kn) cut), x32, x33, x34, x35, x36, x37, x38, x39, x40, x41, undef], defers := [] } ∧ Hid (L 0 = true → x32 = .pointer (some ⟨w2.heap.size + 1, 0, none⟩)) ∧ Hid (L 1 = true → x33 = .int .i64 lo) ∧ Hid (L 2 = true → x34 = .int .i64 (countL (wholesD long sz kn) cut)) ∧ Hid (L 3 = true → x35 = .int .i64 (min lo (countL (wholesD long sz kn) cut))) ∧ Hid (L 4 = true → x36 = .pointer (some ⟨w2.heap.size + 1, 1, none⟩)) ∧ Hid (L 5 = true → x37 = .int .i64 hi0) ∧ Hid (L 6 = true → x38 = .int .i64 (countL (wholesD long sz kn) cut)) ∧ Hid (L 8 = true → x40 = .int .i64 (max hi0 (countL (wholesD long sz kn) cut))) ∧ Hid (L 9 = true → x41 = .agg #[.int .i64 (min lo (countL (wholesD long sz kn) cut)), .int .i64 (max hi0 (countL (wholesD long sz kn) cut))]) ∧ Hid (L 10 = false → Row u (w2.heap.size + 1) #[.int .i64 lo, .int .i64 hi0] 39) ∧ Hid (L 10 = true → Row u (w2.heap.size + 1) #[.int .i64 (min lo (countL (wholesD long sz kn) cut)), .int .i64 (max hi0 (countL (wholesD long sz kn) cut))] 39) ∧ Hid (L 7 = true → L 8 = false → ∃ g, x39 = .slice (some ⟨g, 0, none⟩) 1 1 ∧ IntsAt u (some ⟨g, 0, none⟩) [(countL (wholesD long sz kn) cut)]) ∧ Hid (L 10 = true → L 1 = true ∧ L 5 = true) ∧ Hid (KeepsBut (fun m => m = w2.heap.size + 1) A2 u)) ?g0 ?gsteps ?gd
      case g0 => exact ⟨_, _, _, _, _, _, _, _, _, _, rfl, Lib.hid nofun, Lib.hid nofun, Lib.hid nofun, Lib.hid nofun, Lib.hid nofun, Lib.hid nofun, Lib.hid nofun, Lib.hid nofun, Lib.hid nofun, Lib.hid (fun _ => Hm.out.drew), Lib.hid (nofun), Lib.hid (fun h => by cases h), Lib.hid (nofun), Lib.hid (Hkb.out.drew)⟩
      case gd =>
        rintro L a u hL ⟨x32, x33, x34, x35, x36, x37, x38, x39, x40, x41, rfl, hf0, hf1, hf2, hf3, hf4, hf5, hf6, hf8, hf9, hm, hm2, hsl, hord, hkb⟩
        obtain rfl := hf0.out (hL 0 (by decide))
        obtain rfl := hf1.out (hL 1 (by decide))
        obtain rfl := hf2.out (hL 2 (by decide))
        obtain rfl := hf3.out (hL 3 (by decide))
        obtain rfl := hf4.out (hL 4 (by decide))
        obtain rfl := hf5.out (hL 5 (by decide))
        obtain rfl := hf6.out (hL 6 (by decide))
        obtain rfl := hf8.out (hL 8 (by decide))
        obtain rfl := hf9.out (hL 9 (by decide))
        clear hf0
        clear hf1
        clear hf2
        clear hf3
        clear hf4
        clear hf5
        clear hf6
        clear hf8
        clear hf9
        have hmz := hm2.out (hL 10 (by decide))
        clear hL hm hm2 hsl hord
        exact ⟨hkb.out, by rw [HLO.out, HHI.out]; exact hmz⟩
      case gsteps =>
        refine ⟨?_, ?_, ?_, ?_, ?_, ?_, ?_, ?_, ?_, ?_, ?_, trivial⟩
        · rintro L a u hL hk ⟨x32, x33, x34, x35, x36, x37, x38, x39, x40, x41, rfl, hf0, hf1, hf2, hf3, hf4, hf5, hf6, hf8, hf9, hm, hm2, hsl, hord, hkb⟩ K hK
          have HK0 := Lib.hid hK
          clear hK
          clear hL
          clear hk
          go_wp2
          exact HK0.out _ _ ⟨_, _, _, _, _, _, _, _, _, _, rfl, Lib.hid (fun _ => rfl), Lib.hid (fun h => hf1.out (by simpa [upd] using h)), Lib.hid (fun h => hf2.out (by simpa [upd] using h)), Lib.hid (fun h => hf3.out (by simpa [upd] using h)), Lib.hid (fun h => hf4.out (by simpa [upd] using h)), Lib.hid (fun h => hf5.out (by simpa [upd] using h)), Lib.hid (fun h => hf6.out (by simpa [upd] using h)), Lib.hid (fun h => hf8.out (by simpa [upd] using h)), Lib.hid (fun h => hf9.out (by simpa [upd] using h)), Lib.hid (fun h => hm.out (by simpa [upd] using h)), Lib.hid (fun h => hm2.out (by simpa [upd] using h)), Lib.hid (fun h h5 => hsl.out (by simpa [upd] using h) (by simpa [upd] using h5)), Lib.hid (fun h => by have := hord.out (by simpa [upd] using h); first | (simp [upd]; done) | (simp [upd]; simp [this])), hkb⟩
        · rintro L a u hL hk ⟨x32, x33, x34, x35, x36, x37, x38, x39, x40, x41, rfl, hf0, hf1, hf2, hf3, hf4, hf5, hf6, hf8, hf9, hm, hm2, hsl, hord, hkb⟩ K hK
          have HK0 := Lib.hid hK
          clear hK
          obtain rfl := hf0.out (after_on hL 0 rfl)
          clear hL
          have h10 : L 10 = false := by cases h7 : L 10; rfl; exact absurd (hord.out h7).1 (by simp [hk])
          have c0 := (hm.out h10).cell 0 (v := .int .i64 lo) rfl
          clear hk
          go_wp2
          exact HK0.out _ _ ⟨_, _, _, _, _, _, _, _, _, _, rfl, Lib.hid (fun _ => rfl), Lib.hid (fun _ => rfl), Lib.hid (fun h => hf2.out (by simpa [upd] using h)), Lib.hid (fun h => hf3.out (by simpa [upd] using h)), Lib.hid (fun h => hf4.out (by simpa [upd] using h)), Lib.hid (fun h => hf5.out (by simpa [upd] using h)), Lib.hid (fun h => hf6.out (by simpa [upd] using h)), Lib.hid (fun h => hf8.out (by simpa [upd] using h)), Lib.hid (fun h => hf9.out (by simpa [upd] using h)), Lib.hid (fun h => hm.out (by simpa [upd] using h)), Lib.hid (fun h => hm2.out (by simpa [upd] using h)), Lib.hid (fun h h5 => hsl.out (by simpa [upd] using h) (by simpa [upd] using h5)), Lib.hid (fun h => by have := hord.out (by simpa [upd] using h); first | (simp [upd]; done) | (simp [upd]; simp [this])), hkb⟩
        · rintro L a u hL hk ⟨x32, x33, x34, x35, x36, x37, x38, x39, x40, x41, rfl, hf0, hf1, hf2, hf3, hf4, hf5, hf6, hf8, hf9, hm, hm2, hsl, hord, hkb⟩ K hK
          have HK0 := Lib.hid hK
          clear hK
          clear hL
          clear hk
          go_wp2
          exact HK0.out _ _ ⟨_, _, _, _, _, _, _, _, _, _, rfl, Lib.hid (fun h => hf0.out (by simpa [upd] using h)), Lib.hid (fun h => hf1.out (by simpa [upd] using h)), Lib.hid (fun _ => rfl), Lib.hid (fun h => hf3.out (by simpa [upd] using h)), Lib.hid (fun h => hf4.out (by simpa [upd] using h)), Lib.hid (fun h => hf5.out (by simpa [upd] using h)), Lib.hid (fun h => hf6.out (by simpa [upd] using h)), Lib.hid (fun h => hf8.out (by simpa [upd] using h)), Lib.hid (fun h => hf9.out (by simpa [upd] using h)), Lib.hid (fun h => hm.out (by simpa [upd] using h)), Lib.hid (fun h => hm2.out (by simpa [upd] using h)), Lib.hid (fun h h5 => hsl.out (by simpa [upd] using h) (by simpa [upd] using h5)), Lib.hid (fun h => by have := hord.out (by simpa [upd] using h); first | (simp [upd]; done) | (simp [upd]; simp [this])), hkb⟩
        · rintro L a u hL hk ⟨x32, x33, x34, x35, x36, x37, x38, x39, x40, x41, rfl, hf0, hf1, hf2, hf3, hf4, hf5, hf6, hf8, hf9, hm, hm2, hsl, hord, hkb⟩ K hK
          have HK0 := Lib.hid hK
          clear hK
          obtain rfl := hf1.out (after_on hL 1 rfl)
          obtain rfl := hf2.out (after_on hL 2 rfl)
          clear hL
          clear hk
          go_wp2
          all_goals exact HK0.out _ _ ⟨_, _, _, _, _, _, _, _, _, _, rfl, Lib.hid (fun h => hf0.out (by simpa [upd] using h)), Lib.hid (fun _ => rfl), Lib.hid (fun _ => rfl), Lib.hid (fun _ => by congr 1; omega), Lib.hid (fun h => hf4.out (by simpa [upd] using h)), Lib.hid (fun h => hf5.out (by simpa [upd] using h)), Lib.hid (fun h => hf6.out (by simpa [upd] using h)), Lib.hid (fun h => hf8.out (by simpa [upd] using h)), Lib.hid (fun h => hf9.out (by simpa [upd] using h)), Lib.hid (fun h => hm.out (by simpa [upd] using h)), Lib.hid (fun h => hm2.out (by simpa [upd] using h)), Lib.hid (fun h h5 => hsl.out (by simpa [upd] using h) (by simpa [upd] using h5)), Lib.hid (fun h => by have := hord.out (by simpa [upd] using h); first | (simp [upd]; done) | (simp [upd]; simp [this])), hkb⟩
        · rintro L a u hL hk ⟨x32, x33, x34, x35, x36, x37, x38, x39, x40, x41, rfl, hf0, hf1, hf2, hf3, hf4, hf5, hf6, hf8, hf9, hm, hm2, hsl, hord, hkb⟩ K hK
          have HK0 := Lib.hid hK
          clear hK
          clear hL
          clear hk
          go_wp2
          exact HK0.out _ _ ⟨_, _, _, _, _, _, _, _, _, _, rfl, Lib.hid (fun h => hf0.out (by simpa [upd] using h)), Lib.hid (fun h => hf1.out (by simpa [upd] using h)), Lib.hid (fun h => hf2.out (by simpa [upd] using h)), Lib.hid (fun h => hf3.out (by simpa [upd] using h)), Lib.hid (fun _ => rfl), Lib.hid (fun h => hf5.out (by simpa [upd] using h)), Lib.hid (fun h => hf6.out (by simpa [upd] using h)), Lib.hid (fun h => hf8.out (by simpa [upd] using h)), Lib.hid (fun h => hf9.out (by simpa [upd] using h)), Lib.hid (fun h => hm.out (by simpa [upd] using h)), Lib.hid (fun h => hm2.out (by simpa [upd] using h)), Lib.hid (fun h h5 => hsl.out (by simpa [upd] using h) (by simpa [upd] using h5)), Lib.hid (fun h => by have := hord.out (by simpa [upd] using h); first | (simp [upd]; done) | (simp [upd]; simp [this])), hkb⟩
        · rintro L a u hL hk ⟨x32, x33, x34, x35, x36, x37, x38, x39, x40, x41, rfl, hf0, hf1, hf2, hf3, hf4, hf5, hf6, hf8, hf9, hm, hm2, hsl, hord, hkb⟩ K hK
          have HK0 := Lib.hid hK
          clear hK
          obtain rfl := hf4.out (after_on hL 4 rfl)
          clear hL
          have h10 : L 10 = false := by cases h7 : L 10; rfl; exact absurd (hord.out h7).2 (by simp [hk])
          have c0 := (hm.out h10).cell 1 (v := .int .i64 hi0) rfl
          clear hk
          go_wp2
          exact HK0.out _ _ ⟨_, _, _, _, _, _, _, _, _, _, rfl, Lib.hid (fun h => hf0.out (by simpa [upd] using h)), Lib.hid (fun h => hf1.out (by simpa [upd] using h)), Lib.hid (fun h => hf2.out (by simpa [upd] using h)), Lib.hid (fun h => hf3.out (by simpa [upd] using h)), Lib.hid (fun _ => rfl), Lib.hid (fun _ => rfl), Lib.hid (fun h => hf6.out (by simpa [upd] using h)), Lib.hid (fun h => hf8.out (by simpa [upd] using h)), Lib.hid (fun h => hf9.out (by simpa [upd] using h)), Lib.hid (fun h => hm.out (by simpa [upd] using h)), Lib.hid (fun h => hm2.out (by simpa [upd] using h)), Lib.hid (fun h h5 => hsl.out (by simpa [upd] using h) (by simpa [upd] using h5)), Lib.hid (fun h => by have := hord.out (by simpa [upd] using h); first | (simp [upd]; done) | (simp [upd]; simp [this])), hkb⟩
        · rintro L a u hL hk ⟨x32, x33, x34, x35, x36, x37, x38, x39, x40, x41, rfl, hf0, hf1, hf2, hf3, hf4, hf5, hf6, hf8, hf9, hm, hm2, hsl, hord, hkb⟩ K hK
          have HK0 := Lib.hid hK
          clear hK
          clear hL
          clear hk
          go_wp2
          exact HK0.out _ _ ⟨_, _, _, _, _, _, _, _, _, _, rfl, Lib.hid (fun h => hf0.out (by simpa [upd] using h)), Lib.hid (fun h => hf1.out (by simpa [upd] using h)), Lib.hid (fun h => hf2.out (by simpa [upd] using h)), Lib.hid (fun h => hf3.out (by simpa [upd] using h)), Lib.hid (fun h => hf4.out (by simpa [upd] using h)), Lib.hid (fun h => hf5.out (by simpa [upd] using h)), Lib.hid (fun _ => rfl), Lib.hid (fun h => hf8.out (by simpa [upd] using h)), Lib.hid (fun h => hf9.out (by simpa [upd] using h)), Lib.hid (fun h => hm.out (by simpa [upd] using h)), Lib.hid (fun h => hm2.out (by simpa [upd] using h)), Lib.hid (fun h h5 => hsl.out (by simpa [upd] using h) (by simpa [upd] using h5)), Lib.hid (fun h => by have := hord.out (by simpa [upd] using h); first | (simp [upd]; done) | (simp [upd]; simp [this])), hkb⟩
        · rintro L a u hL hk ⟨x32, x33, x34, x35, x36, x37, x38, x39, x40, x41, rfl, hf0, hf1, hf2, hf3, hf4, hf5, hf6, hf8, hf9, hm, hm2, hsl, hord, hkb⟩ K hK
          have HK0 := Lib.hid hK
          clear hK
          obtain rfl := hf6.out (after_on hL 6 rfl)
          clear hL
          clear hk
          go_wp2
          exact HK0.out _ _ ⟨_, _, _, _, _, _, _, _, _, _, rfl, Lib.hid (fun h => hf0.out (by simpa [upd] using h)), Lib.hid (fun h => hf1.out (by simpa [upd] using h)), Lib.hid (fun h => hf2.out (by simpa [upd] using h)), Lib.hid (fun h => hf3.out (by simpa [upd] using h)), Lib.hid (fun h => hf4.out (by simpa [upd] using h)), Lib.hid (fun h => hf5.out (by simpa [upd] using h)), Lib.hid (fun _ => rfl), Lib.hid (fun h => hf8.out (by simpa [upd] using h)), Lib.hid (fun h => hf9.out (by simpa [upd] using h)), Lib.hid (fun h => (hm.out (by simpa [upd] using h)).below (below_alloc u _) (hm.out (by simpa [upd] using h)).lt), Lib.hid (fun h => (hm2.out (by simpa [upd] using h)).below (below_alloc u _) (hm2.out (by simpa [upd] using h)).lt), Lib.hid (fun _ _ => ⟨_, rfl, ints_one _ _⟩), Lib.hid (fun h => by have := hord.out (by simpa [upd] using h); first | (simp [upd]; done) | (simp [upd]; simp [this])), Lib.hid (hkb.out.after (below_alloc u _))⟩
        · rintro L a u hL hk ⟨x32, x33, x34, x35, x36, x37, x38, x39, x40, x41, rfl, hf0, hf1, hf2, hf3, hf4, hf5, hf6, hf8, hf9, hm, hm2, hsl, hord, hkb⟩ K hK
          have HK0 := Lib.hid hK
          clear hK
          obtain rfl := hf5.out (after_on hL 5 rfl)
          obtain ⟨g, rfl, hi⟩ := hsl.out (after_on hL 7 rfl) hk
          clear hL hk
          go_wp2_with fail
          refine (greatest_any hi0 (some ⟨g, 0, none⟩) 1 [(countL (wholesD long sz kn) cut)] _ (by simp [maxLen]) hi).mono ?_
          rintro e w6 ⟨rfl, rfl⟩
          rw [maxL_one]
          exact HK0.out _ _ ⟨_, _, _, _, _, _, _, _, _, _, rfl, Lib.hid (fun h => hf0.out (by simpa [upd] using h)), Lib.hid (fun h => hf1.out (by simpa [upd] using h)), Lib.hid (fun h => hf2.out (by simpa [upd] using h)), Lib.hid (fun h => hf3.out (by simpa [upd] using h)), Lib.hid (fun h => hf4.out (by simpa [upd] using h)), Lib.hid (fun _ => rfl), Lib.hid (fun h => hf6.out (by simpa [upd] using h)), Lib.hid (fun _ => rfl), Lib.hid (fun h => hf9.out (by simpa [upd] using h)), Lib.hid (fun h => hm.out (by simpa [upd] using h)), Lib.hid (fun h => hm2.out (by simpa [upd] using h)), Lib.hid (fun _ h => by simp [upd] at h), Lib.hid (fun h => by have := hord.out (by simpa [upd] using h); first | (simp [upd]; done) | (simp [upd]; simp [this])), hkb⟩
        · rintro L a u hL hk ⟨x32, x33, x34, x35, x36, x37, x38, x39, x40, x41, rfl, hf0, hf1, hf2, hf3, hf4, hf5, hf6, hf8, hf9, hm, hm2, hsl, hord, hkb⟩ K hK
          have HK0 := Lib.hid hK
          clear hK
          obtain rfl := hf3.out (after_on hL 3 rfl)
          obtain rfl := hf8.out (after_on hL 8 rfl)
          clear hL
          clear hk
          go_wp2
          exact HK0.out _ _ ⟨_, _, _, _, _, _, _, _, _, _, rfl, Lib.hid (fun h => hf0.out (by simpa [upd] using h)), Lib.hid (fun h => hf1.out (by simpa [upd] using h)), Lib.hid (fun h => hf2.out (by simpa [upd] using h)), Lib.hid (fun _ => rfl), Lib.hid (fun h => hf4.out (by simpa [upd] using h)), Lib.hid (fun h => hf5.out (by simpa [upd] using h)), Lib.hid (fun h => hf6.out (by simpa [upd] using h)), Lib.hid (fun _ => rfl), Lib.hid (fun _ => rfl), Lib.hid (fun h => hm.out (by simpa [upd] using h)), Lib.hid (fun h => hm2.out (by simpa [upd] using h)), Lib.hid (fun h h5 => hsl.out (by simpa [upd] using h) (by simpa [upd] using h5)), Lib.hid (fun h => by have := hord.out (by simpa [upd] using h); first | (simp [upd]; done) | (simp [upd]; simp [this])), hkb⟩
        · rintro L a u hL hk ⟨x32, x33, x34, x35, x36, x37, x38, x39, x40, x41, rfl, hf0, hf1, hf2, hf3, hf4, hf5, hf6, hf8, hf9, hm, hm2, hsl, hord, hkb⟩ K hK
          have HK0 := Lib.hid hK
          clear hK
          obtain rfl := hf9.out (after_on hL 9 rfl)
          have hrz := hm.out hk
          have HLL := Lib.hid hL
          clear hL hk
          refine wp_store_row' 39 _ _ rfl _ #[.int .i64 (min lo (countL (wholesD long sz kn) cut)), .int .i64 (max hi0 (countL (wholesD long sz kn) cut))] _ _ rfl rfl hrz (by kernel_rfl) rfl (by simp [Value.oneCell']) ?_
          exact HK0.out _ _ ⟨_, _, _, _, _, _, _, _, _, _, rfl, Lib.hid (fun h => hf0.out (by simpa [upd] using h)), Lib.hid (fun h => hf1.out (by simpa [upd] using h)), Lib.hid (fun h => hf2.out (by simpa [upd] using h)), Lib.hid (fun h => hf3.out (by simpa [upd] using h)), Lib.hid (fun h => hf4.out (by simpa [upd] using h)), Lib.hid (fun h => hf5.out (by simpa [upd] using h)), Lib.hid (fun h => hf6.out (by simpa [upd] using h)), Lib.hid (fun h => hf8.out (by simpa [upd] using h)), Lib.hid (fun _ => rfl), Lib.hid (fun h => by simp [upd] at h), Lib.hid (fun _ => hrz.setRow _), Lib.hid (fun _ h5 => absurd (after_on HLL.out 8 rfl) (by have h9 : L 8 = false := (by simpa [upd] using h5); simp [h9])), Lib.hid (fun _ => by rw [upd_other _ (by decide), upd_other _ (by decide)]; exact ⟨after_on HLL.out 1 rfl, after_on HLL.out 5 rfl⟩), Lib.hid (hkb.out.setRow (.inl rfl) _)⟩
    case steps =>
      refine ⟨?_, ?_, ?_, ?_, ?_, ?_, trivial⟩
      · rintro L a v hL hk ⟨x10, x27, x28, x29, x30, x31, rfl, hf0, hf1, hf2, hf3, hf4, hf5, hr0, hkn, hm, hc, hi, hkb⟩ K hK
        have HK0 := Lib.hid hK
        clear hK
        clear hL
        clear hk
        refine wp_load_row 76 _ rfl _ rfl 76 _ (0, 0) _ hr0.out Try.underlying76 rfl (size76 hR.ok.s6) ?_
        exact HK0.out _ _ ⟨_, _, _, _, _, _, rfl, Lib.hid (fun _ => rfl), Lib.hid (fun h => hf1.out (by simpa [upd] using h)), Lib.hid (fun h => hf2.out (by simpa [upd] using h)), Lib.hid (fun h => hf3.out (by simpa [upd] using h)), Lib.hid (fun h => hf4.out (by simpa [upd] using h)), Lib.hid (fun h => hf5.out (by simpa [upd] using h)), hr0, hkn, hm, hc, hi, hkb⟩
      · rintro L a v hL hk ⟨x10, x27, x28, x29, x30, x31, rfl, hf0, hf1, hf2, hf3, hf4, hf5, hr0, hkn, hm, hc, hi, hkb⟩ K hK
        have HK0 := Lib.hid hK
        clear hK
        clear hL
        clear hk
        refine wp_load_row 88 _ rfl _ rfl 88 _ (0, 0) _ hkn.out Try.underlying88 rfl (size88 HLEN.out) ?_
        exact HK0.out _ _ ⟨_, _, _, _, _, _, rfl, Lib.hid (fun h => hf0.out (by simpa [upd] using h)), Lib.hid (fun _ => rfl), Lib.hid (fun h => hf2.out (by simpa [upd] using h)), Lib.hid (fun h => hf3.out (by simpa [upd] using h)), Lib.hid (fun h => hf4.out (by simpa [upd] using h)), Lib.hid (fun h => hf5.out (by simpa [upd] using h)), hr0, hkn, hm, hc, hi, hkb⟩
      · rintro L a v hL hk ⟨x10, x27, x28, x29, x30, x31, rfl, hf0, hf1, hf2, hf3, hf4, hf5, hr0, hkn, hm, hc, hi, hkb⟩ K hK
        have HK0 := Lib.hid hK
        clear hK
        obtain rfl := hf0.out (after_on hL 0 rfl)
        obtain rfl := hf1.out (after_on hL 1 rfl)
        clear hL
        clear hk
        go_wp2_with fail
        refine (knife_of hR hok kn HLEN.out _).mono ?_
        rintro e w6 ⟨rfl, hb6⟩
        exact HK0.out _ _ ⟨_, _, _, _, _, _, rfl, Lib.hid (fun _ => rfl), Lib.hid (fun _ => rfl), Lib.hid (fun _ => rfl), Lib.hid (fun h => hf3.out (by simpa [upd] using h)), Lib.hid (fun h => hf4.out (by simpa [upd] using h)), Lib.hid (fun h => hf5.out (by simpa [upd] using h)), Lib.hid (hr0.out.below hb6 hr0.out.lt), Lib.hid (hkn.out.below hb6 hkn.out.lt), Lib.hid (hm.out.below hb6 hm.out.lt), Lib.hid (hc.out.below hb6 hc.out.lt), Lib.hid (hi.out.below hb6), Lib.hid (hkb.out.after hb6)⟩
      · rintro L a v hL hk ⟨x10, x27, x28, x29, x30, x31, rfl, hf0, hf1, hf2, hf3, hf4, hf5, hr0, hkn, hm, hc, hi, hkb⟩ K hK
        have HK0 := Lib.hid hK
        clear hK
        clear hL
        clear hk
        have c0 := hc.out.cell 0 (v := .slice pc cut.length cc) rfl
        go_wp2
        exact HK0.out _ _ ⟨_, _, _, _, _, _, rfl, Lib.hid (fun h => hf0.out (by simpa [upd] using h)), Lib.hid (fun h => hf1.out (by simpa [upd] using h)), Lib.hid (fun h => hf2.out (by simpa [upd] using h)), Lib.hid (fun _ => rfl), Lib.hid (fun h => hf4.out (by simpa [upd] using h)), Lib.hid (fun h => hf5.out (by simpa [upd] using h)), hr0, hkn, hm, hc, hi, hkb⟩
      · rintro L a v hL hk ⟨x10, x27, x28, x29, x30, x31, rfl, hf0, hf1, hf2, hf3, hf4, hf5, hr0, hkn, hm, hc, hi, hkb⟩ K hK
        have HK0 := Lib.hid hK
        clear hK
        obtain rfl := hf2.out (after_on hL 2 rfl)
        obtain rfl := hf3.out (after_on hL 3 rfl)
        clear hL
        clear hk
        go_wp2_with fail
        refine (count_of hok _ (wholesD_length _ _ _) _ _ _ _ hn hi.out hcut).mono ?_
        rintro e w6 ⟨rfl, hb6⟩
        exact HK0.out _ _ ⟨_, _, _, _, _, _, rfl, Lib.hid (fun h => hf0.out (by simpa [upd] using h)), Lib.hid (fun h => hf1.out (by simpa [upd] using h)), Lib.hid (fun _ => rfl), Lib.hid (fun _ => rfl), Lib.hid (fun _ => rfl), Lib.hid (fun h => hf5.out (by simpa [upd] using h)), Lib.hid (hr0.out.below hb6 hr0.out.lt), Lib.hid (hkn.out.below hb6 hkn.out.lt), Lib.hid (hm.out.below hb6 hm.out.lt), Lib.hid (hc.out.below hb6 hc.out.lt), Lib.hid (hi.out.below hb6), Lib.hid (hkb.out.after hb6)⟩
      · rintro L a v hL hk ⟨x10, x27, x28, x29, x30, x31, rfl, hf0, hf1, hf2, hf3, hf4, hf5, hr0, hkn, hm, hc, hi, hkb⟩ K hK
        have HK0 := Lib.hid hK
        clear hK
        obtain rfl := hf4.out (after_on hL 4 rfl)
        clear hL
        clear hk
        go_wp2
        exact HK0.out _ _ ⟨_, _, _, _, _, _, rfl, Lib.hid (fun h => hf0.out (by simpa [upd] using h)), Lib.hid (fun h => hf1.out (by simpa [upd] using h)), Lib.hid (fun h => hf2.out (by simpa [upd] using h)), Lib.hid (fun h => hf3.out (by simpa [upd] using h)), Lib.hid (fun _ => rfl), Lib.hid (fun _ => rfl), hr0, hkn, hm, hc, hi, hkb⟩
  case done =>
    intro W3 hI hkeep hsz hD
    have hI : Row W3 (w2.heap.size + 1) #[.int .i64 (loTo long sz ks cut ((truthsD long ks).map fun c => #[cols c]).length), .int .i64 (hiTo long sz ks cut ((truthsD long ks).map fun c => #[cols c]).length)] 39 := hI
    rw [List.length_map, loTo, hiTo, List.take_length] at hI
    have hmarks := (show Marks w0.heap.size [] w5 from trivial).push hkeep (fun m oo hm h => by subst hm; unfold Row at rM; rw [rM] at h; cases h) (by have := HS5.out; have := HW.out; omega) hD
    have HM := Lib.hid hmarks
    have HB6 := Lib.hid (HB5.out.trans (hkeep.below (n := w0.heap.size) (by have := HS5.out; have := HW.out; omega) (fun m hm => by have := HS5.out; have := HW.out; omega)))
    have RO2 := Lib.hid (RO.out.keeps hkeep (by have := HW.out; omega))
    have HI3 := Lib.hid (show Row W3 (w2.heap.size + 1) #[.int .i64 (loD long sz ks cut), .int .i64 (hiD long sz ks cut)] 39 from hI)
    clear hkeep hD hmarks hI rM rT hnM hk0
    go_wp2_with (first | (refine load_row rfl 39 _ rfl _ rfl 39 _ _ HI3.out Try.underlying39 rfl (by kernel_rfl) ?_) | (refine store_row rfl 39 _ _ rfl _ #[.int .i64 (loD long sz ks cut), .int .i64 (hiD long sz ks cut)] #[.int .i64 0, .int .i64 0] 39 rfl rfl RO2.out (by kernel_rfl) rfl (by simp [Value.oneCell']) ?_))
    have hr2 := RO2.out.setRow #[.int .i64 (loD long sz ks cut), .int .i64 (hiD long sz ks cut)]
    have hmk := HM.out.same (B := W3.setRow (w0.heap.size + 1 + 1) #[.int .i64 (loD long sz ks cut), .int .i64 (hiD long sz ks cut)]) (fun m o h => _root_.Go.setRow_other _ _ _ _ (fun e => by subst e; have := RO2.out; unfold Row at this; rw [this] at h; cases h))
    have hbb := below_setRow HB6.out (show w0.heap.size ≤ w0.heap.size + 1 + 1 by omega) #[.int .i64 (loD long sz ks cut), .int .i64 (hiD long sz ks cut)]
    refine marks_leave hmk (fun B2 hB2 => ?_)
    have hr3 : Row B2 (w0.heap.size + 1 + 1) #[.int .i64 (loD long sz ks cut), .int .i64 (hiD long sz ks cut)] 39 := by unfold Row; rw [hB2.rest _ (fun o h => by unfold Row at hr2; rw [hr2] at h; cases h)]; exact hr2
    exact ⟨_, results_cell_two Try.results28 _ _ _ _ _ _ _ _ rfl rfl hr3 Try.underlying39 rfl (by kernel_rfl), rfl, hbb.trans hB2.below⟩
  case stop => intro c W3 h; exact h.elim

end Go.Proofs.Ytnnlbbmimdohoaa
