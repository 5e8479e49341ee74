/- The walks of layer 1: which knot to ask for. -/
import Derived.Test.YtnnlbbmimdohoaaP24
import Derived.Deep.OwnRows
namespace Go.Proofs.Ytnnlbbmimdohoaa
open Go.RowKit Go.Maps
attribute [local go_sem] Oper.semAt_some

/-- The cells of a list of numbers. -/
def intsA (l : List Int) : Array Value := (l.map (Value.int .i64)).toArray
theorem intsA_at {l : List Int} {k : Nat} (h : k < l.length) : (intsA l)[k]? = some (.int .i64 (at0 l k)) := by simp [intsA, h, at0]
theorem intsA_set (l : List Int) (k : Nat) (v : Int) : (intsA l).setIfInBounds k (.int .i64 v) = intsA (l.set k v) := by simp [intsA, List.map_set]
theorem ints_row {w : World} {b : Nat} {l : List Int} {t : TypeId} (h : Row w b (intsA l) t) : IntsAt w (some ⟨b, 0, none⟩) l := by
  intro i hi
  exact ⟨b, 0, rfl, by rw [Nat.zero_add]; exact h.cell i (intsA_at hi)⟩
theorem ints_tail {w : World} {b : Nat} {l : List Int} {t : TypeId} (h : Row w b (intsA l) t) {q : Option Addr} (hq : q = some ⟨b, 1, none⟩ ∨ l.tail = []) : IntsAt w q l.tail := by
  intro i hi
  rcases hq with rfl | e
  · rw [List.length_tail] at hi
    exact ⟨b, 1, rfl, by rw [h.cell (1 + i) (intsA_at (by omega))]; simp [at0, List.getD_eq_getElem?_getD, Nat.add_comm]⟩
  · rw [e] at hi; simp at hi
theorem make_ints (n : Nat) (hn : n ≤ 1000) (w : World) : (Instr.makeSlice 22 (.int .i64 (n : Int)) (.int .i64 (n : Int))).run Try.prog w = .ok (.slice (some ⟨w.heap.size, 0, none⟩) n n) (w.alloc (.cells (intsA (List.replicate n 0)) 3)) := by
  have e : madeCells #[.int .i64 0] n = intsA (List.replicate n 0) := by
    apply Array.ext
    · simp [madeCells, intsA]
    · intro i h1 h2
      simp [madeCells, intsA, Nat.mod_one]
  rw [run_make_row' 22 3 (.int .i64 0) 8 Try.underlying22 Try.infoInt rfl .i64 .i64 n (by omega) (by omega) w, e]
theorem RibAt.set {w w0 : World} {R : Rib} {p1 : Option Addr} {c1 : Nat} {p2 : Option Addr} {c2 : Nat} {long : List Int} {sz : Int} {ks : List K4} {mb nn : Nat} {f : Int → Int → Option (List Bool)} (hR : RibOf R p1 c1 p2 c2 long sz ks) (h : RibAt w R long ks mb nn f) {b : Nat} {cs : Array Value} {t : TypeId} (hr : Row w b cs t) (hL : LogAt w0 p1 p2 long ks) (i : Nat) (v : Value)
    (hb : Below w0.heap.size w0 (w.setCell ⟨b, i, none⟩ v)) : RibAt (w.setCell ⟨b, i, none⟩ v) R long ks mb nn f :=
  ⟨h.e, h.m.of_same (Below.heap_setCell _ _ _ _ (by have := h.m.ne hr; dsimp only; omega)), h.t, by rw [hR.p2]; exact hL.k.below hb, by rw [hR.p1]; exact hL.l.below hb⟩
/-- How many pieces at the worst, for the first knots. -/
def worstsTo (long : List Int) (sz : Int) (ks : List K4) (j : Nat) : List Int := (List.range ks.length).map fun x => if x < j then worstD long sz ks x else 0
theorem worstsTo_length (long : List Int) (sz : Int) (ks : List K4) (j : Nat) : (worstsTo long sz ks j).length = ks.length := by simp [worstsTo]
theorem worstsTo_set {long : List Int} {sz : Int} {ks : List K4} {j : Nat} (hj : j < ks.length) : (worstsTo long sz ks j).set j (worstD long sz ks j) = worstsTo long sz ks (j + 1) := by
  apply List.ext_getElem?
  intro i
  rw [List.getElem?_set]
  by_cases hi : i < ks.length
  · by_cases h : j = i
    · subst h; simp [worstsTo, hj]
    · have h2 : (i < j + 1) ↔ (i < j) := by omega
      simp [worstsTo, h, hi, h2]
  · simp [worstsTo, hi]; omega
theorem worstsTo_zero (long : List Int) (sz : Int) (ks : List K4) : List.replicate ks.length 0 = worstsTo long sz ks 0 := by
  apply List.ext_getElem?
  intro i
  by_cases hi : i < ks.length
  · simp [worstsTo, hi]
  · simp [worstsTo, hi]
theorem worstsTo_all (long : List Int) (sz : Int) (ks : List K4) : worstsTo long sz ks ks.length = (List.range ks.length).map (worstD long sz ks) := by
  unfold worstsTo
  apply List.map_congr_left
  intro x hx
  rw [if_pos (List.mem_range.1 hx)]

set_option maxRecDepth 10000 in
set_option maxHeartbeats 800000 in
theorem Ask_bad (p1 : Option Addr) (c1 : Nat) (p2 : Option Addr) (c2 : Nat) (long : List Int) (sz : Int) (ks : List K4) (w0 : World) (h : LogAt w0 p1 p2 long ks) (hb : validB long sz ks = false) :
    Calls Try.prog 37 #[.agg #[.slice p1 long.length c1, .int .i64 sz, .slice p2 ks.length c2]] w0 fun e w' => e = .returned (.tuple #[.int .i64 0, .int .i64 10]) ∧ Below w0.heap.size w0 w' := by
  go_enter Try.func37, Try.ntmps37
  have hba := below_alloc w0 (.cells #[.slice p1 long.length c1, .int .i64 sz, .slice p2 ks.length c2] 25)
  have r0 := Row.new w0 #[.slice p1 long.length c1, .int .i64 sz, .slice p2 ks.length c2] 25
  have HC := Lib.hid (check_any p1 c1 p2 c2 long sz ks _ (h.l.below hba) (h.k.below hba) h.b1 h.b2)
  have HH := Lib.hid h
  clear h
  go_wp2_with (first | (refine HC.out.mono ?_; rw [checkE, hb]; rintro e w2 ⟨rfl, hb3⟩))
  go_ret2
  exact ⟨rfl, hba.trans (hb3.mono (by simp))⟩


set_option maxRecDepth 10000 in
set_option maxHeartbeats 800000 in
theorem Ask_none (p1 : Option Addr) (c1 : Nat) (p2 : Option Addr) (c2 : Nat) (long : List Int) (sz : Int) (ks : List K4) (w0 : World) (h : LogAt w0 p1 p2 long ks) (hb : validB long sz ks = true) (hk0 : ks.length = 0) :
    Calls Try.prog 37 #[.agg #[.slice p1 long.length c1, .int .i64 sz, .slice p2 ks.length c2]] w0 fun e w' => e = .returned (.tuple #[.int .i64 0, .int .i64 4]) ∧ Below w0.heap.size w0 w' := by
  obtain rfl := List.length_eq_zero_iff.1 hk0
  go_enter Try.func37, Try.ntmps37
  have hba := below_alloc w0 (.cells #[.slice p1 long.length c1, .int .i64 sz, .slice p2 0 c2] 25)
  have r0 := Row.new w0 #[.slice p1 long.length c1, .int .i64 sz, .slice p2 0 c2] 25
  have HC := Lib.hid (check_any p1 c1 p2 c2 long sz [] _ (h.l.below hba) (h.k.below hba) h.b1 h.b2)
  have HH := Lib.hid h
  clear h
  go_wp2_with (first | (refine HC.out.mono ?_; rw [checkE, hb]; rintro e w2 ⟨rfl, hb3⟩; have HB2 := Lib.hid (hba.trans (hb3.mono (by simp))); have r2 := Lib.hid (r0.below hb3 (by simp)); clear hb3; have k2 := r2.out.cell 2 (v := .slice p2 0 c2) rfl))
  go_ret2
  exact ⟨rfl, HB2.out⟩

set_option maxRecDepth 10000 in
set_option maxHeartbeats 1600000 in
theorem Ask_good (p1 : Option Addr) (c1 : Nat) (p2 : Option Addr) (c2 : Nat) (long : List Int) (sz : Int) (ks : List K4) (w0 : World) (h : LogAt w0 p1 p2 long ks) (hb : validB long sz ks = true) (hk0 : 0 < ks.length) (hcap : ks.length ≤ c2) :
    Calls Try.prog 37 #[.agg #[.slice p1 long.length c1, .int .i64 sz, .slice p2 ks.length c2]] w0 fun e w' => e = .returned (.tuple #[.int .i64 (askD long sz ks), .int .i64 0]) ∧ Below w0.heap.size w0 w' := by
  have hok := valid_ok hb
  have hk3 := hok.k3
  have hne : ((ks.length : Int) == 0) = false := by simp; intro h; subst h; simp at hk0
  go_enter Try.func37, Try.ntmps37
  have hba := below_alloc w0 (.cells #[.slice p1 long.length c1, .int .i64 sz, .slice p2 ks.length c2] 25)
  have r0 := Row.new w0 #[.slice p1 long.length c1, .int .i64 sz, .slice p2 ks.length c2] 25
  have HC := Lib.hid (check_any p1 c1 p2 c2 long sz ks _ (h.l.below hba) (h.k.below hba) h.b1 h.b2)
  have HH := Lib.hid h
  clear h
  go_wp2_with (first | (refine HC.out.mono ?_; rw [checkE, hb]; rintro e w2 ⟨rfl, hb3⟩; have HB2 := Lib.hid (hba.trans (hb3.mono (by simp))); have r2 := Lib.hid (r0.below hb3 (by simp)); clear hb3; have k0 := r2.out.cell 0 (v := .slice p1 long.length c1) rfl; have k1 := r2.out.cell 1 (v := .int .i64 sz) rfl; have k2 := r2.out.cell 2 (v := .slice p2 ks.length c2) rfl; have hz := r2.out.lt) | (refine (unroll_of p1 c1 p2 c2 long sz ks _ (HH.out.below HB2.out) hok).mono ?_; rintro e w3 ⟨R, mb, nn, f, rfl, hR, hA, hb4⟩; have HB4 := Lib.hid (HB2.out.trans (hb4.mono (by omega))); have hz3 := hb4.size; have HA3 := Lib.hid hA; clear hb4 hA k0 k1 k2) | (refine store_new rfl 76 _ _ rfl R.A zero76 76 rfl rfl (size76 hR.ok.s6) (by rw [R.size hR.ok.s6]; rfl) R.one ?_; have k2 := (Row.new w3 R.A 76).cell 2 R.a2; rw [hR.p2, hR.n2, hR.c2] at k2); have hmk := make_ints ks.length (by omega))
  rw [worstsTo_zero long sz ks]
  have R0 := Lib.hid ((Row.new w3 R.A 76).alloc (.cells (intsA (worstsTo long sz ks 0)) 3))
  have RW := Lib.hid (Row.new' (w := w3.alloc (.cells R.A 76)) (n := w3.heap.size + 1) (by simp) (intsA (worstsTo long sz ks 0)) 3)
  have HA0 := Lib.hid ((HA3.out.below (below_alloc w3 (.cells R.A 76))).below (below_alloc _ (.cells (intsA (worstsTo long sz ks 0)) 3)))
  have HB0 := Lib.hid ((HB4.out.alloc (by omega) (.cells R.A 76)).alloc (by simp; omega) (.cells (intsA (worstsTo long sz ks 0)) 3))
  have HW := Lib.hid (show w0.heap.size < w3.heap.size by omega)
  clear hba r0 HC HA3 HB4 HB2 r2 k2
  go_loopw [26] (fun i wr => ∃ j : Nat, j ≤ ks.length ∧ i = .int .i64 j ∧ Row wr w3.heap.size R.A 76 ∧ Row wr (w3.heap.size + 1) (intsA (worstsTo long sz ks j)) 3 ∧ RibAt wr R long ks mb nn f ∧ Below w0.heap.size w0 wr) (fun i _ => ks.length - (intOf i).toNat)
  case atStart => exact ⟨0, by omega, rfl, R0.out, RW.out, HA0.out, HB0.out⟩
  case round =>
    obtain ⟨j, hj, rfl, g0, gw, ga, gb⟩ := hrel
    have G0 := Lib.hid g0
    have GW := Lib.hid gw
    have GA := Lib.hid ga
    have GB := Lib.hid gb
    have hlt := gw.lt
    clear g0 gw ga gb
    by_cases hjl : j < ks.length
    · go_wp2_with (first | (refine load_row rfl 76 _ rfl _ rfl 76 _ _ G0.out Try.underlying76 rfl (size76 hR.ok.s6) ?_) | (refine (worst_any hR hok _ GA.out j hjl hcap).mono ?_; rintro e w4 ⟨rfl, hb4⟩; have hz4 := hb4.size; have W4 := Lib.hid (GW.out.below hb4 hlt); have HB4 := Lib.hid hb4; clear hb4; have cj := W4.out.cell j (intsA_at (by rw [worstsTo_length]; exact hjl)); have fj := W4.out.free j))
      have hbs : Below w0.heap.size w0 (w4.setCell ⟨w3.heap.size + 1, j, none⟩ (.int .i64 (worstD long sz ks j))) := (GB.out.trans (HB4.out.mono (by have := HW.out; omega))).setCell (by have := HW.out; dsimp only; omega) _
      have HBS := Lib.hid hbs
      clear hbs
      go_roundw
      case rel => exact ⟨j + 1, by omega, by go_num, (G0.out.below HB4.out (by omega)).set_other _ _ (by dsimp only; omega), by rw [← worstsTo_set hjl, ← intsA_set]; exact W4.out.set j _, (GA.out.below HB4.out).set hR W4.out HH.out j _ HBS.out, HBS.out⟩
      case measure => simp [intOf]; omega
    · obtain rfl : j = ks.length := by omega
      have hwl : (worstsTo long sz ks ks.length).length = ks.length := worstsTo_length _ _ _ _
      have HASK := Lib.hid (show askD long sz ks = indexL (worstsTo long sz ks ks.length) (maxL (at0 (worstsTo long sz ks ks.length) 0) (worstsTo long sz ks ks.length).tail) by rw [worstsTo_all]; rfl)
      generalize worstsTo long sz ks ks.length = wl at *
      have HWL := Lib.hid hwl
      clear hmk hlt R0 RW HA0 HB0
      go_wp2_with fail
      generalize ks.length = n at *
      refine region_inv rfl (by kernel_rfl) (fun L a v => ∃ x2 x3 x36 x37 x38 x39 x40 x41 x42 x43 : Value, a = { tmps := #[.agg #[.slice p1 long.length c1, .int .i64 sz, .slice p2 n c2], .pointer (some ⟨w0.heap.size, 0, none⟩), x2, x3, .int .i64 0, .pointer (some ⟨w3.heap.size, 0, none⟩), .slice (some ⟨w3.heap.size + 1, 0, none⟩) n n, u7, .agg #[.slice p1 long.length c1, .int .i64 sz, .slice p2 n c2], .int .i64 0, .int .i64 0, .bool false, undef, .pointer (some ⟨w0.heap.size, 2, none⟩), .slice p2 n c2, .int .i64 n, .bool false, .agg #[.slice p1 long.length c1, .int .i64 sz, .slice p2 n c2], .agg R.A, .pointer (some ⟨w3.heap.size, 0, none⟩), .pointer (some ⟨w3.heap.size, 2, none⟩), .slice p2 n c2, .int .i64 n, .slice (some ⟨w3.heap.size + 1, 0, none⟩) n n, .slice (some ⟨w3.heap.size + 1, 0, none⟩) n n, .int .i64 n, .int .i64 n, .bool false, u28, u29, u30, u31, u32, u33, u34, u35, x36, x37, x38, x39, x40, x41, x42, x43], defers := [] } ∧ Hid (L 0 = true → x36 = .slice (some ⟨w3.heap.size + 1, 0, none⟩) n n) ∧ Hid (L 1 = true → x37 = .slice (some ⟨w3.heap.size + 1, 0, none⟩) n n) ∧ Hid (L 2 = true → x38 = .pointer (some ⟨w3.heap.size + 1, 0, none⟩)) ∧ Hid (L 3 = true → x39 = .int .i64 (at0 wl 0)) ∧ Hid (L 4 = true → x40 = .slice (some ⟨w3.heap.size + 1, 0, none⟩) n n) ∧ Hid (L 6 = true → x42 = .int .i64 (maxL (at0 wl 0) wl.tail)) ∧ Hid (L 7 = true → x43 = .int .i64 (indexL wl (maxL (at0 wl 0) wl.tail))) ∧ Hid (L 8 = true → x2 = .int .i64 (indexL wl (maxL (at0 wl 0) wl.tail))) ∧ Hid (L 9 = true → x3 = .int .i64 0) ∧ Hid (Row v (w3.heap.size + 1) (intsA wl) 3) ∧ Hid (L 5 = true → ∃ q' c', x41 = .slice q' (n - 1) c' ∧ (q' = some ⟨w3.heap.size + 1, 1, none⟩ ∨ wl.tail = [])) ∧ Hid (Below w0.heap.size w0 v)) ?h0 ?steps ?hd
      case h0 => exact ⟨_, _, _, _, _, _, _, _, _, _, rfl, Lib.hid nofun, Lib.hid nofun, Lib.hid nofun, Lib.hid nofun, Lib.hid nofun, Lib.hid nofun, Lib.hid nofun, Lib.hid nofun, Lib.hid nofun, Lib.hid (GW.out.drew), Lib.hid (nofun), Lib.hid (GB.out.drew)⟩
      case hd =>
        rintro L a v hL ⟨x2, x3, x36, x37, x38, x39, x40, x41, x42, x43, rfl, hf0, hf1, hf2, hf3, hf4, hf6, hf7, hf8, hf9, gw, hs, gb⟩
        obtain rfl := hf0.out (hL 0 (by decide))
        obtain rfl := hf1.out (hL 1 (by decide))
        obtain rfl := hf2.out (hL 2 (by decide))
        obtain rfl := hf3.out (hL 3 (by decide))
        obtain rfl := hf4.out (hL 4 (by decide))
        obtain rfl := hf6.out (hL 6 (by decide))
        obtain rfl := hf7.out (hL 7 (by decide))
        obtain rfl := hf8.out (hL 8 (by decide))
        obtain rfl := hf9.out (hL 9 (by decide))
        clear hf0
        clear hf1
        clear hf2
        clear hf3
        clear hf4
        clear hf6
        clear hf7
        clear hf8
        clear hf9
        clear hL
        go_wp2
        go_ret2
        exact ⟨by rw [HASK.out]; rfl, gb.out⟩
      case steps =>
        refine ⟨?_, ?_, ?_, ?_, ?_, ?_, ?_, ?_, ?_, ?_, trivial⟩
        · rintro L a v hL hk ⟨x2, x3, x36, x37, x38, x39, x40, x41, x42, x43, rfl, hf0, hf1, hf2, hf3, hf4, hf6, hf7, hf8, hf9, gw, hs, gb⟩ K hK
          have HK0 := Lib.hid hK
          clear hK
          clear hL
          clear hk
          go_wp2
          exact HK0.out _ _ ⟨_, _, _, _, _, _, _, _, _, _, rfl, Lib.hid (fun _ => rfl), Lib.hid (fun h => hf1.out (by simpa [upd] using h)), Lib.hid (fun h => hf2.out (by simpa [upd] using h)), Lib.hid (fun h => hf3.out (by simpa [upd] using h)), Lib.hid (fun h => hf4.out (by simpa [upd] using h)), Lib.hid (fun h => hf6.out (by simpa [upd] using h)), Lib.hid (fun h => hf7.out (by simpa [upd] using h)), Lib.hid (fun h => hf8.out (by simpa [upd] using h)), Lib.hid (fun h => hf9.out (by simpa [upd] using h)), gw, Lib.hid (fun h => hs.out (by simpa [upd] using h)), gb⟩
        · rintro L a v hL hk ⟨x2, x3, x36, x37, x38, x39, x40, x41, x42, x43, rfl, hf0, hf1, hf2, hf3, hf4, hf6, hf7, hf8, hf9, gw, hs, gb⟩ K hK
          have HK0 := Lib.hid hK
          clear hK
          clear hL
          clear hk
          go_wp2
          exact HK0.out _ _ ⟨_, _, _, _, _, _, _, _, _, _, rfl, Lib.hid (fun h => hf0.out (by simpa [upd] using h)), Lib.hid (fun _ => rfl), Lib.hid (fun h => hf2.out (by simpa [upd] using h)), Lib.hid (fun h => hf3.out (by simpa [upd] using h)), Lib.hid (fun h => hf4.out (by simpa [upd] using h)), Lib.hid (fun h => hf6.out (by simpa [upd] using h)), Lib.hid (fun h => hf7.out (by simpa [upd] using h)), Lib.hid (fun h => hf8.out (by simpa [upd] using h)), Lib.hid (fun h => hf9.out (by simpa [upd] using h)), gw, Lib.hid (fun h => hs.out (by simpa [upd] using h)), gb⟩
        · rintro L a v hL hk ⟨x2, x3, x36, x37, x38, x39, x40, x41, x42, x43, rfl, hf0, hf1, hf2, hf3, hf4, hf6, hf7, hf8, hf9, gw, hs, gb⟩ K hK
          have HK0 := Lib.hid hK
          clear hK
          obtain rfl := hf1.out (after_on hL 1 rfl)
          clear hL
          clear hk
          go_wp2
          exact HK0.out _ _ ⟨_, _, _, _, _, _, _, _, _, _, rfl, Lib.hid (fun h => hf0.out (by simpa [upd] using h)), Lib.hid (fun _ => rfl), Lib.hid (fun _ => rfl), Lib.hid (fun h => hf3.out (by simpa [upd] using h)), Lib.hid (fun h => hf4.out (by simpa [upd] using h)), Lib.hid (fun h => hf6.out (by simpa [upd] using h)), Lib.hid (fun h => hf7.out (by simpa [upd] using h)), Lib.hid (fun h => hf8.out (by simpa [upd] using h)), Lib.hid (fun h => hf9.out (by simpa [upd] using h)), gw, Lib.hid (fun h => hs.out (by simpa [upd] using h)), gb⟩
        · rintro L a v hL hk ⟨x2, x3, x36, x37, x38, x39, x40, x41, x42, x43, rfl, hf0, hf1, hf2, hf3, hf4, hf6, hf7, hf8, hf9, gw, hs, gb⟩ K hK
          have HK0 := Lib.hid hK
          clear hK
          obtain rfl := hf2.out (after_on hL 2 rfl)
          clear hL
          clear hk
          have c0 := gw.out.cell 0 (intsA_at (l := wl) (by rw [HWL.out]; omega))
          go_wp2
          exact HK0.out _ _ ⟨_, _, _, _, _, _, _, _, _, _, rfl, Lib.hid (fun h => hf0.out (by simpa [upd] using h)), Lib.hid (fun h => hf1.out (by simpa [upd] using h)), Lib.hid (fun _ => rfl), Lib.hid (fun _ => rfl), Lib.hid (fun h => hf4.out (by simpa [upd] using h)), Lib.hid (fun h => hf6.out (by simpa [upd] using h)), Lib.hid (fun h => hf7.out (by simpa [upd] using h)), Lib.hid (fun h => hf8.out (by simpa [upd] using h)), Lib.hid (fun h => hf9.out (by simpa [upd] using h)), gw, Lib.hid (fun h => hs.out (by simpa [upd] using h)), gb⟩
        · rintro L a v hL hk ⟨x2, x3, x36, x37, x38, x39, x40, x41, x42, x43, rfl, hf0, hf1, hf2, hf3, hf4, hf6, hf7, hf8, hf9, gw, hs, gb⟩ K hK
          have HK0 := Lib.hid hK
          clear hK
          clear hL
          clear hk
          go_wp2
          exact HK0.out _ _ ⟨_, _, _, _, _, _, _, _, _, _, rfl, Lib.hid (fun h => hf0.out (by simpa [upd] using h)), Lib.hid (fun h => hf1.out (by simpa [upd] using h)), Lib.hid (fun h => hf2.out (by simpa [upd] using h)), Lib.hid (fun h => hf3.out (by simpa [upd] using h)), Lib.hid (fun _ => rfl), Lib.hid (fun h => hf6.out (by simpa [upd] using h)), Lib.hid (fun h => hf7.out (by simpa [upd] using h)), Lib.hid (fun h => hf8.out (by simpa [upd] using h)), Lib.hid (fun h => hf9.out (by simpa [upd] using h)), gw, Lib.hid (fun h => hs.out (by simpa [upd] using h)), gb⟩
        · rintro L a v hL hk ⟨x2, x3, x36, x37, x38, x39, x40, x41, x42, x43, rfl, hf0, hf1, hf2, hf3, hf4, hf6, hf7, hf8, hf9, gw, hs, gb⟩ K hK
          have HK0 := Lib.hid hK
          clear hK
          obtain rfl := hf4.out (after_on hL 4 rfl)
          clear hL
          clear hk
          rcases Nat.eq_or_lt_of_le (show 1 ≤ n by omega) with rfl | hzz
          all_goals go_wp2
          all_goals exact HK0.out _ _ ⟨_, _, _, _, _, _, _, _, _, _, rfl, Lib.hid (fun h => hf0.out (by simpa [upd] using h)), Lib.hid (fun h => hf1.out (by simpa [upd] using h)), Lib.hid (fun h => hf2.out (by simpa [upd] using h)), Lib.hid (fun h => hf3.out (by simpa [upd] using h)), Lib.hid (fun _ => rfl), Lib.hid (fun h => hf6.out (by simpa [upd] using h)), Lib.hid (fun h => hf7.out (by simpa [upd] using h)), Lib.hid (fun h => hf8.out (by simpa [upd] using h)), Lib.hid (fun h => hf9.out (by simpa [upd] using h)), gw, Lib.hid (fun _ => by first | exact ⟨_, _, rfl, .inl rfl⟩ | exact ⟨some ⟨w3.heap.size + 1, 0, none⟩, 0, rfl, .inr (List.eq_nil_of_length_eq_zero (by rw [List.length_tail, HWL.out]))⟩), gb⟩
        · rintro L a v hL hk ⟨x2, x3, x36, x37, x38, x39, x40, x41, x42, x43, rfl, hf0, hf1, hf2, hf3, hf4, hf6, hf7, hf8, hf9, gw, hs, gb⟩ K hK
          have HK0 := Lib.hid hK
          clear hK
          obtain rfl := hf3.out (after_on hL 3 rfl)
          clear hk
          obtain ⟨q', c', rfl, hq'⟩ := hs.out (after_on hL 5 rfl)
          clear hL
          have hit := ints_tail gw.out hq'
          have hgr := greatest_any (at0 wl 0) q' c' wl.tail v (by rw [List.length_tail, HWL.out]; unfold maxLen; omega) hit
          rw [List.length_tail, HWL.out] at hgr
          have HGR := Lib.hid hgr
          clear hgr hit
          go_wp2_with fail
          refine HGR.out.mono ?_
          rintro e w6 ⟨rfl, rfl⟩
          exact HK0.out _ _ ⟨_, _, _, _, _, _, _, _, _, _, rfl, Lib.hid (fun h => hf0.out (by simpa [upd] using h)), Lib.hid (fun h => hf1.out (by simpa [upd] using h)), Lib.hid (fun h => hf2.out (by simpa [upd] using h)), Lib.hid (fun _ => rfl), Lib.hid (fun h => hf4.out (by simpa [upd] using h)), Lib.hid (fun _ => rfl), Lib.hid (fun h => hf7.out (by simpa [upd] using h)), Lib.hid (fun h => hf8.out (by simpa [upd] using h)), Lib.hid (fun h => hf9.out (by simpa [upd] using h)), gw, Lib.hid (fun _ => ⟨q', c', rfl, hq'⟩), gb⟩
        · rintro L a v hL hk ⟨x2, x3, x36, x37, x38, x39, x40, x41, x42, x43, rfl, hf0, hf1, hf2, hf3, hf4, hf6, hf7, hf8, hf9, gw, hs, gb⟩ K hK
          have HK0 := Lib.hid hK
          clear hK
          obtain rfl := hf0.out (after_on hL 0 rfl)
          obtain rfl := hf6.out (after_on hL 6 rfl)
          clear hL
          clear hk
          have hix := Index_any (maxL (at0 wl 0) wl.tail) (some ⟨w3.heap.size + 1, 0, none⟩) n wl v (by rw [HWL.out]; unfold maxLen; omega) (ints_row gw.out)
          rw [HWL.out] at hix
          have HIX := Lib.hid hix
          clear hix
          go_wp2_with fail
          refine HIX.out.mono ?_
          rintro e w6 ⟨rfl, rfl⟩
          exact HK0.out _ _ ⟨_, _, _, _, _, _, _, _, _, _, rfl, Lib.hid (fun _ => rfl), Lib.hid (fun h => hf1.out (by simpa [upd] using h)), Lib.hid (fun h => hf2.out (by simpa [upd] using h)), Lib.hid (fun h => hf3.out (by simpa [upd] using h)), Lib.hid (fun h => hf4.out (by simpa [upd] using h)), Lib.hid (fun _ => rfl), Lib.hid (fun _ => rfl), Lib.hid (fun h => hf8.out (by simpa [upd] using h)), Lib.hid (fun h => hf9.out (by simpa [upd] using h)), gw, Lib.hid (fun h => hs.out (by simpa [upd] using h)), gb⟩
        · rintro L a v hL hk ⟨x2, x3, x36, x37, x38, x39, x40, x41, x42, x43, rfl, hf0, hf1, hf2, hf3, hf4, hf6, hf7, hf8, hf9, gw, hs, gb⟩ K hK
          have HK0 := Lib.hid hK
          clear hK
          obtain rfl := hf7.out (after_on hL 7 rfl)
          clear hL
          clear hk
          go_wp2
          exact HK0.out _ _ ⟨_, _, _, _, _, _, _, _, _, _, rfl, Lib.hid (fun h => hf0.out (by simpa [upd] using h)), Lib.hid (fun h => hf1.out (by simpa [upd] using h)), Lib.hid (fun h => hf2.out (by simpa [upd] using h)), Lib.hid (fun h => hf3.out (by simpa [upd] using h)), Lib.hid (fun h => hf4.out (by simpa [upd] using h)), Lib.hid (fun h => hf6.out (by simpa [upd] using h)), Lib.hid (fun _ => rfl), Lib.hid (fun _ => rfl), Lib.hid (fun h => hf9.out (by simpa [upd] using h)), gw, Lib.hid (fun h => hs.out (by simpa [upd] using h)), gb⟩
        · rintro L a v hL hk ⟨x2, x3, x36, x37, x38, x39, x40, x41, x42, x43, rfl, hf0, hf1, hf2, hf3, hf4, hf6, hf7, hf8, hf9, gw, hs, gb⟩ K hK
          have HK0 := Lib.hid hK
          clear hK
          clear hL
          clear hk
          go_wp2
          exact HK0.out _ _ ⟨_, _, _, _, _, _, _, _, _, _, rfl, Lib.hid (fun h => hf0.out (by simpa [upd] using h)), Lib.hid (fun h => hf1.out (by simpa [upd] using h)), Lib.hid (fun h => hf2.out (by simpa [upd] using h)), Lib.hid (fun h => hf3.out (by simpa [upd] using h)), Lib.hid (fun h => hf4.out (by simpa [upd] using h)), Lib.hid (fun h => hf6.out (by simpa [upd] using h)), Lib.hid (fun h => hf7.out (by simpa [upd] using h)), Lib.hid (fun h => hf8.out (by simpa [upd] using h)), Lib.hid (fun _ => rfl), gw, Lib.hid (fun h => hs.out (by simpa [upd] using h)), gb⟩

end Go.Proofs.Ytnnlbbmimdohoaa
