/- The walks of layer 5: what kind a box is of. -/
import Derived.Test.YtgdidhbomdfcpaaF15
namespace Go.Proofs.Ytgdidhbomdfcpaa
open Go.RowKit Go.Maps
attribute [local go_sem] Oper.semAt_some

set_option maxRecDepth 10000 in
set_option maxHeartbeats 1600000 in
theorem Kind_bad (b : Bf) (p : Option Addr) (c : Nat) (x y : Int) (w : World) (hB : BfAt w p c b) (hb : bookB b = false) :
    Calls Try.prog 19 #[.agg (bfA b p c), .int .i64 x, .int .i64 y] w fun e w' => e = .returned (.tuple #[.int .i64 0, .int .i64 50]) ∧ Below w.heap.size w w' := by
  have hE := below_alloc w (.cells (bfA b p c) 24)
  have HB := Lib.hid (enter_bad b p c _ (hB.below hE) hb)
  have HE := Lib.hid hE
  have hz := hE.size
  clear hE hB hb
  go_enter Try.func19, Try.ntmps19
  go_wp2_with fail
  refine HB.out.mono ?_
  rintro e u ⟨rfl, hbu⟩
  have HE := Lib.hid (HE.out.trans (hbu.mono hz))
  clear hbu
  go_wp2_with fail
  go_ret2
  exact ⟨rfl, HE.out.alloc (HE.out.size) _⟩
set_option maxRecDepth 10000 in
set_option maxHeartbeats 1600000 in
theorem Kind_no (b : Bf) (p : Option Addr) (c : Nat) (x y : Int) (w : World) (hB : BfAt w p c b) (hb : bookB b = true) (hx : I64 x) (hy : I64 y) (hd : boxB b x y = false) :
    Calls Try.prog 19 #[.agg (bfA b p c), .int .i64 x, .int .i64 y] w fun e w' => e = .returned (.tuple #[.int .i64 0, .int .i64 51]) ∧ Below w.heap.size w w' := by
  have hE := below_alloc w (.cells (bfA b p c) 24)
  have HB := Lib.hid (enter_yes b p c _ (hB.below hE) hb)
  have HE := Lib.hid hE
  have HX := Lib.hid hx
  have HY := Lib.hid hy
  have HD := Lib.hid hd
  have hz := hE.size
  clear hE hB hb hx hy hd
  go_enter Try.func19, Try.ntmps19
  go_wp2_with fail
  refine HB.out.mono ?_
  rintro e u ⟨mb, rfl, hk, hbu⟩
  have hb2 := below_alloc u (.cells (bkA b p c mb) 79)
  have HE := Lib.hid ((HE.out.trans (hbu.mono hz)).alloc ((HE.out.trans (hbu.mono hz)).size) (.cells (bkA b p c mb) 79))
  have HRB := Lib.hid (Row.new u (bkA b p c mb) 79)
  obtain ⟨lo, hi, hl, h1, h2⟩ := (hk.s.below hb2).look HX.out HY.out
  rw [HD.out] at hl
  have HL := Lib.hid hl
  have HOK := Lib.hid hk.ok
  skip
  have hz2 := HE.out.size
  clear hbu hb2 hk hl h1 h2
  go_wp2_with (first | (refine lookup_ok_op rfl 77 _ _ _ rfl mb _ rfl rfl _ HL.out ?_))
  go_ret2
  exact ⟨rfl, HE.out.alloc hz2 _⟩
set_option maxRecDepth 10000 in
set_option maxHeartbeats 1600000 in
theorem Kind_yes (b : Bf) (p : Option Addr) (c : Nat) (x y : Int) (w : World) (hB : BfAt w p c b) (hb : bookB b = true) (hx : I64 x) (hy : I64 y) (hd : boxB b x y = true) :
    Calls Try.prog 19 #[.agg (bfA b p c), .int .i64 x, .int .i64 y] w fun e w' => e = .returned (.tuple #[.int .i64 (kindS b (loF b x y) (hiF b x y)), .int .i64 0]) ∧ Below w.heap.size w w' := by
  have hE := below_alloc w (.cells (bfA b p c) 24)
  have HB := Lib.hid (enter_yes b p c _ (hB.below hE) hb)
  have HE := Lib.hid hE
  have HX := Lib.hid hx
  have HY := Lib.hid hy
  have HD := Lib.hid hd
  have hz := hE.size
  clear hE hB hb hx hy hd
  go_enter Try.func19, Try.ntmps19
  go_wp2_with fail
  refine HB.out.mono ?_
  rintro e u ⟨mb, rfl, hk, hbu⟩
  have hb2 := below_alloc u (.cells (bkA b p c mb) 79)
  have HE := Lib.hid ((HE.out.trans (hbu.mono hz)).alloc ((HE.out.trans (hbu.mono hz)).size) (.cells (bkA b p c mb) 79))
  have HRB := Lib.hid (Row.new u (bkA b p c mb) 79)
  obtain ⟨lo, hi, hl, h1, h2⟩ := (hk.s.below hb2).look HX.out HY.out
  rw [HD.out] at hl
  have HL := Lib.hid hl
  have HOK := Lib.hid hk.ok
  obtain ⟨e1, e2⟩ := h1 HD.out
  subst e1
  subst e2
  have HK := Lib.hid (fun w' => kind_any b hk.ok p c mb (loF b x y) (hiF b x y) w')
  have hz2 := HE.out.size
  clear hbu hb2 hk hl h1 h2
  go_wp2_with (first | (refine lookup_ok_op rfl 77 _ _ _ rfl mb _ rfl rfl _ HL.out ?_))
  refine (HK.out _).mono ?_
  rintro e v ⟨rfl, hbv⟩
  go_wp2_with fail
  go_ret2
  exact ⟨rfl, (HE.out.alloc hz2 _).trans (hbv.mono (HE.out.alloc hz2 _).size)⟩
end Go.Proofs.Ytgdidhbomdfcpaa
