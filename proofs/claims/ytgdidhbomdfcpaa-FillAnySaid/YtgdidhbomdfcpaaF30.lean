/- The walks of layer 5: do any so many handfuls make a right box? -/
import Derived.Test.YtgdidhbomdfcpaaF29
import Derived.Test.YtgdidhbomdfcpaaF16
namespace Go.Proofs.Ytgdidhbomdfcpaa
open Go.RowKit Go.Maps
attribute [local go_sem] Oper.semAt_some

set_option maxRecDepth 10000 in
set_option maxHeartbeats 1600000 in
theorem Any_bad (b : Bf) (p : Option Addr) (c : Nat) (x : Int) (w : World) (hB : BfAt w p c b) (hb : bookB b = false) :
    Calls Try.prog 21 #[.agg (bfA b p c), .int .i64 x] w fun e w' => e = .returned (.tuple #[.bool false, .int .i64 50]) ∧ Below w.heap.size w w' := by
  have hE := below_alloc w (.cells (bfA b p c) 24)
  have HB := Lib.hid (enter_bad b p c _ (hB.below hE) hb)
  have HE := Lib.hid hE
  have hz := hE.size
  clear hE hB hb
  go_enter Try.func21, Try.ntmps21
  go_wp2_with fail
  refine HB.out.mono ?_
  rintro e u ⟨rfl, hbu⟩
  have HE := Lib.hid (HE.out.trans (hbu.mono hz))
  clear hbu
  go_wp2_with fail
  go_ret2
  exact ⟨rfl, HE.out.alloc (HE.out.size) _⟩
set_option maxRecDepth 10000 in
set_option maxHeartbeats 1600000 in
theorem Any_no (b : Bf) (p : Option Addr) (c : Nat) (x : Int) (w : World) (hB : BfAt w p c b) (hb : bookB b = true) (hx : fits x 1 b.hs.length = false) :
    Calls Try.prog 21 #[.agg (bfA b p c), .int .i64 x] w fun e w' => e = .returned (.tuple #[.bool false, .int .i64 51]) ∧ Below w.heap.size w w' := by
  have hE := below_alloc w (.cells (bfA b p c) 24)
  have HB := Lib.hid (enter_yes b p c _ (hB.below hE) hb)
  have HE := Lib.hid hE
  have HR := Lib.hid (Row.new w (bfA b p c) 24)
  have HX := Lib.hid (fun w' => (by have h := within_any x 1 b.hs.length w'; rw [hx] at h; exact h : Calls Try.prog 60 #[.int .i64 x, .int .i64 1, .int .i64 b.hs.length] w' fun e w'' => e = .returned (.bool false) ∧ w' = w''))
  have hz := hE.size
  have hzr := HR.out.lt
  clear hE hB hb hx
  go_enter Try.func21, Try.ntmps21
  go_wp2_with fail
  refine HB.out.mono ?_
  rintro e u ⟨mb, rfl, hk, hbu⟩
  have HR := Lib.hid ((HR.out.below hbu hzr).alloc (.cells (bkA b p c mb) 79))
  have HE := Lib.hid ((HE.out.trans (hbu.mono hz)).alloc ((HE.out.trans (hbu.mono hz)).size) (.cells (bkA b p c mb) 79))
  have g4 := HR.out.cell 4 (v := .slice p b.hs.length c) rfl
  clear hbu hk
  go_wp2_with fail
  refine (HX.out _).mono ?_
  rintro e u2 ⟨rfl, rfl⟩
  clear g4
  go_wp2_with fail
  go_ret2
  exact ⟨rfl, HE.out⟩
set_option maxRecDepth 10000 in
set_option maxHeartbeats 1600000 in
theorem Any_yes (b : Bf) (p : Option Addr) (c : Nat) (many : Nat) (w : World) (hB : BfAt w p c b) (hb : bookB b = true) (h1 : 1 ≤ many) (hm : many ≤ b.hs.length) :
    Calls Try.prog 21 #[.agg (bfA b p c), .int .i64 many] w fun e w' => e = .returned (.tuple #[.bool (kindS b (lowAny b many) (highAny b many) == 0), .int .i64 0]) ∧ Below w.heap.size w w' := by
  have hE := below_alloc w (.cells (bfA b p c) 24)
  have HB := Lib.hid (enter_yes b p c _ (hB.below hE) hb)
  have HE := Lib.hid hE
  have HR := Lib.hid (Row.new w (bfA b p c) 24)
  have HOK := Lib.hid (bookB_iff.1 hb)
  have HX := Lib.hid (fun w' => (by have h := within_any many 1 b.hs.length w'; rw [show fits (many : Int) 1 (b.hs.length : Int) = true by unfold fits; simp; omega] at h; exact h : Calls Try.prog 60 #[.int .i64 many, .int .i64 1, .int .i64 b.hs.length] w' fun e w'' => e = .returned (.bool true) ∧ w' = w''))
  have hz := hE.size
  have hzr := HR.out.lt
  clear hE hB hb
  go_enter Try.func21, Try.ntmps21
  go_wp2_with fail
  refine HB.out.mono ?_
  rintro e u ⟨mb, rfl, hk, hbu⟩
  have HR := Lib.hid ((HR.out.below hbu hzr).alloc (.cells (bkA b p c mb) 79))
  have HE := Lib.hid ((HE.out.trans (hbu.mono hz)).alloc ((HE.out.trans (hbu.mono hz)).size) (.cells (bkA b p c mb) 79))
  have RK := Lib.hid (Row.new u (bkA b p c mb) 79)
  have HK := Lib.hid (hk.below (below_alloc u (.cells (bkA b p c mb) 79)))
  have g4 := HR.out.cell 4 (v := .slice p b.hs.length c) rfl
  clear hbu hk
  go_wp2_with fail
  refine (HX.out _).mono ?_
  rintro e u2 ⟨rfl, rfl⟩
  clear g4
  have HW := Lib.hid (fun w' (k : From (u.alloc (.cells (bkA b p c mb) 79)) w') => whichever_any b p c mb many w' (HK.out.below k.b) h1 hm)
  obtain ⟨kd, hkd⟩ : ∃ x, kindS b (lowAny b many) (highAny b many) = x := ⟨_, rfl⟩
  have HKD := Lib.hid (fun w' => (by have h := kind_any b HOK.out p c mb (lowAny b many) (highAny b many) w'; rw [hkd] at h; exact h : Calls Try.prog 68 #[.agg (bkA b p c mb), .agg #[.int .i64 (lowAny b many), .int .i64 (highAny b many)]] w' fun e w'' => e = .returned (.int .i64 kd) ∧ Below w'.heap.size w' w''))
  have HKE := Lib.hid hkd
  clear hkd
  go_upto_region 6 with (fail)
  have k0 := RK.out.cell 0 (v := .int .i64 b.pr) rfl
  have k1 := RK.out.cell 1 (v := .int .i64 b.le) rfl
  have k2 := RK.out.cell 2 (v := .int .i64 b.mo) rfl
  have k3 := RK.out.cell 3 (v := .int .i64 b.gr) rfl
  have k4 := RK.out.cell 4 (v := .slice p b.hs.length c) rfl
  have k5 := RK.out.cell 5 (v := .map (some mb)) rfl
  refine wp_region_later (by kernel_rfl) (by kernel_rfl) ?_
  repeat (go_big_quiet_step (first
    | (go_at_call 71; with_reducible exact Calls.later_of (HW.out _ (Later.fr _)))
    | (go_at_call 68; with_reducible exact Calls.later_of (HKD.out _))))
  refine wpQuiet_nil ?_
  intro _ hw'
  obtain ⟨y, hw''⟩ := hw'
  subst hw''
  go_wp2_with fail
  go_ret2
  exact ⟨by rw [HKE.out]; rfl, y.base HE.out⟩
end Go.Proofs.Ytgdidhbomdfcpaa
