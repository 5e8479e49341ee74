/- The walks of layer 5: the boxes by hand, the best plan, how many boxes are right. -/
import Derived.Test.YtgdidhbomdfcpaaF25
namespace Go.Proofs.Ytgdidhbomdfcpaa
open Go.RowKit Go.Maps
attribute [local go_sem] Oper.semAt_some

/-- What ByHand returns of a plan. -/
def GaveByHand (b : Bf) (l : List Int) (w : World) (e : Ending) (w' : World) : Prop :=
  ∃ ph ch, e = .returned (.tuple #[.slice ph (handL b l).length ch, .int .i64 0]) ∧ IntsAt w' ph (handL b l) ∧ Below w.heap.size w w'
def bestQ (b : Bf) : List Int := bestL (rankQ b) (plansB b)
def bestR (b : Bf) : List Int := bestL (rankR b) (plansB b)
/-- What Best returns. -/
def GavePlan (b : Bf) (w : World) (e : Ending) (w' : World) : Prop :=
  ∃ q cq, e = .returned (.tuple #[.slice q (bestQ b).length cq, .int .i64 0]) ∧ IntsAt w' q (bestQ b) ∧ Below w.heap.size w w'
theorem field_plan (q : Option Addr) (n c : Nat) (pr : Option Addr) (nr cr : Nat) (ph : Option Addr) (nh ch : Nat) (w : World) : (Instr.field 90 (.agg (outA q n c pr nr cr ph nh ch)) 0).run Try.prog w = .ok (.slice q n c) w := by
  unfold outA
  simp [Instr.field, asAgg, go_sem, Try.underlying90]
theorem field_right (q : Option Addr) (n c : Nat) (pr : Option Addr) (nr cr : Nat) (ph : Option Addr) (nh ch : Nat) (w : World) : (Instr.field 90 (.agg (outA q n c pr nr cr ph nh ch)) 1).run Try.prog w = .ok (.slice pr nr cr) w := by
  unfold outA
  simp [Instr.field, asAgg, go_sem, Try.underlying90]
theorem bestL_of {rk : List Int → Int} {ls : List (List Int)} {m : List Int} (h : bestO rk ls = some m) : bestL rk ls = m := by unfold bestL; rw [h]; rfl

set_option maxRecDepth 10000 in
set_option maxHeartbeats 1600000 in
theorem ByHand_bad (b : Bf) (p : Option Addr) (c : Nat) (q : Option Addr) (cq : Nat) (l : List Int) (w : World) (hB : BfAt w p c b) (hb : bookB b = false) :
    Calls Try.prog 26 #[.agg (bfA b p c), .slice q l.length cq] w fun e w' => e = .returned (.tuple #[.slice none 0 0, .int .i64 50]) ∧ Below w.heap.size w w' := by
  have hE := below_alloc w (.cells (bfA b p c) 24)
  have HB := Lib.hid (follow_bad b p c q cq l _ (hB.below hE) hb)
  have HE := Lib.hid hE
  have hz := hE.size
  clear hE hB hb
  go_enter Try.func26, Try.ntmps26
  go_wp2_with fail
  refine HB.out.mono ?_
  rintro e u ⟨rfl, hbu⟩
  have HE := Lib.hid (HE.out.trans (hbu.mono hz))
  clear hbu
  go_wp2_with fail
  go_ret2
  exact ⟨rfl, HE.out.alloc (HE.out.size) _⟩
set_option maxRecDepth 10000 in
set_option maxHeartbeats 1600000 in
theorem ByHand_no (b : Bf) (p : Option Addr) (c : Nat) (q : Option Addr) (cq : Nat) (l : List Int) (w : World) (hB : BfAt w p c b) (hb : bookB b = true) (hl : IntsAt w q l) (hn : l.length < 2 ^ 62) (h64 : ∀ i, i < l.length → I64 (at0 l i)) (hp : planB b l = false) :
    Calls Try.prog 26 #[.agg (bfA b p c), .slice q l.length cq] w fun e w' => e = .returned (.tuple #[.slice none 0 0, .int .i64 51]) ∧ Below w.heap.size w w' := by
  have hE := below_alloc w (.cells (bfA b p c) 24)
  have HB := Lib.hid (follow_no b p c q cq l _ (hB.below hE) hb (hl.below hE) hn h64 hp)
  have HE := Lib.hid hE
  have hz := hE.size
  clear hE hB hb hl h64 hp
  go_enter Try.func26, Try.ntmps26
  go_wp2_with fail
  refine HB.out.mono ?_
  rintro e u ⟨rfl, hbu⟩
  have HE := Lib.hid (HE.out.trans (hbu.mono hz))
  clear hbu
  go_wp2_with fail
  go_ret2
  exact ⟨rfl, HE.out.alloc (HE.out.size) _⟩
set_option maxRecDepth 10000 in
set_option maxHeartbeats 1600000 in
theorem ByHand_yes (b : Bf) (p : Option Addr) (c : Nat) (q : Option Addr) (cq : Nat) (l : List Int) (w : World) (hB : BfAt w p c b) (hb : bookB b = true) (hl : IntsAt w q l) (hn : l.length < 2 ^ 62) (h64 : ∀ i, i < l.length → I64 (at0 l i)) (hp : planB b l = true) :
    Calls Try.prog 26 #[.agg (bfA b p c), .slice q l.length cq] w (GaveByHand b l w) := by
  have hE := below_alloc w (.cells (bfA b p c) 24)
  have HB := Lib.hid (follow_yes b p c q cq l _ (hB.below hE) hb (hl.below hE) hn h64 hp)
  have HE := Lib.hid hE
  have hz := hE.size
  clear hE hB hb hl h64 hp
  go_enter Try.func26, Try.ntmps26
  go_wp2_with fail
  refine HB.out.mono ?_
  rintro e u ⟨pr, cr, ph, ch, rfl, hds, hih, hbu⟩
  have HE := Lib.hid (HE.out.trans (hbu.mono hz))
  have hb2 := below_alloc u (.cells (outA q l.length cq pr (rightL b l).length cr ph (handL b l).length ch) 90)
  have HIH := Lib.hid (hih.below hb2)
  clear hbu hds hih hb2
  go_wp2_with fail
  go_ret2
  exact ⟨ph, ch, rfl, HIH.out, HE.out.alloc (HE.out.size) _⟩
set_option maxRecDepth 10000 in
set_option maxHeartbeats 1600000 in
theorem Best_bad (b : Bf) (p : Option Addr) (c : Nat) (w : World) (hB : BfAt w p c b) (hb : bookB b = false) :
    Calls Try.prog 31 #[.agg (bfA b p c)] w fun e w' => e = .returned (.tuple #[.slice none 0 0, .int .i64 50]) ∧ Below w.heap.size w w' := by
  have hE := below_alloc w (.cells (bfA b p c) 24)
  have HB := Lib.hid (enter_bad b p c _ (hB.below hE) hb)
  have HE := Lib.hid hE
  have hz := hE.size
  clear hE hB hb
  go_enter Try.func31, Try.ntmps31
  go_wp2_with fail
  refine HB.out.mono ?_
  rintro e u ⟨rfl, hbu⟩
  have HE := Lib.hid (HE.out.trans (hbu.mono hz))
  clear hbu
  go_wp2_with fail
  go_ret2
  exact ⟨rfl, HE.out.alloc (HE.out.size) _⟩
set_option maxRecDepth 10000 in
set_option maxHeartbeats 1600000 in
theorem Best_yes (b : Bf) (p : Option Addr) (c : Nat) (w : World) (hB : BfAt w p c b) (hb : bookB b = true) :
    Calls Try.prog 31 #[.agg (bfA b p c)] w (GavePlan b w) := by
  have hE := below_alloc w (.cells (bfA b p c) 24)
  have hok := bookB_iff.1 hb
  have HB := Lib.hid (enter_yes b p c _ (hB.below hE) hb)
  have HO := Lib.hid (offers_quicker b hok)
  have HE := Lib.hid hE
  have hz := hE.size
  clear hE hB hb hok
  go_enter Try.func31, Try.ntmps31
  go_wp2_with fail
  refine HB.out.mono ?_
  rintro e u ⟨mb, rfl, hk, hbu⟩
  have hb2 := below_alloc u (.cells (bkA b p c mb) 79)
  have HE := Lib.hid ((HE.out.trans (hbu.mono hz)).alloc ((HE.out.trans (hbu.mono hz)).size) (.cells (bkA b p c mb) 79))
  have HK := Lib.hid (best_any b p c mb 81 (rankQ b) _ (hk.below hb2) HO.out)
  have hz2 := HE.out.size
  clear hbu hb2 hk
  go_wp2_with fail
  refine HK.out.mono ?_
  rintro e v ⟨m, qm, cm, pr, cr, ph, ch, h1, h2, rfl, h4, h5, h6, hbv⟩
  have HM := Lib.hid h1
  have HIM := Lib.hid h4
  have HBV := Lib.hid hbv
  have hfl := field_plan qm m.length cm pr (rightL b m).length cr ph (handL b m).length ch v
  clear h1 h2 h4 h5 h6 hbv
  go_wp2_with fail
  go_ret2
  exact ⟨qm, cm, by rw [show bestQ b = m from bestL_of HM.out]; rfl, by rw [show bestQ b = m from bestL_of HM.out]; exact HIM.out, HE.out.trans (HBV.out.mono hz2)⟩
set_option maxRecDepth 10000 in
set_option maxHeartbeats 1600000 in
theorem Boxes_bad (b : Bf) (p : Option Addr) (c : Nat) (w : World) (hB : BfAt w p c b) (hb : bookB b = false) :
    Calls Try.prog 33 #[.agg (bfA b p c)] w fun e w' => e = .returned (.tuple #[.int .i64 0, .int .i64 50]) ∧ Below w.heap.size w w' := by
  have hE := below_alloc w (.cells (bfA b p c) 24)
  have HB := Lib.hid (enter_bad b p c _ (hB.below hE) hb)
  have HE := Lib.hid hE
  have hz := hE.size
  clear hE hB hb
  go_enter Try.func33, Try.ntmps33
  go_wp2_with fail
  refine HB.out.mono ?_
  rintro e u ⟨rfl, hbu⟩
  have HE := Lib.hid (HE.out.trans (hbu.mono hz))
  clear hbu
  go_wp2_with fail
  go_ret2
  exact ⟨rfl, HE.out.alloc (HE.out.size) _⟩
set_option maxRecDepth 10000 in
set_option maxHeartbeats 1600000 in
theorem Boxes_yes (b : Bf) (p : Option Addr) (c : Nat) (w : World) (hB : BfAt w p c b) (hb : bookB b = true) :
    Calls Try.prog 33 #[.agg (bfA b p c)] w fun e w' => e = .returned (.tuple #[.int .i64 ((rightL b (bestR b)).length : Int), .int .i64 0]) ∧ Below w.heap.size w w' := by
  have hE := below_alloc w (.cells (bfA b p c) 24)
  have hok := bookB_iff.1 hb
  have HB := Lib.hid (enter_yes b p c _ (hB.below hE) hb)
  have HO := Lib.hid (offers_surer b)
  have HE := Lib.hid hE
  have hz := hE.size
  clear hE hB hb hok
  go_enter Try.func33, Try.ntmps33
  go_wp2_with fail
  refine HB.out.mono ?_
  rintro e u ⟨mb, rfl, hk, hbu⟩
  have hb2 := below_alloc u (.cells (bkA b p c mb) 79)
  have HE := Lib.hid ((HE.out.trans (hbu.mono hz)).alloc ((HE.out.trans (hbu.mono hz)).size) (.cells (bkA b p c mb) 79))
  have HK := Lib.hid (best_any b p c mb 83 (rankR b) _ (hk.below hb2) HO.out)
  have hz2 := HE.out.size
  clear hbu hb2 hk
  go_wp2_with fail
  refine HK.out.mono ?_
  rintro e v ⟨m, qm, cm, pr, cr, ph, ch, h1, h2, rfl, h4, h5, h6, hbv⟩
  have HM := Lib.hid h1
  have HIM := Lib.hid h4
  have HBV := Lib.hid hbv
  have hfl := field_right qm m.length cm pr (rightL b m).length cr ph (handL b m).length ch v
  clear h1 h2 h4 h5 h6 hbv
  go_wp2_with fail
  go_ret2
  exact ⟨by rw [show bestR b = m from bestL_of HM.out]; rfl, HE.out.trans (HBV.out.mono hz2)⟩
end Go.Proofs.Ytgdidhbomdfcpaa
