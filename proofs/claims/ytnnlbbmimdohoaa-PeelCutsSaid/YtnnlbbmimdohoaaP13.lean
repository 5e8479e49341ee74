/- The walks of layer 1: how many columns a ribbon has. -/
import Derived.Test.YtnnlbbmimdohoaaP12
namespace Go.Proofs.Ytnnlbbmimdohoaa
open Go.RowKit Go.Maps
attribute [local go_sem] Oper.semAt_some

theorem field_op {P : Program} {ops : Array Oper} {Q : Exit → Act → World → Prop} {rest : List Oper} {op : Oper} {a : Act} {w : World} (hgd : op.guard = none) (ty : TypeId) (x : Operand) (k : Nat) (ho : op.op = .field ty x k) (v u : Value) (hx : a.eval x = v)
    (hr : (Instr.field ty v k).run P w = .ok u w) (h : wpList P ops Q rest (a.put op.dst u) w) : wpList P ops Q (op :: rest) a w :=
  wpList_plain hgd fun _ hK => by
    unfold Oper.wp execOp
    simp only [ho, hx, Sem.run_bind, Sem.run_pure, hr, Result.andThen_ok]
    exact hK _ _ h
theorem field_wide (R : Rib) (w : World) : (Instr.field 76 (.agg R.A) 1).run Try.prog w = .ok (.int .i64 R.wide) w := by
  simp [Instr.field, asAgg, go_sem, Rib.A]

set_option maxRecDepth 10000 in
set_option maxHeartbeats 800000 in
theorem ribbon_any (p1 : Option Addr) (c1 : Nat) (p2 : Option Addr) (c2 : Nat) (long : List Int) (sz : Int) (ks : List K4) (w : World) (hl : IntsAt w p1 long) (hks : KnotsAt w p2 ks) (hb1 : long.length < 2 ^ 62) (hb2 : ks.length < 2 ^ 62) (hok : validB long sz ks = true → LongOk long ∧ (∀ k ∈ ks, K4Ok k) ∧ ks.length ≤ 3) :
    Calls Try.prog 15 #[.agg #[.slice p1 long.length c1, .int .i64 sz, .slice p2 ks.length c2]] w fun e w' => e = .returned (if validB long sz ks then .tuple #[.int .i64 (ribTo p1 c1 p2 c2 long sz ks.length 0 long.length).wide, .int .i64 0] else .tuple #[.int .i64 0, .int .i64 10]) ∧ Below w.heap.size w w' := by
  go_enter Try.func15, Try.ntmps15
  have hba := below_alloc w (.cells #[.slice p1 long.length c1, .int .i64 sz, .slice p2 ks.length c2] 25)
  have r0 := Row.new w #[.slice p1 long.length c1, .int .i64 sz, .slice p2 ks.length c2] 25
  have HC := Lib.hid (check_any p1 c1 p2 c2 long sz ks _ (hl.below hba) (hks.below hba) hb1 hb2)
  have HL := Lib.hid (hl.below hba)
  have HK := Lib.hid (hks.below hba)
  clear hl hks
  cases hb : validB long sz ks
  · go_wp2_with (first | (refine HC.out.mono ?_; rw [checkE, hb]; rintro e w2 ⟨rfl, hb3⟩))
    go_ret2
    exact ⟨rfl, hba.trans (hb3.mono (by simp))⟩
  · obtain ⟨h1, h2, h3⟩ := hok hb
    go_wp2_with (first | (refine HC.out.mono ?_; rw [checkE, hb]; rintro e w2 ⟨rfl, hb3⟩; have r2 := Lib.hid (r0.below hb3 (by simp)); have k0 := r2.out.cell 0 (v := .slice p1 long.length c1) rfl; have k1 := r2.out.cell 1 (v := .int .i64 sz) rfl; have k2 := r2.out.cell 2 (v := .slice p2 ks.length c2) rfl) | (refine (unroll_any p1 c1 p2 c2 long sz ks _ h1 (HL.out.below hb3) (HK.out.below hb3) h2 h3).mono ?_; rintro e w3 ⟨mb, nn, f, rfl, _, _, hb4⟩) | (refine field_op rfl 76 _ _ rfl _ _ rfl (field_wide _ _) ?_))
    go_ret2
    exact ⟨rfl, (hba.trans (hb3.mono (by simp))).trans (hb4.mono (by have := hb3.size; simp at this; omega))⟩

end Go.Proofs.Ytnnlbbmimdohoaa
