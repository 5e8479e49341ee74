/- The walks of layer 3: an outcome is offered. -/
import Derived.Test.YticfcdbfplfmlaaGreatTuUG
namespace Go.Proofs.YticfcdbfplfmlaaGreat.Tu
open Go.RowKit Go.Maps
attribute [local go_sem] Oper.semAt_some

/-- A choice. -/
abbrev choA (s : List Int) (heat : Int) (p : Option Addr) (n c : Nat) (b : Bool) (f : Nat) : Array Value := #[.int .i64 (at0 s 0), .int .i64 (at0 s 1), .int .i64 (at0 s 2), .int .i64 (at0 s 3), .int .i64 heat, .slice p n c, .bool b, .func (.func f) #[] #[]]
abbrev ChoCells (cb : Nat) (s : List Int) (heat : Int) (p : Option Addr) (n c : Nat) (b : Bool) (f : Nat) (w : World) : Prop :=
  w.cell? ⟨cb, 0, none⟩ = some (.int .i64 (at0 s 0)) ∧ w.cell? ⟨cb, 1, none⟩ = some (.int .i64 (at0 s 1)) ∧ w.cell? ⟨cb, 2, none⟩ = some (.int .i64 (at0 s 2)) ∧ w.cell? ⟨cb, 3, none⟩ = some (.int .i64 (at0 s 3)) ∧ w.cell? ⟨cb, 4, none⟩ = some (.int .i64 heat) ∧ w.cell? ⟨cb, 5, none⟩ = some (.slice p n c) ∧ w.cell? ⟨cb, 6, none⟩ = some (.bool b) ∧ w.cell? ⟨cb, 7, none⟩ = some (.func (.func f) #[] #[])
theorem _root_.Go.Proofs.YticfcdbfplfmlaaGreat.Row.cho {w : World} {cb : Nat} {s : List Int} {heat : Int} {p : Option Addr} {n c : Nat} {b : Bool} {f : Nat} {t : TypeId} (h : Row w cb (choA s heat p n c b f) t) : ChoCells cb s heat p n c b f w :=
  ⟨h.cell 0 rfl, h.cell 1 rfl, h.cell 2 rfl, h.cell 3 rfl, h.cell 4 rfl, h.cell 5 rfl, h.cell 6 rfl, h.cell 7 rfl⟩
theorem FromB.drewN {b : Nat} {W w : World} (h : FromB b W w) (n : Nat) : FromB b W (w.drewN n) := ⟨⟨h.k.os, h.k.tape, h.k.output, h.k.size, h.k.block⟩⟩
theorem cho_sets {W : World} {cb : Nat} {s : List Int} {heat : Int} {p : Option Addr} {n c : Nat} {b : Bool} {f : Nat} {t : TypeId} (h : Row W cb (choA s heat p n c b f) t) (s' : List Int) (h' : Int) (p' : Option Addr) (n' c' : Nat) :
    Row (((((((W.setCell ⟨cb, 0, none⟩ (.int .i64 (at0 s' 0))).setCell ⟨cb, 1, none⟩ (.int .i64 (at0 s' 1))).setCell ⟨cb, 2, none⟩ (.int .i64 (at0 s' 2))).setCell ⟨cb, 3, none⟩ (.int .i64 (at0 s' 3))).setCell ⟨cb, 4, none⟩ (.int .i64 h')).setCell ⟨cb, 5, none⟩ (.slice p' n' c')).setCell ⟨cb, 6, none⟩ (.bool true)) cb (choA s' h' p' n' c' true f) t :=
  by have e := ((((((h.set 0 (.int .i64 (at0 s' 0))).set 1 (.int .i64 (at0 s' 1))).set 2 (.int .i64 (at0 s' 2))).set 3 (.int .i64 (at0 s' 3))).set 4 (.int .i64 h')).set 5 (.slice p' n' c')).set 6 (.bool true); simpa using e
/-- One of two. -/
def pickA (b : Bool) (x y : Array Value) : Array Value := if b then x else y
theorem from_sets {cb : Nat} {w W : World} (h : FromB cb w W) (v0 v1 v2 v3 v4 v5 v6 : Value) : FromB cb w (((((((W.setCell ⟨cb, 0, none⟩ v0).setCell ⟨cb, 1, none⟩ v1).setCell ⟨cb, 2, none⟩ v2).setCell ⟨cb, 3, none⟩ v3).setCell ⟨cb, 4, none⟩ v4).setCell ⟨cb, 5, none⟩ v5).setCell ⟨cb, 6, none⟩ v6) :=
  ((((((h.set _ _).set _ _).set _ _).set _ _).set _ _).set _ _).set _ _
/-- Some call is made, and the choice is then such a one. -/
def Offered (cb : Nat) (cs : Array Value) (w : World) (e : Ending) (w' : World) : Prop := (∃ v, e = .returned v) ∧ Row w' cb cs 133 ∧ FromB cb w w'

set_option maxRecDepth 10000 in
set_option maxHeartbeats 1600000 in
theorem offer_first (cb : Nat) (s : List Int) (h : Int) (p : Option Addr) (n c : Nat) (s' : List Int) (h' : Int) (p' : Option Addr) (n' c' f : Nat) (w : World) (hr : Row w cb (choA s h p n c false f) 133) :
    Calls Tryz.prog 64 #[.pointer (some ⟨cb, 0, none⟩), .agg (outA s' h' p' n' c')] w (Offered cb (choA s' h' p' n' c' true f) w) := by
  have hz := hr.lt
  have HR := Lib.hid (hr.alloc (.cells (outA s' h' p' n' c') 131))
  have HF := Lib.hid ((FromB.refl cb w).alloc (.cells (outA s' h' p' n' c') 131))
  obtain ⟨c0, c1, c2, c3, c4, c5, c6, c7⟩ := HR.out.cho
  have f0 := HR.out.free 0
  have f1 := HR.out.free 1
  have f2 := HR.out.free 2
  have f3 := HR.out.free 3
  have f4 := HR.out.free 4
  have f5 := HR.out.free 5
  have f6 := HR.out.free 6
  clear hr
  go_enter Tryz.func64, Tryz.ntmps64
  go_wp2_with fail
  go_quiet (fail)
  go_wp2_with fail
  go_end0
  exact ⟨⟨_, rfl⟩, cho_sets (HR.out.drewN _) _ _ _ _ _, from_sets (HF.out.drewN _) _ _ _ _ _ _ _⟩

set_option maxRecDepth 10000 in
set_option maxHeartbeats 1600000 in
theorem offer_cool (cb : Nat) (s : List Int) (h : Int) (p : Option Addr) (n c : Nat) (s' : List Int) (h' : Int) (p' : Option Addr) (n' c' : Nat) (w : World) (hr : Row w cb (choA s h p n c true 61) 133) (b : Bool) (hb : decide (h' < h) = b) :
    Calls Tryz.prog 64 #[.pointer (some ⟨cb, 0, none⟩), .agg (outA s' h' p' n' c')] w (Offered cb (pickA b (choA s' h' p' n' c' true 61) (choA s h p n c true 61)) w) := by
  have hz := hr.lt
  have HR := Lib.hid (hr.alloc (.cells (outA s' h' p' n' c') 131))
  have HQ := Lib.hid (Row.new w (outA s' h' p' n' c') 131)
  have HF := Lib.hid ((FromB.refl cb w).alloc (.cells (outA s' h' p' n' c') 131))
  have HB := Lib.hid hb
  clear hr hb
  go_enter Tryz.func64, Tryz.ntmps64
  go_wp2_with fail
  generalize w.alloc (.cells (outA s' h' p' n' c') 131) = W1 at *
  have hS : ∀ w', From W1 w' → (ChoCells cb s h p n c true 61 w' ∧ w'.cell? ⟨w.heap.size, 0, none⟩ = some (.int .i64 (at0 s' 0)) ∧ w'.cell? ⟨w.heap.size, 1, none⟩ = some (.int .i64 (at0 s' 1)) ∧ w'.cell? ⟨w.heap.size, 2, none⟩ = some (.int .i64 (at0 s' 2)) ∧ w'.cell? ⟨w.heap.size, 3, none⟩ = some (.int .i64 (at0 s' 3)) ∧ w'.cell? ⟨w.heap.size, 4, none⟩ = some (.int .i64 h') ∧ w'.cell? ⟨w.heap.size, 5, none⟩ = some (.slice p' n' c')) :=
    fun w' k => ⟨(k.row HR.out).cho, (k.row HQ.out).cell 0 rfl, (k.row HQ.out).cell 1 rfl, (k.row HQ.out).cell 2 rfl, (k.row HQ.out).cell 3 rfl, (k.row HQ.out).cell 4 rfl, (k.row HQ.out).cell 5 rfl⟩
  have HS := Lib.hid hS
  have KI := Lib.hid (From.refl W1)
  clear hS
  cases b
  · go_region_held3 (fun w' => ChoCells cb s h p n c true 61 w' ∧ w'.cell? ⟨w.heap.size, 0, none⟩ = some (.int .i64 (at0 s' 0)) ∧ w'.cell? ⟨w.heap.size, 1, none⟩ = some (.int .i64 (at0 s' 1)) ∧ w'.cell? ⟨w.heap.size, 2, none⟩ = some (.int .i64 (at0 s' 2)) ∧ w'.cell? ⟨w.heap.size, 3, none⟩ = some (.int .i64 (at0 s' 3)) ∧ w'.cell? ⟨w.heap.size, 4, none⟩ = some (.int .i64 h') ∧ w'.cell? ⟨w.heap.size, 5, none⟩ = some (.slice p' n' c')) (first | with_reducible exact HS.out _ KI.out | with_reducible exact HS.out _ KI.out.drew)
      ((go_at_call 61; (with_reducible refine (cooler_any _ _ _ _ _ _ _ _ _ _ _).mono ?_); rintro e u ⟨rfl, hbu⟩; rw [HB.out]; have KI := Lib.hid (by first | with_reducible exact KI.out.drew.below hbu | with_reducible exact KI.out.below hbu); clear hbu))
    have HR := Lib.hid (KI.out.row HR.out)
    have HF := Lib.hid (HF.out.below KI.out.b)
    have HQ := Lib.hid (KI.out.row HQ.out)
    obtain ⟨c0, c1, c2, c3, c4, c5, c6, c7⟩ := HR.out.cho
    have f0 := HR.out.free 0
    have f1 := HR.out.free 1
    have f2 := HR.out.free 2
    have f3 := HR.out.free 3
    have f4 := HR.out.free 4
    have f5 := HR.out.free 5
    have f6 := HR.out.free 6
    have g0 := HQ.out.cell 0 (v := .int .i64 (at0 s' 0)) rfl
    have g1 := HQ.out.cell 1 (v := .int .i64 (at0 s' 1)) rfl
    have g2 := HQ.out.cell 2 (v := .int .i64 (at0 s' 2)) rfl
    have g3 := HQ.out.cell 3 (v := .int .i64 (at0 s' 3)) rfl
    have g4 := HQ.out.cell 4 (v := .int .i64 h') rfl
    have g5 := HQ.out.cell 5 (v := .slice p' n' c') rfl
    go_wp2_with fail
    go_end0
    exact ⟨⟨_, rfl⟩, HR.out, HF.out⟩
  · go_region_held3 (fun w' => ChoCells cb s h p n c true 61 w' ∧ w'.cell? ⟨w.heap.size, 0, none⟩ = some (.int .i64 (at0 s' 0)) ∧ w'.cell? ⟨w.heap.size, 1, none⟩ = some (.int .i64 (at0 s' 1)) ∧ w'.cell? ⟨w.heap.size, 2, none⟩ = some (.int .i64 (at0 s' 2)) ∧ w'.cell? ⟨w.heap.size, 3, none⟩ = some (.int .i64 (at0 s' 3)) ∧ w'.cell? ⟨w.heap.size, 4, none⟩ = some (.int .i64 h') ∧ w'.cell? ⟨w.heap.size, 5, none⟩ = some (.slice p' n' c')) (first | with_reducible exact HS.out _ KI.out | with_reducible exact HS.out _ KI.out.drew)
      ((go_at_call 61; (with_reducible refine (cooler_any _ _ _ _ _ _ _ _ _ _ _).mono ?_); rintro e u ⟨rfl, hbu⟩; rw [HB.out]; have KI := Lib.hid (by first | with_reducible exact KI.out.drew.below hbu | with_reducible exact KI.out.below hbu); clear hbu))
    have HR := Lib.hid (KI.out.row HR.out)
    have HF := Lib.hid (HF.out.below KI.out.b)
    have HQ := Lib.hid (KI.out.row HQ.out)
    obtain ⟨c0, c1, c2, c3, c4, c5, c6, c7⟩ := HR.out.cho
    have f0 := HR.out.free 0
    have f1 := HR.out.free 1
    have f2 := HR.out.free 2
    have f3 := HR.out.free 3
    have f4 := HR.out.free 4
    have f5 := HR.out.free 5
    have f6 := HR.out.free 6
    have g0 := HQ.out.cell 0 (v := .int .i64 (at0 s' 0)) rfl
    have g1 := HQ.out.cell 1 (v := .int .i64 (at0 s' 1)) rfl
    have g2 := HQ.out.cell 2 (v := .int .i64 (at0 s' 2)) rfl
    have g3 := HQ.out.cell 3 (v := .int .i64 (at0 s' 3)) rfl
    have g4 := HQ.out.cell 4 (v := .int .i64 h') rfl
    have g5 := HQ.out.cell 5 (v := .slice p' n' c') rfl
    go_wp2_with fail
    go_end0
    exact ⟨⟨_, rfl⟩, cho_sets HR.out _ _ _ _ _, from_sets HF.out _ _ _ _ _ _ _⟩

end Go.Proofs.YticfcdbfplfmlaaGreat.Tu
