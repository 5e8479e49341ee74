/- The walks of layer 3: an outcome; the best one so far. -/
import Derived.Test.YticfcdbfplfmlaaGreatTCX
namespace Go.Proofs.YticfcdbfplfmlaaGreat.Tu
open Go.RowKit Go.Maps
attribute [local go_sem] Oper.semAt_some

/-- All that was there in a world is as it was, but for two blocks. -/
structure FromC (b ob : Nat) (W w : World) : Prop where
  k : KeepsBut (fun m => m = b ∨ m = ob) W w
section
variable {b ob : Nat} {W w w' : World}
theorem FromC.refl (b ob : Nat) (W : World) : FromC b ob W W := ⟨KeepsBut.refl _ _⟩
theorem FromC.drew (h : FromC b ob W w) : FromC b ob W w.drew := ⟨h.k.drew⟩
theorem FromC.below (h : FromC b ob W w) (hb : Below w.heap.size w w') : FromC b ob W w' := ⟨h.k.after hb⟩
theorem FromC.set (h : FromC b ob W w) (i : Nat) (v : Value) : FromC b ob W (w.setCell ⟨ob, i, none⟩ v) := ⟨h.k.setCell (.inl (.inr rfl)) v⟩
theorem FromC.run (h : FromC b ob W w) {m np : Nat} {F : List Int → Nat → Bool} (hr : Run w w' b m np F) : FromC b ob W w' := ⟨h.k.trans (hr.f.k.mono fun _ _ e => .inl e)⟩
theorem FromC.row (h : FromC b ob W w) {c : Nat} {cs : Array Value} {t : TypeId} (hr : Row W c cs t) (h1 : c ≠ b) (h2 : c ≠ ob) : Row w c cs t := hr.keeps h.k (fun e => by rcases e with e | e <;> omega)
end
theorem ints_set {w : World} {p : Option Addr} {xs : List Int} (h : IntsAt w p xs) {b : Nat} (hne : ∀ c o, p = some ⟨c, o, none⟩ → c ≠ b) (i : Nat) (v : Value) : IntsAt (w.setCell ⟨b, i, none⟩ v) p xs := by
  intro j hj
  obtain ⟨c, o, hp, hc⟩ := h j hj
  exact ⟨c, o, hp, (World.cell?_of_block (Below.heap_setCell _ _ _ _ (hne c o hp))).trans hc⟩
/-- The call returned an outcome. -/
def GaveOut (ps : List Pt) (ms : List FrM) (s : List Int) (mb m : Nat) (w : World) (e : Ending) (w' : World) : Prop :=
  ∃ p c, e = .returned (.agg (outA s (heatD ps s) p (goodD ps (frsM ms) s).length c)) ∧ IntsAt w' p (goodD ps (frsM ms) s) ∧ (∀ b o, p = some ⟨b, o, none⟩ → w.heap.size ≤ b) ∧ Run w w' mb m ps.length (dryI ps (frsM ms))
theorem good_eq (ps : List Pt) (ms : List FrM) (s : List Int) : pickL (dryI ps (frsM ms) s) ms.length = goodD ps (frsM ms) s := by rw [goodD, frsM_length]

set_option maxRecDepth 10000 in
set_option maxHeartbeats 1600000 in
theorem outcome_any (pp : Option Addr) (cp : Nat) (pf : Option Addr) (cf mb n : Nat) (s : List Int) (ps : List Pt) (ms : List FrM) (w : World) (hB : BkD w pp pf ps ms mb n) (hn : n < 100000000) (hl : s.length = ps.length) (hs : SetOk s) :
    Calls Tryz.prog 65 #[.agg (pasA pp ps.length cp pf ms.length cf mb s)] w (GaveOut ps ms s mb (n + 5) w) := by
  have hms := hB.b.n5
  have hmb := hB.d.lt
  have HG := Lib.hid (good_eq ps ms s)
  have hE := below_alloc2 w (.cells (pasA pp ps.length cp pf ms.length cf mb s) 83) (.cells #[.int .i64 0, .int .i64 0, .int .i64 0, .int .i64 0, .int .i64 0, .slice none 0 0] 131)
  have HB := Lib.hid (hB.below hE)
  have HR := Lib.hid ((Row.new w (pasA pp ps.length cp pf ms.length cf mb s) 83).alloc (.cells #[.int .i64 0, .int .i64 0, .int .i64 0, .int .i64 0, .int .i64 0, .slice none 0 0] 131))
  have HQ := Lib.hid (Row.new1 w (.cells (pasA pp ps.length cp pf ms.length cf mb s) 83) #[.int .i64 0, .int .i64 0, .int .i64 0, .int .i64 0, .int .i64 0, .slice none 0 0] 131)
  have HL := Lib.hid hl
  have RW := Lib.hid ((Run.refl hB.d).below hE)
  clear hB hl hE
  go_enter Tryz.func65, Tryz.ntmps65
  go_wp2_with fail
  generalize (w.alloc (.cells (pasA pp ps.length cp pf ms.length cf mb s) 83)).alloc (.cells #[.int .i64 0, .int .i64 0, .int .i64 0, .int .i64 0, .int .i64 0, .slice none 0 0] 131) = W1 at *
  have hS : ∀ w', FromC mb (w.heap.size + 1) W1 w' → PasCells w.heap.size pp ps.length cp pf ms.length cf mb s w' := fun w' h => (h.row HR.out (by omega) (by omega)).pas
  have HS := Lib.hid hS
  have KI := Lib.hid (FromC.refl mb (w.heap.size + 1) W1)
  have RN := Lib.hid (Run.refl HB.out.d)
  clear hS
  go_region_held3 (fun w' => PasCells w.heap.size pp ps.length cp pf ms.length cf mb s w') (first | with_reducible exact HS.out _ KI.out | with_reducible exact HS.out _ KI.out.drew | with_reducible exact HS.out _ ((((((KI.out.set _ _).set _ _).set _ _).set _ _).set _ _).set _ _))
    (first
      | (go_at_call 87; (with_reducible refine (heat_any _ _ _ _ _ _ _ _ _ (by first | with_reducible exact (RN.out.bkd HB.out).b.p | with_reducible exact (RN.out.drew.bkd HB.out).b.p) HB.out.b.ok.p HB.out.b.n4 hs).mono ?_); rintro e u ⟨rfl, hbu⟩; have KI := Lib.hid (by first | with_reducible exact KI.out.drew.below hbu | with_reducible exact KI.out.below hbu); have RN := Lib.hid (by first | with_reducible exact RN.out.drew.below hbu | with_reducible exact RN.out.below hbu); clear hbu)
      | (go_at_call 31; (with_reducible refine (frames_dry _ _ _ _ _ _ _ hs _ _ _ (by first | with_reducible exact RN.out.bkd HB.out | with_reducible exact RN.out.drew.bkd HB.out) hn HL.out).mono ?_); rintro e u ⟨p, c, rfl, hi, hfp, hru⟩; have HFP := Lib.hid (fun b o e => Nat.le_trans RN.out.size (hfp b o e) : ∀ b o, p = some ⟨b, o, none⟩ → W1.heap.size ≤ b); clear hfp; have HI := Lib.hid hi; have KI := Lib.hid (by first | with_reducible exact KI.out.drew.run hru | with_reducible exact KI.out.run hru); have RN := Lib.hid (by first | with_reducible exact RN.out.drew.trans hru | with_reducible exact RN.out.trans hru); clear hi; have q := RN.out.row HB.out.d HQ.out; have t0 := q.cell 0 (v := .int .i64 0) rfl; have t1 := q.cell 1 (v := .int .i64 0) rfl; have t2 := q.cell 2 (v := .int .i64 0) rfl; have t3 := q.cell 3 (v := .int .i64 0) rfl; have t4 := q.cell 4 (v := .int .i64 0) rfl; have t5 := q.cell 5 (v := .slice none 0 0) rfl; have t6 := q.free 0; have t7 := q.free 1; have t8 := q.free 2; have t9 := q.free 3; have t10 := q.free 4; have t11 := q.free 5; clear q hru))
  all_goals
    clear t0 t1 t2 t3 t4 t5 t6 t7 t8 t9 t10 t11
    have hsz := HQ.out.lt
    have hne : w.heap.size + 1 ≠ mb := by omega
    rw [HG.out] at *
    have q0 := ((((((RN.out.row HB.out.d HQ.out).set 0 (.int .i64 (at0 s 0))).set 1 (.int .i64 (at0 s 1))).set 2 (.int .i64 (at0 s 2))).set 3 (.int .i64 (at0 s 3))).set 4 (.int .i64 (heatD ps s))).set 5 (.slice p (goodD ps (frsM ms) s).length c)
    have HI2 : IntsAt _ p (goodD ps (frsM ms) s) := (((((ints_set HI.out (b := w.heap.size + 1) (fun b o e => by have := HFP.out b o e; omega) 0 (.int .i64 (at0 s 0))) |> (ints_set · (b := w.heap.size + 1) (fun b o e => by have := HFP.out b o e; omega) 1 (.int .i64 (at0 s 1)))) |> (ints_set · (b := w.heap.size + 1) (fun b o e => by have := HFP.out b o e; omega) 2 (.int .i64 (at0 s 2)))) |> (ints_set · (b := w.heap.size + 1) (fun b o e => by have := HFP.out b o e; omega) 3 (.int .i64 (at0 s 3)))) |> (ints_set · (b := w.heap.size + 1) (fun b o e => by have := HFP.out b o e; omega) 4 (.int .i64 (heatD ps s)))) |> (ints_set · (b := w.heap.size + 1) (fun b o e => by have := HFP.out b o e; omega) 5 (.slice p (goodD ps (frsM ms) s).length c))
    have HRN := (RW.out.trans RN.out).mono (show n + 1 * ms.length ≤ n + 5 by omega)
    go_wp2_with fail
    exact bodyPost_ret (v := .agg (outA s (heatD ps s) p (goodD ps (frsM ms) s).length c)) (results_cell_row Tryz.results65 _ _ _ _ _ _ _ rfl q0 Tryz.underlying131 rfl (by kernel_rfl)) rfl
      ⟨_, _, rfl, HI2, fun b o e => by have := HFP.out b o e; omega, (((((HRN.set (by omega) hne _ _).set (by omega) hne _ _).set (by omega) hne _ _).set (by omega) hne _ _).set (by omega) hne _ _).set (by omega) hne _ _⟩
end Go.Proofs.YticfcdbfplfmlaaGreat.Tu
