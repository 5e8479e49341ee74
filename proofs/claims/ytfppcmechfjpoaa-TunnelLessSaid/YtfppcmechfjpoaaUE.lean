/- The walks of layer 3: is a frame dry in time; a book with its map; a passage. -/
import Derived.Test.YtfppcmechfjpoaaUD
namespace Go.Proofs.Ytfppcmechfjpoaa
open Go.RowKit Go.Maps
attribute [local go_sem] Oper.semAt_some

section
variable {P : Program} {ops : Array Oper} {rest : List Oper} {op : Oper} {a : Act} {w w' : World} {Q : Exit → Act → World → Prop}
theorem lookup_ok_op (hgd : op.guard = none) (ty : TypeId) (x y : Operand) (ho : op.op = .lookup ty x y true) (mb : Nat) (ks : Array Value) (hx : a.eval x = .map (some mb)) (hy : a.eval y = .agg ks) (v : Value)
    (hr : (Instr.lookup ty (.map (some mb)) (.agg ks) true).run P w = .ok v w) (h : wpList P ops Q rest (a.put op.dst v) w) : wpList P ops Q (op :: rest) a w :=
  wpList_plain hgd fun _ hK => by
    unfold Oper.wp execOp
    simp only [ho, hx, hy, Sem.run_bind, Sem.run_pure, hr, Result.andThen_ok]
    exact hK _ _ h
theorem mapUpdate_op (hgd : op.guard = none) (ty : TypeId) (m x y : Operand) (ho : op.op = .mapUpdate ty m x y) (vm vx vy : Value) (hm : a.eval m = vm) (hx : a.eval x = vx) (hy : a.eval y = vy)
    (hr : (Instr.mapUpdate ty vm vx vy).run P w = .ok () w') (h : wpList P ops Q rest (a.put op.dst undef) w') : wpList P ops Q (op :: rest) a w :=
  wpList_plain hgd fun _ hK => by
    unfold Oper.wp execOp
    simp only [ho, hm, hx, hy, Sem.run_bind, Sem.run_pure, hr, Result.andThen_ok]
    exact hK _ _ h
end
theorem dryI_at {ps : List Pt} {ms : List FrM} {s : List Int} {f : Nat} (hf : f < ms.length) : dryI ps (frsM ms) s f = decide (kindD ps s ms[f].f = 0) := by simp [dryI, frsM, hf]
/-- A map holds no cells. -/
theorem dried_ne {w : World} {mb n np : Nat} {F : List Int → Nat → Bool} (h : DriedAt w mb n np F) {b o : Nat} {v : Value} (hc : w.cell? ⟨b, o, none⟩ = some v) : b ≠ mb := by
  rintro rfl
  obtain ⟨D, ⟨es, clock, hb, _⟩, _⟩ := h
  unfold World.cell? at hc
  rw [hb] at hc
  simp at hc
theorem dried_row_ne {w : World} {mb n np : Nat} {F : List Int → Nat → Bool} (h : DriedAt w mb n np F) {b : Nat} {cs : Array Value} {t : TypeId} (hc : Row w b cs t) : b ≠ mb := by
  rintro rfl
  obtain ⟨D, ⟨es, clock, hb, _⟩, _⟩ := h
  unfold Row at hc
  rw [hb] at hc
  cases hc
/-- A valid book in memory, with its map. -/
structure BkD (w : World) (pp pf : Option Addr) (ps : List Pt) (ms : List FrM) (mb n : Nat) : Prop where
  b : Bk w pp pf ps ms
  d : DriedAt w mb n ps.length (dryI ps (frsM ms))
section
variable {w w' : World} {pp pf : Option Addr} {ps : List Pt} {ms : List FrM} {mb n : Nat}
theorem BkD.below (h : BkD w pp pf ps ms mb n) (hb : Below w.heap.size w w') : BkD w' pp pf ps ms mb n := ⟨h.b.below hb, h.d.below hb⟩
theorem BkD.drew (h : BkD w pp pf ps ms mb n) : BkD w.drew pp pf ps ms mb n := ⟨h.b.drew, h.d⟩
theorem BkD.mono (h : BkD w pp pf ps ms mb n) {n' : Nat} (hn : n ≤ n') : BkD w pp pf ps ms mb n' := ⟨h.b, h.d.mono hn⟩
theorem FromB.ints {b : Nat} (h : FromB b w w') {p : Option Addr} {xs : List Int} (hi : IntsAt w p xs) (hne : ∀ c o, p = some ⟨c, o, none⟩ → 0 < xs.length → c ≠ b) : IntsAt w' p xs := by
  intro i hl
  obtain ⟨c, o, hp, hc⟩ := hi i hl
  exact ⟨c, o, hp, h.cell hc (hne c o hp (by omega))⟩
theorem Bk.fromB (hB : Bk w pp pf ps ms) (h : FromB mb w w') {n np : Nat} {F : List Int → Nat → Bool} (hd : DriedAt w mb n np F) : Bk w' pp pf ps ms := by
  refine ⟨?_, ?_, hB.ok⟩
  · intro i hi
    obtain ⟨b, o, hp, h0, h1, h2, h3, h4, h5⟩ := hB.p i hi
    have hne := dried_ne hd h0
    exact ⟨b, o, hp, h.cell h0 hne, h.cell h1 hne, h.cell h2 hne, h.cell h3 hne, h.cell h4 hne, h.cell h5 hne⟩
  · intro i hi
    obtain ⟨b, o, hp, h0, h1, h2, h3⟩ := hB.f i hi
    have hne := dried_ne hd h0
    refine ⟨b, o, hp, h.cell h0 hne, h.cell h1 hne, h.cell h2 hne, h.ints h3 ?_⟩
    intro c o' e hl
    obtain ⟨c', o'', e2, hc⟩ := h3 0 hl
    rw [e] at e2
    cases e2
    exact dried_ne hd hc
end

theorem keeps_grown {w w' : World} {m : Nat} (hg : w.grownBy w' (some m)) (M : Nat → Prop) (hM : M m) : KeepsBut M w w' :=
  ⟨hg.os, hg.tape, hg.output, hg.size, fun k hk hn => hg.block k hk (fun e => hn (by cases e; exact hM))⟩
theorem dry_put {w : World} {pp pf : Option Addr} {ps : List Pt} {ms : List FrM} {mb n : Nat} (h : BkD w pp pf ps ms mb n) (hn : n < 1000000000) {s : List Int} (hl : s.length = ps.length) (hs : SetOk s) (f : Nat) (hf : f < ms.length) :
    ∃ w', (Instr.mapUpdate 76 (.map (some mb)) (.agg (runA f s)) (.bool (kindD ps s ms[f].f == 0))).run Try.prog w = .ok () w' ∧ BkD w' pp pf ps ms mb (n + 1) ∧ w.grownBy w' (some mb) := by
  have h5 := h.b.n5
  have h4 := h.b.n4
  obtain ⟨w', hrun, hD, hg⟩ := h.d.put (by unfold maxLen; omega) (i := f) (s := s) (fun t ht _ e0 e1 e2 e3 => by rw [set_ext (s := t) (t := s) (by omega) (by omega) e0 e1 e2 e3]) (by omega) hs
  rw [dryI_at hf] at hrun
  exact ⟨w', hrun, ⟨h.b.fromB ⟨keeps_grown hg _ rfl⟩ h.d, hD⟩, hg⟩

set_option maxRecDepth 10000 in
set_option maxHeartbeats 800000 in
theorem dry_any (pp : Option Addr) (cp : Nat) (pf : Option Addr) (cf mb n : Nat) (s : List Int) (ps : List Pt) (ms : List FrM) (w : World) (hB : BkD w pp pf ps ms mb n) (hn : n < 1000000000) (hl : s.length = ps.length) (hs : SetOk s) (f : Nat) (hf : f < ms.length) :
    Calls Try.prog 70 #[.agg (pasA pp ps.length cp pf ms.length cf mb s), .int .i64 f] w fun e w' => e = .returned (.bool (dryI ps (frsM ms) s f)) ∧ BkD w' pp pf ps ms mb (n + 1) ∧ FromB mb w w' := by
  have hf5 : f ≤ 5 := by have := hB.b.n5; omega
  have hE := below_alloc2 w (.cells (pasA pp ps.length cp pf ms.length cf mb s) 81) (.cells (runA f s) 123)
  have HD := Lib.hid (hB.below hE)
  have HB0 := Lib.hid hB
  have HR := Lib.hid ((Row.new w (pasA pp ps.length cp pf ms.length cf mb s) 81).alloc (.cells (runA f s) 123))
  have HQ := Lib.hid (Row.new1 w (.cells (pasA pp ps.length cp pf ms.length cf mb s) 81) (runA f s) 123)
  have HF := Lib.hid (show FromB mb w ((w.alloc (.cells (pasA pp ps.length cp pf ms.length cf mb s) 81)).alloc (.cells (runA f s) 123)) from (FromB.refl mb w).below hE)
  have HL := Lib.hid hl
  obtain ⟨found, hr⟩ := HD.out.d.look hf5 hl hs
  clear hB hE hl
  cases found
  · simp only [Bool.false_and] at hr
    have HLK := Lib.hid hr
    clear hr
    go_enter Try.func70, Try.ntmps70
    go_wp2_with (first | (refine lookup_ok_op rfl 76 _ _ rfl mb _ rfl rfl _ HLK.out ?_) | (go_at_call 68; (with_reducible refine (kind_any _ _ _ _ _ _ _ _ _ HD.out.b hs f hf).mono ?_); rintro e w1 ⟨rfl, hb1⟩; have HR := Lib.hid (HR.out.below hb1 HR.out.lt); have HQ := Lib.hid (HQ.out.below hb1 HQ.out.lt); have HD := Lib.hid (HD.out.below hb1); have HF := Lib.hid (HF.out.below hb1); clear hb1; have k2 := HR.out.cell 2 (v := .map (some mb)) rfl; have k3 := HQ.out.cell 0 (v := .int .i64 f) rfl; have k4 := HQ.out.cell 1 (v := .int .i64 (at0 s 0)) rfl; have k5 := HQ.out.cell 2 (v := .int .i64 (at0 s 1)) rfl; have k6 := HQ.out.cell 3 (v := .int .i64 (at0 s 2)) rfl; have k7 := HQ.out.cell 4 (v := .int .i64 (at0 s 3)) rfl; obtain ⟨w2, hput, hD2, hg⟩ := dry_put HD.out hn HL.out hs f hf; have HPUT := Lib.hid hput; have HD2 := Lib.hid hD2; have HG := Lib.hid hg; clear hput hD2 hg) | (refine mapUpdate_op rfl 76 _ _ _ rfl _ _ _ rfl rfl rfl HPUT.out ?_))
    go_ret
    exact ⟨ret_bool (by rw [dryI_at hf]; rfl), HD2.out, ⟨HF.out.k.trans (keeps_grown HG.out _ rfl)⟩⟩
  · simp only [Bool.true_and] at hr
    have HLK := Lib.hid hr
    clear hr
    generalize hv : dryI ps (frsM ms) s f = v at *
    have HV := Lib.hid hv
    clear hv
    go_enter Try.func70, Try.ntmps70
    go_wp2_with (first | (refine lookup_ok_op rfl 76 _ _ rfl mb _ rfl rfl _ HLK.out ?_))
    go_ret
    exact ⟨rfl, HD.out.mono (by omega), HF.out⟩
end Go.Proofs.Ytfppcmechfjpoaa
