/- The walks of layer 3: between what lies how dry a frame is; what becomes of it. -/
import Derived.Test.YtfppcmechfjpoaaUC
namespace Go.Proofs.Ytfppcmechfjpoaa
open Go.RowKit Go.Maps
attribute [local go_sem] Oper.semAt_some

/-- A valid book in memory. -/
structure Bk (w : World) (pp pf : Option Addr) (ps : List Pt) (ms : List FrM) : Prop where
  p : PtsAt w pp ps
  f : FrsAt w pf ms
  ok : BookOk ps (frsM ms)
section
variable {w w' : World} {pp pf : Option Addr} {ps : List Pt} {ms : List FrM}
theorem Bk.below (h : Bk w pp pf ps ms) (hb : Below w.heap.size w w') : Bk w' pp pf ps ms := ⟨h.p.below hb, h.f.below hb, h.ok⟩
theorem Bk.drew (h : Bk w pp pf ps ms) : Bk w.drew pp pf ps ms := ⟨h.p, h.f, h.ok⟩
theorem Bk.fr (h : Bk w pp pf ps ms) {f : Nat} (hf : f < ms.length) : FrOk ps.length ms[f].f := h.ok.f _ (by rw [frsM, List.mem_map]; exact ⟨ms[f], List.getElem_mem _, rfl⟩)
theorem From.bk (h : From w w') (hB : Bk w pp pf ps ms) : Bk w' pp pf ps ms := hB.below h.b
theorem Bk.n4 (h : Bk w pp pf ps ms) : ps.length ≤ 4 := h.ok.p4
theorem Bk.n5 (h : Bk w pp pf ps ms) : ms.length ≤ 5 := by have := h.ok.f5; rwa [frsM_length] at this
theorem dHi (hB : Bk w pp pf ps ms) (cp cf mb : Nat) {s : List Int} (hs : SetOk s) {f : Nat} (hf : f < ms.length) :
    Calls Try.prog 99 #[.agg (pasA pp ps.length cp pf ms.length cf mb s), .int .i64 f, .func (.func 109) #[] #[]] w fun e w' => e = .returned (.int .i64 (dryD Pt.hi ps s ms[f].f.stay)) ∧ Below w.heap.size w w' :=
  driesHi_any pp cp pf cf mb s ps ms w hB.p hB.f hB.ok.p hB.n4 hs f hf (hB.fr hf)
theorem dLo (hB : Bk w pp pf ps ms) (cp cf mb : Nat) {s : List Int} (hs : SetOk s) {f : Nat} (hf : f < ms.length) :
    Calls Try.prog 99 #[.agg (pasA pp ps.length cp pf ms.length cf mb s), .int .i64 f, .func (.func 111) #[] #[]] w fun e w' => e = .returned (.int .i64 (dryD Pt.lo ps s ms[f].f.stay)) ∧ Below w.heap.size w w' :=
  driesLo_any pp cp pf cf mb s ps ms w hB.p hB.f hB.ok.p hB.n4 hs f hf (hB.fr hf)
end
/-- The cells of a passage. -/
abbrev PasCells (b : Nat) (pp : Option Addr) (np cp : Nat) (pf : Option Addr) (nf cf mb : Nat) (s : List Int) (w' : World) : Prop :=
  w'.cell? ⟨b, 0, none⟩ = some (.slice pp np cp) ∧ w'.cell? ⟨b, 1, none⟩ = some (.slice pf nf cf) ∧ w'.cell? ⟨b, 2, none⟩ = some (.map (some mb)) ∧ w'.cell? ⟨b, 3, none⟩ = some (.int .i64 (at0 s 0)) ∧ w'.cell? ⟨b, 4, none⟩ = some (.int .i64 (at0 s 1)) ∧ w'.cell? ⟨b, 5, none⟩ = some (.int .i64 (at0 s 2)) ∧ w'.cell? ⟨b, 6, none⟩ = some (.int .i64 (at0 s 3))
theorem Row.pas {w : World} {b : Nat} {pp : Option Addr} {np cp : Nat} {pf : Option Addr} {nf cf mb : Nat} {s : List Int} {t : TypeId} (h : Row w b (pasA pp np cp pf nf cf mb s) t) : PasCells b pp np cp pf nf cf mb s w :=
  ⟨h.cell 0 rfl, h.cell 1 rfl, h.cell 2 rfl, h.cell 3 rfl, h.cell 4 rfl, h.cell 5 rfl, h.cell 6 rfl⟩

set_option maxRecDepth 10000 in
set_option maxHeartbeats 800000 in
theorem dryness_any (pp : Option Addr) (cp : Nat) (pf : Option Addr) (cf mb : Nat) (s : List Int) (ps : List Pt) (ms : List FrM) (w : World) (hB : Bk w pp pf ps ms) (hs : SetOk s) (f : Nat) (hf : f < ms.length) :
    Calls Try.prog 65 #[.agg (pasA pp ps.length cp pf ms.length cf mb s), .int .i64 f] w fun e w' => e = .returned (.agg #[.int .i64 (dryD Pt.hi ps s ms[f].f.stay), .int .i64 (dryD Pt.lo ps s ms[f].f.stay)]) ∧ Below w.heap.size w w' := by
  have HBK := Lib.hid hB
  clear hB
  unfold pasA
  go_enter Try.func65, Try.ntmps65
  go_wp2_with (first | (refine (ends_any _).mono ?_; rintro e w1 ⟨rfl, hb1⟩) | (refine store_new rfl 119 _ _ rfl endsA #[.nilFunc, .nilFunc, .int .i64 0, .nilFunc, .nilFunc, .int .i64 0] 119 rfl rfl (by kernel_rfl) rfl (by simp [endsA, Value.oneCell']) ?_))
  have hz1 := hb1.size
  simp at hz1
  have hE : From w1 (w1.alloc (.cells endsA 119)) := ⟨below_alloc _ _⟩
  have HE := Lib.hid (Row.new w1 endsA 119)
  have hbb := (below_alloc2 w (.cells (pasA pp ps.length cp pf ms.length cf mb s) 81) (.cells #[.int .i64 0, .int .i64 0] 32)).trans (hb1.mono (by simp; omega))
  have HR := Lib.hid (hE.row (((Row.new w (pasA pp ps.length cp pf ms.length cf mb s) 81).alloc (.cells #[.int .i64 0, .int .i64 0] 32)).below hb1 (by simp; omega)))
  have HQ := Lib.hid (hE.row ((Row.new1 w (.cells (pasA pp ps.length cp pf ms.length cf mb s) 81) #[.int .i64 0, .int .i64 0] 32).below hb1 (by simp)))
  have HB := Lib.hid (hbb.trans (hE.b.mono (by omega)))
  generalize w1.alloc (.cells endsA 119) = W1 at *
  have hS : ∀ w', FromB (w.heap.size + 1) W1 w' → (PasCells w.heap.size pp ps.length cp pf ms.length cf mb s w' ∧ w'.cell? ⟨w1.heap.size, 0, none⟩ = some (.func (.func 109) #[] #[]) ∧ w'.cell? ⟨w1.heap.size, 3, none⟩ = some (.func (.func 111) #[] #[])) :=
    fun w' h => ⟨(h.row HR.out (by omega)).pas, (h.row HE.out (by omega)).cell 0 rfl, (h.row HE.out (by omega)).cell 3 rfl⟩
  have HS := Lib.hid hS
  have HBW := Lib.hid (HBK.out.below HB.out)
  have KI := Lib.hid (From.refl W1)
  have KB := Lib.hid (FromB.refl (w.heap.size + 1) W1)
  have t0 := HQ.out.cell 0 (v := .int .i64 0) rfl
  have t1 := HQ.out.cell 1 (v := .int .i64 0) rfl
  have t2 := HQ.out.free 0
  have t3 := HQ.out.free 1
  clear hS hb1 hbb hE
  go_region_held3 (fun w' => PasCells w.heap.size pp ps.length cp pf ms.length cf mb s w' ∧ w'.cell? ⟨w1.heap.size, 0, none⟩ = some (.func (.func 109) #[] #[]) ∧ w'.cell? ⟨w1.heap.size, 3, none⟩ = some (.func (.func 111) #[] #[])) (first | with_reducible exact HS.out _ KB.out | with_reducible exact HS.out _ KB.out.drew | with_reducible exact HS.out _ ((KB.out.set _ _).set _ _))
    ((go_at_call 99; first
      | ((with_reducible refine (dHi (by first | with_reducible exact KI.out.bk HBW.out | with_reducible exact KI.out.drew.bk HBW.out) cp cf mb hs hf).mono ?_); rintro e u ⟨rfl, hbu⟩; have KI := Lib.hid (by first | with_reducible exact KI.out.drew.below hbu | with_reducible exact KI.out.below hbu); have KB := Lib.hid (by first | with_reducible exact KB.out.drew.below hbu | with_reducible exact KB.out.below hbu); clear t0 t1 t2 t3; have t0 := (KI.out.row HQ.out).cell 0 (v := .int .i64 0) rfl; have t1 := (KI.out.row HQ.out).cell 1 (v := .int .i64 0) rfl; have t2 := (KI.out.row HQ.out).free 0; have t3 := (KI.out.row HQ.out).free 1; clear hbu)
      | ((with_reducible refine (dLo (by first | with_reducible exact KI.out.bk HBW.out | with_reducible exact KI.out.drew.bk HBW.out) cp cf mb hs hf).mono ?_); rintro e u ⟨rfl, hbu⟩; have KI := Lib.hid (by first | with_reducible exact KI.out.drew.below hbu | with_reducible exact KI.out.below hbu); have KB := Lib.hid (by first | with_reducible exact KB.out.drew.below hbu | with_reducible exact KB.out.below hbu); clear t0 t1 t2 t3; have t0 := (KI.out.row HQ.out).cell 0 (v := .int .i64 0) rfl; have t1 := (KI.out.row HQ.out).cell 1 (v := .int .i64 0) rfl; have t2 := (KI.out.row HQ.out).free 0; have t3 := (KI.out.row HQ.out).free 1; clear hbu)))
  all_goals
    have q0 := ((KI.out.row HQ.out).set 0 (.int .i64 (dryD Pt.hi ps s ms[f].f.stay))).set 1 (.int .i64 (dryD Pt.lo ps s ms[f].f.stay))
    go_wp2_with fail
    exact bodyPost_ret (v := .agg #[.int .i64 (dryD Pt.hi ps s ms[f].f.stay), .int .i64 (dryD Pt.lo ps s ms[f].f.stay)]) (results_cell_row Try.results65 _ _ _ _ _ _ _ rfl q0 Try.underlying32 rfl (by kernel_rfl)) rfl
      ⟨rfl, ((HB.out.trans (KI.out.b.mono HB.out.size)).setCell (by dsimp only; omega) _).setCell (by dsimp only; omega) _⟩

def wetB (ps : List Pt) (s : List Int) (f : Fr) : Bool := decide (dryD Pt.hi ps s f.stay < f.lo)
def dryB (ps : List Pt) (s : List Int) (f : Fr) : Bool := decide (f.hi < dryD Pt.lo ps s f.stay)
def wetN (ps : List Pt) (s : List Int) (f : Fr) : Int := if wetB ps s f then 1 else 0
theorem wetN_range (ps : List Pt) (s : List Int) (f : Fr) : 0 ≤ wetN ps s f ∧ wetN ps s f ≤ 1 := by unfold wetN; split <;> omega
theorem kindD_eq (ps : List Pt) (s : List Int) (f : Fr) : kindD ps s f = wetN ps s f + (if dryB ps s f then 2 else 0) := by
  simp [kindD, wetN, wetB, dryB]
theorem wetR {ps : List Pt} {s : List Int} {m : FrM} {b : Bool} (h : wetB ps s m.f = b) (w : World) : Calls Try.prog 110 #[.agg #[.slice m.p m.f.stay.length m.c, .int .i64 m.f.lo, .int .i64 m.f.hi], .int .i64 (dryD Pt.hi ps s m.f.stay)] w fun e w' => e = .returned (.bool b) ∧ Below w.heap.size w w' := by
  subst h
  exact wet_any m _ w
theorem dryR {ps : List Pt} {s : List Int} {m : FrM} {b : Bool} (h : dryB ps s m.f = b) (w : World) : Calls Try.prog 112 #[.agg #[.slice m.p m.f.stay.length m.c, .int .i64 m.f.lo, .int .i64 m.f.hi], .int .i64 (dryD Pt.lo ps s m.f.stay)] w fun e w' => e = .returned (.bool b) ∧ Below w.heap.size w w' := by
  subst h
  exact dryF_any m _ w
theorem endAt0 (w : World) : (Instr.index 119 (.agg endsA) (.int .i64 0)).run Try.prog w = .ok (.agg #[.func (.func 109) #[] #[], .func (.func 110) #[] #[], .int .i64 1]) w := by
  simp [Instr.index, go_sem, endsA]
theorem endAt1 (w : World) : (Instr.index 119 (.agg endsA) (.int .i64 1)).run Try.prog w = .ok (.agg #[.func (.func 111) #[] #[], .func (.func 112) #[] #[], .int .i64 2]) w := by
  simp [Instr.index, go_sem, endsA]

set_option maxRecDepth 10000 in
set_option maxHeartbeats 800000 in
theorem kind_any (pp : Option Addr) (cp : Nat) (pf : Option Addr) (cf mb : Nat) (s : List Int) (ps : List Pt) (ms : List FrM) (w : World) (hB : Bk w pp pf ps ms) (hs : SetOk s) (f : Nat) (hf : f < ms.length) :
    Calls Try.prog 68 #[.agg (pasA pp ps.length cp pf ms.length cf mb s), .int .i64 f] w fun e w' => e = .returned (.int .i64 (kindD ps s ms[f].f)) ∧ Below w.heap.size w w' := by
  have HBK := Lib.hid hB
  clear hB
  unfold pasA
  go_enter Try.func68, Try.ntmps68
  go_wp2_with (first | (refine (ends_any _).mono ?_; rintro e w1 ⟨rfl, hb1⟩))
  have hz1 := hb1.size
  simp at hz1
  have hB := (below_alloc w (.cells (pasA pp ps.length cp pf ms.length cf mb s) 81)).trans (hb1.mono (by simp))
  have hR := (Row.new w (pasA pp ps.length cp pf ms.length cf mb s) 81).below hb1 (by simp)
  clear hb1
  go_loopw [5, 9] (fun kk i wr => ((i = .int .i64 0 ∧ kk = .int .i64 0) ∨ (i = .int .i64 1 ∧ kk = .int .i64 (wetN ps s ms[f].f)) ∨ (i = .int .i64 2 ∧ kk = .int .i64 (kindD ps s ms[f].f))) ∧ Row wr w.heap.size (pasA pp ps.length cp pf ms.length cf mb s) 81 ∧ Below w.heap.size w wr) (fun _ i _ => 2 - (intOf i).toNat)
  case atStart => exact ⟨.inl ⟨rfl, rfl⟩, hR, hB⟩
  case round =>
    obtain ⟨hi, r0, hb⟩ := hrel
    clear hR hB
    have hwr := wetN_range ps s ms[f].f
    rcases hi with ⟨rfl, rfl⟩ | ⟨rfl, rfl⟩ | ⟨rfl, rfl⟩
    · have HR := Lib.hid r0
      have HB := Lib.hid hb
      have hlt := r0.lt
      clear r0 hb
      obtain ⟨bf, of, rfl, g0, g1, g2, _⟩ := (HBK.out.below HB.out).f f hf
      go_wp2_with (first | (refine index_op rfl 119 _ _ rfl _ _ rfl rfl _ (endAt0 _) ?_) | (refine store_new rfl 118 _ _ rfl #[.func (.func 109) #[] #[], .func (.func 110) #[] #[], .int .i64 1] #[.nilFunc, .nilFunc, .int .i64 0] 118 rfl rfl (by kernel_rfl) rfl (by simp [Value.oneCell']) ?_))
      have hE : From wr (wr.alloc (.cells #[.func (.func 109) #[] #[], .func (.func 110) #[] #[], .int .i64 1] 118)) := ⟨below_alloc _ _⟩
      have HE := Lib.hid (Row.new wr #[.func (.func 109) #[] #[], .func (.func 110) #[] #[], .int .i64 1] 118)
      have HR := Lib.hid (hE.row HR.out)
      have HB := Lib.hid (HB.out.trans (hE.b.mono HB.out.size))
      have q0 := hE.cell g0
      have q1 := hE.cell g1
      have q2 := hE.cell g2
      generalize wr.alloc (.cells #[.func (.func 109) #[] #[], .func (.func 110) #[] #[], .int .i64 1] 118) = W1 at *
      have hS : ∀ w', From W1 w' → (PasCells w.heap.size pp ps.length cp (some ⟨bf, of, none⟩) ms.length cf mb s w' ∧ w'.cell? ⟨wr.heap.size, 0, none⟩ = some (.func (.func 109) #[] #[]) ∧ w'.cell? ⟨wr.heap.size, 1, none⟩ = some (.func (.func 110) #[] #[]) ∧ w'.cell? ⟨bf, of + f * 3, none⟩ = some (.slice ms[f].p ms[f].f.stay.length ms[f].c) ∧ w'.cell? ⟨bf, of + f * 3 + 1, none⟩ = some (.int .i64 ms[f].f.lo) ∧ w'.cell? ⟨bf, of + f * 3 + 2, none⟩ = some (.int .i64 ms[f].f.hi)) :=
        fun w' h => ⟨(h.row HR.out).pas, (h.row HE.out).cell 0 rfl, (h.row HE.out).cell 1 rfl, h.cell q0, h.cell q1, h.cell q2⟩
      have HS := Lib.hid hS
      have HBW := Lib.hid (HBK.out.below HB.out)
      have KI := Lib.hid (From.refl W1)
      have i1 : (0 : Int) ≤ (f : Int) := by omega
      have i2 : (f : Int) < (ms.length : Int) := by omega
      clear hS hE q0 q1 q2 g0 g1 g2
      cases hw : wetB ps s ms[f].f
      all_goals
        have HW := Lib.hid hw
        clear hw
        go_region_held3 (fun w' => PasCells w.heap.size pp ps.length cp (some ⟨bf, of, none⟩) ms.length cf mb s w' ∧ w'.cell? ⟨wr.heap.size, 0, none⟩ = some (.func (.func 109) #[] #[]) ∧ w'.cell? ⟨wr.heap.size, 1, none⟩ = some (.func (.func 110) #[] #[]) ∧ w'.cell? ⟨bf, of + f * 3, none⟩ = some (.slice ms[f].p ms[f].f.stay.length ms[f].c) ∧ w'.cell? ⟨bf, of + f * 3 + 1, none⟩ = some (.int .i64 ms[f].f.lo) ∧ w'.cell? ⟨bf, of + f * 3 + 2, none⟩ = some (.int .i64 ms[f].f.hi)) (first | with_reducible exact HS.out _ KI.out | with_reducible exact HS.out _ KI.out.drew)
          (first
            | (go_at_call 99; (with_reducible refine (dHi (by first | with_reducible exact KI.out.bk HBW.out | with_reducible exact KI.out.drew.bk HBW.out) cp cf mb hs hf).mono ?_); rintro e u ⟨rfl, hbu⟩; have KI := Lib.hid (by first | with_reducible exact KI.out.drew.below hbu | with_reducible exact KI.out.below hbu); clear hbu)
            | (go_at_call 110; (with_reducible refine (wetR HW.out _).mono ?_); rintro e u ⟨rfl, hbu⟩; have KI := Lib.hid (by first | with_reducible exact KI.out.drew.below hbu | with_reducible exact KI.out.below hbu); clear hbu))
        all_goals
          have k2 := (KI.out.row HE.out).cell 2 (v := .int .i64 1) rfl
          go_wp2_with fail
          go_roundw
          case rel => exact ⟨.inr (.inl ⟨rfl, by rw [wetN, HW.out]; rfl⟩), KI.out.row HR.out, HB.out.trans (KI.out.b.mono HB.out.size)⟩
          case measure => simp [intOf]
    · have HR := Lib.hid r0
      have HB := Lib.hid hb
      have hlt := r0.lt
      clear r0 hb
      obtain ⟨bf, of, rfl, g0, g1, g2, _⟩ := (HBK.out.below HB.out).f f hf
      go_wp2_with (first | (refine index_op rfl 119 _ _ rfl _ _ rfl rfl _ (endAt1 _) ?_) | (refine store_new rfl 118 _ _ rfl #[.func (.func 111) #[] #[], .func (.func 112) #[] #[], .int .i64 2] #[.nilFunc, .nilFunc, .int .i64 0] 118 rfl rfl (by kernel_rfl) rfl (by simp [Value.oneCell']) ?_))
      have hE : From wr (wr.alloc (.cells #[.func (.func 111) #[] #[], .func (.func 112) #[] #[], .int .i64 2] 118)) := ⟨below_alloc _ _⟩
      have HE := Lib.hid (Row.new wr #[.func (.func 111) #[] #[], .func (.func 112) #[] #[], .int .i64 2] 118)
      have HR := Lib.hid (hE.row HR.out)
      have HB := Lib.hid (HB.out.trans (hE.b.mono HB.out.size))
      have q0 := hE.cell g0
      have q1 := hE.cell g1
      have q2 := hE.cell g2
      generalize wr.alloc (.cells #[.func (.func 111) #[] #[], .func (.func 112) #[] #[], .int .i64 2] 118) = W1 at *
      have hS : ∀ w', From W1 w' → (PasCells w.heap.size pp ps.length cp (some ⟨bf, of, none⟩) ms.length cf mb s w' ∧ w'.cell? ⟨wr.heap.size, 0, none⟩ = some (.func (.func 111) #[] #[]) ∧ w'.cell? ⟨wr.heap.size, 1, none⟩ = some (.func (.func 112) #[] #[]) ∧ w'.cell? ⟨bf, of + f * 3, none⟩ = some (.slice ms[f].p ms[f].f.stay.length ms[f].c) ∧ w'.cell? ⟨bf, of + f * 3 + 1, none⟩ = some (.int .i64 ms[f].f.lo) ∧ w'.cell? ⟨bf, of + f * 3 + 2, none⟩ = some (.int .i64 ms[f].f.hi)) :=
        fun w' h => ⟨(h.row HR.out).pas, (h.row HE.out).cell 0 rfl, (h.row HE.out).cell 1 rfl, h.cell q0, h.cell q1, h.cell q2⟩
      have HS := Lib.hid hS
      have HBW := Lib.hid (HBK.out.below HB.out)
      have KI := Lib.hid (From.refl W1)
      have i1 : (0 : Int) ≤ (f : Int) := by omega
      have i2 : (f : Int) < (ms.length : Int) := by omega
      clear hS hE q0 q1 q2 g0 g1 g2
      cases hw : dryB ps s ms[f].f
      all_goals
        have HW := Lib.hid hw
        clear hw
        go_region_held3 (fun w' => PasCells w.heap.size pp ps.length cp (some ⟨bf, of, none⟩) ms.length cf mb s w' ∧ w'.cell? ⟨wr.heap.size, 0, none⟩ = some (.func (.func 111) #[] #[]) ∧ w'.cell? ⟨wr.heap.size, 1, none⟩ = some (.func (.func 112) #[] #[]) ∧ w'.cell? ⟨bf, of + f * 3, none⟩ = some (.slice ms[f].p ms[f].f.stay.length ms[f].c) ∧ w'.cell? ⟨bf, of + f * 3 + 1, none⟩ = some (.int .i64 ms[f].f.lo) ∧ w'.cell? ⟨bf, of + f * 3 + 2, none⟩ = some (.int .i64 ms[f].f.hi)) (first | with_reducible exact HS.out _ KI.out | with_reducible exact HS.out _ KI.out.drew)
          (first
            | (go_at_call 99; (with_reducible refine (dLo (by first | with_reducible exact KI.out.bk HBW.out | with_reducible exact KI.out.drew.bk HBW.out) cp cf mb hs hf).mono ?_); rintro e u ⟨rfl, hbu⟩; have KI := Lib.hid (by first | with_reducible exact KI.out.drew.below hbu | with_reducible exact KI.out.below hbu); clear hbu)
            | (go_at_call 112; (with_reducible refine (dryR HW.out _).mono ?_); rintro e u ⟨rfl, hbu⟩; have KI := Lib.hid (by first | with_reducible exact KI.out.drew.below hbu | with_reducible exact KI.out.below hbu); clear hbu))
        all_goals
          have k2 := (KI.out.row HE.out).cell 2 (v := .int .i64 2) rfl
          go_wp2_with fail
          go_roundw
          case rel => exact ⟨.inr (.inr ⟨rfl, by rw [kindD_eq, HW.out]; simp⟩), KI.out.row HR.out, HB.out.trans (KI.out.b.mono HB.out.size)⟩
          case measure => simp [intOf]
    · go_wp2
      go_ret
      exact ⟨rfl, hb⟩
end Go.Proofs.Ytfppcmechfjpoaa
