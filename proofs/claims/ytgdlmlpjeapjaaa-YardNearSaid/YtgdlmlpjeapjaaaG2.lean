/- A range over a function whose rounds make memory that stays: what a round keeps may speak of blocks that earlier rounds made; the iterator's own blocks are a window of so many numbers. -/
import Derived.Test.YtgdlmlpjeapjaaaG
namespace Go.Proofs.Ytgdlmlpjeapjaaa
open Go.RowKit

/-- Of a window of blocks nothing is said. -/
def StableW (n K : Nat) (J : World → Prop) : Prop := ∀ A B, J A → KeepsBut (fun m => n ≤ m ∧ m < n + K) A B → J B
/-- AN ITERATOR's CONTRACT, with a window of its own. -/
def IterW (P : Program) (K : Nat) (gf : FuncId) (lb : Array Value) (reads : Nat → Prop) (xs : List (Array Value)) (W : World) : Prop :=
  ∀ (l : Nat) (M : Nat → Prop) (J : Nat → World → Prop) (Jx : World → Prop),
    (∀ m, M m → m < W.heap.size ∧ ¬ reads m) → (∀ k, StableW W.heap.size K (J k)) → StableW W.heap.size K Jx →
    (∀ k x A, xs[k]? = some x → J k A → KeepsBut M W A → W.heap.size + K ≤ A.heap.size → YieldAt Fence.wide 0 P l x A fun e B =>
      KeepsBut M A B ∧ ((e = .returned (.bool true) ∧ J (k + 1) B) ∨ (e = .returned (.bool false) ∧ Jx B))) →
    J 0 W → Calls P gf (#[.func (.yield l) #[] #[]] ++ lb) W fun e B => (∃ v, e = .returned v) ∧ KeepsBut M W B ∧ (J xs.length B ∨ Jx B)

theorem range_lawW {P : Program} {KW : Nat} {g : Operand} {ps : Array Tmp} {assign body : Code} {Q : Exit → Act → World → Prop} {a : Act} {w : World}
    (gf : Nat) (lb : Array Value) (reads : Nat → Prop) (xs : List (Array Value))
    (hg : a.eval g = .func (.func gf) #[] lb) (eg : ∀ args w, (callFunc gf args).run P w = .ok (.enter gf args) w)
    (hit : ∀ W1, Below w.heap.size w W1 → W1.heap.size = w.heap.size + 2 → IterW P KW gf lb reads xs W1)
    (hps : ∀ x ∈ xs, x.size = ps.size) (M : Nat → Prop) (hM : ∀ m, M m → m < w.heap.size ∧ ¬ reads m) (hrl : ¬ reads (w.heap.size + 1))
    (I : Nat → World → Prop) (Ix : Code → World → Prop) (hI : ∀ k, StableW w.heap.size (2 + KW) (I k)) (hIx : ∀ c, StableW w.heap.size (2 + KW) (Ix c)) (h0 : I 0 w)
    (hbody : ∀ (l k : Nat) (x : Array Value) (A : World), l = w.heap.size + 1 → xs[k]? = some x → I k A → KeepsBut M w A → w.heap.size + 2 + KW ≤ A.heap.size →
      assign.wpIn (Fence.wide.inRound l) 0 P (Exit.then (fun a1 A1 => KeepsBut M A A1 ∧ ∀ o, body.wpIn (Fence.wide.inRound l) 0 P (roundQ M (I (k + 1)) Ix (A1.putObj l o)) a1 (A1.putObj l o)) (fun _ _ _ => False))
        { tmps := (ps.zip x).foldl (fun t (p, v) => t.setIfInBounds p v) a.tmps, defers := [] } A)
    (hdone : ∀ B, I xs.length B → KeepsBut M w B → w.heap.size + 2 ≤ B.heap.size → B.heap[w.heap.size]? = some (.deferred (some [])) → Q .normal { a with defers := { target := .collected w.heap.size, args := #[] } :: a.defers } B)
    (hstop : ∀ c B, Ix c B → KeepsBut M w B → w.heap.size + 2 ≤ B.heap.size → B.heap[w.heap.size]? = some (.deferred (some [])) → c.wp P Q { a with defers := { target := .collected w.heap.size, args := #[] } :: a.defers } B) :
    (Code.rangeFunc g ps assign body).wp P Q a w := by
  refine wpIn_wide.1 (wpIn_rangeFunc (F := Fence.wide) (n := 0) ?_)
  intro fn _
  obtain ⟨rec, hrec⟩ : ∃ rec : LoopState → Option Code → Loop, rec = fun st pe => { state := st, pending := pe, fn, tmps := a.tmps, params := ps, assign, body, defers := w.heap.size } := ⟨_, rfl⟩
  obtain ⟨W1, hW1⟩ : ∃ W1, (w.alloc (.deferred (some []))).alloc (.loop (rec .ready none)) = W1 := ⟨_, rfl⟩
  have hL1 : W1.heap[w.heap.size + 1]? = some (.loop (rec .ready none)) := by
    rw [← hW1]; have := World.alloc_heap_new (w.alloc (.deferred (some []))) (.loop (rec .ready none)); rwa [World.size_alloc] at this
  have hK1 : W1.heap[w.heap.size]? = some (.deferred (some [])) := by
    rw [← hW1]; exact (Below.heap_alloc _ _ _ (by simp)).trans (World.alloc_heap_new w _)
  have hb1 : Below w.heap.size w W1 := by rw [← hW1]; exact (below_alloc _ _).alloc (by simp) _
  have hs1 : W1.heap.size = w.heap.size + 2 := by rw [← hW1]; simp
  refine ⟨w.heap.size + 1, [{ target := .collected w.heap.size, args := #[] }], W1, { target := .fn (.func gf) lb, args := #[.func (.yield (w.heap.size + 1)) #[] #[]] }, W1, gf,
    #[.func (.yield (w.heap.size + 1)) #[] #[]] ++ lb, W1, ?_, ?_, ?_, ?_, fun h => by simp [Fence.wide] at h, ?_⟩
  · rw [← hW1, hrec]; exact run_enterLoop_outer _ _ _ _ _
  · simp only [resolve, hg]; simp [go_sem]
  · intro f' _; trivial
  · simp [invoke, go_sem, eg]
  · refine callsIn_wide.2 ((hit W1 hb1 hs1 (w.heap.size + 1) (fun m => M m ∨ m = w.heap.size + 1)
      (fun k A => I k A ∧ A.heap[w.heap.size + 1]? = some (.loop (rec .ready none)) ∧ A.heap[w.heap.size]? = some (.deferred (some [])))
      (fun A => ∃ c, Ix c A ∧ A.heap[w.heap.size + 1]? = some (.loop (rec .done (some c))) ∧ A.heap[w.heap.size]? = some (.deferred (some [])))
      ?_ ?_ ?_ ?_ ⟨hI 0 _ _ h0 (.of_below hb1), hL1, hK1⟩).mono ?_)
    · rintro m (hm | rfl)
      · exact ⟨by have := (hM m hm).1; omega, (hM m hm).2⟩
      · exact ⟨by omega, hrl⟩
    · rintro k A B ⟨h1, h2, h3⟩ hb
      exact ⟨hI k A B h1 (hb.mono (fun m _ hm => by omega)), by rw [hb.block _ (Array.getElem?_eq_some_iff.1 h2).1 (by omega)]; exact h2, by rw [hb.block _ (Array.getElem?_eq_some_iff.1 h3).1 (by omega)]; exact h3⟩
    · rintro A B ⟨c, h1, h2, h3⟩ hb
      exact ⟨c, hIx c A B h1 (hb.mono (fun m _ hm => by omega)), by rw [hb.block _ (Array.getElem?_eq_some_iff.1 h2).1 (by omega)]; exact h2, by rw [hb.block _ (Array.getElem?_eq_some_iff.1 h3).1 (by omega)]; exact h3⟩
    · rintro k x A hx ⟨hi, hl, hk⟩ hkeep hszA
      have hwA : KeepsBut M w A := by
        refine ⟨hkeep.os.trans hb1.os, hkeep.tape.trans hb1.tape, hkeep.output.trans hb1.output, Nat.le_trans hb1.size hkeep.size, fun j hj hm => ?_⟩
        rw [hkeep.block j (by omega) (by rintro (h | h); exact hm h; omega), hb1.block j hj]
      have hlA : w.heap.size + 1 < A.heap.size := (Array.getElem?_eq_some_iff.1 hl).1
      have hy := run_yield (P := P) (args := x) hl (by rw [hrec]; exact hps x (List.mem_of_getElem? hx))
      rw [hrec] at hy
      refine ⟨fn, _, assign, body, hy, roundIn_of_wpIn trivial (wpIn_mono (hbody _ k x A rfl hx hi hwA (by omega)) ?_)⟩
      rintro e a1 A1 hp
      cases e with
      | normal =>
        obtain ⟨hk1, hb⟩ := hp
        have hl1 : A1.heap[w.heap.size + 1]? = some (.loop (rec .ready none)) := by rw [hk1.block _ hlA (fun h => by have := (hM _ h).1; omega)]; exact hl
        have hd1 : A1.heap[w.heap.size]? = some (.deferred (some [])) := by rw [hk1.block _ (by omega) (fun h => by have := (hM _ h).1; omega)]; exact hk
        have hl1' := (Array.getElem?_eq_some_iff.1 hl1).1
        refine ⟨_, run_beginRound hl1 (by rw [hrec]), wpIn_mono (hb _) ?_⟩
        generalize hA2 : A1.putObj (w.heap.size + 1) (.loop { rec .ready none with state := .busy }) = A2
        have hl2 : A2.heap[w.heap.size + 1]? = some (.loop { rec .ready none with state := .busy }) := by rw [← hA2]; exact World.putObj_heap_same hl1'
        have hd2 : A2.heap[w.heap.size]? = some (.deferred (some [])) := by rw [← hA2, World.putObj_heap_other (by omega)]; exact hd1
        have h12 : KeepsBut (fun m => M m ∨ m = w.heap.size + 1) A A2 := by
          rw [← hA2]; exact (hk1.mono (fun _ _ h => .inl h)).putObj (.inl (.inr rfl)) _
        have fin : ∀ (jump : Option Code) (B : World), KeepsBut M A2 B →
            (Instr.endRound (w.heap.size + 1) jump).run P B = .ok (.bool jump.isNone) (B.putObj (w.heap.size + 1) (.loop (rec (if jump.isNone then .ready else .done) jump))) ∧
            KeepsBut (fun m => w.heap.size ≤ m ∧ m < w.heap.size + (2 + KW)) B (B.putObj (w.heap.size + 1) (.loop (rec (if jump.isNone then .ready else .done) jump))) ∧
            KeepsBut (fun m => M m ∨ m = w.heap.size + 1) A (B.putObj (w.heap.size + 1) (.loop (rec (if jump.isNone then .ready else .done) jump))) ∧
            (B.putObj (w.heap.size + 1) (.loop (rec (if jump.isNone then .ready else .done) jump))).heap[w.heap.size + 1]? = some (.loop (rec (if jump.isNone then .ready else .done) jump)) ∧
            (B.putObj (w.heap.size + 1) (.loop (rec (if jump.isNone then .ready else .done) jump))).heap[w.heap.size]? = some (.deferred (some [])) := fun jump B hkB => by
          have hs2 := (Array.getElem?_eq_some_iff.1 hl2).1
          have hl3 : B.heap[w.heap.size + 1]? = some (.loop { rec .ready none with state := .busy }) := by rw [hkB.block _ hs2 (fun h => by have := (hM _ h).1; omega)]; exact hl2
          have hd3 : B.heap[w.heap.size]? = some (.deferred (some [])) := by rw [hkB.block _ (by omega) (fun h => by have := (hM _ h).1; omega)]; exact hd2
          have hr := run_endRound (P := P) jump hl3
          rw [hrec] at hr ⊢
          exact ⟨hr, (KeepsBut.refl _ _).putObj (.inl ⟨by omega, by omega⟩) _, (h12.trans (hkB.mono (fun _ _ h => .inl h))).putObj (.inl (.inr rfl)) _, World.putObj_heap_same (Array.getElem?_eq_some_iff.1 hl3).1, (World.putObj_heap_other (by omega)).trans hd3⟩
        rintro e a3 B hq
        cases e with
        | normal =>
          obtain ⟨hkB, hiB⟩ := hq
          obtain ⟨h1, h2, h3, h4, h5⟩ := fin none B hkB
          exact ⟨_, _, h1, h3, .inl ⟨rfl, hI _ _ _ hiB h2, h4, h5⟩⟩
        | ret =>
          obtain ⟨hkB, hiB⟩ := hq
          obtain ⟨h1, h2, h3, h4, h5⟩ := fin (some .ret) B hkB
          exact ⟨_, _, h1, h3, .inr ⟨rfl, .ret, hIx _ _ _ hiB h2, h4, h5⟩⟩
        | exit id =>
          obtain ⟨hkB, hiB⟩ := hq
          obtain ⟨h1, h2, h3, h4, h5⟩ := fin (some (.exit id)) B hkB
          exact ⟨_, _, h1, h3, .inr ⟨rfl, .exit id, hIx _ _ _ hiB h2, h4, h5⟩⟩
        | goto t =>
          obtain ⟨hkB, hiB⟩ := hq
          obtain ⟨h1, h2, h3, h4, h5⟩ := fin (some (.goto t)) B hkB
          exact ⟨_, _, h1, h3, .inr ⟨rfl, .goto t, hIx _ _ _ hiB h2, h4, h5⟩⟩
        | panic ch => exact hq.elim
        | outgrown => exact hq.elim
      | ret => exact hp.elim
      | exit id => exact hp.elim
      | goto t => exact hp.elim
      | panic ch => exact hp.elim
      | outgrown => exact hp.elim
    · rintro e B ⟨⟨v, rfl⟩, hkeep, hJ⟩
      have hwB : KeepsBut M w B := by
        refine ⟨hkeep.os.trans hb1.os, hkeep.tape.trans hb1.tape, hkeep.output.trans hb1.output, Nat.le_trans hb1.size hkeep.size, fun j hj hm => ?_⟩
        rw [hkeep.block j (by omega) (by rintro (h | h); exact hm h; omega), hb1.block j hj]
      have hszB : w.heap.size + 2 ≤ B.heap.size := by have := hkeep.size; omega
      rcases hJ with ⟨hi, hl, hd⟩ | ⟨c, hi, hl, hd⟩
      · refine ⟨none, _, by have := run_endLoop (P := P) hl (by rw [hrec]; simp); rw [hrec] at this; exact this, ?_⟩
        exact hdone _ (hI _ _ _ hi ((KeepsBut.refl _ _).putObj (.inl ⟨by omega, by omega⟩) _)) (hwB.putObj (.inr (by omega)) _) (by simpa [World.putObj] using hszB) ((World.putObj_heap_other (by omega)).trans hd)
      · refine ⟨some c, _, by have := run_endLoop (P := P) hl (by rw [hrec]; simp); rw [hrec] at this; exact this, ?_⟩
        exact wpIn_wide.2 (hstop c _ (hIx _ _ _ hi ((KeepsBut.refl _ _).putObj (.inl ⟨by omega, by omega⟩) _)) (hwB.putObj (.inr (by omega)) _) (by simpa [World.putObj] using hszB) ((World.putObj_heap_other (by omega)).trans hd))

end Go.Proofs.Ytgdlmlpjeapjaaa
