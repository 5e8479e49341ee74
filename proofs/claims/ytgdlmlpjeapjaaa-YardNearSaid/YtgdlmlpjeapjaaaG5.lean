/- A range over a function whose rounds write what earlier rounds have made, but for the blocks of the iterator. -/
import Derived.Test.YtgdlmlpjeapjaaaG4
namespace Go.Proofs.Ytgdlmlpjeapjaaa
open Go.RowKit

/-- AN ITERATOR's CONTRACT, with blocks of its own. -/
def IterP (P : Program) (gf : FuncId) (lb : Array Value) (reads : Nat → Prop) (n : Nat) (X : Nat → Array Value → (Nat → Prop) → World → Prop) (W : World) : Prop :=
  ∀ (l : Nat) (M : Nat → Prop) (J : Nat → (Nat → Prop) → World → Prop) (Jx : (Nat → Prop) → World → Prop),
    (∀ m, M m → m < W.heap.size ∧ ¬ reads m) → (∀ k, StableO (J k)) → StableO Jx →
    (∀ k x O A, k < n → X k x O A → (∀ m, O m → W.heap.size ≤ m ∧ m < A.heap.size) → J k O A → KeepsBut M W A → YieldAt Fence.wide 0 P l x A fun e B =>
      KeepsBut (fun m => M m ∨ (W.heap.size ≤ m ∧ ¬ O m)) A B ∧ ((e = .returned (.bool true) ∧ J (k + 1) O B) ∨ (e = .returned (.bool false) ∧ Jx O B))) →
    J 0 (fun _ => False) W → Calls P gf (#[.func (.yield l) #[] #[]] ++ lb) W fun e B => (∃ v, e = .returned v) ∧ KeepsBut M W B ∧ ∃ O, (∀ m, O m → W.heap.size ≤ m) ∧ (J n O B ∨ Jx O B)

theorem range_lawP {P : Program} {g : Operand} {ps : Array Tmp} {assign body : Code} {Q : Exit → Act → World → Prop} {a : Act} {w : World}
    (gf : Nat) (lb : Array Value) (reads : Nat → Prop) (n : Nat) (X : Nat → Array Value → (Nat → Prop) → World → Prop)
    (hg : a.eval g = .func (.func gf) #[] lb) (eg : ∀ args w, (callFunc gf args).run P w = .ok (.enter gf args) w)
    (hit : ∀ W1, Below w.heap.size w W1 → W1.heap.size = w.heap.size + 2 → IterP P gf lb reads n X W1)
    (hps : ∀ k x O A, X k x O A → x.size = ps.size) (M : Nat → Prop) (hM : ∀ m, M m → m < w.heap.size ∧ ¬ reads m) (hrl : ¬ reads (w.heap.size + 1))
    (I : Nat → (Nat → Prop) → World → Prop) (Ix : Code → (Nat → Prop) → World → Prop) (hI : ∀ k, StableO (I k)) (hIx : ∀ c, StableO (Ix c)) (h0 : I 0 (fun _ => False) w)
    (hbody : ∀ (l k : Nat) (x : Array Value) (O O' : Nat → Prop) (A : World), l = w.heap.size + 1 → k < n → X k x O' A → (∀ m, O' m → O m) → (∀ m, O m → O' m ∨ m = w.heap.size ∨ m = w.heap.size + 1) → (∀ m, O m → w.heap.size ≤ m ∧ m < A.heap.size) → O (w.heap.size + 1) → I k O A → KeepsBut M w A → l < A.heap.size →
      assign.wpIn (Fence.wide.inRound l) 0 P (Exit.then (fun a1 A1 => KeepsBut M A A1 ∧ ∀ o, body.wpIn (Fence.wide.inRound l) 0 P (roundQ (fun m => M m ∨ (w.heap.size ≤ m ∧ ¬ O m)) (I (k + 1) O) (fun c => Ix c O) (A1.putObj l o)) a1 (A1.putObj l o)) (fun _ _ _ => False))
        { tmps := (ps.zip x).foldl (fun t (p, v) => t.setIfInBounds p v) a.tmps, defers := [] } A)
    (hdone : ∀ O B, I n O B → (∀ m, O m → w.heap.size ≤ m) → KeepsBut M w B → w.heap.size + 2 ≤ B.heap.size → B.heap[w.heap.size]? = some (.deferred (some [])) → Q .normal { a with defers := { target := .collected w.heap.size, args := #[] } :: a.defers } B)
    (hstop : ∀ c O B, Ix c O B → (∀ m, O m → w.heap.size ≤ m) → KeepsBut M w B → w.heap.size + 2 ≤ B.heap.size → B.heap[w.heap.size]? = some (.deferred (some [])) → c.wp P Q { a with defers := { target := .collected w.heap.size, args := #[] } :: a.defers } B) :
    (Code.rangeFunc g ps assign body).wp P Q a w := by
  refine wpIn_wide.1 (wpIn_rangeFunc (F := Fence.wide) (n := 0) ?_)
  intro fn _
  obtain ⟨rec, hrec⟩ : ∃ rec : LoopState → Option Code → Loop, rec = fun st pe => { state := st, pending := pe, fn, tmps := a.tmps, params := ps, assign, body, defers := w.heap.size } := ⟨_, rfl⟩
  obtain ⟨W1, hW1⟩ : ∃ W1, (w.alloc (.deferred (some []))).alloc (.loop (rec .ready none)) = W1 := ⟨_, rfl⟩
  have hL1 : W1.heap[w.heap.size + 1]? = some (.loop (rec .ready none)) := by
    rw [← hW1]; have := World.alloc_heap_new (w.alloc (.deferred (some []))) (.loop (rec .ready none)); rwa [World.size_alloc] at this
  have hK1 : W1.heap[w.heap.size]? = some (.deferred (some [])) := by
    rw [← hW1]; exact (Below.heap_alloc _ _ _ (by simp)).trans (World.alloc_heap_new w _)
  have hb1 : Below w.heap.size w W1 := by rw [← hW1]; exact (below_alloc _ _).alloc (by simp) _
  have hs1 : W1.heap.size = w.heap.size + 2 := by rw [← hW1]; simp
  obtain ⟨E, hE⟩ : ∃ E : (Nat → Prop) → Nat → Prop, E = fun O m => O m ∨ m = w.heap.size ∨ m = w.heap.size + 1 := ⟨_, rfl⟩
  have hE0 : ∀ O m, O m → E O m := fun O m h => by rw [hE]; exact .inl h
  have hE1 : ∀ O m, E O m → O m ∨ m = w.heap.size ∨ m = w.heap.size + 1 := fun O m h => by rw [hE] at h; exact h
  have hEl : ∀ O, E O (w.heap.size + 1) := fun O => by rw [hE]; exact .inr (.inr rfl)
  have hEd : ∀ O, E O w.heap.size := fun O => by rw [hE]; exact .inr (.inl rfl)
  clear hE
  refine ⟨w.heap.size + 1, [{ target := .collected w.heap.size, args := #[] }], W1, { target := .fn (.func gf) lb, args := #[.func (.yield (w.heap.size + 1)) #[] #[]] }, W1, gf,
    #[.func (.yield (w.heap.size + 1)) #[] #[]] ++ lb, W1, ?_, ?_, ?_, ?_, fun h => by simp [Fence.wide] at h, ?_⟩
  · rw [← hW1, hrec]; exact run_enterLoop_outer _ _ _ _ _
  · simp only [resolve, hg]; simp [go_sem]
  · intro f' _; trivial
  · simp [invoke, go_sem, eg]
  · refine callsIn_wide.2 ((hit W1 hb1 hs1 (w.heap.size + 1) (fun m => M m ∨ m = w.heap.size + 1)
      (fun k O A => (∀ m, O m → w.heap.size + 2 ≤ m) ∧ I k (E O) A ∧ A.heap[w.heap.size + 1]? = some (.loop (rec .ready none)) ∧ A.heap[w.heap.size]? = some (.deferred (some [])))
      (fun O A => (∀ m, O m → w.heap.size + 2 ≤ m) ∧ ∃ c, Ix c (E O) A ∧ A.heap[w.heap.size + 1]? = some (.loop (rec .done (some c))) ∧ A.heap[w.heap.size]? = some (.deferred (some [])))
      ?_ ?_ ?_ ?_ ⟨fun m h => h.elim, (hI 0) (fun _ => False) _ _ _ h0 (.of_below hb1) (fun m h => h.elim) (fun m h => by rcases hE1 _ m h with h | h | h; exact h.elim; exact .inr (by omega); exact .inr (by omega)), hL1, hK1⟩).mono ?_)
    · rintro m (hm | rfl)
      · exact ⟨by have := (hM m hm).1; omega, (hM m hm).2⟩
      · exact ⟨by omega, hrl⟩
    · rintro k O O' A B ⟨h0, h1, h2, h3⟩ hb hOO hO
      have hl2 := (Array.getElem?_eq_some_iff.1 h2).1
      have hn1 : ¬ O (w.heap.size + 1) := fun h => by have := h0 _ h; omega
      have hn2 : ¬ O w.heap.size := fun h => by have := h0 _ h; omega
      refine ⟨fun m hm => ?_, hI k (E O) (E O') A B h1 (hb.mono fun m _ h => hE0 O m h) (fun m h => ?_) (fun m h => ?_), by rw [hb.block _ hl2 hn1]; exact h2, by rw [hb.block _ (by omega) hn2]; exact h3⟩
      · rcases hO m hm with h | h
        · exact h0 m h
        · omega
      · rcases hE1 O m h with h | rfl | rfl
        · exact hE0 O' m (hOO m h)
        · exact hEd _
        · exact hEl _
      · rcases hE1 O' m h with h | rfl | rfl
        · rcases hO m h with h | h
          · exact .inl (hE0 O m h)
          · exact .inr h
        · exact .inl (hEd _)
        · exact .inl (hEl _)
    · rintro O O' A B ⟨h0, c, h1, h2, h3⟩ hb hOO hO
      have hl2 := (Array.getElem?_eq_some_iff.1 h2).1
      have hn1 : ¬ O (w.heap.size + 1) := fun h => by have := h0 _ h; omega
      have hn2 : ¬ O w.heap.size := fun h => by have := h0 _ h; omega
      refine ⟨fun m hm => ?_, c, hIx c (E O) (E O') A B h1 (hb.mono fun m _ h => hE0 O m h) (fun m h => ?_) (fun m h => ?_), by rw [hb.block _ hl2 hn1]; exact h2, by rw [hb.block _ (by omega) hn2]; exact h3⟩
      · rcases hO m hm with h | h
        · exact h0 m h
        · omega
      · rcases hE1 O m h with h | rfl | rfl
        · exact hE0 O' m (hOO m h)
        · exact hEd _
        · exact hEl _
      · rcases hE1 O' m h with h | rfl | rfl
        · rcases hO m h with h | h
          · exact .inl (hE0 O m h)
          · exact .inr h
        · exact .inl (hEd _)
        · exact .inl (hEl _)
    · rintro k x O A hkn hx hOw ⟨hO2, hi, hl, hk⟩ hkeep
      have hwA : KeepsBut M w A := by
        refine ⟨hkeep.os.trans hb1.os, hkeep.tape.trans hb1.tape, hkeep.output.trans hb1.output, Nat.le_trans hb1.size hkeep.size, fun j hj hm => ?_⟩
        rw [hkeep.block j (by omega) (by rintro (h | h); exact hm h; omega), hb1.block j hj]
      have hlA : w.heap.size + 1 < A.heap.size := (Array.getElem?_eq_some_iff.1 hl).1
      have hy := run_yield (P := P) (args := x) hl (by rw [hrec]; exact hps _ _ _ _ hx)
      rw [hrec] at hy
      have hEO : ∀ m, E O m → w.heap.size ≤ m ∧ m < A.heap.size := fun m h => by
        rcases hE1 O m h with h | rfl | rfl
        · exact ⟨by have := hO2 m h; omega, (hOw m h).2⟩
        · omega
        · omega
      refine ⟨fn, _, assign, body, hy, roundIn_of_wpIn trivial (wpIn_mono (hbody _ k x (E O) O A rfl hkn hx (hE0 O) (hE1 O) hEO (hEl _) hi hwA hlA) ?_)⟩
      rintro e a1 A1 hp
      cases e with
      | normal =>
        obtain ⟨hk1, hb⟩ := hp
        have hl1 : A1.heap[w.heap.size + 1]? = some (.loop (rec .ready none)) := by rw [hk1.block _ hlA (fun h => by have := (hM _ h).1; omega)]; exact hl
        have hd1 : A1.heap[w.heap.size]? = some (.deferred (some [])) := by rw [hk1.block _ (by omega) (fun h => by have := (hM _ h).1; omega)]; exact hk
        have hl1' := (Array.getElem?_eq_some_iff.1 hl1).1
        refine ⟨_, run_beginRound hl1 (by rw [hrec]), wpIn_mono (hb _) ?_⟩
        generalize hA2 : A1.putObj (w.heap.size + 1) (.loop { rec .ready none with state := .busy }) = A2
        have hl2 : A2.heap[w.heap.size + 1]? = some (.loop { rec .ready none with state := .busy }) := by rw [← hA2]; exact World.putObj_heap_same hl1'
        have hd2 : A2.heap[w.heap.size]? = some (.deferred (some [])) := by rw [← hA2, World.putObj_heap_other (by omega)]; exact hd1
        have h12 : KeepsBut (fun m => M m ∨ m = w.heap.size + 1) A A2 := by
          rw [← hA2]; exact (hk1.mono (fun _ _ h => .inl h)).putObj (.inl (.inr rfl)) _
        have hOut : ∀ m, m < A2.heap.size → (M m ∨ (w.heap.size ≤ m ∧ ¬ E O m)) → (M m ∨ m = w.heap.size + 1) ∨ (W1.heap.size ≤ m ∧ ¬ O m) := fun m _ h => by
          rcases h with h | ⟨h1, h2⟩
          · exact .inl (.inl h)
          · refine .inr ⟨?_, fun h => h2 (hE0 O m h)⟩
            have n1 : m ≠ w.heap.size := fun e => h2 (e ▸ hEd O)
            have n2 : m ≠ w.heap.size + 1 := fun e => h2 (e ▸ hEl O)
            omega
        have fin : ∀ (jump : Option Code) (B : World), KeepsBut (fun m => M m ∨ (w.heap.size ≤ m ∧ ¬ E O m)) A2 B →
            (Instr.endRound (w.heap.size + 1) jump).run P B = .ok (.bool jump.isNone) (B.putObj (w.heap.size + 1) (.loop (rec (if jump.isNone then .ready else .done) jump))) ∧
            KeepsBut (E O) B (B.putObj (w.heap.size + 1) (.loop (rec (if jump.isNone then .ready else .done) jump))) ∧
            KeepsBut (fun m => (M m ∨ m = w.heap.size + 1) ∨ (W1.heap.size ≤ m ∧ ¬ O m)) A (B.putObj (w.heap.size + 1) (.loop (rec (if jump.isNone then .ready else .done) jump))) ∧
            (B.putObj (w.heap.size + 1) (.loop (rec (if jump.isNone then .ready else .done) jump))).heap[w.heap.size + 1]? = some (.loop (rec (if jump.isNone then .ready else .done) jump)) ∧
            (B.putObj (w.heap.size + 1) (.loop (rec (if jump.isNone then .ready else .done) jump))).heap[w.heap.size]? = some (.deferred (some [])) := fun jump B hkB => by
          have hs2 := (Array.getElem?_eq_some_iff.1 hl2).1
          have hl3 : B.heap[w.heap.size + 1]? = some (.loop { rec .ready none with state := .busy }) := by rw [hkB.block _ hs2 (fun h => h.elim (fun h => by have := (hM _ h).1; omega) (fun h => h.2 (hEl O)))]; exact hl2
          have hd3 : B.heap[w.heap.size]? = some (.deferred (some [])) := by rw [hkB.block _ (by omega) (fun h => h.elim (fun h => by have := (hM _ h).1; omega) (fun h => h.2 (hEd O)))]; exact hd2
          have hr := run_endRound (P := P) jump hl3
          rw [hrec] at hr ⊢
          exact ⟨hr, (KeepsBut.refl _ _).putObj (.inl (hEl _)) _, ((h12.mono (fun _ _ h => .inl h)).trans (hkB.mono hOut)).putObj (.inl (.inl (.inr rfl))) _, World.putObj_heap_same (Array.getElem?_eq_some_iff.1 hl3).1, (World.putObj_heap_other (by omega)).trans hd3⟩
        rintro e a3 B hq
        cases e with
        | normal =>
          obtain ⟨hkB, hiB⟩ := hq
          obtain ⟨h1, h2, h3, h4, h5⟩ := fin none B hkB
          exact ⟨_, _, h1, h3, .inl ⟨rfl, hO2, (hI _).keep hiB h2, h4, h5⟩⟩
        | ret =>
          obtain ⟨hkB, hiB⟩ := hq
          obtain ⟨h1, h2, h3, h4, h5⟩ := fin (some .ret) B hkB
          exact ⟨_, _, h1, h3, .inr ⟨rfl, hO2, .ret, (hIx _).keep hiB h2, h4, h5⟩⟩
        | exit id =>
          obtain ⟨hkB, hiB⟩ := hq
          obtain ⟨h1, h2, h3, h4, h5⟩ := fin (some (.exit id)) B hkB
          exact ⟨_, _, h1, h3, .inr ⟨rfl, hO2, .exit id, (hIx _).keep hiB h2, h4, h5⟩⟩
        | goto t =>
          obtain ⟨hkB, hiB⟩ := hq
          obtain ⟨h1, h2, h3, h4, h5⟩ := fin (some (.goto t)) B hkB
          exact ⟨_, _, h1, h3, .inr ⟨rfl, hO2, .goto t, (hIx _).keep hiB h2, h4, h5⟩⟩
        | panic ch => exact hq.elim
        | outgrown => exact hq.elim
      | ret => exact hp.elim
      | exit id => exact hp.elim
      | goto t => exact hp.elim
      | panic ch => exact hp.elim
      | outgrown => exact hp.elim
    · rintro e B ⟨⟨v, rfl⟩, hkeep, O, hOw, hJ⟩
      have hwB : KeepsBut M w B := by
        refine ⟨hkeep.os.trans hb1.os, hkeep.tape.trans hb1.tape, hkeep.output.trans hb1.output, Nat.le_trans hb1.size hkeep.size, fun j hj hm => ?_⟩
        rw [hkeep.block j (by omega) (by rintro (h | h); exact hm h; omega), hb1.block j hj]
      have hszB : w.heap.size + 2 ≤ B.heap.size := by have := hkeep.size; omega
      have hEO : ∀ m, E O m → w.heap.size ≤ m := fun m h => by
        rcases hE1 O m h with h | rfl | rfl
        · have := hOw m h; omega
        · omega
        · omega
      rcases hJ with ⟨_, hi, hl, hd⟩ | ⟨_, c, hi, hl, hd⟩
      · refine ⟨none, _, by have := run_endLoop (P := P) hl (by rw [hrec]; simp); rw [hrec] at this; exact this, ?_⟩
        exact hdone _ _ ((hI _).keep hi ((KeepsBut.refl _ _).putObj (.inl (hEl _)) _)) hEO (hwB.putObj (.inr (by omega)) _) (by simpa [World.putObj] using hszB) ((World.putObj_heap_other (by omega)).trans hd)
      · refine ⟨some c, _, by have := run_endLoop (P := P) hl (by rw [hrec]; simp); rw [hrec] at this; exact this, ?_⟩
        exact wpIn_wide.2 (hstop c _ _ ((hIx _).keep hi ((KeepsBut.refl _ _).putObj (.inl (hEl _)) _)) hEO (hwB.putObj (.inr (by omega)) _) (by simpa [World.putObj] using hszB) ((World.putObj_heap_other (by omega)).trans hd))
end Go.Proofs.Ytgdlmlpjeapjaaa
