/- The walks of layer 6: the choices, produced one by one. -/
import Derived.Test.YtajkgfeockcbpaaY13
import Derived.Test.YtajkgfeockcbpaaRGX
import Derived.WalkMore
import Derived.Laws.EntriesVeiled
namespace Go.Proofs.Ytajkgfeockcbpaa
open Go.RowKit Go.Maps
attribute [local go_sem] Oper.semAt_some

theorem below_keep {w W A : World} {n : Nat} {M : Nat → Prop} (hb : Below n w W) (k : KeepsBut M W A) (hn : n ≤ W.heap.size) (hM : ∀ m, M m → n ≤ m) : Below n w A :=
  ⟨k.os.trans hb.os, k.tape.trans hb.tape, k.output.trans hb.output, Nat.le_trans hb.size k.size, fun j hj => by rw [k.block j (by omega) (fun h => by have := hM j h; omega), hb.block j hj]⟩
theorem inRound_of {P : Program} {f : FuncId} {args : Array Value} {w : World} {R Q : Ending → World → Prop} {l n : Nat} (h : Calls P f args w R) (hq : ∀ e w', R e w' → Q e w') : Fence.wide.fn f ∧ Fence.wide.depth = none ∧ CallsIn (Fence.wide.inRound l) n P f args w Q :=
  ⟨trivial, rfl, CallsIn.inRound l (callsIn_wide.2 (h.mono hq))⟩
theorem KeepsBut.far {M N : Nat → Prop} {W A B : World} (h : KeepsBut M W A) (k : KeepsBut N A B) (hn : ∀ m, m < W.heap.size → N m → M m) : KeepsBut M W B :=
  ⟨k.os.trans h.os, k.tape.trans h.tape, k.output.trans h.output, Nat.le_trans h.size k.size, fun j hj hm => by rw [k.block j (by have := h.size; omega) (fun x => hm (hn j hj x)), h.block j hj hm]⟩
/-- What the closure that adds has caught. -/
structure Caps (cy tb cc li : Nat) (b : Yb) (P : Yp) (mb : Nat) (k : Bool) (A : World) : Prop where
  y : Row A cy #[.func (.yield li) #[] #[]] 102
  t : Row A tb (trA b P mb k) 89
  f : Row A cc #[.func (.func 125) #[] #[.pointer (some ⟨cy, 0, none⟩), .pointer (some ⟨tb, 0, none⟩), .pointer (some ⟨cc, 0, none⟩)]] 151
theorem Caps.keeps {cy tb cc li : Nat} {b : Yb} {P : Yp} {mb : Nat} {k : Bool} {A B : World} {N : Nat → Prop} (h : Caps cy tb cc li b P mb k A) (q : KeepsBut N A B) (h1 : ¬ N cy) (h2 : ¬ N tb) (h3 : ¬ N cc) : Caps cy tb cc li b P mb k B := ⟨h.y.keeps q h1, h.t.keeps q h2, h.f.keeps q h3⟩
/-- The value of a round: a choice. -/
def LotX (L : List (Nat → Bool)) (j : Nat) (x : Array Value) (_O : Nat → Prop) (_A : World) : Prop := x = #[.agg (lotF (L.getD j noneF))]
theorem mid_get {α : Type} (a : List α) (x : α) (c : List α) (d : α) : (a ++ x :: c).getD a.length d = x := by simp
/-- What the closure that adds returns, and what is so then. -/
def AddPost (M : Nat → Prop) (J : Nat → (Nat → Prop) → World → Prop) (Jx : (Nat → Prop) → World → Prop) (O : Nat → Prop) (n : Nat) (A : World) (e : Ending) (B : World) : Prop :=
  KeepsBut M A B ∧ ∃ (v : Bool) (O' : Nat → Prop), e = .returned (.bool v) ∧ (∀ m, O m → O' m) ∧ (∀ m, O' m → O m ∨ A.heap.size ≤ m) ∧ (∀ m, O' m → m < B.heap.size) ∧ (v = true → J n O' B) ∧ (v = false → Jx O' B)
theorem rnd_step (ng : Nat → (Nat → Bool) → Bool) (l : Nat → Bool) {n d : Nat} (c : Nat → Bool) (h : d < n) : rnd ng l (n - d) d c = (if l d && !ng d c then withF c d :: rnd ng l (n - (d + 1)) (d + 1) (withF c d) else []) ++ rnd ng l (n - (d + 1)) (d + 1) c := by
  rw [show n - d = (n - (d + 1)) + 1 by omega]
  rfl
/-- Those that are left, from a lot on. -/
def leftF (l : Nat → Bool) (x : Nat) : Nat → Bool := fun i => l i && decide (x ≤ i)
theorem leftF_set (l : Nat → Bool) (x : Nat) {d : Nat} (hd : d < 7) (hx : x ≤ d) : (lotF (leftF l (max d x))).setIfInBounds d (.bool false) = lotF (leftF l (max (d + 1) x)) := by
  rw [lotF_set _ hd]
  refine lotF_congr fun i _ => ?_
  unfold leftF
  by_cases h : i = d
  · subst h
    simp
    intro _
    omega
  · rw [if_neg h]
    congr 1
    exact decide_eq_decide.2 (by omega)
theorem leftF_skip (l : Nat → Bool) (x d : Nat) (h : leftF l (max d x) d = false) : leftF l (max (d + 1) x) = leftF l (max d x) := by
  funext i
  unfold leftF at h ⊢
  by_cases e : i = d
  · subst e
    cases hl : l i
    · rfl
    · rw [hl] at h
      simp only [Bool.true_and, decide_eq_false_iff_not] at h ⊢
      exact decide_eq_decide.2 (by omega)
  · congr 1
    exact decide_eq_decide.2 (by omega)
theorem anyN_take {f : Nat → Bool} {L : List Nat} {i : Nat} (h : i < L.length) : (L.take (i + 1)).any f = ((L.take i).any f || f (L.getD i 0)) := by
  rw [any_take h]
  simp [List.getD, h]
set_option maxRecDepth 100000 in
set_option maxHeartbeats 3200000 in
theorem add_any (b : Yb) (P : Yp) (mb : Nat) (k : Bool) (of : Nat → Bool) (w0 W : World) (hK : YkAt w0 P mb b) (cy tb cc li : Nat) (M : Nat → Prop) (J : Nat → (Nat → Prop) → World → Prop) (Jx : (Nat → Prop) → World → Prop)
    (hW0 : Below w0.heap.size w0 W) (hM : ∀ m, M m → m < W.heap.size ∧ ¬ (m < w0.heap.size ∨ m = tb)) (hcy : W.heap.size ≤ cy) (hcc : W.heap.size ≤ cc) (_htb : tb < W.heap.size) (hJ : ∀ j, StableO (J j)) (hJx : StableO Jx)
    (hY : ∀ j x O A, j < (choK b k of).length → LotX (choK b k of) j x O A → (∀ m, O m → W.heap.size ≤ m ∧ m < A.heap.size) → J j O A → KeepsBut M W A → YieldAt Fence.wide 0 Try.prog li x A fun e B =>
      KeepsBut M A B ∧ ((e = .returned (.bool true) ∧ J (j + 1) O B) ∨ (e = .returned (.bool false) ∧ Jx O B))) :
    ∀ (f x : Nat) (c : Nat → Bool) (k0 : Nat) (before after : List (Nat → Bool)) (O : Nat → Prop) (A : World), x ≤ b.lots.length → b.lots.length - x < f → (∀ i, i < 7 → c i = true → i < x) →
      choK b k of = before ++ (c :: rnd (ngK b k) (fun i => of i && servK b k i) (b.lots.length - x) x c ++ after) → before.length = k0 → (∀ m, O m → W.heap.size ≤ m ∧ m < A.heap.size) → J k0 O A → KeepsBut M W A → Caps cy tb cc li b P mb k A → ¬ O cy → ¬ O cc →
      Calls Try.prog 125 #[.agg (lotF c), .agg (lotF (leftF (fun i => of i && servK b k i) x)), .pointer (some ⟨cy, 0, none⟩), .pointer (some ⟨tb, 0, none⟩), .pointer (some ⟨cc, 0, none⟩)] A (AddPost M J Jx O (k0 + 1 + (rnd (ngK b k) (fun i => of i && servK b k i) (b.lots.length - x) x c).length) A) := by
  have HK := Lib.hid hK
  have HM := Lib.hid hM
  have HJ := Lib.hid hJ
  have HJX := Lib.hid hJx
  have HY := Lib.hid hY
  have HW0 := Lib.hid hW0
  have hn7 := hK.ok.n7
  clear hK hM hJ hJx hY hW0
  generalize (fun i => of i && servK b k i) = l at *
  generalize choK b k of = L at *
  intro f
  induction f with
  | zero =>
    intro x c k0 before after O A hx hf
    omega
  | succ f ih =>
    intro x c k0 before after O A hx hf hcx hsp hk0 hO hj hkp hC hy hc
    have IH := Lib.hid ih
    have HCX := Lib.hid hcx
    have HSP := Lib.hid hsp
    have HK0 := Lib.hid hk0
    have HO := Lib.hid hO
    have HC := Lib.hid hC
    have hzW := hkp.size
    obtain ⟨A1, hA1⟩ : ∃ A1, A1 = (A.alloc (.cells (lotF c) 99)).alloc (.cells (lotF (leftF l x)) 99) := ⟨_, rfl⟩
    have HA1 := Lib.hid hA1
    have hbA : Below A.heap.size A A1 := by rw [hA1]; exact below_alloc2 _ _ _
    have hzA1 : A1.heap.size = A.heap.size + 2 := by rw [hA1]; simp
    have HCB := Lib.hid (show Row A1 A.heap.size (lotF c) 99 by rw [hA1]; exact (Row.new _ _ _).alloc _)
    have HLB := Lib.hid (show Row A1 (A.heap.size + 1) (lotF (leftF l x)) 99 by rw [hA1]; exact Row.new1 _ _ _ _)
    have HO1 := Lib.hid (show ∀ m, (O m ∨ m = A.heap.size + 1) → W.heap.size ≤ m ∧ m < A1.heap.size from fun m hm => by
      rcases hm with h | rfl
      · have := hO m h; omega
      · omega)
    have HJ1 := Lib.hid (HJ.out k0 O (fun m => O m ∨ m = A.heap.size + 1) A A1 hj (.of_below hbA) (fun m h => .inl h) (fun m h => h.imp id (fun e => by omega)))
    have HA := Lib.hid (hC.keeps (KeepsBut.of_below (M := fun _ => False) hbA) id id id)
    have HK1 := Lib.hid (hkp.after hbA)
    have HKA := Lib.hid (KeepsBut.of_below (M := M) hbA)
    have hMA : ¬ M A.heap.size := fun h => by have := (HM.out _ h).1; omega
    have hMA1 : ¬ M (A.heap.size + 1) := fun h => by have := (HM.out _ h).1; omega
    have hMy : ¬ M cy := fun h => by have := (HM.out _ h).1; omega
    have hMc : ¬ M cc := fun h => by have := (HM.out _ h).1; omega
    have hMb : ¬ M tb := fun h => (HM.out _ h).2 (.inr rfl)
    have hzy := HC.out.y.lt
    have hzc := HC.out.f.lt
    have hzb := HC.out.t.lt
    have HPG := Lib.hid (show k0 < L.length ∧ L.getD k0 noneF = c by
      refine ⟨?_, ?_⟩
      · rw [hsp, ← hk0]; simp
      · rw [hsp, ← hk0]; exact mid_get _ _ _ _)
    have HBelow := Lib.hid (show ∀ w', KeepsBut (fun m => M m ∨ m = A.heap.size + 1) A1 w' → Below w0.heap.size w0 w' from fun w' h =>
      below_keep (below_keep HW0.out HK1.out (by have := HW0.out.size; omega) (fun m hm => by have := (HM.out m hm).2; omega)) h (by have := HW0.out.size; omega) (fun m hm => by
        rcases hm with hm | rfl
        · have := (HM.out m hm).2; omega
        · have := HW0.out.size; omega))
    clear ih hcx hsp hk0 hO hj hkp hC hA1 hbA
    have cy0 := HA.out.y.cell 0 (v := .func (.yield li) #[] #[]) rfl
    have q0 := HCB.out.cell 0 (v := .bool (c 0)) rfl
    have q1 := HCB.out.cell 1 (v := .bool (c 1)) rfl
    have q2 := HCB.out.cell 2 (v := .bool (c 2)) rfl
    have q3 := HCB.out.cell 3 (v := .bool (c 3)) rfl
    have q4 := HCB.out.cell 4 (v := .bool (c 4)) rfl
    have q5 := HCB.out.cell 5 (v := .bool (c 5)) rfl
    have q6 := HCB.out.cell 6 (v := .bool (c 6)) rfl
    obtain ⟨fn, tmps, assign, body, hy', hR⟩ := HY.out k0 #[.agg (lotF c)] (fun m => O m ∨ m = A.heap.size + 1) A1 HPG.out.1 (by unfold LotX; rw [HPG.out.2]) HO1.out HJ1.out HK1.out
    have hy' : (Instr.yield li #[.agg (lotF c)]).run Try.prog _ = _ := hy'
    have HR := Lib.hid hR
    clear hR
    go_enter Try.func125, Try.ntmps125
    go_upto_region 1 with (fail)
    rw [← HA1.out]
    go_step3
    refine wp_seq_k fun K hK => ?_
    have HKK := Lib.hid hK
    clear hK
    refine (wpIn_wide (n := 1)).1 ?_
    gi_wp2_with fail
    refine HR.out.mono ?_
    rintro e B ⟨hkB, (⟨rfl, hJ2⟩ | ⟨rfl, hJx1⟩)⟩
    · have HJ2 := Lib.hid hJ2
      have HKB := Lib.hid hkB
      have HCB2 := Lib.hid (HCB.out.keeps hkB hMA)
      have HLB2 := Lib.hid (HLB.out.keeps hkB hMA1)
      have HA2 := Lib.hid (HA.out.keeps hkB hMy hMb hMc)
      have hzB := hkB.size
      clear hkB hJ2 hy' cy0 q0 q1 q2 q3 q4 q5 q6
      gi_wp2
      refine HKK.out _ _ ?_
      clear HKK K
      have t0 := HA2.out.t.cell 0 (v := .slice P.pl b.lots.length P.cl) rfl
      go_wp2_with fail
      go_step3
      go_wp2_with fail
      clear t0
      go_loopw [20] (fun ix wr => ∃ (d : Nat) (done : List (Nat → Bool)) (O2 : Nat → Prop), d ≤ b.lots.length ∧ ix = .int .i64 d ∧ rnd (ngK b k) l (b.lots.length - x) x c = done ++ rnd (ngK b k) l (b.lots.length - max d x) (max d x) c ∧ (∀ m, (O m ∨ m = A.heap.size + 1) → O2 m) ∧ (∀ m, O2 m → (O m ∨ m = A.heap.size + 1) ∨ A1.heap.size ≤ m) ∧ (∀ m, O2 m → m < wr.heap.size) ∧ J (k0 + 1 + done.length) O2 wr ∧ KeepsBut (fun m => M m ∨ m = A.heap.size + 1) A1 wr ∧ Row wr (A.heap.size + 1) (lotF (leftF l (max d x))) 99) (fun ix _ => 8 - (intOf ix).toNat)
      case atStart => exact ⟨0, [], _, by omega, rfl, by simp, fun m h => h, fun m h => .inl h, fun m h => by have := (HO1.out m h).2; omega, HJ2.out, HKB.out.mono (fun m _ h => .inl h), by rw [show max 0 x = x by omega]; exact HLB2.out⟩
      case round =>
        obtain ⟨d, done, O2, hdn, rfl, hdone, hO2a, hO2b, hO2c, hj2, hk2, hrl⟩ := hrel
        have HDN := Lib.hid hdone
        have HO2a := Lib.hid hO2a
        have HO2b := Lib.hid hO2b
        have HO2c := Lib.hid hO2c
        have HJ2 := Lib.hid hj2
        have HK2 := Lib.hid hk2
        have HL2 := Lib.hid hrl
        have hzr := hk2.size
        have HYK := Lib.hid (HK.out.below (HBelow.out _ hk2))
        have HCw := Lib.hid (HA.out.keeps hk2 (fun h => h.elim hMy (by omega)) (fun h => h.elim hMb (by omega)) (fun h => h.elim hMc (by omega)))
        have HCR := Lib.hid (HCB.out.keeps hk2 (fun h => h.elim hMA (by omega)))
        clear hdone hO2a hO2b hO2c hj2 hk2 hrl
        by_cases hlt : d < b.lots.length
        · have i1 : (0 : Int) ≤ (d : Int) := by omega
          have i2 : (d : Int) < (b.lots.length : Int) := by omega
          have i3 : (d : Int) < 7 := by omega
          have c0 := HL2.out.cell d (lotF_at _ (by omega))
          cases hld : leftF l (max d x) d
          · have HS := Lib.hid (leftF_skip l x d hld)
            have HD2 := Lib.hid (show rnd (ngK b k) l (b.lots.length - x) x c = done ++ rnd (ngK b k) l (b.lots.length - max (d + 1) x) (max (d + 1) x) c by
              rw [HDN.out]
              by_cases hdx : d < x
              · rw [show max d x = x by omega, show max (d + 1) x = x by omega]
              · rw [show max d x = d by omega, show max (d + 1) x = d + 1 by omega, rnd_step _ _ c hlt]
                have e : l d = false := by
                  unfold leftF at hld
                  rw [show max d x = d by omega] at hld
                  simpa using hld
                rw [e]
                simp)
            rw [hld] at c0
            clear hld
            go_wp2_with fail
            go_roundw
            case rel => exact ⟨d + 1, done, O2, by omega, by go_num, HD2.out, HO2a.out, HO2b.out, HO2c.out, HJ2.out, HK2.out, by rw [HS.out]; exact HL2.out⟩
            case measure => simp [intOf]; omega
          · obtain ⟨hl, hxd⟩ : l d = true ∧ x ≤ d := by
              unfold leftF at hld
              rw [Bool.and_eq_true, decide_eq_true_eq] at hld
              exact ⟨hld.1, by omega⟩
            rw [hld] at c0
            have a1 := HL2.out.free d
            have HL5 := Lib.hid (by have h := HL2.out.set d (.bool false); rw [leftF_set l x (by omega) hxd, show max (d + 1) x = d + 1 by omega] at h; exact h : Row (wr.setCell ⟨A.heap.size + 1, d, none⟩ (.bool false)) (A.heap.size + 1) (lotF (leftF l (d + 1))) 99)
            have HS5 := Lib.hid (set_keeps wr (A.heap.size + 1) d (.bool false))
            have HRS := Lib.hid (show rnd (ngK b k) l (b.lots.length - x) x c = done ++ ((if !ngK b k d c then withF c d :: rnd (ngK b k) l (b.lots.length - (d + 1)) (d + 1) (withF c d) else []) ++ rnd (ngK b k) l (b.lots.length - (d + 1)) (d + 1) c) by
              rw [HDN.out, show max d x = d by omega, rnd_step _ _ c hlt, hl, Bool.true_and])
            have hmx : max (d + 1) x = d + 1 := by omega
            have HMX := Lib.hid hmx
            clear hld hmx
            go_upto_region 8 with (fail)
            clear c0 a1
            have HK5 := Lib.hid (HK2.out.trans (HS5.out.mono (fun m _ h => .inr h)))
            have HJ5 := Lib.hid (HJ.out _ O2 O2 wr _ HJ2.out (HS5.out.mono (fun m _ h => by rw [h]; exact HO2a.out _ (.inr rfl))) (fun m h => h) (fun m h => .inl h))
            have hz5 := HS5.out.size
            change Code.wp _ _ _ _ (wr.setCell ⟨A.heap.size + 1, d, none⟩ (.bool false))
            generalize wr.setCell ⟨A.heap.size + 1, d, none⟩ (.bool false) = w5 at *
            have HC5 := Lib.hid (HCB.out.keeps HK5.out (fun h => h.elim hMA (by omega)))
            go_wp2_with (first
              | (refine load_row rfl 99 _ rfl A.heap.size rfl 99 (lotF c) _ HC5.out Try.underlying99 rfl (by kernel_rfl) ?_))
            refine (list_any c _).mono ?_
            rintro e u ⟨p, rfl, hin, _, _, hbu⟩
            have HKu := Lib.hid (HK5.out.after hbu)
            have HJu := Lib.hid (HJ.out _ O2 O2 w5 u HJ5.out (.of_below hbu) (fun m h => h) (fun m h => .inl h))
            have HLu := Lib.hid (HL5.out.below hbu HL5.out.lt)
            have HCu := Lib.hid (HC5.out.below hbu HC5.out.lt)
            have HPu := Lib.hid (HA.out.keeps HKu.out (fun h => h.elim hMy (by omega)) (fun h => h.elim hMb (by omega)) (fun h => h.elim hMc (by omega)))
            have HYu := Lib.hid (HK.out.below (HBelow.out _ HKu.out))
            have HIN := Lib.hid hin
            have hzu := hbu.size
            clear hbu hin HJ5 HL5 HC5 HYK HCw HCR HS5
            have HMEM := Lib.hid (fun i (h : i < (lotsL c).length) => (show (lotsL c).getD i 0 < b.lots.length by
              have e : (lotsL c).getD i 0 = (lotsL c)[i] := by simp [List.getD, h]
              rw [e]
              obtain ⟨h1, h2⟩ := lotsL_mem.1 (List.getElem_mem h)
              have := HCX.out _ h1 h2
              omega))
            have HNG := Lib.hid (show ngK b k d c = (lotsL c).any (nearK b k d) from rfl)
            have hl7 := lotsL_le c
            have HLN := Lib.hid (intsN_length (lotsL c))
            generalize lotsL c = C at *
            rw [HLN.out]
            go_wp2_with fail
            go_loopw [32] (fun jx wx => ∃ j : Nat, j ≤ C.length ∧ jx = .int .i64 j ∧ (C.take j).any (nearK b k d) = false ∧ ∃ y : Later u, wx = y.w) (fun jx _ => C.length - (intOf jx).toNat)
            case atStart => exact ⟨0, by omega, rfl, by simp, ⟨u, Below.refl _ _⟩, rfl⟩
            case round =>
              obtain ⟨j, hj, rfl, hany, y, rfl⟩ := hrel
              have HAN := Lib.hid hany
              clear hany
              have hzy := y.b.size
              by_cases hlj : j < C.length
              · obtain ⟨q, o, hp, h0⟩ := HIN.out j (by rw [HLN.out]; exact hlj)
                subst hp
                rw [intsN_at hlj] at h0
                have hm := HMEM.out j hlj
                have HAT := Lib.hid (anyN_take (f := nearK b k d) hlj)
                have HHIT := Lib.hid (fun h => (show C.any (nearK b k d) = true from List.any_eq_true.2 ⟨C.getD j 0, by rw [show C.getD j 0 = C[j] by simp [List.getD, hlj]]; exact List.getElem_mem hlj, h⟩))
                have j1 : (0 : Int) ≤ (j : Int) := by omega
                have j2 : (j : Int) < (C.length : Int) := by omega
                generalize C.getD j 0 = lj at *
                have HN := Lib.hid (near_any b P mb k d lj hlt hm y.w (HYu.out.below y.b))
                have RT := Lib.hid (y.fr.row HPu.out.t)
                go_wp2_with (first
                  | (refine load_row rfl 89 _ rfl tb rfl 89 (trA b P mb k) _ RT.out Try.underlying89 rfl (by kernel_rfl) ?_))
                refine HN.out.mono ?_
                rintro e v ⟨rfl, hbv⟩
                obtain ⟨y2, hy2⟩ := y.on hbv
                subst hy2
                have hzy2 := y2.b.size
                clear hbv
                cases hn : nearK b k d lj
                · have HA2 := Lib.hid (show (C.take (j + 1)).any (nearK b k d) = false by rw [HAT.out, HAN.out, hn]; rfl)
                  clear hn
                  go_wp2_with fail
                  go_roundw
                  case rel => exact ⟨j + 1, by omega, by go_num, HA2.out, y2, rfl⟩
                  case measure => simp [intOf]; omega
                · have HD2 := Lib.hid (show rnd (ngK b k) l (b.lots.length - x) x c = done ++ rnd (ngK b k) l (b.lots.length - (d + 1)) (d + 1) c by
                    rw [HRS.out, HNG.out, HHIT.out hn]
                    rfl)
                  have HJ6 := Lib.hid (HJ.out _ O2 O2 u y2.w HJu.out (.of_below y2.b) (fun m h => h) (fun m h => .inl h))
                  have HK6 := Lib.hid (HKu.out.after y2.b)
                  have HL6 := Lib.hid (y2.fr.row HLu.out)
                  clear hn
                  go_wp2_with fail
                  go_roundw
                  case rel => exact ⟨d + 1, done, O2, by omega, by go_num, by rw [HMX.out]; exact HD2.out, HO2a.out, HO2b.out, fun m h => by have := HO2c.out m h; omega, HJ6.out, HK6.out, by rw [HMX.out]; exact HL6.out⟩
                  case measure => simp [intOf]; omega
              · obtain rfl : j = C.length := by omega
                have HNF := Lib.hid (show ngK b k d c = false by have h := HAN.out; rw [List.take_length] at h; rw [HNG.out]; exact h)
                have HD2 := Lib.hid (show rnd (ngK b k) l (b.lots.length - x) x c = done ++ (withF c d :: rnd (ngK b k) l (b.lots.length - (d + 1)) (d + 1) (withF c d)) ++ rnd (ngK b k) l (b.lots.length - (d + 1)) (d + 1) c by
                  rw [HRS.out, HNF.out, List.append_assoc]
                  rfl)
                have HSPL := Lib.hid (show L = (before ++ (c :: done)) ++ (withF c d :: rnd (ngK b k) l (b.lots.length - (d + 1)) (d + 1) (withF c d) ++ (rnd (ngK b k) l (b.lots.length - (d + 1)) (d + 1) c ++ after)) by
                  rw [HSP.out, HD2.out]
                  simp)
                have HJ6 := Lib.hid (HJ.out _ O2 O2 u y.w HJu.out (.of_below y.b) (fun m h => h) (fun m h => .inl h))
                have HK6 := Lib.hid (HKu.out.after y.b)
                have HL6 := Lib.hid (y.fr.row HLu.out)
                have HC6 := Lib.hid (y.fr.row HCu.out)
                have HP6 := Lib.hid (HPu.out.keeps (KeepsBut.of_below (M := fun _ => False) y.b) id id id)
                have HWI := Lib.hid (fun w' => with_any c d (by omega) w')
                have HADD := Lib.hid (fun (u2 : World) (hu : From y.w u2) (hcp : Caps cy tb cc li b P mb k u2) => (by
                  have hz2 := hu.b.size
                  exact IH.out (d + 1) (withF c d) (k0 + 1 + done.length) (before ++ (c :: done)) _ O2 u2 hlt (by omega) (fun i hi h => by
                    unfold withF at h
                    by_cases e : i = d
                    · omega
                    · rw [if_neg e] at h
                      have := HCX.out i hi h
                      omega) HSPL.out (by rw [List.length_append, HK0.out, List.length_cons]; omega)
                    (fun m hm => by
                      have h1 := HO2c.out m hm
                      refine ⟨?_, by omega⟩
                      rcases HO2b.out m hm with h | h
                      · exact (HO1.out m h).1
                      · omega)
                    (HJ.out _ O2 O2 y.w u2 HJ6.out (.of_below hu.b) (fun m h => h) (fun m h => .inl h))
                    ((HK1.out.far HK6.out (fun m hm h => h.elim id (fun e => by omega))).trans (KeepsBut.of_below (M := M) hu.b)) hcp
                    (fun h => by rcases HO2b.out _ h with (h | h) | h; exact hy h; omega; omega)
                    (fun h => by rcases HO2b.out _ h with (h | h) | h; exact hc h; omega; omega) : Calls Try.prog 125 #[.agg (lotF (withF c d)), .agg (lotF (leftF l (d + 1))), .pointer (some ⟨cy, 0, none⟩), .pointer (some ⟨tb, 0, none⟩), .pointer (some ⟨cc, 0, none⟩)] u2 (AddPost M J Jx O2 (k0 + 1 + done.length + 1 + (rnd (ngK b k) l (b.lots.length - (d + 1)) (d + 1) (withF c d)).length) u2)))
                obtain ⟨ck, hck⟩ : ∃ v, withF c d = v := ⟨_, rfl⟩
                rw [hck] at HWI HADD HD2
                clear hck
                obtain ⟨lf, hlf⟩ : ∃ v, leftF l (d + 1) = v := ⟨_, rfl⟩
                have HLF := Lib.hid hlf
                rw [hlf] at HADD HL6
                clear hlf
                have hHP := HP6.out
                go_upto_region 13 with (fail)
                have KI := Lib.hid (From.refl y.w)
                have RC := Lib.hid (show Row y.w.drew A.heap.size (lotF c) 99 from HC6.out)
                have RL := Lib.hid (show Row y.w.drew (A.heap.size + 1) (lotF lf) 99 from HL6.out)
                have RP := Lib.hid (show Caps cy tb cc li b P mb k y.w.drew from ⟨hHP.y, hHP.t, hHP.f⟩)
                go_region_held3 (fun w' => w'.cell? ⟨A.heap.size, 0, none⟩ = some (.bool (c 0)) ∧ w'.cell? ⟨A.heap.size, 1, none⟩ = some (.bool (c 1)) ∧ w'.cell? ⟨A.heap.size, 2, none⟩ = some (.bool (c 2)) ∧ w'.cell? ⟨A.heap.size, 3, none⟩ = some (.bool (c 3)) ∧ w'.cell? ⟨A.heap.size, 4, none⟩ = some (.bool (c 4)) ∧ w'.cell? ⟨A.heap.size, 5, none⟩ = some (.bool (c 5)) ∧ w'.cell? ⟨A.heap.size, 6, none⟩ = some (.bool (c 6)) ∧ w'.cell? ⟨A.heap.size + 1, 0, none⟩ = some (.bool (lf 0)) ∧ w'.cell? ⟨A.heap.size + 1, 1, none⟩ = some (.bool (lf 1)) ∧ w'.cell? ⟨A.heap.size + 1, 2, none⟩ = some (.bool (lf 2)) ∧ w'.cell? ⟨A.heap.size + 1, 3, none⟩ = some (.bool (lf 3)) ∧ w'.cell? ⟨A.heap.size + 1, 4, none⟩ = some (.bool (lf 4)) ∧ w'.cell? ⟨A.heap.size + 1, 5, none⟩ = some (.bool (lf 5)) ∧ w'.cell? ⟨A.heap.size + 1, 6, none⟩ = some (.bool (lf 6)) ∧ w'.cell? ⟨cc, 0, none⟩ = some (.func (.func 125) #[] #[.pointer (some ⟨cy, 0, none⟩), .pointer (some ⟨tb, 0, none⟩), .pointer (some ⟨cc, 0, none⟩)]))
                  (exact ⟨RC.out.cell 0 rfl, RC.out.cell 1 rfl, RC.out.cell 2 rfl, RC.out.cell 3 rfl, RC.out.cell 4 rfl, RC.out.cell 5 rfl, RC.out.cell 6 rfl, RL.out.cell 0 rfl, RL.out.cell 1 rfl, RL.out.cell 2 rfl, RL.out.cell 3 rfl, RL.out.cell 4 rfl, RL.out.cell 5 rfl, RL.out.cell 6 rfl, RP.out.f.cell 0 rfl⟩)
                  (first
                    | (go_at_call 113; (with_reducible refine (HWI.out _).mono ?_); rintro e u2 ⟨rfl, hbu⟩; have KI := Lib.hid (by first | with_reducible exact KI.out.drew.below hbu | with_reducible exact KI.out.below hbu); have RC := Lib.hid (RC.out.below hbu RC.out.lt); have RL := Lib.hid (RL.out.below hbu RL.out.lt); have RP := Lib.hid (RP.out.keeps (KeepsBut.of_below (M := fun _ => False) hbu) id id id); clear hbu)
                    | (go_at_call 125; (first | with_reducible refine (HADD.out _ KI.out RP.out).mono ?_ | with_reducible refine (HADD.out _ KI.out.drew RP.out).mono ?_); rintro e B2 ⟨hkb, vv, O3, rfl, h1, h2, h3, h4, h5⟩; have HKB2 := Lib.hid hkb; have H1 := Lib.hid h1; have H2 := Lib.hid h2; have H3 := Lib.hid h3; have H4 := Lib.hid h4; have H5 := Lib.hid h5; have RC := Lib.hid (RC.out.keeps hkb hMA); have RL := Lib.hid (RL.out.keeps hkb hMA1); have RP := Lib.hid (RP.out.keeps hkb hMy hMb hMc); have HUS := Lib.hid KI.out.b; clear hkb h1 h2 h3 h4 h5))
                all_goals
                  have hzu2 := HUS.out.size
                  have hzB2 := HKB2.out.size
                  have HK7 := Lib.hid ((HK6.out.after HUS.out).trans (HKB2.out.mono (fun m _ h => .inl h)))
                  cases vv
                  · go_wp2_with fail
                    go_ret
                    exact ⟨HKA.out.far HK7.out (fun m hm h => h.elim id (fun e => by omega)), false, O3, rfl, fun m h => H1.out m (HO2a.out m (.inl h)),
                      fun m h => by
                        rcases H2.out m h with h | h
                        · rcases HO2b.out m h with (h | h) | h
                          · exact .inl h
                          · exact .inr (by omega)
                          · exact .inr (by omega)
                        · exact .inr (by omega),
                      H3.out, (fun h => by cases h), fun _ => H5.out (by trivial)⟩
                  · go_wp2_with fail
                    go_roundw
                    case rel =>
                      exact ⟨d + 1, done ++ (ck :: rnd (ngK b k) l (b.lots.length - (d + 1)) (d + 1) ck), O3, by omega, by go_num, by rw [HMX.out]; exact HD2.out, fun m h => H1.out m (HO2a.out m h),
                        fun m h => by
                          rcases H2.out m h with h | h
                          · exact HO2b.out m h
                          · exact .inr (by omega),
                        H3.out, by rw [List.length_append, List.length_cons]; have h := H4.out (by trivial); rw [show k0 + 1 + (done.length + ((rnd (ngK b k) l (b.lots.length - (d + 1)) (d + 1) ck).length + 1)) = k0 + 1 + done.length + 1 + (rnd (ngK b k) l (b.lots.length - (d + 1)) (d + 1) ck).length by omega]; exact h, HK7.out, by rw [HMX.out, HLF.out]; exact RL.out⟩
                    case measure => simp [intOf]; omega
        · obtain rfl : d = b.lots.length := by omega
          have HF := Lib.hid (show rnd (ngK b k) l (b.lots.length - x) x c = done by
            have h := HDN.out
            rw [show b.lots.length - max b.lots.length x = 0 by omega] at h
            rw [h]; simp [rnd])
          go_wp2_with fail
          rw [Exit.noGoto_ret]
          go_ret
          exact ⟨HKA.out.far HK2.out (fun m hm h => h.elim id (fun e => by omega)), true, O2, rfl, fun m h => HO2a.out m (.inl h),
            fun m h => by
              rcases HO2b.out m h with (h | h) | h
              · exact .inl h
              · exact .inr (by omega)
              · exact .inr (by omega),
            HO2c.out, (fun _ => by rw [HF.out]; exact HJ2.out), (fun h => by cases h)⟩
    · have HJ2 := Lib.hid hJx1
      have HK2 := Lib.hid (HKA.out.trans hkB)
      have hzB := hkB.size
      clear hkB hJx1 hy' cy0
      gi_wp2
      rw [Exit.noGoto_ret]
      go_wp2
      go_ret
      exact ⟨HK2.out, false, fun m => O m ∨ m = A.heap.size + 1, rfl, fun m h => .inl h, fun m h => h.imp id (fun e => by omega), fun m h => by have := (HO1.out m h).2; omega, (fun h => by cases h), fun _ => HJ2.out⟩
/-- What the iterator of all choices returns. -/
def IterPost (M : Nat → Prop) (J : Nat → (Nat → Prop) → World → Prop) (Jx : (Nat → Prop) → World → Prop) (n : Nat) (W : World) (e : Ending) (B : World) : Prop :=
  (∃ v, e = .returned v) ∧ KeepsBut M W B ∧ ∃ O, (∀ m, O m → W.heap.size ≤ m) ∧ (J n O B ∨ Jx O B)
theorem leftF_zero (l : Nat → Bool) : leftF l 0 = l := by funext i; simp [leftF]
set_option maxRecDepth 100000 in
set_option maxHeartbeats 3200000 in
theorem choices_any (b : Yb) (P : Yp) (mb : Nat) (k : Bool) (of : Nat → Bool) (w : World) : Calls Try.prog 104 #[.agg (trA b P mb k), .agg (lotF of)] w fun e w' => e = .returned (.func (.func 124) #[] #[.pointer (some ⟨w.heap.size, 0, none⟩), .pointer (some ⟨w.heap.size + 1, 0, none⟩)]) ∧ (w.alloc (.cells (trA b P mb k) 89)).alloc (.cells (lotF of) 99) = w' := by
  go_enter Try.func104, Try.ntmps104
  go_wp2
  go_ret
  exact ⟨rfl, rfl⟩
set_option maxRecDepth 100000 in
set_option maxHeartbeats 3200000 in
theorem choices_iter (b : Yb) (P : Yp) (mb : Nat) (k : Bool) (of : Nat → Bool) (hof : ∀ i, i < 7 → of i = true → i < b.lots.length) (w0 : World) (hK : YkAt w0 P mb b) (tb ob : Nat) (W : World) (hW0 : Below w0.heap.size w0 W) (hr : Row W tb (trA b P mb k) 89) (hr2 : Row W ob (lotF of) 99) :
    IterO Try.prog 124 #[.pointer (some ⟨tb, 0, none⟩), .pointer (some ⟨ob, 0, none⟩)] (fun m => m < w0.heap.size ∨ m = tb ∨ m = ob) (choK b k of).length (LotX (choK b k of)) W := by
  intro li M J Jx hM hJ hJx hY h0
  show Calls _ _ #[.func (.yield li) #[] #[], .pointer (some ⟨tb, 0, none⟩), .pointer (some ⟨ob, 0, none⟩)] W (IterPost M J Jx (choK b k of).length W)
  have hzb := hr.lt
  have hzo := hr2.lt
  have hMb : ¬ M tb := fun h => (hM _ h).2 (.inr (.inl rfl))
  have hMo : ¬ M ob := fun h => (hM _ h).2 (.inr (.inr rfl))
  have hM : ∀ m, M m → m < W.heap.size ∧ ¬ (m < w0.heap.size ∨ m = tb) := fun m h => ⟨(hM m h).1, fun e => (hM m h).2 (e.imp id .inl)⟩
  obtain ⟨A0, hA0⟩ : ∃ A0, A0 = (W.alloc (.cells #[.func (.yield li) #[] #[]] 102)).alloc (.cells #[.func (.func 125) #[] #[.pointer (some ⟨W.heap.size, 0, none⟩), .pointer (some ⟨tb, 0, none⟩), .pointer (some ⟨W.heap.size + 1, 0, none⟩)]] 151) := ⟨_, rfl⟩
  have HA0 := Lib.hid hA0
  have hbA : Below W.heap.size W A0 := by rw [hA0]; exact below_alloc2 _ _ _
  have hzA := hbA.size
  have hCA : Caps W.heap.size tb (W.heap.size + 1) li b P mb k A0 := by
    rw [hA0]
    exact ⟨(Row.new _ _ _).alloc _, (hr.alloc _).alloc _, Row.new1 _ _ _ _⟩
  have HOB := Lib.hid (show Row A0 ob (lotF of) 99 by rw [hA0]; exact (hr2.alloc _).alloc _)
  have HCA := Lib.hid hCA
  have HBA := Lib.hid hbA
  have HM := Lib.hid hM
  have HON := Lib.hid (fun w' (hu : Below A0.heap.size A0 w') => only_served b P mb k of (fun i => servK b k i) w' (fun i hi ho w'' hb => served_any b P mb k i (hof i hi ho) w'' (((hK.below hW0).below (hbA.trans (hu.mono hzA))).below hb)))
  have HADD := Lib.hid (fun (u : World) (hu : Below A0.heap.size A0 u) (hcp : Caps W.heap.size tb (W.heap.size + 1) li b P mb k u) => (by
    have hzu := hu.size
    have hbu : Below W.heap.size W u := hbA.trans (hu.mono hzA)
    have h := add_any b P mb k of w0 W hK W.heap.size tb (W.heap.size + 1) li M J Jx hW0 hM (Nat.le_refl _) (by omega) hzb hJ hJx hY (b.lots.length + 1) 0 noneF 0 [] [] (fun _ => False) u (by omega) (by omega) (fun i _ h => by cases h)
      (by simp [choK]) rfl (fun m hm => hm.elim) (hJ 0 _ _ _ _ h0 (.of_below hbu) (fun m h => h) (fun m h => .inl h)) (.of_below hbu) hcp id id
    rw [leftF_zero, show 0 + 1 + (rnd (ngK b k) (fun i => of i && servK b k i) (b.lots.length - 0) 0 noneF).length = (choK b k of).length by unfold choK; rw [List.length_cons, Nat.sub_zero]; omega] at h
    exact h : Calls Try.prog 125 #[.agg noneA, .agg (lotF fun i => of i && servK b k i), .pointer (some ⟨W.heap.size, 0, none⟩), .pointer (some ⟨tb, 0, none⟩), .pointer (some ⟨W.heap.size + 1, 0, none⟩)] u (AddPost M J Jx (fun _ => False) (choK b k of).length u)))
  obtain ⟨lf, hlf⟩ : ∃ v, (fun i => of i && servK b k i) = v := ⟨_, rfl⟩
  rw [hlf] at HON HADD
  clear hlf hM hJ hJx hY h0 hr hr2 hA0 hCA hbA hK hW0 hof
  go_enter Try.func124, Try.ntmps124
  go_upto_region 3 with (fail)
  rw [← HA0.out]
  have hHP := HCA.out
  have KA := Lib.hid (show Below A0.heap.size A0 A0.drew from (Below.refl _ _).drew)
  have RP := Lib.hid (show Caps W.heap.size tb (W.heap.size + 1) li b P mb k A0.drew from ⟨hHP.y, hHP.t, hHP.f⟩)
  have RO := Lib.hid (show Row A0.drew ob (lotF of) 99 from HOB.out)
  have hMy : ¬ M W.heap.size := fun h => by have := (HM.out _ h).1; omega
  have hMc : ¬ M (W.heap.size + 1) := fun h => by have := (HM.out _ h).1; omega
  go_region_held3 (fun w' => w'.cell? ⟨tb, 0, none⟩ = some (.slice P.pl b.lots.length P.cl) ∧ w'.cell? ⟨tb, 1, none⟩ = some (.slice P.pd b.doors.length P.cd) ∧ w'.cell? ⟨tb, 2, none⟩ = some (.slice P.pb b.buckets.length P.cb) ∧ w'.cell? ⟨tb, 3, none⟩ = some (.slice P.ps b.spare.length P.cs) ∧ w'.cell? ⟨tb, 4, none⟩ = some (.int .i64 b.apart) ∧ w'.cell? ⟨tb, 5, none⟩ = some (.int .i64 b.door) ∧ w'.cell? ⟨tb, 6, none⟩ = some (.int .i64 b.bucket) ∧ w'.cell? ⟨tb, 7, none⟩ = some (.int .i64 b.err) ∧ w'.cell? ⟨tb, 8, none⟩ = some (.map (some mb)) ∧ w'.cell? ⟨tb, 9, none⟩ = some (.func (.func (idE k)) #[] #[]) ∧ w'.cell? ⟨tb, 10, none⟩ = some (.func (.func (idO k)) #[] #[]) ∧ w'.cell? ⟨tb, 11, none⟩ = some (.func (.func (idE k)) #[] #[]) ∧ w'.cell? ⟨ob, 0, none⟩ = some (.bool (of 0)) ∧ w'.cell? ⟨ob, 1, none⟩ = some (.bool (of 1)) ∧ w'.cell? ⟨ob, 2, none⟩ = some (.bool (of 2)) ∧ w'.cell? ⟨ob, 3, none⟩ = some (.bool (of 3)) ∧ w'.cell? ⟨ob, 4, none⟩ = some (.bool (of 4)) ∧ w'.cell? ⟨ob, 5, none⟩ = some (.bool (of 5)) ∧ w'.cell? ⟨ob, 6, none⟩ = some (.bool (of 6)) ∧ w'.cell? ⟨W.heap.size + 1, 0, none⟩ = some (.func (.func 125) #[] #[.pointer (some ⟨W.heap.size, 0, none⟩), .pointer (some ⟨tb, 0, none⟩), .pointer (some ⟨W.heap.size + 1, 0, none⟩)]))
    (exact ⟨RP.out.t.cell 0 rfl, RP.out.t.cell 1 rfl, RP.out.t.cell 2 rfl, RP.out.t.cell 3 rfl, RP.out.t.cell 4 rfl, RP.out.t.cell 5 rfl, RP.out.t.cell 6 rfl, RP.out.t.cell 7 rfl, RP.out.t.cell 8 rfl, RP.out.t.cell 9 rfl, RP.out.t.cell 10 rfl, RP.out.t.cell 11 rfl, RO.out.cell 0 rfl, RO.out.cell 1 rfl, RO.out.cell 2 rfl, RO.out.cell 3 rfl, RO.out.cell 4 rfl, RO.out.cell 5 rfl, RO.out.cell 6 rfl, RP.out.f.cell 0 rfl⟩)
    (first
      | (go_at_call 111; (with_reducible refine (HON.out _ KA.out).mono ?_); rintro e u ⟨rfl, hbu⟩; have KA := Lib.hid (KA.out.trans (hbu.mono KA.out.size)); have RO := Lib.hid (RO.out.below hbu RO.out.lt); have RP := Lib.hid (RP.out.keeps (KeepsBut.of_below (M := fun _ => False) hbu) id id id); clear hbu)
      | (go_at_call 125; (with_reducible refine (HADD.out _ KA.out RP.out).mono ?_); rintro e B ⟨hkb, v, O3, rfl, h1, h2, h3, h4, h5⟩; have HKB := Lib.hid ((KeepsBut.of_below (M := M) (HBA.out.trans (KA.out.mono hzA))).trans hkb); have H2 := Lib.hid h2; have H4 := Lib.hid h4; have H5 := Lib.hid h5; have HZU := Lib.hid KA.out.size; have RP := Lib.hid (RP.out.keeps hkb hMy hMb hMc); have RO := Lib.hid (RO.out.keeps hkb hMo); clear hkb h1 h2 h3 h4 h5))
  all_goals
    go_wp2_with fail
    go_end0
    refine ⟨⟨_, rfl⟩, HKB.out, O3, fun m h => ?_, ?_⟩
    · rcases H2.out m h with h | h
      · exact h.elim
      · have := HZU.out; omega
    · cases v
      · exact .inr (H5.out rfl)
      · exact .inl (H4.out rfl)
end Go.Proofs.Ytajkgfeockcbpaa
