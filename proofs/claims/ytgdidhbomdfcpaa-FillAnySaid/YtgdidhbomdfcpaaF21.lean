/- The walks of layer 5: the plans, produced one by one. -/
import Derived.Test.YtgdidhbomdfcpaaF20
namespace Go.Proofs.Ytgdidhbomdfcpaa
open Go.RowKit Go.Maps
attribute [local go_sem] Oper.semAt_some

/-- What the closure that cuts has caught. -/
structure Caps (cy cb cc li : Nat) (b : Bf) (p : Option Addr) (c mb : Nat) (A : World) : Prop where
  y : Row A cy #[.func (.yield li) #[] #[]] 88
  k : Row A cb (bkA b p c mb) 79
  f : Row A cc #[.func (.func 110) #[] #[.pointer (some ⟨cy, 0, none⟩), .pointer (some ⟨cb, 0, none⟩), .pointer (some ⟨cc, 0, none⟩)]] 128
theorem Caps.keeps {cy cb cc li : Nat} {b : Bf} {p : Option Addr} {c mb : Nat} {A B : World} {N : Nat → Prop} (h : Caps cy cb cc li b p c mb A) (k : KeepsBut N A B) (h1 : ¬ N cy) (h2 : ¬ N cb) (h3 : ¬ N cc) : Caps cy cb cc li b p c mb B := ⟨h.y.keeps k h1, h.k.keeps k h2, h.f.keeps k h3⟩
/-- The values of a round: a plan in memory that the iterator does not write. -/
def PlanX (b : Bf) (nn : Nat) (k : Nat) (x : Array Value) (O : Nat → Prop) (A : World) : Prop :=
  ∃ q cq, x = #[.slice q ((plansB b).getD k []).length cq] ∧ IntsAt A q ((plansB b).getD k []) ∧ ∀ m o, 0 < ((plansB b).getD k []).length → q = some ⟨m, o, none⟩ → nn ≤ m ∧ ¬ O m
theorem PlanX.mono {b : Bf} {n n' k : Nat} {x : Array Value} {O : Nat → Prop} {A : World} (h : PlanX b n k x O A) (hn : n' ≤ n) : PlanX b n' k x O A := by
  obtain ⟨q, cq, h1, h2, h3⟩ := h
  exact ⟨q, cq, h1, h2, fun m o h4 h5 => ⟨Nat.le_trans hn (h3 m o h4 h5).1, (h3 m o h4 h5).2⟩⟩
theorem eq_left' (g : Nat → Bool) (x n : Nat) (hn : n ≤ 8) (hg : ∀ i, i < 8 → g i = decide (x ≤ i ∧ i < n)) (d : Bool) (hd : decide (n ≤ x) = d) (w : World) : (Op.equalIn 10000 130 (.agg #[.bool (g 0), .bool (g 1), .bool (g 2), .bool (g 3), .bool (g 4), .bool (g 5), .bool (g 6), .bool (g 7)]) (.agg #[.bool false, .bool false, .bool false, .bool false, .bool false, .bool false, .bool false, .bool false])).run Try.prog w = .ok d w := by
  rw [show (#[.bool (g 0), .bool (g 1), .bool (g 2), .bool (g 3), .bool (g 4), .bool (g 5), .bool (g 6), .bool (g 7)] : Array Value) = leftR x n from leftF_congr hg, leftR_bools, show (#[.bool false, .bool false, .bool false, .bool false, .bool false, .bool false, .bool false, .bool false] : Array Value) = boolsA [false, false, false, false, false, false, false, false] from rfl,
    eq_bools 9998 130 4 8 (by kernel_rfl) (by kernel_rfl) (fun w => by simp [go_sem]) _ _ rfl rfl, ← hd]
  congr 1
  rw [Bool.eq_iff_iff]
  simp
  omega
theorem mid_get {α : Type} (a : List α) (x : α) (c : List α) (d : α) : (a ++ [x] ++ c).getD a.length d = x := by simp
/-- What the closure that cuts returns, and what is so then. -/
def CutPost (M : Nat → Prop) (J : Nat → (Nat → Prop) → World → Prop) (Jx : (Nat → Prop) → World → Prop) (O : Nat → Prop) (k : Nat) (A : World) (e : Ending) (B : World) : Prop :=
  KeepsBut M A B ∧ ∃ (v : Bool) (O' : Nat → Prop), e = .returned (.bool v) ∧ (∀ m, O m → O' m) ∧ (∀ m, O' m → O m ∨ A.heap.size ≤ m) ∧ (∀ m, O' m → m < B.heap.size) ∧ (v = true → J k O' B) ∧ (v = false → Jx O' B)
theorem leftR_lit (x n : Nat) : ∃ g : Nat → Bool, leftR x n = #[.bool (g 0), .bool (g 1), .bool (g 2), .bool (g 3), .bool (g 4), .bool (g 5), .bool (g 6), .bool (g 7)] ∧ ∀ i, i < 8 → g i = decide (x ≤ i ∧ i < n) := ⟨_, rfl, fun _ _ => rfl⟩
set_option maxRecDepth 100000 in
set_option maxHeartbeats 3200000 in
theorem cut_any (b : Bf) (p : Option Addr) (c mb : Nat) (w0 W : World) (hB : BkF w0 p c mb b) (cy cb cc li : Nat) (M : Nat → Prop) (J : Nat → (Nat → Prop) → World → Prop) (Jx : (Nat → Prop) → World → Prop)
    (hW0 : Below w0.heap.size w0 W) (hM : ∀ m, M m → m < W.heap.size ∧ ¬ (m < w0.heap.size ∨ m = cb)) (hcy : W.heap.size ≤ cy) (hcc : W.heap.size ≤ cc) (hcb : cb < W.heap.size) (hJ : ∀ k, StableO (J k)) (hJx : StableO Jx)
    (hY : ∀ k x O A, k < (plansB b).length → PlanX b W.heap.size k x O A → (∀ m, O m → W.heap.size ≤ m ∧ m < A.heap.size) → J k O A → KeepsBut M W A → YieldAt Fence.wide 0 Try.prog li x A fun e B =>
      KeepsBut M A B ∧ ((e = .returned (.bool true) ∧ J (k + 1) O B) ∨ (e = .returned (.bool false) ∧ Jx O B))) :
    ∀ (f x : Nat) (pl : List Int) (q : Option Addr) (cq k0 : Nat) (before after : List (List Int)) (O : Nat → Prop) (A : World) (g : Nat → Bool), x ≤ b.hs.length → b.hs.length - x < f → pl.length ≤ x → pl.length ≤ cq → (q = none → pl = []) → IntsAt A q pl →
      (∀ m o, 0 < pl.length → q = some ⟨m, o, none⟩ → W.heap.size ≤ m ∧ ¬ O m) → plansB b = before ++ (plansL (grN b) b.hs.length x).map (pl ++ ·) ++ after → before.length = k0 → (∀ m, O m → W.heap.size ≤ m ∧ m < A.heap.size) → J k0 O A → KeepsBut M W A → Caps cy cb cc li b p c mb A → ¬ O cy → ¬ O cc →
      (∀ i, i < 8 → g i = decide (x ≤ i ∧ i < b.hs.length)) →
      Calls Try.prog 110 #[.slice q pl.length cq, .int .i64 x, .agg #[.bool (g 0), .bool (g 1), .bool (g 2), .bool (g 3), .bool (g 4), .bool (g 5), .bool (g 6), .bool (g 7)], .pointer (some ⟨cy, 0, none⟩), .pointer (some ⟨cb, 0, none⟩), .pointer (some ⟨cc, 0, none⟩)] A (CutPost M J Jx O (k0 + (plansL (grN b) b.hs.length x).length) A) := by
  have HB := Lib.hid hB
  have HM := Lib.hid hM
  have HJ := Lib.hid hJ
  have HJX := Lib.hid hJx
  have HY := Lib.hid hY
  have HW0 := Lib.hid hW0
  have hn8 := hB.ok.n8
  clear hB hM hJ hJx hY hW0
  intro f
  induction f with
  | zero =>
    intro x pl q cq k0 before after O A g hx hf
    omega
  | succ f ih =>
    intro x pl q cq k0 before after O A g hx hf hpl hcq hq hin hqO hsp hk0 hO hj hkp hC hy hc hg
    have IH := Lib.hid ih
    have HQ := Lib.hid hq
    have HIN := Lib.hid hin
    have HQO := Lib.hid hqO
    have HSP := Lib.hid hsp
    have HK0 := Lib.hid hk0
    have HO := Lib.hid hO
    have HJ0 := Lib.hid hj
    have HKP := Lib.hid hkp
    have HC := Lib.hid hC
    have HG := Lib.hid hg
    have hzW := hkp.size
    clear ih hq hin hqO hsp hk0 hO hj hkp hC hg
    have HO1 := Lib.hid (show ∀ m, (O m ∨ m = A.heap.size) → W.heap.size ≤ m ∧ m < (A.alloc (.cells #[.bool (g 0), .bool (g 1), .bool (g 2), .bool (g 3), .bool (g 4), .bool (g 5), .bool (g 6), .bool (g 7)] 130)).heap.size from fun m hm => by
      rcases hm with h | rfl
      · have := HO.out m h; simp; omega
      · simp; omega)
    have HJ1 := Lib.hid (HJ.out k0 O (fun m => O m ∨ m = A.heap.size) A (A.alloc (.cells #[.bool (g 0), .bool (g 1), .bool (g 2), .bool (g 3), .bool (g 4), .bool (g 5), .bool (g 6), .bool (g 7)] 130)) HJ0.out (.of_below (below_alloc _ _)) (fun m h => .inl h) (fun m h => h.imp id (fun e => by omega)))
    have HA := Lib.hid (HC.out.keeps (KeepsBut.of_below (M := fun _ => False) (below_alloc A (.cells #[.bool (g 0), .bool (g 1), .bool (g 2), .bool (g 3), .bool (g 4), .bool (g 5), .bool (g 6), .bool (g 7)] 130))) id id id)
    have HK1 := Lib.hid (HKP.out.alloc (.cells #[.bool (g 0), .bool (g 1), .bool (g 2), .bool (g 3), .bool (g 4), .bool (g 5), .bool (g 6), .bool (g 7)] 130))
    have HKA := Lib.hid (KeepsBut.of_below (M := M) (below_alloc A (.cells #[.bool (g 0), .bool (g 1), .bool (g 2), .bool (g 3), .bool (g 4), .bool (g 5), .bool (g 6), .bool (g 7)] 130)))
    have HIN1 := Lib.hid (HIN.out.below (below_alloc A (.cells #[.bool (g 0), .bool (g 1), .bool (g 2), .bool (g 3), .bool (g 4), .bool (g 5), .bool (g 6), .bool (g 7)] 130)))
    have cy0 := HA.out.y.cell 0 (v := .func (.yield li) #[] #[]) rfl
    by_cases hxn : x = b.hs.length
    · have heq := eq_left' g x b.hs.length hn8 HG.out true (by simp; omega) (A.alloc (.cells #[.bool (g 0), .bool (g 1), .bool (g 2), .bool (g 3), .bool (g 4), .bool (g 5), .bool (g 6), .bool (g 7)] 130))
      have HPG := Lib.hid (show k0 < (plansB b).length ∧ (plansB b).getD k0 [] = pl ∧ (plansL (grN b) b.hs.length x).length = 1 by
        have h := HSP.out
        rw [hxn, plansL_end, List.map_cons, List.map_nil, List.append_nil] at h
        refine ⟨?_, ?_, by rw [hxn, plansL_end]; rfl⟩
        · rw [h, ← HK0.out]; simp
        · rw [h, ← HK0.out]; exact mid_get _ _ _ _)
      obtain ⟨fn, tmps, assign, body, hy, hR⟩ := HY.out k0 #[.slice q pl.length cq] (fun m => O m ∨ m = A.heap.size) (A.alloc (.cells #[.bool (g 0), .bool (g 1), .bool (g 2), .bool (g 3), .bool (g 4), .bool (g 5), .bool (g 6), .bool (g 7)] 130)) HPG.out.1
        (by
          refine ⟨q, cq, by rw [HPG.out.2.1], by rw [HPG.out.2.1]; exact HIN1.out, fun m o h1 h2 => ?_⟩
          rw [HPG.out.2.1] at h1
          have h3 := HQO.out m o h1 h2
          refine ⟨h3.1, fun h => h.elim h3.2 fun e => ?_⟩
          obtain ⟨b', o', e', hc'⟩ := HIN.out 0 h1
          rw [h2] at e'
          cases e'
          have := cell_block hc'
          have hs : m < A.heap.size := this
          omega) HO1.out HJ1.out HK1.out
      have hy : (Instr.yield li #[.slice q pl.length cq]).run Try.prog _ = _ := hy
      have HR := Lib.hid hR
      clear hR
      go_enter Try.func110, Try.ntmps110
      go_upto_region 2 with (fail)
      refine (wpIn_wide (n := 1)).1 ?_
      gi_wp2_with fail
      refine HR.out.mono ?_
      rintro e B ⟨hkB, (⟨rfl, hJ1⟩ | ⟨rfl, hJx1⟩)⟩
      · have HJ2 := Lib.hid hJ1
        have HK2 := Lib.hid (HKA.out.trans hkB)
        have hzB := hkB.size
        clear hkB hJ1 hy heq cy0
        gi_wp2
        go_wp2
        go_ret
        exact ⟨HK2.out, true, fun m => O m ∨ m = A.heap.size, rfl, fun m h => .inl h, fun m h => h.imp id (fun e => by omega), fun m h => by have := (HO1.out m h).2; omega, fun _ => by rw [HPG.out.2.2]; exact HJ2.out, (fun h => by cases h)⟩
      · have HJ2 := Lib.hid hJx1
        have HK2 := Lib.hid (HKA.out.trans hkB)
        have hzB := hkB.size
        clear hkB hJx1 hy heq cy0
        gi_wp2
        go_wp2
        go_ret
        exact ⟨HK2.out, false, fun m => O m ∨ m = A.heap.size, rfl, fun m h => .inl h, fun m h => h.imp id (fun e => by omega), fun m h => by have := (HO1.out m h).2; omega, (fun h => by cases h), fun _ => HJ2.out⟩
    · have heq := eq_left' g x b.hs.length hn8 HG.out false (by simp; omega) (A.alloc (.cells #[.bool (g 0), .bool (g 1), .bool (g 2), .bool (g 3), .bool (g 4), .bool (g 5), .bool (g 6), .bool (g 7)] 130))
      have HRL := Lib.hid (show Row (A.alloc (.cells #[.bool (g 0), .bool (g 1), .bool (g 2), .bool (g 3), .bool (g 4), .bool (g 5), .bool (g 6), .bool (g 7)] 130)) A.heap.size (leftR x b.hs.length) 130 by
        rw [← show (#[.bool (g 0), .bool (g 1), .bool (g 2), .bool (g 3), .bool (g 4), .bool (g 5), .bool (g 6), .bool (g 7)] : Array Value) = leftR x b.hs.length from leftF_congr HG.out]; exact Row.new _ _ _)
      have hzA : A.heap.size < (A.alloc (.cells #[.bool (g 0), .bool (g 1), .bool (g 2), .bool (g 3), .bool (g 4), .bool (g 5), .bool (g 6), .bool (g 7)] 130)).heap.size := HRL.out.lt
      have hMA : ¬ M A.heap.size := fun h => by have := (HM.out _ h).1; omega
      have hMy : ¬ M cy := fun h => by have := (HM.out _ h).1; omega
      have hMc : ¬ M cc := fun h => by have := (HM.out _ h).1; omega
      have hMb : ¬ M cb := fun h => (HM.out _ h).2 (.inr rfl)
      have hzy := HC.out.y.lt
      have hzc := HC.out.f.lt
      have hzb := HC.out.k.lt
      have hx8 : x < 8 := by omega
      have hgr : ((grN b : Nat) : Int) = b.gr := by have := HB.out.ok.g1; unfold grN; omega
      have hg4 := HB.out.ok.g2
      have HBelow := Lib.hid (show ∀ w', KeepsBut (fun m => M m ∨ m = A.heap.size) (A.alloc (.cells #[.bool (g 0), .bool (g 1), .bool (g 2), .bool (g 3), .bool (g 4), .bool (g 5), .bool (g 6), .bool (g 7)] 130)) w' → Below w0.heap.size w0 w' from fun w' h =>
        below_keep (below_keep HW0.out HK1.out (by have := HW0.out.size; omega) (fun m hm => by have := (HM.out m hm).2; omega)) h (by have := HW0.out.size; omega) (fun m hm => by
          rcases hm with hm | rfl
          · have := (HM.out m hm).2; omega
          · have := HW0.out.size; omega))
      go_enter Try.func110, Try.ntmps110
      go_wp2_with fail
      clear heq cy0
      generalize A.alloc (.cells #[.bool (g 0), .bool (g 1), .bool (g 2), .bool (g 3), .bool (g 4), .bool (g 5), .bool (g 6), .bool (g 7)] 130) = A1 at *
      go_loopw [10] (fun i wr => ∃ (d : Nat) (O2 : Nat → Prop), x ≤ d ∧ d ≤ b.hs.length ∧ d ≤ x + grN b ∧ i = .int .i64 ((d : Int) + 1) ∧ (∀ m, (O m ∨ m = A.heap.size) → O2 m) ∧ (∀ m, O2 m → (O m ∨ m = A.heap.size) ∨ A1.heap.size ≤ m) ∧ (∀ m, O2 m → m < wr.heap.size) ∧ J (k0 + (plansTo (grN b) b.hs.length x (d - x)).length) O2 wr ∧ KeepsBut (fun m => M m ∨ m = A.heap.size) A1 wr ∧ Row wr A.heap.size (leftR d b.hs.length) 130) (fun i _ => 10 - (intOf i).toNat)
      case atStart => exact ⟨x, _, by omega, by omega, by omega, rfl, fun m h => h, fun m h => .inl h, fun m h => (HO1.out m h).2, by rw [Nat.sub_self]; exact HJ1.out, KeepsBut.refl _ _, HRL.out⟩
      case round =>
        obtain ⟨d, O2, hxd, hdn, hdg, rfl, hO2a, hO2b, hO2c, hj2, hk2, hrl⟩ := hrel
        have HBw := Lib.hid (HB.out.below (HBelow.out _ hk2))
        have HCw := Lib.hid (HA.out.keeps hk2 (fun h => h.elim hMy (by omega)) (fun h => h.elim hMb (by omega)) (fun h => h.elim hMc (by omega)))
        have k0' := HCw.out.k.cell 0 (v := .int .i64 b.pr) rfl
        have k1' := HCw.out.k.cell 1 (v := .int .i64 b.le) rfl
        have k2' := HCw.out.k.cell 2 (v := .int .i64 b.mo) rfl
        have k3' := HCw.out.k.cell 3 (v := .int .i64 b.gr) rfl
        have k4' := HCw.out.k.cell 4 (v := .slice p b.hs.length c) rfl
        have k5' := HCw.out.k.cell 5 (v := .map (some mb)) rfl
        have HO2a := Lib.hid hO2a
        have HO2b := Lib.hid hO2b
        have HO2c := Lib.hid hO2c
        have HJ2 := Lib.hid hj2
        have HK2 := Lib.hid hk2
        have HL2 := Lib.hid hrl
        have hzr := hk2.size
        clear hO2a hO2b hO2c hj2 hk2 hrl
        by_cases hbx : d + 1 ≤ b.hs.length ∧ d + 1 ≤ x + grN b
        · obtain ⟨hb1, hb2⟩ := hbx
          have HI := Lib.hid (by have h := isBox_any b p c mb (x : Int) ((d : Int) + 1) (I64_of (by omega) (by omega)) (I64_of (by omega) (by omega)) wr HBw.out; rw [show boxB b (x : Int) ((d : Int) + 1) = true by unfold boxB; simp; omega] at h; exact h : Calls Try.prog 98 #[.agg (bkA b p c mb), .agg #[.int .i64 x, .int .i64 ((d : Int) + 1)]] wr fun e w' => e = .returned (.bool true) ∧ Below wr.heap.size wr w')
          go_wp2_with fail
          refine HI.out.mono ?_
          rintro e w4 ⟨rfl, hb4⟩
          have HK4 := Lib.hid (HK2.out.after hb4)
          have HL4 := Lib.hid (HL2.out.below hb4 HL2.out.lt)
          have HJ4 := Lib.hid (HJ.out _ O2 O2 wr w4 HJ2.out (.of_below hb4) (fun m h => h) (fun m h => .inl h))
          have hz4 := hb4.size
          have a0 := HL4.out.cell d (leftF_at _ (by omega))
          have a1 := HL4.out.free d
          have i1 : (0 : Int) ≤ (d : Int) := by omega
          have i2 : (d : Int) < 8 := by omega
          have HL5 := Lib.hid (by have h := HL4.out.set d (.bool false); rw [leftR_set (by omega)] at h; exact h : Row (w4.setCell ⟨A.heap.size, d, none⟩ (.bool false)) A.heap.size (leftR (d + 1) b.hs.length) 130)
          have HS5 := Lib.hid (set_keeps w4 A.heap.size d (.bool false))
          clear hb4 k0' k1' k2' k3' k4' k5'
          go_upto_region 7 with (fail)
          clear a0 a1
          have HK5 := Lib.hid (HK4.out.trans (HS5.out.mono (fun m _ h => .inr h)))
          have HJ5 := Lib.hid (HJ.out _ O2 O2 w4 _ HJ4.out (HS5.out.mono (fun m _ h => by rw [h]; exact HO2a.out _ (.inr rfl))) (fun m h => h) (fun m h => .inl h))
          have hz5 := HS5.out.size
          change Code.wp _ _ _ _ (w4.setCell ⟨A.heap.size, d, none⟩ (.bool false))
          generalize w4.setCell ⟨A.heap.size, d, none⟩ (.bool false) = w5 at *
          obtain ⟨g2, hg2, hgg⟩ := leftR_lit (d + 1) b.hs.length
          rw [hg2] at HL5
          have HG2 := Lib.hid hgg
          have HGE := Lib.hid hg2
          clear hg2 hgg
          obtain ⟨pl2, hpl2⟩ : ∃ l, l = pl ++ [(d : Int) + 1] := ⟨_, rfl⟩
          have hp2l : pl2.length = pl.length + 1 := by rw [hpl2]; simp
          have HP2L := Lib.hid hp2l
          clear hp2l
          have HC5 := Lib.hid (HA.out.keeps HK5.out (fun h => h.elim hMy (by omega)) (fun h => h.elim hMb (by omega)) (fun h => h.elim hMc (by omega)))
          have hlo := (longer_any q cq pl ((d : Int) + 1) w5.drew (fun i hi => by
            obtain ⟨b', o', e', hc'⟩ := HIN1.out i hi
            have h1 := HQO.out b' o' (by omega) e'
            have h2 : b' < A1.heap.size := cell_block hc'
            obtain ⟨b3, o3, e3, hc3⟩ := HIN.out i hi
            rw [e'] at e3
            cases e3
            have h3 : b' < A.heap.size := cell_block hc3
            refine ⟨b', o', e', ?_⟩
            exact (World.cell?_of_block (HK5.out.block b' h2 (fun h => h.elim (fun h => by have := (HM.out _ h).1; omega) (by omega)))).trans hc') (by omega) hcq HQ.out)
          rw [← hpl2] at hlo
          have HLO := Lib.hid hlo
          clear hlo
          have hzWA := HK1.out.size
          have hdd : x + (d - x) + 1 = d + 1 := by omega
          obtain ⟨after2, hsp2⟩ := plans_split (k := d - x) (by omega) (by omega) (by omega) pl before after _ HSP.out
          rw [hdd] at hsp2
          rw [show ((d + 1 : Nat) : Int) = (d : Int) + 1 by omega, ← hpl2] at hsp2
          have HSP2 := Lib.hid hsp2
          clear hpl2
          have HLEN := Lib.hid (by have h := plansTo_len (gr := grN b) (n := b.hs.length) (x := x) (k := d - x) (by omega); rw [hdd, show d - x + 1 = d + 1 - x by omega] at h; exact h : (plansTo (grN b) b.hs.length x (d + 1 - x)).length = (plansTo (grN b) b.hs.length x (d - x)).length + (plansL (grN b) b.hs.length (d + 1)).length)
          clear hsp2 hdd
          have HCUT := Lib.hid (fun (gq cap : Nat) (u : World) (hi : IntsAt u (some ⟨gq, 0, none⟩) pl2) (hq1 : w5.drew.heap.size ≤ gq) (_hq2 : gq < u.heap.size) (hq3 : pl2.length ≤ cap) (hbu : Below w5.drew.heap.size w5.drew u) (hcp : Caps cy cb cc li b p c mb u) =>
            (by
              have hzu := hbu.size
              have hbv : Below w5.heap.size w5 u := ⟨hbu.os, hbu.tape, hbu.output, hbu.size, hbu.block⟩
              have hz6 : w5.drew.heap.size = w5.heap.size := rfl
              have h := IH.out (d + 1) pl2 (some ⟨gq, 0, none⟩) cap (k0 + (plansTo (grN b) b.hs.length x (d - x)).length) _ after2 O2 u g2 hb1 (by omega) (by have := HP2L.out; omega) hq3 (fun h => by cases h) hi
                (fun m o _ e => by
                  cases e
                  refine ⟨by omega, fun h => ?_⟩
                  have := HO2c.out _ h
                  omega)
                HSP2.out (by rw [List.length_append, HK0.out, List.length_map])
                (fun m hm => by
                  have h1 := HO2c.out m hm
                  refine ⟨?_, by omega⟩
                  rcases HO2b.out m hm with h | h
                  · exact (HO1.out m h).1
                  · omega)
                (HJ.out _ O2 O2 w5 u HJ5.out (KeepsBut.of_below (M := O2) hbv) (fun m h => h) (fun m h => .inl h))
                (((HK1.out.far HK5.out (fun m hm h => h.elim id (fun e => by omega)))).trans (KeepsBut.of_below (M := M) hbv)) hcp
                (fun h => by rcases HO2b.out _ h with (h | h) | h; exact hy h; omega; omega)
                (fun h => by rcases HO2b.out _ h with (h | h) | h; exact hc h; omega; omega) HG2.out
              rw [show ((d + 1 : Nat) : Int) = (d : Int) + 1 by omega] at h
              exact h : Calls Try.prog 110 #[.slice (some ⟨gq, 0, none⟩) pl2.length cap, .int .i64 ((d : Int) + 1), .agg #[.bool (g2 0), .bool (g2 1), .bool (g2 2), .bool (g2 3), .bool (g2 4), .bool (g2 5), .bool (g2 6), .bool (g2 7)], .pointer (some ⟨cy, 0, none⟩), .pointer (some ⟨cb, 0, none⟩), .pointer (some ⟨cc, 0, none⟩)] u (CutPost M J Jx O2 (k0 + (plansTo (grN b) b.hs.length x (d - x)).length + (plansL (grN b) b.hs.length (d + 1)).length) u)))
          have RL := Lib.hid (show Row w5.drew A.heap.size _ _ from HL5.out)
          have RC := Lib.hid (show Caps cy cb cc li b p c mb w5.drew from ⟨HC5.out.y, HC5.out.k, HC5.out.f⟩)
          go_region_held3 (fun w' => w'.cell? ⟨A.heap.size, 0, none⟩ = some (.bool (g2 0)) ∧ w'.cell? ⟨A.heap.size, 1, none⟩ = some (.bool (g2 1)) ∧ w'.cell? ⟨A.heap.size, 2, none⟩ = some (.bool (g2 2)) ∧ w'.cell? ⟨A.heap.size, 3, none⟩ = some (.bool (g2 3)) ∧ w'.cell? ⟨A.heap.size, 4, none⟩ = some (.bool (g2 4)) ∧ w'.cell? ⟨A.heap.size, 5, none⟩ = some (.bool (g2 5)) ∧ w'.cell? ⟨A.heap.size, 6, none⟩ = some (.bool (g2 6)) ∧ w'.cell? ⟨A.heap.size, 7, none⟩ = some (.bool (g2 7)) ∧ w'.cell? ⟨cc, 0, none⟩ = some (.func (.func 110) #[] #[.pointer (some ⟨cy, 0, none⟩), .pointer (some ⟨cb, 0, none⟩), .pointer (some ⟨cc, 0, none⟩)]))
            (exact ⟨RL.out.cell 0 rfl, RL.out.cell 1 rfl, RL.out.cell 2 rfl, RL.out.cell 3 rfl, RL.out.cell 4 rfl, RL.out.cell 5 rfl, RL.out.cell 6 rfl, RL.out.cell 7 rfl, RC.out.f.cell 0 rfl⟩)
            (first
              | (go_at_call 111; (with_reducible refine HLO.out.mono ?_); rintro e u ⟨gq, cap, rfl, hi, hq1, hq2, hq3, hbu⟩; have HLI := Lib.hid hi; have HBU := Lib.hid hbu; have RL := Lib.hid (RL.out.below hbu RL.out.lt); have RC := Lib.hid (RC.out.keeps (KeepsBut.of_below (M := fun _ => False) hbu) id id id); clear hi hbu)
              | (go_at_call 110; (with_reducible refine (HCUT.out _ _ _ HLI.out hq1 hq2 hq3 HBU.out RC.out).mono ?_); rintro e B ⟨hkb, v, O3, rfl, h1, h2, h3, h4, h5⟩; have HKB := Lib.hid hkb; have H1 := Lib.hid h1; have H2 := Lib.hid h2; have H3 := Lib.hid h3; have H4 := Lib.hid h4; have H5 := Lib.hid h5; have RL := Lib.hid (RL.out.keeps hkb hMA); have RC := Lib.hid (RC.out.keeps hkb hMy hMb hMc); clear hkb h1 h2 h3 h4 h5))
          all_goals
            have hzu := HBU.out.size
            have hz6 : w5.drew.heap.size = w5.heap.size := rfl
            have hzB := HKB.out.size
            have HK6 := Lib.hid (((HK5.out.drew).after HBU.out).trans (HKB.out.mono (fun m _ h => .inl h)))
            cases v
            · go_wp2_with fail
              go_ret
              exact ⟨HKA.out.far HK6.out (fun m hm h => h.elim id (fun e => by omega)), false, O3, rfl, fun m h => H1.out m (HO2a.out m (.inl h)),
                fun m h => by
                  rcases H2.out m h with h | h
                  · rcases HO2b.out m h with (h | h) | h
                    · exact .inl h
                    · exact .inr (by omega)
                    · exact .inr (by omega)
                  · exact .inr (by omega),
                H3.out, (fun h => by cases h), fun _ => H5.out (by trivial)⟩
            · go_wp2_with fail
              go_roundw
              case rel =>
                exact ⟨d + 1, O3, by omega, by omega, by omega, by simp, fun m h => H1.out m (HO2a.out m h),
                  fun m h => by
                    rcases H2.out m h with h | h
                    · exact HO2b.out m h
                    · exact .inr (by omega),
                  H3.out, by rw [HLEN.out, ← Nat.add_assoc]; exact H4.out (by trivial), HK6.out, by rw [HGE.out]; exact RL.out⟩
              case measure => simp [intOf]; omega
        · have HI := Lib.hid (by have h := isBox_any b p c mb (x : Int) ((d : Int) + 1) (I64_of (by omega) (by omega)) (I64_of (by omega) (by omega)) wr HBw.out; rw [show boxB b (x : Int) ((d : Int) + 1) = false by unfold boxB; simp; omega] at h; exact h : Calls Try.prog 98 #[.agg (bkA b p c mb), .agg #[.int .i64 x, .int .i64 ((d : Int) + 1)]] wr fun e w' => e = .returned (.bool false) ∧ Below wr.heap.size wr w')
          have HST := Lib.hid (plansTo_stop (gr := grN b) (n := b.hs.length) (x := x) (j := d - x) (by omega) (by omega) (by omega))
          go_wp2_with fail
          refine HI.out.mono ?_
          rintro e w4 ⟨rfl, hb4⟩
          have HK4 := Lib.hid (HK2.out.after hb4)
          have HJ4 := Lib.hid (HJ.out _ O2 O2 wr w4 HJ2.out (.of_below hb4) (fun m h => h) (fun m h => .inl h))
          have hz4 := hb4.size
          clear hb4 k0' k1' k2' k3' k4' k5'
          go_wp2_with fail
          go_ret
          exact ⟨HKA.out.far HK4.out (fun m hm h => h.elim id (fun e => by omega)), true, O2, rfl, fun m h => HO2a.out m (.inl h),
            fun m h => by
              rcases HO2b.out m h with (h | h) | h
              · exact .inl h
              · exact .inr (by omega)
              · exact .inr (by omega),
            fun m h => by have := HO2c.out m h; omega, (fun _ => by rw [← HST.out]; exact HJ4.out), (fun h => by cases h)⟩
end Go.Proofs.Ytgdidhbomdfcpaa
