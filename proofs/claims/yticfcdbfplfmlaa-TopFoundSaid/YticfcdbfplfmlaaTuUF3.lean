/- The walks of layer 3: the iterator of all settings. -/
import Derived.Test.YticfcdbfplfmlaaTBX
import Derived.Laws.EntriesVeiled
import Derived.Test.YticfcdbfplfmlaaRGX
namespace Go.Proofs.Yticfcdbfplfmlaa.Tu
open Go.RowKit Go.Maps
attribute [local go_sem] Oper.semAt_some

/-- What lies in memory while settings are produced; the first dampers are set. -/
structure TEnv (np nb yb cb tb l : Nat) (M : Nat → Prop) (W : World) (pre : List Int) (A : World) : Prop where
  n : Row A nb #[.int .i64 np] 3
  y : Row A yb #[.func (.yield l) #[] #[]] 230
  t : Row A tb #[.func (.func 157) #[] #[.pointer (some ⟨nb, 0, none⟩), .pointer (some ⟨yb, 0, none⟩), .pointer (some ⟨cb, 0, none⟩), .pointer (some ⟨tb, 0, none⟩)]] 102
  c : ∃ q : List Int, q.length = 4 ∧ (∀ j, j < pre.length → at0 q j = at0 pre j) ∧ (∀ j, np ≤ j → j < 4 → at0 q j = 0) ∧ Row A cb (intsA q) 128
  keep : KeepsBut M W A
structure TOff (nb yb cb tb : Nat) (M : Nat → Prop) (W : World) : Prop where
  lt : ∀ m, M m → m < W.heap.size
  nM : ¬ M nb
  n : nb < W.heap.size
  y : W.heap.size ≤ yb
  c : W.heap.size ≤ cb
  t : W.heap.size ≤ tb
  yc : yb ≠ cb
  ct : cb ≠ tb
  cw : cb < W.heap.size + 3
  tw : tb = W.heap.size + 2
section
variable {np nb yb cb tb l : Nat} {M : Nat → Prop} {W A B : World} {pre : List Int}
theorem TEnv.keeps (h : TEnv np nb yb cb tb l M W pre A) (o : TOff nb yb cb tb M W) (k : KeepsBut M A B) : TEnv np nb yb cb tb l M W pre B := by
  obtain ⟨q, a, b, c, d⟩ := h.c
  exact ⟨h.n.keeps k o.nM, h.y.keeps k (fun e => by have := o.lt _ e; have := o.y; omega), h.t.keeps k (fun e => by have := o.lt _ e; have := o.t; omega), ⟨q, a, b, c, d.keeps k (fun e => by have := o.lt _ e; have := o.c; omega)⟩, h.keep.trans k⟩
theorem TEnv.set (h : TEnv np nb yb cb tb l M W pre A) (o : TOff nb yb cb tb M W) (hk : pre.length < np) (h4 : np ≤ 4) (v : Int) : TEnv np nb yb cb tb l M W (pre ++ [v]) (A.setCell ⟨cb, pre.length, none⟩ (.int .i64 v)) := by
  obtain ⟨q, a, b, c, d⟩ := h.c
  have hn := o.n
  have hc := o.c
  refine ⟨h.n.set_other _ _ (by dsimp only; omega), h.y.set_other _ _ (by dsimp only; exact o.yc), h.t.set_other _ _ (by dsimp only; exact fun e => o.ct e.symm), ⟨q.set pre.length v, by simpa using a, ?_, ?_, ?_⟩, h.keep.setCell (.inr hc) _⟩
  · intro j hj
    simp only [List.length_append, List.length_cons, List.length_nil] at hj
    by_cases e : j = pre.length
    · subst e
      simp [at0, List.getD, a, show pre.length < 4 by omega]
    · have hj2 : j < pre.length := by omega
      have h1 : at0 (q.set pre.length v) j = at0 q j := by simp [at0, List.getD, Ne.symm e]
      have h2 : at0 (pre ++ [v]) j = at0 pre j := by simp [at0, List.getD, List.getElem?_append_left hj2]
      rw [h1, h2]; exact b j hj2
  · intro j h1 h2
    have e : pre.length ≠ j := by omega
    have h3 : at0 (q.set pre.length v) j = at0 q j := by simp [at0, List.getD, e]
    rw [h3]; exact c j h1 h2
  · have := d.set pre.length (.int .i64 v)
    rwa [intsA_set] at this
theorem TEnv.less {v : Int} (h : TEnv np nb yb cb tb l M W (pre ++ [v]) A) : TEnv np nb yb cb tb l M W pre A := by
  obtain ⟨q, a, b, c, d⟩ := h.c
  refine ⟨h.n, h.y, h.t, ⟨q, a, fun j hj => ?_, c, d⟩, h.keep⟩
  rw [b j (by simp; omega)]
  simp [at0, List.getD, List.getElem?_append_left hj]
theorem TEnv.full (h : TEnv np nb yb cb tb l M W pre A) (hl : pre.length = np) : Row A cb (setA pre) 128 := by
  obtain ⟨q, a, b, c, d⟩ := h.c
  have key : ∀ j, j < 4 → at0 q j = at0 pre j := by
    intro j hj
    by_cases e : j < pre.length
    · exact b j e
    · rw [c j (by omega) hj]; simp [at0, List.getD, List.getElem?_eq_none (by omega : pre.length ≤ j)]
  obtain ⟨q0, q1, q2, q3, rfl⟩ : ∃ q0 q1 q2 q3, q = [q0, q1, q2, q3] := by
    match q, a with
    | [q0, q1, q2, q3], _ => exact ⟨q0, q1, q2, q3, rfl⟩
  have k0 := key 0 (by omega)
  have k1 := key 1 (by omega)
  have k2 := key 2 (by omega)
  have k3 := key 3 (by omega)
  have e : intsA [q0, q1, q2, q3] = setA pre := by
    unfold setA
    rw [← k0, ← k1, ← k2, ← k3]; rfl
  rw [← e]; exact d
end
def TurnPost (np nb yb cb tb l : Nat) (M : Nat → Prop) (J : Nat → World → Prop) (Jx : World → Prop) (W : World) (pre : List Int) (n : Nat) (e : Ending) (B : World) : Prop :=
  (e = .returned (.bool true) ∧ J n B ∧ TEnv np nb yb cb tb l M W pre B) ∨ (e = .returned (.bool false) ∧ Jx B ∧ KeepsBut M W B)

set_option maxRecDepth 10000 in
set_option maxHeartbeats 800000 in
theorem turn_any (np nb yb cb tb l : Nat) (h4 : np ≤ 4) (M : Nat → Prop) (W : World) (o : TOff nb yb cb tb M W) (J : Nat → World → Prop) (Jx : World → Prop) (hJ : ∀ k, StableW W.heap.size 3 (J k))
    (xs : List (Array Value)) (hY : ∀ k x A, xs[k]? = some x → J k A → KeepsBut M W A → W.heap.size + 3 ≤ A.heap.size → YieldAt Fence.wide 0 Try.prog l x A fun e B => KeepsBut M A B ∧ ((e = .returned (.bool true) ∧ J (k + 1) B) ∨ (e = .returned (.bool false) ∧ Jx B))) :
    ∀ (m k i0 : Nat) (pre : List Int) (A : World), pre.length = k → k + m = np → (∀ j x, (setsL m)[j]? = some x → xs[i0 + j]? = some #[.agg (setA (pre ++ x))]) → TEnv np nb yb cb tb l M W pre A → J i0 A →
      Calls Try.prog 157 #[.int .i64 k, .pointer (some ⟨nb, 0, none⟩), .pointer (some ⟨yb, 0, none⟩), .pointer (some ⟨cb, 0, none⟩), .pointer (some ⟨tb, 0, none⟩)] A (TurnPost np nb yb cb tb l M J Jx W pre (i0 + 4 ^ m)) := by
  intro m
  induction m with
  | zero =>
    intro k i0 pre A hpre hk hxs hE hJ0
    have hx := hxs 0 [] rfl
    rw [Nat.add_zero, List.append_nil] at hx
    obtain ⟨fn, tmps, assign, body, hy, hR⟩ := hY i0 _ A hx hJ0 hE.keep (by have := hE.t.lt; have := o.tw; omega)
    have hy : (Instr.yield l #[.agg (setA pre)]).run Try.prog _ = _ := hy
    have HR := Lib.hid hR
    have n0 := hE.n.cell 0 (v := .int .i64 np) rfl
    have y0 := hE.y.cell 0 (v := .func (.yield l) #[] #[]) rfl
    have hf := hE.full (by omega)
    have f0 := hf.cell 0 (v := .int .i64 (at0 pre 0)) rfl
    have f1 := hf.cell 1 (v := .int .i64 (at0 pre 1)) rfl
    have f2 := hf.cell 2 (v := .int .i64 (at0 pre 2)) rfl
    have f3 := hf.cell 3 (v := .int .i64 (at0 pre 3)) rfl
    have hie : ((k : Int) == (np : Int)) = true := by simp; omega
    have HE := Lib.hid hE
    clear hE hR hx hxs hJ0 hpre hk hf hY
    go_enter Try.func157, Try.ntmps157
    go_upto_region 2 with (fail)
    refine (wpIn_wide (n := 1)).1 ?_
    gi_wp2_with fail
    refine HR.out.mono ?_
    rintro e B ⟨hkB, (⟨rfl, hJ1⟩ | ⟨rfl, hJx1⟩)⟩
    · have HJ1 := Lib.hid hJ1
      have HE := Lib.hid (HE.out.keeps o hkB)
      clear hkB hJ1 hy n0 y0 f0 f1 f2 f3
      gi_wp2
      go_wp2
      go_ret
      exact .inl ⟨rfl, HJ1.out, HE.out⟩
    · have HJ1 := Lib.hid hJx1
      have HE := Lib.hid (HE.out.keep.trans hkB)
      clear hkB hJx1 hy n0 y0 f0 f1 f2 f3
      gi_wp2
      go_wp2
      go_ret
      exact .inr ⟨rfl, HJ1.out, HE.out⟩
  | succ m ih =>
    intro k i0 pre A hpre hk hxs hE hJ0
    have HXS := Lib.hid hxs
    have HPRE := Lib.hid hpre
    have HPW := Lib.hid (show 4 ^ (m + 1) = 4 * 4 ^ m by rw [Nat.pow_succ]; omega)
    have n0 := hE.n.cell 0 (v := .int .i64 np) rfl
    have hie : ((k : Int) == (np : Int)) = false := by simp; omega
    have HE := Lib.hid hE
    have hkn : k < np := by omega
    have i1 : (0 : Int) ≤ (k : Int) := by omega
    have i2 : (k : Int) < 4 := by omega
    clear hE hxs hpre
    go_enter Try.func157, Try.ntmps157
    go_wp2
    clear n0 hie
    go_loopw [14] (fun i wr => ∃ d : Nat, d ≤ 4 ∧ i = .int .i64 d ∧ J (i0 + d * 4 ^ m) wr ∧ TEnv np nb yb cb tb l M W pre wr) (fun i _ => 4 - (intOf i).toNat)
    case atStart => exact ⟨0, by omega, rfl, by rw [Nat.zero_mul, Nat.add_zero]; exact hJ0, HE.out⟩
    case round =>
      obtain ⟨d, hd, rfl, hJd, hEd⟩ := hrel
      clear hJ0 HE
      have HJD := Lib.hid hJd
      have HED := Lib.hid hEd
      clear hJd hEd
      by_cases hlt : d < 4
      · obtain ⟨q, a, _, _, hc⟩ := HED.out.c
        have c0 := hc.cell k (intsA_at4 a (by omega))
        have c1 := hc.free k
        have HS := Lib.hid (show TEnv np nb yb cb tb l M W (pre ++ [(d : Int)]) (wr.setCell ⟨cb, k, none⟩ (.int .i64 d)) from by have h := HED.out.set o (by rw [HPRE.out]; exact hkn) h4 (d : Int); rw [HPRE.out] at h; exact h)
        have HJS := Lib.hid (hJ _ _ _ HJD.out ((KeepsBut.refl _ _).setCell (.inl ⟨o.c, o.cw⟩) _ : KeepsBut _ wr (wr.setCell ⟨cb, k, none⟩ (.int .i64 d))))
        have t0 := HS.out.t.cell 0 (v := .func (.func 157) #[] #[.pointer (some ⟨nb, 0, none⟩), .pointer (some ⟨yb, 0, none⟩), .pointer (some ⟨cb, 0, none⟩), .pointer (some ⟨tb, 0, none⟩)]) rfl
        have hih := ih (k + 1) (i0 + d * 4 ^ m) (pre ++ [(d : Int)]) _ (by simp [HPRE.out]) (by omega) (fun j x hj => by have := HXS.out _ _ (setsL_at hlt hj); rw [← Nat.add_assoc] at this; rw [this]; simp) HS.out HJS.out
        rw [show ((k + 1 : Nat) : Int) = (k : Int) + 1 by omega] at hih
        have HIH := Lib.hid hih
        have HST := Lib.hid (show i0 + d * 4 ^ m + 4 ^ m = i0 + (d + 1) * 4 ^ m by rw [Nat.succ_mul]; omega)
        clear hih hc a
        go_wp2_with fail
        refine HIH.out.mono ?_
        rintro e B (⟨rfl, hJ1, hE1⟩ | ⟨rfl, hJx1, hk1⟩)
        · rw [HST.out] at hJ1
          have HJ1 := Lib.hid hJ1
          have HE1 := Lib.hid hE1.less
          clear hJ1 hE1 t0 c0 c1
          go_wp2
          go_roundw
          case rel => exact ⟨d + 1, by omega, by go_num, HJ1.out, HE1.out⟩
          case measure => simp [intOf]; omega
        · have HJ1 := Lib.hid hJx1
          have HE1 := Lib.hid hk1
          clear hJx1 hk1 t0 c0 c1
          go_wp2
          go_ret
          exact .inr ⟨rfl, HJ1.out, HE1.out⟩
      · obtain rfl : d = 4 := by omega
        go_wp2
        go_ret
        exact .inl ⟨rfl, by rw [HPW.out]; exact HJD.out, HED.out⟩

theorem zeros_at (j : Nat) (h : j < 4) : at0 [0, 0, 0, 0] j = 0 := by
  obtain rfl | rfl | rfl | rfl : j = 0 ∨ j = 1 ∨ j = 2 ∨ j = 3 := by omega
  all_goals rfl
theorem settings_any (np : Nat) (w : World) :
    Calls Try.prog 125 #[.int .i64 np] w fun e w' => e = .returned (.func (.func 156) #[] #[.pointer (some ⟨w.heap.size, 0, none⟩)]) ∧ w' = w.alloc (.cells #[.int .i64 np] 3) := by
  go_enter Try.func125, Try.ntmps125
  go_wp2
  go_ret
  exact ⟨rfl, rfl⟩

set_option maxRecDepth 10000 in
set_option maxHeartbeats 800000 in
theorem settings_iter (np nb : Nat) (h4 : np ≤ 4) (W : World) (hW : Row W nb #[.int .i64 np] 3) :
    IterW Try.prog 3 156 #[.pointer (some ⟨nb, 0, none⟩)] (fun m => m = nb) ((setsL np).map fun s => #[.agg (setA s)]) W := by
  intro l M J Jx hM hJ hJx hY h0
  show Calls _ _ #[.func (.yield l) #[] #[], .pointer (some ⟨nb, 0, none⟩)] _ _
  have hnb := hW.lt
  have HW := Lib.hid hW
  clear hW
  go_enter Try.func156, Try.ntmps156
  go_wp2_with fail
  have o : TOff nb W.heap.size (W.heap.size + 1) (W.heap.size + 1 + 1) M W := ⟨fun m h => (hM m h).1, fun h => (hM _ h).2 rfl, hnb, Nat.le_refl _, by omega, by omega, by omega, by omega, by omega, rfl⟩
  have hb0 := below_alloc3 W (.cells #[.func (.yield l) #[] #[]] 230) (.cells (intsA [0, 0, 0, 0]) 128) (.cells #[.func (.func 157) #[] #[.pointer (some ⟨nb, 0, none⟩), .pointer (some ⟨W.heap.size, 0, none⟩), .pointer (some ⟨W.heap.size + 1, 0, none⟩), .pointer (some ⟨W.heap.size + 1 + 1, 0, none⟩)]] 102)
  have HE := Lib.hid (show TEnv np nb W.heap.size (W.heap.size + 1) (W.heap.size + 1 + 1) l M W [] (((W.alloc (.cells #[.func (.yield l) #[] #[]] 230)).alloc (.cells (intsA [0, 0, 0, 0]) 128)).alloc (.cells #[.func (.func 157) #[] #[.pointer (some ⟨nb, 0, none⟩), .pointer (some ⟨W.heap.size, 0, none⟩), .pointer (some ⟨W.heap.size + 1, 0, none⟩), .pointer (some ⟨W.heap.size + 1 + 1, 0, none⟩)]] 102)) from
    ⟨HW.out.below hb0 hnb, ((Row.new W _ _).alloc _).alloc _, Row.new2 _ _ _ _ _, ⟨[0, 0, 0, 0], rfl, fun j hj => by simp at hj, fun j _ hj => zeros_at j hj, (Row.new1 W _ _ _).alloc _⟩, .of_below hb0⟩)
  have HJ := Lib.hid (hJ 0 _ _ h0 (.of_below hb0))
  have t0 := HE.out.t.cell 0 (v := .func (.func 157) #[] #[.pointer (some ⟨nb, 0, none⟩), .pointer (some ⟨W.heap.size, 0, none⟩), .pointer (some ⟨W.heap.size + 1, 0, none⟩), .pointer (some ⟨W.heap.size + 1 + 1, 0, none⟩)]) rfl
  clear hb0 h0
  go_wp2_with fail
  refine (turn_any np nb W.heap.size (W.heap.size + 1) (W.heap.size + 1 + 1) l h4 M W o J Jx hJ _ hY np 0 0 [] _ rfl (by omega) (fun j x hj => by rw [Nat.zero_add, List.getElem?_map, hj]; rfl) HE.out HJ.out).mono ?_
  rintro e B (⟨rfl, hJ1, hE1⟩ | ⟨rfl, hJx1, hk1⟩)
  · have HJ1 := Lib.hid hJ1
    have HE1 := Lib.hid hE1.keep
    clear hJ1 hE1 t0
    go_wp2
    go_end0
    exact ⟨⟨_, rfl⟩, HE1.out, .inl (by rw [List.length_map, setsL_length]; have := HJ1.out; rwa [Nat.zero_add] at this)⟩
  · have HJ1 := Lib.hid hJx1
    have HE1 := Lib.hid hk1
    clear hJx1 hk1 t0
    go_wp2
    go_end0
    exact ⟨⟨_, rfl⟩, HE1.out, .inr HJ1.out⟩
end Go.Proofs.Yticfcdbfplfmlaa.Tu
