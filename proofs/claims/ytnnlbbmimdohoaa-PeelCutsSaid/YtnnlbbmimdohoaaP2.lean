/- The walks of layer 1: the ribbon's columns, trails, whole pieces, cuttings. -/
import Derived.Test.YtnnlbbmimdohoaaP1
import Derived.Deep.LoopGhost
namespace Go.Proofs.Ytnnlbbmimdohoaa
open Go.RowKit

/-- A ribbon's fields, as they lie in its cells. -/
structure Rib where
  p1 : Option Addr
  n1 : Nat
  c1 : Nat
  sz : Int
  p2 : Option Addr
  n2 : Nat
  c2 : Nat
  wide : Int
  s : List Int
  mb : Option Nat
def Rib.A (R : Rib) : Array Value :=
  (.slice R.p1 R.n1 R.c1 :: .int .i64 R.sz :: .slice R.p2 R.n2 R.c2 :: .int .i64 R.wide :: (R.s.map (Value.int .i64) ++ [.map R.mb])).toArray
theorem Rib.a0 (R : Rib) : R.A[0]? = some (.slice R.p1 R.n1 R.c1) := by simp [Rib.A]
theorem Rib.a1 (R : Rib) : R.A[1]? = some (.int .i64 R.sz) := by simp [Rib.A]
theorem Rib.a2 (R : Rib) : R.A[2]? = some (.slice R.p2 R.n2 R.c2) := by simp [Rib.A]
theorem Rib.a3 (R : Rib) : R.A[3]? = some (.int .i64 R.wide) := by simp [Rib.A]
theorem Rib.a4 (R : Rib) (h : R.s.length = 6) {i : Nat} (hi : i < 6) : R.A[4 + i]? = some (.int .i64 (at0 R.s i)) := by
  have e : 4 + i = i + 1 + 1 + 1 + 1 := by omega
  simp [Rib.A, e, List.getElem?_append_left, h, hi, at0]
theorem Rib.a10 (R : Rib) (h : R.s.length = 6) : R.A[10]? = some (.map R.mb) := by
  simp [Rib.A, h]
theorem Rib.size (R : Rib) (h : R.s.length = 6) : R.A.size = 11 := by simp [Rib.A, h]
theorem Rib.one (R : Rib) : R.A.all (·.oneCell') = true := by
  simp [Rib.A, Value.oneCell']
theorem size76 {R : Rib} (h : R.s.length = 6) : (Try.prog.info? 76).map (·.size) = some R.A.size := by
  have e : ((Try.prog.info? 76).map (·.size)) = some 11 := by kernel_rfl
  rw [e, R.size h]

/-- The column of an angle in a turn. -/
def colOf (R : Rib) (long : List Int) (a : Int) (t : Nat) : Int := at0 R.s t + a * at0 long t / 24

set_option maxRecDepth 10000 in
set_option maxHeartbeats 400000 in
theorem column_any (R : Rib) (long : List Int) (hs : R.s.length = 6) (w : World) (hl : IntsAt w R.p1 long) (hn : R.n1 = long.length) (a : Int) (t : Nat) (ha : 0 ≤ a) (ha2 : a ≤ 23) (ht : t < long.length) (h6 : long.length ≤ 6)
    (hlo : 0 ≤ at0 long t) (hhi : at0 long t ≤ 12) (h0 : 0 ≤ at0 R.s t) (h1 : at0 R.s t ≤ 72) :
    Calls Try.prog 60 #[.agg R.A, .agg #[.int .i64 a, .int .i64 t]] w fun e w' => e = .returned (.int .i64 (colOf R long a t)) ∧ Below w.heap.size w w' := by
  obtain ⟨b, o, hp, hcell⟩ := hl t ht
  have a0 := R.a0
  have a4 := R.a4 hs (i := t) (by omega)
  rw [hp, hn] at a0
  have hlt := cell_block hcell
  dsimp only at hlt
  have hm1 : 0 ≤ a * at0 long t := Int.mul_nonneg ha hlo
  have hm2 : a * at0 long t ≤ 23 * 12 := Int.mul_le_mul ha2 hhi hlo (by omega)
  clear hl hn hs hp
  go_enter Try.func60, Try.ntmps60
  go_wp2
  go_quiet (fail)
  go_wp2
  go_ret
  exact ⟨ret_int rfl, below_drewN ((below_alloc _ _).alloc (by simp) _) _⟩

/-- A ribbon that fits the turns of a log: what its own functions need to know of it. -/
structure RibOk (R : Rib) (long : List Int) : Prop where
  s6 : R.s.length = 6
  n1 : R.n1 = long.length
  n6 : long.length ≤ 6
  lo : ∀ t, t < long.length → 1 ≤ at0 long t
  hi : ∀ t, t < long.length → at0 long t ≤ 12
  s0 : ∀ t, t < long.length → 0 ≤ at0 R.s t
  se : ∀ t, t < long.length → at0 R.s t + at0 long t ≤ R.wide
  w72 : R.wide ≤ 72

theorem colOf_range {R : Rib} {long : List Int} (h : RibOk R long) {a : Int} (ha : 0 ≤ a) (ha2 : a ≤ 23) {t : Nat} (ht : t < long.length) : 0 ≤ colOf R long a t ∧ colOf R long a t < R.wide := by
  have h1 := h.lo t ht
  have h2 := h.hi t ht
  have h3 := h.s0 t ht
  have h4 := h.se t ht
  have m1 : 0 ≤ a * at0 long t := Int.mul_nonneg ha (by omega)
  have m2 : a * at0 long t ≤ 23 * at0 long t := Int.mul_le_mul_of_nonneg_right ha2 (by omega)
  unfold colOf
  omega

/-- The columns that a knot has from a turn on, as far as some turns go. -/
def trailTo (R : Rib) (long : List Int) (a : Int) (t : Nat) : Nat → List Bool
  | 0 => List.replicate 72 false
  | j + 1 => (trailTo R long a t j).set (colOf R long a (t + j)).toNat true
theorem trailTo_length (R : Rib) (long : List Int) (a : Int) (t j : Nat) : (trailTo R long a t j).length = 72 := by
  induction j with
  | zero => simp [trailTo]
  | succ j ih => simp [trailTo, ih]
/-- All of them. -/
def trailL (R : Rib) (long : List Int) (a : Int) (t : Nat) : List Bool := trailTo R long a t (long.length - t)

set_option maxRecDepth 10000 in
set_option maxHeartbeats 800000 in
theorem trail_any (R : Rib) (long : List Int) (hR : RibOk R long) (w : World) (hl : IntsAt w R.p1 long) (a : Int) (t : Nat) (ha : 0 ≤ a) (ha2 : a ≤ 23) (ht : t ≤ 1000) :
    Calls Try.prog 83 #[.agg R.A, .agg #[.int .i64 a, .int .i64 t]] w fun e w' => e = .returned (cols (trailL R long a t)) ∧ Below w.heap.size w w' := by
  have HS := Lib.hid (size76 hR.s6)
  have HN := Lib.hid hR.n1
  have HL := Lib.hid hl
  clear hl
  have hn6 := hR.n6
  go_enter Try.func83, Try.ntmps83
  go_wp2
  go_loopg [] (long.length - t) (fun g wr => ∃ k : Nat, g = long.length - k ∧ t ≤ k ∧ k ≤ 1000 ∧ (k ≤ long.length ∨ k = t) ∧ Row wr w.heap.size R.A 76 ∧ Row wr (w.heap.size + 1) #[.int .i64 a, .int .i64 k] 80 ∧ Row wr (w.heap.size + 1 + 1) Try.zeroCells88 88 ∧ Row wr (w.heap.size + 1 + 1 + 1) (boolsA (trailTo R long a t (k - t))) 88 ∧ Below w.heap.size w wr)
  case atStart => exact ⟨t, rfl, Nat.le_refl _, ht, .inr rfl, (((Row.new _ _ _).alloc _).alloc _).alloc _, ((Row.new' (by simp) _ _).alloc _).alloc _, (Row.new' (by simp) _ _).alloc _, by rw [Nat.sub_self, trailTo, ← zero88]; exact Row.new' (by simp) _ _, (((below_alloc _ _).alloc (by simp) _).alloc (by simp; omega) _).alloc (by simp; omega) _⟩
  case round =>
    obtain ⟨k, hg, htk, hk2, hkn, r0, r1, r2, r3, hb⟩ := hrel
    have HG := Lib.hid hg
    have HK := Lib.hid hkn
    have a0 := r0.cell 0 R.a0
    have c0 := r1.cell 0 (v := .int .i64 a) rfl
    have c1 := r1.cell 1 (v := .int .i64 k) rfl
    have R0 := Lib.hid r0
    have R1 := Lib.hid r1
    have R2 := Lib.hid r2
    have R3 := Lib.hid r3
    have HB := Lib.hid hb
    have hz := r3.lt
    clear r0 r1 r2 r3 hb hg hkn
    rw [HN.out] at a0
    go_wp2_with fail
    refine (shows_any _ _ _ _).mono ?_
    rintro e w1 ⟨rfl, hb1⟩
    have hz1 := hb1.size
    have R0 := Lib.hid (R0.out.below hb1 (by omega))
    have R1 := Lib.hid (R1.out.below hb1 (by omega))
    have R2 := Lib.hid (R2.out.below hb1 (by omega))
    have R3 := Lib.hid (R3.out.below hb1 (by omega))
    have HB := Lib.hid (HB.out.trans (hb1.mono (by omega)))
    clear a0 c0 c1 hb1
    by_cases hlt : k < long.length
    · have hsh : showsB a k long.length = true := by simp [showsB]; omega
      have c0 := R1.out.cell 0 (v := .int .i64 a) rfl
      have c1 := R1.out.cell 1 (v := .int .i64 k) rfl
      go_wp2_with (first | (refine load_row rfl 76 _ rfl _ rfl 76 _ _ R0.out Try.underlying76 rfl HS.out ?_))
      refine (column_any R long hR.s6 _ (HL.out.below HB.out) HN.out a k ha ha2 hlt hn6 (by have := hR.lo k hlt; omega) (hR.hi k hlt) (hR.s0 k hlt) (by have := hR.se k hlt; have := hR.lo k hlt; have := hR.w72; omega)).mono ?_
      rintro e w2 ⟨rfl, hb2⟩
      have hz2 := hb2.size
      have R0 := Lib.hid (R0.out.below hb2 (by omega))
      have R1 := Lib.hid (R1.out.below hb2 (by omega))
      have R2 := Lib.hid (R2.out.below hb2 (by omega))
      have R3 := Lib.hid (R3.out.below hb2 (by omega))
      have HB := Lib.hid (HB.out.trans (hb2.mono (by omega)))
      clear c0 c1 hb2
      obtain ⟨hc0, hc1⟩ := colOf_range hR ha ha2 hlt
      have hw72 := hR.w72
      obtain ⟨c, hc⟩ : ∃ c : Nat, colOf R long a k = c := ⟨(colOf R long a k).toNat, by omega⟩
      rw [hc]
      have hcl : c < 72 := by omega
      have HC := Lib.hid hc
      clear hc hc0 hc1 hw72
      have hcell := R3.out.cell c (boolsA_at (b := b0 (trailTo R long a t (k - t)) c) (by rw [b0_lt (by rw [trailTo_length]; omega)]; simp [trailTo_length, hcl]))
      have hfree := R3.out.free c
      have c1 := R1.out.cell 1 (v := .int .i64 k) rfl
      have f1 := R1.out.free 1
      have c1' : (w2.setCell ⟨w.heap.size + 1 + 1 + 1, c, none⟩ (.bool true)).cell? ⟨w.heap.size + 1, 1, none⟩ = some (.int .i64 k) := (R1.out.set_other _ _ (by dsimp only; omega)).cell 1 rfl
      have f1' : (w2.setCell ⟨w.heap.size + 1 + 1 + 1, c, none⟩ (.bool true)).frozen? ⟨w.heap.size + 1, 1, none⟩ = false := (R1.out.set_other _ _ (by dsimp only; omega)).free 1
      go_wp2
      go_roundg (long.length - (k + 1))
      case measure => have := HG.out; omega
      case rel =>
        refine ⟨k + 1, rfl, by omega, by omega, .inl (by omega), (R0.out.set_other _ _ (by dsimp only; omega)).set_other _ _ (by dsimp only; omega), ?_, (R2.out.set_other _ _ (by dsimp only; omega)).set_other _ _ (by dsimp only; omega), ?_, (HB.out.setCell (by dsimp only; omega) _).setCell (by dsimp only; omega) _⟩
        · exact (R1.out.set_other _ _ (by dsimp only; omega)).set 1 _
        · have e : k + 1 - t = k - t + 1 := by omega
          have e2 : (colOf R long a (t + (k - t))).toNat = c := by rw [show t + (k - t) = k by omega, HC.out]; rfl
          rw [e, trailTo, e2, ← boolsA_set]
          exact (R3.out.set c _).set_other _ _ (by dsimp only; omega)
    · have hsh : showsB a k long.length = false := by simp [showsB]; omega
      go_wp2_with (first | (refine load_row rfl 88 _ rfl _ rfl 88 _ _ R3.out Try.underlying88 rfl (size88 (trailTo_length _ _ _ _ _)) ?_) | (refine store_row rfl 88 _ _ rfl _ _ _ _ rfl rfl R2.out (size88 (trailTo_length _ _ _ _ _)) (by rw [zero88, boolsA_size, boolsA_size, trailTo_length, List.length_replicate]) (boolsA_one _) ?_))
      have hr2 := R2.out.setRow (boolsA (trailTo R long a t (k - t)))
      have e : k - t = long.length - t := by have := HK.out; omega
      exact bodyPost_ret (v := cols (trailL R long a t)) (by rw [cols_def, trailL, ← e]; exact results_cell_row Try.results83 _ _ _ _ _ _ _ rfl hr2 Try.underlying88 rfl (size88 (trailTo_length _ _ _ _ _))) rfl ⟨rfl, below_setRow HB.out (by omega) _⟩

end Go.Proofs.Ytnnlbbmimdohoaa
