/- The walks of layer 1: the small functions on places and knots. -/
import Derived.Test.YticfcdbfplfmlaaGreatKM
import Derived.BigGuardPart
import Derived.Laws.EntriesVeiled
import Derived.Deep.LoopGhost
import Derived.Test.YticfcdbfplfmlaaGreatRGX
import Derived.Maps.AppendAt
import Derived.Deep.DeepCutAuto
import Derived.Maps.Keyed
import Derived.Maps.Own
import Derived.Maps.OwnOps
import Derived.Maps.Views
import Derived.DeepKeys4
namespace Go.Proofs.YticfcdbfplfmlaaGreat.Pe
open Go.RowKit

def showsB (a t n : Int) : Bool := decide (0 ≤ a) && decide (a < 24) && decide (0 ≤ t) && decide (t < n)
def narrowB (a b m : Int) : Bool := decide (a ≤ b) && decide (wrap64 (b - a) ≤ m)

set_option maxHeartbeats 400000 in
theorem shows_any (a t n : Int) (w : World) :
    Calls Tryz.prog 107 #[.agg #[.int .i64 a, .int .i64 t], .int .i64 n] w fun e w' => e = .returned (.bool (showsB a t n)) ∧ Below w.heap.size w w' := by
  go_enter Tryz.func107, Tryz.ntmps107
  go_wp2
  all_goals
    go_ret
    exact ⟨ret_bool (by unfold showsB; simp_all <;> omega), below_alloc _ _⟩

set_option maxHeartbeats 400000 in
theorem narrow_any (a b m : Int) (w : World) :
    Calls Tryz.prog 113 #[.agg #[.int .i64 a, .int .i64 b], .int .i64 m] w fun e w' => e = .returned (.bool (narrowB a b m)) ∧ Below w.heap.size w w' := by
  go_enter Tryz.func113, Tryz.ntmps113
  go_wp2
  all_goals
    go_ret
    exact ⟨ret_bool (by unfold narrowB; simp_all <;> omega), below_alloc _ _⟩

set_option maxHeartbeats 400000 in
theorem low_any (a b c d : Int) (w : World) :
    Calls Tryz.prog 105 #[.agg #[.int .i64 a, .int .i64 b, .int .i64 c, .int .i64 d]] w fun e w' => e = .returned (.agg #[.int .i64 a, .int .i64 c]) ∧ Below w.heap.size w w' := by
  go_enter Tryz.func105, Tryz.ntmps105
  go_wp2
  exact bodyPost_ret (v := .agg #[.int .i64 a, .int .i64 c]) (by simp [results, Tryz.results105, go_sem]) rfl ⟨rfl, (below_alloc _ _).alloc (by simp) _⟩

set_option maxHeartbeats 400000 in
theorem high_any (a b c d : Int) (w : World) :
    Calls Tryz.prog 106 #[.agg #[.int .i64 a, .int .i64 b, .int .i64 c, .int .i64 d]] w fun e w' => e = .returned (.agg #[.int .i64 b, .int .i64 d]) ∧ Below w.heap.size w w' := by
  go_enter Tryz.func106, Tryz.ntmps106
  go_wp2
  exact bodyPost_ret (v := .agg #[.int .i64 b, .int .i64 d]) (by simp [results, Tryz.results106, go_sem]) rfl ⟨rfl, (below_alloc _ _).alloc (by simp) _⟩

set_option maxHeartbeats 400000 in
theorem ends_any (w : World) :
    Calls Tryz.prog 112 #[] w fun e w' => e = .returned (.agg #[.func (.func 105) #[] #[], .func (.func 106) #[] #[]]) ∧ Below w.heap.size w w' := by
  go_enter Tryz.func112, Tryz.ntmps112
  go_wp2
  exact bodyPost_ret (v := .agg #[.func (.func 105) #[] #[], .func (.func 106) #[] #[]]) (by simp [results, Tryz.results112, go_sem]) rfl ⟨rfl, below_alloc _ _⟩

/-- What is so of a column. -/
def b0 (l : List Bool) (k : Nat) : Bool := l.getD k false
theorem b0_lt {l : List Bool} {k : Nat} (h : k < l.length) : b0 l k = l[k] := by simp [b0, h]

/-- The truth values of columns, as a value of the array's type. -/
def cols (l : List Bool) : Value := .agg (l.map Value.bool).toArray

set_option maxHeartbeats 400000 in
theorem has_any (l : List Bool) (i : Nat) (hl : l.length = 72) (hi : i < 72) (w : World) :
    Calls Tryz.prog 110 #[cols l, .int .i64 i] w fun e w' => e = .returned (.bool (b0 l i)) ∧ Below w.heap.size w w' := by
  unfold cols
  go_enter Tryz.func110, Tryz.ntmps110
  go_wp2
  go_ret
  exact ⟨ret_bool (b0_lt (by omega)).symm, below_alloc _ _⟩

def orL (l m : List Bool) : List Bool := List.zipWith (fun a b => a || b) l m
theorem orL_length {l m : List Bool} (hl : l.length = 72) (hm : m.length = 72) : (orL l m).length = 72 := by simp [orL, hl, hm]
/-- The first k columns joined, the others as they were. -/
def mixL (l m : List Bool) (k : Nat) : List Bool := (orL l m).take k ++ l.drop k
theorem mixL_length {l m : List Bool} (hl : l.length = 72) (hm : m.length = 72) (k : Nat) (hk : k ≤ 72) : (mixL l m k).length = 72 := by
  simp [mixL, orL_length hl hm, hl]; omega
theorem mixL_at {l m : List Bool} (hl : l.length = 72) (hm : m.length = 72) {k : Nat} (hk : k < 72) : (mixL l m k)[k]? = some (b0 l k) := by
  have h := orL_length hl hm
  rw [mixL, List.getElem?_append_right (by simp; omega), List.getElem?_drop]
  simp [h, hl, Nat.min_eq_left (Nat.le_of_lt hk), hk, b0]
theorem mixL_set {l m : List Bool} (hl : l.length = 72) (hm : m.length = 72) {k : Nat} (hk : k < 72) : (mixL l m k).set k (b0 l k || b0 m k) = mixL l m (k + 1) := by
  have h := orL_length hl hm
  have e : (orL l m)[k]'(by omega) = (b0 l k || b0 m k) := by simp [orL, hl, hm, hk, b0]
  unfold mixL
  rw [List.set_append_right _ _ (by simp; omega), List.take_succ_eq_append_getElem (by omega), e, List.append_assoc]
  have e0 : k - min k 72 = 0 := by omega
  simp only [List.length_take, h, e0]
  generalize (b0 l k || b0 m k) = c
  rw [List.drop_eq_getElem_cons (by omega : k < l.length), List.set_cons_zero]
  rfl
theorem mixL_all {l m : List Bool} (hl : l.length = 72) (hm : m.length = 72) : mixL l m 72 = orL l m := by
  have h := orL_length hl hm
  unfold mixL
  rw [List.take_of_length_le (by omega), List.drop_eq_nil_of_le (by omega), List.append_nil]
def boolsA (l : List Bool) : Array Value := (l.map Value.bool).toArray
theorem boolsA_size (l : List Bool) : (boolsA l).size = l.length := by simp [boolsA]
theorem boolsA_at {l : List Bool} {k : Nat} {b : Bool} (h : l[k]? = some b) : (boolsA l)[k]? = some (.bool b) := by simp [boolsA, h]
theorem boolsA_set (l : List Bool) (k : Nat) (b : Bool) : (boolsA l).setIfInBounds k (.bool b) = boolsA (l.set k b) := by
  simp [boolsA, List.map_set]
theorem boolsA_one (l : List Bool) : (boolsA l).all (·.oneCell') = true := by
  simp [boolsA, Value.oneCell']
theorem cols_def (l : List Bool) : cols l = .agg (boolsA l) := rfl
theorem size88 {l : List Bool} (hl : l.length = 72) : (Tryz.prog.info? 121).map (·.size) = some (boolsA l).size := by
  have h : ((Tryz.prog.info? 121).map (·.size)) = some 72 := by kernel_rfl
  rw [h, boolsA_size, hl]
theorem zero88 : Tryz.zeroCells121 = boolsA (List.replicate 72 false) := by kernel_rfl

theorem index88 {m : List Bool} (hm : m.length = 72) {k : Nat} (hk : k < 72) (w : World) : (Instr.index 121 (.agg (boolsA m)) (.int .i64 k)).run Tryz.prog w = .ok (.bool (b0 m k)) w := by
  have h := boolsA_size m
  have h2 : (boolsA m)[k]'(by rw [h, hm]; exact hk) = .bool (m[k]'(by omega)) := by simp [boolsA]
  simp [Instr.index, go_sem, h, hm, hk, h2, b0]

set_option maxRecDepth 10000 in
set_option maxHeartbeats 400000 in
theorem with_any (l m : List Bool) (hl : l.length = 72) (hm : m.length = 72) (w : World) :
    Calls Tryz.prog 82 #[cols l, cols m] w fun e w' => e = .returned (cols (orL l m)) ∧ Below w.heap.size w w' := by
  rw [cols_def, cols_def]
  have HI := Lib.hid (size88 hm)
  go_enter Tryz.func82, Tryz.ntmps82
  go_wp2_with (refine load_row rfl 121 _ rfl _ rfl 121 _ _ ((Row.new' (by simp) _ _).alloc _) Tryz.underlying121 rfl HI.out ?_)
  go_loopw [8] (fun i wr => ∃ k : Nat, k ≤ 72 ∧ i = .int .i64 k ∧ Row wr w.heap.size (boolsA (mixL l m k)) 121 ∧ Row wr (w.heap.size + 1 + 1) Tryz.zeroCells121 121 ∧ Below w.heap.size w wr) (fun i _ => 72 - (intOf i).toNat)
  case atStart => exact ⟨0, by omega, rfl, ((Row.new _ _ _).alloc _).alloc _, Row.new' (by simp) _ _, (((below_alloc _ _).alloc (by simp) _).alloc (by simp; omega) _)⟩
  case round =>
    obtain ⟨k, hk, rfl, hr, hz, hb⟩ := hrel
    have HR := Lib.hid hr
    have HZ := Lib.hid hz
    have HB := Lib.hid hb
    by_cases hlt : k < 72
    · have hcell := hr.cell k (boolsA_at (mixL_at hl hm hlt))
      have hfree := hr.free k
      clear hr hz hb
      cases hlk : b0 l k
      all_goals
        rw [hlk] at hcell
        have HL := Lib.hid hlk
        clear hlk
        go_wp2_with (first | (refine index_op rfl 121 _ _ rfl _ _ rfl rfl _ (index88 hm hlt _) ?_))
        go_roundw
        case rel => exact ⟨k + 1, by omega, by go_num, by have := HR.out.set k (.bool (b0 l k || b0 m k)); rw [boolsA_set, mixL_set hl hm hlt, HL.out] at this; exact this, HZ.out.set_other _ _ (by dsimp only; omega), HB.out.setCell (by simp) _⟩
        case measure => simp [intOf]; omega
    · obtain rfl : k = 72 := by omega
      clear hr hz hb
      have hlen := mixL_length hl hm 72 (by omega)
      go_wp2_with (first | (refine load_row rfl 121 _ rfl _ rfl 121 _ _ HR.out Tryz.underlying121 rfl (size88 hlen) ?_) | (refine store_row rfl 121 _ _ rfl _ _ _ _ rfl rfl HZ.out (size88 hlen) (by rw [zero88, boolsA_size, boolsA_size, hlen, List.length_replicate]) (boolsA_one _) ?_))
      have hr2 := (HZ.out).setRow (boolsA (mixL l m 72))
      exact bodyPost_ret (v := cols (orL l m)) (by rw [cols_def, ← mixL_all hl hm]; exact results_cell_row Tryz.results82 _ _ _ _ _ _ _ rfl hr2 Tryz.underlying121 rfl (size88 hlen)) rfl ⟨rfl, below_setRow HB.out (by omega) _⟩

end Go.Proofs.YticfcdbfplfmlaaGreat.Pe
/- The walks of layer 1: the ribbon's columns, trails, whole pieces, cuttings. -/
namespace Go.Proofs.YticfcdbfplfmlaaGreat.Pe
open Go.RowKit

/-- A ribbon's fields, as they lie in its cells. -/
structure Rib where
  p1 : Option Addr
  n1 : Nat
  c1 : Nat
  sz : Int
  p2 : Option Addr
  n2 : Nat
  c2 : Nat
  wide : Int
  s : List Int
  mb : Option Nat
def Rib.A (R : Rib) : Array Value :=
  (.slice R.p1 R.n1 R.c1 :: .int .i64 R.sz :: .slice R.p2 R.n2 R.c2 :: .int .i64 R.wide :: (R.s.map (Value.int .i64) ++ [.map R.mb])).toArray
theorem Rib.a0 (R : Rib) : R.A[0]? = some (.slice R.p1 R.n1 R.c1) := by simp [Rib.A]
theorem Rib.a1 (R : Rib) : R.A[1]? = some (.int .i64 R.sz) := by simp [Rib.A]
theorem Rib.a2 (R : Rib) : R.A[2]? = some (.slice R.p2 R.n2 R.c2) := by simp [Rib.A]
theorem Rib.a3 (R : Rib) : R.A[3]? = some (.int .i64 R.wide) := by simp [Rib.A]
theorem Rib.a4 (R : Rib) (h : R.s.length = 6) {i : Nat} (hi : i < 6) : R.A[4 + i]? = some (.int .i64 (at0 R.s i)) := by
  have e : 4 + i = i + 1 + 1 + 1 + 1 := by omega
  simp [Rib.A, e, List.getElem?_append_left, h, hi, at0]
theorem Rib.a10 (R : Rib) (h : R.s.length = 6) : R.A[10]? = some (.map R.mb) := by
  simp [Rib.A, h]
theorem Rib.size (R : Rib) (h : R.s.length = 6) : R.A.size = 11 := by simp [Rib.A, h]
theorem Rib.one (R : Rib) : R.A.all (·.oneCell') = true := by
  simp [Rib.A, Value.oneCell']
theorem size76 {R : Rib} (h : R.s.length = 6) : (Tryz.prog.info? 115).map (·.size) = some R.A.size := by
  have e : ((Tryz.prog.info? 115).map (·.size)) = some 11 := by kernel_rfl
  rw [e, R.size h]

/-- The column of an angle in a turn. -/
def colOf (R : Rib) (long : List Int) (a : Int) (t : Nat) : Int := at0 R.s t + a * at0 long t / 24

set_option maxRecDepth 10000 in
set_option maxHeartbeats 400000 in
theorem column_any (R : Rib) (long : List Int) (hs : R.s.length = 6) (w : World) (hl : IntsAt w R.p1 long) (hn : R.n1 = long.length) (a : Int) (t : Nat) (ha : 0 ≤ a) (ha2 : a ≤ 23) (ht : t < long.length) (h6 : long.length ≤ 6)
    (hlo : 0 ≤ at0 long t) (hhi : at0 long t ≤ 12) (h0 : 0 ≤ at0 R.s t) (h1 : at0 R.s t ≤ 72) :
    Calls Tryz.prog 108 #[.agg R.A, .agg #[.int .i64 a, .int .i64 t]] w fun e w' => e = .returned (.int .i64 (colOf R long a t)) ∧ Below w.heap.size w w' := by
  obtain ⟨b, o, hp, hcell⟩ := hl t ht
  have a0 := R.a0
  have a4 := R.a4 hs (i := t) (by omega)
  rw [hp, hn] at a0
  have hlt := cell_block hcell
  dsimp only at hlt
  have hm1 : 0 ≤ a * at0 long t := Int.mul_nonneg ha hlo
  have hm2 : a * at0 long t ≤ 23 * 12 := Int.mul_le_mul ha2 hhi hlo (by omega)
  clear hl hn hs hp
  go_enter Tryz.func108, Tryz.ntmps108
  go_wp2
  go_quiet (fail)
  go_wp2
  go_ret
  exact ⟨ret_int rfl, below_drewN ((below_alloc _ _).alloc (by simp) _) _⟩

/-- A ribbon that fits the turns of a log: what its own functions need to know of it. -/
structure RibOk (R : Rib) (long : List Int) : Prop where
  s6 : R.s.length = 6
  n1 : R.n1 = long.length
  n6 : long.length ≤ 6
  lo : ∀ t, t < long.length → 1 ≤ at0 long t
  hi : ∀ t, t < long.length → at0 long t ≤ 12
  s0 : ∀ t, t < long.length → 0 ≤ at0 R.s t
  se : ∀ t, t < long.length → at0 R.s t + at0 long t ≤ R.wide
  w72 : R.wide ≤ 72

theorem colOf_range {R : Rib} {long : List Int} (h : RibOk R long) {a : Int} (ha : 0 ≤ a) (ha2 : a ≤ 23) {t : Nat} (ht : t < long.length) : 0 ≤ colOf R long a t ∧ colOf R long a t < R.wide := by
  have h1 := h.lo t ht
  have h2 := h.hi t ht
  have h3 := h.s0 t ht
  have h4 := h.se t ht
  have m1 : 0 ≤ a * at0 long t := Int.mul_nonneg ha (by omega)
  have m2 : a * at0 long t ≤ 23 * at0 long t := Int.mul_le_mul_of_nonneg_right ha2 (by omega)
  unfold colOf
  omega

/-- The columns that a knot has from a turn on, as far as some turns go. -/
def trailTo (R : Rib) (long : List Int) (a : Int) (t : Nat) : Nat → List Bool
  | 0 => List.replicate 72 false
  | j + 1 => (trailTo R long a t j).set (colOf R long a (t + j)).toNat true
theorem trailTo_length (R : Rib) (long : List Int) (a : Int) (t j : Nat) : (trailTo R long a t j).length = 72 := by
  induction j with
  | zero => simp [trailTo]
  | succ j ih => simp [trailTo, ih]
/-- All of them. -/
def trailL (R : Rib) (long : List Int) (a : Int) (t : Nat) : List Bool := trailTo R long a t (long.length - t)

set_option maxRecDepth 10000 in
set_option maxHeartbeats 800000 in
theorem trail_any (R : Rib) (long : List Int) (hR : RibOk R long) (w : World) (hl : IntsAt w R.p1 long) (a : Int) (t : Nat) (ha : 0 ≤ a) (ha2 : a ≤ 23) (ht : t ≤ 1000) :
    Calls Tryz.prog 79 #[.agg R.A, .agg #[.int .i64 a, .int .i64 t]] w fun e w' => e = .returned (cols (trailL R long a t)) ∧ Below w.heap.size w w' := by
  have HS := Lib.hid (size76 hR.s6)
  have HN := Lib.hid hR.n1
  have HL := Lib.hid hl
  clear hl
  have hn6 := hR.n6
  go_enter Tryz.func79, Tryz.ntmps79
  go_wp2
  go_loopg [] (long.length - t) (fun g wr => ∃ k : Nat, g = long.length - k ∧ t ≤ k ∧ k ≤ 1000 ∧ (k ≤ long.length ∨ k = t) ∧ Row wr w.heap.size R.A 115 ∧ Row wr (w.heap.size + 1) #[.int .i64 a, .int .i64 k] 174 ∧ Row wr (w.heap.size + 1 + 1) Tryz.zeroCells121 121 ∧ Row wr (w.heap.size + 1 + 1 + 1) (boolsA (trailTo R long a t (k - t))) 121 ∧ Below w.heap.size w wr)
  case atStart => exact ⟨t, rfl, Nat.le_refl _, ht, .inr rfl, (((Row.new _ _ _).alloc _).alloc _).alloc _, ((Row.new' (by simp) _ _).alloc _).alloc _, (Row.new' (by simp) _ _).alloc _, by rw [Nat.sub_self, trailTo, ← zero88]; exact Row.new' (by simp) _ _, (((below_alloc _ _).alloc (by simp) _).alloc (by simp; omega) _).alloc (by simp; omega) _⟩
  case round =>
    obtain ⟨k, hg, htk, hk2, hkn, r0, r1, r2, r3, hb⟩ := hrel
    have HG := Lib.hid hg
    have HK := Lib.hid hkn
    have a0 := r0.cell 0 R.a0
    have c0 := r1.cell 0 (v := .int .i64 a) rfl
    have c1 := r1.cell 1 (v := .int .i64 k) rfl
    have R0 := Lib.hid r0
    have R1 := Lib.hid r1
    have R2 := Lib.hid r2
    have R3 := Lib.hid r3
    have HB := Lib.hid hb
    have hz := r3.lt
    clear r0 r1 r2 r3 hb hg hkn
    rw [HN.out] at a0
    go_wp2_with fail
    refine (shows_any _ _ _ _).mono ?_
    rintro e w1 ⟨rfl, hb1⟩
    have hz1 := hb1.size
    have R0 := Lib.hid (R0.out.below hb1 (by omega))
    have R1 := Lib.hid (R1.out.below hb1 (by omega))
    have R2 := Lib.hid (R2.out.below hb1 (by omega))
    have R3 := Lib.hid (R3.out.below hb1 (by omega))
    have HB := Lib.hid (HB.out.trans (hb1.mono (by omega)))
    clear a0 c0 c1 hb1
    by_cases hlt : k < long.length
    · have hsh : showsB a k long.length = true := by simp [showsB]; omega
      have c0 := R1.out.cell 0 (v := .int .i64 a) rfl
      have c1 := R1.out.cell 1 (v := .int .i64 k) rfl
      go_wp2_with (first | (refine load_row rfl 115 _ rfl _ rfl 115 _ _ R0.out Tryz.underlying115 rfl HS.out ?_))
      refine (column_any R long hR.s6 _ (HL.out.below HB.out) HN.out a k ha ha2 hlt hn6 (by have := hR.lo k hlt; omega) (hR.hi k hlt) (hR.s0 k hlt) (by have := hR.se k hlt; have := hR.lo k hlt; have := hR.w72; omega)).mono ?_
      rintro e w2 ⟨rfl, hb2⟩
      have hz2 := hb2.size
      have R0 := Lib.hid (R0.out.below hb2 (by omega))
      have R1 := Lib.hid (R1.out.below hb2 (by omega))
      have R2 := Lib.hid (R2.out.below hb2 (by omega))
      have R3 := Lib.hid (R3.out.below hb2 (by omega))
      have HB := Lib.hid (HB.out.trans (hb2.mono (by omega)))
      clear c0 c1 hb2
      obtain ⟨hc0, hc1⟩ := colOf_range hR ha ha2 hlt
      have hw72 := hR.w72
      obtain ⟨c, hc⟩ : ∃ c : Nat, colOf R long a k = c := ⟨(colOf R long a k).toNat, by omega⟩
      rw [hc]
      have hcl : c < 72 := by omega
      have HC := Lib.hid hc
      clear hc hc0 hc1 hw72
      have hcell := R3.out.cell c (boolsA_at (b := b0 (trailTo R long a t (k - t)) c) (by rw [b0_lt (by rw [trailTo_length]; omega)]; simp [trailTo_length, hcl]))
      have hfree := R3.out.free c
      have c1 := R1.out.cell 1 (v := .int .i64 k) rfl
      have f1 := R1.out.free 1
      have c1' : (w2.setCell ⟨w.heap.size + 1 + 1 + 1, c, none⟩ (.bool true)).cell? ⟨w.heap.size + 1, 1, none⟩ = some (.int .i64 k) := (R1.out.set_other _ _ (by dsimp only; omega)).cell 1 rfl
      have f1' : (w2.setCell ⟨w.heap.size + 1 + 1 + 1, c, none⟩ (.bool true)).frozen? ⟨w.heap.size + 1, 1, none⟩ = false := (R1.out.set_other _ _ (by dsimp only; omega)).free 1
      go_wp2
      go_roundg (long.length - (k + 1))
      case measure => have := HG.out; omega
      case rel =>
        refine ⟨k + 1, rfl, by omega, by omega, .inl (by omega), (R0.out.set_other _ _ (by dsimp only; omega)).set_other _ _ (by dsimp only; omega), ?_, (R2.out.set_other _ _ (by dsimp only; omega)).set_other _ _ (by dsimp only; omega), ?_, (HB.out.setCell (by dsimp only; omega) _).setCell (by dsimp only; omega) _⟩
        · exact (R1.out.set_other _ _ (by dsimp only; omega)).set 1 _
        · have e : k + 1 - t = k - t + 1 := by omega
          have e2 : (colOf R long a (t + (k - t))).toNat = c := by rw [show t + (k - t) = k by omega, HC.out]; rfl
          rw [e, trailTo, e2, ← boolsA_set]
          exact (R3.out.set c _).set_other _ _ (by dsimp only; omega)
    · have hsh : showsB a k long.length = false := by simp [showsB]; omega
      go_wp2_with (first | (refine load_row rfl 121 _ rfl _ rfl 121 _ _ R3.out Tryz.underlying121 rfl (size88 (trailTo_length _ _ _ _ _)) ?_) | (refine store_row rfl 121 _ _ rfl _ _ _ _ rfl rfl R2.out (size88 (trailTo_length _ _ _ _ _)) (by rw [zero88, boolsA_size, boolsA_size, trailTo_length, List.length_replicate]) (boolsA_one _) ?_))
      have hr2 := R2.out.setRow (boolsA (trailTo R long a t (k - t)))
      have e : k - t = long.length - t := by have := HK.out; omega
      exact bodyPost_ret (v := cols (trailL R long a t)) (by rw [cols_def, trailL, ← e]; exact results_cell_row Tryz.results79 _ _ _ _ _ _ _ rfl hr2 Tryz.underlying121 rfl (size88 (trailTo_length _ _ _ _ _))) rfl ⟨rfl, below_setRow HB.out (by omega) _⟩

end Go.Proofs.YticfcdbfplfmlaaGreat.Pe
/- The walks of layer 1: whole pieces, cuttings, knives. -/
namespace Go.Proofs.YticfcdbfplfmlaaGreat.Pe
open Go.RowKit

/-- Do so many columns from one on have no knot? -/
def freeAt (kn : List Bool) (i sz : Nat) : Bool := (List.range sz).all fun j => !b0 kn (i + j)
/-- The first columns of whole pieces, of those below a column. -/
def wholeTo (kn : List Bool) (sz k : Nat) : List Bool := (List.range 72).map fun i => decide (i < k) && freeAt kn i sz
theorem wholeTo_length (kn : List Bool) (sz k : Nat) : (wholeTo kn sz k).length = 72 := by simp [wholeTo]
theorem wholeTo_at (kn : List Bool) (sz k i : Nat) (hi : i < 72) : (wholeTo kn sz k)[i]? = some (decide (i < k) && freeAt kn i sz) := by simp [wholeTo, hi]
theorem wholeTo_zero (kn : List Bool) (sz : Nat) : wholeTo kn sz 0 = List.replicate 72 false := by
  apply List.ext_getElem? ; intro i
  by_cases hi : i < 72
  · rw [wholeTo_at _ _ _ _ hi, List.getElem?_replicate, if_pos hi]; rfl
  · rw [List.getElem?_eq_none (by rw [wholeTo_length]; omega), List.getElem?_eq_none (by simp; omega)]
theorem wholeTo_yes {kn : List Bool} {sz k : Nat} (h : freeAt kn k sz = true) : (wholeTo kn sz k).set k true = wholeTo kn sz (k + 1) := by
  apply List.ext_getElem? ; intro i
  by_cases hi : i < 72
  · rw [wholeTo_at _ _ _ _ hi, List.getElem?_set]
    by_cases hk : k = i
    · subst hk; simp [wholeTo_length, hi, h]
    · rw [if_neg hk, wholeTo_at _ _ _ _ hi]
      have : (i < k + 1) ↔ (i < k) := by omega
      simp [this]
  · rw [List.getElem?_eq_none (by rw [List.length_set, wholeTo_length]; omega), List.getElem?_eq_none (by rw [wholeTo_length]; omega)]
theorem wholeTo_no {kn : List Bool} {sz k : Nat} (h : freeAt kn k sz = false) : wholeTo kn sz k = wholeTo kn sz (k + 1) := by
  apply List.ext_getElem? ; intro i
  by_cases hi : i < 72
  · rw [wholeTo_at _ _ _ _ hi, wholeTo_at _ _ _ _ hi]
    by_cases hk : k = i
    · subst hk; simp [h]
    · have : (i < k + 1) ↔ (i < k) := by omega
      simp [this]
  · rw [List.getElem?_eq_none (by rw [wholeTo_length]; omega), List.getElem?_eq_none (by rw [wholeTo_length]; omega)]
theorem free_yes {kn : List Bool} {k sz : Nat} (h : ∀ i, i < sz → b0 kn (k + i) = false) : freeAt kn k sz = true := by
  simp only [freeAt, List.all_eq_true, List.mem_range]; intro i hi; simp [h i hi]
theorem free_no {kn : List Bool} {k sz i : Nat} (hi : i < sz) (h : b0 kn (k + i) = true) : freeAt kn k sz = false := by
  rw [Bool.eq_false_iff]; intro hf
  simp only [freeAt, List.all_eq_true, List.mem_range] at hf
  have := hf i hi; rw [h] at this; cases this
/-- All of them. -/
def wholeL (kn : List Bool) (sz : Nat) (wide : Int) : List Bool := wholeTo kn sz (wide - sz + 1).toNat
theorem wholeL_length (kn : List Bool) (sz : Nat) (wide : Int) : (wholeL kn sz wide).length = 72 := wholeTo_length _ _ _

set_option maxRecDepth 10000 in
set_option maxHeartbeats 800000 in
theorem whole_any (R : Rib) (sz : Nat) (hsz : R.sz = sz) (h1 : 1 ≤ sz) (h6 : sz ≤ 6) (hw0 : 0 ≤ R.wide) (hw : R.wide ≤ 72) (kn : List Bool) (hk : kn.length = 72) (w : World) :
    Calls Tryz.prog 109 #[.agg R.A, cols kn] w fun e w' => e = .returned (cols (wholeL kn sz R.wide)) ∧ Below w.heap.size w w' := by
  rw [cols_def]
  obtain ⟨wd, hwd⟩ : ∃ wd : Nat, R.wide = wd := ⟨R.wide.toNat, by omega⟩
  have a1 := R.a1
  have a3 := R.a3
  rw [hsz] at a1
  rw [hwd] at a3 hw ⊢
  have HD := Lib.hid hwd
  have HZ := Lib.hid hsz
  clear hwd hsz hw0
  go_enter Tryz.func109, Tryz.ntmps109
  go_wp2
  go_step3
  go_wp2
  go_step3
  go_wp2
  clear a1 a3
  go_loopg [15] ((wd : Int) - sz + 1).toNat (fun g i wr => ∃ k : Nat, g = ((wd : Int) - sz + 1).toNat - k ∧ k ≤ ((wd : Int) - sz + 1).toNat ∧ i = .int .i64 k ∧ Row wr w.heap.size R.A 115 ∧ Row wr (w.heap.size + 1) (boolsA kn) 121 ∧ Row wr (w.heap.size + 1 + 1) Tryz.zeroCells121 121 ∧ Row wr (w.heap.size + 1 + 1 + 1) (boolsA (wholeTo kn sz k)) 121 ∧ Below w.heap.size w wr)
  case atStart => exact ⟨0, rfl, by omega, rfl, (((Row.new _ _ _).alloc _).alloc _).alloc _, ((Row.new' (by simp) _ _).alloc _).alloc _, (Row.new' (by simp) _ _).alloc _, by rw [wholeTo_zero, ← zero88]; exact Row.new' (by simp) _ _, (((below_alloc _ _).alloc (by simp) _).alloc (by simp; omega) _).alloc (by simp; omega) _⟩
  case round =>
    obtain ⟨k, hg, hkn, rfl, r0, r1, r2, r3, hb⟩ := hrel
    have HG := Lib.hid hg
    have a1 := r0.cell 1 R.a1
    rw [HZ.out] at a1
    have R0 := Lib.hid r0
    have R1 := Lib.hid r1
    have R2 := Lib.hid r2
    have R3 := Lib.hid r3
    have HB := Lib.hid hb
    have hz := r3.lt
    clear r0 r1 r2 r3 hb hg
    by_cases hlt : (k : Int) < (wd : Int) - sz + 1
    · go_wp2
      go_loop [21] (fun i => ∃ j : Nat, j ≤ sz ∧ i = .int .i64 j ∧ Hid (∀ i, i < j → b0 kn (k + i) = false)) (fun i => sz - (intOf i).toNat)
      case atStart => exact ⟨0, by omega, rfl, Lib.hid (fun i h => by omega)⟩
      case round =>
        obtain ⟨j, hj, rfl, hfree⟩ := hrel
        by_cases hjl : j < sz
        · have hcell := R1.out.cell (k + j) (boolsA_at (b := b0 kn (k + j)) (by rw [b0_lt (by omega)]; simp))
          cases hkj : b0 kn (k + j)
          · rw [hkj] at hcell
            have HKJ := Lib.hid hkj
            clear hkj
            go_wp2
            go_round
            case rel => exact ⟨j + 1, by omega, by go_num, Lib.hid (fun i hi => by
              rcases Nat.lt_or_ge i j with h | h
              · exact hfree.out i h
              · rw [show i = j by omega]; exact HKJ.out)⟩
            case measure => simp [intOf]; omega
          · rw [hkj] at hcell
            have HKJ := Lib.hid hkj
            clear hkj
            go_wp2
            go_roundg (((wd : Int) - sz + 1).toNat - (k + 1))
            case measure => have := HG.out; omega
            case rel => exact ⟨k + 1, rfl, by omega, by go_num, R0.out, R1.out, R2.out, by rw [← wholeTo_no (free_no hjl HKJ.out)]; exact R3.out, HB.out⟩
        · have e : j = sz := by omega
          have HF := Lib.hid (free_yes (kn := kn) (k := k) (sz := sz) (fun i hi => hfree.out i (by omega)))
          have hcell := R3.out.cell k (boolsA_at (wholeTo_at kn sz k k (by omega)))
          have hfr := R3.out.free k
          clear e hfree
          go_wp2
          go_roundg (((wd : Int) - sz + 1).toNat - (k + 1))
          case measure => have := HG.out; omega
          case rel => exact ⟨k + 1, rfl, by omega, by go_num, R0.out.set_other _ _ (by dsimp only; omega), R1.out.set_other _ _ (by dsimp only; omega), R2.out.set_other _ _ (by dsimp only; omega), by rw [← wholeTo_yes HF.out, ← boolsA_set]; exact R3.out.set k _, HB.out.setCell (by dsimp only; omega) _⟩
    · have e : k = ((wd : Int) - sz + 1).toNat := by omega
      have HE := Lib.hid e
      clear e
      go_wp2_with (first | (refine load_row rfl 121 _ rfl _ rfl 121 _ _ R3.out Tryz.underlying121 rfl (size88 (wholeTo_length _ _ _)) ?_) | (refine store_row rfl 121 _ _ rfl _ _ _ _ rfl rfl R2.out (size88 (wholeTo_length _ _ _)) (by rw [zero88, boolsA_size, boolsA_size, wholeTo_length, List.length_replicate]) (boolsA_one _) ?_))
      have hr2 := R2.out.setRow (boolsA (wholeTo kn sz k))
      exact bodyPost_ret (v := cols (wholeL kn sz wd)) (by rw [cols_def, wholeL, ← HE.out]; exact results_cell_row Tryz.results109 _ _ _ _ _ _ _ rfl hr2 Tryz.underlying121 rfl (size88 (wholeTo_length _ _ _))) rfl ⟨rfl, below_setRow HB.out (by omega) _⟩

/-- A knife that counts the pieces of which something is so. -/
def knifeV (wide : Int) (sz : Nat) (c : List Bool) : Value := .agg #[.int .i64 wide, .int .i64 sz, .func (.func 110) #[cols c] #[]]

set_option maxRecDepth 10000 in
set_option maxHeartbeats 800000 in
theorem knife_any (R : Rib) (sz : Nat) (hs : R.s.length = 6) (hsz : R.sz = sz) (h1 : 1 ≤ sz) (h6 : sz ≤ 6) (hw0 : 0 ≤ R.wide) (hw : R.wide ≤ 72) (kn : List Bool) (hk : kn.length = 72) (w0 : World) :
    Calls Tryz.prog 83 #[.agg R.A, cols kn] w0 fun e w' => e = .returned (knifeV R.wide sz (wholeL kn sz R.wide)) ∧ Below w0.heap.size w0 w' := by
  rw [cols_def]
  have HZ := Lib.hid hsz
  have HS := Lib.hid (size76 hs)
  have HK := Lib.hid (size88 hk)
  go_enter Tryz.func83, Tryz.ntmps83
  go_wp2_with fail
  refine region_inv rfl (by kernel_rfl) (fun L a w => ∃ x5 x6 x7 x8 x9 x10 x11 x12 x13 x14 : Value, a = { tmps := #[.agg R.A, .agg (boolsA kn), .pointer (some ⟨w0.heap.size, 0, none⟩), .pointer (some ⟨w0.heap.size + 1, 0, none⟩), .pointer (some ⟨w0.heap.size + 1 + 1, 0, none⟩), x5, x6, x7, x8, x9, x10, x11, x12, x13, x14], defers := [] } ∧ Hid (L 0 = true → x5 = .pointer (some ⟨w0.heap.size, 3, none⟩)) ∧ Hid (L 1 = true → x6 = .int .i64 R.wide) ∧ Hid (L 2 = true → x7 = .pointer (some ⟨w0.heap.size, 0, none⟩)) ∧ Hid (L 3 = true → x8 = .pointer (some ⟨w0.heap.size, 1, none⟩)) ∧ Hid (L 4 = true → x9 = .int .i64 sz) ∧ Hid (L 5 = true → x10 = .agg R.A) ∧ Hid (L 6 = true → x11 = .agg (boolsA kn)) ∧ Hid (L 7 = true → x12 = cols (wholeL kn sz R.wide)) ∧ Hid (L 8 = true → x13 = .func (.func 110) #[cols (wholeL kn sz R.wide)] #[]) ∧ Hid (L 9 = true → x14 = .agg #[.int .i64 R.wide, .int .i64 sz, .func (.func 110) #[cols (wholeL kn sz R.wide)] #[]]) ∧ Hid (Row w w0.heap.size R.A 115) ∧ Hid (Row w (w0.heap.size + 1) (boolsA kn) 121) ∧ Hid (L 10 = false → Row w (w0.heap.size + 1 + 1) #[.int .i64 0, .int .i64 0, .nilFunc] 180) ∧ Hid (L 10 = true → Row w (w0.heap.size + 1 + 1) (#[.int .i64 R.wide, .int .i64 sz, .func (.func 110) #[cols (wholeL kn sz R.wide)] #[]]) 180) ∧ Hid (Below w0.heap.size w0 w) ∧ Hid (w0.heap.size + 1 + 1 < w.heap.size)) ?h0 ?steps ?hd
  case h0 => exact ⟨_, _, _, _, _, _, _, _, _, _, rfl, Lib.hid nofun, Lib.hid nofun, Lib.hid nofun, Lib.hid nofun, Lib.hid nofun, Lib.hid nofun, Lib.hid nofun, Lib.hid nofun, Lib.hid nofun, Lib.hid nofun, Lib.hid (((Row.new _ _ _).alloc _).alloc _), Lib.hid ((Row.new' (by simp) _ _).alloc _), Lib.hid (fun _ => Row.new' (by simp) _ _), Lib.hid (nofun), Lib.hid ((((below_alloc _ _).alloc (by simp) _).alloc (by simp; omega) _).drew), Lib.hid (by simp [World.drew])⟩
  case hd =>
    rintro L a w hL ⟨x5, x6, x7, x8, x9, x10, x11, x12, x13, x14, rfl, hf0, hf1, hf2, hf3, hf4, hf5, hf6, hf7, hf8, hf9, hr0, hr1, hr2, hr3, hb, hz⟩
    obtain rfl := hf0.out (hL 0 (by decide))
    obtain rfl := hf1.out (hL 1 (by decide))
    obtain rfl := hf2.out (hL 2 (by decide))
    obtain rfl := hf3.out (hL 3 (by decide))
    obtain rfl := hf4.out (hL 4 (by decide))
    obtain rfl := hf5.out (hL 5 (by decide))
    obtain rfl := hf6.out (hL 6 (by decide))
    obtain rfl := hf7.out (hL 7 (by decide))
    obtain rfl := hf8.out (hL 8 (by decide))
    obtain rfl := hf9.out (hL 9 (by decide))
    clear hf0
    clear hf1
    clear hf2
    clear hf3
    clear hf4
    clear hf5
    clear hf6
    clear hf7
    clear hf8
    clear hf9
    have hr := hr3.out (hL 10 (by decide))
    clear hL
    go_wp2
    exact bodyPost_ret (v := knifeV R.wide sz (wholeL kn sz R.wide)) (by exact results_cell_row Tryz.results83 _ _ _ _ _ _ _ rfl hr Tryz.underlying180 rfl (by kernel_rfl)) rfl ⟨rfl, hb.out⟩
  case steps =>
    refine ⟨?_, ?_, ?_, ?_, ?_, ?_, ?_, ?_, ?_, ?_, ?_, trivial⟩
    · rintro L a w hL hk ⟨x5, x6, x7, x8, x9, x10, x11, x12, x13, x14, rfl, hf0, hf1, hf2, hf3, hf4, hf5, hf6, hf7, hf8, hf9, hr0, hr1, hr2, hr3, hb, hz⟩ K hK
      have HK0 := Lib.hid hK
      clear hK
      clear hL
      clear hk
      go_wp2
      exact HK0.out _ _ ⟨_, _, _, _, _, _, _, _, _, _, rfl, Lib.hid (fun _ => rfl), Lib.hid (fun h => hf1.out (by simpa [upd] using h)), Lib.hid (fun h => hf2.out (by simpa [upd] using h)), Lib.hid (fun h => hf3.out (by simpa [upd] using h)), Lib.hid (fun h => hf4.out (by simpa [upd] using h)), Lib.hid (fun h => hf5.out (by simpa [upd] using h)), Lib.hid (fun h => hf6.out (by simpa [upd] using h)), Lib.hid (fun h => hf7.out (by simpa [upd] using h)), Lib.hid (fun h => hf8.out (by simpa [upd] using h)), Lib.hid (fun h => hf9.out (by simpa [upd] using h)), hr0, hr1, Lib.hid (fun h => hr2.out (by simpa [upd] using h)), Lib.hid (fun h => hr3.out (by simpa [upd] using h)), hb, hz⟩
    · rintro L a w hL hk ⟨x5, x6, x7, x8, x9, x10, x11, x12, x13, x14, rfl, hf0, hf1, hf2, hf3, hf4, hf5, hf6, hf7, hf8, hf9, hr0, hr1, hr2, hr3, hb, hz⟩ K hK
      have HK0 := Lib.hid hK
      clear hK
      obtain rfl := hf0.out (after_on hL 0 rfl)
      clear hL
      clear hk
      have c3 := hr0.out.cell 3 R.a3
      go_wp2
      exact HK0.out _ _ ⟨_, _, _, _, _, _, _, _, _, _, rfl, Lib.hid (fun _ => rfl), Lib.hid (fun _ => rfl), Lib.hid (fun h => hf2.out (by simpa [upd] using h)), Lib.hid (fun h => hf3.out (by simpa [upd] using h)), Lib.hid (fun h => hf4.out (by simpa [upd] using h)), Lib.hid (fun h => hf5.out (by simpa [upd] using h)), Lib.hid (fun h => hf6.out (by simpa [upd] using h)), Lib.hid (fun h => hf7.out (by simpa [upd] using h)), Lib.hid (fun h => hf8.out (by simpa [upd] using h)), Lib.hid (fun h => hf9.out (by simpa [upd] using h)), hr0, hr1, Lib.hid (fun h => hr2.out (by simpa [upd] using h)), Lib.hid (fun h => hr3.out (by simpa [upd] using h)), hb, hz⟩
    · rintro L a w hL hk ⟨x5, x6, x7, x8, x9, x10, x11, x12, x13, x14, rfl, hf0, hf1, hf2, hf3, hf4, hf5, hf6, hf7, hf8, hf9, hr0, hr1, hr2, hr3, hb, hz⟩ K hK
      have HK0 := Lib.hid hK
      clear hK
      clear hL
      clear hk
      go_wp2
      exact HK0.out _ _ ⟨_, _, _, _, _, _, _, _, _, _, rfl, Lib.hid (fun h => hf0.out (by simpa [upd] using h)), Lib.hid (fun h => hf1.out (by simpa [upd] using h)), Lib.hid (fun _ => rfl), Lib.hid (fun h => hf3.out (by simpa [upd] using h)), Lib.hid (fun h => hf4.out (by simpa [upd] using h)), Lib.hid (fun h => hf5.out (by simpa [upd] using h)), Lib.hid (fun h => hf6.out (by simpa [upd] using h)), Lib.hid (fun h => hf7.out (by simpa [upd] using h)), Lib.hid (fun h => hf8.out (by simpa [upd] using h)), Lib.hid (fun h => hf9.out (by simpa [upd] using h)), hr0, hr1, Lib.hid (fun h => hr2.out (by simpa [upd] using h)), Lib.hid (fun h => hr3.out (by simpa [upd] using h)), hb, hz⟩
    · rintro L a w hL hk ⟨x5, x6, x7, x8, x9, x10, x11, x12, x13, x14, rfl, hf0, hf1, hf2, hf3, hf4, hf5, hf6, hf7, hf8, hf9, hr0, hr1, hr2, hr3, hb, hz⟩ K hK
      have HK0 := Lib.hid hK
      clear hK
      obtain rfl := hf2.out (after_on hL 2 rfl)
      clear hL
      clear hk
      go_wp2
      exact HK0.out _ _ ⟨_, _, _, _, _, _, _, _, _, _, rfl, Lib.hid (fun h => hf0.out (by simpa [upd] using h)), Lib.hid (fun h => hf1.out (by simpa [upd] using h)), Lib.hid (fun _ => rfl), Lib.hid (fun _ => rfl), Lib.hid (fun h => hf4.out (by simpa [upd] using h)), Lib.hid (fun h => hf5.out (by simpa [upd] using h)), Lib.hid (fun h => hf6.out (by simpa [upd] using h)), Lib.hid (fun h => hf7.out (by simpa [upd] using h)), Lib.hid (fun h => hf8.out (by simpa [upd] using h)), Lib.hid (fun h => hf9.out (by simpa [upd] using h)), hr0, hr1, Lib.hid (fun h => hr2.out (by simpa [upd] using h)), Lib.hid (fun h => hr3.out (by simpa [upd] using h)), hb, hz⟩
    · rintro L a w hL hk ⟨x5, x6, x7, x8, x9, x10, x11, x12, x13, x14, rfl, hf0, hf1, hf2, hf3, hf4, hf5, hf6, hf7, hf8, hf9, hr0, hr1, hr2, hr3, hb, hz⟩ K hK
      have HK0 := Lib.hid hK
      clear hK
      obtain rfl := hf3.out (after_on hL 3 rfl)
      clear hL
      clear hk
      have c1 := hr0.out.cell 1 R.a1
      rw [HZ.out] at c1
      go_wp2
      exact HK0.out _ _ ⟨_, _, _, _, _, _, _, _, _, _, rfl, Lib.hid (fun h => hf0.out (by simpa [upd] using h)), Lib.hid (fun h => hf1.out (by simpa [upd] using h)), Lib.hid (fun h => hf2.out (by simpa [upd] using h)), Lib.hid (fun _ => rfl), Lib.hid (fun _ => rfl), Lib.hid (fun h => hf5.out (by simpa [upd] using h)), Lib.hid (fun h => hf6.out (by simpa [upd] using h)), Lib.hid (fun h => hf7.out (by simpa [upd] using h)), Lib.hid (fun h => hf8.out (by simpa [upd] using h)), Lib.hid (fun h => hf9.out (by simpa [upd] using h)), hr0, hr1, Lib.hid (fun h => hr2.out (by simpa [upd] using h)), Lib.hid (fun h => hr3.out (by simpa [upd] using h)), hb, hz⟩
    · rintro L a w hL hk ⟨x5, x6, x7, x8, x9, x10, x11, x12, x13, x14, rfl, hf0, hf1, hf2, hf3, hf4, hf5, hf6, hf7, hf8, hf9, hr0, hr1, hr2, hr3, hb, hz⟩ K hK
      have HK0 := Lib.hid hK
      clear hK
      clear hL
      clear hk
      refine wp_load_row 115 _ rfl _ rfl 115 _ (0, 0) _ hr0.out Tryz.underlying115 rfl HS.out ?_
      exact HK0.out _ _ ⟨_, _, _, _, _, _, _, _, _, _, rfl, Lib.hid (fun h => hf0.out (by simpa [upd] using h)), Lib.hid (fun h => hf1.out (by simpa [upd] using h)), Lib.hid (fun h => hf2.out (by simpa [upd] using h)), Lib.hid (fun h => hf3.out (by simpa [upd] using h)), Lib.hid (fun h => hf4.out (by simpa [upd] using h)), Lib.hid (fun _ => rfl), Lib.hid (fun h => hf6.out (by simpa [upd] using h)), Lib.hid (fun h => hf7.out (by simpa [upd] using h)), Lib.hid (fun h => hf8.out (by simpa [upd] using h)), Lib.hid (fun h => hf9.out (by simpa [upd] using h)), hr0, hr1, Lib.hid (fun h => hr2.out (by simpa [upd] using h)), Lib.hid (fun h => hr3.out (by simpa [upd] using h)), hb, hz⟩
    · rintro L a w hL hk ⟨x5, x6, x7, x8, x9, x10, x11, x12, x13, x14, rfl, hf0, hf1, hf2, hf3, hf4, hf5, hf6, hf7, hf8, hf9, hr0, hr1, hr2, hr3, hb, hz⟩ K hK
      have HK0 := Lib.hid hK
      clear hK
      clear hL
      clear hk
      refine wp_load_row 121 _ rfl _ rfl 121 _ (0, 0) _ hr1.out Tryz.underlying121 rfl HK.out ?_
      exact HK0.out _ _ ⟨_, _, _, _, _, _, _, _, _, _, rfl, Lib.hid (fun h => hf0.out (by simpa [upd] using h)), Lib.hid (fun h => hf1.out (by simpa [upd] using h)), Lib.hid (fun h => hf2.out (by simpa [upd] using h)), Lib.hid (fun h => hf3.out (by simpa [upd] using h)), Lib.hid (fun h => hf4.out (by simpa [upd] using h)), Lib.hid (fun h => hf5.out (by simpa [upd] using h)), Lib.hid (fun _ => rfl), Lib.hid (fun h => hf7.out (by simpa [upd] using h)), Lib.hid (fun h => hf8.out (by simpa [upd] using h)), Lib.hid (fun h => hf9.out (by simpa [upd] using h)), hr0, hr1, Lib.hid (fun h => hr2.out (by simpa [upd] using h)), Lib.hid (fun h => hr3.out (by simpa [upd] using h)), hb, hz⟩
    · rintro L a w hL hk ⟨x5, x6, x7, x8, x9, x10, x11, x12, x13, x14, rfl, hf0, hf1, hf2, hf3, hf4, hf5, hf6, hf7, hf8, hf9, hr0, hr1, hr2, hr3, hb, hz⟩ K hK
      have HK0 := Lib.hid hK
      clear hK
      obtain rfl := hf5.out (after_on hL 5 rfl)
      obtain rfl := hf6.out (after_on hL 6 rfl)
      clear hL
      clear hk
      have hlt := hz.out
      go_wp2_with fail
      refine (whole_any R sz HZ.out h1 h6 hw0 hw kn hk _).mono ?_
      rintro e w1 ⟨rfl, hb1⟩
      exact HK0.out _ _ ⟨_, _, _, _, _, _, _, _, _, _, rfl, Lib.hid (fun h => hf0.out (by simpa [upd] using h)), Lib.hid (fun h => hf1.out (by simpa [upd] using h)), Lib.hid (fun h => hf2.out (by simpa [upd] using h)), Lib.hid (fun h => hf3.out (by simpa [upd] using h)), Lib.hid (fun h => hf4.out (by simpa [upd] using h)), Lib.hid (fun _ => rfl), Lib.hid (fun _ => rfl), Lib.hid (fun _ => rfl), Lib.hid (fun h => hf8.out (by simpa [upd] using h)), Lib.hid (fun h => hf9.out (by simpa [upd] using h)), Lib.hid (hr0.out.below hb1 (by omega)), Lib.hid (hr1.out.below hb1 (by omega)), Lib.hid (fun h => (hr2.out (by simpa [upd] using h)).below hb1 (by omega)), Lib.hid (fun h => (hr3.out (by simpa [upd] using h)).below hb1 (by omega)), Lib.hid (hb.out.trans (hb1.mono (by omega))), Lib.hid (Nat.lt_of_lt_of_le hlt hb1.size)⟩
    · rintro L a w hL hk ⟨x5, x6, x7, x8, x9, x10, x11, x12, x13, x14, rfl, hf0, hf1, hf2, hf3, hf4, hf5, hf6, hf7, hf8, hf9, hr0, hr1, hr2, hr3, hb, hz⟩ K hK
      have HK0 := Lib.hid hK
      clear hK
      obtain rfl := hf7.out (after_on hL 7 rfl)
      clear hL
      clear hk
      go_wp2
      exact HK0.out _ _ ⟨_, _, _, _, _, _, _, _, _, _, rfl, Lib.hid (fun h => hf0.out (by simpa [upd] using h)), Lib.hid (fun h => hf1.out (by simpa [upd] using h)), Lib.hid (fun h => hf2.out (by simpa [upd] using h)), Lib.hid (fun h => hf3.out (by simpa [upd] using h)), Lib.hid (fun h => hf4.out (by simpa [upd] using h)), Lib.hid (fun h => hf5.out (by simpa [upd] using h)), Lib.hid (fun h => hf6.out (by simpa [upd] using h)), Lib.hid (fun _ => rfl), Lib.hid (fun _ => rfl), Lib.hid (fun h => hf9.out (by simpa [upd] using h)), hr0, hr1, Lib.hid (fun h => hr2.out (by simpa [upd] using h)), Lib.hid (fun h => hr3.out (by simpa [upd] using h)), hb, hz⟩
    · rintro L a w hL hk ⟨x5, x6, x7, x8, x9, x10, x11, x12, x13, x14, rfl, hf0, hf1, hf2, hf3, hf4, hf5, hf6, hf7, hf8, hf9, hr0, hr1, hr2, hr3, hb, hz⟩ K hK
      have HK0 := Lib.hid hK
      clear hK
      obtain rfl := hf1.out (after_on hL 1 rfl)
      obtain rfl := hf4.out (after_on hL 4 rfl)
      obtain rfl := hf8.out (after_on hL 8 rfl)
      clear hL
      clear hk
      go_wp2
      exact HK0.out _ _ ⟨_, _, _, _, _, _, _, _, _, _, rfl, Lib.hid (fun h => hf0.out (by simpa [upd] using h)), Lib.hid (fun _ => rfl), Lib.hid (fun h => hf2.out (by simpa [upd] using h)), Lib.hid (fun h => hf3.out (by simpa [upd] using h)), Lib.hid (fun _ => rfl), Lib.hid (fun h => hf5.out (by simpa [upd] using h)), Lib.hid (fun h => hf6.out (by simpa [upd] using h)), Lib.hid (fun h => hf7.out (by simpa [upd] using h)), Lib.hid (fun _ => rfl), Lib.hid (fun _ => rfl), hr0, hr1, Lib.hid (fun h => hr2.out (by simpa [upd] using h)), Lib.hid (fun h => hr3.out (by simpa [upd] using h)), hb, hz⟩
    · rintro L a w hL hk ⟨x5, x6, x7, x8, x9, x10, x11, x12, x13, x14, rfl, hf0, hf1, hf2, hf3, hf4, hf5, hf6, hf7, hf8, hf9, hr0, hr1, hr2, hr3, hb, hz⟩ K hK
      have HK0 := Lib.hid hK
      clear hK
      obtain rfl := hf9.out (after_on hL 9 rfl)
      clear hL
      have hrz := hr2.out hk
      refine wp_store_row' 180 _ _ rfl _ _ _ _ rfl rfl hrz (by kernel_rfl) rfl (by simp [Value.oneCell']) ?_
      exact HK0.out _ _ ⟨_, _, _, _, _, _, _, _, _, _, rfl, Lib.hid (fun h => hf0.out (by simpa [upd] using h)), Lib.hid (fun h => hf1.out (by simpa [upd] using h)), Lib.hid (fun h => hf2.out (by simpa [upd] using h)), Lib.hid (fun h => hf3.out (by simpa [upd] using h)), Lib.hid (fun h => hf4.out (by simpa [upd] using h)), Lib.hid (fun h => hf5.out (by simpa [upd] using h)), Lib.hid (fun h => hf6.out (by simpa [upd] using h)), Lib.hid (fun h => hf7.out (by simpa [upd] using h)), Lib.hid (fun h => hf8.out (by simpa [upd] using h)), Lib.hid (fun _ => rfl), Lib.hid (hr0.out.setRow_other _ (by omega)), Lib.hid (hr1.out.setRow_other _ (by omega)), Lib.hid (nofun), Lib.hid (fun _ => hrz.setRow _), Lib.hid (below_setRow hb.out (by omega) _), Lib.hid (by simpa using hz.out)⟩

end Go.Proofs.YticfcdbfplfmlaaGreat.Pe
/- The walks of layer 1: is a list a cutting, how many of its pieces are counted; the greatest of several numbers. -/
namespace Go.Proofs.YticfcdbfplfmlaaGreat.Pe
open Go.RowKit

/-- Is a list a cutting, from a column on? -/
def cutOk (sz wide : Int) : Int → List Int → Bool
  | _, [] => true
  | free, f :: l => if f < free ∨ wide - sz < f then false else cutOk sz wide (f + sz) l
theorem cutOk_step {sz wide free : Int} {cut : List Int} {k : Nat} (h : k < cut.length) : cutOk sz wide free (cut.drop k) = if at0 cut k < free ∨ wide - sz < at0 cut k then false else cutOk sz wide (at0 cut k + sz) (cut.drop (k + 1)) := by
  rw [List.drop_eq_getElem_cons h, cutOk, at0_lt h]

/-- How many of some columns are counted. -/
def countL (c : List Bool) (cut : List Int) : Int := (cut.countP fun f => b0 c f.toNat : Nat)
theorem countL_take {c : List Bool} {cut : List Int} {k : Nat} (h : k < cut.length) : countL c (cut.take (k + 1)) = countL c (cut.take k) + if b0 c (at0 cut k).toNat then 1 else 0 := by
  rw [take_snoc h, countL, countL, List.countP_append]
  by_cases hb : b0 c (at0 cut k).toNat <;> simp [hb]
theorem countL_le (c : List Bool) (cut : List Int) : 0 ≤ countL c cut ∧ countL c cut ≤ cut.length := by
  unfold countL
  have := List.countP_le_length (p := fun f : Int => b0 c f.toNat) (l := cut)
  omega

/-- The greatest of several numbers. -/
def maxL (n : Int) (l : List Int) : Int := l.foldl max n

set_option maxHeartbeats 400000 in
theorem greatest_any (n : Int) (p : Option Addr) (c : Nat) (xs : List Int) (w : World) (hn : xs.length ≤ maxLen) (hc : IntsAt w p xs) :
    Calls Tryz.prog 58 #[.int .i64 n, .slice p xs.length c] w fun e w' => e = .returned (.int .i64 (maxL n xs)) ∧ w = w' := by
  unfold maxLen at hn
  go_enter Tryz.func58, Tryz.ntmps58
  go_wp2
  go_loop [0, 9] (fun t i => ∃ k : Nat, k ≤ xs.length ∧ i = .int .i64 k ∧ t = .int .i64 (maxL n (xs.take k))) (fun _ i => xs.length - (intOf i).toNat)
  case atStart => exact ⟨0, Nat.zero_le _, rfl, rfl⟩
  case round =>
    obtain ⟨k, hk, rfl, rfl⟩ := hrel
    by_cases hlt : k < xs.length
    · obtain ⟨b, o, rfl, hcell⟩ := hc k hlt
      clear hc
      go_wp2
      all_goals
        go_round
        case rel => exact ⟨k + 1, by omega, by go_num, by rw [take_snoc hlt, maxL, maxL, List.foldl_append]; simp; omega⟩
        case measure => simp [intOf]; omega
    · clear hc
      go_wp2
      go_ret
      exact ⟨ret_int (by rw [List.take_of_length_le (by omega)]), rfl⟩

/-- Where a number stands first in a list; -1: nowhere. -/
def indexL (l : List Int) (n : Int) : Int := if n ∈ l then (l.idxOf n : Nat) else -1
theorem indexL_here {l : List Int} {n : Int} {k : Nat} (h : k < l.length) (h1 : n ∉ l.take k) (h2 : at0 l k = n) : indexL l n = k := by
  rw [at0_lt h] at h2
  have hm : n ∈ l := by rw [← h2]; exact List.getElem_mem _
  have e : l = l.take k ++ n :: l.drop (k + 1) := by rw [← h2, ← List.drop_eq_getElem_cons h, List.take_append_drop]
  have hi : l.idxOf n = k := by
    rw [e, List.idxOf_append, if_neg h1]
    simp; omega
  rw [indexL, if_pos hm, hi]

/-- The greedy cutting from a column on. -/
def cutG (c : List Bool) (sz wide : Nat) : Nat → Nat → List Int
  | 0, _ => []
  | f + 1, i => if i + sz ≤ wide then (if b0 c i then (i : Int) :: cutG c sz wide f (i + sz) else cutG c sz wide f (i + 1)) else []
theorem cutG_fuel (c : List Bool) (sz wide : Nat) (h1 : 1 ≤ sz) : ∀ (f g i : Nat), wide < f + i → wide < g + i → cutG c sz wide f i = cutG c sz wide g i
  | 0, 0, _, _, _ => rfl
  | 0, g + 1, i, h, _ => by rw [cutG, cutG, if_neg (by omega)]
  | f + 1, 0, i, _, h => by rw [cutG, cutG, if_neg (by omega)]
  | f + 1, g + 1, i, hf, hg => by
    rw [cutG, cutG, cutG_fuel c sz wide h1 f g (i + sz) (by omega) (by omega), cutG_fuel c sz wide h1 f g (i + 1) (by omega) (by omega)]
/-- The greedy cutting: each piece as soon as it can be. -/
def cutL (c : List Bool) (sz wide : Nat) (i : Nat) : List Int := cutG c sz wide (wide + 1) i
theorem cutL_end {c : List Bool} {sz wide i : Nat} (h : ¬ i + sz ≤ wide) : cutL c sz wide i = [] := by rw [cutL, cutG, if_neg h]
theorem cutL_yes {c : List Bool} {sz wide i : Nat} (h1 : 1 ≤ sz) (h : i + sz ≤ wide) (hb : b0 c i = true) : cutL c sz wide i = (i : Int) :: cutL c sz wide (i + sz) := by
  rw [cutL, cutG, if_pos h, if_pos hb, cutL, cutG_fuel c sz wide h1 wide (wide + 1) (i + sz) (by omega) (by omega)]
theorem cutL_no {c : List Bool} {sz wide i : Nat} (h1 : 1 ≤ sz) (h : i + sz ≤ wide) (hb : b0 c i = false) : cutL c sz wide i = cutL c sz wide (i + 1) := by
  rw [cutL, cutG, if_pos h, if_neg (by simp [hb]), cutL, cutG_fuel c sz wide h1 wide (wide + 1) (i + 1) (by omega) (by omega)]
theorem cutL_length {c : List Bool} {sz wide : Nat} (h1 : 1 ≤ sz) : ∀ (n i : Nat), wide < n + i → (cutL c sz wide i).length + i ≤ max wide i
  | 0, i, h => by rw [cutL_end (by omega)]; simp; omega
  | n + 1, i, h => by
    by_cases hi : i + sz ≤ wide
    · cases hb : b0 c i
      · rw [cutL_no h1 hi hb]; have := cutL_length (c := c) (sz := sz) (wide := wide) h1 n (i + 1) (by omega); omega
      · rw [cutL_yes h1 hi hb]; have := cutL_length (c := c) (sz := sz) (wide := wide) h1 n (i + sz) (by omega); simp; omega
    · rw [cutL_end hi]; simp; omega

theorem owns_below {w w1 : World} {base e size : Nat} {v : Value} {n : Nat} {xs : List Value} (h : w.ownsRow base e size v n xs) (hb : Below w.heap.size w w1) : w1.ownsRow base e size v n xs := by
  refine ⟨h.1, ?_⟩
  rcases h.2 with h2 | ⟨g, cap, cur, hv, hg, hh, r⟩
  · exact .inl h2
  · exact .inr ⟨g, cap, cur, hv, hg, by rw [hb.block g (Array.getElem?_eq_some_iff.1 hh).1]; exact hh, r⟩
theorem ints_of_owns {w : World} {base e : Nat} {v : Value} {xs : List Int} (h : w.ownsRow base e 1 v xs.length (xs.map (Value.int .i64))) :
    ∃ p c, v = .slice p xs.length c ∧ IntsAt w p xs ∧ xs.length ≤ c ∧ c ≤ maxLen ∧ (p = none ∨ ∃ g, p = some ⟨g, 0, none⟩) := by
  rcases h.2 with ⟨hv, h0⟩ | ⟨g, cap, cur, hv, hg, hh, h1, h2, h3, h4⟩
  · exact ⟨none, 0, by rw [hv, h0], fun i hi => by omega, by omega, by unfold maxLen; omega, .inl rfl⟩
  · refine ⟨_, cap, hv, fun i hi => ⟨g, 0, rfl, ?_⟩, h1, h2, .inr ⟨g, rfl⟩⟩
    rw [cell_of_row w g (0 + i) cur e (0, 0) hh, Nat.zero_add]
    have : (cur.toList.take (xs.length * 1))[i]? = (xs.map (Value.int .i64))[i]? := by rw [h4]
    rw [List.getElem?_take_of_lt (by omega)] at this
    simp only [Array.getElem?_toList] at this
    rw [this]
    simp [hi, at0]

/-- The call returned a slice that reads as a list; what was there is as it was. -/
def GaveInts (xs : List Int) (w : World) (e : Ending) (w' : World) : Prop := ∃ p c, e = .returned (.slice p xs.length c) ∧ IntsAt w' p xs ∧ Below w.heap.size w w'

theorem Tryz.infoInt : (Tryz.prog.info? 3).map (fun i => (i.zero, i.size, i.bytes)) = some (some (.int .i64 0), 1, 8) := by kernel_rfl

set_option maxRecDepth 10000 in
set_option maxHeartbeats 800000 in
theorem cut_any (wide sz : Nat) (h1 : 1 ≤ sz) (h6 : sz ≤ 6) (hw : wide ≤ 72) (cs : List Bool) (hcs : cs.length = 72) (w : World) :
    Calls Tryz.prog 84 #[knifeV wide sz cs] w (GaveInts (cutL cs sz wide 0) w) := by
  unfold knifeV
  obtain ⟨i0, hi, hi0, hi1, hi2⟩ := info_parts Tryz.infoInt
  go_enter Tryz.func84, Tryz.ntmps84
  go_wp2
  go_loopg [3, 4] (wide + 1) (fun g s f wr => ∃ (i : Nat) (acc : List Int), g = wide + 1 - i ∧ i ≤ 100 ∧ f = .int .i64 i ∧ Hid (acc ++ cutL cs sz wide i = cutL cs sz wide 0) ∧ acc.length ≤ i ∧ wr.ownsRow (w.heap.size + 1) 3 1 s acc.length (acc.map (Value.int .i64)) ∧ Row wr w.heap.size #[.int .i64 wide, .int .i64 sz, .func (.func 110) #[cols cs] #[]] 180 ∧ Below w.heap.size w wr)
  case atStart => exact ⟨0, [], rfl, by omega, rfl, Lib.hid rfl, by simp, World.ownsRow_nil _ _ _ _, Row.new _ _ _, below_alloc _ _⟩
  case round =>
    obtain ⟨i, acc, hg, hi100, rfl, HA, hacc, hown, hr0, hb⟩ := hrel
    have HG := Lib.hid hg
    have HO := Lib.hid hown
    have HR := Lib.hid hr0
    have HB := Lib.hid hb
    have c0 := hr0.cell 0 (v := .int .i64 wide) rfl
    have c1 := hr0.cell 1 (v := .int .i64 sz) rfl
    have c2 := hr0.cell 2 (v := .func (.func 110) #[cols cs] #[]) rfl
    have hz := hr0.lt
    clear hg hown hr0 hb
    by_cases hlt : i + sz ≤ wide
    · cases hbi : b0 cs i
      · have HQ := Lib.hid (cutL_no h1 hlt hbi)
        have HF := Lib.hid hbi
        clear hbi
        go_wp2_with fail
        refine (has_any cs i hcs (by omega) _).mono ?_
        rintro e w1 ⟨rfl, hb1⟩
        rw [HF.out]
        have hz1 := hb1.size
        have HR := Lib.hid (HR.out.below hb1 hz)
        have HO := Lib.hid (owns_below HO.out hb1)
        have HB := Lib.hid (HB.out.trans (hb1.mono (by omega)))
        clear hb1 c0 c1 c2
        go_wp2
        go_roundg (wide + 1 - (i + 1))
        case measure => have := HG.out; omega
        case rel => exact ⟨i + 1, acc, rfl, by omega, by go_num, Lib.hid (by rw [← HQ.out]; exact HA.out), by omega, HO.out, HR.out, HB.out⟩
      · have HQ := Lib.hid (cutL_yes h1 hlt hbi)
        have HF := Lib.hid hbi
        clear hbi
        go_wp2_with fail
        refine (has_any cs i hcs (by omega) _).mono ?_
        rintro e w1 ⟨rfl, hb1⟩
        rw [HF.out]
        have hz1 := hb1.size
        have HR := Lib.hid (HR.out.below hb1 hz)
        have HO1 := Lib.hid (owns_below HO.out hb1)
        have HB := Lib.hid (HB.out.trans (hb1.mono (by omega)))
        clear hb1 c0 c1 c2
        go_wp2_with (first | (at_builtin; (refine wpList_append_own _ rfl _ _ 29 rfl (w.heap.size + 1) 3 i0 (.int .i64 0) 1 8 Tryz.underlying29 hi hi0 hi1 hi2 rfl (by decide) _ _ _ rfl (HO1.out.alloc _) ⟨w1.heap.size, 0, none⟩ 1 1 [.int .i64 i] rfl rfl (cell_one_new _ _ _) (by simp [Value.oneCell']) (by unfold maxLen; omega) (by omega) (by simp; omega) ?_); intro v' w2 hown' hgrow _; have HO := Lib.hid hown'; have hg2 : Below (w.heap.size + 1) w1 w2 := ((Below.refl _ _).alloc (by omega) _).grown hgrow (by simp; omega) (fun k hk => (HO1.out.lt k hk).1); have hz2 := hg2.size; have HR := Lib.hid (HR.out.below hg2 (by omega)); have HB := Lib.hid (HB.out.trans (hg2.mono (by omega))); have c1 := HR.out.cell 1 (v := .int .i64 sz) rfl; clear hown' hgrow hg2))
        go_roundg (wide + 1 - (i + sz))
        case measure => have := HG.out; omega
        case rel => exact ⟨i + sz, acc ++ [(i : Int)], rfl, by omega, by congr 1; omega, Lib.hid (by rw [← HA.out, HQ.out, List.append_assoc]; rfl), by simp; omega, by simpa using HO.out, HR.out, HB.out⟩
    · have HQ := Lib.hid (show acc = cutL cs sz wide 0 by rw [← HA.out, cutL_end hlt, List.append_nil])
      obtain ⟨p, c, rfl, hints, hle, hcm, hp⟩ := ints_of_owns HO.out
      have HI := Lib.hid hints
      clear hints
      unfold maxLen at hcm
      rcases hp with rfl | ⟨g, rfl⟩
      · go_wp2
        go_ret
        refine ⟨none, acc.length, ?_⟩
        rw [← HQ.out]
        exact ⟨rfl, HI.out, HB.out⟩
      · go_wp2
        go_ret
        refine ⟨some ⟨g, 0, none⟩, acc.length, ?_⟩
        rw [← HQ.out]
        exact ⟨rfl, HI.out, HB.out⟩

end Go.Proofs.YticfcdbfplfmlaaGreat.Pe
/- The walks of layer 1: the places of a knot, one by one. -/
namespace Go.Proofs.YticfcdbfplfmlaaGreat.Pe
open Go.RowKit
attribute [local go_sem] Oper.semAt_some

/-- A pointer to a block of the call's own. -/
def PtrTo (n : Nat) (v : Value) (cs : Array Value) (t : TypeId) (w : World) : Prop := ∃ p, v = .pointer (some ⟨p, 0, none⟩) ∧ n ≤ p ∧ Row w p cs t
theorem PtrTo.new {n : Nat} {w : World} (hn : n ≤ w.heap.size) (cs : Array Value) (t : TypeId) : PtrTo n (.pointer (some ⟨w.heap.size, 0, none⟩)) cs t (w.alloc (.cells cs t)) := ⟨_, rfl, hn, Row.new _ _ _⟩
theorem PtrTo.alloc {n : Nat} {v : Value} {cs : Array Value} {t : TypeId} {w : World} (h : PtrTo n v cs t w) (o : Obj) : PtrTo n v cs t (w.alloc o) := let ⟨p, hv, hp, hr⟩ := h; ⟨p, hv, hp, hr.alloc o⟩
theorem PtrTo.below {n : Nat} {v : Value} {cs : Array Value} {t : TypeId} {w w' : World} (h : PtrTo n v cs t w) (hb : Below w.heap.size w w') : PtrTo n v cs t w' := let ⟨p, hv, hp, hr⟩ := h; ⟨p, hv, hp, hr.below hb hr.lt⟩
theorem PtrTo.setRow {n q : Nat} {v : Value} {cs ds : Array Value} {t : TypeId} {w : World} (h : PtrTo n v cs t w) (hne : (.pointer (some ⟨q, 0, none⟩) : Value) ≠ v) : PtrTo n v cs t (w.setRow q ds) :=
  let ⟨p, hv, hp, hr⟩ := h; ⟨p, hv, hp, hr.setRow_other ds (fun e => hne (by rw [hv, e]))⟩
theorem PtrTo.fresh_ne {n : Nat} {v : Value} {t : TypeId} {w : World} (h : ∃ cs, PtrTo n v cs t w) : (.pointer (some ⟨w.heap.size, 0, none⟩) : Value) ≠ v := by
  obtain ⟨cs, p, rfl, _, hr⟩ := h
  intro e
  have := hr.lt
  simp at e
/-- A knot, as far as it is known where it is. -/
structure K4 where
  al : Int
  ah : Int
  fl : Int
  fh : Int
def K4.A (k : K4) : Array Value := #[.int .i64 k.al, .int .i64 k.ah, .int .i64 k.fl, .int .i64 k.fh]
def placeV (a t : Int) : Value := .agg #[.int .i64 a, .int .i64 t]

set_option maxRecDepth 10000 in
set_option maxHeartbeats 800000 in
theorem pieces_any (R : Rib) (sz wd : Nat) (hs : R.s.length = 6) (hsz : R.sz = sz) (h1 : 1 ≤ sz) (h6 : sz ≤ 6) (hwd : R.wide = wd) (hw : wd ≤ 72) (kn : List Bool) (hk : kn.length = 72) (w : World) :
    Calls Tryz.prog 59 #[.agg R.A, cols kn] w fun e w' => e = .returned (.int .i64 ((cutL (wholeL kn sz R.wide) sz wd 0).length : Nat)) ∧ Below w.heap.size w w' := by
  rw [cols_def]
  have HS := Lib.hid (size76 hs)
  have HK := Lib.hid (size88 hk)
  have HW := Lib.hid hwd
  have HZ := Lib.hid hsz
  clear hwd hsz
  go_enter Tryz.func59, Tryz.ntmps59
  go_wp2_with (first | (refine load_row rfl 115 _ rfl _ rfl 115 _ _ ((Row.new _ _ _).alloc _) Tryz.underlying115 rfl HS.out ?_) | (refine load_row rfl 121 _ rfl _ rfl 121 _ _ (Row.new' (by simp) _ _) Tryz.underlying121 rfl HK.out ?_))
  refine (knife_any R sz hs HZ.out h1 h6 (by rw [HW.out]; omega) (by rw [HW.out]; omega) kn hk _).mono ?_
  rintro e w1 ⟨rfl, hb1⟩
  have hz1 := hb1.size
  simp at hz1
  have HB := Lib.hid (((below_alloc _ _).alloc (by simp) _).trans (hb1.mono (by simp; omega)) : Below w.heap.size w w1)
  clear hb1
  go_wp2_with fail
  rw [show knifeV R.wide sz (wholeL kn sz R.wide) = knifeV wd sz (wholeL kn sz R.wide) by rw [HW.out]]
  refine (cut_any wd sz h1 h6 hw _ (wholeL_length _ _ _) _).mono ?_
  rintro e w2 ⟨p, c, rfl, _, hb2⟩
  have HB := Lib.hid (HB.out.trans (hb2.mono (by omega)))
  clear hb2
  go_wp2
  go_ret
  exact ⟨rfl, HB.out⟩

theorem places_any (k : K4) (w : World) :
    Calls Tryz.prog 78 #[.agg k.A] w fun e w' => e = .returned (.func (.func 104) #[] #[.pointer (some ⟨w.heap.size, 0, none⟩)]) ∧ w' = w.alloc (.cells k.A 171) := by
  go_enter Tryz.func78, Tryz.ntmps78
  go_wp2
  go_ret
  exact ⟨rfl, rfl⟩

/-- The places of a knot, as values. -/
def placesL (k : K4) : List (Int × Int) :=
  (List.range (k.ah - k.al + 1).toNat).flatMap fun (i : Nat) => (List.range (k.fh - k.fl + 1).toNat).map fun (j : Nat) => (k.al + (i : Int), k.fl + (j : Int))
theorem placesL_at {k : K4} {p m : Nat} (hm : k.fh - k.fl + 1 = m) (hp : k.ah - k.al + 1 = p) {i j : Nat} (hi : i < p) (hj : j < m) :
    ((placesL k).map fun q => #[placeV q.1 q.2])[i * m + j]? = some #[placeV (k.al + i) (k.fl + j)] := by
  have h : ∀ (n i : Nat), i < n → ((List.range n).flatMap fun (i : Nat) => (List.range m).map fun (j : Nat) => (k.al + (i : Int), k.fl + (j : Int)))[i * m + j]? = some (k.al + (i : Int), k.fl + (j : Int)) := by
    intro n
    induction n with
    | zero => intro i h; omega
    | succ n ih =>
      intro i h
      have hlen : ((List.range n).flatMap fun (i : Nat) => (List.range m).map fun (j : Nat) => (k.al + (i : Int), k.fl + (j : Int))).length = n * m := by
        clear ih h; induction n with
        | zero => simp
        | succ n ih2 => rw [List.range_succ, List.flatMap_append, List.length_append, ih2, Nat.succ_mul]; simp
      rw [List.range_succ, List.flatMap_append]
      rcases Nat.lt_or_ge i n with h1 | h1
      · rw [List.getElem?_append_left (by rw [hlen]; calc i * m + j < i * m + m := by omega
                                                        _ = (i + 1) * m := by rw [Nat.succ_mul]
                                                        _ ≤ n * m := Nat.mul_le_mul_right m h1)]
        exact ih i h1
      · have e : i = n := by omega
        subst e
        rw [List.getElem?_append_right (by rw [hlen]; omega), hlen]
        simp [hj]
  simp only [placesL, hm, hp, Int.toNat_natCast, List.getElem?_map, h p i hi, Option.map_some]
theorem placesL_length {k : K4} {p m : Nat} (hm : k.fh - k.fl + 1 = m) (hp : k.ah - k.al + 1 = p) : (placesL k).length = p * m := by
  simp only [placesL, hm, hp, Int.toNat_natCast]
  clear hm hp
  induction p with
  | zero => simp
  | succ n ih2 => rw [List.range_succ, List.flatMap_append, List.length_append, ih2, Nat.succ_mul]; simp
theorem idx_lt {i j p m : Nat} (hi : i < p) (hj : j < m) : i * m + j < p * m := by
  have h : (i + 1) * m ≤ p * m := Nat.mul_le_mul_right m hi
  rw [Nat.succ_mul] at h
  omega
structure K4Ok (k : K4) : Prop where
  a : k.al ≤ k.ah
  f : k.fl ≤ k.fh
  a0 : 0 ≤ k.al
  a1 : k.ah ≤ 23
  f0 : 0 ≤ k.fl
  f1 : k.fh ≤ 6

set_option maxRecDepth 10000 in
set_option maxHeartbeats 800000 in
theorem places1_iter (k : K4) (hk : K4Ok k) (kb : Nat) (W : World) (hW : Row W kb k.A 171) :
    IterAt Tryz.prog 104 #[.pointer (some ⟨kb, 0, none⟩)] (fun m => m = kb) ((placesL k).map fun p => #[placeV p.1 p.2]) W := by
  intro l M J Jx hM hJ hJx hY h0
  show Calls _ _ #[.func (.yield l) #[] #[], .pointer (some ⟨kb, 0, none⟩)] _ _
  have hkb := hW.lt
  have hkb := hW.lt
  have hkb := hW.lt
  go_enter Tryz.func104, Tryz.ntmps104
  go_wp2_with fail
  refine region_inv rfl (by kernel_rfl) (fun L a w => ∃ x3 x4 x5 x6 x7 x8 : Value, a = { tmps := #[.func (.yield l) #[] #[], .pointer (some ⟨kb, 0, none⟩), undef, x3, x4, x5, x6, x7, x8, undef, undef, undef, undef, undef, undef, undef, undef, undef, undef, undef, undef, undef, undef, undef, undef, undef, undef, undef, undef, undef, undef, undef, undef, undef], defers := [] } ∧ Hid (L 0 = true → x5 = .agg k.A) ∧ Hid (L 1 = true → x6 = .agg #[.int .i64 k.al, .int .i64 k.fl]) ∧ Hid (L 2 = true → x7 = .agg k.A) ∧ Hid (L 3 = true → x8 = .agg #[.int .i64 k.ah, .int .i64 k.fh]) ∧ Hid (Row w kb k.A 171) ∧ Hid (L 4 = true → L 6 = false → PtrTo W.heap.size x3 #[.int .i64 0, .int .i64 0] 174 w) ∧ Hid (L 6 = true → PtrTo W.heap.size x3 #[.int .i64 k.al, .int .i64 k.fl] 174 w) ∧ Hid (L 5 = true → L 7 = false → PtrTo W.heap.size x4 #[.int .i64 0, .int .i64 0] 174 w) ∧ Hid (L 7 = true → PtrTo W.heap.size x4 #[.int .i64 k.ah, .int .i64 k.fh] 174 w) ∧ Hid (L 4 = true → L 5 = true → x3 ≠ x4) ∧ Hid (L 6 = true → L 4 = true) ∧ Hid (L 7 = true → L 5 = true) ∧ Hid (Below W.heap.size W w)) ?h0 ?steps ?hd
  case h0 => exact ⟨_, _, _, _, _, _, rfl, Lib.hid nofun, Lib.hid nofun, Lib.hid nofun, Lib.hid nofun, Lib.hid (hW), Lib.hid (nofun), Lib.hid (nofun), Lib.hid (nofun), Lib.hid (nofun), Lib.hid (nofun), Lib.hid (nofun), Lib.hid (nofun), Lib.hid ((Below.refl _ _).drew)⟩
  case hd =>
    rintro L a w hL ⟨x3, x4, x5, x6, x7, x8, rfl, hf0, hf1, hf2, hf3, hr, hA, hA2, hB, hB2, hne, hord, hord2, hb⟩
    obtain rfl := hf0.out (hL 0 (by decide))
    obtain rfl := hf1.out (hL 1 (by decide))
    obtain rfl := hf2.out (hL 2 (by decide))
    obtain rfl := hf3.out (hL 3 (by decide))
    clear hf0
    clear hf1
    clear hf2
    clear hf3
    obtain ⟨pa, rfl, hpa, hra⟩ := hA2.out (hL 6 (by decide))
    obtain ⟨pl, rfl, hpl, hrl⟩ := hB2.out (hL 7 (by decide))
    have hne1 : pa ≠ pl := fun h => hne.out (hL 4 (by decide)) (hL 5 (by decide)) (by rw [h])
    clear hA hA2 hB hB2 hne hord hord2 hL
    go_upto_region 1 with (fail)
    obtain ⟨m, hm⟩ : ∃ m : Nat, k.fh - k.fl + 1 = m := ⟨(k.fh - k.fl + 1).toNat, by have := hk.f; omega⟩
    obtain ⟨p, hp⟩ : ∃ p : Nat, k.ah - k.al + 1 = p := ⟨(k.ah - k.al + 1).toNat, by have := hk.a; omega⟩
    have hm1 : 1 ≤ m := by have := hk.f; omega
    have hp1 : 1 ≤ p := by have := hk.a; omega
    have HM := Lib.hid hm
    have HP := Lib.hid hp
    clear hm hp
    go_loopg [] (p * m) (fun g wr => ∃ i j : Nat, g = p * m - (i * m + j) ∧ i < p ∧ j < m ∧ J (i * m + j) wr ∧ Row wr pa #[.int .i64 (k.al + i), .int .i64 (k.fl + j)] 174 ∧ Row wr pl #[.int .i64 k.ah, .int .i64 k.fh] 174 ∧ Row wr kb k.A 171 ∧ KeepsBut M W wr)
    case atStart => exact ⟨0, 0, by simp, by omega, by omega, by simpa using hJ 0 _ _ h0 hb.out, by simpa using hra, hrl, hr.out, .of_below hb.out⟩
    case round =>
      obtain ⟨i, j, hg, hi, hj, hJn, r1, r2, r3, hkeep⟩ := hrel
      have HG := Lib.hid hg
      have c0 := r1.cell 0 (v := .int .i64 (k.al + i)) rfl
      have c1 := r1.cell 1 (v := .int .i64 (k.fl + j)) rfl
      obtain ⟨fn, tmps, assign, body, hy, hR⟩ := hY (i * m + j) #[placeV (k.al + i) (k.fl + j)] wr (placesL_at HM.out HP.out hi hj) hJn hkeep
      unfold placeV at hy
      have R1 := Lib.hid r1
      have R2 := Lib.hid r2
      have R3 := Lib.hid r3
      have HK2 := Lib.hid hkeep
      have HR := Lib.hid hR
      have hz1 := r1.lt
      have hz2 := r2.lt
      clear r1 r2 r3 hkeep hR hg hJn
      refine wp_seq_k (fun K1 hK1 => wp_seq_k (fun K2 hK2 => (wpIn_wide (n := 1)).1 ?_))
      gi_wp2_with fail
      refine HR.out.mono ?_
      rintro e B ⟨hkB, (⟨rfl, hJ1⟩ | ⟨rfl, hJx1⟩)⟩
      · have hzB := hkB.size
        have R1 := Lib.hid (R1.out.keeps hkB (fun h => by have := (hM _ h).1; omega))
        have R2 := Lib.hid (R2.out.keeps hkB (fun h => by have := (hM _ h).1; omega))
        have R3 := Lib.hid (R3.out.keeps hkB (fun h => (hM _ h).2 rfl))
        have HK2 := Lib.hid (HK2.out.trans hkB)
        have HJ1 := Lib.hid hJ1
        clear hkB hJ1 hy c0 c1
        have c0 := R1.out.cell 0 (v := .int .i64 (k.al + i)) rfl
        have c1 := R1.out.cell 1 (v := .int .i64 (k.fl + j)) rfl
        have l0 := R2.out.cell 0 (v := .int .i64 k.ah) rfl
        have l1 := R2.out.cell 1 (v := .int .i64 k.fh) rfl
        have k2 := R3.out.cell 2 (v := .int .i64 k.fl) rfl
        have b0 := hk.a0
        have b1 := hk.a1
        have b2 := hk.f0
        have b3 := hk.f1
        have b4 : k.al + i ≤ k.ah := by have := HP.out; omega
        have b5 : k.fl + j ≤ k.fh := by have := HM.out; omega
        by_cases elast : k.al + i = k.ah ∧ k.fl + j = k.fh
        · have e1' : (k.al + i == k.ah) = true := by simpa using elast.1
          have e2' : (k.fl + j == k.fh) = true := by simpa using elast.2
          have HE := Lib.hid elast
          clear elast
          gi_wp2
          go_wp2
          go_end0
          refine ⟨⟨_, rfl⟩, HK2.out, .inl ?_⟩
          have e : i * m + j + 1 = ((placesL k).map fun q => #[placeV q.1 q.2]).length := by
            rw [List.length_map, placesL_length HM.out HP.out]
            have h1 : i + 1 = p := by have := HP.out; have := HE.out.1; omega
            have h2 : j + 1 = m := by have := HM.out; have := HE.out.2; omega
            rw [← h1, Nat.succ_mul]; omega
          rw [← e]
          exact HJ1.out
        · have hidx := idx_lt hi hj
          have f1 := R1.out.free 1
          have f0 := R1.out.free 0
          have d1 : (B.setCell ⟨pa, 1, none⟩ (.int .i64 (k.fl + j + 1))).cell? ⟨pa, 1, none⟩ = some (.int .i64 (k.fl + j + 1)) := (R1.out.set 1 _).cell 1 rfl
          have d2 : (B.setCell ⟨pa, 1, none⟩ (.int .i64 (k.fl + j + 1))).cell? ⟨pl, 1, none⟩ = some (.int .i64 k.fh) := (R2.out.set_other _ _ (by dsimp only; omega)).cell 1 rfl
          have hrow1 := Lib.hid (R1.out.set 1 (.int .i64 (k.fl + j + 1)))
          have hJset : ∀ A, Below W.heap.size B A → J (i * m + j + 1) A := fun A hA => hJ _ _ _ HJ1.out hA
          have HJS := Lib.hid hJset
          have HEL := Lib.hid elast
          clear hJset
          have hbranch : (k.al + i == k.ah) = false ∨ ((k.al + i == k.ah) = true ∧ (k.fl + j == k.fh) = false) := by
            rcases Classical.em (k.al + i = k.ah) with h | h
            · exact .inr ⟨by simpa using h, by simp; exact fun h2 => elast ⟨h, h2⟩⟩
            · exact .inl (by simpa using h)
          clear elast
          by_cases hjm : j + 1 < m
          · have hcmp : k.fl + j + 1 ≤ k.fh := by have := HM.out; omega
            rcases hbranch with h1 | ⟨h1, h2⟩
            all_goals
              gi_wp2
              go_wp2
              go_roundg (p * m - (i * m + (j + 1)))
              case measure => have := HG.out; omega
              case rel =>
                refine ⟨i, j + 1, rfl, hi, hjm, HJS.out _ ((Below.refl _ _).setCell (by dsimp only; omega) _), ?_, R2.out.set_other _ _ (by dsimp only; omega), R3.out.set_other _ _ (by dsimp only; omega), HK2.out.setCell (.inr (by dsimp only; omega)) _⟩
                have := hrow1.out
                rw [show k.fl + (j : Int) + 1 = k.fl + ((j + 1 : Nat) : Int) by omega] at this
                rw [show k.fl + (j : Int) + 1 = k.fl + ((j + 1 : Nat) : Int) by omega]
                exact this
          · have hjm1 : j + 1 = m := by omega
            have hcmp : k.fh < k.fl + j + 1 := by have := HM.out; omega
            have him : i + 1 < p := by
              have := HP.out; have := HM.out; have := HEL.out
              have h3 : k.fl + j = k.fh := by omega
              have h4 : ¬ k.al + i = k.ah := fun h => HEL.out ⟨h, h3⟩
              omega
            have HJM := Lib.hid hjm1
            clear hjm1
            have d0 : (B.setCell ⟨pa, 1, none⟩ (.int .i64 (k.fl + j + 1))).cell? ⟨pa, 0, none⟩ = some (.int .i64 (k.al + i)) := (R1.out.set 1 _).cell 0 rfl
            have d3 : (B.setCell ⟨pa, 1, none⟩ (.int .i64 (k.fl + j + 1))).cell? ⟨kb, 2, none⟩ = some (.int .i64 k.fl) := (R3.out.set_other _ _ (by dsimp only; omega)).cell 2 rfl
            rcases hbranch with h1 | ⟨h1, h2⟩
            all_goals
              gi_wp2
              go_wp2_with (first | (refine store_row rfl 174 _ _ rfl _ _ _ _ rfl rfl hrow1.out (by kernel_rfl) rfl (by simp [Value.oneCell']) ?_))
              go_roundg (p * m - ((i + 1) * m + 0))
              case measure => have := HG.out; have := HJM.out; rw [Nat.succ_mul]; omega
              case rel =>
                have e : i * m + j + 1 = (i + 1) * m + 0 := by rw [Nat.succ_mul]; have := HJM.out; omega
                refine ⟨i + 1, 0, rfl, him, by omega, by rw [← e]; exact HJS.out _ (below_setRow ((Below.refl _ _).setCell (by dsimp only; omega) _) (by omega) _), ?_, (R2.out.set_other _ _ (by dsimp only; omega)).setRow_other _ (by omega), (R3.out.set_other _ _ (by dsimp only; omega)).setRow_other _ (by omega), (HK2.out.setCell (.inr (by dsimp only; omega)) _).setRow (.inr (by omega)) _⟩
                have h5 := hrow1.out.setRow #[.int .i64 (k.al + i + 1), .int .i64 k.fl]
                rw [show k.al + (i : Int) + 1 = k.al + ((i + 1 : Nat) : Int) by omega] at h5
                rw [show k.al + (i : Int) + 1 = k.al + ((i + 1 : Nat) : Int) by omega]
                simpa using h5
      · have HJX := Lib.hid hJx1
        have HK2 := Lib.hid (HK2.out.trans hkB)
        clear hkB hJx1 hy c0 c1
        gi_wp2
        go_wp2
        go_end0
        exact ⟨⟨_, rfl⟩, HK2.out, .inr HJX.out⟩
  case steps =>
    refine ⟨?_, ?_, ?_, ?_, ?_, ?_, ?_, ?_, trivial⟩
    · rintro L a w hL hk ⟨x3, x4, x5, x6, x7, x8, rfl, hf0, hf1, hf2, hf3, hr, hA, hA2, hB, hB2, hne, hord, hord2, hb⟩ K hK
      have HK0 := Lib.hid hK
      clear hK
      clear hL
      clear hk
      refine wp_load_row 171 _ rfl _ rfl 171 _ (0, 0) _ hr.out Tryz.underlying171 rfl rfl ?_
      exact HK0.out _ _ ⟨_, _, _, _, _, _, rfl, Lib.hid (fun _ => rfl), Lib.hid (fun h => hf1.out (by simpa [upd] using h)), Lib.hid (fun h => hf2.out (by simpa [upd] using h)), Lib.hid (fun h => hf3.out (by simpa [upd] using h)), hr, Lib.hid (fun h1 h2 => hA.out (by simpa [upd] using h1) (by simpa [upd] using h2)), Lib.hid (fun h => hA2.out (by simpa [upd] using h)), Lib.hid (fun h1 h2 => hB.out (by simpa [upd] using h1) (by simpa [upd] using h2)), Lib.hid (fun h => hB2.out (by simpa [upd] using h)), Lib.hid (fun h1 h2 => hne.out (by simpa [upd] using h1) (by simpa [upd] using h2)), Lib.hid (fun h => by have := hord.out (by simpa [upd] using h); simp [upd]; try exact this), Lib.hid (fun h => by have := hord2.out (by simpa [upd] using h); simp [upd]; try exact this), hb⟩
    · rintro L a w hL hk ⟨x3, x4, x5, x6, x7, x8, rfl, hf0, hf1, hf2, hf3, hr, hA, hA2, hB, hB2, hne, hord, hord2, hb⟩ K hK
      have HK0 := Lib.hid hK
      clear hK
      obtain rfl := hf0.out (after_on hL 0 rfl)
      clear hL
      clear hk
      go_wp2_with fail
      refine (low_any k.al k.ah k.fl k.fh _).mono ?_
      rintro e w1 ⟨rfl, hb1⟩
      exact HK0.out _ _ ⟨_, _, _, _, _, _, rfl, Lib.hid (fun _ => rfl), Lib.hid (fun _ => rfl), Lib.hid (fun h => hf2.out (by simpa [upd] using h)), Lib.hid (fun h => hf3.out (by simpa [upd] using h)), Lib.hid (hr.out.below hb1 hr.out.lt), Lib.hid (fun h1 h2 => (hA.out (by simpa [upd] using h1) (by simpa [upd] using h2)).below hb1), Lib.hid (fun h => (hA2.out (by simpa [upd] using h)).below hb1), Lib.hid (fun h1 h2 => (hB.out (by simpa [upd] using h1) (by simpa [upd] using h2)).below hb1), Lib.hid (fun h => (hB2.out (by simpa [upd] using h)).below hb1), Lib.hid (fun h1 h2 => hne.out (by simpa [upd] using h1) (by simpa [upd] using h2)), Lib.hid (fun h => by have := hord.out (by simpa [upd] using h); simp [upd]; try exact this), Lib.hid (fun h => by have := hord2.out (by simpa [upd] using h); simp [upd]; try exact this), Lib.hid (hb.out.trans (hb1.mono hb.out.size))⟩
    · rintro L a w hL hk ⟨x3, x4, x5, x6, x7, x8, rfl, hf0, hf1, hf2, hf3, hr, hA, hA2, hB, hB2, hne, hord, hord2, hb⟩ K hK
      have HK0 := Lib.hid hK
      clear hK
      clear hL
      clear hk
      refine wp_load_row 171 _ rfl _ rfl 171 _ (0, 0) _ hr.out Tryz.underlying171 rfl rfl ?_
      exact HK0.out _ _ ⟨_, _, _, _, _, _, rfl, Lib.hid (fun h => hf0.out (by simpa [upd] using h)), Lib.hid (fun h => hf1.out (by simpa [upd] using h)), Lib.hid (fun _ => rfl), Lib.hid (fun h => hf3.out (by simpa [upd] using h)), hr, Lib.hid (fun h1 h2 => hA.out (by simpa [upd] using h1) (by simpa [upd] using h2)), Lib.hid (fun h => hA2.out (by simpa [upd] using h)), Lib.hid (fun h1 h2 => hB.out (by simpa [upd] using h1) (by simpa [upd] using h2)), Lib.hid (fun h => hB2.out (by simpa [upd] using h)), Lib.hid (fun h1 h2 => hne.out (by simpa [upd] using h1) (by simpa [upd] using h2)), Lib.hid (fun h => by have := hord.out (by simpa [upd] using h); simp [upd]; try exact this), Lib.hid (fun h => by have := hord2.out (by simpa [upd] using h); simp [upd]; try exact this), hb⟩
    · rintro L a w hL hk ⟨x3, x4, x5, x6, x7, x8, rfl, hf0, hf1, hf2, hf3, hr, hA, hA2, hB, hB2, hne, hord, hord2, hb⟩ K hK
      have HK0 := Lib.hid hK
      clear hK
      obtain rfl := hf2.out (after_on hL 2 rfl)
      clear hL
      clear hk
      go_wp2_with fail
      refine (high_any k.al k.ah k.fl k.fh _).mono ?_
      rintro e w1 ⟨rfl, hb1⟩
      exact HK0.out _ _ ⟨_, _, _, _, _, _, rfl, Lib.hid (fun h => hf0.out (by simpa [upd] using h)), Lib.hid (fun h => hf1.out (by simpa [upd] using h)), Lib.hid (fun _ => rfl), Lib.hid (fun _ => rfl), Lib.hid (hr.out.below hb1 hr.out.lt), Lib.hid (fun h1 h2 => (hA.out (by simpa [upd] using h1) (by simpa [upd] using h2)).below hb1), Lib.hid (fun h => (hA2.out (by simpa [upd] using h)).below hb1), Lib.hid (fun h1 h2 => (hB.out (by simpa [upd] using h1) (by simpa [upd] using h2)).below hb1), Lib.hid (fun h => (hB2.out (by simpa [upd] using h)).below hb1), Lib.hid (fun h1 h2 => hne.out (by simpa [upd] using h1) (by simpa [upd] using h2)), Lib.hid (fun h => by have := hord.out (by simpa [upd] using h); simp [upd]; try exact this), Lib.hid (fun h => by have := hord2.out (by simpa [upd] using h); simp [upd]; try exact this), Lib.hid (hb.out.trans (hb1.mono hb.out.size))⟩
    · rintro L a w hL hk ⟨x3, x4, x5, x6, x7, x8, rfl, hf0, hf1, hf2, hf3, hr, hA, hA2, hB, hB2, hne, hord, hord2, hb⟩ K hK
      have HK0 := Lib.hid hK
      clear hK
      clear hL
      have HBB := Lib.hid (show L 5 = true → ∃ cs, PtrTo W.heap.size x4 cs 174 w from fun h => (Bool.eq_false_or_eq_true (L 7)).elim (fun h7 => ⟨_, hB2.out h7⟩) (fun h7 => ⟨_, hB.out h h7⟩))
      have HKK := Lib.hid hk
      clear hk
      go_wp2
      exact HK0.out _ _ ⟨_, _, _, _, _, _, rfl, Lib.hid (fun h => hf0.out (by simpa [upd] using h)), Lib.hid (fun h => hf1.out (by simpa [upd] using h)), Lib.hid (fun h => hf2.out (by simpa [upd] using h)), Lib.hid (fun h => hf3.out (by simpa [upd] using h)), Lib.hid (hr.out.alloc _), Lib.hid (fun _ _ => PtrTo.new hb.out.size _ _), Lib.hid (fun h => by have := hord.out (by simpa [upd] using h); rw [HKK.out] at this; cases this), Lib.hid (fun h1 h2 => (hB.out (by simpa [upd] using h1) (by simpa [upd] using h2)).alloc _), Lib.hid (fun h => (hB2.out (by simpa [upd] using h)).alloc _), Lib.hid (fun _ h2 => PtrTo.fresh_ne (HBB.out (by simpa [upd] using h2))), Lib.hid (fun h => by have := hord.out (by simpa [upd] using h); simp [upd]; try exact this), Lib.hid (fun h => by have := hord2.out (by simpa [upd] using h); simp [upd]; try exact this), Lib.hid (hb.out.alloc hb.out.size _)⟩
    · rintro L a w hL hk ⟨x3, x4, x5, x6, x7, x8, rfl, hf0, hf1, hf2, hf3, hr, hA, hA2, hB, hB2, hne, hord, hord2, hb⟩ K hK
      have HK0 := Lib.hid hK
      clear hK
      clear hL
      have HAA := Lib.hid (show L 4 = true → ∃ cs, PtrTo W.heap.size x3 cs 174 w from fun h => (Bool.eq_false_or_eq_true (L 6)).elim (fun h7 => ⟨_, hA2.out h7⟩) (fun h7 => ⟨_, hA.out h h7⟩))
      have HKK := Lib.hid hk
      clear hk
      go_wp2
      exact HK0.out _ _ ⟨_, _, _, _, _, _, rfl, Lib.hid (fun h => hf0.out (by simpa [upd] using h)), Lib.hid (fun h => hf1.out (by simpa [upd] using h)), Lib.hid (fun h => hf2.out (by simpa [upd] using h)), Lib.hid (fun h => hf3.out (by simpa [upd] using h)), Lib.hid (hr.out.alloc _), Lib.hid (fun h1 h2 => (hA.out (by simpa [upd] using h1) (by simpa [upd] using h2)).alloc _), Lib.hid (fun h => (hA2.out (by simpa [upd] using h)).alloc _), Lib.hid (fun _ _ => PtrTo.new hb.out.size _ _), Lib.hid (fun h => by have := hord2.out (by simpa [upd] using h); rw [HKK.out] at this; cases this), Lib.hid (fun h1 _ h => PtrTo.fresh_ne (HAA.out (by simpa [upd] using h1)) h.symm), Lib.hid (fun h => by have := hord.out (by simpa [upd] using h); simp [upd]; try exact this), Lib.hid (fun h => by have := hord2.out (by simpa [upd] using h); simp [upd]; try exact this), Lib.hid (hb.out.alloc hb.out.size _)⟩
    · rintro L a w hL hk ⟨x3, x4, x5, x6, x7, x8, rfl, hf0, hf1, hf2, hf3, hr, hA, hA2, hB, hB2, hne, hord, hord2, hb⟩ K hK
      have HK0 := Lib.hid hK
      clear hK
      obtain rfl := hf1.out (after_on hL 1 rfl)
      obtain ⟨p, rfl, hp, hrz⟩ := hA.out (after_on hL 4 rfl) hk
      refine wp_store_row' 174 _ _ rfl _ _ _ _ rfl rfl hrz (by kernel_rfl) rfl (by simp [Value.oneCell']) ?_
      exact HK0.out _ _ ⟨_, _, _, _, _, _, rfl, Lib.hid (fun h => hf0.out (by simpa [upd] using h)), Lib.hid (fun _ => rfl), Lib.hid (fun h => hf2.out (by simpa [upd] using h)), Lib.hid (fun h => hf3.out (by simpa [upd] using h)), Lib.hid (hr.out.setRow_other _ (fun e => by have := hr.out.lt; have := hkb; omega)), Lib.hid (fun _ h => by simp [upd] at h), Lib.hid (fun _ => ⟨p, rfl, hp, hrz.setRow _⟩), Lib.hid (fun h1 h2 => (hB.out (by simpa [upd] using h1) (by simpa [upd] using h2)).setRow (hne.out (after_on hL 4 rfl) (by simpa [upd] using h1))), Lib.hid (fun h => (hB2.out (by simpa [upd] using h)).setRow (hne.out (after_on hL 4 rfl) (hord2.out (by simpa [upd] using h)))), Lib.hid (fun h1 h2 => hne.out (by simpa [upd] using h1) (by simpa [upd] using h2)), Lib.hid (fun _ => by rw [upd_other _ (by decide)]; exact after_on hL 4 rfl), Lib.hid (fun h => by have := hord2.out (by simpa [upd] using h); simp [upd]; try exact this), Lib.hid (below_setRow hb.out hp _)⟩
    · rintro L a w hL hk ⟨x3, x4, x5, x6, x7, x8, rfl, hf0, hf1, hf2, hf3, hr, hA, hA2, hB, hB2, hne, hord, hord2, hb⟩ K hK
      have HK0 := Lib.hid hK
      clear hK
      obtain rfl := hf3.out (after_on hL 3 rfl)
      obtain ⟨p, rfl, hp, hrz⟩ := hB.out (after_on hL 5 rfl) hk
      refine wp_store_row' 174 _ _ rfl _ _ _ _ rfl rfl hrz (by kernel_rfl) rfl (by simp [Value.oneCell']) ?_
      exact HK0.out _ _ ⟨_, _, _, _, _, _, rfl, Lib.hid (fun h => hf0.out (by simpa [upd] using h)), Lib.hid (fun h => hf1.out (by simpa [upd] using h)), Lib.hid (fun h => hf2.out (by simpa [upd] using h)), Lib.hid (fun _ => rfl), Lib.hid (hr.out.setRow_other _ (fun e => by have := hr.out.lt; have := hkb; omega)), Lib.hid (fun h1 h2 => (hA.out (by simpa [upd] using h1) (by simpa [upd] using h2)).setRow (fun e => hne.out (by simpa [upd] using h1) (after_on hL 5 rfl) e.symm)), Lib.hid (fun h => (hA2.out (by simpa [upd] using h)).setRow (fun e => hne.out (hord.out (by simpa [upd] using h)) (after_on hL 5 rfl) e.symm)), Lib.hid (fun _ h => by simp [upd] at h), Lib.hid (fun _ => ⟨p, rfl, hp, hrz.setRow _⟩), Lib.hid (fun h1 h2 => hne.out (by simpa [upd] using h1) (by simpa [upd] using h2)), Lib.hid (fun h => by have := hord.out (by simpa [upd] using h); simp [upd]; try exact this), Lib.hid (fun _ => by rw [upd_other _ (by decide)]; exact after_on hL 5 rfl), Lib.hid (below_setRow hb.out hp _)⟩

end Go.Proofs.YticfcdbfplfmlaaGreat.Pe
/- The map of trails: what it holds at a place. -/
namespace Go.Proofs.YticfcdbfplfmlaaGreat.Pe
open Go.RowKit Go.Maps

def RV (v : Value) : Option (DataW Value × List MemPlace) := some (.held v, [])
theorem Tryz.laidOut' : laidOutB Tryz.prog = true := by kernel_rfl
theorem placeKeyed : Keyed Tryz.prog 174 :=
  Keyed.of_law (deep_law_laid Tryz.laidOut' (m := 5) (by decide) (by decide +kernel) (by kernel_rfl) (by kernel_rfl))
def klit (a t : Int) : Lit := .string (keyBytes [.int .i64 a, .int .i64 t])
theorem lits_place (m : Nat) {a t : Int} (h1 : (Lit.int .i64 a).wf = true) (h2 : (Lit.int .i64 t).wf = true) : Tryz.prog.keyLits (m + 1 + 1) 174 [.int .i64 a, .int .i64 t] = some [.int .i64 a, .int .i64 t] := by
  have c80 : Tryz.prog.cellsOf 174 = 2 := by kernel_rfl
  have c3 : Tryz.prog.cellsOf 3 = 1 := by kernel_rfl
  simp [Program.keyLits, Tryz.underlying174, Tryz.underlying3, c80, c3, h1, h2]
theorem form_place (a t : Int) : Value.formed Tryz.prog 174 (.agg #[.int .i64 a, .int .i64 t]) = true := by
  have c80 : Tryz.prog.cellsOf 174 = 2 := by kernel_rfl
  simp [Value.formed, c80, Tryz.underlying174]
theorem type_place : Tryz.prog.keyType 174 = true := by kernel_rfl
theorem types_some : ∃ m, Tryz.prog.types.size + 1 = m + 1 + 1 := ⟨Tryz.prog.types.size - 1, by
  have : 1 ≤ Tryz.prog.types.size := by decide +kernel
  omega⟩
theorem key_place {a t : Int} (ha : I64 a) (ht : I64 t) : keyOf Tryz.prog 174 (placeV a t) = some (klit a t) := by
  have h1 : (Lit.int .i64 a).wf = true := WalkArith.wf_i64 (by unfold I64 at ha; omega)
  have h2 : (Lit.int .i64 t).wf = true := WalkArith.wf_i64 (by unfold I64 at ht; omega)
  obtain ⟨m, hm⟩ := types_some
  unfold keyOf placeV klit
  rw [hm]
  simp only [Tryz.underlying174, type_place, form_place, Bool.and_self, if_true, Value.cells, lits_place m h1 h2, Option.map_some]

/-- A map of so many places at most, of which it holds what is said. -/
def MapIs (w : World) (mb n : Nat) (f : Int → Int → Option (List Bool)) : Prop :=
  ∃ D, w.ownsMap Tryz.prog 174 RV mb n D ∧ IsMap D ∧ ∀ a t l, I64 a → I64 t → f a t = some l → ∀ z, D.atKey (klit a t) z = .held (cols l)
theorem MapIs.made (w : World) : MapIs (w.alloc (.map #[] 0)) w.heap.size 0 (fun _ _ => none) :=
  ⟨.map [], World.ownsMap_made _ _ _ _, isMap_empty, fun _ _ _ _ _ h => by cases h⟩
theorem MapIs.lt {w : World} {mb n : Nat} {f : Int → Int → Option (List Bool)} (h : MapIs w mb n f) : mb < w.heap.size := let ⟨_, h, _⟩ := h; h.lt
theorem MapIs.of_same {w w' : World} {mb n : Nat} {f : Int → Int → Option (List Bool)} (h : MapIs w mb n f) (hs : w'.heap[mb]? = w.heap[mb]?) : MapIs w' mb n f := by
  obtain ⟨D, ⟨es, clock, hb, F, hn, hD⟩, r⟩ := h
  exact ⟨D, ⟨es, clock, hs.trans hb, F, hn, hD⟩, r⟩
theorem klit_inj {a t a' t' : Int} (ha : I64 a) (ht : I64 t) (ha' : I64 a') (ht' : I64 t') (h : klit a t = klit a' t') : a = a' ∧ t = t' := by
  have := placeKeyed.inj (key_place ha ht) (by rw [h]; exact key_place ha' ht')
  simpa [placeV] using this
theorem MapIs.look {w : World} {mb n : Nat} {f : Int → Int → Option (List Bool)} (h : MapIs w mb n f) {a t : Int} {l : List Bool} (ha : I64 a) (ht : I64 t) (hf : f a t = some l) :
    (Instr.lookup 113 (.map (some mb)) (placeV a t) false).run Tryz.prog w = .ok (cols l) w := by
  obtain ⟨D, hown, _, hat⟩ := h
  obtain ⟨v, ps, hrun, hv⟩ := hown.lookup placeKeyed Tryz.underlying113 (Tryz.zeroValue121 w) rfl (key_place ha ht)
  rw [hat a t l ha ht hf] at hv
  simp [RV] at hv
  rw [hrun, hv.1]
theorem MapIs.put {w : World} {mb n : Nat} {f : Int → Int → Option (List Bool)} (h : MapIs w mb n f) (hn : n < maxLen) {a t : Int} (ha : I64 a) (ht : I64 t) (l : List Bool) :
    ∃ w', (Instr.mapUpdate 113 (.map (some mb)) (placeV a t) (cols l)).run Tryz.prog w = .ok () w' ∧ MapIs w' mb (n + 1) (fun a' t' => if a' = a ∧ t' = t then some l else f a' t') ∧ w.grownBy w' (some mb) := by
  obtain ⟨D, hown, hm, hat⟩ := h
  obtain ⟨w', hrun, hown', hg⟩ := hown.update placeKeyed Tryz.underlying113 hn (key_place ha ht) (show RV (cols l) = some (.held (cols l), []) from rfl)
  refine ⟨w', hrun, ⟨_, hown', hm.put _ _, ?_⟩, hg⟩
  intro a' t' l' ha' ht' hf z
  by_cases he : a' = a ∧ t' = t
  · obtain ⟨rfl, rfl⟩ := he
    simp at hf; subst hf
    exact atKey_put_same hm (placeKeyed.key (key_place ha ht)) _ _
  · have hf : f a' t' = some l' := by simpa [he] using hf
    rw [atKey_put_other (fun e => he (klit_inj ha' ht' ha ht e))]
    exact hat a' t' l' ha' ht' hf z

theorem placesL_range {k : K4} (h : K4Ok k) {qa qt : Int} (hm : (qa, qt) ∈ placesL k) : 0 ≤ qa ∧ qa ≤ 23 ∧ 0 ≤ qt ∧ qt ≤ 6 := by
  simp only [placesL, List.mem_flatMap, List.mem_map, List.mem_range, Prod.mk.injEq] at hm
  obtain ⟨i, hi, j, hj, rfl, rfl⟩ := hm
  have := h.a0; have := h.a1; have := h.f0; have := h.f1
  omega
section
variable {P : Program} {F : Fence} {n : Nat} {ops : Array Oper} {rest : List Oper} {op : Oper} {a : Act} {w : World} {Q : Exit → Act → World → Prop}
theorem lookup_op (hgd : op.guard = none) (ty : TypeId) (x y : Operand) (ho : op.op = .lookup ty x y false) (mb : Nat) (ks : Array Value) (hx : a.eval x = .map (some mb)) (hy : a.eval y = .agg ks) (v : Value)
    (hr : (Instr.lookup ty (.map (some mb)) (.agg ks) false).run P w = .ok v w) (h : wpList P ops Q rest (a.put op.dst v) w) : wpList P ops Q (op :: rest) a w :=
  wpList_plain hgd fun _ hK => by
    unfold Oper.wp execOp
    simp only [ho, hx, hy, Sem.run_bind, Sem.run_pure, hr, Result.andThen_ok]
    exact hK _ _ h
theorem wp_lookup' {K : Act → World → Prop} (ty : TypeId) (x y : Operand) (ho : op.op = .lookup ty x y false) (mb : Nat) (ks : Array Value) (hx : a.eval x = .map (some mb)) (hy : a.eval y = .agg ks) (v : Value)
    (hr : (Instr.lookup ty (.map (some mb)) (.agg ks) false).run P w = .ok v w) (h : K (a.put op.dst v) w) : op.wp P a w K Q := by
  unfold Oper.wp execOp
  simp only [ho, hx, hy, Sem.run_bind, Sem.run_pure, hr, Result.andThen_ok]
  exact h
end
end Go.Proofs.YticfcdbfplfmlaaGreat.Pe
/- The walks of layer 1: which columns the knots can have. -/
namespace Go.Proofs.YticfcdbfplfmlaaGreat.Pe
open Go.RowKit Go.Maps
attribute [local go_sem] Oper.semAt_some

/-- The cells behind a slice read as knots. -/
def KnotsAt (w : World) (p : Option Addr) (ks : List K4) : Prop :=
  ∀ i (h : i < ks.length), ∃ b o, p = some ⟨b, o, none⟩ ∧ w.cell? ⟨b, o + i * 4, none⟩ = some (.int .i64 ks[i].al) ∧ w.cell? ⟨b, o + i * 4 + 1, none⟩ = some (.int .i64 ks[i].ah) ∧
    w.cell? ⟨b, o + i * 4 + 2, none⟩ = some (.int .i64 ks[i].fl) ∧ w.cell? ⟨b, o + i * 4 + 3, none⟩ = some (.int .i64 ks[i].fh)
theorem KnotsAt.below {w w' : World} {p : Option Addr} {ks : List K4} (h : KnotsAt w p ks) (hb : Below w.heap.size w w') : KnotsAt w' p ks := by
  intro i hi
  obtain ⟨b, o, hp, h0, h1, h2, h3⟩ := h i hi
  have hlt : b < w.heap.size := cell_block h0
  exact ⟨b, o, hp, by rw [(bcell hb).1 b _ hlt]; exact h0, by rw [(bcell hb).1 b _ hlt]; exact h1, by rw [(bcell hb).1 b _ hlt]; exact h2, by rw [(bcell hb).1 b _ hlt]; exact h3⟩

/-- The columns that some knots can have. -/
def reachK (R : Rib) (long : List Int) (acc : List Bool) (k : K4) : List Bool := (placesL k).foldl (fun c p => orL c (trailL R long p.1 p.2.toNat)) acc
def reachL (R : Rib) (long : List Int) (ks : List K4) : List Bool := ks.foldl (reachK R long) (List.replicate 72 false)
theorem trailL_length (R : Rib) (long : List Int) (a : Int) (t : Nat) : (trailL R long a t).length = 72 := trailTo_length _ _ _ _ _
theorem foldOr_length (R : Rib) (long : List Int) : ∀ (l : List (Int × Int)) (acc : List Bool), acc.length = 72 → (l.foldl (fun c p => orL c (trailL R long p.1 p.2.toNat)) acc).length = 72
  | [], _, h => h
  | _ :: l, _, h => foldOr_length R long l _ (orL_length h (trailL_length _ _ _ _))
theorem reachK_length (R : Rib) (long : List Int) {acc : List Bool} (k : K4) (h : acc.length = 72) : (reachK R long acc k).length = 72 := foldOr_length R long _ _ h
theorem reachF_length (R : Rib) (long : List Int) : ∀ (ks : List K4) (acc : List Bool), acc.length = 72 → (ks.foldl (reachK R long) acc).length = 72
  | [], _, h => h
  | k :: ks, _, h => reachF_length R long ks _ (reachK_length R long k h)

/-- A map that holds the trails of all places of some knots. -/
def Trails (R : Rib) (long : List Int) (ks : List K4) (f : Int → Int → Option (List Bool)) : Prop :=
  ∀ k ∈ ks, ∀ p ∈ placesL k, f p.1 p.2 = some (trailL R long p.1 p.2.toNat)

end Go.Proofs.YticfcdbfplfmlaaGreat.Pe
