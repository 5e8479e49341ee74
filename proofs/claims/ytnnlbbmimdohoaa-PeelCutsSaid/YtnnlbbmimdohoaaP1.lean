/- The walks of layer 1: the small functions on places and knots. -/
import Derived.Test.YtnnlbbmimdohoaaB
import Derived.Test.YtnnlbbmimdohoaaM
import Derived.BigGuardPart
import Derived.Laws.EntriesVeiled
namespace Go.Proofs.Ytnnlbbmimdohoaa
open Go.RowKit

def showsB (a t n : Int) : Bool := decide (0 ≤ a) && decide (a < 24) && decide (0 ≤ t) && decide (t < n)
def narrowB (a b m : Int) : Bool := decide (a ≤ b) && decide (wrap64 (b - a) ≤ m)

set_option maxHeartbeats 400000 in
theorem shows_any (a t n : Int) (w : World) :
    Calls Try.prog 59 #[.agg #[.int .i64 a, .int .i64 t], .int .i64 n] w fun e w' => e = .returned (.bool (showsB a t n)) ∧ Below w.heap.size w w' := by
  go_enter Try.func59, Try.ntmps59
  go_wp2
  all_goals
    go_ret
    exact ⟨ret_bool (by unfold showsB; simp_all <;> omega), below_alloc _ _⟩

set_option maxHeartbeats 400000 in
theorem narrow_any (a b m : Int) (w : World) :
    Calls Try.prog 97 #[.agg #[.int .i64 a, .int .i64 b], .int .i64 m] w fun e w' => e = .returned (.bool (narrowB a b m)) ∧ Below w.heap.size w w' := by
  go_enter Try.func97, Try.ntmps97
  go_wp2
  all_goals
    go_ret
    exact ⟨ret_bool (by unfold narrowB; simp_all <;> omega), below_alloc _ _⟩

set_option maxHeartbeats 400000 in
theorem low_any (a b c d : Int) (w : World) :
    Calls Try.prog 94 #[.agg #[.int .i64 a, .int .i64 b, .int .i64 c, .int .i64 d]] w fun e w' => e = .returned (.agg #[.int .i64 a, .int .i64 c]) ∧ Below w.heap.size w w' := by
  go_enter Try.func94, Try.ntmps94
  go_wp2
  exact bodyPost_ret (v := .agg #[.int .i64 a, .int .i64 c]) (by simp [results, Try.results94, go_sem]) rfl ⟨rfl, (below_alloc _ _).alloc (by simp) _⟩

set_option maxHeartbeats 400000 in
theorem high_any (a b c d : Int) (w : World) :
    Calls Try.prog 95 #[.agg #[.int .i64 a, .int .i64 b, .int .i64 c, .int .i64 d]] w fun e w' => e = .returned (.agg #[.int .i64 b, .int .i64 d]) ∧ Below w.heap.size w w' := by
  go_enter Try.func95, Try.ntmps95
  go_wp2
  exact bodyPost_ret (v := .agg #[.int .i64 b, .int .i64 d]) (by simp [results, Try.results95, go_sem]) rfl ⟨rfl, (below_alloc _ _).alloc (by simp) _⟩

set_option maxHeartbeats 400000 in
theorem ends_any (w : World) :
    Calls Try.prog 96 #[] w fun e w' => e = .returned (.agg #[.func (.func 94) #[] #[], .func (.func 95) #[] #[]]) ∧ Below w.heap.size w w' := by
  go_enter Try.func96, Try.ntmps96
  go_wp2
  exact bodyPost_ret (v := .agg #[.func (.func 94) #[] #[], .func (.func 95) #[] #[]]) (by simp [results, Try.results96, go_sem]) rfl ⟨rfl, below_alloc _ _⟩

/-- What is so of a column. -/
def b0 (l : List Bool) (k : Nat) : Bool := l.getD k false
theorem b0_lt {l : List Bool} {k : Nat} (h : k < l.length) : b0 l k = l[k] := by simp [b0, h]

/-- The truth values of columns, as a value of the array's type. -/
def cols (l : List Bool) : Value := .agg (l.map Value.bool).toArray

set_option maxHeartbeats 400000 in
theorem has_any (l : List Bool) (i : Nat) (hl : l.length = 72) (hi : i < 72) (w : World) :
    Calls Try.prog 90 #[cols l, .int .i64 i] w fun e w' => e = .returned (.bool (b0 l i)) ∧ Below w.heap.size w w' := by
  unfold cols
  go_enter Try.func90, Try.ntmps90
  go_wp2
  go_ret
  exact ⟨ret_bool (b0_lt (by omega)).symm, below_alloc _ _⟩

def orL (l m : List Bool) : List Bool := List.zipWith (fun a b => a || b) l m
theorem orL_length {l m : List Bool} (hl : l.length = 72) (hm : m.length = 72) : (orL l m).length = 72 := by simp [orL, hl, hm]
/-- The first k columns joined, the others as they were. -/
def mixL (l m : List Bool) (k : Nat) : List Bool := (orL l m).take k ++ l.drop k
theorem mixL_length {l m : List Bool} (hl : l.length = 72) (hm : m.length = 72) (k : Nat) (hk : k ≤ 72) : (mixL l m k).length = 72 := by
  simp [mixL, orL_length hl hm, hl]; omega
theorem mixL_at {l m : List Bool} (hl : l.length = 72) (hm : m.length = 72) {k : Nat} (hk : k < 72) : (mixL l m k)[k]? = some (b0 l k) := by
  have h := orL_length hl hm
  rw [mixL, List.getElem?_append_right (by simp; omega), List.getElem?_drop]
  simp [h, hl, Nat.min_eq_left (Nat.le_of_lt hk), hk, b0]
theorem mixL_set {l m : List Bool} (hl : l.length = 72) (hm : m.length = 72) {k : Nat} (hk : k < 72) : (mixL l m k).set k (b0 l k || b0 m k) = mixL l m (k + 1) := by
  have h := orL_length hl hm
  have e : (orL l m)[k]'(by omega) = (b0 l k || b0 m k) := by simp [orL, hl, hm, hk, b0]
  unfold mixL
  rw [List.set_append_right _ _ (by simp; omega), List.take_succ_eq_append_getElem (by omega), e, List.append_assoc]
  have e0 : k - min k 72 = 0 := by omega
  simp only [List.length_take, h, e0]
  generalize (b0 l k || b0 m k) = c
  rw [List.drop_eq_getElem_cons (by omega : k < l.length), List.set_cons_zero]
  rfl
theorem mixL_all {l m : List Bool} (hl : l.length = 72) (hm : m.length = 72) : mixL l m 72 = orL l m := by
  have h := orL_length hl hm
  unfold mixL
  rw [List.take_of_length_le (by omega), List.drop_eq_nil_of_le (by omega), List.append_nil]
def boolsA (l : List Bool) : Array Value := (l.map Value.bool).toArray
theorem boolsA_size (l : List Bool) : (boolsA l).size = l.length := by simp [boolsA]
theorem boolsA_at {l : List Bool} {k : Nat} {b : Bool} (h : l[k]? = some b) : (boolsA l)[k]? = some (.bool b) := by simp [boolsA, h]
theorem boolsA_set (l : List Bool) (k : Nat) (b : Bool) : (boolsA l).setIfInBounds k (.bool b) = boolsA (l.set k b) := by
  simp [boolsA, List.map_set]
theorem boolsA_one (l : List Bool) : (boolsA l).all (·.oneCell') = true := by
  simp [boolsA, Value.oneCell']
theorem cols_def (l : List Bool) : cols l = .agg (boolsA l) := rfl
theorem size88 {l : List Bool} (hl : l.length = 72) : (Try.prog.info? 88).map (·.size) = some (boolsA l).size := by
  have h : ((Try.prog.info? 88).map (·.size)) = some 72 := by kernel_rfl
  rw [h, boolsA_size, hl]
theorem zero88 : Try.zeroCells88 = boolsA (List.replicate 72 false) := by kernel_rfl

theorem index88 {m : List Bool} (hm : m.length = 72) {k : Nat} (hk : k < 72) (w : World) : (Instr.index 88 (.agg (boolsA m)) (.int .i64 k)).run Try.prog w = .ok (.bool (b0 m k)) w := by
  have h := boolsA_size m
  have h2 : (boolsA m)[k]'(by rw [h, hm]; exact hk) = .bool (m[k]'(by omega)) := by simp [boolsA]
  simp [Instr.index, go_sem, h, hm, hk, h2, b0]

set_option maxRecDepth 10000 in
set_option maxHeartbeats 400000 in
theorem with_any (l m : List Bool) (hl : l.length = 72) (hm : m.length = 72) (w : World) :
    Calls Try.prog 87 #[cols l, cols m] w fun e w' => e = .returned (cols (orL l m)) ∧ Below w.heap.size w w' := by
  rw [cols_def, cols_def]
  have HI := Lib.hid (size88 hm)
  go_enter Try.func87, Try.ntmps87
  go_wp2_with (refine load_row rfl 88 _ rfl _ rfl 88 _ _ ((Row.new' (by simp) _ _).alloc _) Try.underlying88 rfl HI.out ?_)
  go_loopw [8] (fun i wr => ∃ k : Nat, k ≤ 72 ∧ i = .int .i64 k ∧ Row wr w.heap.size (boolsA (mixL l m k)) 88 ∧ Row wr (w.heap.size + 1 + 1) Try.zeroCells88 88 ∧ Below w.heap.size w wr) (fun i _ => 72 - (intOf i).toNat)
  case atStart => exact ⟨0, by omega, rfl, ((Row.new _ _ _).alloc _).alloc _, Row.new' (by simp) _ _, (((below_alloc _ _).alloc (by simp) _).alloc (by simp; omega) _)⟩
  case round =>
    obtain ⟨k, hk, rfl, hr, hz, hb⟩ := hrel
    have HR := Lib.hid hr
    have HZ := Lib.hid hz
    have HB := Lib.hid hb
    by_cases hlt : k < 72
    · have hcell := hr.cell k (boolsA_at (mixL_at hl hm hlt))
      have hfree := hr.free k
      clear hr hz hb
      cases hlk : b0 l k
      all_goals
        rw [hlk] at hcell
        have HL := Lib.hid hlk
        clear hlk
        go_wp2_with (first | (refine index_op rfl 88 _ _ rfl _ _ rfl rfl _ (index88 hm hlt _) ?_))
        go_roundw
        case rel => exact ⟨k + 1, by omega, by go_num, by have := HR.out.set k (.bool (b0 l k || b0 m k)); rw [boolsA_set, mixL_set hl hm hlt, HL.out] at this; exact this, HZ.out.set_other _ _ (by dsimp only; omega), HB.out.setCell (by simp) _⟩
        case measure => simp [intOf]; omega
    · obtain rfl : k = 72 := by omega
      clear hr hz hb
      have hlen := mixL_length hl hm 72 (by omega)
      go_wp2_with (first | (refine load_row rfl 88 _ rfl _ rfl 88 _ _ HR.out Try.underlying88 rfl (size88 hlen) ?_) | (refine store_row rfl 88 _ _ rfl _ _ _ _ rfl rfl HZ.out (size88 hlen) (by rw [zero88, boolsA_size, boolsA_size, hlen, List.length_replicate]) (boolsA_one _) ?_))
      have hr2 := (HZ.out).setRow (boolsA (mixL l m 72))
      exact bodyPost_ret (v := cols (orL l m)) (by rw [cols_def, ← mixL_all hl hm]; exact results_cell_row Try.results87 _ _ _ _ _ _ _ rfl hr2 Try.underlying88 rfl (size88 hlen)) rfl ⟨rfl, below_setRow HB.out (by omega) _⟩

end Go.Proofs.Ytnnlbbmimdohoaa
