/- The walks of layer 3: small functions. -/
import Derived.Test.YtfppcmechfjpoaaUQ
import Derived.Test.YtfppcmechfjpoaaT2
import Derived.Test.YtfppcmechfjpoaaRGX
namespace Go.Proofs.Ytfppcmechfjpoaa
open Go.RowKit Go.Maps
attribute [local go_sem] Oper.semAt_some

theorem alloc_setRow (w : World) (old cs : Array Value) (t : TypeId) : (w.alloc (.cells old t)).setRow w.heap.size cs = w.alloc (.cells cs t) := by
  have e : (w.heap.push (Obj.cells old t)).modify w.heap.size (fun x => match x with | Obj.cells c elem frozen => Obj.cells cs elem frozen | o => o) = w.heap.push (Obj.cells cs t) := by
    apply Array.ext
    · simp
    · intro i h1 h2
      rw [Array.getElem_modify]
      simp only [Array.size_push] at h2
      by_cases hi : i = w.heap.size
      · subst hi; simp
      · rw [if_neg (Ne.symm hi), Array.getElem_push_lt (by omega), Array.getElem_push_lt (by omega)]
  show ({ heap := _, tape := w.tape, drawn := w.drawn, os := w.os, output := w.output } : World) = { heap := _, tape := w.tape, drawn := w.drawn, os := w.os, output := w.output }
  congr 1
/-- A new variable gets its value. -/
theorem store_new {P : Program} {ops : Array Oper} {rest : List Oper} {op : Oper} {a : Act} {w : World} {Q : Exit → Act → World → Prop} (hgd : op.guard = none) (ty : TypeId) (x y : Operand) (ho : op.op = .store ty x y)
    (cs old : Array Value) (t : TypeId) (hx : a.eval x = .pointer (some ⟨w.heap.size, 0, none⟩)) (hy : a.eval y = .agg cs)
    (hi : (P.info? ty).map (·.size) = some cs.size) (hold : old.size = cs.size) (h1 : cs.all (·.oneCell') = true)
    (h : wpList P ops Q rest (a.put op.dst undef) (w.alloc (.cells cs t))) : wpList P ops Q (op :: rest) a (w.alloc (.cells old t)) :=
  store_row hgd ty x y ho w.heap.size cs old t hx hy (Row.new _ _ _) hi hold h1 (by rw [alloc_setRow]; exact h)
/-- The same in a round. -/
theorem store_newIn {F : Fence} {n : Nat} {P : Program} {ops : Array Oper} {rest : List Oper} {op : Oper} {a : Act} {w : World} {Q : Exit → Act → World → Prop} (hgd : op.guard = none) (ty : TypeId) (x y : Operand) (ho : op.op = .store ty x y)
    (cs old : Array Value) (t : TypeId) (hx : a.eval x = .pointer (some ⟨w.heap.size, 0, none⟩)) (hy : a.eval y = .agg cs)
    (hi : (P.info? ty).map (·.size) = some cs.size) (hold : old.size = cs.size) (h1 : cs.all (·.oneCell') = true)
    (h : wpListIn F n P ops Q rest (a.put op.dst undef) (w.alloc (.cells cs t))) : wpListIn F n P ops Q (op :: rest) a (w.alloc (.cells old t)) :=
  wpListIn_plain hgd fun K hK => by
    refine ⟨fun f hf => by simp [Oper.about, ho] at hf, ?_⟩
    rw [Oper.semAt_eq _ _ _ (by intro c hc; rw [ho] at hc; cases hc)]
    unfold execOp
    simp only [ho, hx, hy, Instr.storeAt, Instr.sureAddr, Sem.run_bind, Sem.run_pure, Result.andThen_ok, run_storeVar_row (w.alloc (.cells old t)) w.heap.size t ty old cs (Row.new _ _ _) hi hold h1]
    rw [alloc_setRow]
    exact hK _ _ h

theorem Row.new1 (w : World) (o : Obj) (cs : Array Value) (t : TypeId) : Row ((w.alloc o).alloc (.cells cs t)) (w.heap.size + 1) cs t := Row.new' (by simp) _ _
theorem Row.new2 (w : World) (o o' : Obj) (cs : Array Value) (t : TypeId) : Row (((w.alloc o).alloc o').alloc (.cells cs t)) (w.heap.size + 1 + 1) cs t := Row.new' (by simp) _ _
theorem below_alloc2 (w : World) (o o' : Obj) : Below w.heap.size w ((w.alloc o).alloc o') := (below_alloc _ _).alloc (by simp) _
theorem below_alloc3 (w : World) (o o' o'' : Obj) : Below w.heap.size w (((w.alloc o).alloc o').alloc o'') := (below_alloc2 _ _ _).alloc (by simp; omega) _
def frA (m : FrM) : Array Value := #[.slice m.p m.f.stay.length m.c, .int .i64 m.f.lo, .int .i64 m.f.hi]

theorem least_any (p : Pt) (w : World) : Calls Try.prog 111 #[.agg p.A] w fun e w' => e = .returned (.int .i64 p.lo) ∧ Below w.heap.size w w' := by
  unfold Pt.A
  go_enter Try.func111, Try.ntmps111
  go_wp2
  go_ret
  exact ⟨rfl, below_alloc _ _⟩
theorem mostDamp_any (p : Pt) (w : World) : Calls Try.prog 109 #[.agg p.A] w fun e w' => e = .returned (.int .i64 p.hi) ∧ Below w.heap.size w w' := by
  unfold Pt.A
  go_enter Try.func109, Try.ntmps109
  go_wp2
  go_ret
  exact ⟨rfl, below_alloc _ _⟩
theorem wet_any (m : FrM) (n : Int) (w : World) : Calls Try.prog 110 #[.agg m.A, .int .i64 n] w fun e w' => e = .returned (.bool (decide (n < m.f.lo))) ∧ Below w.heap.size w w' := by
  unfold FrM.A
  go_enter Try.func110, Try.ntmps110
  go_wp2
  go_ret
  exact ⟨rfl, below_alloc _ _⟩
theorem dryF_any (m : FrM) (n : Int) (w : World) : Calls Try.prog 112 #[.agg m.A, .int .i64 n] w fun e w' => e = .returned (.bool (decide (m.f.hi < n))) ∧ Below w.heap.size w w' := by
  unfold FrM.A
  go_enter Try.func112, Try.ntmps112
  go_wp2
  go_ret
  exact ⟨rfl, below_alloc _ _⟩
def endsA : Array Value := #[.func (.func 109) #[] #[], .func (.func 110) #[] #[], .int .i64 1, .func (.func 111) #[] #[], .func (.func 112) #[] #[], .int .i64 2]
set_option maxRecDepth 10000 in
theorem ends_any (w : World) : Calls Try.prog 98 #[] w fun e w' => e = .returned (.agg endsA) ∧ Below w.heap.size w w' := by
  go_enter Try.func98, Try.ntmps98
  go_wp2_with (first | (refine store_new rfl 119 _ _ rfl endsA #[.nilFunc, .nilFunc, .int .i64 0, .nilFunc, .nilFunc, .int .i64 0] 119 rfl rfl (by kernel_rfl) rfl (by simp [endsA, Value.oneCell']) ?_))
  exact bodyPost_ret (v := .agg endsA) (by simp [results, Try.results98, endsA, go_sem]) rfl ⟨rfl, below_alloc _ _⟩
theorem sum_any (p : Option Addr) (n c : Nat) (xs : List Int) (w : World) (hn : xs.length = n) (h4 : n ≤ 4) (hc : IntsAt w p xs) :
    Calls Try.prog 95 #[.slice p n c] w fun e w' => e = .returned (.int .i64 (total xs)) ∧ w = w' := by
  subst hn
  go_enter Try.func95, Try.ntmps95
  go_wp2
  go_loop [3, 8] (fun t i => ∃ k : Nat, k ≤ xs.length ∧ i = .int .i64 k ∧ t = .int .i64 (total (xs.take k))) (fun _ i => xs.length - (intOf i).toNat)
  case atStart => exact ⟨0, Nat.zero_le _, rfl, rfl⟩
  case round =>
    obtain ⟨k, hk, rfl, rfl⟩ := hrel
    by_cases hlt : k < xs.length
    · obtain ⟨b, o, rfl, hcell⟩ := hc k hlt
      clear hc
      go_wp2
      go_round
      case rel => exact ⟨k + 1, by omega, by go_num, by rw [total_take _ _ hlt]⟩
      case measure => simp [intOf]; omega
    · clear hc
      go_wp2
      go_ret
      exact ⟨ret_int (by rw [List.take_of_length_le (by omega)]), rfl⟩
/-- A book, and a passage, as the program keeps them. -/
abbrev bookA (pp : Option Addr) (np cp : Nat) (pf : Option Addr) (nf cf mb : Nat) : Array Value := #[.slice pp np cp, .slice pf nf cf, .map (some mb)]
abbrev pasA (pp : Option Addr) (np cp : Nat) (pf : Option Addr) (nf cf mb : Nat) (s : List Int) : Array Value := #[.slice pp np cp, .slice pf nf cf, .map (some mb), .int .i64 (at0 s 0), .int .i64 (at0 s 1), .int .i64 (at0 s 2), .int .i64 (at0 s 3)]
theorem pasA_at (pp : Option Addr) (np cp : Nat) (pf : Option Addr) (nf cf mb : Nat) (s : List Int) {i : Nat} (hi : i < 4) : (pasA pp np cp pf nf cf mb s)[3 + i]? = some (.int .i64 (at0 s i)) := by
  obtain rfl | rfl | rfl | rfl : i = 0 ∨ i = 1 ∨ i = 2 ∨ i = 3 := by omega
  all_goals rfl
theorem PtsAt.heat {w : World} {p : Option Addr} {ps : List Pt} (h : PtsAt w p ps) {i : Nat} (hi : i < ps.length) {d : Nat} (hd : d ≤ 3) : ∃ b o, p = some ⟨b, o, none⟩ ∧ w.cell? ⟨b, o + i * 6 + d, none⟩ = some (.int .i64 (ps[i].h d)) := by
  obtain ⟨b, o, hp, h0, h1, h2, h3, _, _⟩ := h i hi
  refine ⟨b, o, hp, ?_⟩
  obtain rfl | rfl | rfl | rfl : d = 0 ∨ d = 1 ∨ d = 2 ∨ d = 3 := by omega
  · exact h0
  · exact h1
  · exact h2
  · exact h3
/-- Numbers of the first parts; the others are 0. -/
def firstL (f : Nat → Int) (k : Nat) : List Int := (List.range 4).map fun i => if i < k then f i else 0
theorem firstL_length (f : Nat → Int) (k : Nat) : (firstL f k).length = 4 := by simp [firstL]
theorem firstL_zero (f : Nat → Int) : firstL f 0 = [0, 0, 0, 0] := by simp [firstL, List.range_succ]
theorem firstL_set (f : Nat → Int) {k : Nat} (hk : k < 4) : (firstL f k).set k (f k) = firstL f (k + 1) := by
  apply List.ext_getElem?
  intro j
  rw [List.getElem?_set]
  by_cases hj : j < 4
  · by_cases h : k = j
    · subst h; simp [firstL, hk]
    · have h2 : (j < k + 1) ↔ (j < k) := by omega
      simp [firstL, h, hj, h2]
  · simp [firstL, hj]; omega
theorem firstL_total (f : Nat → Int) {k : Nat} (hk : k ≤ 4) (hf : ∀ i, i < k → -1000000 ≤ f i ∧ f i ≤ 1000000) : total (firstL f k) = ((List.range k).map f).sum := by
  have e : ∀ a b c d : Int, total [a, b, c, d] = wrap64 (wrap64 (wrap64 (wrap64 (0 + a) + b) + c) + d) := fun _ _ _ _ => rfl
  obtain rfl | rfl | rfl | rfl | rfl : k = 0 ∨ k = 1 ∨ k = 2 ∨ k = 3 ∨ k = 4 := by omega
  · rw [firstL_zero, e]
    simp only [List.range_zero, List.map_nil, List.sum_nil, Int.add_zero]
    rw [IntWalk.wrap64_in 0 (by omega), IntWalk.wrap64_in 0 (by omega), IntWalk.wrap64_in 0 (by omega), IntWalk.wrap64_in 0 (by omega)]
  · have := hf 0 (by omega)
    rw [show firstL f 1 = [f 0, 0, 0, 0] from rfl, e]
    simp only [List.range_succ, List.range_zero, List.map_cons, List.map_nil, List.nil_append, List.sum_cons, List.sum_nil, Int.add_zero, Int.zero_add]
    rw [IntWalk.wrap64_in (f 0) (by omega), IntWalk.wrap64_in (f 0) (by omega), IntWalk.wrap64_in (f 0) (by omega), IntWalk.wrap64_in (f 0) (by omega)]
  · have := hf 0 (by omega)
    have := hf 1 (by omega)
    rw [show firstL f 2 = [f 0, f 1, 0, 0] from rfl, e]
    simp only [List.range_succ, List.range_zero, List.map_cons, List.map_nil, List.nil_append, List.cons_append, List.sum_cons, List.sum_nil, Int.add_zero, Int.zero_add]
    rw [IntWalk.wrap64_in (f 0) (by omega), IntWalk.wrap64_in (f 0 + f 1) (by omega), IntWalk.wrap64_in (f 0 + f 1) (by omega), IntWalk.wrap64_in (f 0 + f 1) (by omega)]
  · have := hf 0 (by omega)
    have := hf 1 (by omega)
    have := hf 2 (by omega)
    rw [show firstL f 3 = [f 0, f 1, f 2, 0] from rfl, e]
    simp only [List.range_succ, List.range_zero, List.map_cons, List.map_nil, List.nil_append, List.cons_append, List.sum_cons, List.sum_nil, Int.add_zero, Int.zero_add]
    rw [IntWalk.wrap64_in (f 0) (by omega), IntWalk.wrap64_in (f 0 + f 1) (by omega), IntWalk.wrap64_in (f 0 + f 1 + f 2) (by omega), IntWalk.wrap64_in (f 0 + f 1 + f 2) (by omega)]
    omega
  · have := hf 0 (by omega)
    have := hf 1 (by omega)
    have := hf 2 (by omega)
    have := hf 3 (by omega)
    rw [show firstL f 4 = [f 0, f 1, f 2, f 3] from rfl, e]
    simp only [List.range_succ, List.range_zero, List.map_cons, List.map_nil, List.nil_append, List.cons_append, List.sum_cons, List.sum_nil, Int.add_zero, Int.zero_add]
    rw [IntWalk.wrap64_in (f 0) (by omega), IntWalk.wrap64_in (f 0 + f 1) (by omega), IntWalk.wrap64_in (f 0 + f 1 + f 2) (by omega), IntWalk.wrap64_in (f 0 + f 1 + f 2 + f 3) (by omega)]
    omega
end Go.Proofs.Ytfppcmechfjpoaa
/- The walks of layer 3: the heat of a setting, how dry a frame is. -/
namespace Go.Proofs.Ytfppcmechfjpoaa
open Go.RowKit Go.Maps
attribute [local go_sem] Oper.semAt_some

theorem intsA_at4 {l : List Int} (hl : l.length = 4) {i : Nat} (hi : i < 4) : (intsA l)[i]? = some (.int .i64 (at0 l i)) := intsA_at (by omega)
theorem zeros4 : (#[.int .i64 0, .int .i64 0, .int .i64 0, .int .i64 0] : Array Value) = intsA [0, 0, 0, 0] := rfl
theorem row_free {w : World} {b : Nat} {cs : Array Value} {t : TypeId} (h : Row w b cs t) (i : Nat) : w.frozen? ⟨b, i, none⟩ = false := h.free i

def heatF (ps : List Pt) (s : List Int) (i : Nat) : Int := match ps[i]? with
  | some p => p.h (at0 s i)
  | none => 0
theorem heatF_at {ps : List Pt} {s : List Int} {i : Nat} (h : i < ps.length) : heatF ps s i = ps[i].h (at0 s i) := by simp [heatF, h]
theorem heatD_sum {ps : List Pt} (s : List Int) (hok : ∀ p ∈ ps, PtOk p) (h4 : ps.length ≤ 4) : total (firstL (heatF ps s) ps.length) = heatD ps s := by
  rw [firstL_total _ h4]
  · rfl
  · intro i hi
    rw [heatF_at hi]
    have := Pt.h_range (hok ps[i] (List.getElem_mem _)) (at0 s i)
    omega

set_option maxRecDepth 10000 in
set_option maxHeartbeats 800000 in
theorem heat_any (pp : Option Addr) (cp : Nat) (pf : Option Addr) (nf cf mb : Nat) (s : List Int) (ps : List Pt) (w : World) (hp : PtsAt w pp ps) (hok : ∀ p ∈ ps, PtOk p) (h4 : ps.length ≤ 4) (hs : SetOk s) :
    Calls Try.prog 58 #[.agg (pasA pp ps.length cp pf nf cf mb s)] w fun e w' => e = .returned (.int .i64 (heatD ps s)) ∧ Below w.heap.size w w' := by
  have HP := Lib.hid hp
  clear hp
  unfold pasA
  go_enter Try.func58, Try.ntmps58
  go_wp2
  go_loopw [10] (fun i wr => ∃ k : Nat, k ≤ ps.length ∧ i = .int .i64 k ∧ Row wr w.heap.size (pasA pp ps.length cp pf nf cf mb s) 81 ∧ Row wr (w.heap.size + 1) (intsA (firstL (heatF ps s) k)) 62 ∧ Below w.heap.size w wr) (fun i _ => ps.length - (intOf i).toNat)
  case atStart => exact ⟨0, by omega, rfl, (Row.new _ _ _).alloc _, by rw [firstL_zero]; exact Row.new1 _ _ _ _, below_alloc2 _ _ _⟩
  case round =>
    obtain ⟨k, hk, rfl, r0, r1, hb⟩ := hrel
    by_cases hlt : k < ps.length
    · obtain ⟨d, hd⟩ : ∃ d : Nat, at0 s k = d := ⟨(at0 s k).toNat, by have := hs.at k; omega⟩
      have hd3 : d ≤ 3 := by have := hs.at k; omega
      obtain ⟨b, o, rfl, hcell⟩ := (HP.out.below hb).heat hlt hd3
      have c0 := r0.cell 0 (v := .slice (some ⟨b, o, none⟩) ps.length cp) rfl
      have c3 := r0.cell (3 + k) (pasA_at _ _ _ _ _ _ _ s (by omega : k < 4))
      rw [hd] at c3
      have c4 := r1.cell k (intsA_at4 (firstL_length _ _) (by omega))
      have f4 := r1.free k
      have HR := Lib.hid r0
      have HQ := Lib.hid r1
      have HB := Lib.hid hb
      have HD := Lib.hid hd
      have hz := r1.lt
      clear r0 r1 hb hd
      go_wp2
      go_region
      all_goals
        go_wp2
        go_roundw
        case rel =>
          refine ⟨k + 1, by omega, by go_num, (HR.out.set_other _ _ (by dsimp only; omega)).drew, ?_, (HB.out.setCell (by dsimp only; omega) _).drew⟩
          have h := (HQ.out.set k (.int .i64 (ps[k].h d))).drew
          rw [intsA_set, show ps[k].h (d : Int) = heatF ps s k by rw [heatF_at hlt, HD.out], firstL_set _ (by omega)] at h
          rw [show ps[k].h (d : Int) = heatF ps s k by rw [heatF_at hlt, HD.out]]
          exact h
        case measure => simp [intOf]; omega
    · have e : k = ps.length := by omega
      subst e
      have HI := Lib.hid (ints_row r1)
      have HS := Lib.hid (heatD_sum s hok h4)
      go_wp2_with (first | (refine (sum_any _ _ _ _ _ (firstL_length _ _) (by decide) HI.out).mono ?_; rintro e w1 ⟨rfl, rfl⟩))
      go_ret
      exact ⟨ret_int HS.out, hb⟩
end Go.Proofs.Ytfppcmechfjpoaa
