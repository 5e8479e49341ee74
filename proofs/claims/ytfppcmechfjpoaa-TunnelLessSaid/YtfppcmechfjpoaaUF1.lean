/- The walks of layer 3: a book with its map; a passage; settings as lists; which outcome is the better one. -/
import Derived.Test.YtfppcmechfjpoaaUE
namespace Go.Proofs.Ytfppcmechfjpoaa
open Go.RowKit Go.Maps
attribute [local go_sem] Oper.semAt_some

/-- The call returned a book with a new map. -/
def GaveBook (pp : Option Addr) (np cp : Nat) (pf : Option Addr) (nf cf : Nat) (ps : List Pt) (ms : List FrM) (w : World) (e : Ending) (w' : World) : Prop :=
  ∃ mb, e = .returned (.agg (bookA pp np cp pf nf cf mb)) ∧ w.heap.size ≤ mb ∧ BkD w' pp pf ps ms mb 0 ∧ Below w.heap.size w w'

set_option maxRecDepth 10000 in
set_option maxHeartbeats 800000 in
theorem open_any (pp : Option Addr) (cp : Nat) (pf : Option Addr) (cf : Nat) (ps : List Pt) (ms : List FrM) (w : World) (hB : Bk w pp pf ps ms) :
    Calls Try.prog 73 #[.agg #[.slice pp ps.length cp, .slice pf ms.length cf]] w (GaveBook pp ps.length cp pf ms.length cf ps ms w) := by
  have HBK := Lib.hid hB
  clear hB
  have hmm := @run_makeMap Try.prog
  go_enter Try.func73, Try.ntmps73
  go_wp2_with fail
  clear hmm
  have q0 := (Row.new1 w (.cells #[.slice pp ps.length cp, .slice pf ms.length cf] 25) (bookA pp ps.length cp pf ms.length cf (w.heap.size + 1 + 1)) 78).alloc (.map #[] 0)
  have hb := below_alloc3 w (.cells #[.slice pp ps.length cp, .slice pf ms.length cf] 25) (.cells (bookA pp ps.length cp pf ms.length cf (w.heap.size + 1 + 1)) 78) (.map #[] 0)
  have hd := DriedAt.made ((w.alloc (.cells #[.slice pp ps.length cp, .slice pf ms.length cf] 25)).alloc (.cells (bookA pp ps.length cp pf ms.length cf (w.heap.size + 1 + 1)) 78)) ps.length (dryI ps (frsM ms))
  simp only [World.size_alloc] at hd
  exact bodyPost_ret (v := .agg (bookA pp ps.length cp pf ms.length cf (w.heap.size + 1 + 1))) (results_cell_row Try.results73 _ _ _ _ _ _ _ rfl q0 Try.underlying78 rfl (by kernel_rfl)) rfl
    ⟨_, rfl, by omega, ⟨HBK.out.below hb, hd⟩, hb⟩

set_option maxRecDepth 10000 in
set_option maxHeartbeats 800000 in
theorem by_any (pp : Option Addr) (np cp : Nat) (pf : Option Addr) (nf cf mb : Nat) (s : List Int) (w : World) :
    Calls Try.prog 94 #[.agg (bookA pp np cp pf nf cf mb), .agg (setA s)] w fun e w' => e = .returned (.agg (pasA pp np cp pf nf cf mb s)) ∧ Below w.heap.size w w' := by
  go_enter Try.func94, Try.ntmps94
  go_wp2_with fail
  have q0 := Row.new2 w (.cells (bookA pp np cp pf nf cf mb) 78) (.cells (setA s) 79) (pasA pp np cp pf nf cf mb s) 81
  exact bodyPost_ret (v := .agg (pasA pp np cp pf nf cf mb s)) (results_cell_row Try.results94 _ _ _ _ _ _ _ rfl q0 Try.underlying81 rfl (by kernel_rfl)) rfl ⟨rfl, below_alloc3 _ _ _ _⟩

/-- An outcome. -/
abbrev outA (s : List Int) (heat : Int) (p : Option Addr) (n c : Nat) : Array Value := #[.int .i64 (at0 s 0), .int .i64 (at0 s 1), .int .i64 (at0 s 2), .int .i64 (at0 s 3), .int .i64 heat, .slice p n c]
set_option maxRecDepth 10000 in
theorem cooler_any (s : List Int) (h : Int) (p : Option Addr) (n c : Nat) (s' : List Int) (h' : Int) (p' : Option Addr) (n' c' : Nat) (w : World) :
    Calls Try.prog 100 #[.agg (outA s h p n c), .agg (outA s' h' p' n' c')] w fun e w' => e = .returned (.bool (decide (h < h'))) ∧ Below w.heap.size w w' := by
  go_enter Try.func100, Try.ntmps100
  go_wp2
  go_ret
  exact ⟨rfl, below_alloc2 _ _ _⟩
set_option maxRecDepth 10000 in
set_option maxHeartbeats 800000 in
theorem drier_any (s : List Int) (h : Int) (p : Option Addr) (n c : Nat) (s' : List Int) (h' : Int) (p' : Option Addr) (n' c' : Nat) (w : World) (_hn : n ≤ 5) (_hn' : n' ≤ 5) (h0 : 0 ≤ h) (h1 : h ≤ 80) (h2 : 0 ≤ h') (h3 : h' ≤ 80) :
    Calls Try.prog 105 #[.agg (outA s h p n c), .agg (outA s' h' p' n' c')] w fun e w' => e = .returned (.bool (decide (h - 1000 * (n : Int) < h' - 1000 * (n' : Int)))) ∧ Below w.heap.size w w' := by
  by_cases he : n = n'
  · have he' : ((n : Int) != (n' : Int)) = false := by rw [he]; simp
    have HE := Lib.hid he
    clear he
    go_enter Try.func105, Try.ntmps105
    go_wp2_with (first | ((with_reducible refine (cooler_any _ _ _ _ _ _ _ _ _ _ _).mono ?_); rintro e w1 ⟨rfl, hb1⟩))
    go_ret
    exact ⟨ret_bool (by have := HE.out; rw [decide_eq_decide]; omega), (below_alloc2 w _ _).trans (hb1.mono (by simp; omega))⟩
  · have he' : ((n : Int) != (n' : Int)) = true := by rw [bne_iff_ne]; omega
    go_enter Try.func105, Try.ntmps105
    go_wp2
    go_ret
    exact ⟨ret_bool (by rw [decide_eq_decide]; omega), below_alloc2 _ _ _⟩

/-- The call returned a list of so many numbers; what was there is as it was. -/
def GaveList (s : List Int) (n : Nat) (w : World) (e : Ending) (w' : World) : Prop := ∃ p c, e = .returned (.slice p n c) ∧ IntsAt w' p s ∧ Below w.heap.size w w'
set_option maxRecDepth 10000 in
set_option maxHeartbeats 800000 in
theorem list_any (s : List Int) (np : Nat) (hl : s.length = np) (h4 : np ≤ 4) (w : World) :
    Calls Try.prog 76 #[.agg (setA s), .int .i64 np] w (GaveList s np w) := by
  have hi : IntsAt (w.alloc (.cells (setA s) 79)) (some ⟨w.heap.size, 0, none⟩) s := by
    intro i hi
    refine ⟨_, 0, rfl, (Row.new w (setA s) 79).cell (0 + i) ?_⟩
    obtain rfl | rfl | rfl | rfl : i = 0 ∨ i = 1 ∨ i = 2 ∨ i = 3 := by omega
    all_goals rfl
  have HI := Lib.hid hi
  have i1 : (0 : Int) ≤ (np : Int) := by omega
  have i2 : (np : Int) ≤ 4 := by omega
  clear hi hl
  go_enter Try.func76, Try.ntmps76
  go_wp2
  go_ret
  exact ⟨_, np, rfl, HI.out, below_alloc _ _⟩
end Go.Proofs.Ytfppcmechfjpoaa
