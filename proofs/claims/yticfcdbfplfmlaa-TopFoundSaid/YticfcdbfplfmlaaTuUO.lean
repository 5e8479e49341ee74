/- The walks of layer 3: settings that come in; what a setting does. -/
import Derived.Test.YticfcdbfplfmlaaTuUN
namespace Go.Proofs.Yticfcdbfplfmlaa.Tu
open Go.RowKit Go.Maps
attribute [local go_sem] Oper.semAt_some

def setB (l : List Int) : Bool := l.all fun s => decide (0 ≤ s ∧ s ≤ 3)
def isSetB (np : Nat) (l : List Int) : Bool := decide (l.length = np) && setB l
def readS (np : Nat) (l : List Int) : List Int := if isSetB np l then l else []
theorem setB_at {l : List Int} (h : setB l = true) {i : Nat} (hi : i < l.length) : 0 ≤ at0 l i ∧ at0 l i ≤ 3 := by
  have := List.all_eq_true.1 h _ (at0_mem hi)
  simpa using this
theorem setB_take {l : List Int} {k : Nat} (hk : k < l.length) (h : setB (l.take k) = true) (h0 : 0 ≤ at0 l k) (h1 : at0 l k ≤ 3) : setB (l.take (k + 1)) = true := by
  rw [take_snoc hk, setB, List.all_append]
  simp only [setB] at h
  rw [h]
  simp [h0, h1]
theorem isSet_ok {np : Nat} {l : List Int} (h : isSetB np l = true) (h4 : np ≤ 4) : l.length = np ∧ SetOk l ∧ l ∈ setsL np := by
  simp only [isSetB, Bool.and_eq_true, decide_eq_true_eq, setB, List.all_eq_true] at h
  exact ⟨h.1, ⟨by omega, h.2⟩, mem_setsL.2 h⟩
theorem setA_first {l : List Int} (_h : l.length ≤ 4) : intsA (firstL (at0 l) l.length) = setA l := by
  have key : ∀ j, (if j < l.length then at0 l j else 0) = at0 l j := by
    intro j
    by_cases hj : j < l.length
    · rw [if_pos hj]
    · rw [if_neg hj]; simp [at0, List.getD, List.getElem?_eq_none (by omega : l.length ≤ j)]
  simp [firstL, intsA, key, List.range_succ]
theorem isSet_no {np : Nat} {l : List Int} {i : Nat} (hi : i < l.length) (h : ¬ (0 ≤ at0 l i ∧ at0 l i ≤ 3)) : isSetB np l = false := by
  cases hv : isSetB np l
  · rfl
  · exfalso
    simp only [isSetB, Bool.and_eq_true] at hv
    exact h (setB_at hv.2 hi)

set_option maxRecDepth 10000 in
set_option maxHeartbeats 1600000 in
theorem read_any (q : Option Addr) (c : Nat) (l : List Int) (np : Nat) (w : World) (hl : IntsAt w q l) (h4 : np ≤ 4) (hn : l.length < 2 ^ 62) :
    Calls Try.prog 119 #[.slice q l.length c, .int .i64 np] w fun e w' => e = .returned (.tuple #[.agg (setA (readS np l)), .bool (isSetB np l)]) ∧ Below w.heap.size w w' := by
  have hE := below_alloc2 w (.cells #[.int .i64 0, .int .i64 0, .int .i64 0, .int .i64 0] 128) (.cells #[.int .i64 0, .int .i64 0, .int .i64 0, .int .i64 0] 128)
  have HL := Lib.hid (hl.below hE)
  have HI0 := Lib.hid hl
  have r0 := (Row.new w #[.int .i64 0, .int .i64 0, .int .i64 0, .int .i64 0] 128).alloc (.cells #[.int .i64 0, .int .i64 0, .int .i64 0, .int .i64 0] 128)
  have r1 := Row.new1 w (.cells #[.int .i64 0, .int .i64 0, .int .i64 0, .int .i64 0] 128) #[.int .i64 0, .int .i64 0, .int .i64 0, .int .i64 0] 128
  have HR0 := Lib.hid r0
  have HR1 := Lib.hid r1
  have HE := Lib.hid hE
  clear hl hE
  by_cases he : l.length = np
  · have he' : ((l.length : Int) != (np : Int)) = false := by rw [he]; simp
    have HEQ := Lib.hid he
    clear he r0 r1
    go_enter Try.func119, Try.ntmps119
    go_wp2
    clear he'
    go_loopw [16] (fun i wr => ∃ k : Nat, k ≤ l.length ∧ i = .int .i64 k ∧ Hid (setB (l.take k) = true) ∧ Row wr w.heap.size #[.int .i64 0, .int .i64 0, .int .i64 0, .int .i64 0] 128 ∧ Row wr (w.heap.size + 1) (intsA (firstL (at0 l) k)) 128 ∧ Below w.heap.size w wr) (fun i _ => l.length - (intOf i).toNat)
    case atStart => exact ⟨0, by omega, rfl, Lib.hid rfl, HR0.out, by rw [firstL_zero]; exact HR1.out, HE.out⟩
    case round =>
      clear HR0 HR1 HL HE
      obtain ⟨k, hk, rfl, HOK, r0, r1, hb⟩ := hrel
      have HR0 := Lib.hid r0
      have HR1 := Lib.hid r1
      have HB := Lib.hid hb
      by_cases hlt : k < l.length
      · obtain ⟨b, o, rfl, hc⟩ := (HI0.out.below hb) k hlt
        have c0 := r0.cell 0 (v := .int .i64 0) rfl
        have c1 := r0.cell 1 (v := .int .i64 0) rfl
        have c2 := r0.cell 2 (v := .int .i64 0) rfl
        have c3 := r0.cell 3 (v := .int .i64 0) rfl
        have f0 := r0.free 0
        have f1 := r0.free 1
        have f2 := r0.free 2
        have f3 := r0.free 3
        have d0 := r1.cell k (intsA_at4 (firstL_length _ _) (by have := HEQ.out; omega))
        have d1 := r1.free k
        have i1 : (0 : Int) ≤ (k : Int) := by omega
        have i2 : (k : Int) < 4 := by have := HEQ.out; omega
        have hz := r1.lt
        clear r0 r1 hb
        by_cases hg : 0 ≤ at0 l k ∧ at0 l k ≤ 3
        · obtain ⟨hg0, hg1⟩ := hg
          go_wp2_with fail
          go_roundw
          case rel =>
            refine ⟨k + 1, by omega, by go_num, Lib.hid (setB_take hlt HOK.out hg0 hg1), HR0.out.set_other _ _ (by dsimp only; omega), ?_, HB.out.setCell (by dsimp only; omega) _⟩
            have h := HR1.out.set k (.int .i64 (at0 l k))
            rw [intsA_set, firstL_set _ (by have := HEQ.out; omega)] at h
            exact h
          case measure => simp [intOf]; omega
        · have HNO := Lib.hid (isSet_no (np := np) hlt hg)
          have hg2 : at0 l k < 0 ∨ 3 < at0 l k := by omega
          clear hg
          rcases hg2 with hg2 | hg2
          all_goals
            go_wp2_with fail
            clear c0 c1 c2 c3 f0 f1 f2 f3 d0 d1
            have q := (((HR0.out.set 0 (.int .i64 0)).set 1 (.int .i64 0)).set 2 (.int .i64 0)).set 3 (.int .i64 0)
            have e0 := q.cell 0 (v := .int .i64 0) rfl
            have e1 := q.cell 1 (v := .int .i64 0) rfl
            have e2 := q.cell 2 (v := .int .i64 0) rfl
            have e3 := q.cell 3 (v := .int .i64 0) rfl
            exact bodyPost_ret (v := .tuple #[.agg #[.int .i64 0, .int .i64 0, .int .i64 0, .int .i64 0], .bool false]) (by simp [results, Try.results119, go_sem, e0, e1, e2, e3]) rfl
              ⟨by rw [readS, HNO.out]; rfl, (((HB.out.setCell (by dsimp only; omega) _).setCell (by dsimp only; omega) _).setCell (by dsimp only; omega) _).setCell (by dsimp only; omega) _⟩
      · obtain rfl : k = l.length := by omega
        have HY := Lib.hid (show isSetB np l = true by simp only [isSetB, Bool.and_eq_true, decide_eq_true_eq]; exact ⟨HEQ.out, by have := HOK.out; rwa [List.take_of_length_le (Nat.le_refl _)] at this⟩)
        rw [setA_first (by have := HEQ.out; omega)] at r1
        have c0 := r0.cell 0 (v := .int .i64 0) rfl
        have c1 := r0.cell 1 (v := .int .i64 0) rfl
        have c2 := r0.cell 2 (v := .int .i64 0) rfl
        have c3 := r0.cell 3 (v := .int .i64 0) rfl
        have f0 := r0.free 0
        have f1 := r0.free 1
        have f2 := r0.free 2
        have f3 := r0.free 3
        have d0 := r1.cell 0 (v := .int .i64 (at0 l 0)) rfl
        have d1 := r1.cell 1 (v := .int .i64 (at0 l 1)) rfl
        have d2 := r1.cell 2 (v := .int .i64 (at0 l 2)) rfl
        have d3 := r1.cell 3 (v := .int .i64 (at0 l 3)) rfl
        have hz := r1.lt
        clear r0 r1 hb HR1
        go_wp2_with fail
        clear c0 c1 c2 c3 f0 f1 f2 f3 d0 d1 d2 d3
        have q := (((HR0.out.set 0 (.int .i64 (at0 l 0))).set 1 (.int .i64 (at0 l 1))).set 2 (.int .i64 (at0 l 2))).set 3 (.int .i64 (at0 l 3))
        have e0 := q.cell 0 (v := .int .i64 (at0 l 0)) rfl
        have e1 := q.cell 1 (v := .int .i64 (at0 l 1)) rfl
        have e2 := q.cell 2 (v := .int .i64 (at0 l 2)) rfl
        have e3 := q.cell 3 (v := .int .i64 (at0 l 3)) rfl
        exact bodyPost_ret (v := .tuple #[.agg (setA l), .bool true]) (by simp [results, Try.results119, go_sem, e0, e1, e2, e3]) rfl
          ⟨by rw [readS, HY.out]; rfl, (((HB.out.setCell (by dsimp only; omega) _).setCell (by dsimp only; omega) _).setCell (by dsimp only; omega) _).setCell (by dsimp only; omega) _⟩
  · have he' : ((l.length : Int) != (np : Int)) = true := by rw [bne_iff_ne]; omega
    have HNO := Lib.hid (show isSetB np l = false by simp [isSetB, he])
    have c0 := r0.cell 0 (v := .int .i64 0) rfl
    have c1 := r0.cell 1 (v := .int .i64 0) rfl
    have c2 := r0.cell 2 (v := .int .i64 0) rfl
    have c3 := r0.cell 3 (v := .int .i64 0) rfl
    have f0 := r0.free 0
    have f1 := r0.free 1
    have f2 := r0.free 2
    have f3 := r0.free 3
    clear r0 r1
    go_enter Try.func119, Try.ntmps119
    go_wp2_with fail
    clear f0 f1 f2 f3
    exact bodyPost_ret (v := .tuple #[.agg #[.int .i64 0, .int .i64 0, .int .i64 0, .int .i64 0], .bool false]) (by simp [results, Try.results119, go_sem, c0, c1, c2, c3]) rfl
      ⟨by rw [readS, HNO.out]; rfl, HE.out⟩
end Go.Proofs.Yticfcdbfplfmlaa.Tu
