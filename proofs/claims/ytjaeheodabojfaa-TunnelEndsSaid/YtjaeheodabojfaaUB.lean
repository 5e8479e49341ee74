/- The walks of layer 3: the heat of a setting, how dry a frame is. -/
import Derived.Test.YtjaeheodabojfaaUA
namespace Go.Proofs.Ytjaeheodabojfaa
open Go.RowKit Go.Maps
attribute [local go_sem] Oper.semAt_some

theorem intsA_at4 {l : List Int} (hl : l.length = 4) {i : Nat} (hi : i < 4) : (intsA l)[i]? = some (.int .i64 (at0 l i)) := intsA_at (by omega)
theorem zeros4 : (#[.int .i64 0, .int .i64 0, .int .i64 0, .int .i64 0] : Array Value) = intsA [0, 0, 0, 0] := rfl
theorem row_free {w : World} {b : Nat} {cs : Array Value} {t : TypeId} (h : Row w b cs t) (i : Nat) : w.frozen? ⟨b, i, none⟩ = false := h.free i

def heatF (ps : List Pt) (s : List Int) (i : Nat) : Int := match ps[i]? with
  | some p => p.h (at0 s i)
  | none => 0
theorem heatF_at {ps : List Pt} {s : List Int} {i : Nat} (h : i < ps.length) : heatF ps s i = ps[i].h (at0 s i) := by simp [heatF, h]
theorem heatD_sum {ps : List Pt} (s : List Int) (hok : ∀ p ∈ ps, PtOk p) (h4 : ps.length ≤ 4) : total (firstL (heatF ps s) ps.length) = heatD ps s := by
  rw [firstL_total _ h4]
  · rfl
  · intro i hi
    rw [heatF_at hi]
    have := Pt.h_range (hok ps[i] (List.getElem_mem _)) (at0 s i)
    omega

set_option maxRecDepth 10000 in
set_option maxHeartbeats 800000 in
theorem heat_any (pp : Option Addr) (cp : Nat) (pf : Option Addr) (nf cf mb : Nat) (s : List Int) (ps : List Pt) (w : World) (hp : PtsAt w pp ps) (hok : ∀ p ∈ ps, PtOk p) (h4 : ps.length ≤ 4) (hs : SetOk s) :
    Calls Try.prog 58 #[.agg (pasA pp ps.length cp pf nf cf mb s)] w fun e w' => e = .returned (.int .i64 (heatD ps s)) ∧ Below w.heap.size w w' := by
  have HP := Lib.hid hp
  clear hp
  unfold pasA
  go_enter Try.func58, Try.ntmps58
  go_wp2
  go_loopw [10] (fun i wr => ∃ k : Nat, k ≤ ps.length ∧ i = .int .i64 k ∧ Row wr w.heap.size (pasA pp ps.length cp pf nf cf mb s) 81 ∧ Row wr (w.heap.size + 1) (intsA (firstL (heatF ps s) k)) 62 ∧ Below w.heap.size w wr) (fun i _ => ps.length - (intOf i).toNat)
  case atStart => exact ⟨0, by omega, rfl, (Row.new _ _ _).alloc _, by rw [firstL_zero]; exact Row.new1 _ _ _ _, below_alloc2 _ _ _⟩
  case round =>
    obtain ⟨k, hk, rfl, r0, r1, hb⟩ := hrel
    by_cases hlt : k < ps.length
    · obtain ⟨d, hd⟩ : ∃ d : Nat, at0 s k = d := ⟨(at0 s k).toNat, by have := hs.at k; omega⟩
      have hd3 : d ≤ 3 := by have := hs.at k; omega
      obtain ⟨b, o, rfl, hcell⟩ := (HP.out.below hb).heat hlt hd3
      have c0 := r0.cell 0 (v := .slice (some ⟨b, o, none⟩) ps.length cp) rfl
      have c3 := r0.cell (3 + k) (pasA_at _ _ _ _ _ _ _ s (by omega : k < 4))
      rw [hd] at c3
      have c4 := r1.cell k (intsA_at4 (firstL_length _ _) (by omega))
      have f4 := r1.free k
      have HR := Lib.hid r0
      have HQ := Lib.hid r1
      have HB := Lib.hid hb
      have HD := Lib.hid hd
      have hz := r1.lt
      clear r0 r1 hb hd
      go_wp2
      go_region
      all_goals
        go_wp2
        go_roundw
        case rel =>
          refine ⟨k + 1, by omega, by go_num, (HR.out.set_other _ _ (by dsimp only; omega)).drew, ?_, (HB.out.setCell (by dsimp only; omega) _).drew⟩
          have h := (HQ.out.set k (.int .i64 (ps[k].h d))).drew
          rw [intsA_set, show ps[k].h (d : Int) = heatF ps s k by rw [heatF_at hlt, HD.out], firstL_set _ (by omega)] at h
          rw [show ps[k].h (d : Int) = heatF ps s k by rw [heatF_at hlt, HD.out]]
          exact h
        case measure => simp [intOf]; omega
    · have e : k = ps.length := by omega
      subst e
      have HI := Lib.hid (ints_row r1)
      have HS := Lib.hid (heatD_sum s hok h4)
      go_wp2_with (first | (refine (sum_any _ _ _ _ _ (firstL_length _ _) (by decide) HI.out).mono ?_; rintro e w1 ⟨rfl, rfl⟩))
      go_ret
      exact ⟨ret_int HS.out, hb⟩
end Go.Proofs.Ytjaeheodabojfaa
