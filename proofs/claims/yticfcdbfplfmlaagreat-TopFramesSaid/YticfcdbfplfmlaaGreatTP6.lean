/- Plain facts for TopFrames: what is so of a frame, by a setting that numbers choose or by the best one. -/
import Derived.Test.YticfcdbfplfmlaaGreatTGX
import Derived.Test.YticfcdbfplfmlaaGreatTEX
namespace Go.Proofs.YticfcdbfplfmlaaGreat.Tu
open Go.RowKit

/-- The setting that numbers choose. -/
def setL4 (bits : List Int) (n : Nat) : List Int := (List.range n).map fun (i : Nat) => spin (item bits ((i : Int) + 4)) 4
theorem setL4_length (bits : List Int) (n : Nat) : (setL4 bits n).length = n := by simp [setL4]
theorem setL4_succ (bits : List Int) (n : Nat) : setL4 bits (n + 1) = setL4 bits n ++ [spin (item bits ((n : Int) + 4)) 4] := by simp [setL4, List.range_succ]
theorem setL4_set (bits : List Int) (n : Nat) : isSetB n (setL4 bits n) = true := by
  unfold isSetB setB
  rw [Bool.and_eq_true, List.all_eq_true]
  refine ⟨by simp [setL4_length], fun x hx => ?_⟩
  obtain ⟨i, _, rfl⟩ := List.mem_map.1 hx
  have := spin_range (item bits ((i : Int) + 4)) 4 (by omega)
  simp only [decide_eq_true_eq]
  omega
/-- All that a round over the frames wants to know. -/
theorem frame_round {ps : List Pt} {ms : List FrM} (hb : bookB ps (frsM ms) = true) (bits : List Int) {s : List Int} (hs : isSetB ps.length s = true) {k : Nat} (hk : k < ms.length) :
    ∃ kd d : Int, kindV ps (frsM ms) s k = kd ∧ frameE ps (frsM ms) s k = 0 ∧ frameE (knowP (trueD ps bits) ps.length ps) (frsM ms) s k = 0 ∧ loV (knowP (trueD ps bits) ps.length ps) (frsM ms) s k = d ∧ hiV (knowP (trueD ps bits) ps.length ps) (frsM ms) s k = d ∧ (kd = 0 → ms[k].f.lo ≤ d ∧ d ≤ ms[k].f.hi) := by
  have hok := bookB_iff.1 hb
  have hfl := frsM_length ms
  have hkl : (knowP (trueD ps bits) ps.length ps).length = ps.length := knowP_length _ _ _
  have hfo := hok.f _ (show ms[k].f ∈ frsM ms by unfold frsM; exact List.mem_map.2 ⟨_, List.getElem_mem hk, rfl⟩)
  have hb2 : bookB (knowP (trueD ps bits) ps.length ps) (frsM ms) = true := bookB_iff.2 ⟨by rw [hkl]; exact hok.p1, by rw [hkl]; exact hok.p4, hok.f5, knowP_ok hok.p fun i hi => trueD_range hok.p bits hi, fun f hf => by rw [hkl]; exact hok.f f hf⟩
  have hs2 : isSetB (knowP (trueD ps bits) ps.length ps).length s = true := by rw [hkl]; exact hs
  have h2 := true_dry hok.p bits s hfo.s
  have e1 := frameE_yes hb hs (f := (k : Int)) (by omega) (by omega)
  have e2 := frameE_yes hb2 hs2 (f := (k : Int)) (by omega) (by omega)
  have hsame : dryD Pt.hi (knowP (trueD ps bits) ps.length ps) s ms[k].f.stay = dryD Pt.lo (knowP (trueD ps bits) ps.length ps) s ms[k].f.stay := by
    have key : ∀ i (h : i < (knowP (trueD ps bits) ps.length ps).length), Pt.hi (knowP (trueD ps bits) ps.length ps)[i] = Pt.lo (knowP (trueD ps bits) ps.length ps)[i] := fun i h => by
      rw [knowP_at h, if_pos (by rw [hkl] at h; exact h)]
    unfold dryD
    refine Int.le_antisymm (dryTo_le _ (Nat.le_refl _) (Nat.le_refl _) fun i h _ _ => ?_) (dryTo_le _ (Nat.le_refl _) (Nat.le_refl _) fun i h _ _ => ?_)
    · rw [key i h]; exact Int.le_refl _
    · rw [key i h]; exact Int.le_refl _
  refine ⟨_, dryD Pt.lo (knowP (trueD ps bits) ps.length ps) s ms[k].f.stay, rfl, e1, e2, by rw [loV, if_pos e2, stayF_at hk, hsame], by rw [hiV, if_pos e2, stayF_at hk], fun hk0 => ?_⟩
  rw [kindV, if_pos e1, stayF_at hk] at hk0
  exact kind_in h2.1 h2.2 hk0
/-- By the best setting each frame surely is dry in time. -/
theorem best_round {ps : List Pt} {ms : List FrM} (hb : bookB ps (frsM ms) = true) (he : bestE ps (frsM ms) = 0) :
    isSetB ps.length (bestL ps (frsM ms)) = true ∧ ∀ k, k < ms.length → kindV ps (frsM ms) (bestL ps (frsM ms)) (k : Int) = 0 := by
  unfold bestE at he
  rw [if_pos hb] at he
  cases hc : coolD ps (frsM ms) (List.range (frsM ms).length) with
  | none => rw [hc] at he; simp at he
  | some x =>
    have hx : bestL ps (frsM ms) = x := by unfold bestL; rw [if_pos hb, hc]; rfl
    rw [hx]
    have hm := List.mem_filter.1 (best_mem hc)
    have hs := set_of_mem hm.1
    refine ⟨hs, fun k hk => ?_⟩
    have hfl := frsM_length ms
    have e1 := frameE_yes hb hs (f := (k : Int)) (by omega) (by omega)
    rw [kindV, if_pos e1, stayF_at hk]
    exact all_dry.1 hm.2 _ (by unfold frsM; exact List.mem_map.2 ⟨_, List.getElem_mem hk, rfl⟩)
theorem best_short {ps : List Pt} {ms : List FrM} (hb : bookB ps (frsM ms) = true) : (bestL ps (frsM ms)).length ≤ 4 := by
  have hok := bookB_iff.1 hb
  have h4 := hok.p4
  unfold bestL
  rw [if_pos hb]
  cases hc : coolD ps (frsM ms) (List.range (frsM ms).length) with
  | none => simp
  | some x =>
    have hs := set_of_mem (List.mem_filter.1 (best_mem hc)).1
    unfold isSetB at hs
    rw [Bool.and_eq_true, decide_eq_true_eq] at hs
    simp only [Option.getD_some]
    omega
end Go.Proofs.YticfcdbfplfmlaaGreat.Tu
