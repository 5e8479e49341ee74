/-
  PROVED: for every log the law PeelBests returns true: Best, Waste, Hope and Ask return what the specification returns; the argument reads behind the call as before it.
  CONDITIONS: those of the row alone.
-/
import Derived.Test.YtnnlbbmimdohoaaN11
import Derived.Test.YtnnlbbmimdohoaaOP1
namespace Go.Proofs.Ytnnlbbmimdohoaa
open Go.ChangeShapes Go.WideShapes Go.ChangeAt Go.RowKit

set_option maxRecDepth 100000 in
theorem PeelBests_lifted (os : Os) (started : os.Started) (H : Type) (enc : TypeId × Value → H) :
    ReturnsInHanded {} Try.checked os 5 .any (Rows.peelBestsSpec.pre6 enc Try.prog Try.f5 Rows.peelBestsRow.domain false) (Rows.peelBestsSpec.post enc Try.prog Try.f5 false true false false) := by
  refine returnsInHanded_of_change_sized (C := Try.checked) Try.own started (by kernel_rfl) Try.func5
    (ChangeSpec.witness6 (enc := enc) (C := Try.checked) false ⟨#[], #[.agg #[.slice none 0 0, .int .i64 0, .slice none 0 0]], []⟩ 8 (by kernel_rfl) (by kernel_rfl) (by kernel_rfl) (by kernel_rfl)) ?_
  intro W base args ds gs before hval0 hW _ hsz0 _
  have hsz : (DataW.weightsEach Try.prog (Try.f5.params.toList ++ Rows.peelBestsSpec.plain.varTypes Try.prog) (ds ++ gs)).all (· ≤ reachBytes) = true := hsz0
  clear hsz0
  have hval : ∀ (j : Nat) t v, Try.f5.params[j]? = some t → args[j]? = some v → Value.okWide Try.prog W .any base t v := hval0
  have hW' := hW
  obtain ⟨p, q, hA0, hV, rfl, _, _⟩ := hW
  have hA : DataW.TrodAll enc Try.prog W 0 (fun _ => true) true Try.f5.params.toList args.toList ds p := hA0
  rw [Try.params5] at hA hval hsz
  obtain ⟨v0, d0, rfl, rfl, h0⟩ := trodAll_one hA
  obtain ⟨rfl, rfl⟩ := trodVars_none hV
  have h0k := h0
  obtain ⟨q1, c1, q2, c2, long, sz, ks, dl, dm, dk, rfl, rfl, hi, hk, hc1, hc2, hl1, hl2⟩ := open_log (hval 0 25 v0 rfl rfl) h0
  obtain ⟨s1, s2⟩ := sized_log hsz (j := 0) rfl rfl
  have hlog : LogAt W q1 q2 long ks := ⟨hi, hk, by rcases hl1 with e | ⟨el, sp, e, hlen⟩; omega; have := s1 el sp e; omega, by rcases hl2 with e | ⟨el, sp, e, hlen⟩; omega; have := s2 el sp e; omega⟩
  clear hA0 hval0
  simp only [List.append_nil] at hW'
  have hlt0 : ∀ x ∈ p, x.block < W.heap.size := fun x hx => hW'.lt x (by simp [hx])
  refine (PeelBests_any q1 c1 q2 c2 long sz ks W hlog hc1 hc2).mono fun e W' ⟨he, hb⟩ => ?_
  subst he
  exact ⟨_, rfl, _, _, _, [], p, [], hW', trodAll_mk1 (shut_bool Try.underlying4 true), (trodAll_mk1 (Below.trod Try.laidOut (by kernel_rfl) (of_decide_eq_true (by kernel_rfl)) h0k hb hlt0)), rfl, hb.frame _, fun h => by cases h⟩

theorem PeelBests_holds : Rows.PeelBestsSaid :=
  OpenClaim.holds_of_wide 5 Try.f5 rfl rfl rfl rfl rfl rfl rfl ⟨rfl, rfl, rfl, rfl, rfl⟩ rfl rfl rfl rfl rfl (by kernel_rfl) Try.func5 (by kernel_rfl)
    (of_decide_eq_true (by kernel_rfl)) (by unfold Func.isWrapper; first | (rw [if_pos (by decide +kernel)]; kernel_rfl) | (rw [if_neg (by decide +kernel)]; exact ⟨rfl, rfl⟩))
    (fun os started H enc _ => PeelBests_lifted os started H enc)

end Go.Proofs.Ytnnlbbmimdohoaa
