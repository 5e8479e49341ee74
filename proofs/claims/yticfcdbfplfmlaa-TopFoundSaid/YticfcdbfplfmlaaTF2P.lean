/-
  PROVED: for every log, book of boxes, list of steps and three numbers the law TopFound returns true: the whole pieces of cuttings are handfuls of boxes, and once a knot is found no other pieces can be whole, and no more boxes must be filled by hand; each argument reads behind the call as before it.
  CONDITIONS: those of the row alone.
-/
import Derived.Test.YticfcdbfplfmlaaTF2
import Derived.Test.YticfcdbfplfmlaaTO1
namespace Go.Proofs.Yticfcdbfplfmlaa
open Go.ChangeShapes Go.WideShapes Go.ChangeAt Go.RowKit

set_option maxRecDepth 100000 in
theorem TopFound_lifted (os : Os) (started : os.Started) (H : Type) (enc : TypeId × Value → H) :
    ReturnsInHanded {} Try.checked os 6 .any (Rows.topFoundSpec.pre6 enc Try.prog Try.f6 Rows.topFoundRow.domain false) (Rows.topFoundSpec.post enc Try.prog Try.f6 false true false false) := by
  refine returnsInHanded_of_change_sized (C := Try.checked) Try.own started (by kernel_rfl) Try.func6
    (ChangeSpec.witness6 (enc := enc) (C := Try.checked) false ⟨#[], #[.agg #[.slice none 0 0, .int .i64 0, .slice none 0 0], .agg #[.int .i64 0, .int .i64 0, .int .i64 0, .int .i64 0, .slice none 0 0], .slice none 0 0, .agg #[.int .i64 0, .int .i64 0, .int .i64 0]], []⟩ 8 (by kernel_rfl) (by kernel_rfl) (by kernel_rfl) (by kernel_rfl)) ?_
  intro W base args ds gs before hval0 hW _ hsz0 _
  have hsz : (DataW.weightsEach Try.prog (Try.f6.params.toList ++ Rows.topFoundSpec.plain.varTypes Try.prog) (ds ++ gs)).all (· ≤ reachBytes) = true := hsz0
  clear hsz0
  have hval : ∀ (j : Nat) t v, Try.f6.params[j]? = some t → args[j]? = some v → Value.okWide Try.prog W .any base t v := hval0
  have hW' := hW
  obtain ⟨p, q, hA0, hV, rfl, _, _⟩ := hW
  have hA : DataW.TrodAll enc Try.prog W 0 (fun _ => true) true Try.f6.params.toList args.toList ds p := hA0
  rw [Try.params6] at hA hval hsz
  obtain ⟨v0, v1, v2, v3, d0, d1, d2, d3, p0, p1, p2, p3, rfl, rfl, rfl, h0, h1, h2, h3⟩ := trodAll_four hA
  obtain ⟨rfl, rfl⟩ := trodVars_none hV
  have h0k := h0
  have h1k := h1
  have h2k := h2
  have h3k := h3
  obtain ⟨r2, k2, bits2, rfl, hbi2, hbn2⟩ := open_list (hval 2 22 v2 rfl rfl) h2
  obtain ⟨hroom, hspot⟩ := open_room (hval 2 22 _ rfl rfl)
  obtain ⟨x3_0, x3_1, x3_2, rfl⟩ := open_arr3 (hval 3 88 v3 rfl rfl) h3
  obtain ⟨q3, c3, bb, e0, e1, e2, e3, el, rfl, rfl, hk3, hc3, hi3, hl3⟩ := open_fill (hval 1 76 v1 rfl rfl) h1
  have hbook : BfAt W q3 c3 bb := fill_at hsz (j := 1) rfl rfl hk3 hc3 hi3 hl3
  obtain ⟨q1, c1, q2, c2, long, sz, ks, dl, dm, dk, rfl, rfl, hi, hk, hc1, hc2, hl1, hl2⟩ := Pe.open_log (hval 0 25 v0 rfl rfl) h0
  obtain ⟨s1, s2⟩ := Pe.sized_log hsz (j := 0) rfl rfl
  have hlog : Pe.LogAt W q1 q2 long ks := ⟨hi, hk, by rcases hl1 with e | ⟨el, sp, e, hlen⟩; omega; have := s1 el sp e; omega, by rcases hl2 with e | ⟨el, sp, e, hlen⟩; omega; have := s2 el sp e; omega⟩
  clear hA0 hval0
  simp only [List.append_nil, List.append_assoc] at hW'
  have hlt0 : ∀ x ∈ p0, x.block < W.heap.size := fun x hx => hW'.lt x (by simp [hx])
  have hlt1 : ∀ x ∈ p1, x.block < W.heap.size := fun x hx => hW'.lt x (by simp [hx])
  have hlt2 : ∀ x ∈ p2, x.block < W.heap.size := fun x hx => hW'.lt x (by simp [hx])
  have hlt3 : ∀ x ∈ p3, x.block < W.heap.size := fun x hx => hW'.lt x (by simp [hx])
  refine (TopFound_any q1 c1 q2 c2 long sz ks bb q3 c3 r2 k2 bits2 x3_0 x3_1 x3_2 W hlog hbook hbi2 hbn2 hroom hspot).mono fun e W' ⟨he, hb⟩ => ?_
  subst he
  exact ⟨_, rfl, _, _, _, [], p0 ++ (p1 ++ (p2 ++ p3)), [], hW', trodAll_mk1 (shut_bool Try.underlying4 true), (trodAll_mk4 (Below.trod Try.laidOut (by kernel_rfl) (of_decide_eq_true (by kernel_rfl)) h0k hb hlt0) (Below.trod Try.laidOut (by kernel_rfl) (of_decide_eq_true (by kernel_rfl)) h1k hb hlt1) (Below.trod Try.laidOut (by kernel_rfl) (of_decide_eq_true (by kernel_rfl)) h2k hb hlt2) (Below.trod Try.laidOut (by kernel_rfl) (of_decide_eq_true (by kernel_rfl)) h3k hb hlt3)), rfl, hb.frame _, fun h => by cases h⟩

theorem TopFound_holds : Rows.TopFoundSaid :=
  OpenClaim.holds_of_wide 6 Try.f6 rfl rfl rfl rfl rfl rfl rfl ⟨rfl, rfl, rfl, rfl, rfl⟩ rfl rfl rfl rfl rfl (by kernel_rfl) Try.func6 (by kernel_rfl)
    (of_decide_eq_true (by kernel_rfl)) (by unfold Func.isWrapper; first | (rw [if_pos (by decide +kernel)]; kernel_rfl) | (rw [if_neg (by decide +kernel)]; exact ⟨rfl, rfl⟩))
    (fun os started H enc _ => TopFound_lifted os started H enc)

end Go.Proofs.Yticfcdbfplfmlaa
