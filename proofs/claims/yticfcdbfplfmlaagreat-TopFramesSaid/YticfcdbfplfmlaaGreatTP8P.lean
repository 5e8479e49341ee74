/-
  PROVED: for every tunnel, book of boxes and two lists of numbers the law TopFrames returns true: all heads of a frame that surely is dry in time go into a box, of another one some of them, and each box that is not to be filled by hand truly is right; by the best setting no head is lost; each argument reads behind the call as before it.
  CONDITIONS: those of the row alone.
-/
import Derived.Test.YticfcdbfplfmlaaGreatTP8
import Derived.Test.YticfcdbfplfmlaaGreatLB
import Derived.Test.YticfcdbfplfmlaaGreatTuOC
namespace Go.Proofs.YticfcdbfplfmlaaGreat
open Go.ChangeShapes Go.WideShapes Go.ChangeAt Go.RowKit

set_option maxRecDepth 100000 in
theorem TopFrames_lifted (os : Os) (started : os.Started) (H : Type) (enc : TypeId × Value → H) :
    ReturnsInHanded {} Tryz.checked os 3 .any (Rows.topFramesSpec.pre6 enc Tryz.prog Tryz.f3 Rows.topFramesRow.domain false) (Rows.topFramesSpec.post enc Tryz.prog Tryz.f3 false true false false) := by
  refine returnsInHanded_of_change_sized (C := Tryz.checked) Tryz.own started (by kernel_rfl) Tryz.func3
    (ChangeSpec.witness6 (enc := enc) (C := Tryz.checked) false ⟨#[], #[.agg #[.slice none 0 0, .slice none 0 0], .agg #[.int .i64 0, .int .i64 0, .int .i64 0, .int .i64 0, .slice none 0 0], .slice none 0 0, .slice none 0 0], []⟩ 8 (by kernel_rfl) (by kernel_rfl) (by kernel_rfl) (by kernel_rfl)) ?_
  intro W base args ds gs before hval0 hW _ hsz0 _
  have hsz : (DataW.weightsEach Tryz.prog (Tryz.f3.params.toList ++ Rows.topFramesSpec.plain.varTypes Tryz.prog) (ds ++ gs)).all (· ≤ reachBytes) = true := hsz0
  clear hsz0
  have hval : ∀ (j : Nat) t v, Tryz.f3.params[j]? = some t → args[j]? = some v → Value.okWide Tryz.prog W .any base t v := hval0
  have hW' := hW
  obtain ⟨p, q, hA0, hV, rfl, _, _⟩ := hW
  have hA : DataW.TrodAll enc Tryz.prog W 0 (fun _ => true) true Tryz.f3.params.toList args.toList ds p := hA0
  rw [Tryz.params3] at hA hval hsz
  obtain ⟨v0, v1, v2, v3, d0, d1, d2, d3, p0, p1, p2, p3, rfl, rfl, rfl, h0, h1, h2, h3⟩ := trodAll_four hA
  obtain ⟨rfl, rfl⟩ := trodVars_none hV
  have h0k := h0
  have h1k := h1
  have h2k := h2
  have h3k := h3
  obtain ⟨r2, k2, bits2, rfl, hbi2, hbn2⟩ := open_list (hval 2 29 v2 rfl rfl) h2
  obtain ⟨r3, k3, bits3, rfl, hbi3, hbn3⟩ := open_list (hval 3 29 v3 rfl rfl) h3
  obtain ⟨q3, c3, bb, e0, e1, e2, e3, el, rfl, rfl, hk3, hc3, hi3, hl3⟩ := open_fill (hval 1 28 v1 rfl rfl) h1
  have hbook : BfAt W q3 c3 bb := fill_at hsz (j := 1) rfl rfl hk3 hc3 hi3 hl3
  obtain ⟨q1, c1, q2, c2, ps, ms, dp, df, rfl, rfl, hi, hk, hl1, hl2⟩ := Tu.open_book (hval 0 25 v0 rfl rfl) h0
  have hlog : Tu.BkAt W q1 q2 ps ms := Tu.book_at hsz (j := 0) rfl rfl hi hk hl1 hl2
  clear hA0 hval0
  simp only [List.append_nil, List.append_assoc] at hW'
  have hlt0 : ∀ x ∈ p0, x.block < W.heap.size := fun x hx => hW'.lt x (by simp [hx])
  have hlt1 : ∀ x ∈ p1, x.block < W.heap.size := fun x hx => hW'.lt x (by simp [hx])
  have hlt2 : ∀ x ∈ p2, x.block < W.heap.size := fun x hx => hW'.lt x (by simp [hx])
  have hlt3 : ∀ x ∈ p3, x.block < W.heap.size := fun x hx => hW'.lt x (by simp [hx])
  refine (TopFrames_any q1 c1 q2 c2 ps ms bb q3 c3 r2 k2 bits2 r3 k3 bits3 W hlog hbook hbi2 hbn2 hbi3 hbn3).mono fun e W' ⟨he, hb⟩ => ?_
  subst he
  exact ⟨_, rfl, _, _, _, [], p0 ++ (p1 ++ (p2 ++ p3)), [], hW', trodAll_mk1 (shut_bool Tryz.underlying4 true), (trodAll_mk4 (Below.trod Tryz.laidOut (by kernel_rfl) (of_decide_eq_true (by kernel_rfl)) h0k hb hlt0) (Below.trod Tryz.laidOut (by kernel_rfl) (of_decide_eq_true (by kernel_rfl)) h1k hb hlt1) (Below.trod Tryz.laidOut (by kernel_rfl) (of_decide_eq_true (by kernel_rfl)) h2k hb hlt2) (Below.trod Tryz.laidOut (by kernel_rfl) (of_decide_eq_true (by kernel_rfl)) h3k hb hlt3)), rfl, hb.frame _, fun h => by cases h⟩

theorem TopFrames_holds : Rows.TopFramesSaid :=
  OpenClaim.holds_of_wide 3 Tryz.f3 rfl rfl rfl rfl rfl rfl rfl ⟨rfl, rfl, rfl, rfl, rfl⟩ rfl rfl rfl rfl rfl (by kernel_rfl) Tryz.func3 (by kernel_rfl)
    (of_decide_eq_true (by kernel_rfl)) (by unfold Func.isWrapper; first | (rw [if_pos (by decide +kernel)]; kernel_rfl) | (rw [if_neg (by decide +kernel)]; exact ⟨rfl, rfl⟩))
    (fun os started H enc _ => TopFrames_lifted os started H enc)

end Go.Proofs.YticfcdbfplfmlaaGreat
