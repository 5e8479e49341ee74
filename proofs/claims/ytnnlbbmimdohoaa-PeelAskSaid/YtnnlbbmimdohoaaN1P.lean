/-
  PROVED: for every log and every two numbers the law PeelAngles returns true: each angle of each turn has one column of this turn, a greater angle has none before it, and the first and the last one have the turn's first and last column; each argument reads behind the call as before it.
  CONDITIONS: those of the row alone.
-/
import Derived.Test.YtnnlbbmimdohoaaN1
import Derived.Test.YtnnlbbmimdohoaaOP
namespace Go.Proofs.Ytnnlbbmimdohoaa
open Go.ChangeShapes Go.WideShapes Go.ChangeAt Go.RowKit

/-- What is said of the sizes of a log's slices. -/
theorem sized_log {H : Type} {ts : List TypeId} {ds : List (DataW H)} (h : (DataW.weightsEach Try.prog ts ds).all (· ≤ reachBytes) = true) {j : Nat} {dl dm dk : DataW H} (ht : ts[j]? = some 25) (hd : ds[j]? = some (.agg [dl, dm, dk])) :
    (∀ el sp, dl = .slice el sp → el.length < 2 ^ 62) ∧ (∀ el sp, dk = .slice el sp → el.length < 2 ^ 62) := by
  have hw : ∀ n ∈ DataW.weights Try.prog 25 (.agg [dl, dm, dk]), n ≤ reachBytes := fun n hn => by
    have := List.all_eq_true.1 h _ (DataW.weights_mem_each ht hd n hn)
    simpa using this
  constructor
  · rintro el sp rfl
    have := hw ((el.length + sp.length) * Try.prog.bytesOf 3) (by simp [DataW.weights, DataW.weightsEach, Try.underlying25, Try.underlying22])
    rw [Try.bytesInt] at this
    simp only [reachBytes] at this
    omega
  · rintro el sp rfl
    have := hw ((el.length + sp.length) * Try.prog.bytesOf 61) (by simp [DataW.weights, DataW.weightsEach, Try.underlying25, Try.underlying23])
    rw [Try.bytesKnot] at this
    simp only [reachBytes] at this
    omega

set_option maxRecDepth 10000 in
theorem open_two {H : Type} {enc : TypeId × Value → H} {W : World} {base : Nat} {spare : Nat → Bool} {held : Bool} {r : Reach} {b0 : Nat} {v : Value} {d : DataW H} {p : List MemPlace} (hv : Value.okWide Try.prog W r b0 64 v) (h : DataW.Trod enc Try.prog W base spare held 64 v d p) :
    ∃ a b : Int, v = .agg #[.int .i64 a, .int .i64 b] := by
  have hu : Try.prog.underlying 64 = some (.array 2 3) := by kernel_rfl
  simp only [Value.okWide, hu] at hv
  obtain ⟨cs, rfl, _, _⟩ := hv
  obtain ⟨fuel, hf⟩ := h
  obtain ⟨xs, m, _, _, hl, hx, hi⟩ := DataW.trod_array hu hf
  have hc2 : Try.prog.cellsOf 64 = 2 := by kernel_rfl
  rw [hc2] at hl
  have hl' : cs.toList.length = 2 := by simpa [Value.cells] using hl
  have h0 := hi 0 (by omega)
  have h1 := hi 1 (by omega)
  rw [List.getElem?_eq_getElem (by omega)] at h0 h1
  obtain ⟨a, ha, _⟩ := DataW.trod_int Try.underlying3 h0
  obtain ⟨b, hb, _⟩ := DataW.trod_int Try.underlying3 h1
  obtain ⟨l⟩ := cs
  match l, hl' with
  | [c0, c1], _ =>
    simp [Try.cells3, Value.cells] at ha hb
    exact ⟨a, b, by rw [ha, hb]⟩

set_option maxRecDepth 100000 in
theorem PeelAngles_lifted (os : Os) (started : os.Started) (H : Type) (enc : TypeId × Value → H) :
    ReturnsInHanded {} Try.checked os 12 .any (Rows.peelAnglesSpec.pre6 enc Try.prog Try.f12 Rows.peelAnglesRow.domain false) (Rows.peelAnglesSpec.post enc Try.prog Try.f12 false true false false) := by
  refine returnsInHanded_of_change_sized (C := Try.checked) Try.own started (by kernel_rfl) Try.func12
    (ChangeSpec.witness6 (enc := enc) (C := Try.checked) false ⟨#[], #[.agg #[.slice none 0 0, .int .i64 0, .slice none 0 0], .agg #[.int .i64 0, .int .i64 0]], []⟩ 8 (by kernel_rfl) (by kernel_rfl) (by kernel_rfl) (by kernel_rfl)) ?_
  intro W base args ds gs before hval0 hW _ hsz0 _
  have hsz : (DataW.weightsEach Try.prog (Try.f12.params.toList ++ Rows.peelAnglesSpec.plain.varTypes Try.prog) (ds ++ gs)).all (· ≤ reachBytes) = true := hsz0
  clear hsz0
  have hval : ∀ (j : Nat) t v, Try.f12.params[j]? = some t → args[j]? = some v → Value.okWide Try.prog W .any base t v := hval0
  have hW' := hW
  obtain ⟨p, q, hA0, hV, rfl, _, _⟩ := hW
  have hA : DataW.TrodAll enc Try.prog W 0 (fun _ => true) true Try.f12.params.toList args.toList ds p := hA0
  rw [Try.params12] at hA hval hsz
  obtain ⟨v0, v1, d0, d1, p0, p1, rfl, rfl, rfl, h0, h1⟩ := trodAll_two hA
  obtain ⟨rfl, rfl⟩ := trodVars_none hV
  have h0k := h0
  have h1k := h1
  obtain ⟨a, b, rfl⟩ := open_two (hval 1 64 v1 rfl rfl) h1
  obtain ⟨q1, c1, q2, c2, long, sz, ks, dl, dm, dk, rfl, rfl, hi, hk, hc1, hc2, hl1, hl2⟩ := open_log (hval 0 25 v0 rfl rfl) h0
  obtain ⟨s1, s2⟩ := sized_log hsz (j := 0) rfl rfl
  have hlog : LogAt W q1 q2 long ks := ⟨hi, hk, by rcases hl1 with e | ⟨el, sp, e, hlen⟩; omega; have := s1 el sp e; omega, by rcases hl2 with e | ⟨el, sp, e, hlen⟩; omega; have := s2 el sp e; omega⟩
  clear hA0 hval0
  simp only [List.append_nil] at hW'
  have hlt0 : ∀ x ∈ p0, x.block < W.heap.size := fun x hx => hW'.lt x (by simp [hx])
  have hlt1 : ∀ x ∈ p1, x.block < W.heap.size := fun x hx => hW'.lt x (by simp [hx])
  refine (PeelAngles_any q1 c1 q2 c2 long sz ks W hlog hc1 a b).mono fun e W' ⟨he, hb⟩ => ?_
  subst he
  exact ⟨_, rfl, _, _, _, [], p0 ++ p1, [], hW', trodAll_mk1 (shut_bool Try.underlying4 true), trodAll_mk2 (Below.trod Try.laidOut (by kernel_rfl) (of_decide_eq_true (by kernel_rfl)) h0k hb hlt0) (Below.trod Try.laidOut (by kernel_rfl) (of_decide_eq_true (by kernel_rfl)) h1k hb hlt1), rfl, hb.frame _, fun h => by cases h⟩

theorem PeelAngles_holds : Rows.PeelAnglesSaid :=
  OpenClaim.holds_of_wide 12 Try.f12 rfl rfl rfl rfl rfl rfl rfl ⟨rfl, rfl, rfl, rfl, rfl⟩ rfl rfl rfl rfl rfl (by kernel_rfl) Try.func12 (by kernel_rfl)
    (of_decide_eq_true (by kernel_rfl)) (by unfold Func.isWrapper; first | (rw [if_pos (by decide +kernel)]; kernel_rfl) | (rw [if_neg (by decide +kernel)]; exact ⟨rfl, rfl⟩))
    (fun os started H enc _ => PeelAngles_lifted os started H enc)

end Go.Proofs.Ytnnlbbmimdohoaa
