/- A log that comes in as an argument: what its reading tells of its cells. -/
import Derived.Test.YtnnlbbmimdohoaaL1
import Derived.ProofKit
import Derived.SizedLaws
import Derived.Lib.SmallJoins
import Derived.Deep.Slices
import Derived.Test.YtnnlbbmimdohoaaN1
namespace Go.Proofs.Ytnnlbbmimdohoaa
open Go.ChangeShapes Go.WideShapes Go.ChangeAt Go.RowKit Go.Joins Go.Deep

theorem Try.own : ownKnob Try.prog.godebug = none := by kernel_rfl
theorem Try.laidOut : laidOutB Try.prog = true := by kernel_rfl
theorem Try.cells3 : Try.prog.cellsOf 3 = 1 := by kernel_rfl
theorem Try.cells39 : Try.prog.cellsOf 39 = 2 := by kernel_rfl
theorem Try.cells61 : Try.prog.cellsOf 61 = 4 := by kernel_rfl
theorem Try.bytesInt : Try.prog.bytesOf 3 = 8 := by kernel_rfl
theorem Try.bytesKnot : Try.prog.bytesOf 61 = 32 := by kernel_rfl

section
variable {H : Type} {enc : TypeId × Value → H} {W : World} {base : Nat} {spare : Nat → Bool} {held : Bool}
set_option maxRecDepth 10000 in
theorem open_knot {n : Nat} {cs : List Value} {x : DataW H × List MemPlace} (h : DataW.trod enc Try.prog W base spare held n 61 cs = some x) : ∃ k : K4, cs = [.int .i64 k.al, .int .i64 k.ah, .int .i64 k.fl, .int .i64 k.fh] := by
  obtain ⟨y0, y1, n1, _, hl, h0, h1⟩ := trod_struct2 Try.underlying61 h
  obtain ⟨z0, z1, n2, _, _, g0, g1⟩ := trod_struct2 Try.underlying39 h0
  obtain ⟨z2, z3, n3, _, _, g2, g3⟩ := trod_struct2 Try.underlying39 h1
  obtain ⟨a, ha, _⟩ := DataW.trod_int Try.underlying3 g0
  obtain ⟨b, hb, _⟩ := DataW.trod_int Try.underlying3 g1
  obtain ⟨c, hc, _⟩ := DataW.trod_int Try.underlying3 g2
  obtain ⟨d, hd, _⟩ := DataW.trod_int Try.underlying3 g3
  rw [Try.cells61] at hl
  match cs, hl with
  | [c0, c1, c2, c3], _ =>
    simp [Try.cells3, Try.cells39] at ha hb hc hd
    exact ⟨⟨a, b, c, d⟩, by rw [ha, hb, hc, hd]⟩


set_option maxRecDepth 10000 in
theorem open_log {r : Reach} {b0 : Nat} {v : Value} {d : DataW H} {p : List MemPlace} (hv : Value.okWide Try.prog W r b0 25 v) (h : DataW.Trod enc Try.prog W base spare held 25 v d p) :
    ∃ (p1 : Option Addr) (c1 : Nat) (p2 : Option Addr) (c2 : Nat) (long : List Int) (sz : Int) (ks : List K4) (dl dm dk : DataW H), v = .agg #[.slice p1 long.length c1, .int .i64 sz, .slice p2 ks.length c2] ∧ d = .agg [dl, dm, dk] ∧ IntsAt W p1 long ∧ KnotsAt W p2 ks ∧ long.length ≤ c1 ∧ ks.length ≤ c2 ∧
      (long.length = 0 ∨ ∃ el sp, dl = .slice el sp ∧ el.length = long.length) ∧ (ks.length = 0 ∨ ∃ el sp, dk = .slice el sp ∧ el.length = ks.length) := by
  obtain ⟨v0, v1, v2, y0, y1, y2, n, rfl, rfl, _, h0, h1, h2⟩ := open_agg3 Try.underlying25 (by kernel_rfl) (by kernel_rfl) hv h
  obtain ⟨s, hs, _⟩ := DataW.trod_int Try.underlying3 h1
  obtain rfl : v1 = .int .i64 s := by simpa using hs
  obtain ⟨p1, c1, long, e1, hi, hc1, hd1⟩ : ∃ (p1 : Option Addr) (c1 : Nat) (long : List Int), v0 = .slice p1 long.length c1 ∧ IntsAt W p1 long ∧ long.length ≤ c1 ∧ (long.length = 0 ∨ ∃ el sp, y0.1 = .slice el sp ∧ el.length = long.length) := by
    rcases open_ints Try.underlying22 Try.underlying3 Try.cells3 h0 with ⟨e, _⟩ | ⟨a, len, cap, zs, e, _, hl, _, hz, hx, hcell, _⟩
    · exact ⟨none, 0, [], by simpa using e, fun i hi => by simp at hi, by simp, .inl rfl⟩
    · have hzl : len ≤ zs.length := by rw [hz]; split <;> omega
      have hlen : (zs.take len).length = len := by rw [List.length_take]; omega
      refine ⟨some a, cap, zs.take len, by rw [hlen]; simpa using e, fun i hi => ?_, by rw [hlen]; exact hl, .inr ⟨_, _, by rw [hx], by simp [lits]⟩⟩
      rw [hlen] at hi
      obtain ⟨b, off, spot⟩ := a
      have hspot : spot = none := by simpa [Addr.add] using World.cell?_spot (hcell 0 (by omega))
      subst hspot
      refine ⟨b, off, rfl, ?_⟩
      have := hcell i (by omega)
      rw [Addr.add_lit] at this
      rw [this, at0_lt (by omega), List.getElem_take]
      simp [show i < zs.length by omega]
  obtain ⟨p2, c2, ks, e2, hk, hc2, hd2⟩ : ∃ (p2 : Option Addr) (c2 : Nat) (ks : List K4), v2 = .slice p2 ks.length c2 ∧ KnotsAt W p2 ks ∧ ks.length ≤ c2 ∧ (ks.length = 0 ∨ ∃ el sp, y2.1 = .slice el sp ∧ el.length = ks.length) := by
    rcases open_slice Try.underlying23 h2 with ⟨e, _⟩ | ⟨a, len, cap, m, n', D, Pl, e, _, hl, _, hm, hx, hel⟩
    · exact ⟨none, 0, [], by simpa using e, fun i hi => by simp at hi, by simp, .inl rfl⟩
    · have hml : len ≤ m := by rw [hm]; split <;> omega
      have hkn : ∀ i, i < len → ∃ k : K4, W.cells? base (a.add (i * 4)) 4 = some [.int .i64 k.al, .int .i64 k.ah, .int .i64 k.fl, .int .i64 k.fh] := by
        intro i hi
        obtain ⟨cs, hcs, ht⟩ := hel i (by omega)
        obtain ⟨k, rfl⟩ := open_knot ht
        rw [Try.cells61] at hcs
        exact ⟨k, hcs⟩
      refine ⟨some a, cap, (List.range len).map fun i => if hi : i < len then (hkn i hi).choose else ⟨0, 0, 0, 0⟩, by simpa using e, fun i hi => ?_, by simpa using hl, .inr ⟨_, _, by rw [hx], by simp⟩⟩
      have hi' : i < len := by simpa using hi
      have hs := (hkn i hi').choose_spec
      obtain ⟨k0, hk0⟩ := hkn 0 (by omega)
      simp only [List.getElem_map, List.getElem_range, hi', dif_pos]
      generalize (hkn i hi').choose = k at *
      obtain ⟨b, off, spot⟩ := a
      have hspot : spot = none := by
        have := (World.cells?_some hk0).2.2 0 (by omega)
        simpa [Addr.add] using World.cell?_spot this
      subst hspot
      have hc := (World.cells?_some hs).2.2
      have e0 := hc 0 (by omega)
      have e1 := hc 1 (by omega)
      have e2 := hc 2 (by omega)
      have e3 := hc 3 (by omega)
      rw [Addr.add_lit, Addr.add_lit] at e0 e1 e2 e3
      exact ⟨b, off, rfl, e0, e1, e2, e3⟩
  exact ⟨p1, c1, p2, c2, long, s, ks, _, _, _, by rw [e1, e2], rfl, hi, hk, hc1, hc2, hd1, hd2⟩
end
end Go.Proofs.Ytnnlbbmimdohoaa
/-
  PROVED: for every log and every two numbers the law PeelAngles returns true: each angle of each turn has one column of this turn, a greater angle has none before it, and the first and the last one have the turn's first and last column; each argument reads behind the call as before it.
  CONDITIONS: those of the row alone.
-/
namespace Go.Proofs.Ytnnlbbmimdohoaa
open Go.ChangeShapes Go.WideShapes Go.ChangeAt Go.RowKit

/-- What is said of the sizes of a log's slices. -/
theorem sized_log {H : Type} {ts : List TypeId} {ds : List (DataW H)} (h : (DataW.weightsEach Try.prog ts ds).all (· ≤ reachBytes) = true) {j : Nat} {dl dm dk : DataW H} (ht : ts[j]? = some 25) (hd : ds[j]? = some (.agg [dl, dm, dk])) :
    (∀ el sp, dl = .slice el sp → el.length < 2 ^ 62) ∧ (∀ el sp, dk = .slice el sp → el.length < 2 ^ 62) := by
  have hw : ∀ n ∈ DataW.weights Try.prog 25 (.agg [dl, dm, dk]), n ≤ reachBytes := fun n hn => by
    have := List.all_eq_true.1 h _ (DataW.weights_mem_each ht hd n hn)
    simpa using this
  constructor
  · rintro el sp rfl
    have := hw ((el.length + sp.length) * Try.prog.bytesOf 3) (by simp [DataW.weights, DataW.weightsEach, Try.underlying25, Try.underlying22])
    rw [Try.bytesInt] at this
    simp only [reachBytes] at this
    omega
  · rintro el sp rfl
    have := hw ((el.length + sp.length) * Try.prog.bytesOf 61) (by simp [DataW.weights, DataW.weightsEach, Try.underlying25, Try.underlying23])
    rw [Try.bytesKnot] at this
    simp only [reachBytes] at this
    omega

set_option maxRecDepth 10000 in
theorem open_two {H : Type} {enc : TypeId × Value → H} {W : World} {base : Nat} {spare : Nat → Bool} {held : Bool} {r : Reach} {b0 : Nat} {v : Value} {d : DataW H} {p : List MemPlace} (hv : Value.okWide Try.prog W r b0 64 v) (h : DataW.Trod enc Try.prog W base spare held 64 v d p) :
    ∃ a b : Int, v = .agg #[.int .i64 a, .int .i64 b] := by
  have hu : Try.prog.underlying 64 = some (.array 2 3) := by kernel_rfl
  simp only [Value.okWide, hu] at hv
  obtain ⟨cs, rfl, _, _⟩ := hv
  obtain ⟨fuel, hf⟩ := h
  obtain ⟨xs, m, _, _, hl, hx, hi⟩ := DataW.trod_array hu hf
  have hc2 : Try.prog.cellsOf 64 = 2 := by kernel_rfl
  rw [hc2] at hl
  have hl' : cs.toList.length = 2 := by simpa [Value.cells] using hl
  have h0 := hi 0 (by omega)
  have h1 := hi 1 (by omega)
  rw [List.getElem?_eq_getElem (by omega)] at h0 h1
  obtain ⟨a, ha, _⟩ := DataW.trod_int Try.underlying3 h0
  obtain ⟨b, hb, _⟩ := DataW.trod_int Try.underlying3 h1
  obtain ⟨l⟩ := cs
  match l, hl' with
  | [c0, c1], _ =>
    simp [Try.cells3, Value.cells] at ha hb
    exact ⟨a, b, by rw [ha, hb]⟩

set_option maxRecDepth 100000 in
theorem PeelAngles_lifted (os : Os) (started : os.Started) (H : Type) (enc : TypeId × Value → H) :
    ReturnsInHanded {} Try.checked os 12 .any (Rows.peelAnglesSpec.pre6 enc Try.prog Try.f12 Rows.peelAnglesRow.domain false) (Rows.peelAnglesSpec.post enc Try.prog Try.f12 false true false false) := by
  refine returnsInHanded_of_change_sized (C := Try.checked) Try.own started (by kernel_rfl) Try.func12
    (ChangeSpec.witness6 (enc := enc) (C := Try.checked) false ⟨#[], #[.agg #[.slice none 0 0, .int .i64 0, .slice none 0 0], .agg #[.int .i64 0, .int .i64 0]], []⟩ 8 (by kernel_rfl) (by kernel_rfl) (by kernel_rfl) (by kernel_rfl)) ?_
  intro W base args ds gs before hval0 hW _ hsz0 _
  have hsz : (DataW.weightsEach Try.prog (Try.f12.params.toList ++ Rows.peelAnglesSpec.plain.varTypes Try.prog) (ds ++ gs)).all (· ≤ reachBytes) = true := hsz0
  clear hsz0
  have hval : ∀ (j : Nat) t v, Try.f12.params[j]? = some t → args[j]? = some v → Value.okWide Try.prog W .any base t v := hval0
  have hW' := hW
  obtain ⟨p, q, hA0, hV, rfl, _, _⟩ := hW
  have hA : DataW.TrodAll enc Try.prog W 0 (fun _ => true) true Try.f12.params.toList args.toList ds p := hA0
  rw [Try.params12] at hA hval hsz
  obtain ⟨v0, v1, d0, d1, p0, p1, rfl, rfl, rfl, h0, h1⟩ := trodAll_two hA
  obtain ⟨rfl, rfl⟩ := trodVars_none hV
  have h0k := h0
  have h1k := h1
  obtain ⟨a, b, rfl⟩ := open_two (hval 1 64 v1 rfl rfl) h1
  obtain ⟨q1, c1, q2, c2, long, sz, ks, dl, dm, dk, rfl, rfl, hi, hk, hc1, hc2, hl1, hl2⟩ := open_log (hval 0 25 v0 rfl rfl) h0
  obtain ⟨s1, s2⟩ := sized_log hsz (j := 0) rfl rfl
  have hlog : LogAt W q1 q2 long ks := ⟨hi, hk, by rcases hl1 with e | ⟨el, sp, e, hlen⟩; omega; have := s1 el sp e; omega, by rcases hl2 with e | ⟨el, sp, e, hlen⟩; omega; have := s2 el sp e; omega⟩
  clear hA0 hval0
  simp only [List.append_nil] at hW'
  have hlt0 : ∀ x ∈ p0, x.block < W.heap.size := fun x hx => hW'.lt x (by simp [hx])
  have hlt1 : ∀ x ∈ p1, x.block < W.heap.size := fun x hx => hW'.lt x (by simp [hx])
  refine (PeelAngles_any q1 c1 q2 c2 long sz ks W hlog hc1 a b).mono fun e W' ⟨he, hb⟩ => ?_
  subst he
  exact ⟨_, rfl, _, _, _, [], p0 ++ p1, [], hW', trodAll_mk1 (shut_bool Try.underlying4 true), trodAll_mk2 (Below.trod Try.laidOut (by kernel_rfl) (of_decide_eq_true (by kernel_rfl)) h0k hb hlt0) (Below.trod Try.laidOut (by kernel_rfl) (of_decide_eq_true (by kernel_rfl)) h1k hb hlt1), rfl, hb.frame _, fun h => by cases h⟩

theorem PeelAngles_holds : Rows.PeelAnglesSaid :=
  OpenClaim.holds_of_wide 12 Try.f12 rfl rfl rfl rfl rfl rfl rfl ⟨rfl, rfl, rfl, rfl, rfl⟩ rfl rfl rfl rfl rfl (by kernel_rfl) Try.func12 (by kernel_rfl)
    (of_decide_eq_true (by kernel_rfl)) (by unfold Func.isWrapper; first | (rw [if_pos (by decide +kernel)]; kernel_rfl) | (rw [if_neg (by decide +kernel)]; exact ⟨rfl, rfl⟩))
    (fun os started H enc _ => PeelAngles_lifted os started H enc)

end Go.Proofs.Ytnnlbbmimdohoaa
/- Arrays of three and of four numbers that come in as arguments. -/
namespace Go.Proofs.Ytnnlbbmimdohoaa
open Go.ChangeShapes Go.WideShapes Go.ChangeAt Go.RowKit

set_option maxRecDepth 10000 in
theorem open_arr3 {H : Type} {enc : TypeId × Value → H} {W : World} {base : Nat} {spare : Nat → Bool} {held : Bool} {r : Reach} {b0 : Nat} {v : Value} {d : DataW H} {p : List MemPlace} (hv : Value.okWide Try.prog W r b0 26 v) (h : DataW.Trod enc Try.prog W base spare held 26 v d p) :
    ∃ a b c : Int, v = .agg #[.int .i64 a, .int .i64 b, .int .i64 c] := by
  have hu : Try.prog.underlying 26 = some (.array 3 3) := by kernel_rfl
  simp only [Value.okWide, hu] at hv
  obtain ⟨cs, rfl, _, _⟩ := hv
  obtain ⟨fuel, hf⟩ := h
  obtain ⟨xs, m, _, _, hl, hx, hi⟩ := DataW.trod_array hu hf
  have hc2 : Try.prog.cellsOf 26 = 3 := by kernel_rfl
  rw [hc2] at hl
  have hl' : cs.toList.length = 3 := by simpa [Value.cells] using hl
  have h0 := hi 0 (by omega)
  have h1 := hi 1 (by omega)
  have h2 := hi 2 (by omega)
  rw [List.getElem?_eq_getElem (by omega)] at h0 h1 h2
  obtain ⟨a, ha, _⟩ := DataW.trod_int Try.underlying3 h0
  obtain ⟨b, hb, _⟩ := DataW.trod_int Try.underlying3 h1
  obtain ⟨c, hc, _⟩ := DataW.trod_int Try.underlying3 h2
  obtain ⟨l⟩ := cs
  match l, hl' with
  | [c0, c1, c2], _ =>
    simp [Try.cells3, Value.cells] at ha hb hc
    exact ⟨a, b, c, by rw [ha, hb, hc]⟩
set_option maxRecDepth 10000 in
theorem open_arr4 {H : Type} {enc : TypeId × Value → H} {W : World} {base : Nat} {spare : Nat → Bool} {held : Bool} {r : Reach} {b0 : Nat} {v : Value} {d : DataW H} {p : List MemPlace} (hv : Value.okWide Try.prog W r b0 58 v) (h : DataW.Trod enc Try.prog W base spare held 58 v d p) :
    ∃ a b c e : Int, v = .agg #[.int .i64 a, .int .i64 b, .int .i64 c, .int .i64 e] := by
  have hu : Try.prog.underlying 58 = some (.array 4 3) := by kernel_rfl
  simp only [Value.okWide, hu] at hv
  obtain ⟨cs, rfl, _, _⟩ := hv
  obtain ⟨fuel, hf⟩ := h
  obtain ⟨xs, m, _, _, hl, hx, hi⟩ := DataW.trod_array hu hf
  have hc2 : Try.prog.cellsOf 58 = 4 := by kernel_rfl
  rw [hc2] at hl
  have hl' : cs.toList.length = 4 := by simpa [Value.cells] using hl
  have h0 := hi 0 (by omega)
  have h1 := hi 1 (by omega)
  have h2 := hi 2 (by omega)
  have h3 := hi 3 (by omega)
  rw [List.getElem?_eq_getElem (by omega)] at h0 h1 h2 h3
  obtain ⟨a, ha, _⟩ := DataW.trod_int Try.underlying3 h0
  obtain ⟨b, hb, _⟩ := DataW.trod_int Try.underlying3 h1
  obtain ⟨c, hc, _⟩ := DataW.trod_int Try.underlying3 h2
  obtain ⟨e, he, _⟩ := DataW.trod_int Try.underlying3 h3
  obtain ⟨l⟩ := cs
  match l, hl' with
  | [c0, c1, c2, c3], _ =>
    simp [Try.cells3, Value.cells] at ha hb hc he
    exact ⟨a, b, c, e, by rw [ha, hb, hc, he]⟩
end Go.Proofs.Ytnnlbbmimdohoaa
