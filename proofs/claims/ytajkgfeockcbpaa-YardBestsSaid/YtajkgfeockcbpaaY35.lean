/- A yard as an argument lies in memory as the contracts want it; an array of three numbers. -/
import Derived.Test.YtajkgfeockcbpaaY34
namespace Go.Proofs.Ytajkgfeockcbpaa
open Go.ChangeShapes Go.WideShapes Go.ChangeAt Go.RowKit Go.Joins Go.Deep

theorem yard_at {H : Type} {W : World} {P : Yp} {b : Yb} {d0 d1 d2 d3 d4 d5 d6 d7 : DataW H} {ts : List TypeId} {ds : List (DataW H)} (h : (DataW.weightsEach Try.prog ts ds).all (· ≤ reachBytes) = true) {j : Nat} (ht : ts[j]? = some 25) (hd : ds[j]? = some (.agg [d0, d1, d2, d3, d4, d5, d6, d7]))
    (hl : LotsAt W P.pl b.lots) (hs : SpotsAt W P.pd b.doors) (hu : SpotsAt W P.pb b.buckets) (hq : SpotsAt W P.ps b.spare) (c1 : b.lots.length ≤ P.cl) (c2 : b.doors.length ≤ P.cd) (c3 : b.buckets.length ≤ P.cb) (c4 : b.spare.length ≤ P.cs)
    (z0 : b.lots.length = 0 ∨ ∃ el sp, d0 = .slice el sp ∧ el.length = b.lots.length) (z1 : b.doors.length = 0 ∨ ∃ el sp, d1 = .slice el sp ∧ el.length = b.doors.length) (z2 : b.buckets.length = 0 ∨ ∃ el sp, d2 = .slice el sp ∧ el.length = b.buckets.length) (z3 : b.spare.length = 0 ∨ ∃ el sp, d3 = .slice el sp ∧ el.length = b.spare.length) : YbAt W P b := by
  have hw : ∀ n ∈ DataW.weights Try.prog 25 (.agg [d0, d1, d2, d3, d4, d5, d6, d7]), n ≤ reachBytes := fun n hn => by
    have := List.all_eq_true.1 h _ (DataW.weights_mem_each ht hd n hn)
    simpa using this
  refine ⟨hl, hs, hu, hq, ?_, ?_, ?_, ?_, c1, c2, c3, c4⟩
  · rcases z0 with e | ⟨el, sp, rfl, hl⟩
    · omega
    · have := hw ((el.length + sp.length) * Try.prog.bytesOf 64) (by simp [DataW.weights, DataW.weightsEach, Try.underlying25, Try.underlying22])
      rw [Try.bytesLot] at this
      exact short_of (by decide) this hl rfl
  · rcases z1 with e | ⟨el, sp, rfl, hl⟩
    · omega
    · have := hw ((el.length + sp.length) * Try.prog.bytesOf 62) (by simp [DataW.weights, DataW.weightsEach, Try.underlying25, Try.underlying23])
      rw [Try.bytesSpot] at this
      exact short_of (by decide) this hl rfl
  · rcases z2 with e | ⟨el, sp, rfl, hl⟩
    · omega
    · have := hw ((el.length + sp.length) * Try.prog.bytesOf 62) (by simp [DataW.weights, DataW.weightsEach, Try.underlying25, Try.underlying23])
      rw [Try.bytesSpot] at this
      exact short_of (by decide) this hl rfl
  · rcases z3 with e | ⟨el, sp, rfl, hl⟩
    · omega
    · have := hw ((el.length + sp.length) * Try.prog.bytesOf 62) (by simp [DataW.weights, DataW.weightsEach, Try.underlying25, Try.underlying23])
      rw [Try.bytesSpot] at this
      exact short_of (by decide) this hl rfl
set_option maxRecDepth 10000 in
theorem open_arr3 {H : Type} {enc : TypeId × Value → H} {W : World} {base : Nat} {spare : Nat → Bool} {held : Bool} {r : Reach} {b0 : Nat} {v : Value} {d : DataW H} {p : List MemPlace} (hv : Value.okWide Try.prog W r b0 58 v) (h : DataW.Trod enc Try.prog W base spare held 58 v d p) :
    ∃ a b c : Int, v = .agg #[.int .i64 a, .int .i64 b, .int .i64 c] := by
  have hu : Try.prog.underlying 58 = some (.array 3 3) := by kernel_rfl
  simp only [Value.okWide, hu] at hv
  obtain ⟨cs, rfl, _, _⟩ := hv
  obtain ⟨fuel, hf⟩ := h
  obtain ⟨xs, m, _, _, hl, hx, hi⟩ := DataW.trod_array hu hf
  have hc2 : Try.prog.cellsOf 58 = 3 := by kernel_rfl
  rw [hc2] at hl
  have hl' : cs.toList.length = 3 := by simpa [Value.cells] using hl
  have h0 := hi 0 (by omega)
  have h1 := hi 1 (by omega)
  have h2 := hi 2 (by omega)
  rw [List.getElem?_eq_getElem (by omega)] at h0 h1 h2
  obtain ⟨a, ha, _⟩ := DataW.trod_int Try.underlying3 h0
  obtain ⟨b, hb, _⟩ := DataW.trod_int Try.underlying3 h1
  obtain ⟨c, hc, _⟩ := DataW.trod_int Try.underlying3 h2
  obtain ⟨l⟩ := cs
  match l, hl' with
  | [c0, c1, c2], _ =>
    simp [Try.cells3, Value.cells] at ha hb hc
    exact ⟨a, b, c, by rw [ha, hb, hc]⟩
end Go.Proofs.Ytajkgfeockcbpaa
