/- A book's frames have room for all that they hold; four numbers as an argument. -/
import Derived.Test.YtfppcmechfjpoaaOBCD
namespace Go.Proofs.Ytfppcmechfjpoaa
open Go.ChangeShapes Go.WideShapes Go.ChangeAt Go.RowKit Go.Joins Go.Deep

set_option maxRecDepth 10000 in
theorem open_book_cap {H : Type} {enc : TypeId × Value → H} {W : World} {base : Nat} {spare : Nat → Bool} {held : Bool} {r : Reach} {b0 : Nat} {pp pf : Option Addr} {n cp m cf : Nat} {d : DataW H} {p : List MemPlace} (hv : Value.okWide Try.prog W r b0 25 (.agg #[.slice pp n cp, .slice pf m cf])) (h : DataW.Trod enc Try.prog W base spare held 25 (.agg #[.slice pp n cp, .slice pf m cf]) d p) : m ≤ cf := by
  obtain ⟨v0, v1, y0, y1, k, e, _, _, _, h1⟩ := open_agg2 Try.underlying25 (by kernel_rfl) (by kernel_rfl) hv h
  have e1 : v1 = .slice pf m cf := by
    have := e
    simp at this
    exact this.2.symm
  subst e1
  rcases open_slice Try.underlying23 h1 with ⟨e, _⟩ | ⟨a, len, cap, m', n', D, Pl, e, _, hl, _, hm, hx, hel⟩
  · simp at e
    omega
  · simp at e
    omega
set_option maxRecDepth 10000 in
theorem open_arr4 {H : Type} {enc : TypeId × Value → H} {W : World} {base : Nat} {spare : Nat → Bool} {held : Bool} {r : Reach} {b0 : Nat} {v : Value} {d : DataW H} {p : List MemPlace} (hv : Value.okWide Try.prog W r b0 62 v) (h : DataW.Trod enc Try.prog W base spare held 62 v d p) :
    ∃ a b c e : Int, v = .agg #[.int .i64 a, .int .i64 b, .int .i64 c, .int .i64 e] := by
  have hu : Try.prog.underlying 62 = some (.array 4 3) := by kernel_rfl
  simp only [Value.okWide, hu] at hv
  obtain ⟨cs, rfl, _, _⟩ := hv
  obtain ⟨fuel, hf⟩ := h
  obtain ⟨xs, m, _, _, hl, hx, hi⟩ := DataW.trod_array hu hf
  have hc2 : Try.prog.cellsOf 62 = 4 := by kernel_rfl
  rw [hc2] at hl
  have hl' : cs.toList.length = 4 := by simpa [Value.cells] using hl
  have h0 := hi 0 (by omega)
  have h1 := hi 1 (by omega)
  have h2 := hi 2 (by omega)
  have h3 := hi 3 (by omega)
  rw [List.getElem?_eq_getElem (by omega)] at h0 h1 h2 h3
  obtain ⟨a, ha, _⟩ := DataW.trod_int Try.underlying3 h0
  obtain ⟨b, hb, _⟩ := DataW.trod_int Try.underlying3 h1
  obtain ⟨c, hc, _⟩ := DataW.trod_int Try.underlying3 h2
  obtain ⟨e, he, _⟩ := DataW.trod_int Try.underlying3 h3
  obtain ⟨l⟩ := cs
  match l, hl' with
  | [c0, c1, c2, c3], _ =>
    simp [Try.cells3, Value.cells] at ha hb hc he
    exact ⟨a, b, c, e, by rw [ha, hb, hc, he]⟩
end Go.Proofs.Ytfppcmechfjpoaa
