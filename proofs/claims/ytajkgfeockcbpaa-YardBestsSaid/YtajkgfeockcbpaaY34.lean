/- A yard of layer 6 that comes in as an argument: what its reading tells of its cells; an array of three numbers. -/
import Derived.Test.YtajkgfeockcbpaaY3
import Derived.ProofKit
import Derived.SizedLaws
import Derived.Lib.SmallJoins
import Derived.Deep.Slices
namespace Go.Proofs.Ytajkgfeockcbpaa
open Go.ChangeShapes Go.WideShapes Go.ChangeAt Go.RowKit Go.Joins Go.Deep

theorem Try.own : ownKnob Try.prog.godebug = none := by kernel_rfl
theorem Try.laidOut : laidOutB Try.prog = true := by kernel_rfl
theorem Try.cells3 : Try.prog.cellsOf 3 = 1 := by kernel_rfl
theorem Try.cells40 : Try.prog.cellsOf 40 = 2 := by kernel_rfl
theorem Try.cells62 : Try.prog.cellsOf 62 = 2 := by kernel_rfl
theorem Try.cells64 : Try.prog.cellsOf 64 = 4 := by kernel_rfl
theorem Try.cells23 : Try.prog.cellsOf 23 = 1 := by kernel_rfl
theorem Try.cells22 : Try.prog.cellsOf 22 = 1 := by kernel_rfl
theorem Try.cells25 : Try.prog.cellsOf 25 = 8 := by kernel_rfl
theorem Try.bytesSpot : Try.prog.bytesOf 62 = 16 := by kernel_rfl
theorem Try.bytesLot : Try.prog.bytesOf 64 = 32 := by kernel_rfl

section
variable {H : Type} {enc : TypeId × Value → H} {W : World} {base : Nat} {spare : Nat → Bool} {held : Bool}
set_option maxRecDepth 10000 in
theorem open_spot {n : Nat} {cs : List Value} {x : DataW H × List MemPlace} (h : DataW.trod enc Try.prog W base spare held n 62 cs = some x) : ∃ s : Int × Int, cs = [.int .i64 s.1, .int .i64 s.2] := by
  obtain ⟨y0, y1, n1, _, hl, h0, h1⟩ := trod_struct2 Try.underlying62 h
  obtain ⟨a, ha, _⟩ := DataW.trod_int Try.underlying3 h0
  obtain ⟨b, hb, _⟩ := DataW.trod_int Try.underlying3 h1
  rw [Try.cells62] at hl
  match cs, hl with
  | [c0, c1], _ =>
    simp [Try.cells3] at ha hb
    exact ⟨(a, b), by rw [ha, hb]⟩
set_option maxRecDepth 10000 in
theorem open_span {n : Nat} {cs : List Value} {x : DataW H × List MemPlace} (h : DataW.trod enc Try.prog W base spare held n 40 cs = some x) : ∃ s : Int × Int, cs = [.int .i64 s.1, .int .i64 s.2] := by
  obtain ⟨y0, y1, n1, _, hl, h0, h1⟩ := trod_struct2 Try.underlying40 h
  obtain ⟨a, ha, _⟩ := DataW.trod_int Try.underlying3 h0
  obtain ⟨b, hb, _⟩ := DataW.trod_int Try.underlying3 h1
  rw [Try.cells40] at hl
  match cs, hl with
  | [c0, c1], _ =>
    simp [Try.cells3] at ha hb
    exact ⟨(a, b), by rw [ha, hb]⟩
set_option maxRecDepth 10000 in
theorem open_lot {n : Nat} {cs : List Value} {x : DataW H × List MemPlace} (h : DataW.trod enc Try.prog W base spare held n 64 cs = some x) : ∃ l : Lot, cs = [.int .i64 l.sp.1, .int .i64 l.sp.2, .int .i64 l.lo, .int .i64 l.hi] := by
  obtain ⟨y0, y1, n1, _, hl, h0, h1⟩ := trod_struct2 Try.underlying64 h
  rw [Try.cells64] at hl
  match cs, hl with
  | [c0, c1, c2, c3], _ =>
    simp [Try.cells62, Try.cells40] at h0 h1
    obtain ⟨s, hs⟩ := open_spot h0
    obtain ⟨r, hr⟩ := open_span h1
    simp at hs hr
    obtain ⟨rfl, rfl⟩ := hs
    obtain ⟨rfl, rfl⟩ := hr
    exact ⟨⟨s, r.1, r.2⟩, rfl⟩
set_option maxRecDepth 10000 in
theorem open_spots {n : Nat} {c0 : Value} {y : DataW H × List MemPlace} (f : DataW.trod enc Try.prog W base spare held n 23 [c0] = some y) :
    ∃ (q : Option Addr) (c : Nat) (l : List (Int × Int)), c0 = .slice q l.length c ∧ SpotsAt W q l ∧ l.length ≤ c ∧ (l.length = 0 ∨ ∃ el sp, y.1 = .slice el sp ∧ el.length = l.length) := by
  rcases open_slice Try.underlying23 f with ⟨e, _⟩ | ⟨a, len, cap, m, n', D, Pl, e, _, hl, _, hm, hx, hel⟩
  · exact ⟨none, 0, [], by simpa using e, fun i hi => by simp at hi, by simp, .inl rfl⟩
  · have hml : len ≤ m := by rw [hm]; split <;> omega
    have hkn : ∀ i, ∃ k : Int × Int, i < len → W.cells? base (a.add (i * 2)) 2 = some [.int .i64 k.1, .int .i64 k.2] := by
      intro i
      by_cases hi : i < len
      · obtain ⟨cs, hcs, ht⟩ := hel i (by omega)
        obtain ⟨k, rfl⟩ := open_spot ht
        rw [Try.cells62] at hcs
        exact ⟨k, fun _ => hcs⟩
      · exact ⟨(0, 0), fun h => absurd h hi⟩
    obtain ⟨M, hM⟩ : ∃ M : Nat → Int × Int, ∀ i, i < len → W.cells? base (a.add (i * 2)) 2 = some [.int .i64 (M i).1, .int .i64 (M i).2] := ⟨fun i => (hkn i).choose, fun i => (hkn i).choose_spec⟩
    refine ⟨some a, cap, (List.range len).map M, by simpa using e, fun i hi => ?_, by simpa using hl, .inr ⟨_, _, by rw [hx], by simp⟩⟩
    have hi' : i < len := by simpa using hi
    have hs := hM i hi'
    simp only [List.getElem_map, List.getElem_range]
    obtain ⟨b, off, spot⟩ := a
    have hspot : spot = none := by
      have := (World.cells?_some (hM 0 (by omega))).2.2 0 (by omega)
      simpa [Addr.add] using World.cell?_spot this
    subst hspot
    have hc := (World.cells?_some hs).2.2
    have e0 := hc 0 (by omega)
    have e1 := hc 1 (by omega)
    rw [Addr.add_lit, Addr.add_lit] at e0 e1
    exact ⟨b, off, rfl, e0, e1⟩
set_option maxRecDepth 10000 in
theorem open_lots {n : Nat} {c0 : Value} {y : DataW H × List MemPlace} (f : DataW.trod enc Try.prog W base spare held n 22 [c0] = some y) :
    ∃ (q : Option Addr) (c : Nat) (l : List Lot), c0 = .slice q l.length c ∧ LotsAt W q l ∧ l.length ≤ c ∧ (l.length = 0 ∨ ∃ el sp, y.1 = .slice el sp ∧ el.length = l.length) := by
  rcases open_slice Try.underlying22 f with ⟨e, _⟩ | ⟨a, len, cap, m, n', D, Pl, e, _, hl, _, hm, hx, hel⟩
  · exact ⟨none, 0, [], by simpa using e, fun i hi => by simp at hi, by simp, .inl rfl⟩
  · have hml : len ≤ m := by rw [hm]; split <;> omega
    have hkn : ∀ i, ∃ k : Lot, i < len → W.cells? base (a.add (i * 4)) 4 = some [.int .i64 k.sp.1, .int .i64 k.sp.2, .int .i64 k.lo, .int .i64 k.hi] := by
      intro i
      by_cases hi : i < len
      · obtain ⟨cs, hcs, ht⟩ := hel i (by omega)
        obtain ⟨k, rfl⟩ := open_lot ht
        rw [Try.cells64] at hcs
        exact ⟨k, fun _ => hcs⟩
      · exact ⟨⟨(0, 0), 0, 0⟩, fun h => absurd h hi⟩
    obtain ⟨M, hM⟩ : ∃ M : Nat → Lot, ∀ i, i < len → W.cells? base (a.add (i * 4)) 4 = some [.int .i64 (M i).sp.1, .int .i64 (M i).sp.2, .int .i64 (M i).lo, .int .i64 (M i).hi] := ⟨fun i => (hkn i).choose, fun i => (hkn i).choose_spec⟩
    refine ⟨some a, cap, (List.range len).map M, by simpa using e, fun i hi => ?_, by simpa using hl, .inr ⟨_, _, by rw [hx], by simp⟩⟩
    have hi' : i < len := by simpa using hi
    have hs := hM i hi'
    simp only [List.getElem_map, List.getElem_range]
    obtain ⟨b, off, spot⟩ := a
    have hspot : spot = none := by
      have := (World.cells?_some (hM 0 (by omega))).2.2 0 (by omega)
      simpa [Addr.add] using World.cell?_spot this
    subst hspot
    have hc := (World.cells?_some hs).2.2
    have e0 := hc 0 (by omega)
    have e1 := hc 1 (by omega)
    have e2 := hc 2 (by omega)
    have e3 := hc 3 (by omega)
    rw [Addr.add_lit, Addr.add_lit] at e0 e1 e2 e3
    exact ⟨b, off, rfl, e0, e1, e2, e3⟩
set_option maxRecDepth 10000 in
theorem open_yard {r : Reach} {b0 : Nat} {v : Value} {d : DataW H} {p : List MemPlace} (hv : Value.okWide Try.prog W r b0 25 v) (h : DataW.Trod enc Try.prog W base spare held 25 v d p) :
    ∃ (P : Yp) (b : Yb) (d0 d1 d2 d3 d4 d5 d6 d7 : DataW H), v = .agg (ybA b P) ∧ d = .agg [d0, d1, d2, d3, d4, d5, d6, d7] ∧ LotsAt W P.pl b.lots ∧ SpotsAt W P.pd b.doors ∧ SpotsAt W P.pb b.buckets ∧ SpotsAt W P.ps b.spare ∧
      b.lots.length ≤ P.cl ∧ b.doors.length ≤ P.cd ∧ b.buckets.length ≤ P.cb ∧ b.spare.length ≤ P.cs ∧
      (b.lots.length = 0 ∨ ∃ el sp, d0 = .slice el sp ∧ el.length = b.lots.length) ∧ (b.doors.length = 0 ∨ ∃ el sp, d1 = .slice el sp ∧ el.length = b.doors.length) ∧ (b.buckets.length = 0 ∨ ∃ el sp, d2 = .slice el sp ∧ el.length = b.buckets.length) ∧ (b.spare.length = 0 ∨ ∃ el sp, d3 = .slice el sp ∧ el.length = b.spare.length) := by
  obtain ⟨cs, rfl, hsz⟩ := okWide_struct Try.underlying25 hv
  rw [Try.cells25] at hsz
  obtain ⟨fuel, hf⟩ := h
  obtain ⟨xs, n, _, hx, hl, hlen, hi⟩ := DataW.trod_struct Try.underlying25 hf
  have f0 := hi 0 _ rfl
  have f1 := hi 1 _ rfl
  have f2 := hi 2 _ rfl
  have f3 := hi 3 _ rfl
  have f4 := hi 4 _ rfl
  have f5 := hi 5 _ rfl
  have f6 := hi 6 _ rfl
  have f7 := hi 7 _ rfl
  obtain ⟨c0, c1, c2, c3, c4, c5, c6, c7, rfl⟩ : ∃ c0 c1 c2 c3 c4 c5 c6 c7, cs = #[c0, c1, c2, c3, c4, c5, c6, c7] := by
    match cs, hsz with
    | ⟨[c0, c1, c2, c3, c4, c5, c6, c7]⟩, _ => exact ⟨c0, c1, c2, c3, c4, c5, c6, c7, rfl⟩
  match xs, hlen with
  | [y0, y1, y2, y3, y4, y5, y6, y7], _ =>
    simp [Value.cells, Try.cells3, Try.cells23, Try.cells22] at f0 f1 f2 f3 f4 f5 f6 f7
    obtain ⟨q0, k0, l0, e0, hk0, hc0, hd0⟩ := open_lots f0
    obtain ⟨q1, k1, l1, e1, hk1, hc1, hd1⟩ := open_spots f1
    obtain ⟨q2, k2, l2, e2, hk2, hc2, hd2⟩ := open_spots f2
    obtain ⟨q3, k3, l3, e3, hk3, hc3, hd3⟩ := open_spots f3
    obtain ⟨a4, h4, _⟩ := DataW.trod_int Try.underlying3 f4
    obtain ⟨a5, h5, _⟩ := DataW.trod_int Try.underlying3 f5
    obtain ⟨a6, h6, _⟩ := DataW.trod_int Try.underlying3 f6
    obtain ⟨a7, h7, _⟩ := DataW.trod_int Try.underlying3 f7
    simp at h4 h5 h6 h7
    subst h4 h5 h6 h7 e0 e1 e2 e3
    simp only [Prod.mk.injEq] at hx
    exact ⟨⟨q0, k0, q1, k1, q2, k2, q3, k3⟩, ⟨l0, l1, l2, l3, a4, a5, a6, a7⟩, y0.1, y1.1, y2.1, y3.1, y4.1, y5.1, y6.1, y7.1, rfl, by simpa using hx.1, hk0, hk1, hk2, hk3, hc0, hc1, hc2, hc3, hd0, hd1, hd2, hd3⟩
end
theorem short_of {H : Type} {n k : Nat} {dl : DataW H} {el : List (DataW H)} {sp : List (DataW H)} (hb : 0 < k) (h : (el.length + sp.length) * k ≤ reachBytes) (hl : el.length = n) (_ : dl = .slice el sp) : n < 2 ^ 61 := by
  have h2 : el.length ≤ (el.length + sp.length) * k := Nat.le_trans (Nat.le_add_right _ _) (Nat.le_mul_of_pos_right _ hb)
  simp only [reachBytes] at h
  omega
end Go.Proofs.Ytajkgfeockcbpaa
