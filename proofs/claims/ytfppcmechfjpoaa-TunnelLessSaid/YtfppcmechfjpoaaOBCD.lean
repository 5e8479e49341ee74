/- A book that comes in as an argument: what its reading tells of its cells. -/
import Derived.Test.YtfppcmechfjpoaaVE
import Derived.ProofKit
import Derived.SizedLaws
import Derived.Lib.SmallJoins
import Derived.Deep.Slices
namespace Go.Proofs.Ytfppcmechfjpoaa
open Go.ChangeShapes Go.WideShapes Go.ChangeAt Go.RowKit Go.Joins Go.Deep

theorem Try.own : ownKnob Try.prog.godebug = none := by kernel_rfl
theorem Try.laidOut : laidOutB Try.prog = true := by kernel_rfl
theorem Try.cells3 : Try.prog.cellsOf 3 = 1 := by kernel_rfl
theorem Try.cells32 : Try.prog.cellsOf 32 = 2 := by kernel_rfl
theorem Try.cells62 : Try.prog.cellsOf 62 = 4 := by kernel_rfl
theorem Try.cells64 : Try.prog.cellsOf 64 = 6 := by kernel_rfl
theorem Try.cells55 : Try.prog.cellsOf 55 = 3 := by kernel_rfl
theorem Try.cells26 : Try.prog.cellsOf 26 = 1 := by kernel_rfl

section
variable {H : Type} {enc : TypeId × Value → H} {W : World} {base : Nat} {spare : Nat → Bool} {held : Bool}
set_option maxRecDepth 10000 in
theorem open_part {n : Nat} {cs : List Value} {x : DataW H × List MemPlace} (h : DataW.trod enc Try.prog W base spare held n 64 cs = some x) : ∃ p : Pt, cs = [.int .i64 p.h0, .int .i64 p.h1, .int .i64 p.h2, .int .i64 p.h3, .int .i64 p.lo, .int .i64 p.hi] := by
  obtain ⟨y0, y1, n1, _, hl, h0, h1⟩ := trod_struct2 Try.underlying64 h
  have hu : Try.prog.underlying 62 = some (.array 4 3) := by kernel_rfl
  obtain ⟨xs, m, _, _, hl4, hx, hi⟩ := DataW.trod_array hu h0
  obtain ⟨z0, z1, n2, _, _, g0, g1⟩ := trod_struct2 Try.underlying32 h1
  obtain ⟨a, ha, _⟩ := DataW.trod_int Try.underlying3 g0
  obtain ⟨b, hb, _⟩ := DataW.trod_int Try.underlying3 g1
  have i0 := hi 0 (by omega)
  have i1 := hi 1 (by omega)
  have i2 := hi 2 (by omega)
  have i3 := hi 3 (by omega)
  rw [List.getElem?_eq_getElem (by omega)] at i0 i1 i2 i3
  obtain ⟨c0, hc0, _⟩ := DataW.trod_int Try.underlying3 i0
  obtain ⟨c1, hc1, _⟩ := DataW.trod_int Try.underlying3 i1
  obtain ⟨c2, hc2, _⟩ := DataW.trod_int Try.underlying3 i2
  obtain ⟨c3, hc3, _⟩ := DataW.trod_int Try.underlying3 i3
  rw [Try.cells64] at hl
  match cs, hl with
  | [k0, k1, k2, k3, k4, k5], _ =>
    simp [Try.cells3, Try.cells32, Try.cells62] at ha hb hc0 hc1 hc2 hc3
    exact ⟨⟨c0, c1, c2, c3, a, b⟩, by rw [ha, hb, hc0, hc1, hc2, hc3]⟩

set_option maxRecDepth 10000 in
theorem open_frame {n : Nat} {cs : List Value} {x : DataW H × List MemPlace} (h : DataW.trod enc Try.prog W base spare held n 55 cs = some x) : ∃ m : FrM, cs = [.slice m.p m.f.stay.length m.c, .int .i64 m.f.lo, .int .i64 m.f.hi] ∧ IntsAt W m.p m.f.stay ∧ ∃ ds dn, x.1 = .agg [ds, dn] ∧ (m.f.stay.length = 0 ∨ ∃ el sp, ds = .slice el sp ∧ el.length = m.f.stay.length) := by
  obtain ⟨y0, y1, n1, hx1, hl, h0, h1⟩ := trod_struct2 Try.underlying55 h
  obtain ⟨z0, z1, n2, _, _, g0, g1⟩ := trod_struct2 Try.underlying32 h1
  obtain ⟨a, ha, _⟩ := DataW.trod_int Try.underlying3 g0
  obtain ⟨b, hb, _⟩ := DataW.trod_int Try.underlying3 g1
  rw [Try.cells55] at hl
  match cs, hl with
  | [k0, k1, k2], _ =>
    simp [Try.cells3, Try.cells32, Try.cells26] at ha hb h0
    rcases open_ints Try.underlying26 Try.underlying3 Try.cells3 h0 with ⟨e, _⟩ | ⟨q, len, cap, zs, e, _, hl, hm, hz, hx, hcell, _⟩
    · simp at e
      exact ⟨⟨none, 0, ⟨[], a, b⟩⟩, by rw [e, ha, hb]; rfl, fun i hi => by simp at hi, _, _, by rw [hx1], .inl rfl⟩
    · simp at e
      have hzl : len ≤ zs.length := by rw [hz]; split <;> omega
      have hlen : (zs.take len).length = len := by rw [List.length_take]; omega
      refine ⟨⟨some q, cap, ⟨zs.take len, a, b⟩⟩, by rw [e, ha, hb, hlen], fun i hi => ?_, _, _, by rw [hx1], .inr ⟨_, _, by rw [hx], by simp [lits]⟩⟩
      simp only at hi ⊢
      rw [hlen] at hi
      obtain ⟨b', off, spot⟩ := q
      have hspot : spot = none := by simpa [Addr.add] using World.cell?_spot (hcell 0 (by omega))
      subst hspot
      refine ⟨b', off, rfl, ?_⟩
      have := hcell i (by omega)
      rw [Addr.add_lit] at this
      rw [this, at0_lt (by omega), List.getElem_take]
      simp [show i < zs.length by omega]
set_option maxRecDepth 10000 in
theorem open_book {r : Reach} {b0 : Nat} {v : Value} {d : DataW H} {p : List MemPlace} (hv : Value.okWide Try.prog W r b0 25 v) (h : DataW.Trod enc Try.prog W base spare held 25 v d p) :
    ∃ (pp : Option Addr) (cp : Nat) (pf : Option Addr) (cf : Nat) (ps : List Pt) (ms : List FrM) (dp df : DataW H), v = .agg #[.slice pp ps.length cp, .slice pf ms.length cf] ∧ d = .agg [dp, df] ∧ PtsAt W pp ps ∧ FrsAt W pf ms ∧
      (ps.length = 0 ∨ ∃ el sp, dp = .slice el sp ∧ el.length = ps.length) ∧ (ms.length = 0 ∨ ∃ el sp, df = .slice el sp ∧ el.length = ms.length ∧ ∀ i (h : i < ms.length), ∃ ds dn, el[i]? = some (.agg [ds, dn]) ∧ (ms[i].f.stay.length = 0 ∨ ∃ el' sp', ds = .slice el' sp' ∧ el'.length = ms[i].f.stay.length)) := by
  obtain ⟨v0, v1, y0, y1, n, rfl, rfl, _, h0, h1⟩ := open_agg2 Try.underlying25 (by kernel_rfl) (by kernel_rfl) hv h
  obtain ⟨pp, cp, ps, e1, hp, hd1⟩ : ∃ (pp : Option Addr) (cp : Nat) (ps : List Pt), v0 = .slice pp ps.length cp ∧ PtsAt W pp ps ∧ (ps.length = 0 ∨ ∃ el sp, y0.1 = .slice el sp ∧ el.length = ps.length) := by
    rcases open_slice Try.underlying22 h0 with ⟨e, _⟩ | ⟨a, len, cap, m, n', D, Pl, e, _, hl, _, hm, hx, hel⟩
    · exact ⟨none, 0, [], by simpa using e, fun i hi => by simp at hi, .inl rfl⟩
    · have hml : len ≤ m := by rw [hm]; split <;> omega
      have hkn : ∀ i, ∃ k : Pt, i < len → W.cells? base (a.add (i * 6)) 6 = some [.int .i64 k.h0, .int .i64 k.h1, .int .i64 k.h2, .int .i64 k.h3, .int .i64 k.lo, .int .i64 k.hi] := by
        intro i
        by_cases hi : i < len
        · obtain ⟨cs, hcs, ht⟩ := hel i (by omega)
          obtain ⟨k, rfl⟩ := open_part ht
          rw [Try.cells64] at hcs
          exact ⟨k, fun _ => hcs⟩
        · exact ⟨⟨0, 0, 0, 0, 0, 0⟩, fun h => absurd h hi⟩
      obtain ⟨M, hM⟩ : ∃ M : Nat → Pt, ∀ i, i < len → W.cells? base (a.add (i * 6)) 6 = some [.int .i64 (M i).h0, .int .i64 (M i).h1, .int .i64 (M i).h2, .int .i64 (M i).h3, .int .i64 (M i).lo, .int .i64 (M i).hi] := ⟨fun i => (hkn i).choose, fun i => (hkn i).choose_spec⟩
      refine ⟨some a, cap, (List.range len).map M, by simpa using e, fun i hi => ?_, .inr ⟨_, _, by rw [hx], by simp⟩⟩
      have hi' : i < len := by simpa using hi
      have hs := hM i hi'
      simp only [List.getElem_map, List.getElem_range]
      obtain ⟨b, off, spot⟩ := a
      have hspot : spot = none := by
        have := (World.cells?_some (hM 0 (by omega))).2.2 0 (by omega)
        simpa [Addr.add] using World.cell?_spot this
      subst hspot
      have hc := (World.cells?_some hs).2.2
      have c0 := hc 0 (by omega)
      have c1 := hc 1 (by omega)
      have c2 := hc 2 (by omega)
      have c3 := hc 3 (by omega)
      have c4 := hc 4 (by omega)
      have c5 := hc 5 (by omega)
      rw [Addr.add_lit, Addr.add_lit] at c0 c1 c2 c3 c4 c5
      exact ⟨b, off, rfl, c0, c1, c2, c3, c4, c5⟩
  obtain ⟨pf, cf, ms, e2, hf, hd2⟩ : ∃ (pf : Option Addr) (cf : Nat) (ms : List FrM), v1 = .slice pf ms.length cf ∧ FrsAt W pf ms ∧ (ms.length = 0 ∨ ∃ el sp, y1.1 = .slice el sp ∧ el.length = ms.length ∧ ∀ i (h : i < ms.length), ∃ ds dn, el[i]? = some (.agg [ds, dn]) ∧ (ms[i].f.stay.length = 0 ∨ ∃ el' sp', ds = .slice el' sp' ∧ el'.length = ms[i].f.stay.length)) := by
    rcases open_slice Try.underlying23 h1 with ⟨e, _⟩ | ⟨a, len, cap, m, n', D, Pl, e, _, hl, _, hm, hx, hel⟩
    · exact ⟨none, 0, [], by simpa using e, fun i hi => by simp at hi, .inl rfl⟩
    · have hml : len ≤ m := by rw [hm]; split <;> omega
      have hkn : ∀ i, ∃ k : FrM, i < len → W.cells? base (a.add (i * 3)) 3 = some [.slice k.p k.f.stay.length k.c, .int .i64 k.f.lo, .int .i64 k.f.hi] ∧ IntsAt W k.p k.f.stay ∧ ∃ ds dn, D i = .agg [ds, dn] ∧ (k.f.stay.length = 0 ∨ ∃ el sp, ds = .slice el sp ∧ el.length = k.f.stay.length) := by
        intro i
        by_cases hi : i < len
        · obtain ⟨cs, hcs, ht⟩ := hel i (by omega)
          obtain ⟨k, rfl, hk1, hk2⟩ := open_frame ht
          rw [Try.cells55] at hcs
          exact ⟨k, fun _ => ⟨hcs, hk1, hk2⟩⟩
        · exact ⟨⟨none, 0, ⟨[], 0, 0⟩⟩, fun h => absurd h hi⟩
      obtain ⟨M, hM⟩ : ∃ M : Nat → FrM, ∀ i, i < len → W.cells? base (a.add (i * 3)) 3 = some [.slice (M i).p (M i).f.stay.length (M i).c, .int .i64 (M i).f.lo, .int .i64 (M i).f.hi] ∧ IntsAt W (M i).p (M i).f.stay ∧ ∃ ds dn, D i = .agg [ds, dn] ∧ ((M i).f.stay.length = 0 ∨ ∃ el sp, ds = .slice el sp ∧ el.length = (M i).f.stay.length) := ⟨fun i => (hkn i).choose, fun i => (hkn i).choose_spec⟩
      refine ⟨some a, cap, (List.range len).map M, by simpa using e, fun i hi => ?_, .inr ⟨_, _, by rw [hx], by simp, fun i hi => ?_⟩⟩
      · have hi' : i < len := by simpa using hi
        obtain ⟨hs, hin, _⟩ := hM i hi'
        simp only [List.getElem_map, List.getElem_range]
        obtain ⟨b, off, spot⟩ := a
        have hspot : spot = none := by
          have := (World.cells?_some (hM 0 (by omega)).1).2.2 0 (by omega)
          simpa [Addr.add] using World.cell?_spot this
        subst hspot
        have hc := (World.cells?_some hs).2.2
        have c0 := hc 0 (by omega)
        have c1 := hc 1 (by omega)
        have c2 := hc 2 (by omega)
        rw [Addr.add_lit, Addr.add_lit] at c0 c1 c2
        exact ⟨b, off, rfl, c0, c1, c2, hin⟩
      · have hi' : i < len := by simpa using hi
        obtain ⟨_, _, ds, dn, hd, hs⟩ := hM i hi'
        refine ⟨ds, dn, by simp [hi', hd], ?_⟩
        simpa using hs
  exact ⟨pp, cp, pf, cf, ps, ms, _, _, by rw [e1, e2], rfl, hp, hf, hd1, hd2⟩
end
end Go.Proofs.Ytfppcmechfjpoaa
/- The sizes of a book that comes in as an argument; a list and a pair as arguments. -/
namespace Go.Proofs.Ytfppcmechfjpoaa
open Go.ChangeShapes Go.WideShapes Go.ChangeAt Go.RowKit Go.Joins Go.Deep

theorem Try.bytesInt : Try.prog.bytesOf 3 = 8 := by kernel_rfl
theorem Try.bytesPart : Try.prog.bytesOf 64 = 48 := by kernel_rfl
theorem Try.bytesFrame : Try.prog.bytesOf 55 = 40 := by kernel_rfl
theorem weights_all {H : Type} {P : Program} {e : TypeId} {d : DataW H} : ∀ {l : List (DataW H)}, d ∈ l → ∀ n ∈ d.weights P e, n ∈ DataW.weightsAll P e l
  | x :: l, hd, n, hn => by
    simp only [DataW.weightsAll, List.mem_append]
    rcases List.mem_cons.1 hd with rfl | h
    · exact .inl hn
    · exact .inr (weights_all h n hn)
theorem sized_book {H : Type} {ts : List TypeId} {ds : List (DataW H)} (h : (DataW.weightsEach Try.prog ts ds).all (· ≤ reachBytes) = true) {j : Nat} {dp df : DataW H} (ht : ts[j]? = some 25) (hd : ds[j]? = some (.agg [dp, df])) :
    (∀ el sp, dp = .slice el sp → el.length < 2 ^ 62) ∧ (∀ el sp, df = .slice el sp → el.length < 2 ^ 62 ∧ ∀ (i : Nat) (dt dn : DataW H), el[i]? = some (.agg [dt, dn]) → ∀ el' sp', dt = .slice el' sp' → el'.length < 2 ^ 62) := by
  have hw : ∀ n ∈ DataW.weights Try.prog 25 (.agg [dp, df]), n ≤ reachBytes := fun n hn => by
    have := List.all_eq_true.1 h _ (DataW.weights_mem_each ht hd n hn)
    simpa using this
  constructor
  · rintro el sp rfl
    have := hw ((el.length + sp.length) * Try.prog.bytesOf 64) (by simp [DataW.weights, DataW.weightsEach, Try.underlying25, Try.underlying22])
    rw [Try.bytesPart] at this
    simp only [reachBytes] at this
    omega
  · rintro el sp rfl
    constructor
    · have := hw ((el.length + sp.length) * Try.prog.bytesOf 55) (by simp [DataW.weights, DataW.weightsEach, Try.underlying25, Try.underlying23])
      rw [Try.bytesFrame] at this
      simp only [reachBytes] at this
      omega
    · rintro i dt dn hi el' sp' rfl
      have hm := weights_all (P := Try.prog) (e := 55) (List.mem_of_getElem? hi) ((el'.length + sp'.length) * Try.prog.bytesOf 3) (by simp [DataW.weights, DataW.weightsEach, Try.underlying55, Try.underlying26])
      have := hw ((el'.length + sp'.length) * Try.prog.bytesOf 3) (by simp only [DataW.weights, Try.underlying25]; simp [DataW.weightsEach, DataW.weights, Try.underlying23, hm])
      rw [Try.bytesInt] at this
      simp only [reachBytes] at this
      omega
/-- A book as an argument lies in memory as the contracts want it. -/
theorem book_at {H : Type} {W : World} {pp pf : Option Addr} {ps : List Pt} {ms : List FrM} {dp df : DataW H} {ts : List TypeId} {ds : List (DataW H)} (h : (DataW.weightsEach Try.prog ts ds).all (· ≤ reachBytes) = true) {j : Nat} (ht : ts[j]? = some 25) (hd : ds[j]? = some (.agg [dp, df]))
    (hp : PtsAt W pp ps) (hf : FrsAt W pf ms) (h1 : ps.length = 0 ∨ ∃ el sp, dp = .slice el sp ∧ el.length = ps.length) (h2 : ms.length = 0 ∨ ∃ el sp, df = .slice el sp ∧ el.length = ms.length ∧ ∀ i (h : i < ms.length), ∃ ds dn, el[i]? = some (.agg [ds, dn]) ∧ (ms[i].f.stay.length = 0 ∨ ∃ el' sp', ds = .slice el' sp' ∧ el'.length = ms[i].f.stay.length)) : BkAt W pp pf ps ms := by
  obtain ⟨s1, s2⟩ := sized_book h ht hd
  refine ⟨hp, hf, ?_, ?_, ?_⟩
  · rcases h1 with e | ⟨el, sp, e, hl⟩
    · omega
    · have := s1 el sp e; omega
  · rcases h2 with e | ⟨el, sp, e, hl, _⟩
    · omega
    · have := (s2 el sp e).1; omega
  · intro m hm
    obtain ⟨i, hi, rfl⟩ := List.mem_iff_getElem.1 hm
    rcases h2 with e | ⟨el, sp, e, hl, hx⟩
    · omega
    · obtain ⟨dt, dn, hi2, hz⟩ := hx i hi
      rcases hz with e0 | ⟨el', sp', e', hl'⟩
      · omega
      · have := (s2 el sp e).2 i dt dn hi2 el' sp' e'; omega
set_option maxRecDepth 10000 in
theorem open_two {H : Type} {enc : TypeId × Value → H} {W : World} {base : Nat} {spare : Nat → Bool} {held : Bool} {r : Reach} {b0 : Nat} {v : Value} {d : DataW H} {p : List MemPlace} (hv : Value.okWide Try.prog W r b0 47 v) (h : DataW.Trod enc Try.prog W base spare held 47 v d p) :
    ∃ a b : Int, v = .agg #[.int .i64 a, .int .i64 b] := by
  have hu : Try.prog.underlying 47 = some (.array 2 3) := by kernel_rfl
  simp only [Value.okWide, hu] at hv
  obtain ⟨cs, rfl, _, _⟩ := hv
  obtain ⟨fuel, hf⟩ := h
  obtain ⟨xs, m, _, _, hl, hx, hi⟩ := DataW.trod_array hu hf
  have hc2 : Try.prog.cellsOf 47 = 2 := by kernel_rfl
  rw [hc2] at hl
  have hl' : cs.toList.length = 2 := by simpa [Value.cells] using hl
  have h0 := hi 0 (by omega)
  have h1 := hi 1 (by omega)
  rw [List.getElem?_eq_getElem (by omega)] at h0 h1
  obtain ⟨a, ha, _⟩ := DataW.trod_int Try.underlying3 h0
  obtain ⟨b, hb, _⟩ := DataW.trod_int Try.underlying3 h1
  obtain ⟨l⟩ := cs
  match l, hl' with
  | [c0, c1], _ =>
    simp [Try.cells3, Value.cells] at ha hb
    exact ⟨a, b, by rw [ha, hb]⟩

set_option maxRecDepth 10000 in
theorem open_list {H : Type} {enc : TypeId × Value → H} {W : World} {base : Nat} {spare : Nat → Bool} {held : Bool} {r : Reach} {b0 : Nat} {v : Value} {d : DataW H} {p : List MemPlace} (hv : Value.okWide Try.prog W r b0 26 v) (h : DataW.Trod enc Try.prog W base spare held 26 v d p) :
    ∃ (p1 : Option Addr) (c1 : Nat) (xs : List Int), v = .slice p1 xs.length c1 ∧ IntsAt W p1 xs ∧ xs.length ≤ maxLen := by
  obtain ⟨a0, len0, cap0, rfl⟩ := okWide_slice Try.underlying26 hv
  obtain ⟨fuel, hf⟩ := h
  rcases open_ints Try.underlying26 Try.underlying3 Try.cells3 hf with ⟨e, _⟩ | ⟨a, len, cap, zs, e, _, hl, hm, hz, _, hcell, _⟩
  · simp [Value.cells] at e
    obtain ⟨rfl, rfl, rfl⟩ := e
    exact ⟨none, 0, [], rfl, fun i hi => by simp at hi, by simp⟩
  · simp [Value.cells] at e
    obtain ⟨rfl, rfl, rfl⟩ := e
    have hzl : len0 ≤ zs.length := by rw [hz]; split <;> omega
    have hlen : (zs.take len0).length = len0 := by rw [List.length_take]; omega
    refine ⟨some a, cap0, zs.take len0, by rw [hlen], fun i hi => ?_, by rw [hlen]; omega⟩
    rw [hlen] at hi
    obtain ⟨b, off, spot⟩ := a
    have hspot : spot = none := by simpa [Addr.add] using World.cell?_spot (hcell 0 (by omega))
    subst hspot
    refine ⟨b, off, rfl, ?_⟩
    have := hcell i (by omega)
    rw [Addr.add_lit] at this
    rw [this, at0_lt (by omega), List.getElem_take]
    simp [show i < zs.length by omega]

end Go.Proofs.Ytfppcmechfjpoaa
/- A list of numbers as an argument, with its size. -/
namespace Go.Proofs.Ytfppcmechfjpoaa
open Go.ChangeShapes Go.WideShapes Go.ChangeAt Go.RowKit Go.Joins Go.Deep

set_option maxRecDepth 10000 in
theorem open_list62 {H : Type} {enc : TypeId × Value → H} {W : World} {base : Nat} {spare : Nat → Bool} {held : Bool} {r : Reach} {b0 : Nat} {v : Value} {d : DataW H} {p : List MemPlace} {ts : List TypeId} {ds : List (DataW H)} (hsz : (DataW.weightsEach Try.prog ts ds).all (· ≤ reachBytes) = true) {j : Nat} (ht : ts[j]? = some 26) (hd : ds[j]? = some d)
    (hv : Value.okWide Try.prog W r b0 26 v) (h : DataW.Trod enc Try.prog W base spare held 26 v d p) :
    ∃ (p1 : Option Addr) (c1 : Nat) (xs : List Int), v = .slice p1 xs.length c1 ∧ IntsAt W p1 xs ∧ xs.length < 2 ^ 62 := by
  obtain ⟨a0, len0, cap0, rfl⟩ := okWide_slice Try.underlying26 hv
  obtain ⟨fuel, hf⟩ := h
  rcases open_ints Try.underlying26 Try.underlying3 Try.cells3 hf with ⟨e, _⟩ | ⟨a, len, cap, zs, e, _, hl, hm, hz, hx, hcell, _⟩
  · simp [Value.cells] at e
    obtain ⟨rfl, rfl, rfl⟩ := e
    exact ⟨none, 0, [], rfl, fun i hi => by simp at hi, by simp⟩
  · simp [Value.cells] at e
    obtain ⟨rfl, rfl, rfl⟩ := e
    have hzl : len0 ≤ zs.length := by rw [hz]; split <;> omega
    have hlen : (zs.take len0).length = len0 := by rw [List.length_take]; omega
    have hdd : d = .slice (lits .i64 (zs.take len0)) (lits .i64 (zs.drop len0)) := congrArg Prod.fst hx
    have hw := sized_slice hsz ht (hd.trans (by rw [hdd])) Try.underlying26
    rw [Try.bytesInt] at hw
    simp only [lits, List.length_map, List.length_take, List.length_drop, reachBytes] at hw
    refine ⟨some a, cap0, zs.take len0, by rw [hlen], fun i hi => ?_, by rw [hlen]; omega⟩
    rw [hlen] at hi
    obtain ⟨b, off, spot⟩ := a
    have hspot : spot = none := by simpa [Addr.add] using World.cell?_spot (hcell 0 (by omega))
    subst hspot
    refine ⟨b, off, rfl, ?_⟩
    have := hcell i (by omega)
    rw [Addr.add_lit] at this
    rw [this, at0_lt (by omega), List.getElem_take]
    simp [show i < zs.length by omega]
end Go.Proofs.Ytfppcmechfjpoaa
