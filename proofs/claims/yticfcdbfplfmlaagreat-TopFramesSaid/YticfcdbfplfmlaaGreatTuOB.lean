/- A book that comes in as an argument: what its reading tells of its cells. -/
import Derived.Test.YticfcdbfplfmlaaGreatTFX
import Derived.ProofKit
import Derived.SizedLaws
import Derived.Lib.SmallJoins
import Derived.Deep.Slices
namespace Go.Proofs.YticfcdbfplfmlaaGreat.Tu
open Go.ChangeShapes Go.WideShapes Go.ChangeAt Go.RowKit Go.Joins Go.Deep

theorem Tryz.own : ownKnob Tryz.prog.godebug = none := by kernel_rfl
theorem Tryz.laidOut : laidOutB Tryz.prog = true := by kernel_rfl
theorem Tryz.cells3 : Tryz.prog.cellsOf 3 = 1 := by kernel_rfl
theorem Tryz.cells43 : Tryz.prog.cellsOf 43 = 2 := by kernel_rfl
theorem Tryz.cells74 : Tryz.prog.cellsOf 74 = 4 := by kernel_rfl
theorem Tryz.cells81 : Tryz.prog.cellsOf 81 = 6 := by kernel_rfl
theorem Tryz.cells50 : Tryz.prog.cellsOf 50 = 3 := by kernel_rfl
theorem Tryz.cells29 : Tryz.prog.cellsOf 29 = 1 := by kernel_rfl

section
variable {H : Type} {enc : TypeId × Value → H} {W : World} {base : Nat} {spare : Nat → Bool} {held : Bool}
set_option maxRecDepth 10000 in
theorem open_part {n : Nat} {cs : List Value} {x : DataW H × List MemPlace} (h : DataW.trod enc Tryz.prog W base spare held n 81 cs = some x) : ∃ p : Pt, cs = [.int .i64 p.h0, .int .i64 p.h1, .int .i64 p.h2, .int .i64 p.h3, .int .i64 p.lo, .int .i64 p.hi] := by
  obtain ⟨y0, y1, n1, _, hl, h0, h1⟩ := trod_struct2 Tryz.underlying81 h
  have hu : Tryz.prog.underlying 74 = some (.array 4 3) := by kernel_rfl
  obtain ⟨xs, m, _, _, hl4, hx, hi⟩ := DataW.trod_array hu h0
  obtain ⟨z0, z1, n2, _, _, g0, g1⟩ := trod_struct2 Tryz.underlying43 h1
  obtain ⟨a, ha, _⟩ := DataW.trod_int Tryz.underlying3 g0
  obtain ⟨b, hb, _⟩ := DataW.trod_int Tryz.underlying3 g1
  have i0 := hi 0 (by omega)
  have i1 := hi 1 (by omega)
  have i2 := hi 2 (by omega)
  have i3 := hi 3 (by omega)
  rw [List.getElem?_eq_getElem (by omega)] at i0 i1 i2 i3
  obtain ⟨c0, hc0, _⟩ := DataW.trod_int Tryz.underlying3 i0
  obtain ⟨c1, hc1, _⟩ := DataW.trod_int Tryz.underlying3 i1
  obtain ⟨c2, hc2, _⟩ := DataW.trod_int Tryz.underlying3 i2
  obtain ⟨c3, hc3, _⟩ := DataW.trod_int Tryz.underlying3 i3
  rw [Tryz.cells81] at hl
  match cs, hl with
  | [k0, k1, k2, k3, k4, k5], _ =>
    simp [Tryz.cells3, Tryz.cells43, Tryz.cells74] at ha hb hc0 hc1 hc2 hc3
    exact ⟨⟨c0, c1, c2, c3, a, b⟩, by rw [ha, hb, hc0, hc1, hc2, hc3]⟩

set_option maxRecDepth 10000 in
theorem open_frame {n : Nat} {cs : List Value} {x : DataW H × List MemPlace} (h : DataW.trod enc Tryz.prog W base spare held n 50 cs = some x) : ∃ m : FrM, cs = [.slice m.p m.f.stay.length m.c, .int .i64 m.f.lo, .int .i64 m.f.hi] ∧ IntsAt W m.p m.f.stay ∧ ∃ ds dn, x.1 = .agg [ds, dn] ∧ (m.f.stay.length = 0 ∨ ∃ el sp, ds = .slice el sp ∧ el.length = m.f.stay.length) := by
  obtain ⟨y0, y1, n1, hx1, hl, h0, h1⟩ := trod_struct2 Tryz.underlying50 h
  obtain ⟨z0, z1, n2, _, _, g0, g1⟩ := trod_struct2 Tryz.underlying43 h1
  obtain ⟨a, ha, _⟩ := DataW.trod_int Tryz.underlying3 g0
  obtain ⟨b, hb, _⟩ := DataW.trod_int Tryz.underlying3 g1
  rw [Tryz.cells50] at hl
  match cs, hl with
  | [k0, k1, k2], _ =>
    simp [Tryz.cells3, Tryz.cells43, Tryz.cells29] at ha hb h0
    rcases open_ints Tryz.underlying29 Tryz.underlying3 Tryz.cells3 h0 with ⟨e, _⟩ | ⟨q, len, cap, zs, e, _, hl, hm, hz, hx, hcell, _⟩
    · simp at e
      exact ⟨⟨none, 0, ⟨[], a, b⟩⟩, by rw [e, ha, hb]; rfl, fun i hi => by simp at hi, _, _, by rw [hx1], .inl rfl⟩
    · simp at e
      have hzl : len ≤ zs.length := by rw [hz]; split <;> omega
      have hlen : (zs.take len).length = len := by rw [List.length_take]; omega
      refine ⟨⟨some q, cap, ⟨zs.take len, a, b⟩⟩, by rw [e, ha, hb, hlen], fun i hi => ?_, _, _, by rw [hx1], .inr ⟨_, _, by rw [hx], by simp [lits]⟩⟩
      simp only at hi ⊢
      rw [hlen] at hi
      obtain ⟨b', off, spot⟩ := q
      have hspot : spot = none := by simpa [Addr.add] using World.cell?_spot (hcell 0 (by omega))
      subst hspot
      refine ⟨b', off, rfl, ?_⟩
      have := hcell i (by omega)
      rw [Addr.add_lit] at this
      rw [this, at0_lt (by omega), List.getElem_take]
      simp [show i < zs.length by omega]
set_option maxRecDepth 10000 in
theorem open_book {r : Reach} {b0 : Nat} {v : Value} {d : DataW H} {p : List MemPlace} (hv : Value.okWide Tryz.prog W r b0 25 v) (h : DataW.Trod enc Tryz.prog W base spare held 25 v d p) :
    ∃ (pp : Option Addr) (cp : Nat) (pf : Option Addr) (cf : Nat) (ps : List Pt) (ms : List FrM) (dp df : DataW H), v = .agg #[.slice pp ps.length cp, .slice pf ms.length cf] ∧ d = .agg [dp, df] ∧ PtsAt W pp ps ∧ FrsAt W pf ms ∧
      (ps.length = 0 ∨ ∃ el sp, dp = .slice el sp ∧ el.length = ps.length) ∧ (ms.length = 0 ∨ ∃ el sp, df = .slice el sp ∧ el.length = ms.length ∧ ∀ i (h : i < ms.length), ∃ ds dn, el[i]? = some (.agg [ds, dn]) ∧ (ms[i].f.stay.length = 0 ∨ ∃ el' sp', ds = .slice el' sp' ∧ el'.length = ms[i].f.stay.length)) := by
  obtain ⟨v0, v1, y0, y1, n, rfl, rfl, _, h0, h1⟩ := open_agg2 Tryz.underlying25 (by kernel_rfl) (by kernel_rfl) hv h
  obtain ⟨pp, cp, ps, e1, hp, hd1⟩ : ∃ (pp : Option Addr) (cp : Nat) (ps : List Pt), v0 = .slice pp ps.length cp ∧ PtsAt W pp ps ∧ (ps.length = 0 ∨ ∃ el sp, y0.1 = .slice el sp ∧ el.length = ps.length) := by
    rcases open_slice Tryz.underlying22 h0 with ⟨e, _⟩ | ⟨a, len, cap, m, n', D, Pl, e, _, hl, _, hm, hx, hel⟩
    · exact ⟨none, 0, [], by simpa using e, fun i hi => by simp at hi, .inl rfl⟩
    · have hml : len ≤ m := by rw [hm]; split <;> omega
      have hkn : ∀ i, ∃ k : Pt, i < len → W.cells? base (a.add (i * 6)) 6 = some [.int .i64 k.h0, .int .i64 k.h1, .int .i64 k.h2, .int .i64 k.h3, .int .i64 k.lo, .int .i64 k.hi] := by
        intro i
        by_cases hi : i < len
        · obtain ⟨cs, hcs, ht⟩ := hel i (by omega)
          obtain ⟨k, rfl⟩ := open_part ht
          rw [Tryz.cells81] at hcs
          exact ⟨k, fun _ => hcs⟩
        · exact ⟨⟨0, 0, 0, 0, 0, 0⟩, fun h => absurd h hi⟩
      obtain ⟨M, hM⟩ : ∃ M : Nat → Pt, ∀ i, i < len → W.cells? base (a.add (i * 6)) 6 = some [.int .i64 (M i).h0, .int .i64 (M i).h1, .int .i64 (M i).h2, .int .i64 (M i).h3, .int .i64 (M i).lo, .int .i64 (M i).hi] := ⟨fun i => (hkn i).choose, fun i => (hkn i).choose_spec⟩
      refine ⟨some a, cap, (List.range len).map M, by simpa using e, fun i hi => ?_, .inr ⟨_, _, by rw [hx], by simp⟩⟩
      have hi' : i < len := by simpa using hi
      have hs := hM i hi'
      simp only [List.getElem_map, List.getElem_range]
      obtain ⟨b, off, spot⟩ := a
      have hspot : spot = none := by
        have := (World.cells?_some (hM 0 (by omega))).2.2 0 (by omega)
        simpa [Addr.add] using World.cell?_spot this
      subst hspot
      have hc := (World.cells?_some hs).2.2
      have c0 := hc 0 (by omega)
      have c1 := hc 1 (by omega)
      have c2 := hc 2 (by omega)
      have c3 := hc 3 (by omega)
      have c4 := hc 4 (by omega)
      have c5 := hc 5 (by omega)
      rw [Addr.add_lit, Addr.add_lit] at c0 c1 c2 c3 c4 c5
      exact ⟨b, off, rfl, c0, c1, c2, c3, c4, c5⟩
  obtain ⟨pf, cf, ms, e2, hf, hd2⟩ : ∃ (pf : Option Addr) (cf : Nat) (ms : List FrM), v1 = .slice pf ms.length cf ∧ FrsAt W pf ms ∧ (ms.length = 0 ∨ ∃ el sp, y1.1 = .slice el sp ∧ el.length = ms.length ∧ ∀ i (h : i < ms.length), ∃ ds dn, el[i]? = some (.agg [ds, dn]) ∧ (ms[i].f.stay.length = 0 ∨ ∃ el' sp', ds = .slice el' sp' ∧ el'.length = ms[i].f.stay.length)) := by
    rcases open_slice Tryz.underlying23 h1 with ⟨e, _⟩ | ⟨a, len, cap, m, n', D, Pl, e, _, hl, _, hm, hx, hel⟩
    · exact ⟨none, 0, [], by simpa using e, fun i hi => by simp at hi, .inl rfl⟩
    · have hml : len ≤ m := by rw [hm]; split <;> omega
      have hkn : ∀ i, ∃ k : FrM, i < len → W.cells? base (a.add (i * 3)) 3 = some [.slice k.p k.f.stay.length k.c, .int .i64 k.f.lo, .int .i64 k.f.hi] ∧ IntsAt W k.p k.f.stay ∧ ∃ ds dn, D i = .agg [ds, dn] ∧ (k.f.stay.length = 0 ∨ ∃ el sp, ds = .slice el sp ∧ el.length = k.f.stay.length) := by
        intro i
        by_cases hi : i < len
        · obtain ⟨cs, hcs, ht⟩ := hel i (by omega)
          obtain ⟨k, rfl, hk1, hk2⟩ := open_frame ht
          rw [Tryz.cells50] at hcs
          exact ⟨k, fun _ => ⟨hcs, hk1, hk2⟩⟩
        · exact ⟨⟨none, 0, ⟨[], 0, 0⟩⟩, fun h => absurd h hi⟩
      obtain ⟨M, hM⟩ : ∃ M : Nat → FrM, ∀ i, i < len → W.cells? base (a.add (i * 3)) 3 = some [.slice (M i).p (M i).f.stay.length (M i).c, .int .i64 (M i).f.lo, .int .i64 (M i).f.hi] ∧ IntsAt W (M i).p (M i).f.stay ∧ ∃ ds dn, D i = .agg [ds, dn] ∧ ((M i).f.stay.length = 0 ∨ ∃ el sp, ds = .slice el sp ∧ el.length = (M i).f.stay.length) := ⟨fun i => (hkn i).choose, fun i => (hkn i).choose_spec⟩
      refine ⟨some a, cap, (List.range len).map M, by simpa using e, fun i hi => ?_, .inr ⟨_, _, by rw [hx], by simp, fun i hi => ?_⟩⟩
      · have hi' : i < len := by simpa using hi
        obtain ⟨hs, hin, _⟩ := hM i hi'
        simp only [List.getElem_map, List.getElem_range]
        obtain ⟨b, off, spot⟩ := a
        have hspot : spot = none := by
          have := (World.cells?_some (hM 0 (by omega)).1).2.2 0 (by omega)
          simpa [Addr.add] using World.cell?_spot this
        subst hspot
        have hc := (World.cells?_some hs).2.2
        have c0 := hc 0 (by omega)
        have c1 := hc 1 (by omega)
        have c2 := hc 2 (by omega)
        rw [Addr.add_lit, Addr.add_lit] at c0 c1 c2
        exact ⟨b, off, rfl, c0, c1, c2, hin⟩
      · have hi' : i < len := by simpa using hi
        obtain ⟨_, _, ds, dn, hd, hs⟩ := hM i hi'
        refine ⟨ds, dn, by simp [hi', hd], ?_⟩
        simpa using hs
  exact ⟨pp, cp, pf, cf, ps, ms, _, _, by rw [e1, e2], rfl, hp, hf, hd1, hd2⟩
end
end Go.Proofs.YticfcdbfplfmlaaGreat.Tu
