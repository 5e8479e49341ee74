/- A log, and a list with its room, that come in as arguments. -/
import Derived.Test.YticfcdbfplfmlaaLB
import Derived.Test.YticfcdbfplfmlaaLD
import Derived.Test.YticfcdbfplfmlaaPCX
namespace Go.Proofs.Yticfcdbfplfmlaa.Pe
open Go.ChangeShapes Go.WideShapes Go.ChangeAt Go.RowKit Go.Joins Go.Deep

theorem Try.cells32 : Try.prog.cellsOf 32 = 4 := by kernel_rfl
theorem Try.bytesKnot : Try.prog.bytesOf 32 = 32 := by kernel_rfl

section
variable {H : Type} {enc : TypeId × Value → H} {W : World} {base : Nat} {spare : Nat → Bool} {held : Bool}
set_option maxRecDepth 10000 in
theorem open_knot {n : Nat} {cs : List Value} {x : DataW H × List MemPlace} (h : DataW.trod enc Try.prog W base spare held n 32 cs = some x) : ∃ k : K4, cs = [.int .i64 k.al, .int .i64 k.ah, .int .i64 k.fl, .int .i64 k.fh] := by
  obtain ⟨y0, y1, n1, _, hl, h0, h1⟩ := trod_struct2 Try.underlying32 h
  obtain ⟨z0, z1, n2, _, _, g0, g1⟩ := trod_struct2 Try.underlying29 h0
  obtain ⟨z2, z3, n3, _, _, g2, g3⟩ := trod_struct2 Try.underlying29 h1
  obtain ⟨a, ha, _⟩ := DataW.trod_int Try.underlying3 g0
  obtain ⟨b, hb, _⟩ := DataW.trod_int Try.underlying3 g1
  obtain ⟨c, hc, _⟩ := DataW.trod_int Try.underlying3 g2
  obtain ⟨d, hd, _⟩ := DataW.trod_int Try.underlying3 g3
  rw [Try.cells32] at hl
  match cs, hl with
  | [c0, c1, c2, c3], _ =>
    simp [Try.cells3, Try.cells29] at ha hb hc hd
    exact ⟨⟨a, b, c, d⟩, by rw [ha, hb, hc, hd]⟩


set_option maxRecDepth 10000 in
theorem open_log {r : Reach} {b0 : Nat} {v : Value} {d : DataW H} {p : List MemPlace} (hv : Value.okWide Try.prog W r b0 25 v) (h : DataW.Trod enc Try.prog W base spare held 25 v d p) :
    ∃ (p1 : Option Addr) (c1 : Nat) (p2 : Option Addr) (c2 : Nat) (long : List Int) (sz : Int) (ks : List K4) (dl dm dk : DataW H), v = .agg #[.slice p1 long.length c1, .int .i64 sz, .slice p2 ks.length c2] ∧ d = .agg [dl, dm, dk] ∧ IntsAt W p1 long ∧ KnotsAt W p2 ks ∧ long.length ≤ c1 ∧ ks.length ≤ c2 ∧
      (long.length = 0 ∨ ∃ el sp, dl = .slice el sp ∧ el.length = long.length) ∧ (ks.length = 0 ∨ ∃ el sp, dk = .slice el sp ∧ el.length = ks.length) := by
  obtain ⟨v0, v1, v2, y0, y1, y2, n, rfl, rfl, _, h0, h1, h2⟩ := open_agg3 Try.underlying25 (by kernel_rfl) (by kernel_rfl) hv h
  obtain ⟨s, hs, _⟩ := DataW.trod_int Try.underlying3 h1
  obtain rfl : v1 = .int .i64 s := by simpa using hs
  obtain ⟨p1, c1, long, e1, hi, hc1, hd1⟩ : ∃ (p1 : Option Addr) (c1 : Nat) (long : List Int), v0 = .slice p1 long.length c1 ∧ IntsAt W p1 long ∧ long.length ≤ c1 ∧ (long.length = 0 ∨ ∃ el sp, y0.1 = .slice el sp ∧ el.length = long.length) := by
    rcases open_ints Try.underlying22 Try.underlying3 Try.cells3 h0 with ⟨e, _⟩ | ⟨a, len, cap, zs, e, _, hl, _, hz, hx, hcell, _⟩
    · exact ⟨none, 0, [], by simpa using e, fun i hi => by simp at hi, by simp, .inl rfl⟩
    · have hzl : len ≤ zs.length := by rw [hz]; split <;> omega
      have hlen : (zs.take len).length = len := by rw [List.length_take]; omega
      refine ⟨some a, cap, zs.take len, by rw [hlen]; simpa using e, fun i hi => ?_, by rw [hlen]; exact hl, .inr ⟨_, _, by rw [hx], by simp [lits]⟩⟩
      rw [hlen] at hi
      obtain ⟨b, off, spot⟩ := a
      have hspot : spot = none := by simpa [Addr.add] using World.cell?_spot (hcell 0 (by omega))
      subst hspot
      refine ⟨b, off, rfl, ?_⟩
      have := hcell i (by omega)
      rw [Addr.add_lit] at this
      rw [this, at0_lt (by omega), List.getElem_take]
      simp [show i < zs.length by omega]
  obtain ⟨p2, c2, ks, e2, hk, hc2, hd2⟩ : ∃ (p2 : Option Addr) (c2 : Nat) (ks : List K4), v2 = .slice p2 ks.length c2 ∧ KnotsAt W p2 ks ∧ ks.length ≤ c2 ∧ (ks.length = 0 ∨ ∃ el sp, y2.1 = .slice el sp ∧ el.length = ks.length) := by
    rcases open_slice Try.underlying23 h2 with ⟨e, _⟩ | ⟨a, len, cap, m, n', D, Pl, e, _, hl, _, hm, hx, hel⟩
    · exact ⟨none, 0, [], by simpa using e, fun i hi => by simp at hi, by simp, .inl rfl⟩
    · have hml : len ≤ m := by rw [hm]; split <;> omega
      have hkn : ∀ i, i < len → ∃ k : K4, W.cells? base (a.add (i * 4)) 4 = some [.int .i64 k.al, .int .i64 k.ah, .int .i64 k.fl, .int .i64 k.fh] := by
        intro i hi
        obtain ⟨cs, hcs, ht⟩ := hel i (by omega)
        obtain ⟨k, rfl⟩ := open_knot ht
        rw [Try.cells32] at hcs
        exact ⟨k, hcs⟩
      refine ⟨some a, cap, (List.range len).map fun i => if hi : i < len then (hkn i hi).choose else ⟨0, 0, 0, 0⟩, by simpa using e, fun i hi => ?_, by simpa using hl, .inr ⟨_, _, by rw [hx], by simp⟩⟩
      have hi' : i < len := by simpa using hi
      have hs := (hkn i hi').choose_spec
      obtain ⟨k0, hk0⟩ := hkn 0 (by omega)
      simp only [List.getElem_map, List.getElem_range, hi', dif_pos]
      generalize (hkn i hi').choose = k at *
      obtain ⟨b, off, spot⟩ := a
      have hspot : spot = none := by
        have := (World.cells?_some hk0).2.2 0 (by omega)
        simpa [Addr.add] using World.cell?_spot this
      subst hspot
      have hc := (World.cells?_some hs).2.2
      have e0 := hc 0 (by omega)
      have e1 := hc 1 (by omega)
      have e2 := hc 2 (by omega)
      have e3 := hc 3 (by omega)
      rw [Addr.add_lit, Addr.add_lit] at e0 e1 e2 e3
      exact ⟨b, off, rfl, e0, e1, e2, e3⟩
  exact ⟨p1, c1, p2, c2, long, s, ks, _, _, _, by rw [e1, e2], rfl, hi, hk, hc1, hc2, hd1, hd2⟩
end
/-- What is said of the sizes of a log's slices. -/
theorem sized_log {H : Type} {ts : List TypeId} {ds : List (DataW H)} (h : (DataW.weightsEach Try.prog ts ds).all (· ≤ reachBytes) = true) {j : Nat} {dl dm dk : DataW H} (ht : ts[j]? = some 25) (hd : ds[j]? = some (.agg [dl, dm, dk])) :
    (∀ el sp, dl = .slice el sp → el.length < 2 ^ 62) ∧ (∀ el sp, dk = .slice el sp → el.length < 2 ^ 62) := by
  have hw : ∀ n ∈ DataW.weights Try.prog 25 (.agg [dl, dm, dk]), n ≤ reachBytes := fun n hn => by
    have := List.all_eq_true.1 h _ (DataW.weights_mem_each ht hd n hn)
    simpa using this
  constructor
  · rintro el sp rfl
    have := hw ((el.length + sp.length) * Try.prog.bytesOf 3) (by simp [DataW.weights, DataW.weightsEach, Try.underlying25, Try.underlying22])
    rw [Try.bytesInt] at this
    simp only [reachBytes] at this
    omega
  · rintro el sp rfl
    have := hw ((el.length + sp.length) * Try.prog.bytesOf 32) (by simp [DataW.weights, DataW.weightsEach, Try.underlying25, Try.underlying23])
    rw [Try.bytesKnot] at this
    simp only [reachBytes] at this
    omega
end Go.Proofs.Yticfcdbfplfmlaa.Pe
namespace Go.Proofs.Yticfcdbfplfmlaa
open Go.ChangeShapes Go.WideShapes Go.ChangeAt Go.RowKit Go.Joins Go.Deep
set_option maxRecDepth 10000 in
/-- Of a list that comes in: its room. -/
theorem open_room {W : World} {r : Reach} {b0 : Nat} {q : Option Addr} {n c : Nat} (hv : Value.okWide Try.prog W r b0 22 (.slice q n c)) : n ≤ c ∧ ((q = none ∧ c = 0) ∨ ∃ b o, q = some ⟨b, o, none⟩) := by
  simp only [Value.okWide, Try.underlying22, Cell.okWide] at hv
  cases q with
  | none =>
    simp only [Cell.ok, Try.underlying22] at hv
    cases n with
    | succ n => exact hv.elim
    | zero =>
      cases c with
      | succ c => exact hv.elim
      | zero => exact ⟨Nat.le_refl _, .inl ⟨rfl, rfl⟩⟩
  | some a =>
    simp only [Cell.ok, Try.underlying22] at hv
    obtain ⟨b, o, s⟩ := a
    obtain ⟨h1, _, _, h2, _⟩ := hv
    cases h2
    exact ⟨h1, .inr ⟨b, o, rfl⟩⟩
end Go.Proofs.Yticfcdbfplfmlaa
