/- A book of layer 5 that comes in as an argument: what its reading tells of its cells; lists and arrays as arguments. -/
import Derived.Test.YticfcdbfplfmlaaGreatFAX
import Derived.ProofKit
import Derived.SizedLaws
import Derived.Lib.SmallJoins
import Derived.Deep.Slices
namespace Go.Proofs.YticfcdbfplfmlaaGreat
open Go.ChangeShapes Go.WideShapes Go.ChangeAt Go.RowKit Go.Joins Go.Deep

theorem Tryz.own : ownKnob Tryz.prog.godebug = none := by kernel_rfl
theorem Tryz.laidOut : laidOutB Tryz.prog = true := by kernel_rfl
theorem Tryz.cells3 : Tryz.prog.cellsOf 3 = 1 := by kernel_rfl
theorem Tryz.cells43 : Tryz.prog.cellsOf 43 = 2 := by kernel_rfl
theorem Tryz.cells26 : Tryz.prog.cellsOf 26 = 1 := by kernel_rfl
theorem Tryz.cells28 : Tryz.prog.cellsOf 28 = 5 := by kernel_rfl
theorem Tryz.bytesInt : Tryz.prog.bytesOf 3 = 8 := by kernel_rfl
theorem Tryz.bytesSpan : Tryz.prog.bytesOf 43 = 16 := by kernel_rfl

section
variable {H : Type} {enc : TypeId × Value → H} {W : World} {base : Nat} {spare : Nat → Bool} {held : Bool}
set_option maxRecDepth 10000 in
theorem open_span {n : Nat} {cs : List Value} {x : DataW H × List MemPlace} (h : DataW.trod enc Tryz.prog W base spare held n 43 cs = some x) : ∃ k : Hd, cs = [.int .i64 k.lo, .int .i64 k.hi] := by
  obtain ⟨y0, y1, n1, _, hl, h0, h1⟩ := trod_struct2 Tryz.underlying43 h
  obtain ⟨a, ha, _⟩ := DataW.trod_int Tryz.underlying3 h0
  obtain ⟨b, hb, _⟩ := DataW.trod_int Tryz.underlying3 h1
  rw [Tryz.cells43] at hl
  match cs, hl with
  | [c0, c1], _ =>
    simp [Tryz.cells3] at ha hb
    exact ⟨⟨a, b⟩, by rw [ha, hb]⟩
theorem wf_range {n : Int} (h : (Lit.int .i64 n).wf = true) : I64 n := bounds_i64 h
set_option maxRecDepth 10000 in
theorem open_fill {r : Reach} {b0 : Nat} {v : Value} {d : DataW H} {p : List MemPlace} (hv : Value.okWide Tryz.prog W r b0 28 v) (h : DataW.Trod enc Tryz.prog W base spare held 28 v d p) :
    ∃ (q : Option Addr) (c : Nat) (b : Bf) (d0 d1 d2 d3 dl : DataW H), v = .agg (bfA b q c) ∧ d = .agg [d0, d1, d2, d3, dl] ∧ HdsAt W q b.hs ∧ b.hs.length ≤ c ∧ I64 b.pr ∧ (b.hs.length = 0 ∨ ∃ el sp, dl = .slice el sp ∧ el.length = b.hs.length) := by
  obtain ⟨cs, rfl, hsz⟩ := okWide_struct Tryz.underlying28 hv
  rw [Tryz.cells28] at hsz
  obtain ⟨fuel, hf⟩ := h
  obtain ⟨xs, n, _, hx, hl, hlen, hi⟩ := DataW.trod_struct Tryz.underlying28 hf
  have f0 := hi 0 _ rfl
  have f1 := hi 1 _ rfl
  have f2 := hi 2 _ rfl
  have f3 := hi 3 _ rfl
  have f4 := hi 4 _ rfl
  obtain ⟨c0, c1, c2, c3, c4, rfl⟩ : ∃ c0 c1 c2 c3 c4, cs = #[c0, c1, c2, c3, c4] := by
    match cs, hsz with
    | ⟨[c0, c1, c2, c3, c4]⟩, _ => exact ⟨c0, c1, c2, c3, c4, rfl⟩
  match xs, hlen with
  | [y0, y1, y2, y3, y4], _ =>
    simp [Value.cells, Tryz.cells3, Tryz.cells26] at f0 f1 f2 f3 f4
    obtain ⟨a0, h0, _, w0⟩ := DataW.trod_int Tryz.underlying3 f0
    obtain ⟨a1, h1, _⟩ := DataW.trod_int Tryz.underlying3 f1
    obtain ⟨a2, h2, _⟩ := DataW.trod_int Tryz.underlying3 f2
    obtain ⟨a3, h3, _⟩ := DataW.trod_int Tryz.underlying3 f3
    simp at h0 h1 h2 h3
    subst h0 h1 h2 h3
    obtain ⟨q, c, hs, e2, hk, hc2, hd2⟩ : ∃ (q : Option Addr) (c : Nat) (hs : List Hd), c4 = .slice q hs.length c ∧ HdsAt W q hs ∧ hs.length ≤ c ∧ (hs.length = 0 ∨ ∃ el sp, y4.1 = .slice el sp ∧ el.length = hs.length) := by
      rcases open_slice Tryz.underlying26 f4 with ⟨e, _⟩ | ⟨a, len, cap, m, n', D, Pl, e, _, hl, _, hm, hx, hel⟩
      · exact ⟨none, 0, [], by simpa using e, fun i hi => by simp at hi, by simp, .inl rfl⟩
      · have hml : len ≤ m := by rw [hm]; split <;> omega
        have hkn : ∀ i, ∃ k : Hd, i < len → W.cells? base (a.add (i * 2)) 2 = some [.int .i64 k.lo, .int .i64 k.hi] := by
          intro i
          by_cases hi : i < len
          · obtain ⟨cs, hcs, ht⟩ := hel i (by omega)
            obtain ⟨k, rfl⟩ := open_span ht
            rw [Tryz.cells43] at hcs
            exact ⟨k, fun _ => hcs⟩
          · exact ⟨⟨0, 0⟩, fun h => absurd h hi⟩
        obtain ⟨M, hM⟩ : ∃ M : Nat → Hd, ∀ i, i < len → W.cells? base (a.add (i * 2)) 2 = some [.int .i64 (M i).lo, .int .i64 (M i).hi] := ⟨fun i => (hkn i).choose, fun i => (hkn i).choose_spec⟩
        refine ⟨some a, cap, (List.range len).map M, by simpa using e, fun i hi => ?_, by simpa using hl, .inr ⟨_, _, by rw [hx], by simp⟩⟩
        have hi' : i < len := by simpa using hi
        have hs := hM i hi'
        simp only [List.getElem_map, List.getElem_range]
        obtain ⟨b, off, spot⟩ := a
        have hspot : spot = none := by
          have := (World.cells?_some (hM 0 (by omega))).2.2 0 (by omega)
          simpa [Addr.add] using World.cell?_spot this
        subst hspot
        have hc := (World.cells?_some hs).2.2
        have e0 := hc 0 (by omega)
        have e1 := hc 1 (by omega)
        rw [Addr.add_lit, Addr.add_lit] at e0 e1
        exact ⟨b, off, rfl, e0, e1⟩
    subst e2
    simp only [Prod.mk.injEq] at hx
    exact ⟨q, c, ⟨a0, a1, a2, a3, hs⟩, y0.1, y1.1, y2.1, y3.1, y4.1, rfl, by simpa using hx.1, hk, hc2, wf_range w0, hd2⟩
end
/-- A book as an argument lies in memory as the contracts want it. -/
theorem fill_at {H : Type} {W : World} {q : Option Addr} {c : Nat} {b : Bf} {d0 d1 d2 d3 dl : DataW H} {ts : List TypeId} {ds : List (DataW H)} (h : (DataW.weightsEach Tryz.prog ts ds).all (· ≤ reachBytes) = true) {j : Nat} (ht : ts[j]? = some 28) (hd : ds[j]? = some (.agg [d0, d1, d2, d3, dl]))
    (hk : HdsAt W q b.hs) (hc : b.hs.length ≤ c) (h1 : I64 b.pr) (h2 : b.hs.length = 0 ∨ ∃ el sp, dl = .slice el sp ∧ el.length = b.hs.length) : BfAt W q c b := by
  refine ⟨hk, ?_, hc, h1⟩
  rcases h2 with e | ⟨el, sp, rfl, hl⟩
  · omega
  · have hw : ∀ n ∈ DataW.weights Tryz.prog 28 (.agg [d0, d1, d2, d3, .slice el sp]), n ≤ reachBytes := fun n hn => by
      have := List.all_eq_true.1 h _ (DataW.weights_mem_each ht hd n hn)
      simpa using this
    have := hw ((el.length + sp.length) * Tryz.prog.bytesOf 43) (by simp [DataW.weights, DataW.weightsEach, Tryz.underlying28, Tryz.underlying26])
    rw [Tryz.bytesSpan] at this
    simp only [reachBytes] at this
    omega
set_option maxRecDepth 10000 in
theorem open_list {H : Type} {enc : TypeId × Value → H} {W : World} {base : Nat} {spare : Nat → Bool} {held : Bool} {r : Reach} {b0 : Nat} {v : Value} {d : DataW H} {p : List MemPlace} (hv : Value.okWide Tryz.prog W r b0 29 v) (h : DataW.Trod enc Tryz.prog W base spare held 29 v d p) :
    ∃ (p1 : Option Addr) (c1 : Nat) (xs : List Int), v = .slice p1 xs.length c1 ∧ IntsAt W p1 xs ∧ xs.length ≤ maxLen := by
  obtain ⟨a0, len0, cap0, rfl⟩ := okWide_slice Tryz.underlying29 hv
  obtain ⟨fuel, hf⟩ := h
  rcases open_ints Tryz.underlying29 Tryz.underlying3 Tryz.cells3 hf with ⟨e, _⟩ | ⟨a, len, cap, zs, e, _, hl, hm, hz, _, hcell, _⟩
  · simp [Value.cells] at e
    obtain ⟨rfl, rfl, rfl⟩ := e
    exact ⟨none, 0, [], rfl, fun i hi => by simp at hi, by simp⟩
  · simp [Value.cells] at e
    obtain ⟨rfl, rfl, rfl⟩ := e
    have hzl : len0 ≤ zs.length := by rw [hz]; split <;> omega
    have hlen : (zs.take len0).length = len0 := by rw [List.length_take]; omega
    refine ⟨some a, cap0, zs.take len0, by rw [hlen], fun i hi => ?_, by rw [hlen]; omega⟩
    rw [hlen] at hi
    obtain ⟨b, off, spot⟩ := a
    have hspot : spot = none := by simpa [Addr.add] using World.cell?_spot (hcell 0 (by omega))
    subst hspot
    refine ⟨b, off, rfl, ?_⟩
    have := hcell i (by omega)
    rw [Addr.add_lit] at this
    rw [this, at0_lt (by omega), List.getElem_take]
    simp [show i < zs.length by omega]
end Go.Proofs.YticfcdbfplfmlaaGreat
