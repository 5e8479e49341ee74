/- The sizes of a book that comes in as an argument; a list and a pair as arguments. -/
import Derived.Test.YticfcdbfplfmlaaGreatTuOB
namespace Go.Proofs.YticfcdbfplfmlaaGreat.Tu
open Go.ChangeShapes Go.WideShapes Go.ChangeAt Go.RowKit Go.Joins Go.Deep

theorem Tryz.bytesInt : Tryz.prog.bytesOf 3 = 8 := by kernel_rfl
theorem Tryz.bytesPart : Tryz.prog.bytesOf 81 = 48 := by kernel_rfl
theorem Tryz.bytesFrame : Tryz.prog.bytesOf 50 = 40 := by kernel_rfl
theorem weights_all {H : Type} {P : Program} {e : TypeId} {d : DataW H} : ∀ {l : List (DataW H)}, d ∈ l → ∀ n ∈ d.weights P e, n ∈ DataW.weightsAll P e l
  | x :: l, hd, n, hn => by
    simp only [DataW.weightsAll, List.mem_append]
    rcases List.mem_cons.1 hd with rfl | h
    · exact .inl hn
    · exact .inr (weights_all h n hn)
theorem sized_book {H : Type} {ts : List TypeId} {ds : List (DataW H)} (h : (DataW.weightsEach Tryz.prog ts ds).all (· ≤ reachBytes) = true) {j : Nat} {dp df : DataW H} (ht : ts[j]? = some 25) (hd : ds[j]? = some (.agg [dp, df])) :
    (∀ el sp, dp = .slice el sp → el.length < 2 ^ 62) ∧ (∀ el sp, df = .slice el sp → el.length < 2 ^ 62 ∧ ∀ (i : Nat) (dt dn : DataW H), el[i]? = some (.agg [dt, dn]) → ∀ el' sp', dt = .slice el' sp' → el'.length < 2 ^ 62) := by
  have hw : ∀ n ∈ DataW.weights Tryz.prog 25 (.agg [dp, df]), n ≤ reachBytes := fun n hn => by
    have := List.all_eq_true.1 h _ (DataW.weights_mem_each ht hd n hn)
    simpa using this
  constructor
  · rintro el sp rfl
    have := hw ((el.length + sp.length) * Tryz.prog.bytesOf 81) (by simp [DataW.weights, DataW.weightsEach, Tryz.underlying25, Tryz.underlying22])
    rw [Tryz.bytesPart] at this
    simp only [reachBytes] at this
    omega
  · rintro el sp rfl
    constructor
    · have := hw ((el.length + sp.length) * Tryz.prog.bytesOf 50) (by simp [DataW.weights, DataW.weightsEach, Tryz.underlying25, Tryz.underlying23])
      rw [Tryz.bytesFrame] at this
      simp only [reachBytes] at this
      omega
    · rintro i dt dn hi el' sp' rfl
      have hm := weights_all (P := Tryz.prog) (e := 50) (List.mem_of_getElem? hi) ((el'.length + sp'.length) * Tryz.prog.bytesOf 3) (by simp [DataW.weights, DataW.weightsEach, Tryz.underlying50, Tryz.underlying29])
      have := hw ((el'.length + sp'.length) * Tryz.prog.bytesOf 3) (by simp only [DataW.weights, Tryz.underlying25]; simp [DataW.weightsEach, DataW.weights, Tryz.underlying23, hm])
      rw [Tryz.bytesInt] at this
      simp only [reachBytes] at this
      omega
/-- A book as an argument lies in memory as the contracts want it. -/
theorem book_at {H : Type} {W : World} {pp pf : Option Addr} {ps : List Pt} {ms : List FrM} {dp df : DataW H} {ts : List TypeId} {ds : List (DataW H)} (h : (DataW.weightsEach Tryz.prog ts ds).all (· ≤ reachBytes) = true) {j : Nat} (ht : ts[j]? = some 25) (hd : ds[j]? = some (.agg [dp, df]))
    (hp : PtsAt W pp ps) (hf : FrsAt W pf ms) (h1 : ps.length = 0 ∨ ∃ el sp, dp = .slice el sp ∧ el.length = ps.length) (h2 : ms.length = 0 ∨ ∃ el sp, df = .slice el sp ∧ el.length = ms.length ∧ ∀ i (h : i < ms.length), ∃ ds dn, el[i]? = some (.agg [ds, dn]) ∧ (ms[i].f.stay.length = 0 ∨ ∃ el' sp', ds = .slice el' sp' ∧ el'.length = ms[i].f.stay.length)) : BkAt W pp pf ps ms := by
  obtain ⟨s1, s2⟩ := sized_book h ht hd
  refine ⟨hp, hf, ?_, ?_, ?_⟩
  · rcases h1 with e | ⟨el, sp, e, hl⟩
    · omega
    · have := s1 el sp e; omega
  · rcases h2 with e | ⟨el, sp, e, hl, _⟩
    · omega
    · have := (s2 el sp e).1; omega
  · intro m hm
    obtain ⟨i, hi, rfl⟩ := List.mem_iff_getElem.1 hm
    rcases h2 with e | ⟨el, sp, e, hl, hx⟩
    · omega
    · obtain ⟨dt, dn, hi2, hz⟩ := hx i hi
      rcases hz with e0 | ⟨el', sp', e', hl'⟩
      · omega
      · have := (s2 el sp e).2 i dt dn hi2 el' sp' e'; omega
set_option maxRecDepth 10000 in
theorem open_list {H : Type} {enc : TypeId × Value → H} {W : World} {base : Nat} {spare : Nat → Bool} {held : Bool} {r : Reach} {b0 : Nat} {v : Value} {d : DataW H} {p : List MemPlace} (hv : Value.okWide Tryz.prog W r b0 29 v) (h : DataW.Trod enc Tryz.prog W base spare held 29 v d p) :
    ∃ (p1 : Option Addr) (c1 : Nat) (xs : List Int), v = .slice p1 xs.length c1 ∧ IntsAt W p1 xs ∧ xs.length ≤ maxLen := by
  obtain ⟨a0, len0, cap0, rfl⟩ := okWide_slice Tryz.underlying29 hv
  obtain ⟨fuel, hf⟩ := h
  rcases open_ints Tryz.underlying29 Tryz.underlying3 Tryz.cells3 hf with ⟨e, _⟩ | ⟨a, len, cap, zs, e, _, hl, hm, hz, _, hcell, _⟩
  · simp [Value.cells] at e
    obtain ⟨rfl, rfl, rfl⟩ := e
    exact ⟨none, 0, [], rfl, fun i hi => by simp at hi, by simp⟩
  · simp [Value.cells] at e
    obtain ⟨rfl, rfl, rfl⟩ := e
    have hzl : len0 ≤ zs.length := by rw [hz]; split <;> omega
    have hlen : (zs.take len0).length = len0 := by rw [List.length_take]; omega
    refine ⟨some a, cap0, zs.take len0, by rw [hlen], fun i hi => ?_, by rw [hlen]; omega⟩
    rw [hlen] at hi
    obtain ⟨b, off, spot⟩ := a
    have hspot : spot = none := by simpa [Addr.add] using World.cell?_spot (hcell 0 (by omega))
    subst hspot
    refine ⟨b, off, rfl, ?_⟩
    have := hcell i (by omega)
    rw [Addr.add_lit] at this
    rw [this, at0_lt (by omega), List.getElem_take]
    simp [show i < zs.length by omega]

end Go.Proofs.YticfcdbfplfmlaaGreat.Tu
