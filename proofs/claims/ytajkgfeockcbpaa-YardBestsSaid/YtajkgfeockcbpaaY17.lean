/- The walks of layer 6: lists of spots put together. -/
import Derived.Test.YtajkgfeockcbpaaY16
import Derived.Deep.Upon
import Derived.Lib.AppendZeros
namespace Go.Proofs.Ytajkgfeockcbpaa
open Go.RowKit Go.Maps
attribute [local go_sem] Oper.semAt_some

theorem Try.infoSpot : (Try.prog.info? 62).map (fun i => (i.zero, i.size, i.bytes)) = some (some (.agg #[.int .i64 0, .int .i64 0]), 2, 16) := by kernel_rfl
def spA (l : List (Int × Int)) : List Value := l.flatMap fun x => [.int .i64 x.1, .int .i64 x.2]
theorem spA_append (l m : List (Int × Int)) : spA (l ++ m) = spA l ++ spA m := by simp [spA]
theorem spA_length (l : List (Int × Int)) : (spA l).length = l.length * 2 := by
  induction l with
  | nil => rfl
  | cons x l ih => simp only [spA, List.flatMap_cons, List.length_append, List.length_cons, List.length_nil] at ih ⊢; omega
theorem spA_at : ∀ (l : List (Int × Int)) (i : Nat) (h : i < l.length), (spA l)[i * 2]? = some (.int .i64 l[i].1) ∧ (spA l)[i * 2 + 1]? = some (.int .i64 l[i].2)
  | x :: l, 0, _ => by simp [spA]
  | x :: l, i + 1, h => by
    have := spA_at l i (by simpa using h)
    have e1 : (i + 1) * 2 = i * 2 + 2 := by omega
    simp only [spA, List.flatMap_cons] at this ⊢
    rw [e1]
    simpa using this
theorem spA_cells {w : World} {b o : Nat} {l : List (Int × Int)} (h : SpotsAt w (some ⟨b, o, none⟩) l) : ∀ j u, (spA l)[j]? = some u → w.cell? ((⟨b, o, none⟩ : Addr).add j) = some u := by
  intro j u hu
  have hlt : j < (spA l).length := (List.getElem?_eq_some_iff.1 hu).1
  rw [spA_length] at hlt
  obtain ⟨b', o', e, c0, c1⟩ := h (j / 2) (by omega)
  cases e
  obtain ⟨a0, a1⟩ := spA_at l (j / 2) (by omega)
  rw [Addr.add_lit]
  rcases (show j = j / 2 * 2 ∨ j = j / 2 * 2 + 1 by omega) with e | e
  · rw [e, a0] at hu
    rw [e, ← Option.some.inj hu]
    exact c0
  · rw [e, a1] at hu
    rw [e, ← Option.some.inj hu]
    exact c1
/-- A list of spots of one's own. -/
abbrev OwnSp (w : World) (base : Nat) (v : Value) (l : List (Int × Int)) : Prop := w.ownsRow base 62 2 v l.length (spA l)
theorem spots_of_owns {w : World} {base : Nat} {v : Value} {l : List (Int × Int)} (h : OwnSp w base v l) :
    ∃ p c, v = .slice p l.length c ∧ SpotsAt w p l ∧ l.length ≤ c ∧ c ≤ maxLen ∧ (∀ m o, p = some ⟨m, o, none⟩ → base ≤ m ∧ m < w.heap.size) ∧ (p = none ∨ ∃ g, p = some ⟨g, 0, none⟩) := by
  rcases h.2 with ⟨hv, h0⟩ | ⟨g, cap, cur, hv, hg, hh, h1, h2, h3, h4⟩
  · exact ⟨none, 0, by rw [hv, h0], fun i hi => by omega, by omega, by unfold maxLen; omega, fun _ _ h => (by cases h), .inl rfl⟩
  · refine ⟨_, cap, hv, fun i hi => ?_, h1, h2, fun m o h => (by cases h; exact ⟨hg, (Array.getElem?_eq_some_iff.1 hh).1⟩), .inr ⟨g, rfl⟩⟩
    have hc := World.ownsRow.cells (g := g) (by rw [hv] at h; exact h) rfl
    obtain ⟨a0, a1⟩ := spA_at l i hi
    have k0 := hc _ _ a0
    have k1 := hc _ _ a1
    rw [Addr.add_lit] at k0 k1
    exact ⟨g, 0, rfl, k0, by rw [Nat.add_assoc]; exact k1⟩
theorem one_spA (l : List (Int × Int)) : ∀ u ∈ spA l, u.oneCell' = true := by
  intro u hu
  simp only [spA, List.mem_flatMap, List.mem_cons, List.not_mem_nil, or_false] at hu
  obtain ⟨x, _, h | h⟩ := hu <;> rw [h] <;> rfl
/-- Spots are appended to a list of one's own. -/
theorem append_spots (w : World) (base : Nat) (hbase : base ≤ w.heap.size) (v : Value) (l : List (Int × Int)) (hown : OwnSp w base v l) (p : Option Addr) (c : Nat) (m : List (Int × Int)) (hs : SpotsAt w p m) (hn : l.length + m.length ≤ 1000) (ty : TypeId) :
    ∃ v' w', (Builtin.append_ #[23, 23] ty #[v, .slice p m.length c]).run Try.prog w = .ok v' w' ∧ (OwnSp w' base v' (l ++ m) ∧ Below base w w') := by
  obtain ⟨i0, hi, hi0, hi1, hi2⟩ := info_parts Try.infoSpot
  have key : ∀ a : Addr, p = some a → ∃ v' w', (Builtin.append_ #[23, 23] ty #[v, .slice (some a) m.length c]).run Try.prog w = .ok v' w' ∧ (OwnSp w' base v' (l ++ m) ∧ Below base w w') := fun a ha => by
    obtain ⟨v', w', hr, ho, hg, _⟩ := run_append_own (P := Try.prog) w base 23 ty 62 i0 _ 2 16 Try.underlying23 hi hi0 hi1 hi2 rfl (by decide) v l.length (spA l) hown a m.length c (spA m) (spA_length m) (by
      rcases m with _ | ⟨x, m⟩
      · intro j u hu; simp [spA] at hu
      · obtain ⟨b, o, e, _, _⟩ := hs 0 (by simp)
        rw [ha] at e
        cases e
        exact spA_cells (by rw [ha] at hs; exact hs)) (one_spA m) (by unfold maxLen; omega) (by omega) hbase
    refine ⟨v', w', hr, ?_, (Below.refl base w).grown hg hbase (fun k hk => (hown.lt k hk).1)⟩
    rw [OwnSp, List.length_append, spA_append]
    exact ho
  cases p with
  | some a => exact key a rfl
  | none =>
    have hm : m = [] := by
      rcases m with _ | ⟨x, m⟩
      · rfl
      · obtain ⟨b, o, e, _, _⟩ := hs 0 (by simp)
        cases e
    subst hm
    obtain ⟨q, d, hv, _, hd, _⟩ := spots_of_owns hown
    refine ⟨v, w, ?_, by rw [List.append_nil]; exact hown, Below.refl _ _⟩
    rw [hv]
    exact run_append_nothing w _ _ ty _ i0 Try.underlying23 hi q l.length d hd _ (Src.ofNil _ Try.underlying23 c)
/-- Such spots, in a list of one's own, are returned. -/
def GaveSpots (l : List (Int × Int)) (w : World) (e : Ending) (w' : World) : Prop :=
  ∃ v, e = .returned v ∧ OwnSp w' w.heap.size v l ∧ Below w.heap.size w w'
set_option maxRecDepth 10000 in
set_option maxHeartbeats 1600000 in
theorem grow_any (n : Nat) (hn : n ≤ 1000) (w : World) :
    Calls Try.prog 121 #[.slice none 0 0, .int .i64 (n : Int)] w (GaveSpots [] w) := by
  obtain ⟨i0, hi, hi0, hi1, hi2⟩ := info_parts Try.infoSpot
  have h1 : ¬ ((n : Int) < 0) := by omega
  by_cases h0 : n = 0
  · subst h0
    go_enter Try.func121, Try.ntmps121
    go_wp2
    go_ret
    exact ⟨_, rfl, World.ownsRow_nil _ _ _ _, Below.refl _ _⟩
  · have h4 : (n : Int) > 0 := by omega
    have HR := Lib.hid (Lib.run_append_nil_zeros (P := Try.prog) w 23 3 23 62 i0 _ .i64 .i64 Try.underlying23 Try.underlying3 hi hi0 n (by omega) (by omega) (by omega) (by rw [hi2]; omega))
    have hmx := grownCap_le_maxLen w n 0 62 (by unfold maxLen; omega)
    have hge := grownCap_ge w n 0 62
    have HB := Lib.hid (show Below w.heap.size w (w.drew.alloc (.cells (Builtin.zeroCells (Value.agg #[.int .i64 0, .int .i64 0]).cells n ++ Builtin.zeroCells (Value.agg #[.int .i64 0, .int .i64 0]).cells (grownCap w n 0 62 - n)) 62)) from (Below.refl _ _).drew.trans (below_alloc w.drew _))
    have HO := Lib.hid (show OwnSp (w.drew.alloc (.cells (Builtin.zeroCells (Value.agg #[.int .i64 0, .int .i64 0]).cells n ++ Builtin.zeroCells (Value.agg #[.int .i64 0, .int .i64 0]).cells (grownCap w n 0 62 - n)) 62)) w.heap.size (.slice (some ⟨w.heap.size, 0, none⟩) 0 (grownCap w n 0 62)) [] from
      ⟨rfl, .inr ⟨_, _, _, rfl, Nat.le_refl _, World.alloc_heap_new w.drew _, by simp, hmx, by simp [size_zeroCells, Value.cells]; omega, by simp [spA]⟩⟩)
    generalize hcap : grownCap w n 0 62 = cap at *
    generalize (w.drew.alloc (.cells (Builtin.zeroCells (Value.agg #[.int .i64 0, .int .i64 0]).cells n ++ Builtin.zeroCells (Value.agg #[.int .i64 0, .int .i64 0]).cells (cap - n)) 62)) = W1 at *
    go_enter Try.func121, Try.ntmps121
    go_wp2_with (first | (at_builtin; refine Lib.wpList_append_run _ rfl _ _ _ _ rfl _ _ rfl rfl _ _ HR.out ?_))
    go_ret
    exact ⟨_, rfl, HO.out, HB.out⟩
/-- Such lists of spots lie in memory, one behind the other. -/
def ListsAt (w : World) (p : Option Addr) (ss : List (Option Addr × Nat × List (Int × Int))) : Prop :=
  ∀ i (h : i < ss.length), ∃ b o, p = some ⟨b, o, none⟩ ∧ w.cell? ⟨b, o + i, none⟩ = some (.slice ss[i].1 ss[i].2.2.length ss[i].2.1) ∧ SpotsAt w ss[i].1 ss[i].2.2
def catL (ss : List (Option Addr × Nat × List (Int × Int))) : List (Int × Int) := ss.flatMap fun s => s.2.2
theorem catL_succ (ss : List (Option Addr × Nat × List (Int × Int))) {k : Nat} (h : k < ss.length) : catL (ss.take (k + 1)) = catL (ss.take k) ++ ss[k].2.2 := by
  unfold catL
  rw [List.take_succ_eq_append_getElem h, List.flatMap_append, List.flatMap_singleton]
theorem catL_le (ss : List (Option Addr × Nat × List (Int × Int))) (k : Nat) : (catL (ss.take k)).length ≤ (catL ss).length := by
  have e : catL ss = catL (ss.take k) ++ catL (ss.drop k) := by
    unfold catL
    rw [← List.flatMap_append, List.take_append_drop]
  rw [e, List.length_append]
  omega
set_option maxRecDepth 10000 in
set_option maxHeartbeats 1600000 in
theorem concat_any (p : Option Addr) (c : Nat) (ss : List (Option Addr × Nat × List (Int × Int))) (w : World) (h : ListsAt w p ss) (hk : ss.length ≤ 100) (hn : (catL ss).length ≤ 1000) :
    Calls Try.prog 98 #[.slice p ss.length c] w (GaveSpots (catL ss) w) := by
  have H := Lib.hid h
  have HN := Lib.hid hn
  clear h hn
  go_enter Try.func98, Try.ntmps98
  go_wp2
  go_loop [3, 11] (fun z i => ∃ k : Nat, k ≤ ss.length ∧ i = .int .i64 k ∧ z = .int .i64 (catL (ss.take k)).length) (fun _ i => ss.length - (intOf i).toNat)
  case atStart => exact ⟨0, by omega, rfl, rfl⟩
  case round =>
    obtain ⟨k, hkk, rfl, rfl⟩ := hrel
    by_cases hlt : k < ss.length
    · obtain ⟨b, o, hp, hc, _⟩ := H.out k hlt
      subst hp
      have h1 := catL_le ss (k + 1)
      have h2 := HN.out
      have HS := Lib.hid (catL_succ ss hlt)
      rw [HS.out, List.length_append] at h1
      have i1 : (0 : Int) ≤ (k : Int) := by omega
      have i2 : (k : Int) < (ss.length : Int) := by omega
      have HL := Lib.hid (congrArg List.length HS.out)
      rw [List.length_append] at HL
      generalize (catL (ss.take k)).length = n1 at *
      generalize ss[k].2.2.length = n2 at *
      have i3 : ¬ ((n1 : Int) + (n2 : Int) < 0) := by omega
      have i4 : (n1 : Int) + (n2 : Int) ≤ 1000 := by omega
      go_wp2
      go_round
      case rel => exact ⟨k + 1, by omega, by go_num, by rw [HL.out]; go_num⟩
      case measure => simp [intOf]; omega
    · obtain rfl : k = ss.length := by omega
      have hz := HN.out
      rw [List.take_length]
      have HG := Lib.hid (grow_any (catL ss).length hz w)
      go_wp2_with (first | (refine HG.out.mono ?_; rintro e u ⟨v0, rfl, hown, hbu⟩; obtain ⟨x0, hx0⟩ := later_of hbu; subst hx0; have HO0 := Lib.hid hown; clear hown hbu))
      go_loopw [6, 27] (fun ns i wr => ∃ k : Nat, k ≤ ss.length ∧ i = .int .i64 k ∧ OwnSp wr w.heap.size ns (catL (ss.take k)) ∧ ∃ x : Later w, wr = x.w) (fun _ i _ => ss.length - (intOf i).toNat)
      case atStart => exact ⟨0, by omega, rfl, HO0.out, x0, rfl⟩
      case round =>
        clear HG HO0
        obtain ⟨k, hkk, rfl, hown, x, rfl⟩ := hrel
        have HO := Lib.hid hown
        clear hown
        by_cases hlt : k < ss.length
        · obtain ⟨b, o, hp, hc, hs⟩ := H.out k hlt
          subst hp
          have h1 := catL_le ss (k + 1)
          have HS := Lib.hid (catL_succ ss hlt)
          rw [HS.out, List.length_append] at h1
          have i1 : (0 : Int) ≤ (k : Int) := by omega
          have i2 : (k : Int) < (ss.length : Int) := by omega
          obtain ⟨v', w9, hr, ho, hb⟩ := append_spots x.w w.heap.size x.b.size _ _ HO.out ss[k].1 ss[k].2.1 ss[k].2.2 (hs.below x.b) (by omega) 23
          have HR := Lib.hid hr
          rw [← HS.out] at ho
          have HO9 := Lib.hid ho
          obtain ⟨x9, hx9⟩ := later_of (x.b.trans hb)
          subst hx9
          clear hr ho hb hs h1
          go_wp2_with (first | (at_builtin; refine wpList_append_run rfl _ _ _ _ rfl _ _ _ rfl rfl HR.out ?_))
          go_roundw
          case rel => exact ⟨k + 1, by omega, by go_num, HO9.out, x9, rfl⟩
          case measure => simp [intOf]; omega
        · obtain rfl : k = ss.length := by omega
          rw [List.take_length] at HO
          go_wp2
          go_ret
          exact ⟨_, rfl, HO.out, x.b⟩
end Go.Proofs.Ytajkgfeockcbpaa
