/- The walks of layer 5: which books are valid. -/
import Derived.Test.YticfcdbfplfmlaaGreatFAX
import Derived.Laws.EntriesVeiled
import Derived.Test.YticfcdbfplfmlaaGreatRGX
namespace Go.Proofs.YticfcdbfplfmlaaGreat
open Go.RowKit Go.Maps
attribute [local go_sem] Oper.semAt_some

/-- The bounds of the numbers of a book. -/
abbrev limA (pr le mo gr n lim : Int) : Array Value := #[.int .i64 pr, .int .i64 1, .int .i64 500, .int .i64 le, .int .i64 0, .int .i64 lim, .int .i64 mo, .int .i64 0, .int .i64 50, .int .i64 gr, .int .i64 1, .int .i64 4, .int .i64 n, .int .i64 0, .int .i64 8]
theorem limAt0 (pr le mo gr n lim : Int) (w : World) : (Instr.index 107 (.agg (limA pr le mo gr n lim)) (.int .i64 0)).run Tryz.prog w = .ok (.agg #[.int .i64 pr, .int .i64 1, .int .i64 500]) w := by
  simp [Instr.index, go_sem]
theorem limAt1 (pr le mo gr n lim : Int) (w : World) : (Instr.index 107 (.agg (limA pr le mo gr n lim)) (.int .i64 1)).run Tryz.prog w = .ok (.agg #[.int .i64 le, .int .i64 0, .int .i64 lim]) w := by
  simp [Instr.index, go_sem]
theorem limAt2 (pr le mo gr n lim : Int) (w : World) : (Instr.index 107 (.agg (limA pr le mo gr n lim)) (.int .i64 2)).run Tryz.prog w = .ok (.agg #[.int .i64 mo, .int .i64 0, .int .i64 50]) w := by
  simp [Instr.index, go_sem]
theorem limAt3 (pr le mo gr n lim : Int) (w : World) : (Instr.index 107 (.agg (limA pr le mo gr n lim)) (.int .i64 3)).run Tryz.prog w = .ok (.agg #[.int .i64 gr, .int .i64 1, .int .i64 4]) w := by
  simp [Instr.index, go_sem]
theorem limAt4 (pr le mo gr n lim : Int) (w : World) : (Instr.index 107 (.agg (limA pr le mo gr n lim)) (.int .i64 4)).run Tryz.prog w = .ok (.agg #[.int .i64 n, .int .i64 0, .int .i64 8]) w := by
  simp [Instr.index, go_sem]
/-- What the first so many bounds say. -/
structure Lims (b : Bf) (lim : Int) (k : Nat) : Prop where
  h1 : 1 ≤ k → 1 ≤ b.pr ∧ b.pr ≤ 500
  h2 : 2 ≤ k → 0 ≤ b.le ∧ b.le ≤ lim
  h3 : 3 ≤ k → 0 ≤ b.mo ∧ b.mo ≤ 50
  h4 : 4 ≤ k → 1 ≤ b.gr ∧ b.gr ≤ 4
  h5 : 5 ≤ k → b.hs.length ≤ 8
theorem num_no {b : Bf} {lim : Int} (hl : 1 ≤ b.pr → b.pr ≤ 500 → lim = min (b.pr - 1) 50) (h : ¬ Lims b lim 5) : bookB b = false := by
  rw [Bool.eq_false_iff]
  intro hb
  have hok := bookB_iff.1 hb
  have e := hl hok.p1 hok.p2
  have := hok.l3
  have := hok.l2
  exact h ⟨fun _ => ⟨hok.p1, hok.p2⟩, fun _ => ⟨hok.l1, by omega⟩, fun _ => ⟨hok.m1, hok.m2⟩, fun _ => ⟨hok.g1, hok.g2⟩, fun _ => hok.n8⟩
theorem num_yes {b : Bf} {lim : Int} (hl : 1 ≤ b.pr → b.pr ≤ 500 → lim = min (b.pr - 1) 50) (h : Lims b lim 5) (hh : ∀ x ∈ b.hs, hdB x = true) : bookB b = true := by
  have a := h.h1 (by omega)
  have e := hl a.1 a.2
  have b2 := h.h2 (by omega)
  have c := h.h3 (by omega)
  have d := h.h4 (by omega)
  have f := h.h5 (by omega)
  exact bookB_iff.2 ⟨a.1, a.2, b2.1, by omega, by omega, c.1, c.2, d.1, d.2, f, fun x hx => hdB_iff.1 (hh x hx)⟩
set_option maxRecDepth 10000 in
set_option maxHeartbeats 3200000 in
theorem valid_any (b : Bf) (p : Option Addr) (c : Nat) (w : World) (hB : BfAt w p c b) :
    Calls Tryz.prog 22 #[.agg (bfA b p c)] w fun e w' => e = .returned (.bool (bookB b)) ∧ Below w.heap.size w w' := by
  have hn := hB.n
  obtain ⟨lim, W0, hlim, hW0⟩ : ∃ lim W, lim = min (wrap64 (b.pr - 1)) 50 ∧ W = (w.alloc (.cells (bfA b p c) 28)).alloc (.cells (limA b.pr b.le b.mo b.gr b.hs.length lim) 107) := ⟨_, _, rfl, rfl⟩
  have HW0 := Lib.hid hW0
  have HLM := Lib.hid hlim
  have HLI := Lib.hid (show 1 ≤ b.pr → b.pr ≤ 500 → lim = min (b.pr - 1) 50 by
    intro h1 h2
    rw [hlim, show wrap64 (b.pr - 1) = b.pr - 1 by unfold wrap64; omega])
  have HE := Lib.hid (show Below w.heap.size w W0 by rw [hW0]; exact below_alloc2 _ _ _)
  have rB : Row W0 w.heap.size (bfA b p c) 28 := by rw [hW0]; exact (Row.new _ _ _).alloc _
  have rL : Row W0 (w.heap.size + 1) (limA b.pr b.le b.mo b.gr b.hs.length lim) 107 := by rw [hW0]; exact Row.new1 _ _ _ _
  have HH := Lib.hid (hB.h.below HE.out)
  have c4 := rB.cell 4 (v := .slice p b.hs.length c) rfl
  clear hB hW0 hlim rB rL
  go_enter Tryz.func22, Tryz.ntmps22
  go_wp2_with fail
  case inr =>
    obtain rfl : lim = wrap64 (b.pr - 1) := by have := HLM.out; omega
    rw [← HW0.out]
    go_loopw [30] (fun i wr => ∃ k : Nat, k ≤ 5 ∧ i = .int .i64 k ∧ Lims b (wrap64 (b.pr - 1)) k ∧ ∃ x : Later W0, wr = x.w) (fun i _ => 5 - (intOf i).toNat)
    case atStart => exact ⟨0, by omega, rfl, ⟨fun h => absurd h (by omega), fun h => absurd h (by omega), fun h => absurd h (by omega), fun h => absurd h (by omega), fun h => absurd h (by omega)⟩, ⟨W0, Below.refl _ _⟩, rfl⟩
    case round =>
      obtain ⟨k, hk, rfl, hl, x, rfl⟩ := hrel
      have HL := Lib.hid hl
      clear hl
      obtain rfl | rfl | rfl | rfl | rfl | rfl : k = 0 ∨ k = 1 ∨ k = 2 ∨ k = 3 ∨ k = 4 ∨ k = 5 := by omega
      · cases hf : fits b.pr 1 500
        · have hno : ¬ Lims b (wrap64 (b.pr - 1)) 5 := fun h => by
            have := h.h1 (by omega)
            simp only [fits, Bool.and_eq_false_iff, decide_eq_false_iff_not] at hf
            omega
          have HNO := Lib.hid (num_no HLI.out hno)
          clear hno
          go_wp2_with (first | (refine index_op rfl 107 _ _ rfl _ _ rfl rfl _ (limAt0 _ _ _ _ _ _ _) ?_) | (go_at_call 50; (with_reducible refine (within_any _ _ _ _).mono ?_); rintro e w3 ⟨rfl, rfl⟩; rw [hf]))
          go_ret
          exact ⟨ret_bool HNO.out.symm, (x.base HE.out).alloc (x.base HE.out).size _⟩
        · have hy := hf
          simp only [fits, Bool.and_eq_true, decide_eq_true_eq] at hy
          have HN := Lib.hid (show Lims b (wrap64 (b.pr - 1)) 1 from ⟨fun _ => ⟨by omega, by omega⟩, fun h => absurd h (by omega), fun h => absurd h (by omega), fun h => absurd h (by omega), fun h => absurd h (by omega)⟩)
          clear hy
          go_wp2_with (first | (refine index_op rfl 107 _ _ rfl _ _ rfl rfl _ (limAt0 _ _ _ _ _ _ _) ?_) | (go_at_call 50; (with_reducible refine (within_any _ _ _ _).mono ?_); rintro e w3 ⟨rfl, rfl⟩; rw [hf]))
          obtain ⟨x2, hx2⟩ := x.on (below_alloc x.w (.cells #[.int .i64 b.pr, .int .i64 1, .int .i64 500] 106))
          exact ⟨⟨1, by omega, rfl, HN.out, x2, hx2⟩, by simp [intOf]⟩
      · cases hf : fits b.le 0 (wrap64 (b.pr - 1))
        · have hno : ¬ Lims b (wrap64 (b.pr - 1)) 5 := fun h => by
            have := h.h2 (by omega)
            simp only [fits, Bool.and_eq_false_iff, decide_eq_false_iff_not] at hf
            omega
          have HNO := Lib.hid (num_no HLI.out hno)
          clear hno
          go_wp2_with (first | (refine index_op rfl 107 _ _ rfl _ _ rfl rfl _ (limAt1 _ _ _ _ _ _ _) ?_) | (go_at_call 50; (with_reducible refine (within_any _ _ _ _).mono ?_); rintro e w3 ⟨rfl, rfl⟩; rw [hf]))
          go_ret
          exact ⟨ret_bool HNO.out.symm, (x.base HE.out).alloc (x.base HE.out).size _⟩
        · have hy := hf
          simp only [fits, Bool.and_eq_true, decide_eq_true_eq] at hy
          have HN := Lib.hid (show Lims b (wrap64 (b.pr - 1)) 2 from ⟨fun _ => HL.out.h1 (by omega), fun _ => ⟨by omega, by omega⟩, fun h => absurd h (by omega), fun h => absurd h (by omega), fun h => absurd h (by omega)⟩)
          clear hy
          go_wp2_with (first | (refine index_op rfl 107 _ _ rfl _ _ rfl rfl _ (limAt1 _ _ _ _ _ _ _) ?_) | (go_at_call 50; (with_reducible refine (within_any _ _ _ _).mono ?_); rintro e w3 ⟨rfl, rfl⟩; rw [hf]))
          obtain ⟨x2, hx2⟩ := x.on (below_alloc x.w (.cells #[.int .i64 b.le, .int .i64 0, .int .i64 (wrap64 (b.pr - 1))] 106))
          exact ⟨⟨2, by omega, rfl, HN.out, x2, hx2⟩, by simp [intOf]⟩
      · cases hf : fits b.mo 0 50
        · have hno : ¬ Lims b (wrap64 (b.pr - 1)) 5 := fun h => by
            have := h.h3 (by omega)
            simp only [fits, Bool.and_eq_false_iff, decide_eq_false_iff_not] at hf
            omega
          have HNO := Lib.hid (num_no HLI.out hno)
          clear hno
          go_wp2_with (first | (refine index_op rfl 107 _ _ rfl _ _ rfl rfl _ (limAt2 _ _ _ _ _ _ _) ?_) | (go_at_call 50; (with_reducible refine (within_any _ _ _ _).mono ?_); rintro e w3 ⟨rfl, rfl⟩; rw [hf]))
          go_ret
          exact ⟨ret_bool HNO.out.symm, (x.base HE.out).alloc (x.base HE.out).size _⟩
        · have hy := hf
          simp only [fits, Bool.and_eq_true, decide_eq_true_eq] at hy
          have HN := Lib.hid (show Lims b (wrap64 (b.pr - 1)) 3 from ⟨fun _ => HL.out.h1 (by omega), fun _ => HL.out.h2 (by omega), fun _ => ⟨by omega, by omega⟩, fun h => absurd h (by omega), fun h => absurd h (by omega)⟩)
          clear hy
          go_wp2_with (first | (refine index_op rfl 107 _ _ rfl _ _ rfl rfl _ (limAt2 _ _ _ _ _ _ _) ?_) | (go_at_call 50; (with_reducible refine (within_any _ _ _ _).mono ?_); rintro e w3 ⟨rfl, rfl⟩; rw [hf]))
          obtain ⟨x2, hx2⟩ := x.on (below_alloc x.w (.cells #[.int .i64 b.mo, .int .i64 0, .int .i64 50] 106))
          exact ⟨⟨3, by omega, rfl, HN.out, x2, hx2⟩, by simp [intOf]⟩
      · cases hf : fits b.gr 1 4
        · have hno : ¬ Lims b (wrap64 (b.pr - 1)) 5 := fun h => by
            have := h.h4 (by omega)
            simp only [fits, Bool.and_eq_false_iff, decide_eq_false_iff_not] at hf
            omega
          have HNO := Lib.hid (num_no HLI.out hno)
          clear hno
          go_wp2_with (first | (refine index_op rfl 107 _ _ rfl _ _ rfl rfl _ (limAt3 _ _ _ _ _ _ _) ?_) | (go_at_call 50; (with_reducible refine (within_any _ _ _ _).mono ?_); rintro e w3 ⟨rfl, rfl⟩; rw [hf]))
          go_ret
          exact ⟨ret_bool HNO.out.symm, (x.base HE.out).alloc (x.base HE.out).size _⟩
        · have hy := hf
          simp only [fits, Bool.and_eq_true, decide_eq_true_eq] at hy
          have HN := Lib.hid (show Lims b (wrap64 (b.pr - 1)) 4 from ⟨fun _ => HL.out.h1 (by omega), fun _ => HL.out.h2 (by omega), fun _ => HL.out.h3 (by omega), fun _ => ⟨by omega, by omega⟩, fun h => absurd h (by omega)⟩)
          clear hy
          go_wp2_with (first | (refine index_op rfl 107 _ _ rfl _ _ rfl rfl _ (limAt3 _ _ _ _ _ _ _) ?_) | (go_at_call 50; (with_reducible refine (within_any _ _ _ _).mono ?_); rintro e w3 ⟨rfl, rfl⟩; rw [hf]))
          obtain ⟨x2, hx2⟩ := x.on (below_alloc x.w (.cells #[.int .i64 b.gr, .int .i64 1, .int .i64 4] 106))
          exact ⟨⟨4, by omega, rfl, HN.out, x2, hx2⟩, by simp [intOf]⟩
      · cases hf : fits (b.hs.length : Int) 0 8
        · have hno : ¬ Lims b (wrap64 (b.pr - 1)) 5 := fun h => by
            have := h.h5 (by omega)
            simp only [fits, Bool.and_eq_false_iff, decide_eq_false_iff_not] at hf
            omega
          have HNO := Lib.hid (num_no HLI.out hno)
          clear hno
          go_wp2_with (first | (refine index_op rfl 107 _ _ rfl _ _ rfl rfl _ (limAt4 _ _ _ _ _ _ _) ?_) | (go_at_call 50; (with_reducible refine (within_any _ _ _ _).mono ?_); rintro e w3 ⟨rfl, rfl⟩; rw [hf]))
          go_ret
          exact ⟨ret_bool HNO.out.symm, (x.base HE.out).alloc (x.base HE.out).size _⟩
        · have hy := hf
          simp only [fits, Bool.and_eq_true, decide_eq_true_eq] at hy
          have HN := Lib.hid (show Lims b (wrap64 (b.pr - 1)) 5 from ⟨fun _ => HL.out.h1 (by omega), fun _ => HL.out.h2 (by omega), fun _ => HL.out.h3 (by omega), fun _ => HL.out.h4 (by omega), fun _ => by omega⟩)
          clear hy
          go_wp2_with (first | (refine index_op rfl 107 _ _ rfl _ _ rfl rfl _ (limAt4 _ _ _ _ _ _ _) ?_) | (go_at_call 50; (with_reducible refine (within_any _ _ _ _).mono ?_); rintro e w3 ⟨rfl, rfl⟩; rw [hf]))
          obtain ⟨x2, hx2⟩ := x.on (below_alloc x.w (.cells #[.int .i64 (b.hs.length : Int), .int .i64 0, .int .i64 8] 106))
          exact ⟨⟨5, by omega, rfl, HN.out, x2, hx2⟩, by simp [intOf]⟩
      · have h8 := HL.out.h5 (by omega)
        rw [show ((5 : Nat) : Int) = 5 from rfl]
        go_wp2_with fail
        go_loopw [45] (fun i wr => ∃ j : Nat, j ≤ b.hs.length ∧ i = .int .i64 j ∧ (∀ x ∈ b.hs.take j, hdB x = true) ∧ ∃ z : Later W0, wr = z.w) (fun i _ => b.hs.length - (intOf i).toNat)
        case atStart => exact ⟨0, by omega, rfl, by simp, x, rfl⟩
        case round =>
          obtain ⟨j, hj, rfl, hall, z, rfl⟩ := hrel
          have HA := Lib.hid hall
          clear hall
          by_cases hlt : j < b.hs.length
          · obtain ⟨bq, oq, hp, q0, q1⟩ := HH.out j hlt
            subst hp
            have HV := Lib.hid (fun w' => hvalid_any b.hs[j].lo b.hs[j].hi w')
            have HTK := Lib.hid (List.take_succ_eq_append_getElem hlt)
            have i1 : (0 : Int) ≤ (j : Int) := by omega
            have i2 : (j : Int) < (b.hs.length : Int) := by omega
            obtain ⟨d, hd⟩ : ∃ d, hdB b.hs[j] = d := ⟨_, rfl⟩
            have HD := Lib.hid hd
            rw [show (⟨b.hs[j].lo, b.hs[j].hi⟩ : Hd) = b.hs[j] from rfl, hd] at HV
            generalize hlo : b.hs[j].lo = lo at *
            generalize hhi : b.hs[j].hi = hi at *
            clear hd hlo hhi c4
            cases d
            · have HNO := Lib.hid (show bookB b = false by
                rw [Bool.eq_false_iff]
                intro hb
                have h2 := hdB_iff.2 ((bookB_iff.1 hb).h _ (List.getElem_mem hlt))
                rw [HD.out] at h2
                cases h2)
              go_wp2_with (first | (refine (HV.out _).mono ?_; rintro e u ⟨rfl, hbu⟩; have HBU := Lib.hid hbu; clear hbu))
              go_ret
              exact ⟨ret_bool HNO.out.symm, ((z.base HE.out).alloc (z.base HE.out).size _).trans (HBU.out.mono ((z.base HE.out).alloc (z.base HE.out).size (.cells #[.int .i64 lo, .int .i64 hi] 43)).size)⟩
            · have HA2 := Lib.hid (show ∀ x ∈ b.hs.take (j + 1), hdB x = true from fun x hx => by
                rw [HTK.out] at hx
                rcases List.mem_append.1 hx with h | h
                · exact HA.out x h
                · rw [List.mem_singleton.1 h]; exact HD.out)
              go_wp2_with (first | (refine (HV.out _).mono ?_; rintro e u ⟨rfl, hbu⟩; have HBU := Lib.hid hbu; clear hbu))
              obtain ⟨z2, hz2⟩ := z.on ((below_alloc z.w (.cells #[.int .i64 lo, .int .i64 hi] 43)).trans (HBU.out.mono (by simp)))
              subst hz2
              go_roundw
              case rel => exact ⟨j + 1, by omega, by go_num, HA2.out, z2, rfl⟩
              case measure => simp [intOf]; omega
          · obtain rfl : j = b.hs.length := by omega
            have HT := Lib.hid (num_yes HLI.out HL.out (fun x hx => HA.out x (by rw [List.take_length]; exact hx)))
            go_wp2_with fail
            go_ret
            exact ⟨ret_bool HT.out.symm, z.base HE.out⟩
  case inl =>
    obtain rfl : lim = 50 := by have := HLM.out; omega
    rw [← HW0.out]
    go_loopw [30] (fun i wr => ∃ k : Nat, k ≤ 5 ∧ i = .int .i64 k ∧ Lims b 50 k ∧ ∃ x : Later W0, wr = x.w) (fun i _ => 5 - (intOf i).toNat)
    case atStart => exact ⟨0, by omega, rfl, ⟨fun h => absurd h (by omega), fun h => absurd h (by omega), fun h => absurd h (by omega), fun h => absurd h (by omega), fun h => absurd h (by omega)⟩, ⟨W0, Below.refl _ _⟩, rfl⟩
    case round =>
      obtain ⟨k, hk, rfl, hl, x, rfl⟩ := hrel
      have HL := Lib.hid hl
      clear hl
      obtain rfl | rfl | rfl | rfl | rfl | rfl : k = 0 ∨ k = 1 ∨ k = 2 ∨ k = 3 ∨ k = 4 ∨ k = 5 := by omega
      · cases hf : fits b.pr 1 500
        · have hno : ¬ Lims b 50 5 := fun h => by
            have := h.h1 (by omega)
            simp only [fits, Bool.and_eq_false_iff, decide_eq_false_iff_not] at hf
            omega
          have HNO := Lib.hid (num_no HLI.out hno)
          clear hno
          go_wp2_with (first | (refine index_op rfl 107 _ _ rfl _ _ rfl rfl _ (limAt0 _ _ _ _ _ _ _) ?_) | (go_at_call 50; (with_reducible refine (within_any _ _ _ _).mono ?_); rintro e w3 ⟨rfl, rfl⟩; rw [hf]))
          go_ret
          exact ⟨ret_bool HNO.out.symm, (x.base HE.out).alloc (x.base HE.out).size _⟩
        · have hy := hf
          simp only [fits, Bool.and_eq_true, decide_eq_true_eq] at hy
          have HN := Lib.hid (show Lims b 50 1 from ⟨fun _ => ⟨by omega, by omega⟩, fun h => absurd h (by omega), fun h => absurd h (by omega), fun h => absurd h (by omega), fun h => absurd h (by omega)⟩)
          clear hy
          go_wp2_with (first | (refine index_op rfl 107 _ _ rfl _ _ rfl rfl _ (limAt0 _ _ _ _ _ _ _) ?_) | (go_at_call 50; (with_reducible refine (within_any _ _ _ _).mono ?_); rintro e w3 ⟨rfl, rfl⟩; rw [hf]))
          obtain ⟨x2, hx2⟩ := x.on (below_alloc x.w (.cells #[.int .i64 b.pr, .int .i64 1, .int .i64 500] 106))
          exact ⟨⟨1, by omega, rfl, HN.out, x2, hx2⟩, by simp [intOf]⟩
      · cases hf : fits b.le 0 50
        · have hno : ¬ Lims b 50 5 := fun h => by
            have := h.h2 (by omega)
            simp only [fits, Bool.and_eq_false_iff, decide_eq_false_iff_not] at hf
            omega
          have HNO := Lib.hid (num_no HLI.out hno)
          clear hno
          go_wp2_with (first | (refine index_op rfl 107 _ _ rfl _ _ rfl rfl _ (limAt1 _ _ _ _ _ _ _) ?_) | (go_at_call 50; (with_reducible refine (within_any _ _ _ _).mono ?_); rintro e w3 ⟨rfl, rfl⟩; rw [hf]))
          go_ret
          exact ⟨ret_bool HNO.out.symm, (x.base HE.out).alloc (x.base HE.out).size _⟩
        · have hy := hf
          simp only [fits, Bool.and_eq_true, decide_eq_true_eq] at hy
          have HN := Lib.hid (show Lims b 50 2 from ⟨fun _ => HL.out.h1 (by omega), fun _ => ⟨by omega, by omega⟩, fun h => absurd h (by omega), fun h => absurd h (by omega), fun h => absurd h (by omega)⟩)
          clear hy
          go_wp2_with (first | (refine index_op rfl 107 _ _ rfl _ _ rfl rfl _ (limAt1 _ _ _ _ _ _ _) ?_) | (go_at_call 50; (with_reducible refine (within_any _ _ _ _).mono ?_); rintro e w3 ⟨rfl, rfl⟩; rw [hf]))
          obtain ⟨x2, hx2⟩ := x.on (below_alloc x.w (.cells #[.int .i64 b.le, .int .i64 0, .int .i64 50] 106))
          exact ⟨⟨2, by omega, rfl, HN.out, x2, hx2⟩, by simp [intOf]⟩
      · cases hf : fits b.mo 0 50
        · have hno : ¬ Lims b 50 5 := fun h => by
            have := h.h3 (by omega)
            simp only [fits, Bool.and_eq_false_iff, decide_eq_false_iff_not] at hf
            omega
          have HNO := Lib.hid (num_no HLI.out hno)
          clear hno
          go_wp2_with (first | (refine index_op rfl 107 _ _ rfl _ _ rfl rfl _ (limAt2 _ _ _ _ _ _ _) ?_) | (go_at_call 50; (with_reducible refine (within_any _ _ _ _).mono ?_); rintro e w3 ⟨rfl, rfl⟩; rw [hf]))
          go_ret
          exact ⟨ret_bool HNO.out.symm, (x.base HE.out).alloc (x.base HE.out).size _⟩
        · have hy := hf
          simp only [fits, Bool.and_eq_true, decide_eq_true_eq] at hy
          have HN := Lib.hid (show Lims b 50 3 from ⟨fun _ => HL.out.h1 (by omega), fun _ => HL.out.h2 (by omega), fun _ => ⟨by omega, by omega⟩, fun h => absurd h (by omega), fun h => absurd h (by omega)⟩)
          clear hy
          go_wp2_with (first | (refine index_op rfl 107 _ _ rfl _ _ rfl rfl _ (limAt2 _ _ _ _ _ _ _) ?_) | (go_at_call 50; (with_reducible refine (within_any _ _ _ _).mono ?_); rintro e w3 ⟨rfl, rfl⟩; rw [hf]))
          obtain ⟨x2, hx2⟩ := x.on (below_alloc x.w (.cells #[.int .i64 b.mo, .int .i64 0, .int .i64 50] 106))
          exact ⟨⟨3, by omega, rfl, HN.out, x2, hx2⟩, by simp [intOf]⟩
      · cases hf : fits b.gr 1 4
        · have hno : ¬ Lims b 50 5 := fun h => by
            have := h.h4 (by omega)
            simp only [fits, Bool.and_eq_false_iff, decide_eq_false_iff_not] at hf
            omega
          have HNO := Lib.hid (num_no HLI.out hno)
          clear hno
          go_wp2_with (first | (refine index_op rfl 107 _ _ rfl _ _ rfl rfl _ (limAt3 _ _ _ _ _ _ _) ?_) | (go_at_call 50; (with_reducible refine (within_any _ _ _ _).mono ?_); rintro e w3 ⟨rfl, rfl⟩; rw [hf]))
          go_ret
          exact ⟨ret_bool HNO.out.symm, (x.base HE.out).alloc (x.base HE.out).size _⟩
        · have hy := hf
          simp only [fits, Bool.and_eq_true, decide_eq_true_eq] at hy
          have HN := Lib.hid (show Lims b 50 4 from ⟨fun _ => HL.out.h1 (by omega), fun _ => HL.out.h2 (by omega), fun _ => HL.out.h3 (by omega), fun _ => ⟨by omega, by omega⟩, fun h => absurd h (by omega)⟩)
          clear hy
          go_wp2_with (first | (refine index_op rfl 107 _ _ rfl _ _ rfl rfl _ (limAt3 _ _ _ _ _ _ _) ?_) | (go_at_call 50; (with_reducible refine (within_any _ _ _ _).mono ?_); rintro e w3 ⟨rfl, rfl⟩; rw [hf]))
          obtain ⟨x2, hx2⟩ := x.on (below_alloc x.w (.cells #[.int .i64 b.gr, .int .i64 1, .int .i64 4] 106))
          exact ⟨⟨4, by omega, rfl, HN.out, x2, hx2⟩, by simp [intOf]⟩
      · cases hf : fits (b.hs.length : Int) 0 8
        · have hno : ¬ Lims b 50 5 := fun h => by
            have := h.h5 (by omega)
            simp only [fits, Bool.and_eq_false_iff, decide_eq_false_iff_not] at hf
            omega
          have HNO := Lib.hid (num_no HLI.out hno)
          clear hno
          go_wp2_with (first | (refine index_op rfl 107 _ _ rfl _ _ rfl rfl _ (limAt4 _ _ _ _ _ _ _) ?_) | (go_at_call 50; (with_reducible refine (within_any _ _ _ _).mono ?_); rintro e w3 ⟨rfl, rfl⟩; rw [hf]))
          go_ret
          exact ⟨ret_bool HNO.out.symm, (x.base HE.out).alloc (x.base HE.out).size _⟩
        · have hy := hf
          simp only [fits, Bool.and_eq_true, decide_eq_true_eq] at hy
          have HN := Lib.hid (show Lims b 50 5 from ⟨fun _ => HL.out.h1 (by omega), fun _ => HL.out.h2 (by omega), fun _ => HL.out.h3 (by omega), fun _ => HL.out.h4 (by omega), fun _ => by omega⟩)
          clear hy
          go_wp2_with (first | (refine index_op rfl 107 _ _ rfl _ _ rfl rfl _ (limAt4 _ _ _ _ _ _ _) ?_) | (go_at_call 50; (with_reducible refine (within_any _ _ _ _).mono ?_); rintro e w3 ⟨rfl, rfl⟩; rw [hf]))
          obtain ⟨x2, hx2⟩ := x.on (below_alloc x.w (.cells #[.int .i64 (b.hs.length : Int), .int .i64 0, .int .i64 8] 106))
          exact ⟨⟨5, by omega, rfl, HN.out, x2, hx2⟩, by simp [intOf]⟩
      · have h8 := HL.out.h5 (by omega)
        rw [show ((5 : Nat) : Int) = 5 from rfl]
        go_wp2_with fail
        go_loopw [45] (fun i wr => ∃ j : Nat, j ≤ b.hs.length ∧ i = .int .i64 j ∧ (∀ x ∈ b.hs.take j, hdB x = true) ∧ ∃ z : Later W0, wr = z.w) (fun i _ => b.hs.length - (intOf i).toNat)
        case atStart => exact ⟨0, by omega, rfl, by simp, x, rfl⟩
        case round =>
          obtain ⟨j, hj, rfl, hall, z, rfl⟩ := hrel
          have HA := Lib.hid hall
          clear hall
          by_cases hlt : j < b.hs.length
          · obtain ⟨bq, oq, hp, q0, q1⟩ := HH.out j hlt
            subst hp
            have HV := Lib.hid (fun w' => hvalid_any b.hs[j].lo b.hs[j].hi w')
            have HTK := Lib.hid (List.take_succ_eq_append_getElem hlt)
            have i1 : (0 : Int) ≤ (j : Int) := by omega
            have i2 : (j : Int) < (b.hs.length : Int) := by omega
            obtain ⟨d, hd⟩ : ∃ d, hdB b.hs[j] = d := ⟨_, rfl⟩
            have HD := Lib.hid hd
            rw [show (⟨b.hs[j].lo, b.hs[j].hi⟩ : Hd) = b.hs[j] from rfl, hd] at HV
            generalize hlo : b.hs[j].lo = lo at *
            generalize hhi : b.hs[j].hi = hi at *
            clear hd hlo hhi c4
            cases d
            · have HNO := Lib.hid (show bookB b = false by
                rw [Bool.eq_false_iff]
                intro hb
                have h2 := hdB_iff.2 ((bookB_iff.1 hb).h _ (List.getElem_mem hlt))
                rw [HD.out] at h2
                cases h2)
              go_wp2_with (first | (refine (HV.out _).mono ?_; rintro e u ⟨rfl, hbu⟩; have HBU := Lib.hid hbu; clear hbu))
              go_ret
              exact ⟨ret_bool HNO.out.symm, ((z.base HE.out).alloc (z.base HE.out).size _).trans (HBU.out.mono ((z.base HE.out).alloc (z.base HE.out).size (.cells #[.int .i64 lo, .int .i64 hi] 43)).size)⟩
            · have HA2 := Lib.hid (show ∀ x ∈ b.hs.take (j + 1), hdB x = true from fun x hx => by
                rw [HTK.out] at hx
                rcases List.mem_append.1 hx with h | h
                · exact HA.out x h
                · rw [List.mem_singleton.1 h]; exact HD.out)
              go_wp2_with (first | (refine (HV.out _).mono ?_; rintro e u ⟨rfl, hbu⟩; have HBU := Lib.hid hbu; clear hbu))
              obtain ⟨z2, hz2⟩ := z.on ((below_alloc z.w (.cells #[.int .i64 lo, .int .i64 hi] 43)).trans (HBU.out.mono (by simp)))
              subst hz2
              go_roundw
              case rel => exact ⟨j + 1, by omega, by go_num, HA2.out, z2, rfl⟩
              case measure => simp [intOf]; omega
          · obtain rfl : j = b.hs.length := by omega
            have HT := Lib.hid (num_yes HLI.out HL.out (fun x hx => HA.out x (by rw [List.take_length]; exact hx)))
            go_wp2_with fail
            go_ret
            exact ⟨ret_bool HT.out.symm, z.base HE.out⟩
set_option maxRecDepth 10000 in
set_option maxHeartbeats 3200000 in
theorem Check_any (b : Bf) (p : Option Addr) (c : Nat) (w : World) (hB : BfAt w p c b) :
    Calls Tryz.prog 5 #[.agg (bfA b p c)] w fun e w' => e = .returned (.int .i64 (bookE b)) ∧ Below w.heap.size w w' := by
  have hb0 := below_alloc w (.cells (bfA b p c) 28)
  have HV := Lib.hid (valid_any b p c _ (hB.below hb0))
  have HB := Lib.hid hb0
  clear hB hb0
  cases hb : bookB b
  · rw [hb] at HV
    rw [bookE_bad hb]
    clear hb
    go_enter Tryz.func5, Tryz.ntmps5
    go_wp2_with (first | (refine HV.out.mono ?_; rintro e u ⟨rfl, hbu⟩; have HBU := Lib.hid hbu; clear hbu))
    go_ret
    exact ⟨rfl, HB.out.trans (HBU.out.mono HB.out.size)⟩
  · rw [hb] at HV
    rw [bookE_ok hb]
    clear hb
    go_enter Tryz.func5, Tryz.ntmps5
    go_wp2_with (first | (refine HV.out.mono ?_; rintro e u ⟨rfl, hbu⟩; have HBU := Lib.hid hbu; clear hbu))
    go_ret
    exact ⟨rfl, HB.out.trans (HBU.out.mono HB.out.size)⟩
end Go.Proofs.YticfcdbfplfmlaaGreat
/- The walks of layer 5: is it a plan? -/
namespace Go.Proofs.YticfcdbfplfmlaaGreat
open Go.RowKit Go.Maps
attribute [local go_sem] Oper.semAt_some

theorem below_keep {w W A : World} {n : Nat} {M : Nat → Prop} (hb : Below n w W) (k : KeepsBut M W A) (hn : n ≤ W.heap.size) (hM : ∀ m, M m → n ≤ m) : Below n w A :=
  ⟨k.os.trans hb.os, k.tape.trans hb.tape, k.output.trans hb.output, Nat.le_trans hb.size k.size, fun j hj => by rw [k.block j (by omega) (fun h => by have := hM j h; omega), hb.block j hj]⟩
theorem results_cell_bool {fn : Func} {p : Tmp} (h : fn.results = #[.cell p 4]) (tmps : Array Value) (w : World) (g : Nat) (v : Value) (hp : tmps.getD p undef = .pointer (some ⟨g, 0, none⟩)) (hc : w.cell? ⟨g, 0, none⟩ = some v) :
    (results fn tmps).run Tryz.prog w = .ok v w := by
  have hp' : tmps[p]?.getD undef = .pointer (some ⟨g, 0, none⟩) := by simpa using hp
  simp [results, h, hp', asAddr, go_sem, Tryz.underlying4, hc]
theorem inRound_of {P : Program} {f : FuncId} {args : Array Value} {w : World} {R Q : Ending → World → Prop} {l n : Nat} (h : Calls P f args w R) (hq : ∀ e w', R e w' → Q e w') : Fence.wide.fn f ∧ Fence.wide.depth = none ∧ CallsIn (Fence.wide.inRound l) n P f args w Q :=
  ⟨trivial, rfl, CallsIn.inRound l (callsIn_wide.2 (h.mono hq))⟩
set_option maxRecDepth 10000 in
set_option maxHeartbeats 1600000 in
theorem isPlan_any (b : Bf) (p : Option Addr) (c mb : Nat) (q : Option Addr) (cq : Nat) (l : List Int) (w : World) (hB : BkF w p c mb b) (hl : IntsAt w q l) (hn : l.length < 2 ^ 62) (h64 : ∀ i, i < l.length → I64 (at0 l i)) :
    Calls Tryz.prog 72 #[.agg (bkA b p c mb), .slice q l.length cq] w fun e w' => e = .returned (.bool (planB b l)) ∧ Below w.heap.size w w' := by
  have HB := Lib.hid hB
  have hn8 := HB.out.ok.n8
  have HL := Lib.hid hl
  have H64 := Lib.hid h64
  clear hB hl h64
  refine calls_marks Tryz.func72 rfl ?_
  simp only [Tryz.ntmps72, List.size_toArray, List.length_cons, List.length_nil, Nat.reduceAdd, Nat.reduceSub, Array.replicate_succ, Array.replicate_zero, List.push_toArray, List.append_toArray, List.nil_append, List.cons_append]
  go_wp2_with (first | (go_at_call 98; (refine (boxes_any _ _ _ _).mono ?_); rintro e w' ⟨rfl, rfl⟩))
  have hb4 : Below w.heap.size w ((((w.alloc (.cells (bkA b p c mb) 92)).alloc (.cells #[.bool false] 4)).alloc (.cells #[.int .i64 0] 3)).alloc (.cells #[.slice q l.length cq] 29)) := ((below_alloc2 w _ _).alloc (by simp; omega) _).alloc (by simp; omega) _
  have rB := (((Row.new w (bkA b p c mb) 92).alloc (.cells #[.bool false] 4)).alloc (.cells #[.int .i64 0] 3)).alloc (.cells #[.slice q l.length cq] 29)
  have rD := ((Row.new1 w (.cells (bkA b p c mb) 92) #[.bool false] 4).alloc (.cells #[.int .i64 0] 3)).alloc (.cells #[.slice q l.length cq] 29)
  have rE := (Row.new2 w (.cells (bkA b p c mb) 92) (.cells #[.bool false] 4) #[.int .i64 0] 3).alloc (.cells #[.slice q l.length cq] 29)
  have rN := Row.new' (w := (((w.alloc (.cells (bkA b p c mb) 92)).alloc (.cells #[.bool false] 4)).alloc (.cells #[.int .i64 0] 3))) (n := w.heap.size + 1 + 1 + 1) (by simp) #[.slice q l.length cq] 29
  have hs4 : ((((w.alloc (.cells (bkA b p c mb) 92)).alloc (.cells #[.bool false] 4)).alloc (.cells #[.int .i64 0] 3)).alloc (.cells #[.slice q l.length cq] 29)).heap.size = w.heap.size + 4 := by simp
  change Code.wp _ _ _ _ ((((w.alloc (.cells (bkA b p c mb) 92)).alloc (.cells #[.bool false] 4)).alloc (.cells #[.int .i64 0] 3)).alloc (.cells #[.slice q l.length cq] 29))
  generalize ((((w.alloc (.cells (bkA b p c mb) 92)).alloc (.cells #[.bool false] 4)).alloc (.cells #[.int .i64 0] 3)).alloc (.cells #[.slice q l.length cq] 29)) = w4 at *
  have HB4 := Lib.hid hb4
  have RB := Lib.hid rB
  have HSP := Lib.hid (fun k => planTo_succ b l k)
  have HPN := Lib.hid (fun k h hk => plan_nums (b := b) (l := l) (k := k) h hk)
  have HL4 := Lib.hid (HL.out.below hb4)
  have hqlt : ∀ m o, 0 < l.length → q = some ⟨m, o, none⟩ → m < w.heap.size := fun m o h0 e => by
    obtain ⟨b', o', e', hc⟩ := HL.out 0 h0
    rw [e] at e'
    cases e'
    exact cell_block hc
  have HPB := Lib.hid (show planB b l = (planTo b l l.length && decide (bgn l l.length = b.hs.length)) from rfl)
  clear hb4 rB
  refine range_lawO 111 #[.pointer (some ⟨w.heap.size + 1 + 1 + 1, 0, none⟩)] (fun m => m = w.heap.size + 1 + 1 + 1 ∨ (0 < l.length ∧ ∃ o, q = some ⟨m, o, none⟩)) l.length (fun k x O A => x = #[.int .i64 k, .agg #[.int .i64 (bgn l k), .int .i64 (at0 l k)]]) rfl (fun args w => Tryz.call111 args w)
    (fun W1 hb _ => boxes_iter q cq l _ hn W1 (rN.below hb rN.lt) (HL4.out.below hb)) (fun k x O A h => by rw [h]; rfl) (fun m => m = w.heap.size + 1 ∨ m = w.heap.size + 1 + 1)
    (by
      rintro m hm
      refine ⟨by omega, ?_⟩
      rintro (h | ⟨h0, o, e⟩)
      · omega
      · have := hqlt m o h0 e
        omega)
    (by
      rintro (h | ⟨h0, o, e⟩)
      · omega
      · have := hqlt _ o h0 e
        omega)
    (fun k O A => planTo b l k = true ∧ ¬ O (w.heap.size + 1) ∧ ¬ O (w.heap.size + 1 + 1) ∧ Row A (w.heap.size + 1) #[.bool false] 4 ∧ Row A (w.heap.size + 1 + 1) #[.int .i64 (bgn l k)] 3)
    (fun cc O A => cc = .ret ∧ planB b l = false ∧ ¬ O (w.heap.size + 1) ∧ Row A (w.heap.size + 1) #[.bool false] 4)
    (fun k O O' A B h hb _ hO => ⟨h.1, fun x => (hO _ x).elim h.2.1 (fun y => by have := h.2.2.2.1.lt; omega), fun x => (hO _ x).elim h.2.2.1 (fun y => by have := h.2.2.2.2.lt; omega), h.2.2.2.1.keeps hb h.2.1, h.2.2.2.2.keeps hb h.2.2.1⟩)
    (fun _ O O' A B h hb _ hO => ⟨h.1, h.2.1, fun x => (hO _ x).elim h.2.2.1 (fun y => by have := h.2.2.2.lt; omega), h.2.2.2.keeps hb h.2.2.1⟩)
    ⟨rfl, fun h => h.elim, fun h => h.elim, rD, rE⟩ ?body ?done ?stop
  case body =>
    rintro li k x O O' A rfl hk hx hOO hO hOw hOl ⟨hp, hn1, hn2, hD, hE⟩ hkeep hlA
    obtain rfl := hx
    have HPT := Lib.hid hp
    have RBA := Lib.hid (RB.out.keeps hkeep (by rintro (h | h) <;> omega))
    have HK := Lib.hid hkeep
    have HDD := Lib.hid hD
    have HEE := Lib.hid hE
    have hnum := HPN.out k hp (by omega)
    have hszA := hE.lt
    have H64k := Lib.hid (H64.out k hk)
    clear hp hkeep hD hE hOO hO
    gi_wp2_with fail
    refine ⟨(KeepsBut.refl _ _).alloc _, fun oo => ?_⟩
    have hk2 : KeepsBut (fun m => m = w4.heap.size + 1) A ((A.alloc (.cells #[.int .i64 (bgn l k), .int .i64 (at0 l k)] 127)).putObj (w4.heap.size + 1) oo) := ((KeepsBut.refl (fun m => m = w4.heap.size + 1) A).alloc (.cells #[.int .i64 (bgn l k), .int .i64 (at0 l k)] 127)).putObj (l := w4.heap.size + 1) (.inl rfl) oo
    have hk5 := (HK.out.alloc (.cells #[.int .i64 (bgn l k), .int .i64 (at0 l k)] 127)).putObj (l := w4.heap.size + 1) (.inr (by omega)) oo
    have RS := Lib.hid ((Row.new A #[.int .i64 (bgn l k), .int .i64 (at0 l k)] 127).keeps ((KeepsBut.refl (fun m => m = w4.heap.size + 1) _).putObj (l := w4.heap.size + 1) (.inl rfl) oo) (by omega))
    have RB2 := Lib.hid (RBA.out.keeps hk2 (by omega))
    have RD2 := Lib.hid (HDD.out.keeps hk2 (by omega))
    have RE2 := Lib.hid (HEE.out.keeps hk2 (by omega))
    have HB2 := Lib.hid (HB.out.below (below_keep HB4.out hk5 (by omega) (fun m hm => by rcases hm with rfl | rfl <;> omega)))
    have hszB : A.heap.size < ((A.alloc (.cells #[.int .i64 (bgn l k), .int .i64 (at0 l k)] 127)).putObj (w4.heap.size + 1) oo).heap.size := RS.out.lt
    change Code.wpIn _ _ _ _ _ _ ((A.alloc (.cells #[.int .i64 (bgn l k), .int .i64 (at0 l k)] 127)).putObj (w4.heap.size + 1) oo)
    generalize (A.alloc (.cells #[.int .i64 (bgn l k), .int .i64 (at0 l k)] 127)).putObj (w4.heap.size + 1) oo = A2 at *
    have b0 := RB2.out.cell 0 (v := .int .i64 b.pr) rfl
    have b1 := RB2.out.cell 1 (v := .int .i64 b.le) rfl
    have b2 := RB2.out.cell 2 (v := .int .i64 b.mo) rfl
    have b3 := RB2.out.cell 3 (v := .int .i64 b.gr) rfl
    have b4 := RB2.out.cell 4 (v := .slice p b.hs.length c) rfl
    have b5 := RB2.out.cell 5 (v := .map (some mb)) rfl
    have s0 := RS.out.cell 0 (v := .int .i64 (bgn l k)) rfl
    have s1 := RS.out.cell 1 (v := .int .i64 (at0 l k)) rfl
    clear hk2 hk5 RBA HK HDD HEE
    gi_wp2_with fail
    refine inRound_of (isBox_any b p c mb _ _ (I64_of (by omega) (by omega)) H64k.out A2 HB2.out) ?_
    rintro e A3 ⟨rfl, hb3⟩
    have RS3 := Lib.hid (RS.out.below hb3 RS.out.lt)
    have RD3 := Lib.hid (RD2.out.below hb3 RD2.out.lt)
    have RE3 := Lib.hid (RE2.out.below hb3 RE2.out.lt)
    have HK3 := Lib.hid (KeepsBut.of_below (M := fun m => m = w.heap.size + 1 ∨ m = w.heap.size + 1 + 1) hb3)
    clear hb3 b0 b1 b2 b3 b4 b5 s0 s1
    cases hbx : boxB b (bgn l k) (at0 l k)
    · have d0 := RD3.out.cell 0 (v := .bool false) rfl
      have d1 := RD3.out.free 0
      have HPF := Lib.hid (show planB b l = false by
        rw [HPB.out]
        cases h : planTo b l l.length
        · rfl
        · have := planTo_all h hk
          unfold boxI at this
          rw [hbx] at this
          cases this)
      clear hbx
      gi_wp2_with fail
      exact ⟨HK3.out.setCell (.inl (.inl rfl)) _, rfl, HPF.out, hn1, RD3.out.set 0 _⟩
    · have e0 := RE3.out.cell 0 (v := .int .i64 (bgn l k)) rfl
      have e1 := RE3.out.free 0
      have s1 := RS3.out.cell 1 (v := .int .i64 (at0 l k)) rfl
      have HPT2 := Lib.hid (show planTo b l (k + 1) = true by rw [HSP.out, HPT.out]; unfold boxI; rw [hbx]; rfl)
      clear hbx
      gi_wp2_with fail
      exact ⟨HK3.out.setCell (.inl (.inr rfl)) _, HPT2.out, hn1, hn2, RD3.out.set_other _ _ (by dsimp only; omega), by rw [bgn_succ]; exact RE3.out.set 0 _⟩
  case done =>
    rintro O B ⟨hp, hn1, hn2, hD, hE⟩ hO hkeep hsz hDef
    have RBB := Lib.hid (RB.out.keeps hkeep (by rintro (h | h) <;> omega))
    have HKE := Lib.hid hkeep
    have HDF := Lib.hid hDef
    have RD := Lib.hid hD
    have b4 := RBB.out.cell 4 (v := .slice p b.hs.length c) rfl
    have e0 := hE.cell 0 (v := .int .i64 (bgn l l.length)) rfl
    have d0 := RD.out.cell 0 (v := .bool false) rfl
    have d1 := RD.out.free 0
    have HPV := Lib.hid (show planB b l = (bgn l l.length == (b.hs.length : Int)) by rw [HPB.out, hp, Bool.true_and]; exact Bool.eq_iff_iff.2 (by simp))
    have hzB := RD.out.lt
    clear hkeep hDef hD hE hp
    go_wp2
    have q0 := RD.out.set 0 (.bool (bgn l l.length == (b.hs.length : Int)))
    have k0 : KeepsBut (fun m => m = w.heap.size + 1) B (B.setCell ⟨w.heap.size + 1, 0, none⟩ (.bool (bgn l l.length == (b.hs.length : Int)))) := by
      refine KeepsBut.setCell (KeepsBut.refl _ _) ?_ _
      exact .inl rfl
    have hDC := (k0.block w4.heap.size (by omega) (by omega)).trans HDF.out
    have hmk : Marks w.heap.size [{ target := .collected w4.heap.size, args := #[] }] _ := ⟨⟨_, rfl, by omega, hDC, by simp⟩, trivial⟩
    refine marks_leave hmk (fun B2 hB2 => ?_)
    have q1 : Row B2 (w.heap.size + 1) #[.bool (bgn l l.length == (b.hs.length : Int))] 4 := by
      unfold Row
      rw [hB2.rest _ (fun o h => by unfold Row at q0; rw [q0] at h; cases h)]
      exact q0
    refine ⟨_, results_cell_bool Tryz.results72 _ _ _ _ rfl (q1.cell 0 rfl), ?_⟩
    refine ⟨by rw [HPV.out]; rfl, ?_⟩
    exact (below_keep (below_keep HB4.out HKE.out (by omega) (fun m hm => by rcases hm with rfl | rfl <;> omega)) k0 (by omega) (fun m hm => by omega)).trans hB2.below
  case stop =>
    rintro cc O B ⟨rfl, hpf, hn1, hD⟩ hO hkeep hsz hDef
    have HKE := Lib.hid hkeep
    have HDF := Lib.hid hDef
    have RD := Lib.hid hD
    have HPF := Lib.hid hpf
    clear hkeep hDef hD hpf
    go_wp2_with fail
    have hmk : Marks w.heap.size [{ target := .collected w4.heap.size, args := #[] }] B := ⟨⟨_, rfl, by omega, HDF.out, by simp⟩, trivial⟩
    refine marks_leave hmk (fun B2 hB2 => ?_)
    have q1 : Row B2 (w.heap.size + 1) #[.bool false] 4 := by
      have q0 := RD.out
      unfold Row
      rw [hB2.rest _ (fun o h => by unfold Row at q0; rw [q0] at h; cases h)]
      exact q0
    refine ⟨_, results_cell_bool Tryz.results72 _ _ _ _ rfl (q1.cell 0 rfl), ?_⟩
    exact ⟨by rw [HPF.out]; rfl, (below_keep HB4.out HKE.out (by omega) (fun m hm => by rcases hm with rfl | rfl <;> omega)).trans hB2.below⟩
end Go.Proofs.YticfcdbfplfmlaaGreat
/- The walks of layer 5: the iterator of a plan's boxes, for rounds that write what they have made. -/
namespace Go.Proofs.YticfcdbfplfmlaaGreat
open Go.RowKit Go.Maps
attribute [local go_sem] Oper.semAt_some

theorem KeepsBut.far {M N : Nat → Prop} {W A B : World} (h : KeepsBut M W A) (k : KeepsBut N A B) (hn : ∀ m, m < W.heap.size → N m → M m) : KeepsBut M W B :=
  ⟨k.os.trans h.os, k.tape.trans h.tape, k.output.trans h.output, Nat.le_trans h.size k.size, fun j hj hm => by rw [k.block j (by have := h.size; omega) (fun x => hm (hn j hj x)), h.block j hj hm]⟩
set_option maxRecDepth 10000 in
set_option maxHeartbeats 1600000 in
theorem boxes_iterP (p : Option Addr) (c : Nat) (l : List Int) (nb : Nat) (hl : l.length < 2 ^ 62) (W : World) (hW : Row W nb #[.slice p l.length c] 29) (hI : IntsAt W p l) :
    IterP Tryz.prog 111 #[.pointer (some ⟨nb, 0, none⟩)] (fun m => m = nb ∨ (0 < l.length ∧ ∃ o, p = some ⟨m, o, none⟩)) l.length (fun k x O A => x = #[.int .i64 k, .agg #[.int .i64 (bgn l k), .int .i64 (at0 l k)]]) W := by
  intro li M J Jx hM hJ hJx hY h0
  show Calls _ _ #[.func (.yield li) #[] #[], .pointer (some ⟨nb, 0, none⟩)] _ _
  have HW := Lib.hid hW
  have HI := Lib.hid hI
  have HM := Lib.hid hM
  have HJ := Lib.hid hJ
  have HY := Lib.hid hY
  have H0 := Lib.hid h0
  have c0 := hW.cell 0 (v := .slice p l.length c) rfl
  clear hW hI hM hJ hJx hY h0
  go_enter Tryz.func111, Tryz.ntmps111
  go_wp2_with fail
  clear c0
  go_loopw [3, 8] (fun f i wr => ∃ k : Nat, k ≤ l.length ∧ f = .int .i64 (bgn l k) ∧ i = .int .i64 k ∧ J k (fun _ => False) wr ∧ KeepsBut M W wr) (fun _ i _ => l.length - (intOf i).toNat)
  case atStart => exact ⟨0, by omega, rfl, rfl, H0.out, KeepsBut.refl _ _⟩
  case round =>
    obtain ⟨k, hk, rfl, rfl, hj, hkp⟩ := hrel
    by_cases hlt : k < l.length
    · obtain ⟨b, o, rfl, hc⟩ := HI.out k hlt
      have hnm : ¬ M b := fun h => (HM.out b h).2 (.inr ⟨by omega, o, rfl⟩)
      have cc : wr.cell? ⟨b, o + k, none⟩ = some (.int .i64 (at0 l k)) := by rw [World.cell?_of_block (hkp.block b (cell_block hc) hnm)]; exact hc
      obtain ⟨fn, tmps, assign, body, hy, hR⟩ := HY.out k #[.int .i64 k, .agg #[.int .i64 (bgn l k), .int .i64 (at0 l k)]] (fun _ => False) wr hlt rfl (fun _ h => h.elim) hj hkp
      have hy : (Instr.yield li #[.int .i64 k, .agg #[.int .i64 (bgn l k), .int .i64 (at0 l k)]]).run Tryz.prog _ = _ := hy
      have HR := Lib.hid hR
      have HKP := Lib.hid hkp
      have HBS := Lib.hid (bgn_succ l k)
      have i1 : (0 : Int) ≤ (k : Int) := by omega
      have i2 : (k : Int) < (l.length : Int) := by omega
      clear hR hkp hj hc hnm
      go_upto_region 4 with (fail)
      refine (wpIn_wide (n := 1)).1 ?_
      gi_wp2_with fail
      refine HR.out.mono ?_
      rintro e B ⟨hkB, (⟨rfl, hJ1⟩ | ⟨rfl, hJx1⟩)⟩
      · have HJ1 := Lib.hid hJ1
        have HK1 := Lib.hid (HKP.out.far hkB (fun m hm h => h.elim id fun x => absurd x.1 (by omega)))
        clear hkB hJ1 hy cc
        gi_wp2
        go_wp2
        go_roundw
        case rel => exact ⟨k + 1, by omega, by rw [HBS.out], by go_num, HJ1.out, HK1.out⟩
        case measure => simp [intOf]; omega
      · have HJ1 := Lib.hid hJx1
        have HK1 := Lib.hid (HKP.out.far hkB (fun m hm h => h.elim id fun x => absurd x.1 (by omega)))
        clear hkB hJx1 hy cc
        gi_wp2
        go_wp2
        refine bodyPost_ret (results_none rfl _ _ _) rfl ?_
        exact ⟨⟨_, rfl⟩, HK1.out, _, fun _ h => h.elim, .inr HJ1.out⟩
    · obtain rfl : k = l.length := by omega
      have HJ1 := Lib.hid hj
      have HK1 := Lib.hid hkp
      clear hj hkp
      go_wp2
      go_end0
      exact ⟨⟨_, rfl⟩, HK1.out, _, fun _ h => h.elim, .inl HJ1.out⟩
end Go.Proofs.YticfcdbfplfmlaaGreat
/- The walks of layer 5: which outcome is better; all handfuls are left. -/
namespace Go.Proofs.YticfcdbfplfmlaaGreat
open Go.RowKit Go.Maps
attribute [local go_sem] Oper.semAt_some

/-- An outcome, as it lies in memory: its plan, what is right, what is by hand. -/
abbrev outA (q : Option Addr) (n c : Nat) (pr : Option Addr) (nr cr : Nat) (ph : Option Addr) (nh ch : Nat) : Array Value := #[.slice q n c, .slice pr nr cr, .slice ph nh ch]
set_option maxRecDepth 10000 in
set_option maxHeartbeats 1600000 in
theorem quicker_any (q : Option Addr) (n c : Nat) (pr : Option Addr) (nr cr : Nat) (ph : Option Addr) (nh ch : Nat) (q' : Option Addr) (n' c' : Nat) (pr' : Option Addr) (nr' cr' : Nat) (ph' : Option Addr) (nh' ch' : Nat) (w : World) :
    Calls Tryz.prog 45 #[.agg (outA q n c pr nr cr ph nh ch), .agg (outA q' n' c' pr' nr' cr' ph' nh' ch')] w fun e w' => e = .returned (.bool (if nh = nh' then decide (n' < n) else decide (nh < nh'))) ∧ Below w.heap.size w w' := by
  by_cases h : nh = nh'
  · subst h
    rw [if_pos rfl]
    go_enter Tryz.func45, Tryz.ntmps45
    go_wp2_with fail
    go_ret
    exact ⟨by simp, below_alloc2 _ _ _⟩
  · rw [if_neg h]
    have h2 : ((nh : Int) == (nh' : Int)) = false := beq_eq_false_iff_ne.2 (by omega)
    have h3 : ((nh : Int) != (nh' : Int)) = true := by simp; omega
    go_enter Tryz.func45, Tryz.ntmps45
    go_wp2_with fail
    go_ret
    exact ⟨by simp, below_alloc2 _ _ _⟩
set_option maxRecDepth 10000 in
set_option maxHeartbeats 1600000 in
theorem surer_any (q : Option Addr) (n c : Nat) (pr : Option Addr) (nr cr : Nat) (ph : Option Addr) (nh ch : Nat) (q' : Option Addr) (n' c' : Nat) (pr' : Option Addr) (nr' cr' : Nat) (ph' : Option Addr) (nh' ch' : Nat) (w : World) :
    Calls Tryz.prog 52 #[.agg (outA q n c pr nr cr ph nh ch), .agg (outA q' n' c' pr' nr' cr' ph' nh' ch')] w fun e w' => e = .returned (.bool (decide (nr' < nr))) ∧ Below w.heap.size w w' := by
  go_enter Tryz.func52, Tryz.ntmps52
  go_wp2_with fail
  go_ret
  exact ⟨by simp, below_alloc2 _ _ _⟩
/-- Which handfuls are left. -/
def leftF (f : Nat → Bool) : Array Value := #[.bool (f 0), .bool (f 1), .bool (f 2), .bool (f 3), .bool (f 4), .bool (f 5), .bool (f 6), .bool (f 7)]
theorem leftF_set (f : Nat → Bool) {k : Nat} (hk : k < 8) (v : Bool) : (leftF f).setIfInBounds k (.bool v) = leftF (fun i => if i = k then v else f i) := by
  obtain rfl | rfl | rfl | rfl | rfl | rfl | rfl | rfl : k = 0 ∨ k = 1 ∨ k = 2 ∨ k = 3 ∨ k = 4 ∨ k = 5 ∨ k = 6 ∨ k = 7 := by omega
  all_goals simp [leftF]
theorem leftF_at (f : Nat → Bool) {k : Nat} (hk : k < 8) : (leftF f)[k]? = some (.bool (f k)) := by
  obtain rfl | rfl | rfl | rfl | rfl | rfl | rfl | rfl : k = 0 ∨ k = 1 ∨ k = 2 ∨ k = 3 ∨ k = 4 ∨ k = 5 ∨ k = 6 ∨ k = 7 := by omega
  all_goals simp [leftF]
theorem leftF_congr {f g : Nat → Bool} (h : ∀ i, i < 8 → f i = g i) : leftF f = leftF g := by
  simp [leftF, h 0, h 1, h 2, h 3, h 4, h 5, h 6, h 7]
theorem leftF_succ {k : Nat} (hk : k < 8) : (leftF (fun i => decide (i < k))).setIfInBounds k (.bool true) = leftF (fun i => decide (i < k + 1)) := by
  rw [leftF_set _ hk]
  refine leftF_congr fun i _ => ?_
  by_cases h : i = k
  · simp [h]
  · simp only [if_neg h]
    exact decide_eq_decide.2 (by omega)
set_option maxRecDepth 10000 in
set_option maxHeartbeats 1600000 in
theorem all_any (b : Bf) (p : Option Addr) (c mb : Nat) (hn : b.hs.length ≤ 8) (w : World) :
    Calls Tryz.prog 97 #[.agg (bkA b p c mb)] w fun e w' => e = .returned (.agg (leftF (fun i => decide (i < b.hs.length)))) ∧ Below w.heap.size w w' := by
  have HE := Lib.hid ((below_alloc2 w (.cells (bkA b p c mb) 92) (.cells #[.bool false, .bool false, .bool false, .bool false, .bool false, .bool false, .bool false, .bool false] 188)).alloc (by simp; omega) (.cells #[.bool false, .bool false, .bool false, .bool false, .bool false, .bool false, .bool false, .bool false] 188))
  have HD := Lib.hid ((Row.new1 w (.cells (bkA b p c mb) 92) #[.bool false, .bool false, .bool false, .bool false, .bool false, .bool false, .bool false, .bool false] 188).alloc (.cells #[.bool false, .bool false, .bool false, .bool false, .bool false, .bool false, .bool false, .bool false] 188))
  have HA := Lib.hid (Row.new2 w (.cells (bkA b p c mb) 92) (.cells #[.bool false, .bool false, .bool false, .bool false, .bool false, .bool false, .bool false, .bool false] 188) #[.bool false, .bool false, .bool false, .bool false, .bool false, .bool false, .bool false, .bool false] 188)
  go_enter Tryz.func97, Tryz.ntmps97
  go_wp2_with fail
  go_loopw [9] (fun i wr => ∃ k : Nat, k ≤ b.hs.length ∧ i = .int .i64 k ∧ Row wr (w.heap.size + 1 + 1) (leftF (fun i => decide (i < k))) 188 ∧ Row wr (w.heap.size + 1) #[.bool false, .bool false, .bool false, .bool false, .bool false, .bool false, .bool false, .bool false] 188 ∧ Below w.heap.size w wr) (fun i _ => b.hs.length - (intOf i).toNat)
  case atStart => exact ⟨0, by omega, rfl, HA.out, HD.out, HE.out⟩
  case round =>
    obtain ⟨k, hk, rfl, ha, hd, he⟩ := hrel
    by_cases hlt : k < b.hs.length
    · have a0 := ha.cell k (leftF_at _ (by omega))
      have a1 := ha.free k
      have i1 : (0 : Int) ≤ (k : Int) := by omega
      have i2 : (k : Int) < 8 := by omega
      have HA2 := Lib.hid (by have h := ha.set k (.bool true); rw [leftF_succ (by omega)] at h; exact h : Row (wr.setCell ⟨w.heap.size + 1 + 1, k, none⟩ (.bool true)) (w.heap.size + 1 + 1) (leftF (fun i => decide (i < k + 1))) 188)
      have HD2 := Lib.hid (hd.set_other ⟨w.heap.size + 1 + 1, k, none⟩ (.bool true) (by dsimp only; omega))
      have HE2 := Lib.hid (show Below w.heap.size w (wr.setCell ⟨w.heap.size + 1 + 1, k, none⟩ (.bool true)) from he.setCell (by dsimp only; omega) _)
      clear ha hd he
      go_wp2_with fail
      go_roundw
      case rel => exact ⟨k + 1, by omega, by go_num, HA2.out, HD2.out, HE2.out⟩
      case measure => simp [intOf]; omega
    · obtain rfl : k = b.hs.length := by omega
      have HA2 := Lib.hid ha
      have HD2 := Lib.hid hd
      have HE2 := Lib.hid he
      clear ha hd he
      have c0 := HA2.out.cell 0 (v := .bool (decide (0 < b.hs.length))) rfl
      have c1 := HA2.out.cell 1 (v := .bool (decide (1 < b.hs.length))) rfl
      have c2 := HA2.out.cell 2 (v := .bool (decide (2 < b.hs.length))) rfl
      have c3 := HA2.out.cell 3 (v := .bool (decide (3 < b.hs.length))) rfl
      have c4 := HA2.out.cell 4 (v := .bool (decide (4 < b.hs.length))) rfl
      have c5 := HA2.out.cell 5 (v := .bool (decide (5 < b.hs.length))) rfl
      have c6 := HA2.out.cell 6 (v := .bool (decide (6 < b.hs.length))) rfl
      have c7 := HA2.out.cell 7 (v := .bool (decide (7 < b.hs.length))) rfl
      have d0 := HD2.out.cell 0 (v := .bool false) rfl
      have f0 := HD2.out.free 0
      have d1 := HD2.out.cell 1 (v := .bool false) rfl
      have f1 := HD2.out.free 1
      have d2 := HD2.out.cell 2 (v := .bool false) rfl
      have f2 := HD2.out.free 2
      have d3 := HD2.out.cell 3 (v := .bool false) rfl
      have f3 := HD2.out.free 3
      have d4 := HD2.out.cell 4 (v := .bool false) rfl
      have f4 := HD2.out.free 4
      have d5 := HD2.out.cell 5 (v := .bool false) rfl
      have f5 := HD2.out.free 5
      have d6 := HD2.out.cell 6 (v := .bool false) rfl
      have f6 := HD2.out.free 6
      have d7 := HD2.out.cell 7 (v := .bool false) rfl
      have f7 := HD2.out.free 7
      go_wp2_with fail
      have q0 := ((((((((HD2.out.set 0 (.bool (decide (0 < b.hs.length)))).set 1 (.bool (decide (1 < b.hs.length)))).set 2 (.bool (decide (2 < b.hs.length)))).set 3 (.bool (decide (3 < b.hs.length)))).set 4 (.bool (decide (4 < b.hs.length)))).set 5 (.bool (decide (5 < b.hs.length)))).set 6 (.bool (decide (6 < b.hs.length)))).set 7 (.bool (decide (7 < b.hs.length))))
      simp at q0
      exact bodyPost_ret (v := .agg (leftF (fun i => decide (i < b.hs.length)))) (results_cell_row Tryz.results97 _ _ _ _ (leftF (fun i => decide (i < b.hs.length))) _ _ rfl q0 Tryz.underlying188 rfl (by kernel_rfl)) rfl ⟨rfl, ((((((((HE2.out.setCell (by dsimp only; omega) _).setCell (by dsimp only; omega) _).setCell (by dsimp only; omega) _).setCell (by dsimp only; omega) _).setCell (by dsimp only; omega) _).setCell (by dsimp only; omega) _).setCell (by dsimp only; omega) _).setCell (by dsimp only; omega) _)⟩
end Go.Proofs.YticfcdbfplfmlaaGreat
/- The walks of layer 5: an outcome is offered. -/
namespace Go.Proofs.YticfcdbfplfmlaaGreat
open Go.RowKit Go.Maps
attribute [local go_sem] Oper.semAt_some

/-- A choice. -/
abbrev choA (q : Option Addr) (n c : Nat) (pr : Option Addr) (nr cr : Nat) (ph : Option Addr) (nh ch : Nat) (sm : Bool) (f : Nat) : Array Value := #[.slice q n c, .slice pr nr cr, .slice ph nh ch, .bool sm, .func (.func f) #[] #[]]
theorem FromB.drewN {b : Nat} {W w : World} (h : FromB b W w) (n : Nat) : FromB b W (w.drewN n) := ⟨⟨h.k.os, h.k.tape, h.k.output, h.k.size, h.k.block⟩⟩
/-- Some call is made, and the choice is then such a one. -/
def Offered (cb : Nat) (cs : Array Value) (w : World) (e : Ending) (w' : World) : Prop := (∃ v, e = .returned v) ∧ Row w' cb cs 149 ∧ FromB cb w w'
section
variable {cb : Nat} {q : Option Addr} {n c : Nat} {pr : Option Addr} {nr cr : Nat} {ph : Option Addr} {nh ch : Nat} {sm : Bool} {f : Nat} {t : TypeId}
theorem cho_sets {W : World} (h : Row W cb (choA q n c pr nr cr ph nh ch sm f) t) (q' : Option Addr) (n' c' : Nat) (pr' : Option Addr) (nr' cr' : Nat) (ph' : Option Addr) (nh' ch' : Nat) :
    Row ((((W.setCell ⟨cb, 0, none⟩ (.slice q' n' c')).setCell ⟨cb, 1, none⟩ (.slice pr' nr' cr')).setCell ⟨cb, 2, none⟩ (.slice ph' nh' ch')).setCell ⟨cb, 3, none⟩ (.bool true)) cb (choA q' n' c' pr' nr' cr' ph' nh' ch' true f) t :=
  by have e := (((h.set 0 (.slice q' n' c')).set 1 (.slice pr' nr' cr')).set 2 (.slice ph' nh' ch')).set 3 (.bool true); simpa using e
theorem from_sets {w W : World} (h : FromB cb w W) (v0 v1 v2 v3 : Value) : FromB cb w ((((W.setCell ⟨cb, 0, none⟩ v0).setCell ⟨cb, 1, none⟩ v1).setCell ⟨cb, 2, none⟩ v2).setCell ⟨cb, 3, none⟩ v3) :=
  (((h.set _ _).set _ _).set _ _).set _ _
end
set_option maxRecDepth 10000 in
set_option maxHeartbeats 1600000 in
theorem offer_first (cb : Nat) (q : Option Addr) (n c : Nat) (pr : Option Addr) (nr cr : Nat) (ph : Option Addr) (nh ch : Nat) (q' : Option Addr) (n' c' : Nat) (pr' : Option Addr) (nr' cr' : Nat) (ph' : Option Addr) (nh' ch' : Nat) (f : Nat) (w : World) (hr : Row w cb (choA q n c pr nr cr ph nh ch false f) 149) :
    Calls Tryz.prog 70 #[.pointer (some ⟨cb, 0, none⟩), .agg (outA q' n' c' pr' nr' cr' ph' nh' ch')] w (Offered cb (choA q' n' c' pr' nr' cr' ph' nh' ch' true f) w) := by
  have hz := hr.lt
  have HR := Lib.hid (hr.alloc (.cells (outA q' n' c' pr' nr' cr' ph' nh' ch') 96))
  have HF := Lib.hid ((FromB.refl cb w).alloc (.cells (outA q' n' c' pr' nr' cr' ph' nh' ch') 96))
  have c0 := HR.out.cell 0 (v := .slice q n c) rfl
  have c1 := HR.out.cell 1 (v := .slice pr nr cr) rfl
  have c2 := HR.out.cell 2 (v := .slice ph nh ch) rfl
  have c3 := HR.out.cell 3 (v := .bool false) rfl
  have c4 := HR.out.cell 4 (v := .func (.func f) #[] #[]) rfl
  have f0 := HR.out.free 0
  have f1 := HR.out.free 1
  have f2 := HR.out.free 2
  have f3 := HR.out.free 3
  clear hr
  go_enter Tryz.func70, Tryz.ntmps70
  go_wp2_with fail
  go_quiet (fail)
  go_wp2_with fail
  go_end0
  exact ⟨⟨_, rfl⟩, cho_sets (HR.out.drewN _) _ _ _ _ _ _ _ _ _, from_sets (HF.out.drewN _) _ _ _ _⟩
set_option maxRecDepth 10000 in
set_option maxHeartbeats 1600000 in
theorem offer_quicker (cb : Nat) (q : Option Addr) (n c : Nat) (pr : Option Addr) (nr cr : Nat) (ph : Option Addr) (nh ch : Nat) (q' : Option Addr) (n' c' : Nat) (pr' : Option Addr) (nr' cr' : Nat) (ph' : Option Addr) (nh' ch' : Nat) (w : World) (hr : Row w cb (choA q n c pr nr cr ph nh ch true 45) 149) (d : Bool) (hd : (if nh' = nh then decide (n < n') else decide (nh' < nh)) = d) :
    Calls Tryz.prog 70 #[.pointer (some ⟨cb, 0, none⟩), .agg (outA q' n' c' pr' nr' cr' ph' nh' ch')] w (Offered cb (if d then choA q' n' c' pr' nr' cr' ph' nh' ch' true 45 else choA q n c pr nr cr ph nh ch true 45) w) := by
  have HC := Lib.hid (fun w' => (by have h := quicker_any q' n' c' pr' nr' cr' ph' nh' ch' q n c pr nr cr ph nh ch w'; rw [hd] at h; exact h : Calls Tryz.prog 45 #[.agg (outA q' n' c' pr' nr' cr' ph' nh' ch'), .agg (outA q n c pr nr cr ph nh ch)] w' fun e w'' => e = .returned (.bool d) ∧ Below w'.heap.size w' w''))
  have hz := hr.lt
  have HR := Lib.hid (hr.alloc (.cells (outA q' n' c' pr' nr' cr' ph' nh' ch') 96))
  have HF := Lib.hid ((FromB.refl cb w).alloc (.cells (outA q' n' c' pr' nr' cr' ph' nh' ch') 96))
  have HQ := Lib.hid (Row.new w (outA q' n' c' pr' nr' cr' ph' nh' ch') 96)
  clear hr hd
  cases d
  all_goals
    go_enter Tryz.func70, Tryz.ntmps70
    go_wp2_with fail
    generalize w.alloc (.cells (outA q' n' c' pr' nr' cr' ph' nh' ch') 96) = W1 at *
    have c0 := HR.out.cell 0 (v := .slice q n c) rfl
    have c1 := HR.out.cell 1 (v := .slice pr nr cr) rfl
    have c2 := HR.out.cell 2 (v := .slice ph nh ch) rfl
    have c3 := HR.out.cell 3 (v := .bool true) rfl
    have c4 := HR.out.cell 4 (v := .func (.func 45) #[] #[]) rfl
    have q0 := HQ.out.cell 0 (v := .slice q' n' c') rfl
    have q1 := HQ.out.cell 1 (v := .slice pr' nr' cr') rfl
    have q2 := HQ.out.cell 2 (v := .slice ph' nh' ch') rfl
    refine wp_region_later (by kernel_rfl) (by kernel_rfl) ?_
    repeat (go_big_quiet_step (first
      | (go_at_call 45; with_reducible exact Calls.later_of (HC.out _))))
    refine wpQuiet_nil ?_
    intro _ hw'
    obtain ⟨y, hw''⟩ := hw'
    subst hw''
    have RY := Lib.hid (y.fr.row HR.out)
    have HY := Lib.hid (HF.out.below y.b)
    have f0 := RY.out.free 0
    have f1 := RY.out.free 1
    have f2 := RY.out.free 2
    have f3 := RY.out.free 3
    go_wp2_with fail
    go_end0
    first
      | exact ⟨⟨_, rfl⟩, RY.out, HY.out⟩
      | exact ⟨⟨_, rfl⟩, cho_sets RY.out _ _ _ _ _ _ _ _ _, from_sets HY.out _ _ _ _⟩
set_option maxRecDepth 10000 in
set_option maxHeartbeats 1600000 in
theorem offer_surer (cb : Nat) (q : Option Addr) (n c : Nat) (pr : Option Addr) (nr cr : Nat) (ph : Option Addr) (nh ch : Nat) (q' : Option Addr) (n' c' : Nat) (pr' : Option Addr) (nr' cr' : Nat) (ph' : Option Addr) (nh' ch' : Nat) (w : World) (hr : Row w cb (choA q n c pr nr cr ph nh ch true 52) 149) (d : Bool) (hd : decide (nr < nr') = d) :
    Calls Tryz.prog 70 #[.pointer (some ⟨cb, 0, none⟩), .agg (outA q' n' c' pr' nr' cr' ph' nh' ch')] w (Offered cb (if d then choA q' n' c' pr' nr' cr' ph' nh' ch' true 52 else choA q n c pr nr cr ph nh ch true 52) w) := by
  have HC := Lib.hid (fun w' => (by have h := surer_any q' n' c' pr' nr' cr' ph' nh' ch' q n c pr nr cr ph nh ch w'; rw [hd] at h; exact h : Calls Tryz.prog 52 #[.agg (outA q' n' c' pr' nr' cr' ph' nh' ch'), .agg (outA q n c pr nr cr ph nh ch)] w' fun e w'' => e = .returned (.bool d) ∧ Below w'.heap.size w' w''))
  have hz := hr.lt
  have HR := Lib.hid (hr.alloc (.cells (outA q' n' c' pr' nr' cr' ph' nh' ch') 96))
  have HF := Lib.hid ((FromB.refl cb w).alloc (.cells (outA q' n' c' pr' nr' cr' ph' nh' ch') 96))
  have HQ := Lib.hid (Row.new w (outA q' n' c' pr' nr' cr' ph' nh' ch') 96)
  clear hr hd
  cases d
  all_goals
    go_enter Tryz.func70, Tryz.ntmps70
    go_wp2_with fail
    generalize w.alloc (.cells (outA q' n' c' pr' nr' cr' ph' nh' ch') 96) = W1 at *
    have c0 := HR.out.cell 0 (v := .slice q n c) rfl
    have c1 := HR.out.cell 1 (v := .slice pr nr cr) rfl
    have c2 := HR.out.cell 2 (v := .slice ph nh ch) rfl
    have c3 := HR.out.cell 3 (v := .bool true) rfl
    have c4 := HR.out.cell 4 (v := .func (.func 52) #[] #[]) rfl
    have q0 := HQ.out.cell 0 (v := .slice q' n' c') rfl
    have q1 := HQ.out.cell 1 (v := .slice pr' nr' cr') rfl
    have q2 := HQ.out.cell 2 (v := .slice ph' nh' ch') rfl
    refine wp_region_later (by kernel_rfl) (by kernel_rfl) ?_
    repeat (go_big_quiet_step (first
      | (go_at_call 52; with_reducible exact Calls.later_of (HC.out _))))
    refine wpQuiet_nil ?_
    intro _ hw'
    obtain ⟨y, hw''⟩ := hw'
    subst hw''
    have RY := Lib.hid (y.fr.row HR.out)
    have HY := Lib.hid (HF.out.below y.b)
    have f0 := RY.out.free 0
    have f1 := RY.out.free 1
    have f2 := RY.out.free 2
    have f3 := RY.out.free 3
    go_wp2_with fail
    go_end0
    first
      | exact ⟨⟨_, rfl⟩, RY.out, HY.out⟩
      | exact ⟨⟨_, rfl⟩, cho_sets RY.out _ _ _ _ _ _ _ _ _, from_sets HY.out _ _ _ _⟩
end Go.Proofs.YticfcdbfplfmlaaGreat
