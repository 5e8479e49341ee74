/- The walks of layer 5: which books are valid. -/
import Derived.Test.YtgdidhbomdfcpaaF7
namespace Go.Proofs.Ytgdidhbomdfcpaa
open Go.RowKit Go.Maps
attribute [local go_sem] Oper.semAt_some

/-- The bounds of the numbers of a book. -/
abbrev limA (pr le mo gr n lim : Int) : Array Value := #[.int .i64 pr, .int .i64 1, .int .i64 500, .int .i64 le, .int .i64 0, .int .i64 lim, .int .i64 mo, .int .i64 0, .int .i64 50, .int .i64 gr, .int .i64 1, .int .i64 4, .int .i64 n, .int .i64 0, .int .i64 8]
theorem limAt0 (pr le mo gr n lim : Int) (w : World) : (Instr.index 104 (.agg (limA pr le mo gr n lim)) (.int .i64 0)).run Try.prog w = .ok (.agg #[.int .i64 pr, .int .i64 1, .int .i64 500]) w := by
  simp [Instr.index, go_sem]
theorem limAt1 (pr le mo gr n lim : Int) (w : World) : (Instr.index 104 (.agg (limA pr le mo gr n lim)) (.int .i64 1)).run Try.prog w = .ok (.agg #[.int .i64 le, .int .i64 0, .int .i64 lim]) w := by
  simp [Instr.index, go_sem]
theorem limAt2 (pr le mo gr n lim : Int) (w : World) : (Instr.index 104 (.agg (limA pr le mo gr n lim)) (.int .i64 2)).run Try.prog w = .ok (.agg #[.int .i64 mo, .int .i64 0, .int .i64 50]) w := by
  simp [Instr.index, go_sem]
theorem limAt3 (pr le mo gr n lim : Int) (w : World) : (Instr.index 104 (.agg (limA pr le mo gr n lim)) (.int .i64 3)).run Try.prog w = .ok (.agg #[.int .i64 gr, .int .i64 1, .int .i64 4]) w := by
  simp [Instr.index, go_sem]
theorem limAt4 (pr le mo gr n lim : Int) (w : World) : (Instr.index 104 (.agg (limA pr le mo gr n lim)) (.int .i64 4)).run Try.prog w = .ok (.agg #[.int .i64 n, .int .i64 0, .int .i64 8]) w := by
  simp [Instr.index, go_sem]
/-- What the first so many bounds say. -/
structure Lims (b : Bf) (lim : Int) (k : Nat) : Prop where
  h1 : 1 ≤ k → 1 ≤ b.pr ∧ b.pr ≤ 500
  h2 : 2 ≤ k → 0 ≤ b.le ∧ b.le ≤ lim
  h3 : 3 ≤ k → 0 ≤ b.mo ∧ b.mo ≤ 50
  h4 : 4 ≤ k → 1 ≤ b.gr ∧ b.gr ≤ 4
  h5 : 5 ≤ k → b.hs.length ≤ 8
theorem num_no {b : Bf} {lim : Int} (hl : 1 ≤ b.pr → b.pr ≤ 500 → lim = min (b.pr - 1) 50) (h : ¬ Lims b lim 5) : bookB b = false := by
  rw [Bool.eq_false_iff]
  intro hb
  have hok := bookB_iff.1 hb
  have e := hl hok.p1 hok.p2
  have := hok.l3
  have := hok.l2
  exact h ⟨fun _ => ⟨hok.p1, hok.p2⟩, fun _ => ⟨hok.l1, by omega⟩, fun _ => ⟨hok.m1, hok.m2⟩, fun _ => ⟨hok.g1, hok.g2⟩, fun _ => hok.n8⟩
theorem num_yes {b : Bf} {lim : Int} (hl : 1 ≤ b.pr → b.pr ≤ 500 → lim = min (b.pr - 1) 50) (h : Lims b lim 5) (hh : ∀ x ∈ b.hs, hdB x = true) : bookB b = true := by
  have a := h.h1 (by omega)
  have e := hl a.1 a.2
  have b2 := h.h2 (by omega)
  have c := h.h3 (by omega)
  have d := h.h4 (by omega)
  have f := h.h5 (by omega)
  exact bookB_iff.2 ⟨a.1, a.2, b2.1, by omega, by omega, c.1, c.2, d.1, d.2, f, fun x hx => hdB_iff.1 (hh x hx)⟩
set_option maxRecDepth 10000 in
set_option maxHeartbeats 3200000 in
theorem valid_any (b : Bf) (p : Option Addr) (c : Nat) (w : World) (hB : BfAt w p c b) :
    Calls Try.prog 65 #[.agg (bfA b p c)] w fun e w' => e = .returned (.bool (bookB b)) ∧ Below w.heap.size w w' := by
  have hn := hB.n
  obtain ⟨lim, W0, hlim, hW0⟩ : ∃ lim W, lim = min (wrap64 (b.pr - 1)) 50 ∧ W = (w.alloc (.cells (bfA b p c) 24)).alloc (.cells (limA b.pr b.le b.mo b.gr b.hs.length lim) 104) := ⟨_, _, rfl, rfl⟩
  have HW0 := Lib.hid hW0
  have HLM := Lib.hid hlim
  have HLI := Lib.hid (show 1 ≤ b.pr → b.pr ≤ 500 → lim = min (b.pr - 1) 50 by
    intro h1 h2
    rw [hlim, show wrap64 (b.pr - 1) = b.pr - 1 by unfold wrap64; omega])
  have HE := Lib.hid (show Below w.heap.size w W0 by rw [hW0]; exact below_alloc2 _ _ _)
  have rB : Row W0 w.heap.size (bfA b p c) 24 := by rw [hW0]; exact (Row.new _ _ _).alloc _
  have rL : Row W0 (w.heap.size + 1) (limA b.pr b.le b.mo b.gr b.hs.length lim) 104 := by rw [hW0]; exact Row.new1 _ _ _ _
  have HH := Lib.hid (hB.h.below HE.out)
  have c4 := rB.cell 4 (v := .slice p b.hs.length c) rfl
  clear hB hW0 hlim rB rL
  go_enter Try.func65, Try.ntmps65
  go_wp2_with fail
  case inr =>
    obtain rfl : lim = wrap64 (b.pr - 1) := by have := HLM.out; omega
    rw [← HW0.out]
    go_loopw [30] (fun i wr => ∃ k : Nat, k ≤ 5 ∧ i = .int .i64 k ∧ Lims b (wrap64 (b.pr - 1)) k ∧ ∃ x : Later W0, wr = x.w) (fun i _ => 5 - (intOf i).toNat)
    case atStart => exact ⟨0, by omega, rfl, ⟨fun h => absurd h (by omega), fun h => absurd h (by omega), fun h => absurd h (by omega), fun h => absurd h (by omega), fun h => absurd h (by omega)⟩, ⟨W0, Below.refl _ _⟩, rfl⟩
    case round =>
      obtain ⟨k, hk, rfl, hl, x, rfl⟩ := hrel
      have HL := Lib.hid hl
      clear hl
      obtain rfl | rfl | rfl | rfl | rfl | rfl : k = 0 ∨ k = 1 ∨ k = 2 ∨ k = 3 ∨ k = 4 ∨ k = 5 := by omega
      · cases hf : fits b.pr 1 500
        · have hno : ¬ Lims b (wrap64 (b.pr - 1)) 5 := fun h => by
            have := h.h1 (by omega)
            simp only [fits, Bool.and_eq_false_iff, decide_eq_false_iff_not] at hf
            omega
          have HNO := Lib.hid (num_no HLI.out hno)
          clear hno
          go_wp2_with (first | (refine index_op rfl 104 _ _ rfl _ _ rfl rfl _ (limAt0 _ _ _ _ _ _ _) ?_) | (go_at_call 60; (with_reducible refine (within_any _ _ _ _).mono ?_); rintro e w3 ⟨rfl, rfl⟩; rw [hf]))
          go_ret
          exact ⟨ret_bool HNO.out.symm, (x.base HE.out).alloc (x.base HE.out).size _⟩
        · have hy := hf
          simp only [fits, Bool.and_eq_true, decide_eq_true_eq] at hy
          have HN := Lib.hid (show Lims b (wrap64 (b.pr - 1)) 1 from ⟨fun _ => ⟨by omega, by omega⟩, fun h => absurd h (by omega), fun h => absurd h (by omega), fun h => absurd h (by omega), fun h => absurd h (by omega)⟩)
          clear hy
          go_wp2_with (first | (refine index_op rfl 104 _ _ rfl _ _ rfl rfl _ (limAt0 _ _ _ _ _ _ _) ?_) | (go_at_call 60; (with_reducible refine (within_any _ _ _ _).mono ?_); rintro e w3 ⟨rfl, rfl⟩; rw [hf]))
          obtain ⟨x2, hx2⟩ := x.on (below_alloc x.w (.cells #[.int .i64 b.pr, .int .i64 1, .int .i64 500] 103))
          exact ⟨⟨1, by omega, rfl, HN.out, x2, hx2⟩, by simp [intOf]⟩
      · cases hf : fits b.le 0 (wrap64 (b.pr - 1))
        · have hno : ¬ Lims b (wrap64 (b.pr - 1)) 5 := fun h => by
            have := h.h2 (by omega)
            simp only [fits, Bool.and_eq_false_iff, decide_eq_false_iff_not] at hf
            omega
          have HNO := Lib.hid (num_no HLI.out hno)
          clear hno
          go_wp2_with (first | (refine index_op rfl 104 _ _ rfl _ _ rfl rfl _ (limAt1 _ _ _ _ _ _ _) ?_) | (go_at_call 60; (with_reducible refine (within_any _ _ _ _).mono ?_); rintro e w3 ⟨rfl, rfl⟩; rw [hf]))
          go_ret
          exact ⟨ret_bool HNO.out.symm, (x.base HE.out).alloc (x.base HE.out).size _⟩
        · have hy := hf
          simp only [fits, Bool.and_eq_true, decide_eq_true_eq] at hy
          have HN := Lib.hid (show Lims b (wrap64 (b.pr - 1)) 2 from ⟨fun _ => HL.out.h1 (by omega), fun _ => ⟨by omega, by omega⟩, fun h => absurd h (by omega), fun h => absurd h (by omega), fun h => absurd h (by omega)⟩)
          clear hy
          go_wp2_with (first | (refine index_op rfl 104 _ _ rfl _ _ rfl rfl _ (limAt1 _ _ _ _ _ _ _) ?_) | (go_at_call 60; (with_reducible refine (within_any _ _ _ _).mono ?_); rintro e w3 ⟨rfl, rfl⟩; rw [hf]))
          obtain ⟨x2, hx2⟩ := x.on (below_alloc x.w (.cells #[.int .i64 b.le, .int .i64 0, .int .i64 (wrap64 (b.pr - 1))] 103))
          exact ⟨⟨2, by omega, rfl, HN.out, x2, hx2⟩, by simp [intOf]⟩
      · cases hf : fits b.mo 0 50
        · have hno : ¬ Lims b (wrap64 (b.pr - 1)) 5 := fun h => by
            have := h.h3 (by omega)
            simp only [fits, Bool.and_eq_false_iff, decide_eq_false_iff_not] at hf
            omega
          have HNO := Lib.hid (num_no HLI.out hno)
          clear hno
          go_wp2_with (first | (refine index_op rfl 104 _ _ rfl _ _ rfl rfl _ (limAt2 _ _ _ _ _ _ _) ?_) | (go_at_call 60; (with_reducible refine (within_any _ _ _ _).mono ?_); rintro e w3 ⟨rfl, rfl⟩; rw [hf]))
          go_ret
          exact ⟨ret_bool HNO.out.symm, (x.base HE.out).alloc (x.base HE.out).size _⟩
        · have hy := hf
          simp only [fits, Bool.and_eq_true, decide_eq_true_eq] at hy
          have HN := Lib.hid (show Lims b (wrap64 (b.pr - 1)) 3 from ⟨fun _ => HL.out.h1 (by omega), fun _ => HL.out.h2 (by omega), fun _ => ⟨by omega, by omega⟩, fun h => absurd h (by omega), fun h => absurd h (by omega)⟩)
          clear hy
          go_wp2_with (first | (refine index_op rfl 104 _ _ rfl _ _ rfl rfl _ (limAt2 _ _ _ _ _ _ _) ?_) | (go_at_call 60; (with_reducible refine (within_any _ _ _ _).mono ?_); rintro e w3 ⟨rfl, rfl⟩; rw [hf]))
          obtain ⟨x2, hx2⟩ := x.on (below_alloc x.w (.cells #[.int .i64 b.mo, .int .i64 0, .int .i64 50] 103))
          exact ⟨⟨3, by omega, rfl, HN.out, x2, hx2⟩, by simp [intOf]⟩
      · cases hf : fits b.gr 1 4
        · have hno : ¬ Lims b (wrap64 (b.pr - 1)) 5 := fun h => by
            have := h.h4 (by omega)
            simp only [fits, Bool.and_eq_false_iff, decide_eq_false_iff_not] at hf
            omega
          have HNO := Lib.hid (num_no HLI.out hno)
          clear hno
          go_wp2_with (first | (refine index_op rfl 104 _ _ rfl _ _ rfl rfl _ (limAt3 _ _ _ _ _ _ _) ?_) | (go_at_call 60; (with_reducible refine (within_any _ _ _ _).mono ?_); rintro e w3 ⟨rfl, rfl⟩; rw [hf]))
          go_ret
          exact ⟨ret_bool HNO.out.symm, (x.base HE.out).alloc (x.base HE.out).size _⟩
        · have hy := hf
          simp only [fits, Bool.and_eq_true, decide_eq_true_eq] at hy
          have HN := Lib.hid (show Lims b (wrap64 (b.pr - 1)) 4 from ⟨fun _ => HL.out.h1 (by omega), fun _ => HL.out.h2 (by omega), fun _ => HL.out.h3 (by omega), fun _ => ⟨by omega, by omega⟩, fun h => absurd h (by omega)⟩)
          clear hy
          go_wp2_with (first | (refine index_op rfl 104 _ _ rfl _ _ rfl rfl _ (limAt3 _ _ _ _ _ _ _) ?_) | (go_at_call 60; (with_reducible refine (within_any _ _ _ _).mono ?_); rintro e w3 ⟨rfl, rfl⟩; rw [hf]))
          obtain ⟨x2, hx2⟩ := x.on (below_alloc x.w (.cells #[.int .i64 b.gr, .int .i64 1, .int .i64 4] 103))
          exact ⟨⟨4, by omega, rfl, HN.out, x2, hx2⟩, by simp [intOf]⟩
      · cases hf : fits (b.hs.length : Int) 0 8
        · have hno : ¬ Lims b (wrap64 (b.pr - 1)) 5 := fun h => by
            have := h.h5 (by omega)
            simp only [fits, Bool.and_eq_false_iff, decide_eq_false_iff_not] at hf
            omega
          have HNO := Lib.hid (num_no HLI.out hno)
          clear hno
          go_wp2_with (first | (refine index_op rfl 104 _ _ rfl _ _ rfl rfl _ (limAt4 _ _ _ _ _ _ _) ?_) | (go_at_call 60; (with_reducible refine (within_any _ _ _ _).mono ?_); rintro e w3 ⟨rfl, rfl⟩; rw [hf]))
          go_ret
          exact ⟨ret_bool HNO.out.symm, (x.base HE.out).alloc (x.base HE.out).size _⟩
        · have hy := hf
          simp only [fits, Bool.and_eq_true, decide_eq_true_eq] at hy
          have HN := Lib.hid (show Lims b (wrap64 (b.pr - 1)) 5 from ⟨fun _ => HL.out.h1 (by omega), fun _ => HL.out.h2 (by omega), fun _ => HL.out.h3 (by omega), fun _ => HL.out.h4 (by omega), fun _ => by omega⟩)
          clear hy
          go_wp2_with (first | (refine index_op rfl 104 _ _ rfl _ _ rfl rfl _ (limAt4 _ _ _ _ _ _ _) ?_) | (go_at_call 60; (with_reducible refine (within_any _ _ _ _).mono ?_); rintro e w3 ⟨rfl, rfl⟩; rw [hf]))
          obtain ⟨x2, hx2⟩ := x.on (below_alloc x.w (.cells #[.int .i64 (b.hs.length : Int), .int .i64 0, .int .i64 8] 103))
          exact ⟨⟨5, by omega, rfl, HN.out, x2, hx2⟩, by simp [intOf]⟩
      · have h8 := HL.out.h5 (by omega)
        rw [show ((5 : Nat) : Int) = 5 from rfl]
        go_wp2_with fail
        go_loopw [45] (fun i wr => ∃ j : Nat, j ≤ b.hs.length ∧ i = .int .i64 j ∧ (∀ x ∈ b.hs.take j, hdB x = true) ∧ ∃ z : Later W0, wr = z.w) (fun i _ => b.hs.length - (intOf i).toNat)
        case atStart => exact ⟨0, by omega, rfl, by simp, x, rfl⟩
        case round =>
          obtain ⟨j, hj, rfl, hall, z, rfl⟩ := hrel
          have HA := Lib.hid hall
          clear hall
          by_cases hlt : j < b.hs.length
          · obtain ⟨bq, oq, hp, q0, q1⟩ := HH.out j hlt
            subst hp
            have HV := Lib.hid (fun w' => hvalid_any b.hs[j].lo b.hs[j].hi w')
            have HTK := Lib.hid (List.take_succ_eq_append_getElem hlt)
            have i1 : (0 : Int) ≤ (j : Int) := by omega
            have i2 : (j : Int) < (b.hs.length : Int) := by omega
            obtain ⟨d, hd⟩ : ∃ d, hdB b.hs[j] = d := ⟨_, rfl⟩
            have HD := Lib.hid hd
            rw [show (⟨b.hs[j].lo, b.hs[j].hi⟩ : Hd) = b.hs[j] from rfl, hd] at HV
            generalize hlo : b.hs[j].lo = lo at *
            generalize hhi : b.hs[j].hi = hi at *
            clear hd hlo hhi c4
            cases d
            · have HNO := Lib.hid (show bookB b = false by
                rw [Bool.eq_false_iff]
                intro hb
                have h2 := hdB_iff.2 ((bookB_iff.1 hb).h _ (List.getElem_mem hlt))
                rw [HD.out] at h2
                cases h2)
              go_wp2_with (first | (refine (HV.out _).mono ?_; rintro e u ⟨rfl, hbu⟩; have HBU := Lib.hid hbu; clear hbu))
              go_ret
              exact ⟨ret_bool HNO.out.symm, ((z.base HE.out).alloc (z.base HE.out).size _).trans (HBU.out.mono ((z.base HE.out).alloc (z.base HE.out).size (.cells #[.int .i64 lo, .int .i64 hi] 27)).size)⟩
            · have HA2 := Lib.hid (show ∀ x ∈ b.hs.take (j + 1), hdB x = true from fun x hx => by
                rw [HTK.out] at hx
                rcases List.mem_append.1 hx with h | h
                · exact HA.out x h
                · rw [List.mem_singleton.1 h]; exact HD.out)
              go_wp2_with (first | (refine (HV.out _).mono ?_; rintro e u ⟨rfl, hbu⟩; have HBU := Lib.hid hbu; clear hbu))
              obtain ⟨z2, hz2⟩ := z.on ((below_alloc z.w (.cells #[.int .i64 lo, .int .i64 hi] 27)).trans (HBU.out.mono (by simp)))
              subst hz2
              go_roundw
              case rel => exact ⟨j + 1, by omega, by go_num, HA2.out, z2, rfl⟩
              case measure => simp [intOf]; omega
          · obtain rfl : j = b.hs.length := by omega
            have HT := Lib.hid (num_yes HLI.out HL.out (fun x hx => HA.out x (by rw [List.take_length]; exact hx)))
            go_wp2_with fail
            go_ret
            exact ⟨ret_bool HT.out.symm, z.base HE.out⟩
  case inl =>
    obtain rfl : lim = 50 := by have := HLM.out; omega
    rw [← HW0.out]
    go_loopw [30] (fun i wr => ∃ k : Nat, k ≤ 5 ∧ i = .int .i64 k ∧ Lims b 50 k ∧ ∃ x : Later W0, wr = x.w) (fun i _ => 5 - (intOf i).toNat)
    case atStart => exact ⟨0, by omega, rfl, ⟨fun h => absurd h (by omega), fun h => absurd h (by omega), fun h => absurd h (by omega), fun h => absurd h (by omega), fun h => absurd h (by omega)⟩, ⟨W0, Below.refl _ _⟩, rfl⟩
    case round =>
      obtain ⟨k, hk, rfl, hl, x, rfl⟩ := hrel
      have HL := Lib.hid hl
      clear hl
      obtain rfl | rfl | rfl | rfl | rfl | rfl : k = 0 ∨ k = 1 ∨ k = 2 ∨ k = 3 ∨ k = 4 ∨ k = 5 := by omega
      · cases hf : fits b.pr 1 500
        · have hno : ¬ Lims b 50 5 := fun h => by
            have := h.h1 (by omega)
            simp only [fits, Bool.and_eq_false_iff, decide_eq_false_iff_not] at hf
            omega
          have HNO := Lib.hid (num_no HLI.out hno)
          clear hno
          go_wp2_with (first | (refine index_op rfl 104 _ _ rfl _ _ rfl rfl _ (limAt0 _ _ _ _ _ _ _) ?_) | (go_at_call 60; (with_reducible refine (within_any _ _ _ _).mono ?_); rintro e w3 ⟨rfl, rfl⟩; rw [hf]))
          go_ret
          exact ⟨ret_bool HNO.out.symm, (x.base HE.out).alloc (x.base HE.out).size _⟩
        · have hy := hf
          simp only [fits, Bool.and_eq_true, decide_eq_true_eq] at hy
          have HN := Lib.hid (show Lims b 50 1 from ⟨fun _ => ⟨by omega, by omega⟩, fun h => absurd h (by omega), fun h => absurd h (by omega), fun h => absurd h (by omega), fun h => absurd h (by omega)⟩)
          clear hy
          go_wp2_with (first | (refine index_op rfl 104 _ _ rfl _ _ rfl rfl _ (limAt0 _ _ _ _ _ _ _) ?_) | (go_at_call 60; (with_reducible refine (within_any _ _ _ _).mono ?_); rintro e w3 ⟨rfl, rfl⟩; rw [hf]))
          obtain ⟨x2, hx2⟩ := x.on (below_alloc x.w (.cells #[.int .i64 b.pr, .int .i64 1, .int .i64 500] 103))
          exact ⟨⟨1, by omega, rfl, HN.out, x2, hx2⟩, by simp [intOf]⟩
      · cases hf : fits b.le 0 50
        · have hno : ¬ Lims b 50 5 := fun h => by
            have := h.h2 (by omega)
            simp only [fits, Bool.and_eq_false_iff, decide_eq_false_iff_not] at hf
            omega
          have HNO := Lib.hid (num_no HLI.out hno)
          clear hno
          go_wp2_with (first | (refine index_op rfl 104 _ _ rfl _ _ rfl rfl _ (limAt1 _ _ _ _ _ _ _) ?_) | (go_at_call 60; (with_reducible refine (within_any _ _ _ _).mono ?_); rintro e w3 ⟨rfl, rfl⟩; rw [hf]))
          go_ret
          exact ⟨ret_bool HNO.out.symm, (x.base HE.out).alloc (x.base HE.out).size _⟩
        · have hy := hf
          simp only [fits, Bool.and_eq_true, decide_eq_true_eq] at hy
          have HN := Lib.hid (show Lims b 50 2 from ⟨fun _ => HL.out.h1 (by omega), fun _ => ⟨by omega, by omega⟩, fun h => absurd h (by omega), fun h => absurd h (by omega), fun h => absurd h (by omega)⟩)
          clear hy
          go_wp2_with (first | (refine index_op rfl 104 _ _ rfl _ _ rfl rfl _ (limAt1 _ _ _ _ _ _ _) ?_) | (go_at_call 60; (with_reducible refine (within_any _ _ _ _).mono ?_); rintro e w3 ⟨rfl, rfl⟩; rw [hf]))
          obtain ⟨x2, hx2⟩ := x.on (below_alloc x.w (.cells #[.int .i64 b.le, .int .i64 0, .int .i64 50] 103))
          exact ⟨⟨2, by omega, rfl, HN.out, x2, hx2⟩, by simp [intOf]⟩
      · cases hf : fits b.mo 0 50
        · have hno : ¬ Lims b 50 5 := fun h => by
            have := h.h3 (by omega)
            simp only [fits, Bool.and_eq_false_iff, decide_eq_false_iff_not] at hf
            omega
          have HNO := Lib.hid (num_no HLI.out hno)
          clear hno
          go_wp2_with (first | (refine index_op rfl 104 _ _ rfl _ _ rfl rfl _ (limAt2 _ _ _ _ _ _ _) ?_) | (go_at_call 60; (with_reducible refine (within_any _ _ _ _).mono ?_); rintro e w3 ⟨rfl, rfl⟩; rw [hf]))
          go_ret
          exact ⟨ret_bool HNO.out.symm, (x.base HE.out).alloc (x.base HE.out).size _⟩
        · have hy := hf
          simp only [fits, Bool.and_eq_true, decide_eq_true_eq] at hy
          have HN := Lib.hid (show Lims b 50 3 from ⟨fun _ => HL.out.h1 (by omega), fun _ => HL.out.h2 (by omega), fun _ => ⟨by omega, by omega⟩, fun h => absurd h (by omega), fun h => absurd h (by omega)⟩)
          clear hy
          go_wp2_with (first | (refine index_op rfl 104 _ _ rfl _ _ rfl rfl _ (limAt2 _ _ _ _ _ _ _) ?_) | (go_at_call 60; (with_reducible refine (within_any _ _ _ _).mono ?_); rintro e w3 ⟨rfl, rfl⟩; rw [hf]))
          obtain ⟨x2, hx2⟩ := x.on (below_alloc x.w (.cells #[.int .i64 b.mo, .int .i64 0, .int .i64 50] 103))
          exact ⟨⟨3, by omega, rfl, HN.out, x2, hx2⟩, by simp [intOf]⟩
      · cases hf : fits b.gr 1 4
        · have hno : ¬ Lims b 50 5 := fun h => by
            have := h.h4 (by omega)
            simp only [fits, Bool.and_eq_false_iff, decide_eq_false_iff_not] at hf
            omega
          have HNO := Lib.hid (num_no HLI.out hno)
          clear hno
          go_wp2_with (first | (refine index_op rfl 104 _ _ rfl _ _ rfl rfl _ (limAt3 _ _ _ _ _ _ _) ?_) | (go_at_call 60; (with_reducible refine (within_any _ _ _ _).mono ?_); rintro e w3 ⟨rfl, rfl⟩; rw [hf]))
          go_ret
          exact ⟨ret_bool HNO.out.symm, (x.base HE.out).alloc (x.base HE.out).size _⟩
        · have hy := hf
          simp only [fits, Bool.and_eq_true, decide_eq_true_eq] at hy
          have HN := Lib.hid (show Lims b 50 4 from ⟨fun _ => HL.out.h1 (by omega), fun _ => HL.out.h2 (by omega), fun _ => HL.out.h3 (by omega), fun _ => ⟨by omega, by omega⟩, fun h => absurd h (by omega)⟩)
          clear hy
          go_wp2_with (first | (refine index_op rfl 104 _ _ rfl _ _ rfl rfl _ (limAt3 _ _ _ _ _ _ _) ?_) | (go_at_call 60; (with_reducible refine (within_any _ _ _ _).mono ?_); rintro e w3 ⟨rfl, rfl⟩; rw [hf]))
          obtain ⟨x2, hx2⟩ := x.on (below_alloc x.w (.cells #[.int .i64 b.gr, .int .i64 1, .int .i64 4] 103))
          exact ⟨⟨4, by omega, rfl, HN.out, x2, hx2⟩, by simp [intOf]⟩
      · cases hf : fits (b.hs.length : Int) 0 8
        · have hno : ¬ Lims b 50 5 := fun h => by
            have := h.h5 (by omega)
            simp only [fits, Bool.and_eq_false_iff, decide_eq_false_iff_not] at hf
            omega
          have HNO := Lib.hid (num_no HLI.out hno)
          clear hno
          go_wp2_with (first | (refine index_op rfl 104 _ _ rfl _ _ rfl rfl _ (limAt4 _ _ _ _ _ _ _) ?_) | (go_at_call 60; (with_reducible refine (within_any _ _ _ _).mono ?_); rintro e w3 ⟨rfl, rfl⟩; rw [hf]))
          go_ret
          exact ⟨ret_bool HNO.out.symm, (x.base HE.out).alloc (x.base HE.out).size _⟩
        · have hy := hf
          simp only [fits, Bool.and_eq_true, decide_eq_true_eq] at hy
          have HN := Lib.hid (show Lims b 50 5 from ⟨fun _ => HL.out.h1 (by omega), fun _ => HL.out.h2 (by omega), fun _ => HL.out.h3 (by omega), fun _ => HL.out.h4 (by omega), fun _ => by omega⟩)
          clear hy
          go_wp2_with (first | (refine index_op rfl 104 _ _ rfl _ _ rfl rfl _ (limAt4 _ _ _ _ _ _ _) ?_) | (go_at_call 60; (with_reducible refine (within_any _ _ _ _).mono ?_); rintro e w3 ⟨rfl, rfl⟩; rw [hf]))
          obtain ⟨x2, hx2⟩ := x.on (below_alloc x.w (.cells #[.int .i64 (b.hs.length : Int), .int .i64 0, .int .i64 8] 103))
          exact ⟨⟨5, by omega, rfl, HN.out, x2, hx2⟩, by simp [intOf]⟩
      · have h8 := HL.out.h5 (by omega)
        rw [show ((5 : Nat) : Int) = 5 from rfl]
        go_wp2_with fail
        go_loopw [45] (fun i wr => ∃ j : Nat, j ≤ b.hs.length ∧ i = .int .i64 j ∧ (∀ x ∈ b.hs.take j, hdB x = true) ∧ ∃ z : Later W0, wr = z.w) (fun i _ => b.hs.length - (intOf i).toNat)
        case atStart => exact ⟨0, by omega, rfl, by simp, x, rfl⟩
        case round =>
          obtain ⟨j, hj, rfl, hall, z, rfl⟩ := hrel
          have HA := Lib.hid hall
          clear hall
          by_cases hlt : j < b.hs.length
          · obtain ⟨bq, oq, hp, q0, q1⟩ := HH.out j hlt
            subst hp
            have HV := Lib.hid (fun w' => hvalid_any b.hs[j].lo b.hs[j].hi w')
            have HTK := Lib.hid (List.take_succ_eq_append_getElem hlt)
            have i1 : (0 : Int) ≤ (j : Int) := by omega
            have i2 : (j : Int) < (b.hs.length : Int) := by omega
            obtain ⟨d, hd⟩ : ∃ d, hdB b.hs[j] = d := ⟨_, rfl⟩
            have HD := Lib.hid hd
            rw [show (⟨b.hs[j].lo, b.hs[j].hi⟩ : Hd) = b.hs[j] from rfl, hd] at HV
            generalize hlo : b.hs[j].lo = lo at *
            generalize hhi : b.hs[j].hi = hi at *
            clear hd hlo hhi c4
            cases d
            · have HNO := Lib.hid (show bookB b = false by
                rw [Bool.eq_false_iff]
                intro hb
                have h2 := hdB_iff.2 ((bookB_iff.1 hb).h _ (List.getElem_mem hlt))
                rw [HD.out] at h2
                cases h2)
              go_wp2_with (first | (refine (HV.out _).mono ?_; rintro e u ⟨rfl, hbu⟩; have HBU := Lib.hid hbu; clear hbu))
              go_ret
              exact ⟨ret_bool HNO.out.symm, ((z.base HE.out).alloc (z.base HE.out).size _).trans (HBU.out.mono ((z.base HE.out).alloc (z.base HE.out).size (.cells #[.int .i64 lo, .int .i64 hi] 27)).size)⟩
            · have HA2 := Lib.hid (show ∀ x ∈ b.hs.take (j + 1), hdB x = true from fun x hx => by
                rw [HTK.out] at hx
                rcases List.mem_append.1 hx with h | h
                · exact HA.out x h
                · rw [List.mem_singleton.1 h]; exact HD.out)
              go_wp2_with (first | (refine (HV.out _).mono ?_; rintro e u ⟨rfl, hbu⟩; have HBU := Lib.hid hbu; clear hbu))
              obtain ⟨z2, hz2⟩ := z.on ((below_alloc z.w (.cells #[.int .i64 lo, .int .i64 hi] 27)).trans (HBU.out.mono (by simp)))
              subst hz2
              go_roundw
              case rel => exact ⟨j + 1, by omega, by go_num, HA2.out, z2, rfl⟩
              case measure => simp [intOf]; omega
          · obtain rfl : j = b.hs.length := by omega
            have HT := Lib.hid (num_yes HLI.out HL.out (fun x hx => HA.out x (by rw [List.take_length]; exact hx)))
            go_wp2_with fail
            go_ret
            exact ⟨ret_bool HT.out.symm, z.base HE.out⟩
set_option maxRecDepth 10000 in
set_option maxHeartbeats 3200000 in
theorem Check_any (b : Bf) (p : Option Addr) (c : Nat) (w : World) (hB : BfAt w p c b) :
    Calls Try.prog 17 #[.agg (bfA b p c)] w fun e w' => e = .returned (.int .i64 (bookE b)) ∧ Below w.heap.size w w' := by
  have hb0 := below_alloc w (.cells (bfA b p c) 24)
  have HV := Lib.hid (valid_any b p c _ (hB.below hb0))
  have HB := Lib.hid hb0
  clear hB hb0
  cases hb : bookB b
  · rw [hb] at HV
    rw [bookE_bad hb]
    clear hb
    go_enter Try.func17, Try.ntmps17
    go_wp2_with (first | (refine HV.out.mono ?_; rintro e u ⟨rfl, hbu⟩; have HBU := Lib.hid hbu; clear hbu))
    go_ret
    exact ⟨rfl, HB.out.trans (HBU.out.mono HB.out.size)⟩
  · rw [hb] at HV
    rw [bookE_ok hb]
    clear hb
    go_enter Try.func17, Try.ntmps17
    go_wp2_with (first | (refine HV.out.mono ?_; rintro e u ⟨rfl, hbu⟩; have HBU := Lib.hid hbu; clear hbu))
    go_ret
    exact ⟨rfl, HB.out.trans (HBU.out.mono HB.out.size)⟩
end Go.Proofs.Ytgdidhbomdfcpaa
