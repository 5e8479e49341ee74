/- The walks of layer 6: which yards are valid. -/
import Derived.Test.YtajkgfeockcbpaaY17
namespace Go.Proofs.Ytajkgfeockcbpaa
open Go.RowKit Go.Maps
attribute [local go_sem] Oper.semAt_some

/-- The bounds of the numbers of a yard. -/
abbrev limA (b : Yb) : Array Value := #[.int .i64 b.lots.length, .int .i64 1, .int .i64 7, .int .i64 b.doors.length, .int .i64 1, .int .i64 3, .int .i64 b.buckets.length, .int .i64 0, .int .i64 3, .int .i64 b.spare.length, .int .i64 0, .int .i64 3, .int .i64 b.apart, .int .i64 0, .int .i64 200, .int .i64 b.door, .int .i64 0, .int .i64 200, .int .i64 b.bucket, .int .i64 0, .int .i64 200, .int .i64 b.err, .int .i64 0, .int .i64 20]
abbrev limZ : Array Value := #[.int .i64 0, .int .i64 0, .int .i64 0, .int .i64 0, .int .i64 0, .int .i64 0, .int .i64 0, .int .i64 0, .int .i64 0, .int .i64 0, .int .i64 0, .int .i64 0, .int .i64 0, .int .i64 0, .int .i64 0, .int .i64 0, .int .i64 0, .int .i64 0, .int .i64 0, .int .i64 0, .int .i64 0, .int .i64 0, .int .i64 0, .int .i64 0]
def limK (b : Yb) : Nat → Int × Int × Int
  | 0 => (b.lots.length, 1, 7)
  | 1 => (b.doors.length, 1, 3)
  | 2 => (b.buckets.length, 0, 3)
  | 3 => (b.spare.length, 0, 3)
  | 4 => (b.apart, 0, 200)
  | 5 => (b.door, 0, 200)
  | 6 => (b.bucket, 0, 200)
  | _ => (b.err, 0, 20)
theorem lim_at (b : Yb) {k : Nat} (hk : k < 8) (w : World) : (Instr.index 130 (.agg (limA b)) (.int .i64 (k : Int))).run Try.prog w = .ok (.agg #[.int .i64 (limK b k).1, .int .i64 (limK b k).2.1, .int .i64 (limK b k).2.2]) w := by
  obtain rfl | rfl | rfl | rfl | rfl | rfl | rfl | rfl : k = 0 ∨ k = 1 ∨ k = 2 ∨ k = 3 ∨ k = 4 ∨ k = 5 ∨ k = 6 ∨ k = 7 := by omega
  all_goals simp [Instr.index, go_sem, limK]
def limB (b : Yb) (k : Nat) : Bool := fits (limK b k).1 (limK b k).2.1 (limK b k).2.2
theorem num_iff (b : Yb) : ynumB b = true ↔ ∀ k, k < 8 → limB b k = true := by
  simp only [ynumB, decide_eq_true_eq]
  constructor
  · intro h k hk
    obtain rfl | rfl | rfl | rfl | rfl | rfl | rfl | rfl : k = 0 ∨ k = 1 ∨ k = 2 ∨ k = 3 ∨ k = 4 ∨ k = 5 ∨ k = 6 ∨ k = 7 := by omega
    all_goals
      simp only [limB, limK, fits, Bool.and_eq_true, decide_eq_true_eq]
      omega
  · intro h
    have h0 := h 0 (by omega)
    have h1 := h 1 (by omega)
    have h2 := h 2 (by omega)
    have h3 := h 3 (by omega)
    have h4 := h 4 (by omega)
    have h5 := h 5 (by omega)
    have h6 := h 6 (by omega)
    have h7 := h 7 (by omega)
    simp only [limB, limK, fits, Bool.and_eq_true, decide_eq_true_eq] at h0 h1 h2 h3 h4 h5 h6 h7
    omega
theorem yard_no_num {b : Yb} {k : Nat} (hk : k < 8) (h : limB b k = false) : yardB b = false := by
  have : ynumB b = false := by
    rw [Bool.eq_false_iff]
    intro hb
    rw [(num_iff b).1 hb k hk] at h
    cases h
  simp [yardB, this]
theorem yard_no_lot {b : Yb} {l : Lot} (hl : l ∈ b.lots) (h : lotB l = false) : yardB b = false := by
  have : b.lots.all lotB = false := List.all_eq_false.2 ⟨l, hl, by simp [h]⟩
  simp [yardB, this]
theorem yard_no_spot {b : Yb} {s : Int × Int} (hs : s ∈ spotsL b) (h : spB s = false) : yardB b = false := by
  have : (spotsL b).all spB = false := List.all_eq_false.2 ⟨s, hs, by simp [h]⟩
  simp [yardB, this]
theorem yard_yes {b : Yb} (h1 : ynumB b = true) (h2 : ∀ l ∈ b.lots, lotB l = true) (h3 : ∀ s ∈ spotsL b, spB s = true) : yardB b = true := by
  simp only [yardB, Bool.and_eq_true, List.all_eq_true]
  exact ⟨⟨h1, h2⟩, h3⟩
set_option maxRecDepth 100000 in
set_option maxHeartbeats 3200000 in
theorem valid_any (b : Yb) (P : Yp) (w : World) (hB : YbAt w P b) :
    Calls Try.prog 61 #[.agg (ybA b P)] w fun e w' => e = .returned (.bool (yardB b)) ∧ Below w.heap.size w w' := by
  obtain ⟨pl, cl, pd, cd, pb, cb, ps, cs⟩ := P
  obtain ⟨W0, hW0⟩ : ∃ W, W = (w.alloc (.cells (ybA b ⟨pl, cl, pd, cd, pb, cb, ps, cs⟩) 25)).alloc (.cells (limA b) 130) := ⟨_, rfl⟩
  have HW0 := Lib.hid hW0
  have HE := Lib.hid (show Below w.heap.size w W0 by rw [hW0]; exact below_alloc2 _ _ _)
  have HRB := Lib.hid (show Row W0 w.heap.size (ybA b ⟨pl, cl, pd, cd, pb, cb, ps, cs⟩) 25 by rw [hW0]; exact (Row.new _ _ _).alloc _)
  have HRL := Lib.hid (show Row W0 (w.heap.size + 1) (limA b) 130 by rw [hW0]; exact Row.new1 _ _ _ _)
  have HB := Lib.hid (hB.below HE.out)
  have hn1 := hB.n1
  clear hB hW0
  go_enter Try.func61, Try.ntmps61
  go_wp2_with (first
    | (refine store_new1 rfl 130 _ _ rfl (limA b) limZ 130 rfl rfl (by kernel_rfl) rfl (by simp [Value.oneCell']) ?_)
    | (rw [← HW0.out]; refine load_row rfl 130 _ rfl (w.heap.size + 1) rfl 130 (limA b) _ HRL.out Try.underlying130 rfl (by kernel_rfl) ?_))
  go_loopw [40] (fun i wr => ∃ k : Nat, k ≤ 8 ∧ i = .int .i64 k ∧ (∀ i, i < k → limB b i = true) ∧ ∃ x : Later W0, wr = x.w) (fun i _ => 8 - (intOf i).toNat)
  case atStart => exact ⟨0, by omega, rfl, fun i h => absurd h (by omega), ⟨W0, Below.refl _ _⟩, rfl⟩
  case round =>
    obtain ⟨k, hk, rfl, hl, x, rfl⟩ := hrel
    have HL := Lib.hid hl
    clear hl
    by_cases hlt : k < 8
    · have HAT := Lib.hid (lim_at b hlt)
      have i1 : (0 : Int) ≤ (k : Int) := by omega
      have i2 : (k : Int) < 8 := by omega
      obtain ⟨t, ht⟩ : ∃ t, limB b k = t := ⟨_, rfl⟩
      have HT := Lib.hid ht
      have HF := Lib.hid (show fits (limK b k).1 (limK b k).2.1 (limK b k).2.2 = t from ht)
      generalize (limK b k).1 = n0 at *
      generalize (limK b k).2.1 = n1 at *
      generalize (limK b k).2.2 = n2 at *
      clear ht
      cases t
      · have HNO := Lib.hid (yard_no_num hlt HT.out)
        go_wp2_with (first | (refine index_op rfl 130 _ _ rfl _ _ rfl rfl _ (HAT.out _) ?_) | (go_at_call 96; (with_reducible refine (within_any _ _ _ _).mono ?_); rintro e w3 ⟨rfl, rfl⟩; rw [HF.out]))
        go_ret
        exact ⟨ret_bool HNO.out.symm, (x.base HE.out).alloc (x.base HE.out).size _⟩
      · have HN := Lib.hid (show ∀ i, i < k + 1 → limB b i = true from fun i h => by
          by_cases e : i = k
          · rw [e]; exact HT.out
          · exact HL.out i (by omega))
        go_wp2_with (first | (refine index_op rfl 130 _ _ rfl _ _ rfl rfl _ (HAT.out _) ?_) | (go_at_call 96; (with_reducible refine (within_any _ _ _ _).mono ?_); rintro e w3 ⟨rfl, rfl⟩; rw [HF.out]))
        obtain ⟨x2, hx2⟩ := x.on (below_alloc x.w (.cells #[.int .i64 n0, .int .i64 n1, .int .i64 n2] 129))
        go_roundw
        case rel => exact ⟨k + 1, by omega, by go_num, HN.out, x2, hx2⟩
        case measure => simp [intOf]; omega
    · obtain rfl : k = 8 := by omega
      have HNUM := Lib.hid ((num_iff b).2 HL.out)
      rw [show ((8 : Nat) : Int) = 8 from rfl]
      have cc0 := HRB.out.cell 0 (v := .slice pl b.lots.length cl) rfl
      go_wp2_with fail
      clear cc0
      go_loopw [55] (fun i wr => ∃ j : Nat, j ≤ b.lots.length ∧ i = .int .i64 j ∧ (∀ l ∈ b.lots.take j, lotB l = true) ∧ ∃ z : Later W0, wr = z.w) (fun i _ => b.lots.length - (intOf i).toNat)
      case atStart => exact ⟨0, by omega, rfl, by simp, x, rfl⟩
      case round =>
        obtain ⟨j, hj, rfl, hall, z, rfl⟩ := hrel
        have HA := Lib.hid hall
        clear hall
        by_cases hlt : j < b.lots.length
        · obtain ⟨bq, oq, hp, q0, q1, q2, q3⟩ := HB.out.l j hlt
          dsimp only at hp
          have HTK := Lib.hid (List.take_succ_eq_append_getElem hlt)
          have HMEM := Lib.hid (List.getElem_mem hlt)
          obtain ⟨lt, hlot⟩ : ∃ l, b.lots[j] = l := ⟨_, rfl⟩
          rw [hlot] at q0 q1 q2 q3 HTK HMEM
          obtain ⟨⟨x0, y0⟩, lo, hi⟩ := lt
          have i1 : (0 : Int) ≤ (j : Int) := by omega
          have i2 : (j : Int) < (b.lots.length : Int) := by omega
          have i3 : (b.lots.length : Int) < 2305843009213693952 := by omega
          have ZZ := Lib.hid ((z.base HE.out).alloc (z.base HE.out).size (.cells #[.int .i64 x0, .int .i64 y0, .int .i64 lo, .int .i64 hi] 64))
          have HRZ := Lib.hid (Row.new z.w #[.int .i64 x0, .int .i64 y0, .int .i64 lo, .int .i64 hi] 64)
          have HZB := Lib.hid (below_alloc z.w (.cells #[.int .i64 x0, .int .i64 y0, .int .i64 lo, .int .i64 hi] 64))
          subst hp
          clear hlot
          cases ht : spB (x0, y0)
          · have HNO := Lib.hid (yard_no_lot HMEM.out (by simp [lotB, ht]))
            go_wp2_with (first | (go_at_call 97; (with_reducible refine (isSpot_any _ _ _).mono ?_); rintro e u ⟨rfl, hbu⟩; rw [ht]; have HBU := Lib.hid hbu; clear hbu))
            go_ret
            exact ⟨ret_bool HNO.out.symm, ZZ.out.trans (HBU.out.mono ZZ.out.size)⟩
          · cases hf : fits lo 0 hi
            · have HNO := Lib.hid (yard_no_lot HMEM.out (by
                simp only [fits, Bool.and_eq_false_iff, decide_eq_false_iff_not] at hf
                simp only [lotB, roomB, Bool.and_eq_false_iff, decide_eq_false_iff_not]
                omega))
              go_wp2_with (first | (go_at_call 97; (with_reducible refine (isSpot_any _ _ _).mono ?_); rintro e u ⟨rfl, hbu⟩; rw [ht]; have HBU := Lib.hid hbu; have k2 := (HRZ.out.below hbu HRZ.out.lt).cell 2 (v := .int .i64 lo) rfl; have k3 := (HRZ.out.below hbu HRZ.out.lt).cell 3 (v := .int .i64 hi) rfl; clear hbu) | (go_at_call 96; (with_reducible refine (within_any _ _ _ _).mono ?_); rintro e w3 ⟨rfl, rfl⟩; rw [hf]))
              go_ret
              exact ⟨ret_bool HNO.out.symm, ZZ.out.trans (HBU.out.mono ZZ.out.size)⟩
            · by_cases h99 : hi > 99
              · have HNO := Lib.hid (yard_no_lot HMEM.out (by
                  simp only [lotB, roomB, Bool.and_eq_false_iff, decide_eq_false_iff_not]
                  omega))
                go_wp2_with (first | (go_at_call 97; (with_reducible refine (isSpot_any _ _ _).mono ?_); rintro e u ⟨rfl, hbu⟩; rw [ht]; have HBU := Lib.hid hbu; have k2 := (HRZ.out.below hbu HRZ.out.lt).cell 2 (v := .int .i64 lo) rfl; have k3 := (HRZ.out.below hbu HRZ.out.lt).cell 3 (v := .int .i64 hi) rfl; clear hbu) | (go_at_call 96; (with_reducible refine (within_any _ _ _ _).mono ?_); rintro e w3 ⟨rfl, rfl⟩; rw [hf]))
                go_ret
                exact ⟨ret_bool HNO.out.symm, ZZ.out.trans (HBU.out.mono ZZ.out.size)⟩
              · have HLY := Lib.hid (show lotB ⟨(x0, y0), lo, hi⟩ = true by
                  simp only [fits, Bool.and_eq_true, decide_eq_true_eq] at hf
                  simp only [lotB, roomB, ht, Bool.true_and, decide_eq_true_eq]
                  omega)
                have HA2 := Lib.hid (show ∀ l ∈ b.lots.take (j + 1), lotB l = true from fun l hl => by
                  rw [HTK.out] at hl
                  rcases List.mem_append.1 hl with h | h
                  · exact HA.out l h
                  · rw [List.mem_singleton.1 h]; exact HLY.out)
                have h99b : decide (hi > 99) = false := decide_eq_false h99
                clear h99
                go_wp2_with (first | (go_at_call 97; (with_reducible refine (isSpot_any _ _ _).mono ?_); rintro e u ⟨rfl, hbu⟩; rw [ht]; have HBU := Lib.hid hbu; have k2 := (HRZ.out.below hbu HRZ.out.lt).cell 2 (v := .int .i64 lo) rfl; have k3 := (HRZ.out.below hbu HRZ.out.lt).cell 3 (v := .int .i64 hi) rfl; clear hbu) | (go_at_call 96; (with_reducible refine (within_any _ _ _ _).mono ?_); rintro e w3 ⟨rfl, rfl⟩; rw [hf]))
                obtain ⟨z2, hz2⟩ := z.on (HZB.out.trans (HBU.out.mono HZB.out.size))
                subst hz2
                go_roundw
                case rel => exact ⟨j + 1, by omega, by go_num, HA2.out, z2, rfl⟩
                case measure => simp [intOf]; omega
        · obtain rfl : j = b.lots.length := by omega
          have HLOTS := Lib.hid (show ∀ l ∈ b.lots, lotB l = true from fun l hl => HA.out l (by rw [List.take_length]; exact hl))
          obtain ⟨ss, hss⟩ : ∃ ss : List (Option Addr × Nat × List (Int × Int)), ss = [(pd, cd, b.doors), (pb, cb, b.buckets), (ps, cs, b.spare)] := ⟨_, rfl⟩
          have HCAT := Lib.hid (show catL ss = spotsL b by rw [hss]; simp [catL, spotsL])
          have hnum := HNUM.out
          simp only [ynumB, decide_eq_true_eq] at hnum
          have HLEN := Lib.hid (show (catL ss).length ≤ 9 by rw [HCAT.out]; simp [spotsL]; omega)
          have d1 := (HRB.out.below z.b HRB.out.lt).cell 1 (v := .slice pd b.doors.length cd) rfl
          have d2 := (HRB.out.below z.b HRB.out.lt).cell 2 (v := .slice pb b.buckets.length cb) rfl
          have d3 := (HRB.out.below z.b HRB.out.lt).cell 3 (v := .slice ps b.spare.length cs) rfl
          have HZB := Lib.hid (below_alloc z.w (.cells #[.slice pd b.doors.length cd, .slice pb b.buckets.length cb, .slice ps b.spare.length cs] 23))
          have HNR := Lib.hid (Row.new z.w #[.slice pd b.doors.length cd, .slice pb b.buckets.length cb, .slice ps b.spare.length cs] 23)
          have HBZ := Lib.hid ((HB.out.below z.b).below HZB.out)
          have HCC := Lib.hid (concat_any (some ⟨z.w.heap.size, 0, none⟩) 3 ss (z.w.alloc (.cells #[.slice pd b.doors.length cd, .slice pb b.buckets.length cb, .slice ps b.spare.length cs] 23)) (by
            subst hss
            intro i hi
            have hi : i < 3 := hi
            obtain rfl | rfl | rfl : i = 0 ∨ i = 1 ∨ i = 2 := by omega
            · exact ⟨z.w.heap.size, 0, rfl, HNR.out.cell 0 rfl, HBZ.out.d⟩
            · exact ⟨z.w.heap.size, 0, rfl, HNR.out.cell 1 rfl, HBZ.out.u⟩
            · exact ⟨z.w.heap.size, 0, rfl, HNR.out.cell 2 rfl, HBZ.out.s⟩) (by rw [hss]; exact (by decide : 3 ≤ 100)) (by have := HLEN.out; omega))
          rw [show ss.length = 3 by rw [hss]; rfl, HCAT.out] at HCC
          rw [HCAT.out] at HLEN
          have HSP := Lib.hid (fun s (h : s ∈ spotsL b) (e : spB s = false) => yard_no_spot h e)
          have HYES := Lib.hid (fun h3 => yard_yes HNUM.out HLOTS.out h3)
          generalize hsl : spotsL b = sl at *
          clear hsl hnum HCAT hss HNUM HLOTS HBZ HNR
          go_wp2_with (first | (refine HCC.out.mono ?_; rintro e u ⟨v0, rfl, hown, hbu⟩; obtain ⟨p0, c0, rfl, hsp, _⟩ := spots_of_owns hown; have HS0 := Lib.hid hsp; have HBU := Lib.hid (HZB.out.trans (hbu.mono HZB.out.size)); clear hown hbu hsp))
          obtain ⟨y, hy⟩ := z.on HBU.out
          subst hy
          clear d1 d2 d3 HBU
          go_loopw [89] (fun i wr => ∃ j : Nat, j ≤ sl.length ∧ i = .int .i64 j ∧ (∀ s ∈ sl.take j, spB s = true) ∧ ∃ t : Later y.w, wr = t.w) (fun i _ => sl.length - (intOf i).toNat)
          case atStart => exact ⟨0, by omega, rfl, by simp, ⟨y.w, Below.refl _ _⟩, rfl⟩
          case round =>
            obtain ⟨j, hj, rfl, hall, t, rfl⟩ := hrel
            have HA := Lib.hid hall
            clear hall
            have HYB := Lib.hid ((y.base HE.out).trans (t.b.mono (y.base HE.out).size))
            by_cases hlt : j < sl.length
            · obtain ⟨bq, oq, hp, q0, q1⟩ := HS0.out j hlt
              have HTK := Lib.hid (List.take_succ_eq_append_getElem hlt)
              have HMEM := Lib.hid (List.getElem_mem hlt)
              obtain ⟨s, hs⟩ : ∃ l, sl[j] = l := ⟨_, rfl⟩
              rw [hs] at q0 q1 HTK HMEM
              obtain ⟨x0, y0⟩ := s
              have i1 : (0 : Int) ≤ (j : Int) := by omega
              have i2 : (j : Int) < (sl.length : Int) := by omega
              have i3 : (sl.length : Int) ≤ 9 := by have := HLEN.out; omega
              have ZZ := Lib.hid (HYB.out.alloc HYB.out.size (.cells #[.int .i64 x0, .int .i64 y0] 62))
              have HTB := Lib.hid (below_alloc t.w (.cells #[.int .i64 x0, .int .i64 y0] 62))
              subst hp
              clear hs
              cases ht : spB (x0, y0)
              · have HNO := Lib.hid (HSP.out _ HMEM.out ht)
                go_wp2_with (first | (go_at_call 97; (with_reducible refine (isSpot_any _ _ _).mono ?_); rintro e u ⟨rfl, hbu⟩; rw [ht]; have HBU := Lib.hid hbu; clear hbu))
                go_ret
                exact ⟨ret_bool HNO.out.symm, ZZ.out.trans (HBU.out.mono ZZ.out.size)⟩
              · have HA2 := Lib.hid (show ∀ l ∈ sl.take (j + 1), spB l = true from fun l hl => by
                  rw [HTK.out] at hl
                  rcases List.mem_append.1 hl with h | h
                  · exact HA.out l h
                  · rw [List.mem_singleton.1 h]; exact ht)
                go_wp2_with (first | (go_at_call 97; (with_reducible refine (isSpot_any _ _ _).mono ?_); rintro e u ⟨rfl, hbu⟩; rw [ht]; have HBU := Lib.hid hbu; clear hbu))
                obtain ⟨t2, ht2⟩ := t.on (HTB.out.trans (HBU.out.mono HTB.out.size))
                subst ht2
                go_roundw
                case rel => exact ⟨j + 1, by omega, by go_num, HA2.out, t2, rfl⟩
                case measure => simp [intOf]; omega
            · obtain rfl : j = sl.length := by omega
              have HT := Lib.hid (HYES.out (fun s hs => HA.out s (by rw [List.take_length]; exact hs)))
              go_wp2_with fail
              go_ret
              exact ⟨ret_bool HT.out.symm, HYB.out⟩
set_option maxRecDepth 10000 in
set_option maxHeartbeats 3200000 in
theorem Check_any (b : Yb) (P : Yp) (w : World) (hB : YbAt w P b) :
    Calls Try.prog 16 #[.agg (ybA b P)] w fun e w' => e = .returned (.int .i64 (yardE b)) ∧ Below w.heap.size w w' := by
  have hb0 := below_alloc w (.cells (ybA b P) 25)
  have HV := Lib.hid (valid_any b P _ (hB.below hb0))
  have HB := Lib.hid hb0
  clear hB hb0
  cases hb : yardB b
  · rw [hb] at HV
    rw [yardE_bad hb]
    clear hb
    go_enter Try.func16, Try.ntmps16
    go_wp2_with (first | (refine HV.out.mono ?_; rintro e u ⟨rfl, hbu⟩; have HBU := Lib.hid hbu; clear hbu))
    go_ret
    exact ⟨rfl, HB.out.trans (HBU.out.mono HB.out.size)⟩
  · rw [hb] at HV
    rw [yardE_ok hb]
    clear hb
    go_enter Try.func16, Try.ntmps16
    go_wp2_with (first | (refine HV.out.mono ?_; rintro e u ⟨rfl, hbu⟩; have HBU := Lib.hid hbu; clear hbu))
    go_ret
    exact ⟨rfl, HB.out.trans (HBU.out.mono HB.out.size)⟩
end Go.Proofs.Ytajkgfeockcbpaa
