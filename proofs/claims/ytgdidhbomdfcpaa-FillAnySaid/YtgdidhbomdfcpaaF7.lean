/- The walks of layer 5: a book with its boxes. -/
import Derived.Test.YtgdidhbomdfcpaaF6
namespace Go.Proofs.Ytgdidhbomdfcpaa
open Go.RowKit Go.Maps
attribute [local go_sem] Oper.semAt_some

/-- A book with the map of its boxes. -/
abbrev bkA (b : Bf) (p : Option Addr) (c mb : Nat) : Array Value := #[.int .i64 b.pr, .int .i64 b.le, .int .i64 b.mo, .int .i64 b.gr, .slice p b.hs.length c, .map (some mb)]
def loF (b : Bf) (x y : Int) : Int := loB b x.toNat y.toNat
def hiF (b : Bf) (x y : Int) : Int := hiB b x.toNat y.toNat
/-- The boxes that begin before a handful, and those that begin with it and have at most so many handfuls. -/
def boxTo (b : Bf) (k j : Nat) (x y : Int) : Bool := boxB b x y && (decide (x < k) || (decide (x = k) && decide (y ≤ k + j)))
def GaveBk (b : Bf) (p : Option Addr) (c : Nat) (w : World) (e : Ending) (w' : World) : Prop :=
  ∃ mb, e = .returned (.agg (bkA b p c mb)) ∧ SumsAt w' mb 100 (boxB b) (loF b) (hiF b) ∧ w.heap.size ≤ mb ∧ Below w.heap.size w w'
theorem keeps_grown {w w' : World} {m : Nat} (hg : w.grownBy w' (some m)) (M : Nat → Prop) (hM : M m) : KeepsBut M w w' :=
  ⟨hg.os, hg.tape, hg.output, hg.size, fun k hk hn => hg.block k hk (fun e => hn (by cases e; exact hM))⟩
theorem SumsAt.mono {w : World} {mb n n' : Nat} {F : Int → Int → Bool} {L H : Int → Int → Int} (h : SumsAt w mb n F L H) (hn : n ≤ n') : SumsAt w mb n' F L H := let ⟨D, h1, h2⟩ := h; ⟨D, h1.mono hn, h2⟩
theorem HdsAt.fromB {w w' : World} {p : Option Addr} {hs : List Hd} {b n : Nat} (h : HdsAt w p hs) (hb : Below n w w') (hn : w.heap.size ≤ n) : HdsAt w' p hs := h.below (hb.mono hn)
theorem boxTo_zero (b : Bf) (x y : Int) : boxTo b 0 0 x y = false := by
  unfold boxTo boxB
  rw [Bool.eq_false_iff]
  intro h
  simp at h
  omega
theorem boxTo_next {b : Bf} {k m : Nat} (hm : (m : Int) = min b.gr ((b.hs.length : Int) - k)) (x y : Int) : boxTo b k m x y = boxTo b (k + 1) 0 x y := by
  unfold boxTo boxB
  rw [Bool.eq_iff_iff]
  simp
  omega
theorem boxTo_put {b : Bf} {k j : Nat} (hk : k + j + 1 ≤ b.hs.length) (hg : (j : Int) + 1 ≤ b.gr) (x y : Int) : (boxTo b k j x y || (decide (x = (k : Int)) && decide (y = (k : Int) + (j : Int) + 1))) = boxTo b k (j + 1) x y := by
  unfold boxTo boxB
  rw [Bool.eq_iff_iff]
  simp
  omega
theorem boxTo_all (b : Bf) (x y : Int) : boxTo b b.hs.length 0 x y = boxB b x y := by
  unfold boxTo boxB
  rw [Bool.eq_iff_iff]
  simp
  omega
theorem hd_bounds {hs : List Hd} (h : ∀ h ∈ hs, HdOk h) : ∀ x ∈ hs, (0 ≤ x.lo ∧ x.lo ≤ 100000) ∧ (0 ≤ x.hi ∧ x.hi ≤ 100000) := by
  intro x hx
  have := h x hx
  have h0 := this.l0
  have h1 := this.l1
  have h2 := this.l2
  omega
set_option maxRecDepth 10000 in
set_option maxHeartbeats 3200000 in
theorem open_any (b : Bf) (p : Option Addr) (c : Nat) (w : World) (hB : BfAt w p c b) (hok : BfOk b) :
    Calls Try.prog 93 #[.agg (bfA b p c)] w (GaveBk b p c w) := by
  obtain ⟨W0, hW0⟩ : ∃ W, W = (((w.alloc (.cells (bfA b p c) 24)).alloc (.cells #[.int .i64 0, .int .i64 0, .int .i64 0, .int .i64 0, .slice none 0 0, .map none] 79)).alloc (.map #[] 0)).alloc (.cells (bkA b p c (w.heap.size + 1 + 1)) 79) := ⟨_, rfl⟩
  have HW0 := Lib.hid hW0
  have HE := Lib.hid (show Below w.heap.size w W0 by rw [hW0]; exact (below_alloc3 _ _ _ _).alloc (by simp; omega) _)
  have hz0 : W0.heap.size = w.heap.size + 4 := by rw [hW0]; simp
  have rB : Row W0 w.heap.size (bfA b p c) 24 := by rw [hW0]; exact (((Row.new _ _ _).alloc _).alloc _).alloc _
  have rR : Row W0 (w.heap.size + 1) #[.int .i64 0, .int .i64 0, .int .i64 0, .int .i64 0, .slice none 0 0, .map none] 79 := by rw [hW0]; exact ((Row.new1 _ _ _ _).alloc _).alloc _
  have rK : Row W0 (w.heap.size + 1 + 1 + 1) (bkA b p c (w.heap.size + 1 + 1)) 79 := by rw [hW0]; exact Row.new' (by simp) _ _
  have hS0 : SumsAt W0 (w.heap.size + 1 + 1) 0 (fun _ _ => false) (loF b) (hiF b) := by
    rw [hW0]
    have h := (SumsAt.made ((w.alloc (.cells (bfA b p c) 24)).alloc (.cells #[.int .i64 0, .int .i64 0, .int .i64 0, .int .i64 0, .slice none 0 0, .map none] 79)) (loF b) (hiF b)).below (below_alloc _ (.cells (bkA b p c (w.heap.size + 1 + 1)) 79))
    simp only [World.size_alloc] at h
    exact h
  have RB := Lib.hid rB
  have RR := Lib.hid rR
  have RK := Lib.hid rK
  have HB := Lib.hid hB
  have HOK := Lib.hid hok
  have HH := Lib.hid (hB.h.below HE.out)
  have hn8 := hok.n8
  have hg1 := hok.g1
  have hg2 := hok.g2
  have hcc := hB.c
  have HS0 := Lib.hid hS0
  have hmm := @run_makeMap Try.prog
  clear hB hok hW0 rB rR rK hS0
  go_enter Try.func93, Try.ntmps93
  go_wp2_with fail
  clear hmm
  rw [← HW0.out]
  go_loopw [13] (fun i wr => ∃ k : Nat, k ≤ b.hs.length ∧ i = .int .i64 k ∧ SumsAt wr (w.heap.size + 1 + 1) (8 * k) (boxTo b k 0) (loF b) (hiF b) ∧ FromB (w.heap.size + 1 + 1) W0 wr) (fun i _ => b.hs.length - (intOf i).toNat)
  case atStart => exact ⟨0, by omega, rfl, HS0.out.congr (fun x y => (boxTo_zero b x y).symm) (fun x y h => by cases h), FromB.refl _ _⟩
  case round =>
    obtain ⟨k, hk, rfl, hsu, hkb⟩ := hrel
    have HSU := Lib.hid hsu
    have HKB := Lib.hid hkb
    have c3 := (hkb.row RB.out (by omega)).cell 3 (v := .int .i64 b.gr) rfl
    have c4 := (hkb.row RB.out (by omega)).cell 4 (v := .slice p b.hs.length c) rfl
    clear hsu hkb
    by_cases hlt : k < b.hs.length
    · obtain ⟨m, hm⟩ : ∃ m : Nat, (m : Int) = min b.gr ((b.hs.length : Int) - k) := ⟨(min b.gr ((b.hs.length : Int) - k)).toNat, by omega⟩
      have HM := Lib.hid hm
      have hm4 : m ≤ 4 := by omega
      have hmk : k + m ≤ b.hs.length := by omega
      have hmg : (m : Int) ≤ b.gr := by omega
      have i1 : (k : Int) < (b.hs.length : Int) := by omega
      clear hm
      go_wp2_with fail
      all_goals
        go_loopw [24] (fun i wr => ∃ j : Nat, j ≤ m ∧ i = .int .i64 j ∧ SumsAt wr (w.heap.size + 1 + 1) (8 * k + j) (boxTo b k j) (loF b) (hiF b) ∧ FromB (w.heap.size + 1 + 1) W0 wr) (fun i _ => m - (intOf i).toNat)
        case atStart => exact ⟨0, by omega, rfl, HSU.out, HKB.out⟩
        case round =>
          clear HSU HKB c3 c4
          obtain ⟨j, hj, rfl, hsu, hkb⟩ := hrel
          have HSU := Lib.hid hsu
          have HKB := Lib.hid hkb
          have c4 := (hkb.row RB.out (by omega)).cell 4 (v := .slice p b.hs.length c) rfl
          have k5 := (hkb.row RK.out (by omega)).cell 5 (v := .map (some (w.heap.size + 1 + 1))) rfl
          have hzr := (hkb.row RK.out (by omega)).lt
          clear hsu hkb
          by_cases hlj : j < m
          · have hk8 : (k : Int) ≤ 8 := by omega
            have hj8 : (j : Int) ≤ 8 := by omega
            have hc1 : (j : Int) < b.gr := by omega
            have hc2 : (j : Int) < (b.hs.length : Int) - (k : Int) := by omega
            have hkj : k + j + 1 ≤ b.hs.length := by omega
            go_wp2_with fail
            have hb1 := below_alloc wr (.cells #[.int .i64 k, .int .i64 ((k : Int) + (j : Int) + 1)] 72)
            have rX := Row.new wr #[.int .i64 k, .int .i64 ((k : Int) + (j : Int) + 1)] 72
            have HSU := Lib.hid (HSU.out.below hb1)
            have HKB := Lib.hid (HKB.out.below hb1)
            change Code.wp _ _ _ _ (wr.alloc (.cells #[.int .i64 k, .int .i64 ((k : Int) + (j : Int) + 1)] 72))
            generalize wr.alloc (.cells #[.int .i64 k, .int .i64 ((k : Int) + (j : Int) + 1)] 72) = W1 at *
            generalize hbx : wr.heap.size = bx at *
            have hbx2 : bx ≠ w.heap.size + 1 + 1 := by omega
            have x0 := rX.cell 0 (v := .int .i64 k) rfl
            have x1 := rX.cell 1 (v := .int .i64 ((k : Int) + (j : Int) + 1)) rfl
            have d4 := (HKB.out.row RB.out (by omega)).cell 4 (v := .slice p b.hs.length c) rfl
            have d5 := (HKB.out.row RK.out (by omega)).cell 5 (v := .map (some (w.heap.size + 1 + 1))) rfl
            have HSS := Lib.hid (fun w' (kk : FromB (w.heap.size + 1 + 1) W1 w') => (⟨kk.cell d5 (by omega), kk.cell x0 hbx2, kk.cell x1 hbx2, kk.cell d4 (by omega)⟩ : w'.cell? ⟨w.heap.size + 1 + 1 + 1, 5, none⟩ = some (.map (some (w.heap.size + 1 + 1))) ∧ w'.cell? ⟨bx, 0, none⟩ = some (.int .i64 k) ∧ w'.cell? ⟨bx, 1, none⟩ = some (.int .i64 ((k : Int) + (j : Int) + 1)) ∧ w'.cell? ⟨w.heap.size, 4, none⟩ = some (.slice p b.hs.length c)))
            have KI := Lib.hid (From.refl W1)
            have KB := Lib.hid (FromB.refl (w.heap.size + 1 + 1) W1)
            have HLK := Lib.hid (show loF b (k : Int) ((k : Int) + (j : Int) + 1) = sumF Hd.lo (partL b.hs k (k + j + 1)) by
              unfold loF loB; rw [show ((k : Int)).toNat = k by omega, show ((k : Int) + (j : Int) + 1).toNat = k + j + 1 by omega])
            have HHK := Lib.hid (show hiF b (k : Int) ((k : Int) + (j : Int) + 1) = sumF Hd.hi (partL b.hs k (k + j + 1)) by
              unfold hiF hiB; rw [show ((k : Int)).toNat = k by omega, show ((k : Int) + (j : Int) + 1).toNat = k + j + 1 by omega])
            have HHW := Lib.hid (show HdsAt W1 p b.hs from by
              have h := HB.out.h
              have hb := HE.out.trans ((HKB.out.k.below (n := w.heap.size) (by omega) (fun q hq e => by omega)))
              exact h.below hb)
            have HOF := Lib.hid (fun w' (kk : From W1 w') => (by
              have h := of_any p b.hs c k (k + j + 1) (by omega) hkj hcc w' (HHW.out.below kk.b)
              rw [show ((k + j + 1 : Nat) : Int) = (k : Int) + (j : Int) + 1 by omega] at h
              exact h))
            have hpl := partL_length (hs := b.hs) (a := k) (b := k + j + 1) (by omega) hkj
            have HTO := Lib.hid (fun q c w' (hq : HdsAt w' q (partL b.hs k (k + j + 1))) => together_any q c (partL b.hs k (k + j + 1)) w' hq (by omega) (fun x hx => hd_bounds HOK.out.h x (partL_mem hx)))
            clear hpl x0 x1 d4 d5 rX hb1 c4 k5
            go_region_held3 (fun w' => w'.cell? ⟨w.heap.size + 1 + 1 + 1, 5, none⟩ = some (.map (some (w.heap.size + 1 + 1))) ∧ w'.cell? ⟨bx, 0, none⟩ = some (.int .i64 k) ∧ w'.cell? ⟨bx, 1, none⟩ = some (.int .i64 ((k : Int) + (j : Int) + 1)) ∧ w'.cell? ⟨w.heap.size, 4, none⟩ = some (.slice p b.hs.length c)) (first | with_reducible exact HSS.out _ KB.out | with_reducible exact HSS.out _ KB.out.drew | with_reducible exact HSS.out _ KB9.out)
              (first
                | (go_at_call 62; (first | with_reducible refine (HOF.out _ KI.out).mono ?_ | with_reducible refine (HOF.out _ KI.out.drew).mono ?_); rintro e wy ⟨q, cq, rfl, hq, _, hbu⟩; have KB := Lib.hid (by first | with_reducible exact KB.out.drew.below hbu | with_reducible exact KB.out.below hbu); have KI := Lib.hid (by first | with_reducible exact KI.out.drew.below hbu | with_reducible exact KI.out.below hbu); have HQ := Lib.hid hq; clear hq hbu)
                | (go_at_call 61; (with_reducible refine (HTO.out _ _ _ HQ.out).mono ?_); rintro e wy ⟨rfl, hbu⟩; have KB := Lib.hid (by first | with_reducible exact KB.out.drew.below hbu | with_reducible exact KB.out.below hbu); have KI := Lib.hid (by first | with_reducible exact KI.out.drew.below hbu | with_reducible exact KI.out.below hbu); obtain ⟨w9, hrun, hs9, hg9⟩ := (HSU.out.below KI.out.b).put (by unfold maxLen; omega) (x := (k : Int)) (y := (k : Int) + (j : Int) + 1) (I64_of (by omega) (by omega)) (I64_of (by omega) (by omega)); rw [HLK.out, HHK.out] at hrun; have HS9 := Lib.hid hs9; have KB9 := Lib.hid (⟨KB.out.k.trans (keeps_grown hg9 _ rfl)⟩ : FromB (w.heap.size + 1 + 1) W1 w9); clear hs9 hg9 hbu))
            all_goals
              have HKB9 := Lib.hid (show FromB (w.heap.size + 1 + 1) W0 w9 from ⟨HKB.out.k.trans KB9.out.k⟩)
              go_wp2_with fail
              go_roundw
              case rel => exact ⟨j + 1, by omega, by go_num, HS9.out.congr (fun x y => boxTo_put hkj (by omega) x y) (fun _ _ _ => ⟨rfl, rfl⟩), HKB9.out⟩
              case measure => simp [intOf]; omega
          · obtain rfl : j = m := by omega
            first
              | have hc : ¬ (j : Int) < b.gr := by have := HM.out; omega
              | have hc : ¬ (j : Int) < (b.hs.length : Int) - (k : Int) := by have := HM.out; omega
            go_wp2_with fail
            go_roundw
            case rel => exact ⟨k + 1, by omega, by go_num, (HSU.out.congr (fun x y => boxTo_next HM.out x y) (fun _ _ _ => ⟨rfl, rfl⟩)).mono (by omega), HKB.out⟩
            case measure => simp [intOf]; omega
    · obtain rfl : k = b.hs.length := by omega
      have rr := HKB.out.row RR.out (by omega)
      have rk := HKB.out.row RK.out (by omega)
      have hs9 := (HSU.out.congr (fun x y => boxTo_all b x y) (fun _ _ _ => ⟨rfl, rfl⟩)).mono (n' := 100) (by omega)
      have HS9 := Lib.hid hs9
      have HBW := Lib.hid (HE.out.trans (HKB.out.k.below (n := w.heap.size) (by omega) (fun q hq e => by omega)))
      clear hs9 c3 c4
      have k0 := rk.cell 0 (v := .int .i64 b.pr) rfl
      have k1 := rk.cell 1 (v := .int .i64 b.le) rfl
      have k2 := rk.cell 2 (v := .int .i64 b.mo) rfl
      have k3 := rk.cell 3 (v := .int .i64 b.gr) rfl
      have k4 := rk.cell 4 (v := .slice p b.hs.length c) rfl
      have k5 := rk.cell 5 (v := .map (some (w.heap.size + 1 + 1))) rfl
      have RR2 := Lib.hid rr
      have r0 := rr.cell 0 (v := .int .i64 0) rfl
      have r1 := rr.cell 1 (v := .int .i64 0) rfl
      have r2 := rr.cell 2 (v := .int .i64 0) rfl
      have r3 := rr.cell 3 (v := .int .i64 0) rfl
      have r4 := rr.cell 4 (v := .slice none 0 0) rfl
      have r5 := rr.cell 5 (v := .map none) rfl
      have f0 := rr.free 0
      have f1 := rr.free 1
      have f2 := rr.free 2
      have f3 := rr.free 3
      have f4 := rr.free 4
      have f5 := rr.free 5
      clear rr rk
      go_wp2_with fail
      have q := (((((RR2.out.set 0 (.int .i64 b.pr)).set 1 (.int .i64 b.le)).set 2 (.int .i64 b.mo)).set 3 (.int .i64 b.gr)).set 4 (.slice p b.hs.length c)).set 5 (.map (some (w.heap.size + 1 + 1)))
      exact bodyPost_ret (v := .agg (bkA b p c (w.heap.size + 1 + 1))) (results_cell_row Try.results93 _ _ _ _ _ _ _ rfl q Try.underlying79 rfl (by kernel_rfl)) rfl
        ⟨_, rfl, HS9.out.of_same (by iterate 6 rw [Below.heap_setCell _ _ _ _ (by dsimp only; omega)]), by omega, (((((HBW.out.setCell (by dsimp only; omega) _).setCell (by dsimp only; omega) _).setCell (by dsimp only; omega) _).setCell (by dsimp only; omega) _).setCell (by dsimp only; omega) _).setCell (by dsimp only; omega) _⟩
end Go.Proofs.Ytgdidhbomdfcpaa
