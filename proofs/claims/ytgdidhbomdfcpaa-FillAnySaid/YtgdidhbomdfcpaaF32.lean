/- The walks of layer 5: the worst that is found of a handful. -/
import Derived.Test.YtgdidhbomdfcpaaF31
import Derived.Test.YtgdidhbomdfcpaaF26
namespace Go.Proofs.Ytgdidhbomdfcpaa
open Go.RowKit Go.Maps
attribute [local go_sem] Oper.semAt_some

/-- How many boxes are by hand once a handful is counted; at the worst of the first so many numbers. -/
def countAt (b : Bf) (k : Nat) (n : Int) : Int := ((handL (setB b k n n) (bestQ (setB b k n n))).length : Int)
def handAt (b : Bf) (k : Nat) : Hd := b.hs.getD k ⟨0, 0⟩
def worstTo (b : Bf) (k : Nat) : Nat → Int
  | 0 => 0
  | j + 1 => max (worstTo b k j) (countAt b k ((handAt b k).lo + j))
def worstV (b : Bf) (k : Nat) : Int := worstTo b k ((handAt b k).hi - (handAt b k).lo + 1).toNat
theorem handAt_eq {b : Bf} {k : Nat} (h : k < b.hs.length) : handAt b k = b.hs[k] := by simp [handAt, List.getD, h]
theorem worstTo_nonneg (b : Bf) (k : Nat) : ∀ j, 0 ≤ worstTo b k j
  | 0 => Int.le_refl _
  | j + 1 => by have := worstTo_nonneg b k j; unfold worstTo; omega
theorem countAt_range {b : Bf} {k : Nat} {n : Int} (hok : BfOk (setB b k n n)) : 0 ≤ countAt b k n ∧ countAt b k n ≤ 8 := by
  have h8 := hok.n8
  obtain ⟨j, _, hj, _⟩ := bestO_least (rankQ (setB b k n n)) (plansB (setB b k n n)) (plansB (setB b k n n)).length (Nat.le_refl _) (plansB_pos hok.g1)
  have hm := bestO_mem _ _ _ (Nat.le_refl _) _ hj
  rw [List.take_length] at hj
  have hl := plan_len ((plansB_iff hok.g1 _).1 hm)
  have hc := count_to (setB b k n n) (bestQ (setB b k n n)) (bestQ (setB b k n n)).length
  rw [← show bestQ (setB b k n n) = _ from bestL_of hj] at hl
  unfold countAt handL
  omega
theorem setB_ok {b : Bf} (hok : BfOk b) {k : Nat} (lo hi : Int) (h : HdOk ⟨lo, hi⟩) : BfOk (setB b k lo hi) :=
  ⟨hok.p1, hok.p2, hok.l1, hok.l2, hok.l3, hok.m1, hok.m2, hok.g1, hok.g2, by rw [setB_len]; exact hok.n8, fun x hx => by
    rcases List.mem_or_eq_of_mem_set hx with h' | h'
    · exact hok.h x h'
    · rw [h']; exact h⟩
set_option maxRecDepth 10000 in
set_option maxHeartbeats 1600000 in
theorem worst_any (b : Bf) (p : Option Addr) (c k : Nat) (w : World) (hB : BfAt w p c b) (hok : BfOk b) (hk : k < b.hs.length) :
    Calls Try.prog 85 #[.agg (bfA b p c), .int .i64 k] w fun e w' => e = .returned (.int .i64 (worstV b k)) ∧ Below w.heap.size w w' := by
  have hn8 := hok.n8
  obtain ⟨W0, hW0⟩ : ∃ W, W = w.alloc (.cells (bfA b p c) 24) := ⟨_, rfl⟩
  have HW0 := Lib.hid hW0
  have HE := Lib.hid (show Below w.heap.size w W0 by rw [hW0]; exact below_alloc _ _)
  have HR := Lib.hid (show Row W0 w.heap.size (bfA b p c) 24 by rw [hW0]; exact Row.new w _ _)
  have HB := Lib.hid (hB.below HE.out)
  obtain ⟨bb, o, rfl, h0, h1⟩ := HB.out.h k hk
  have hH := hok.h _ (List.getElem_mem hk)
  have hl0 := hH.l0
  have hl1 := hH.l1
  have hl2 := hH.l2
  have hl3 := hH.l3
  have HOK := Lib.hid hok
  have HHA := Lib.hid (handAt_eq hk)
  have HSO := Lib.hid (fun n (hn : b.hs[k].lo ≤ n) (hn2 : n ≤ b.hs[k].hi) => setB_ok HOK.out (k := k) n n ⟨show (0 : Int) ≤ n by omega, Int.le_refl n, show n ≤ 200 by omega, show n - n ≤ 10 by omega⟩)
  have g0 := HR.out.cell 0 (v := .int .i64 b.pr) rfl
  have g1 := HR.out.cell 1 (v := .int .i64 b.le) rfl
  have g2 := HR.out.cell 2 (v := .int .i64 b.mo) rfl
  have g3 := HR.out.cell 3 (v := .int .i64 b.gr) rfl
  have g4 := HR.out.cell 4 (v := .slice (some ⟨bb, o, none⟩) b.hs.length c) rfl
  have i1 : (0 : Int) ≤ (k : Int) := by omega
  have i2 : (k : Int) < (b.hs.length : Int) := by omega
  obtain ⟨lo, hlo⟩ : ∃ x, b.hs[k].lo = x := ⟨_, rfl⟩
  obtain ⟨hi, hhi⟩ : ∃ x, b.hs[k].hi = x := ⟨_, rfl⟩
  rw [hlo] at h0 hl0 hl1 hl3 HSO
  rw [hhi] at h1 hl1 hl2 hl3 HSO
  have HLO := Lib.hid hlo
  have HHI := Lib.hid hhi
  clear hW0 hB hok hH hlo hhi
  go_enter Try.func85, Try.ntmps85
  go_upto_region 2 with (fail)
  rw [← HW0.out]
  go_wp2_with fail
  go_loopw [5, 6] (fun m i wr => ∃ j : Nat, (j : Int) ≤ hi - lo + 1 ∧ i = .int .i64 (lo + j) ∧ m = .int .i64 (worstTo b k j) ∧ 0 ≤ worstTo b k j ∧ worstTo b k j ≤ 8 ∧ ∃ x : Later W0, wr = x.w) (fun _ i _ => 300 - (intOf i).toNat)
  case atStart => exact ⟨0, by omega, by simp, rfl, by simp [worstTo], by simp [worstTo], ⟨W0, Below.refl _ _⟩, rfl⟩
  case round =>
    obtain ⟨j, hj, rfl, rfl, hw0, hw8, x, rfl⟩ := hrel
    by_cases hlt : lo + j ≤ hi
    · have HOKS := Lib.hid (HSO.out (lo + j) (by omega) hlt)
      have hcr := countAt_range HOKS.out
      have HWS := Lib.hid (show worstTo b k (j + 1) = max (worstTo b k j) (countAt b k (lo + j)) by rw [worstTo, HHA.out, HLO.out])
      have HCE := Lib.hid (show countAt b k (lo + j) = ((handL (setB b k (lo + j) (lo + j)) (bestQ (setB b k (lo + j) (lo + j)))).length : Int) from rfl)
      obtain ⟨n, hn⟩ : ∃ n, lo + (j : Int) = n := ⟨_, rfl⟩
      rw [hn] at HOKS hcr HWS HCE hlt
      have HNE := Lib.hid hn
      have hn0 : 0 ≤ n := by omega
      rw [hn]
      clear hn
      generalize worstTo b k j = wj at *
      go_wp2_with fail
      refine (counted_any b (some ⟨bb, o, none⟩) c k n x.w (HB.out.below x.b) hk (by omega)).mono ?_
      rintro e u ⟨gg, cap, rfl, hbf, hgg, hbu⟩
      obtain ⟨x2, hx2⟩ := x.on hbu
      subst hx2
      have HBF := Lib.hid hbf
      clear hbu hbf hgg
      go_wp2_with fail
      refine (open_any (setB b k n n) (some ⟨gg, 0, none⟩) cap x2.w HBF.out HOKS.out).mono ?_
      rintro e u ⟨mb, rfl, hs, hmb, hbu⟩
      have HBF2 := Lib.hid (HBF.out.below hbu)
      have HS := Lib.hid hs
      obtain ⟨x3, hx3⟩ := x2.on hbu
      subst hx3
      clear hbu hs hmb
      go_wp2_with fail
      refine (best_any (setB b k n n) (some ⟨gg, 0, none⟩) cap mb 81 (rankQ (setB b k n n)) x3.w ⟨HBF2.out, HS.out, HOKS.out⟩ (offers_quicker _ HOKS.out)).mono ?_
      rintro e u ⟨m, qm, cm, pr, cr, ph, ch, h1', h2', rfl, h4', h5', h6', hbu⟩
      obtain ⟨x4, hx4⟩ := x3.on hbu
      subst hx4
      have HM := Lib.hid (show bestQ (setB b k n n) = m from bestL_of h1')
      rw [HM.out] at HCE
      have RO := Lib.hid (Row.new x4.w (outA qm m.length cm pr (rightL (setB b k n n) m).length cr ph (handL (setB b k n n) m).length ch) 90)
      obtain ⟨x5, hx5⟩ := x4.on (below_alloc x4.w (.cells (outA qm m.length cm pr (rightL (setB b k n n) m).length cr ph (handL (setB b k n n) m).length ch) 90))
      have HX5 := Lib.hid hx5
      clear hbu h1' h2' h4' h5' h6' hx5
      go_upto_region 6 with (fail)
      rw [HX5.out] at RO
      rw [HX5.out]
      have o2 := RO.out.cell 2 (v := .slice ph (handL (setB b k n n) m).length ch) rfl
      generalize (handL (setB b k n n) m).length = hl at *
      obtain ⟨ca, hca⟩ : ∃ x, countAt b k n = x := ⟨_, rfl⟩
      rw [hca] at hcr HWS HCE
      clear hca
      have hch : ca = (hl : Int) := HCE.out
      have hn2 : n + 1 ≤ 201 := by omega
      go_wp2_with fail
      all_goals
        go_roundw
        case rel => exact ⟨j + 1, by have := HNE.out; omega, by have := HNE.out; congr 1; omega, by rw [HWS.out]; congr 1; omega, by rw [HWS.out]; omega, by rw [HWS.out]; omega, x5, rfl⟩
        case measure => simp [intOf]; omega
    · have HV := Lib.hid (show worstV b k = worstTo b k j by
        unfold worstV
        rw [HHA.out, HLO.out, HHI.out]
        congr 1
        omega)
      go_wp2_with fail
      go_ret
      exact ⟨by rw [HV.out]; rfl, x.base HE.out⟩
end Go.Proofs.Ytgdidhbomdfcpaa
