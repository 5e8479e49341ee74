/- The law's own helpers of layer 6: the chapter's examples. -/
import Derived.Test.YtajkgfeockcbpaaY28
namespace Go.Proofs.Ytajkgfeockcbpaa
open Go.RowKit Go.Maps
attribute [local go_sem] Oper.semAt_some

set_option maxRecDepth 100000 in
theorem ex_near : nearA (exB 20) 0 1 = (1, 0) := by decide +kernel
set_option maxRecDepth 100000 in
theorem ex_serv : servA (exB 20) 0 = (2, 0) := by decide +kernel
set_option maxRecDepth 100000 in
theorem ex_allow : allowA (exB 20) [0, 1] = (1, 0) := by decide +kernel
set_option maxRecDepth 100000 in
theorem ex_best : intsN (lotsL (bestK (exB 20) false)) = [1, 2] := by decide +kernel
set_option maxRecDepth 100000 in
theorem ex_goods : goodsV (exB 20) = (42, 75, 0) := by decide +kernel
set_option maxRecDepth 100000 in
theorem ex_yard20 : yardB (exB 20) = true := by decide +kernel
set_option maxRecDepth 100000 in
theorem ex_yard40 : yardB (exB 40) = true := by decide +kernel
set_option maxRecDepth 100000 in
theorem ex_more : (readL 4 [1] 0 noneF).map (fun f => (allowK (exB 20) false f, intsN (lotsL (moreF (exB 20) f)))) = some (true, [2]) := by decide +kernel
set_option maxRecDepth 100000 in
theorem ex_breaks : (readL 4 [0, 1, 2, 3] 0 noneF).map (fun f => (pairsL (nearK (exB 20) false) (lotsL f), intsN (lotsL (unservF (exB 20) false f)))) = some ([(0, 1), (0, 2)], [3]) := by decide +kernel
set_option maxRecDepth 100000 in
theorem ex_place20 : placeA (exB 20) = (0, 4) := by decide +kernel
set_option maxRecDepth 100000 in
theorem ex_place40 : placeA (exB 40) = (0, 0) := by decide +kernel
set_option maxRecDepth 100000 in
theorem ex_clear : (readL 4 [0, 1, 2] 0 noneF).map (fun f => intsN (lotsL (clearF (exB 20) f))) = some [0] := by decide +kernel
set_option maxRecDepth 10000 in
set_option maxHeartbeats 1600000 in
theorem same_pairs (p q : Option Addr) (c d : Nat) (l : List (Nat × Nat)) (w : World) (hP : PairsAt w p l) (hQ : PairsAt w q l) (hn : l.length ≤ 1000) :
    Calls Try.prog 34 #[.slice p l.length c, .slice q l.length d] w fun e w' => e = .returned (.bool true) ∧ Below w.heap.size w w' := by
  have HP := Lib.hid hP
  have HQ := Lib.hid hQ
  clear hP hQ
  obtain ⟨z0, hz0⟩ : ∃ z : Later w, w = z.w := ⟨⟨w, Below.refl _ _⟩, rfl⟩
  have HZ0 := Lib.hid hz0
  clear hz0
  go_enter Try.func34, Try.ntmps34
  go_wp2_with fail
  go_loopw [5, 6] (fun ok i wr => ok = .bool true ∧ ∃ k : Nat, k ≤ l.length ∧ i = .int .i64 k ∧ ∃ x : Later w, wr = x.w) (fun _ i _ => l.length - (intOf i).toNat)
  case atStart => exact ⟨rfl, 0, by omega, rfl, z0, HZ0.out⟩
  case round =>
    obtain ⟨rfl, k, hk, rfl, x, rfl⟩ := hrel
    by_cases hlt : k < l.length
    · obtain ⟨b1, o1, hp, p0, p1⟩ := HP.out k hlt
      obtain ⟨b2, o2, hq, q0, q1⟩ := HQ.out k hlt
      subst hp hq
      obtain ⟨y0, hy0⟩ : ∃ v : Nat, l[k].1 = v := ⟨_, rfl⟩
      obtain ⟨y1, hy1⟩ : ∃ v : Nat, l[k].2 = v := ⟨_, rfl⟩
      rw [hy0] at p0 q0
      rw [hy1] at p1 q1
      have i1 : (0 : Int) ≤ (k : Int) := by omega
      have i2 : (k : Int) < (l.length : Int) := by omega
      clear hy0 hy1
      go_wp2_with fail
      refine wp_region_later (by kernel_rfl) (by kernel_rfl) ?_
      repeat (go_big_quiet_step (fail))
      refine wpQuiet_nil ?_
      intro _ hw'
      obtain ⟨y, hw''⟩ := hw'
      subst hw''
      obtain ⟨x2, hx2⟩ := x.up y
      go_wp2_with fail
      go_roundw
      case rel => exact ⟨rfl, k + 1, by omega, by go_num, x2, rfl⟩
      case measure => simp [intOf]; omega
    · obtain rfl : k = l.length := by omega
      go_wp2_with fail
      go_ret
      exact ⟨rfl, x.b⟩
end Go.Proofs.Ytajkgfeockcbpaa
