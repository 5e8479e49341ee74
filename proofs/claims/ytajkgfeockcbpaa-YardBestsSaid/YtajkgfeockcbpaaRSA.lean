/- The specification's functions of layer 6: spots, Check. -/
import Derived.Test.YtajkgfeockcbpaaY33
import Derived.Test.YtajkgfeockcbpaaYWA
import Derived.Test.YtajkgfeockcbpaaLX
namespace Go.Proofs.Ytajkgfeockcbpaa
open Go.RowKit Go.Maps
attribute [local go_sem] Oper.semAt_some

set_option maxRecDepth 10000 in
set_option maxHeartbeats 1600000 in
theorem refSpot_any (s0 s1 : Int) (w : World) : Calls Try.prog 63 #[.agg #[.int .i64 s0, .int .i64 s1]] w fun e w' => e = .returned (.bool (spB (s0, s1))) ∧ Below w.heap.size w w' := by
  have HX := Lib.hid (fun w' => Fits_any s0 0 99 w')
  have HY := Lib.hid (fun w' => Fits_any s1 0 99 w')
  have HV := Lib.hid (spB_fits (s0, s1))
  dsimp only at HV
  have HQ := Lib.hid (Row.new w #[.int .i64 s0, .int .i64 s1] 62)
  have HB := Lib.hid (below_alloc w (.cells #[.int .i64 s0, .int .i64 s1] 62))
  obtain ⟨fx, hfx⟩ : ∃ v, fits s0 0 99 = v := ⟨_, rfl⟩
  obtain ⟨fy, hfy⟩ : ∃ v, fits s1 0 99 = v := ⟨_, rfl⟩
  rw [hfx] at HX HV
  rw [hfy] at HY HV
  rw [HV.out]
  clear HV hfx hfy
  cases fx
  · go_enter Try.func63, Try.ntmps63
    go_wp2_with (first
      | (go_at_call 43; (with_reducible refine (HX.out _).mono ?_); rintro e u ⟨rfl, rfl⟩))
    go_ret
    exact ⟨rfl, HB.out⟩
  · go_enter Try.func63, Try.ntmps63
    go_wp2_with (first
      | (go_at_call 43; (with_reducible refine (HX.out _).mono ?_); rintro e u ⟨rfl, rfl⟩)
      | (go_at_call 43; (with_reducible refine (HY.out _).mono ?_); rintro e u ⟨rfl, rfl⟩))
    go_ret
    exact ⟨rfl, HB.out⟩
theorem all_take {α : Type} (p : α → Bool) {l : List α} {k : Nat} (h : k < l.length) : (l.take (k + 1)).all p = ((l.take k).all p && p l[k]) := by
  rw [List.take_succ_eq_append_getElem h, List.all_append]
  simp
theorem all_false {α : Type} (p : α → Bool) {l : List α} {k : Nat} (h : (l.take k).all p = false) : l.all p = false := by
  rw [List.all_eq_false] at h ⊢
  obtain ⟨x, hx, h⟩ := h
  exact ⟨x, List.mem_of_mem_take hx, h⟩
set_option maxRecDepth 10000 in
set_option maxHeartbeats 1600000 in
theorem refSpots_any (p : Option Addr) (c : Nat) (l : List (Int × Int)) (least : Int) (w : World) (hS : SpotsAt w p l) (hn : l.length < 2 ^ 61) :
    Calls Try.prog 62 #[.slice p l.length c, .int .i64 least] w fun e w' => e = .returned (.bool (fits l.length least 3 && l.all spB)) ∧ Below w.heap.size w w' := by
  have HS := Lib.hid hS
  have HF := Lib.hid (fun w' => Fits_any (l.length : Int) least 3 w')
  have HFD := Lib.hid (rfl : fits l.length least 3 = fits l.length least 3)
  obtain ⟨F, hF⟩ : ∃ v, fits l.length least 3 = v := ⟨_, rfl⟩
  rw [hF] at HF ⊢
  clear hS hF HFD
  cases F
  · go_enter Try.func62, Try.ntmps62
    go_wp2_with (first
      | (go_at_call 43; (with_reducible refine (HF.out _).mono ?_); rintro e u ⟨rfl, rfl⟩))
    go_loopw [5, 6] (fun ok i wr => ok = .bool false ∧ wr = w) (fun _ _ _ => 0)
    case atStart => exact ⟨rfl, rfl⟩
    case round =>
      obtain ⟨rfl, rfl⟩ := hrel
      go_wp2_with fail
      go_ret
      exact ⟨rfl, Below.refl _ _⟩
  · go_enter Try.func62, Try.ntmps62
    go_wp2_with (first
      | (go_at_call 43; (with_reducible refine (HF.out _).mono ?_); rintro e u ⟨rfl, rfl⟩))
    go_loopw [5, 6] (fun ok i wr => ∃ (k : Nat) (x : Later w), k ≤ l.length ∧ i = .int .i64 (k : Int) ∧ ok = .bool ((l.take k).all spB) ∧ wr = x.w) (fun _ i _ => l.length - (intOf i).toNat)
    case atStart => exact ⟨0, ⟨_, Below.refl _ _⟩, by omega, rfl, rfl, rfl⟩
    case round =>
      obtain ⟨k, x, hk, rfl, rfl, rfl⟩ := hrel
      cases hok : (l.take k).all spB
      · have HA := Lib.hid (all_false spB hok)
        clear hok
        go_wp2_with fail
        go_ret
        exact ⟨by rw [HA.out]; rfl, x.b⟩
      · by_cases hlt : k < l.length
        · obtain ⟨bq, oq, hp, q0, q1⟩ := HS.out k hlt
          have hs := all_take spB hlt
          rw [hok, Bool.true_and] at hs
          obtain ⟨t, ht⟩ : ∃ t, l[k] = t := ⟨_, rfl⟩
          rw [ht] at q0 q1 hs
          obtain ⟨t0, t1⟩ := t
          have HSV := Lib.hid hs
          subst hp
          have i1 : (0 : Int) ≤ (k : Int) := by omega
          have i2 : (k : Int) < (l.length : Int) := by omega
          have i3 : (l.length : Int) < 2305843009213693952 := by omega
          clear ht hs hok
          go_wp2_with (first
            | (go_at_call 63; (with_reducible refine (refSpot_any _ _ _).mono ?_); rintro e u ⟨rfl, hbu⟩; obtain ⟨x2, hx2⟩ := x.on hbu; subst hx2; clear hbu))
          go_roundw
          case rel => exact ⟨k + 1, x2, by omega, by go_num, by rw [HSV.out], rfl⟩
          case measure => simp [intOf]; omega
        · obtain rfl : k = l.length := by omega
          have hl : l.all spB = true := by rw [List.take_length] at hok; exact hok
          have HA := Lib.hid hl
          clear hok hl
          go_wp2_with fail
          go_ret
          exact ⟨by rw [HA.out]; rfl, x.b⟩
def chkB (b : Yb) : Bool := fits b.lots.length 1 7 && ((fits b.doors.length 1 3 && b.doors.all spB) && ((fits b.buckets.length 0 3 && b.buckets.all spB) && ((fits b.spare.length 0 3 && b.spare.all spB) && (fits b.apart 0 200 && (fits b.door 0 200 && (fits b.bucket 0 200 && fits b.err 0 20))))))
theorem chk_is (b : Yb) : yardB b = (chkB b && b.lots.all lotB) := by
  unfold yardB ynumB spotsL chkB fits
  rw [Bool.eq_iff_iff]
  simp only [Bool.and_eq_true, decide_eq_true_eq, List.all_append]
  constructor
  · rintro ⟨⟨⟨a1, a2, a3, a4, a5, a6, a7, a8, a9, a10, a11, a12, a13, a14⟩, hl⟩, ⟨hd, hu⟩, hs⟩
    exact ⟨⟨⟨by omega, by omega⟩, ⟨⟨by omega, by omega⟩, hd⟩, ⟨⟨by omega, by omega⟩, hu⟩, ⟨⟨by omega, by omega⟩, hs⟩, ⟨a7, a8⟩, ⟨a9, a10⟩, ⟨a11, a12⟩, a13, a14⟩, hl⟩
  · rintro ⟨⟨⟨a1, a2⟩, ⟨⟨a3, a4⟩, hd⟩, ⟨⟨_, a5⟩, hu⟩, ⟨⟨_, a6⟩, hs⟩, ⟨a7, a8⟩, ⟨a9, a10⟩, ⟨a11, a12⟩, a13, a14⟩, hl⟩
    exact ⟨⟨⟨by omega, by omega, by omega, by omega, by omega, by omega, a7, a8, a9, a10, a11, a12, a13, a14⟩, hl⟩, ⟨hd, hu⟩, hs⟩
theorem lotB_room (l : Lot) : lotB l = (spB l.sp && (decide ((0 : Int) ≤ l.lo) && decide (l.lo ≤ l.hi) && decide (l.hi ≤ 99))) := by
  unfold lotB roomB
  rw [Bool.eq_iff_iff]
  simp only [Bool.and_eq_true, decide_eq_true_eq]
  constructor
  · rintro ⟨h, a, b, c⟩
    exact ⟨h, ⟨a, b⟩, c⟩
  · rintro ⟨h, ⟨a, b⟩, c⟩
    exact ⟨h, a, b, c⟩
set_option maxRecDepth 100000 in
set_option maxHeartbeats 6400000 in
theorem refCheck_any (b : Yb) (P : Yp) (w : World) (hB : YbAt w P b) :
    Calls Try.prog 17 #[.agg (ybA b P)] w fun e w' => e = .returned (.int .i64 (yardE b)) ∧ Below w.heap.size w w' := by
  obtain ⟨pl, cl, pd, cd, pb, cb, ps, cs⟩ := P
  obtain ⟨W0, hW0⟩ : ∃ W, W = w.alloc (.cells (ybA b ⟨pl, cl, pd, cd, pb, cb, ps, cs⟩) 25) := ⟨_, rfl⟩
  have HW0 := Lib.hid hW0
  have HE := Lib.hid (show Below w.heap.size w W0 by rw [hW0]; exact below_alloc _ _)
  have HRx := Lib.hid (show Row W0 w.heap.size (ybA b ⟨pl, cl, pd, cd, pb, cb, ps, cs⟩) 25 by rw [hW0]; exact Row.new _ _ _)
  have HB := Lib.hid (hB.below HE.out)
  have hn61 := hB.n1
  have hn2 := hB.n2
  have hn3 := hB.n3
  have hn4 := hB.n4
  have g0 := HRx.out.cell 0 (v := .slice pl b.lots.length cl) rfl
  have g1 := HRx.out.cell 1 (v := .slice pd b.doors.length cd) rfl
  have g2 := HRx.out.cell 2 (v := .slice pb b.buckets.length cb) rfl
  have g3 := HRx.out.cell 3 (v := .slice ps b.spare.length cs) rfl
  have g4 := HRx.out.cell 4 (v := .int .i64 b.apart) rfl
  have g5 := HRx.out.cell 5 (v := .int .i64 b.door) rfl
  have g6 := HRx.out.cell 6 (v := .int .i64 b.bucket) rfl
  have g7 := HRx.out.cell 7 (v := .int .i64 b.err) rfl
  have H1 := Lib.hid (fun w' => Fits_any (b.lots.length : Int) 1 7 w')
  have H2 := Lib.hid (fun w' (h : Below W0.heap.size W0 w') => refSpots_any pd cd b.doors 1 w' (HB.out.d.below h) hn2)
  have H3 := Lib.hid (fun w' (h : Below W0.heap.size W0 w') => refSpots_any pb cb b.buckets 0 w' (HB.out.u.below h) hn3)
  have H4 := Lib.hid (fun w' (h : Below W0.heap.size W0 w') => refSpots_any ps cs b.spare 0 w' (HB.out.s.below h) hn4)
  have H5 := Lib.hid (fun w' => Fits_any b.apart 0 200 w')
  have H6 := Lib.hid (fun w' => Fits_any b.door 0 200 w')
  have H7 := Lib.hid (fun w' => Fits_any b.bucket 0 200 w')
  have H8 := Lib.hid (fun w' => Fits_any b.err 0 20 w')
  have hv : yardB b = (chkB b && b.lots.all lotB) := chk_is b
  unfold chkB at hv
  obtain ⟨v1, hv1⟩ : ∃ v, fits b.lots.length 1 7 = v := ⟨_, rfl⟩
  obtain ⟨v2, hv2⟩ : ∃ v, (fits b.doors.length 1 3 && b.doors.all spB) = v := ⟨_, rfl⟩
  obtain ⟨v3, hv3⟩ : ∃ v, (fits b.buckets.length 0 3 && b.buckets.all spB) = v := ⟨_, rfl⟩
  obtain ⟨v4, hv4⟩ : ∃ v, (fits b.spare.length 0 3 && b.spare.all spB) = v := ⟨_, rfl⟩
  obtain ⟨v5, hv5⟩ : ∃ v, fits b.apart 0 200 = v := ⟨_, rfl⟩
  obtain ⟨v6, hv6⟩ : ∃ v, fits b.door 0 200 = v := ⟨_, rfl⟩
  obtain ⟨v7, hv7⟩ : ∃ v, fits b.bucket 0 200 = v := ⟨_, rfl⟩
  obtain ⟨v8, hv8⟩ : ∃ v, fits b.err 0 20 = v := ⟨_, rfl⟩
  rw [hv1, hv2, hv3, hv4, hv5, hv6, hv7, hv8] at hv
  rw [hv1] at H1
  rw [hv2] at H2
  rw [hv3] at H3
  rw [hv4] at H4
  rw [hv5] at H5
  rw [hv6] at H6
  rw [hv7] at H7
  rw [hv8] at H8
  have hyE : yardE b = if yardB b then 0 else 60 := rfl
  rw [hv] at hyE
  have HV := Lib.hid hyE
  obtain ⟨YE, hYE⟩ : ∃ v, yardE b = v := ⟨_, rfl⟩
  rw [hYE] at HV ⊢
  clear hv hyE hYE hv1 hv2 hv3 hv4 hv5 hv6 hv7 hv8 hW0 hB
  obtain ⟨z0, hz0⟩ : ∃ z : Later W0, W0 = z.w := ⟨⟨W0, Below.refl _ _⟩, rfl⟩
  have HZ0 := Lib.hid hz0
  clear hz0
  cases v1
  · have hve : YE = 60 := by rw [HV.out]; simp
    have HVE := Lib.hid hve
    clear hve HV
    go_enter Try.func17, Try.ntmps17
    go_upto_region 1 with (fail)
    rw [← HW0.out, HZ0.out]
    go_wp2_with (first
      | (go_at_call 43; (with_reducible refine (H1.out _).mono ?_); rintro e u ⟨rfl, rfl⟩))
    go_loopw [3, 4] (fun ok i wr => ok = .bool false ∧ wr = z0.w) (fun _ _ _ => 0)
    case atStart => exact ⟨rfl, rfl⟩
    case round =>
      obtain ⟨rfl, rfl⟩ := hrel
      go_wp2_with fail
      go_ret
      exact ⟨by rw [HVE.out]; rfl, z0.base HE.out⟩
  cases v2
  · have hve : YE = 60 := by rw [HV.out]; simp
    have HVE := Lib.hid hve
    clear hve HV
    go_enter Try.func17, Try.ntmps17
    go_upto_region 1 with (fail)
    rw [← HW0.out, HZ0.out]
    go_wp2_with (first
      | (go_at_call 43; (with_reducible refine (H1.out _).mono ?_); rintro e u ⟨rfl, rfl⟩)
      | (go_at_call 62; (with_reducible refine (H2.out _ (Later.b _)).mono ?_); rintro e u ⟨rfl, hbu⟩; obtain ⟨z1, hz⟩ := z0.on hbu; subst hz; clear hbu))
    go_loopw [3, 4] (fun ok i wr => ok = .bool false ∧ wr = z1.w) (fun _ _ _ => 0)
    case atStart => exact ⟨rfl, rfl⟩
    case round =>
      obtain ⟨rfl, rfl⟩ := hrel
      go_wp2_with fail
      go_ret
      exact ⟨by rw [HVE.out]; rfl, z1.base HE.out⟩
  cases v3
  · have hve : YE = 60 := by rw [HV.out]; simp
    have HVE := Lib.hid hve
    clear hve HV
    go_enter Try.func17, Try.ntmps17
    go_upto_region 1 with (fail)
    rw [← HW0.out, HZ0.out]
    go_wp2_with (first
      | (go_at_call 43; (with_reducible refine (H1.out _).mono ?_); rintro e u ⟨rfl, rfl⟩)
      | (go_at_call 62; (with_reducible refine (H2.out _ (Later.b _)).mono ?_); rintro e u ⟨rfl, hbu⟩; obtain ⟨z1, hz⟩ := z0.on hbu; subst hz; clear hbu)
      | (go_at_call 62; (with_reducible refine (H3.out _ (Later.b _)).mono ?_); rintro e u ⟨rfl, hbu⟩; obtain ⟨z2, hz⟩ := z1.on hbu; subst hz; clear hbu))
    go_loopw [3, 4] (fun ok i wr => ok = .bool false ∧ wr = z2.w) (fun _ _ _ => 0)
    case atStart => exact ⟨rfl, rfl⟩
    case round =>
      obtain ⟨rfl, rfl⟩ := hrel
      go_wp2_with fail
      go_ret
      exact ⟨by rw [HVE.out]; rfl, z2.base HE.out⟩
  cases v4
  · have hve : YE = 60 := by rw [HV.out]; simp
    have HVE := Lib.hid hve
    clear hve HV
    go_enter Try.func17, Try.ntmps17
    go_upto_region 1 with (fail)
    rw [← HW0.out, HZ0.out]
    go_wp2_with (first
      | (go_at_call 43; (with_reducible refine (H1.out _).mono ?_); rintro e u ⟨rfl, rfl⟩)
      | (go_at_call 62; (with_reducible refine (H2.out _ (Later.b _)).mono ?_); rintro e u ⟨rfl, hbu⟩; obtain ⟨z1, hz⟩ := z0.on hbu; subst hz; clear hbu)
      | (go_at_call 62; (with_reducible refine (H3.out _ (Later.b _)).mono ?_); rintro e u ⟨rfl, hbu⟩; obtain ⟨z2, hz⟩ := z1.on hbu; subst hz; clear hbu)
      | (go_at_call 62; (with_reducible refine (H4.out _ (Later.b _)).mono ?_); rintro e u ⟨rfl, hbu⟩; obtain ⟨z3, hz⟩ := z2.on hbu; subst hz; clear hbu))
    go_loopw [3, 4] (fun ok i wr => ok = .bool false ∧ wr = z3.w) (fun _ _ _ => 0)
    case atStart => exact ⟨rfl, rfl⟩
    case round =>
      obtain ⟨rfl, rfl⟩ := hrel
      go_wp2_with fail
      go_ret
      exact ⟨by rw [HVE.out]; rfl, z3.base HE.out⟩
  cases v5
  · have hve : YE = 60 := by rw [HV.out]; simp
    have HVE := Lib.hid hve
    clear hve HV
    go_enter Try.func17, Try.ntmps17
    go_upto_region 1 with (fail)
    rw [← HW0.out, HZ0.out]
    go_wp2_with (first
      | (go_at_call 43; (with_reducible refine (H1.out _).mono ?_); rintro e u ⟨rfl, rfl⟩)
      | (go_at_call 62; (with_reducible refine (H2.out _ (Later.b _)).mono ?_); rintro e u ⟨rfl, hbu⟩; obtain ⟨z1, hz⟩ := z0.on hbu; subst hz; clear hbu)
      | (go_at_call 62; (with_reducible refine (H3.out _ (Later.b _)).mono ?_); rintro e u ⟨rfl, hbu⟩; obtain ⟨z2, hz⟩ := z1.on hbu; subst hz; clear hbu)
      | (go_at_call 62; (with_reducible refine (H4.out _ (Later.b _)).mono ?_); rintro e u ⟨rfl, hbu⟩; obtain ⟨z3, hz⟩ := z2.on hbu; subst hz; clear hbu)
      | (go_at_call 43; (with_reducible refine (H5.out _).mono ?_); rintro e u ⟨rfl, rfl⟩))
    go_loopw [3, 4] (fun ok i wr => ok = .bool false ∧ wr = z3.w) (fun _ _ _ => 0)
    case atStart => exact ⟨rfl, rfl⟩
    case round =>
      obtain ⟨rfl, rfl⟩ := hrel
      go_wp2_with fail
      go_ret
      exact ⟨by rw [HVE.out]; rfl, z3.base HE.out⟩
  cases v6
  · have hve : YE = 60 := by rw [HV.out]; simp
    have HVE := Lib.hid hve
    clear hve HV
    go_enter Try.func17, Try.ntmps17
    go_upto_region 1 with (fail)
    rw [← HW0.out, HZ0.out]
    go_wp2_with (first
      | (go_at_call 43; (with_reducible refine (H1.out _).mono ?_); rintro e u ⟨rfl, rfl⟩)
      | (go_at_call 62; (with_reducible refine (H2.out _ (Later.b _)).mono ?_); rintro e u ⟨rfl, hbu⟩; obtain ⟨z1, hz⟩ := z0.on hbu; subst hz; clear hbu)
      | (go_at_call 62; (with_reducible refine (H3.out _ (Later.b _)).mono ?_); rintro e u ⟨rfl, hbu⟩; obtain ⟨z2, hz⟩ := z1.on hbu; subst hz; clear hbu)
      | (go_at_call 62; (with_reducible refine (H4.out _ (Later.b _)).mono ?_); rintro e u ⟨rfl, hbu⟩; obtain ⟨z3, hz⟩ := z2.on hbu; subst hz; clear hbu)
      | (go_at_call 43; (with_reducible refine (H5.out _).mono ?_); rintro e u ⟨rfl, rfl⟩)
      | (go_at_call 43; (with_reducible refine (H6.out _).mono ?_); rintro e u ⟨rfl, rfl⟩))
    go_loopw [3, 4] (fun ok i wr => ok = .bool false ∧ wr = z3.w) (fun _ _ _ => 0)
    case atStart => exact ⟨rfl, rfl⟩
    case round =>
      obtain ⟨rfl, rfl⟩ := hrel
      go_wp2_with fail
      go_ret
      exact ⟨by rw [HVE.out]; rfl, z3.base HE.out⟩
  cases v7
  · have hve : YE = 60 := by rw [HV.out]; simp
    have HVE := Lib.hid hve
    clear hve HV
    go_enter Try.func17, Try.ntmps17
    go_upto_region 1 with (fail)
    rw [← HW0.out, HZ0.out]
    go_wp2_with (first
      | (go_at_call 43; (with_reducible refine (H1.out _).mono ?_); rintro e u ⟨rfl, rfl⟩)
      | (go_at_call 62; (with_reducible refine (H2.out _ (Later.b _)).mono ?_); rintro e u ⟨rfl, hbu⟩; obtain ⟨z1, hz⟩ := z0.on hbu; subst hz; clear hbu)
      | (go_at_call 62; (with_reducible refine (H3.out _ (Later.b _)).mono ?_); rintro e u ⟨rfl, hbu⟩; obtain ⟨z2, hz⟩ := z1.on hbu; subst hz; clear hbu)
      | (go_at_call 62; (with_reducible refine (H4.out _ (Later.b _)).mono ?_); rintro e u ⟨rfl, hbu⟩; obtain ⟨z3, hz⟩ := z2.on hbu; subst hz; clear hbu)
      | (go_at_call 43; (with_reducible refine (H5.out _).mono ?_); rintro e u ⟨rfl, rfl⟩)
      | (go_at_call 43; (with_reducible refine (H6.out _).mono ?_); rintro e u ⟨rfl, rfl⟩)
      | (go_at_call 43; (with_reducible refine (H7.out _).mono ?_); rintro e u ⟨rfl, rfl⟩))
    go_loopw [3, 4] (fun ok i wr => ok = .bool false ∧ wr = z3.w) (fun _ _ _ => 0)
    case atStart => exact ⟨rfl, rfl⟩
    case round =>
      obtain ⟨rfl, rfl⟩ := hrel
      go_wp2_with fail
      go_ret
      exact ⟨by rw [HVE.out]; rfl, z3.base HE.out⟩
  cases v8
  · have hve : YE = 60 := by rw [HV.out]; simp
    have HVE := Lib.hid hve
    clear hve HV
    go_enter Try.func17, Try.ntmps17
    go_upto_region 1 with (fail)
    rw [← HW0.out, HZ0.out]
    go_wp2_with (first
      | (go_at_call 43; (with_reducible refine (H1.out _).mono ?_); rintro e u ⟨rfl, rfl⟩)
      | (go_at_call 62; (with_reducible refine (H2.out _ (Later.b _)).mono ?_); rintro e u ⟨rfl, hbu⟩; obtain ⟨z1, hz⟩ := z0.on hbu; subst hz; clear hbu)
      | (go_at_call 62; (with_reducible refine (H3.out _ (Later.b _)).mono ?_); rintro e u ⟨rfl, hbu⟩; obtain ⟨z2, hz⟩ := z1.on hbu; subst hz; clear hbu)
      | (go_at_call 62; (with_reducible refine (H4.out _ (Later.b _)).mono ?_); rintro e u ⟨rfl, hbu⟩; obtain ⟨z3, hz⟩ := z2.on hbu; subst hz; clear hbu)
      | (go_at_call 43; (with_reducible refine (H5.out _).mono ?_); rintro e u ⟨rfl, rfl⟩)
      | (go_at_call 43; (with_reducible refine (H6.out _).mono ?_); rintro e u ⟨rfl, rfl⟩)
      | (go_at_call 43; (with_reducible refine (H7.out _).mono ?_); rintro e u ⟨rfl, rfl⟩)
      | (go_at_call 43; (with_reducible refine (H8.out _).mono ?_); rintro e u ⟨rfl, rfl⟩))
    go_loopw [3, 4] (fun ok i wr => ok = .bool false ∧ wr = z3.w) (fun _ _ _ => 0)
    case atStart => exact ⟨rfl, rfl⟩
    case round =>
      obtain ⟨rfl, rfl⟩ := hrel
      go_wp2_with fail
      go_ret
      exact ⟨by rw [HVE.out]; rfl, z3.base HE.out⟩
  go_enter Try.func17, Try.ntmps17
  go_upto_region 1 with (fail)
  rw [← HW0.out, HZ0.out]
  go_wp2_with (first
    | (go_at_call 43; (with_reducible refine (H1.out _).mono ?_); rintro e u ⟨rfl, rfl⟩)
    | (go_at_call 62; (with_reducible refine (H2.out _ (Later.b _)).mono ?_); rintro e u ⟨rfl, hbu⟩; obtain ⟨z1, hz⟩ := z0.on hbu; subst hz; clear hbu)
    | (go_at_call 62; (with_reducible refine (H3.out _ (Later.b _)).mono ?_); rintro e u ⟨rfl, hbu⟩; obtain ⟨z2, hz⟩ := z1.on hbu; subst hz; clear hbu)
    | (go_at_call 62; (with_reducible refine (H4.out _ (Later.b _)).mono ?_); rintro e u ⟨rfl, hbu⟩; obtain ⟨z3, hz⟩ := z2.on hbu; subst hz; clear hbu)
    | (go_at_call 43; (with_reducible refine (H5.out _).mono ?_); rintro e u ⟨rfl, rfl⟩)
    | (go_at_call 43; (with_reducible refine (H6.out _).mono ?_); rintro e u ⟨rfl, rfl⟩)
    | (go_at_call 43; (with_reducible refine (H7.out _).mono ?_); rintro e u ⟨rfl, rfl⟩)
    | (go_at_call 43; (with_reducible refine (H8.out _).mono ?_); rintro e u ⟨rfl, rfl⟩))
  have hv2 := HV.out
  simp only [Bool.true_and, Bool.and_true, Bool.and_self] at hv2
  have HVE := Lib.hid hv2
  clear hv2 HV H1 H2 H3 H4 H5 H6 H7 H8
  go_loopw [3, 4] (fun ok i wr => ∃ (k : Nat) (x : Later W0), k ≤ b.lots.length ∧ i = .int .i64 (k : Int) ∧ ok = .bool ((b.lots.take k).all lotB) ∧ wr = x.w) (fun _ i _ => b.lots.length - (intOf i).toNat)
  case atStart => exact ⟨0, z3, by omega, rfl, rfl, rfl⟩
  case round =>
    obtain ⟨k, x, hk, rfl, rfl, rfl⟩ := hrel
    cases hok : (b.lots.take k).all lotB
    · have HA := Lib.hid (all_false lotB hok)
      clear hok
      go_wp2_with fail
      go_ret
      exact ⟨by rw [HVE.out, HA.out]; rfl, x.base HE.out⟩
    · by_cases hlt : k < b.lots.length
      · obtain ⟨bq, oq, hp, q0, q1, q2, q3⟩ := HB.out.l k hlt
        dsimp only at hp
        have hs := all_take lotB hlt
        rw [hok, Bool.true_and] at hs
        obtain ⟨t, ht⟩ : ∃ t, b.lots[k] = t := ⟨_, rfl⟩
        rw [ht] at q0 q1 q2 q3 hs
        rw [lotB_room] at hs
        obtain ⟨⟨t0, t1⟩, lo, hi⟩ := t
        dsimp only at q0 q1 q2 q3 hs
        have HSP := Lib.hid (fun w' => refSpot_any t0 t1 w')
        have HRI := Lib.hid (fun w' => Right_any lo hi 0 99 w')
        obtain ⟨vr, hvr⟩ : ∃ v, (decide ((0 : Int) ≤ lo) && decide (lo ≤ hi) && decide (hi ≤ 99)) = v := ⟨_, rfl⟩
        obtain ⟨vs, hvs⟩ : ∃ v, spB (t0, t1) = v := ⟨_, rfl⟩
        rw [hvr] at hs HRI
        rw [hvs] at hs HSP
        have HSV := Lib.hid hs
        subst hp
        have i1 : (0 : Int) ≤ (k : Int) := by omega
        have i2 : (k : Int) < (b.lots.length : Int) := by omega
        have i3 : (b.lots.length : Int) < 2305843009213693952 := by omega
        clear ht hs hok hvr hvs
        cases vs
        · go_wp2_with (first
            | (go_at_call 63; (with_reducible refine (HSP.out _).mono ?_); rintro e u ⟨rfl, hbu⟩; obtain ⟨x2, hx2⟩ := x.on hbu; subst hx2; clear hbu))
          go_roundw
          case rel => exact ⟨k + 1, x2, by omega, by go_num, by rw [HSV.out]; rfl, rfl⟩
          case measure => simp [intOf]; omega
        · go_wp2_with (first
            | (go_at_call 63; (with_reducible refine (HSP.out _).mono ?_); rintro e u ⟨rfl, hbu⟩; obtain ⟨x2, hx2⟩ := x.on hbu; subst hx2; clear hbu)
            | (go_at_call 64; (with_reducible refine (HRI.out _).mono ?_); rintro e u ⟨rfl, hbu⟩; obtain ⟨x3, hx3⟩ := x2.on hbu; subst hx3; clear hbu))
          go_roundw
          case rel => exact ⟨k + 1, x3, by omega, by go_num, by rw [HSV.out]; simp, rfl⟩
          case measure => simp [intOf]; omega
      · obtain rfl : k = b.lots.length := by omega
        have hl : b.lots.all lotB = true := by rw [List.take_length] at hok; exact hok
        have HA := Lib.hid hl
        clear hok hl
        go_wp2_with fail
        go_ret
        exact ⟨by rw [HVE.out, HA.out]; rfl, x.base HE.out⟩
end Go.Proofs.Ytajkgfeockcbpaa
/- The specification's functions of layer 6: distances, what is near. -/
namespace Go.Proofs.Ytajkgfeockcbpaa
open Go.RowKit Go.Maps
attribute [local go_sem] Oper.semAt_some

set_option maxHeartbeats 400000 in
theorem refDiffer_any (a c : Int) (ha : -1000000 ≤ a ∧ a ≤ 1000000) (hc : -1000000 ≤ c ∧ c ≤ 1000000) (w : World) : Calls Try.prog 120 #[.int .i64 a, .int .i64 c] w fun e w' => e = .returned (.int .i64 (dif a c)) ∧ w = w' := by
  obtain ⟨e1, e2⟩ : IntKind.i64.wrap (a - c) = a - c ∧ IntKind.i64.wrap (c - a) = c - a := ⟨IntWalk.i64_in _ (by omega), IntWalk.i64_in _ (by omega)⟩
  go_enter Try.func120, Try.ntmps120
  go_wp2
  all_goals
    go_ret
    exact ⟨ret_int (by unfold dif; omega), rfl⟩
set_option maxRecDepth 10000 in
set_option maxHeartbeats 1600000 in
theorem refFar_any (b : Yb) (P : Yp) (s0 s1 t0 t1 : Int) (hs : spB (s0, s1) = true) (ht : spB (t0, t1) = true) (h0 : 0 ≤ b.err) (h1 : b.err ≤ 20) (w : World) :
    Calls Try.prog 95 #[.agg (ybA b P), .agg #[.int .i64 s0, .int .i64 s1], .agg #[.int .i64 t0, .int .i64 t1]] w fun e w' => e = .returned (.agg #[.int .i64 (farLo b.err (s0, s1) (t0, t1)), .int .i64 (farHi b.err (s0, s1) (t0, t1))]) ∧ Below w.heap.size w w' := by
  obtain ⟨W0, hW0⟩ : ∃ W, W = (((w.alloc (.cells (ybA b P) 25)).alloc (.cells #[.int .i64 s0, .int .i64 s1] 62)).alloc (.cells #[.int .i64 t0, .int .i64 t1] 62)).alloc (.cells #[.int .i64 0, .int .i64 0] 40) := ⟨_, rfl⟩
  have HW0 := Lib.hid hW0
  have HE := Lib.hid (show Below w.heap.size w W0 by rw [hW0]; exact (below_alloc3 _ _ _ _).alloc (by simp; omega) _)
  have HRB := Lib.hid (show Row W0 w.heap.size (ybA b P) 25 by rw [hW0]; exact (((Row.new _ _ _).alloc _).alloc _).alloc _)
  have HRS := Lib.hid (show Row W0 (w.heap.size + 1) #[.int .i64 s0, .int .i64 s1] 62 by rw [hW0]; exact ((Row.new1 _ _ _ _).alloc _).alloc _)
  have HRT := Lib.hid (show Row W0 (w.heap.size + 1 + 1) #[.int .i64 t0, .int .i64 t1] 62 by rw [hW0]; exact (Row.new2 _ _ _ _ _).alloc _)
  have HRZ := Lib.hid (show Row W0 (w.heap.size + 1 + 1 + 1) #[.int .i64 0, .int .i64 0] 40 by rw [hW0]; exact Row.new' (by simp) _ _)
  have g7 := HRB.out.cell 7 (v := .int .i64 b.err) rfl
  have a0 := HRS.out.cell 0 (v := .int .i64 s0) rfl
  have a1 := HRS.out.cell 1 (v := .int .i64 s1) rfl
  have b0 := HRT.out.cell 0 (v := .int .i64 t0) rfl
  have b1 := HRT.out.cell 1 (v := .int .i64 t1) rfl
  have hl := told_le hs ht
  have hnn := told_nn (s0, s1) (t0, t1)
  rw [spB_iff] at hs ht
  dsimp only at hs ht
  have HX := Lib.hid (fun w' => refDiffer_any s0 t0 (by omega) (by omega) w')
  have HY := Lib.hid (fun w' => refDiffer_any s1 t1 (by omega) (by omega) w')
  have hd : told (s0, s1) (t0, t1) = dif s0 t0 + dif s1 t1 := rfl
  have HV := Lib.hid (show farLo b.err (s0, s1) (t0, t1) = max 0 (told (s0, s1) (t0, t1) - b.err) ∧ farHi b.err (s0, s1) (t0, t1) = told (s0, s1) (t0, t1) + b.err from ⟨rfl, rfl⟩)
  obtain ⟨tv, htv⟩ : ∃ t, told (s0, s1) (t0, t1) = t := ⟨_, rfl⟩
  rw [htv] at HV hd hl hnn
  obtain ⟨dx, hdx⟩ : ∃ t, dif s0 t0 = t := ⟨_, rfl⟩
  obtain ⟨dy, hdy⟩ : ∃ t, dif s1 t1 = t := ⟨_, rfl⟩
  rw [hdx] at HX hd
  rw [hdy] at HY hd
  obtain ⟨d, hdd⟩ : ∃ d, tv - b.err = d := ⟨_, rfl⟩
  rw [hdd] at HV
  have e1 : IntKind.i64.wrap (dx + dy) = tv := by rw [← hd]; exact IntWalk.i64_in _ (by omega)
  have e2 : IntKind.i64.wrap (tv - b.err) = d := by rw [hdd]; exact IntWalk.i64_in _ (by omega)
  have e3 : IntKind.i64.wrap (tv + b.err) = tv + b.err := IntWalk.i64_in _ (by omega)
  obtain ⟨FL, hFL⟩ : ∃ t, farLo b.err (s0, s1) (t0, t1) = t := ⟨_, rfl⟩
  obtain ⟨FH, hFH⟩ : ∃ t, farHi b.err (s0, s1) (t0, t1) = t := ⟨_, rfl⟩
  rw [hFL, hFH] at HV ⊢
  clear hW0 hs ht htv hdx hdy hd hFL hFH
  have key : ∀ d', (max 0 d = d') → Hid (FL = d') := fun d' h => Lib.hid (by rw [HV.out.1, h])
  have HFH := Lib.hid HV.out.2
  have hcs : 0 < d ∨ ¬ 0 < d := by omega
  clear HV hdd
  rcases hcs with hA | hA
  · have HFL := key d (by omega)
    clear key
    go_enter Try.func95, Try.ntmps95
    go_upto_region 1 with (fail)
    rw [← HW0.out]
    refine wp_region_later (by kernel_rfl) (by kernel_rfl) ?_
    repeat (go_big_quiet_step (first
      | (go_at_call 120; with_reducible exact Calls.later_same (HX.out _))
      | (go_at_call 120; with_reducible exact Calls.later_same (HY.out _))))
    refine wpQuiet_nil ?_
    intro _ hw'
    obtain ⟨y, hw''⟩ := hw'
    subst hw''
    go_wp2_with (first
      | (go_at_call 54; (with_reducible refine (Sp_any _ _ _).mono ?_); rintro e u ⟨rfl, hbu⟩; obtain ⟨y2, hy2⟩ := y.on hbu; subst hy2; clear hbu; have HZ2 := Lib.hid (HRZ.out.below y2.b HRZ.out.lt))
      | (refine store_row rfl 40 _ _ rfl (w.heap.size + 1 + 1 + 1) #[.int .i64 (d), .int .i64 (tv + b.err)] #[.int .i64 0, .int .i64 0] 40 rfl rfl HZ2.out (by kernel_rfl) rfl (by simp [Value.oneCell']) ?_))
    exact bodyPost_ret (v := .agg #[.int .i64 (d), .int .i64 (tv + b.err)]) (results_cell_row Try.results95 _ _ _ _ _ _ _ rfl (HZ2.out.setRow _) Try.underlying40 rfl (by kernel_rfl)) rfl ⟨by rw [HFL.out, HFH.out], below_setRow' (y2.base HE.out) (by omega) _⟩
  · have HFL := key 0 (by omega)
    have hA' := eq_false hA
    clear key
    go_enter Try.func95, Try.ntmps95
    go_upto_region 1 with (fail)
    rw [← HW0.out]
    refine wp_region_later (by kernel_rfl) (by kernel_rfl) ?_
    repeat (go_big_quiet_step (first
      | (go_at_call 120; with_reducible exact Calls.later_same (HX.out _))
      | (go_at_call 120; with_reducible exact Calls.later_same (HY.out _))))
    refine wpQuiet_nil ?_
    intro _ hw'
    obtain ⟨y, hw''⟩ := hw'
    subst hw''
    go_wp2_with (first
      | (go_at_call 54; (with_reducible refine (Sp_any _ _ _).mono ?_); rintro e u ⟨rfl, hbu⟩; obtain ⟨y2, hy2⟩ := y.on hbu; subst hy2; clear hbu; have HZ2 := Lib.hid (HRZ.out.below y2.b HRZ.out.lt))
      | (refine store_row rfl 40 _ _ rfl (w.heap.size + 1 + 1 + 1) #[.int .i64 (0), .int .i64 (tv + b.err)] #[.int .i64 0, .int .i64 0] 40 rfl rfl HZ2.out (by kernel_rfl) rfl (by simp [Value.oneCell']) ?_))
    exact bodyPost_ret (v := .agg #[.int .i64 (0), .int .i64 (tv + b.err)]) (results_cell_row Try.results95 _ _ _ _ _ _ _ rfl (HZ2.out.setRow _) Try.underlying40 rfl (by kernel_rfl)) rfl ⟨by rw [HFL.out, HFH.out], below_setRow' (y2.base HE.out) (by omega) _⟩
set_option maxRecDepth 10000 in
set_option maxHeartbeats 1600000 in
theorem refIsLot_any (b : Yb) (P : Yp) (n : Int) (hn : b.lots.length ≤ 1000) (w : World) :
    Calls Try.prog 59 #[.agg (ybA b P), .int .i64 n] w fun e w' => e = .returned (.bool (lotOk b n)) ∧ Below w.heap.size w w' := by
  have i1 : (b.lots.length : Int) ≤ 1000 := by omega
  have i2 : (0 : Int) ≤ (b.lots.length : Int) := by omega
  have hw : IntKind.i64.wrap ((b.lots.length : Int) - 1) = (b.lots.length : Int) - 1 := IntWalk.i64_in _ (by omega)
  unfold lotOk
  go_enter Try.func59, Try.ntmps59
  go_wp2_with (first | (go_at_call 43; (with_reducible refine (Fits_any _ _ _ _).mono ?_); rintro e u ⟨rfl, rfl⟩))
  go_ret
  exact ⟨rfl, below_alloc _ _⟩
set_option maxRecDepth 100000 in
set_option maxHeartbeats 6400000 in
theorem refNear_any (b : Yb) (P : Yp) (hok : YbOk b) (i j : Nat) (hi : i < b.lots.length) (hj : j < b.lots.length) (w : World) (hL : LotsAt w P.pl b.lots) :
    Calls Try.prog 60 #[.agg (ybA b P), .int .i64 (i : Int), .int .i64 (j : Int)] w fun e w' => e = .returned (.int .i64 (kindN (fun k => nearK b k i j))) ∧ Below w.heap.size w w' := by
  obtain ⟨pl, cl, pd, cd, pb, cb, ps, cs⟩ := P
  dsimp only at hL
  obtain ⟨W0, hW0⟩ : ∃ W, W = w.alloc (.cells (ybA b ⟨pl, cl, pd, cd, pb, cb, ps, cs⟩) 25) := ⟨_, rfl⟩
  have HW0 := Lib.hid hW0
  have HE := Lib.hid (show Below w.heap.size w W0 by rw [hW0]; exact below_alloc _ _)
  have HRx := Lib.hid (show Row W0 w.heap.size (ybA b ⟨pl, cl, pd, cd, pb, cb, ps, cs⟩) 25 by rw [hW0]; exact Row.new _ _ _)
  have n7 := hok.n7
  have h0 := hok.e0
  have h1 := hok.e1
  obtain ⟨bl, ol, hpl, x0, x1, _, _⟩ := (hL.below HE.out).at hi
  obtain ⟨bl', ol', hpl2, y0, y1, _, _⟩ := (hL.below HE.out).at hj
  subst hpl
  cases hpl2
  have HFA := Lib.hid (fun w' => refFar_any b ⟨some ⟨bl, ol, none⟩, cl, pd, cd, pb, cb, ps, cs⟩ (lotAt b i).sp.1 (lotAt b i).sp.2 (lotAt b j).sp.1 (lotAt b j).sp.2 (lotAt_sp hok hi) (lotAt_sp hok hj) h0 h1 w')
  have hk1 : nearK b true i j = decide (farHi b.err ((lotAt b i).sp.1, (lotAt b i).sp.2) ((lotAt b j).sp.1, (lotAt b j).sp.2) < b.apart) := rfl
  have hk2 : nearK b false i j = decide (farLo b.err ((lotAt b i).sp.1, (lotAt b i).sp.2) ((lotAt b j).sp.1, (lotAt b j).sp.2) < b.apart) := rfl
  have hle : farLo b.err ((lotAt b i).sp.1, (lotAt b i).sp.2) ((lotAt b j).sp.1, (lotAt b j).sp.2) ≤ farHi b.err ((lotAt b i).sp.1, (lotAt b i).sp.2) ((lotAt b j).sp.1, (lotAt b j).sp.2) := by
    have := told_nn ((lotAt b i).sp.1, (lotAt b i).sp.2) ((lotAt b j).sp.1, (lotAt b j).sp.2)
    unfold farLo farHi
    omega
  have hkk := kindN_as (fun k => nearK b k i j) _ _ hk2 hk1
  obtain ⟨lo, hlo⟩ : ∃ t, farLo b.err ((lotAt b i).sp.1, (lotAt b i).sp.2) ((lotAt b j).sp.1, (lotAt b j).sp.2) = t := ⟨_, rfl⟩
  obtain ⟨hv, hhv⟩ : ∃ t, farHi b.err ((lotAt b i).sp.1, (lotAt b i).sp.2) ((lotAt b j).sp.1, (lotAt b j).sp.2) = t := ⟨_, rfl⟩
  rw [hlo, hhv] at HFA hle hkk
  obtain ⟨kd, hkd⟩ : ∃ t, kindN (fun k => nearK b k i j) = t := ⟨_, rfl⟩
  rw [hkd] at hkk ⊢
  have HKK := Lib.hid hkk
  clear hlo hhv hk1 hk2 hkd hkk hW0 hL
  generalize (lotAt b i).sp.1 = s0 at *
  generalize (lotAt b i).sp.2 = s1 at *
  generalize (lotAt b j).sp.1 = t0 at *
  generalize (lotAt b j).sp.2 = t1 at *
  have z1 : (0 : Int) ≤ (i : Int) := by omega
  have z2 : (i : Int) < (b.lots.length : Int) := by omega
  have z3 : (0 : Int) ≤ (j : Int) := by omega
  have z4 : (j : Int) < (b.lots.length : Int) := by omega
  have z5 : (b.lots.length : Int) ≤ 7 := by omega
  have g4 := HRx.out.cell 4 (v := .int .i64 b.apart) rfl
  go_enter Try.func60, Try.ntmps60
  go_upto_region 1 with (fail)
  rw [← HW0.out]
  go_cut [7] from 8 to 21 (fun a7 wx => ∃ g, a7 = .pointer (some ⟨g, 0, none⟩) ∧ Row wx g #[.int .i64 lo, .int .i64 hv] 40 ∧ Below W0.heap.size W0 wx)
  case first =>
    have HSV := Lib.hid (fun w' (h : Below W0.heap.size W0 w') => (⟨HRx.out.below h HRx.out.lt, ((bcell h).1 _ _ (cell_block x0)).trans x0, ((bcell h).1 _ _ (cell_block x1)).trans x1, ((bcell h).1 _ _ (cell_block y0)).trans y0, ((bcell h).1 _ _ (cell_block y1)).trans y1⟩ : (fun w' => Row w' w.heap.size (ybA b ⟨some ⟨bl, ol, none⟩, cl, pd, cd, pb, cb, ps, cs⟩) 25 ∧ w'.cell? ⟨bl, ol + i * 4, none⟩ = some (.int .i64 s0) ∧ w'.cell? ⟨bl, ol + i * 4 + 1, none⟩ = some (.int .i64 s1) ∧ w'.cell? ⟨bl, ol + j * 4, none⟩ = some (.int .i64 t0) ∧ w'.cell? ⟨bl, ol + j * 4 + 1, none⟩ = some (.int .i64 t1)) w'))
    refine wp_region_late (S := fun w' => Row w' w.heap.size (ybA b ⟨some ⟨bl, ol, none⟩, cl, pd, cd, pb, cb, ps, cs⟩) 25 ∧ w'.cell? ⟨bl, ol + i * 4, none⟩ = some (.int .i64 s0) ∧ w'.cell? ⟨bl, ol + i * 4 + 1, none⟩ = some (.int .i64 s1) ∧ w'.cell? ⟨bl, ol + j * 4, none⟩ = some (.int .i64 t0) ∧ w'.cell? ⟨bl, ol + j * 4 + 1, none⟩ = some (.int .i64 t1)) 15 (by kernel_rfl) (by kernel_rfl) (by kernel_rfl) (by kernel_rfl) (by rfl) (HSV.out _ (Below.refl W0.heap.size W0).drew) (fun hH => ?_)
    have KC := Lib.hid (Below.refl W0.heap.size W0).drew
    simp only [List.take_succ_cons, List.take_zero, List.drop_succ_cons, List.drop_zero, idled, List.map_cons, List.map_nil, idleOp, List.cons_append, List.nil_append, List.size_toArray, List.length_cons, List.length_nil, Nat.reduceAdd]
    obtain ⟨c0, hc0⟩ : ∃ z, W0.drew = z := ⟨_, rfl⟩
    rw [hc0] at hH KC ⊢
    clear hc0
    refine wpAnyH_take_to 0 8 (.agg (ybA b ⟨some ⟨bl, ol, none⟩, cl, pd, cd, pb, cb, ps, cs⟩)) rfl rfl (by kernel_rfl) (by kernel_rfl) (by kernel_rfl) (fun _ _ _ h => h) (yields_row (by rfl) 25 _ rfl (w.heap.size) rfl 25 (ybA b ⟨some ⟨bl, ol, none⟩, cl, pd, cd, pb, cb, ps, cs⟩) _ (fun _ h => h.1) Try.underlying25 rfl (by kernel_rfl)) hH ?_
    refine wpAnyH_take_to 1 9 (.pointer (some ⟨w.heap.size, 0, none⟩)) rfl rfl (by kernel_rfl) (by kernel_rfl) (by kernel_rfl) (fun _ _ _ h => h) (Or.inl ⟨by rfl, fun w' hSw => by (obtain ⟨q0, q1, q2, q3, q4⟩ := hSw; have e0 := q0.cell 0 (v := .slice (some ⟨bl, ol, none⟩) b.lots.length cl) rfl; go_simp)⟩) hH ?_
    refine wpAnyH_take_to 2 10 (.slice (some ⟨bl, ol, none⟩) b.lots.length cl) rfl rfl (by kernel_rfl) (by kernel_rfl) (by kernel_rfl) (fun _ _ _ h => h) (Or.inl ⟨by rfl, fun w' hSw => by (obtain ⟨q0, q1, q2, q3, q4⟩ := hSw; have e0 := q0.cell 0 (v := .slice (some ⟨bl, ol, none⟩) b.lots.length cl) rfl; go_simp)⟩) hH ?_
    refine wpAnyH_take_to 3 11 (.int .i64 (i : Int)) rfl rfl (by kernel_rfl) (by kernel_rfl) (by kernel_rfl) (fun _ _ _ h => h) (Or.inl ⟨by rfl, fun w' hSw => by (obtain ⟨q0, q1, q2, q3, q4⟩ := hSw; have e0 := q0.cell 0 (v := .slice (some ⟨bl, ol, none⟩) b.lots.length cl) rfl; go_simp)⟩) hH ?_
    refine wpAnyH_take_to 4 12 (.pointer (some ⟨bl, ol + i * 4, none⟩)) rfl rfl (by kernel_rfl) (by kernel_rfl) (by kernel_rfl) (fun _ _ _ h => h) (Or.inl ⟨by rfl, fun w' hSw => by (obtain ⟨q0, q1, q2, q3, q4⟩ := hSw; have e0 := q0.cell 0 (v := .slice (some ⟨bl, ol, none⟩) b.lots.length cl) rfl; go_simp)⟩) hH ?_
    refine wpAnyH_take_to 5 13 (.pointer (some ⟨bl, ol + i * 4, none⟩)) rfl rfl (by kernel_rfl) (by kernel_rfl) (by kernel_rfl) (fun _ _ _ h => h) (Or.inl ⟨by rfl, fun w' hSw => by (obtain ⟨q0, q1, q2, q3, q4⟩ := hSw; have e0 := q0.cell 0 (v := .slice (some ⟨bl, ol, none⟩) b.lots.length cl) rfl; go_simp)⟩) hH ?_
    refine wpAnyH_take_to 6 14 (.agg #[.int .i64 s0, .int .i64 s1]) rfl rfl (by kernel_rfl) (by kernel_rfl) (by kernel_rfl) (fun _ _ _ h => h) (Or.inl ⟨by rfl, fun w' hSw => by (obtain ⟨q0, q1, q2, q3, q4⟩ := hSw; have e0 := q0.cell 0 (v := .slice (some ⟨bl, ol, none⟩) b.lots.length cl) rfl; go_simp)⟩) hH ?_
    refine wpAnyH_take_to 7 15 (.pointer (some ⟨w.heap.size, 0, none⟩)) rfl rfl (by kernel_rfl) (by kernel_rfl) (by kernel_rfl) (fun _ _ _ h => h) (Or.inl ⟨by rfl, fun w' hSw => by (obtain ⟨q0, q1, q2, q3, q4⟩ := hSw; have e0 := q0.cell 0 (v := .slice (some ⟨bl, ol, none⟩) b.lots.length cl) rfl; go_simp)⟩) hH ?_
    refine wpAnyH_take_to 8 16 (.slice (some ⟨bl, ol, none⟩) b.lots.length cl) rfl rfl (by kernel_rfl) (by kernel_rfl) (by kernel_rfl) (fun _ _ _ h => h) (Or.inl ⟨by rfl, fun w' hSw => by (obtain ⟨q0, q1, q2, q3, q4⟩ := hSw; have e0 := q0.cell 0 (v := .slice (some ⟨bl, ol, none⟩) b.lots.length cl) rfl; go_simp)⟩) hH ?_
    refine wpAnyH_take_to 9 17 (.int .i64 (j : Int)) rfl rfl (by kernel_rfl) (by kernel_rfl) (by kernel_rfl) (fun _ _ _ h => h) (Or.inl ⟨by rfl, fun w' hSw => by (obtain ⟨q0, q1, q2, q3, q4⟩ := hSw; have e0 := q0.cell 0 (v := .slice (some ⟨bl, ol, none⟩) b.lots.length cl) rfl; go_simp)⟩) hH ?_
    refine wpAnyH_take_to 10 18 (.pointer (some ⟨bl, ol + j * 4, none⟩)) rfl rfl (by kernel_rfl) (by kernel_rfl) (by kernel_rfl) (fun _ _ _ h => h) (Or.inl ⟨by rfl, fun w' hSw => by (obtain ⟨q0, q1, q2, q3, q4⟩ := hSw; have e0 := q0.cell 0 (v := .slice (some ⟨bl, ol, none⟩) b.lots.length cl) rfl; go_simp)⟩) hH ?_
    refine wpAnyH_take_to 11 19 (.pointer (some ⟨bl, ol + j * 4, none⟩)) rfl rfl (by kernel_rfl) (by kernel_rfl) (by kernel_rfl) (fun _ _ _ h => h) (Or.inl ⟨by rfl, fun w' hSw => by (obtain ⟨q0, q1, q2, q3, q4⟩ := hSw; have e0 := q0.cell 0 (v := .slice (some ⟨bl, ol, none⟩) b.lots.length cl) rfl; go_simp)⟩) hH ?_
    refine wpAnyH_take_to 12 20 (.agg #[.int .i64 t0, .int .i64 t1]) rfl rfl (by kernel_rfl) (by kernel_rfl) (by kernel_rfl) (fun _ _ _ h => h) (Or.inl ⟨by rfl, fun w' hSw => by (obtain ⟨q0, q1, q2, q3, q4⟩ := hSw; have e0 := q0.cell 0 (v := .slice (some ⟨bl, ol, none⟩) b.lots.length cl) rfl; go_simp)⟩) hH ?_
    try simp only [Act.put, List.setIfInBounds_toArray, List.set_cons_succ, List.set_cons_zero]
    refine wpAnyH_ready (rs := [13, 14]) (by kernel_rfl) (by simp) (AllReadyH.cons rfl (fun K hK => ?_) (AllReadyH.cons rfl (fun K hK => ?_) (AllReadyH.nil)))
    · go_simp
      refine (HFA.out c0).mono ?_
      rintro e c1 ⟨rfl, hbu⟩
      have KC := Lib.hid (KC.out.trans (hbu.mono KC.out.size))
      clear hbu
      refine hK.out _ _ (HSV.out _ KC.out) (fun hH => ?_)
      clear hK K
      try simp only [Act.put, List.setIfInBounds_toArray, List.set_cons_succ, List.set_cons_zero]
      refine wpAnyH_ready (rs := [14]) (by kernel_rfl) (by simp) (AllReadyH.cons rfl (fun K hK => ?_) (AllReadyH.nil))
      go_simp
      have hbu := below_alloc c1 (.cells #[.int .i64 0, .int .i64 0] 40)
      have HG := Lib.hid (Row.new c1 #[.int .i64 0, .int .i64 0] 40)
      have hgz := KC.out.size
      have KC := Lib.hid (KC.out.trans (hbu.mono KC.out.size))
      obtain ⟨c2, hnw⟩ : ∃ z, c1.alloc (.cells #[.int .i64 0, .int .i64 0] 40) = z := ⟨_, rfl⟩
      obtain ⟨gp, hgp⟩ : ∃ n, c1.heap.size = n := ⟨_, rfl⟩
      rw [hnw] at HG KC ⊢
      rw [hgp] at HG hgz ⊢
      clear hnw hbu hgp
      refine hK.out _ _ (HSV.out _ KC.out) (fun hH => ?_)
      clear hK K
      try simp only [Act.put, List.setIfInBounds_toArray, List.set_cons_succ, List.set_cons_zero]
      refine wpAnyH_take (i := 15) (v := undef) rfl (by kernel_rfl) (by kernel_rfl) (by kernel_rfl) (fun _ _ _ h => h) (Or.inl ⟨by rfl, fun _ _ => by rfl⟩) hH ?_
      refine wpAnyH_done (by kernel_rfl) ?_ _
      refine (id (α := wpList _ _ _ _ _ _) ?_)
      simp only [Act.put]
      go_wp2_with (first
        | (refine store_row rfl 40 _ _ rfl gp #[.int .i64 (lo), .int .i64 (hv)] #[.int .i64 0, .int .i64 0] 40 rfl rfl HG.out (by kernel_rfl) rfl (by simp [Value.oneCell']) ?_))
      go_meet
      exact ⟨gp, rfl, HG.out.setRow _, below_setRow' KC.out hgz _⟩
    · go_simp
      have hbu := below_alloc c0 (.cells #[.int .i64 0, .int .i64 0] 40)
      have HG := Lib.hid (Row.new c0 #[.int .i64 0, .int .i64 0] 40)
      have hgz := KC.out.size
      have KC := Lib.hid (KC.out.trans (hbu.mono KC.out.size))
      obtain ⟨c1, hnw⟩ : ∃ z, c0.alloc (.cells #[.int .i64 0, .int .i64 0] 40) = z := ⟨_, rfl⟩
      obtain ⟨gp, hgp⟩ : ∃ n, c0.heap.size = n := ⟨_, rfl⟩
      rw [hnw] at HG KC ⊢
      rw [hgp] at HG hgz ⊢
      clear hnw hbu hgp
      refine hK.out _ _ (HSV.out _ KC.out) (fun hH => ?_)
      clear hK K
      try simp only [Act.put, List.setIfInBounds_toArray, List.set_cons_succ, List.set_cons_zero]
      refine wpAnyH_ready (rs := [13]) (by kernel_rfl) (by simp) (AllReadyH.cons rfl (fun K hK => ?_) (AllReadyH.nil))
      go_simp
      refine (HFA.out c1).mono ?_
      rintro e c2 ⟨rfl, hbu⟩
      have HG := Lib.hid (HG.out.below hbu HG.out.lt)
      have KC := Lib.hid (KC.out.trans (hbu.mono KC.out.size))
      clear hbu
      refine hK.out _ _ (HSV.out _ KC.out) (fun hH => ?_)
      clear hK K
      try simp only [Act.put, List.setIfInBounds_toArray, List.set_cons_succ, List.set_cons_zero]
      refine wpAnyH_take (i := 15) (v := undef) rfl (by kernel_rfl) (by kernel_rfl) (by kernel_rfl) (fun _ _ _ h => h) (Or.inl ⟨by rfl, fun _ _ => by rfl⟩) hH ?_
      refine wpAnyH_done (by kernel_rfl) ?_ _
      refine (id (α := wpList _ _ _ _ _ _) ?_)
      simp only [Act.put]
      go_wp2_with (first
        | (refine store_row rfl 40 _ _ rfl gp #[.int .i64 (lo), .int .i64 (hv)] #[.int .i64 0, .int .i64 0] 40 rfl rfl HG.out (by kernel_rfl) rfl (by simp [Value.oneCell']) ?_))
      go_meet
      exact ⟨gp, rfl, HG.out.setRow _, below_setRow' KC.out hgz _⟩
  case rest =>
    obtain ⟨g, rfl, hr, hb⟩ := hcut
    obtain ⟨z, hz⟩ := later_of hb
    subst hz
    have c0 := hr.cell 0 (v := .int .i64 lo) rfl
    have c1 := hr.cell 1 (v := .int .i64 hv) rfl
    clear hr hb
    by_cases h2 : hv < b.apart
    · have h3 : lo < b.apart := by omega
      have hk : kd = 2 := by rw [HKK.out, decide_eq_true h2, decide_eq_true h3]; rfl
      have HK := Lib.hid hk
      clear hk HKK
      go_wp2_with fail
      go_ret
      exact ⟨by rw [HK.out]; rfl, z.base HE.out⟩
    · have h2' := eq_false h2
      by_cases h3 : lo < b.apart
      · have hk : kd = 1 := by rw [HKK.out, decide_eq_false h2, decide_eq_true h3]; rfl
        have HK := Lib.hid hk
        clear hk HKK
        go_wp2_with fail
        go_ret
        exact ⟨by rw [HK.out]; rfl, z.base HE.out⟩
      · have h3' := eq_false h3
        have hk : kd = 0 := by rw [HKK.out, decide_eq_false h2, decide_eq_false h3]; rfl
        have HK := Lib.hid hk
        clear hk HKK
        go_wp2_with fail
        go_ret
        exact ⟨by rw [HK.out]; rfl, z.base HE.out⟩
end Go.Proofs.Ytajkgfeockcbpaa
