/- The law YardTrue. -/
import Derived.Test.YtajkgfeockcbpaaY45
import Derived.Test.YtajkgfeockcbpaaY46
namespace Go.Proofs.Ytajkgfeockcbpaa
open Go.RowKit Go.Maps
attribute [local go_sem] Oper.semAt_some

/-- The best choice is returned. -/
def GaveBest (f : Nat → Bool) (w : World) (e : Ending) (w' : World) : Prop := ∃ q cq, e = .returned (.tuple #[.slice q (intsN (lotsL f)).length cq, .int .i64 0]) ∧ IntsAt w' q (intsN (lotsL f)) ∧ Below w.heap.size w w'
theorem best_good {b : Yb} {P : Yp} {w : World} (hb : yardB b = true) (h : YbAt w P b) : Calls Try.prog 23 #[.agg (ybA b P)] w (GaveBest (bestK b false) w) := by
  refine (best_api b P w h).mono ?_
  rintro e w' ⟨hbw, hr⟩
  rcases hr with ⟨h1, _⟩ | ⟨_, q, cq, rfl, hi⟩
  · rw [hb] at h1; cases h1
  · exact ⟨q, cq, rfl, hi, hbw⟩
theorem goods_good {b : Yb} {P : Yp} {w : World} (hb : yardB b = true) (h : YbAt w P b) : Calls Try.prog 26 #[.agg (ybA b P)] w fun e w' => e = .returned (.tuple #[.agg #[.int .i64 (topK b false), .int .i64 (topK b true)], .int .i64 0]) ∧ Below w.heap.size w w' := by
  have q := goods_api b P w h
  unfold goodsV at q
  rw [hb] at q
  exact q
theorem allowed_good {b : Yb} {P : Yp} {w : World} (hb : yardB b = true) {f : Nat → Bool} (hf : ∀ i, f i = true → i < b.lots.length) {q : Option Addr} {cq : Nat} (h : YbAt w P b) (hi : IntsAt w q (intsN (lotsL f))) :
    Calls Try.prog 20 #[.agg (ybA b P), .slice q (intsN (lotsL f)).length cq] w fun e w' => e = .returned (.tuple #[.int .i64 (kindN (fun k => allowK b k f)), .int .i64 0]) ∧ Below w.heap.size w w' := by
  have hl := lotsL_le f
  have r := allowed_api b P q cq (intsN (lotsL f)) (by rw [intsN_len]; omega) w h hi
  unfold allowA at r
  rw [hb, readL_told (yardB_ok hb).n7 f hf] at r
  exact r
theorem true_ways {b : Yb} (h0 : 0 ≤ b.err) (f : Nat → Bool) (xs : List Int) : (kindN (fun k => allowK b k f) = 2 ∧ heldV b (lotsL f) xs = true) ∨ (kindN (fun k => allowK b k f) = 1 ∧ heldV b (lotsL f) xs = true) ∨ (kindN (fun k => allowK b k f) = 1 ∧ heldV b (lotsL f) xs = false) ∨ (kindN (fun k => allowK b k f) = 0 ∧ heldV b (lotsL f) xs = false) := by
  rw [allow_kind h0]
  cases h1 : allowK b false f
  · cases h2 : allowK b true f
    · cases h3 : heldV b (lotsL f) xs
      · simp
      · rw [held_kind h0 h3] at h2; cases h2
    · cases h3 : heldV b (lotsL f) xs <;> simp
  · rw [held_worst h0 xs h1]
    simp
set_option maxRecDepth 100000 in
set_option maxHeartbeats 6400000 in
theorem YardTrue_any (b : Yb) (P : Yp) (set : Int) (p : Option Addr) (c : Nat) (xs : List Int) (w : World) (hB : YbAt w P b) (hn : xs.length ≤ maxLen) (hI : IntsAt w p xs) :
    Calls Try.prog 6 #[.agg (ybA b P), .int .i64 set, .slice p xs.length c] w fun e w' => e = .returned (.bool true) ∧ Below w.heap.size w w' := by
  obtain ⟨pl, cl, pd, cd, pb, cb, ps, cs⟩ := P
  obtain ⟨W0, hW0⟩ : ∃ W, W = w.alloc (.cells (ybA b ⟨pl, cl, pd, cd, pb, cb, ps, cs⟩) 25) := ⟨_, rfl⟩
  have HW0 := Lib.hid hW0
  have HE := Lib.hid (show Below w.heap.size w W0 by rw [hW0]; exact below_alloc _ _)
  have HRx := Lib.hid (show Row W0 w.heap.size (ybA b ⟨pl, cl, pd, cd, pb, cb, ps, cs⟩) 25 by rw [hW0]; exact Row.new _ _ _)
  have HB := Lib.hid (hB.below HE.out)
  have hn61 := hB.n1
  clear hW0 hB
  cases hb : yardB b
  · have HSO := Lib.hid (sound_no b ⟨pl, cl, pd, cd, pb, cb, ps, cs⟩ W0 HB.out hb)
    clear hb
    go_enter Try.func6, Try.ntmps6
    go_upto_region 1 with (fail)
    rw [← HW0.out]
    go_wp2_with (first
      | (refine load_row rfl 25 _ rfl w.heap.size rfl 25 _ _ HRx.out Try.underlying25 rfl (by kernel_rfl) ?_)
      | (go_at_call 37; (with_reducible refine HSO.out.mono ?_); rintro e u ⟨rfl, hbu⟩; have HU := Lib.hid (HE.out.trans (hbu.mono HE.out.size)); clear hbu)
      | (go_at_call 22; (with_reducible refine (stacked_any _).mono ?_); rintro e v ⟨rfl, hbu⟩; have HV := Lib.hid (HU.out.trans (hbu.mono HU.out.size)); clear hbu))
    go_ret
    exact ⟨rfl, HV.out⟩
  have HSO := Lib.hid (sound_yes b ⟨pl, cl, pd, cd, pb, cb, ps, cs⟩ W0 HB.out hb)
  have HOK := Lib.hid (yardB_ok hb)
  have HBB := Lib.hid hb
  have hok := HOK.out
  have hL1 := hok.n1
  have hL7 := hok.n7
  have he0 := hok.e0
  have g0 := HRx.out.cell 0 (v := .slice pl b.lots.length cl) rfl
  have g1 := HRx.out.cell 1 (v := .slice pd b.doors.length cd) rfl
  have g2 := HRx.out.cell 2 (v := .slice pb b.buckets.length cb) rfl
  have g3 := HRx.out.cell 3 (v := .slice ps b.spare.length cs) rfl
  have g4 := HRx.out.cell 4 (v := .int .i64 b.apart) rfl
  have g5 := HRx.out.cell 5 (v := .int .i64 b.door) rfl
  have g6 := HRx.out.cell 6 (v := .int .i64 b.bucket) rfl
  have g7 := HRx.out.cell 7 (v := .int .i64 b.err) rfl
  have HXS := Lib.hid (hI.below HE.out)
  have hbest := (bestK_is (b := b) false hL7).1
  have htop := top_ends hok
  have hHB := held_worst he0 xs hbest.2
  have hSB := (stock_in hok xs hbest.1).1
  have hSB : topK b false ≤ stockV b xs (lotsL (bestK b false)) := hSB
  have hmlt : ∀ i, drawnF b set i = true → i < b.lots.length := fun i h => drawnF_lt h
  have hways := true_ways he0 (drawnF b set) xs
  have hSM : heldV b (lotsL (drawnF b set)) xs = true → stockV b xs (lotsL (drawnF b set)) ≤ topK b true := fun h => Int.le_trans (stock_in hok xs hmlt).2 (top_is true hL7 hmlt (held_kind he0 h))
  have HBE := Lib.hid (fun w' (h : Below W0.heap.size W0 w') => best_good HBB.out (HB.out.below h))
  have HGO := Lib.hid (fun w' (h : Below W0.heap.size W0 w') => goods_good HBB.out (HB.out.below h))
  have HDR := Lib.hid (fun w' => drawn_any b ⟨pl, cl, pd, cd, pb, cb, ps, cs⟩ hL7 set w')
  have HAL := Lib.hid (fun q cq w' (h : Below W0.heap.size W0 w') hi => allowed_good (q := q) (cq := cq) HBB.out hmlt (HB.out.below h) hi)
  have HHM := Lib.hid (fun q cq w' (h : Below W0.heap.size W0 w') hi => held_any b ⟨pl, cl, pd, cd, pb, cb, ps, cs⟩ hok (lotsL (drawnF b set)) (lotsL_le _) (fun x hx => hmlt x (lotsL_mem.1 hx).2) q cq p c xs hn w' (HB.out.below h) hi (HXS.out.below h))
  have HSK := Lib.hid (fun q cq w' (h : Below W0.heap.size W0 w') hi => stock_any b ⟨pl, cl, pd, cd, pb, cb, ps, cs⟩ hok (lotsL (drawnF b set)) (lotsL_le _) (fun x hx => hmlt x (lotsL_mem.1 hx).2) q cq p c xs hn w' (HB.out.below h) hi (HXS.out.below h))
  have HHL := Lib.hid (fun q cq w' (h : Below W0.heap.size W0 w') hi => (by have r := held_any b ⟨pl, cl, pd, cd, pb, cb, ps, cs⟩ hok (lotsL (bestK b false)) (lotsL_le _) (fun x hx => hbest.1 x (lotsL_mem.1 hx).2) q cq p c xs hn w' (HB.out.below h) hi (HXS.out.below h); rw [hHB] at r; exact r))
  have HSL := Lib.hid (fun q cq w' (h : Below W0.heap.size W0 w') hi => stock_any b ⟨pl, cl, pd, cd, pb, cb, ps, cs⟩ hok (lotsL (bestK b false)) (lotsL_le _) (fun x hx => hbest.1 x (lotsL_mem.1 hx).2) q cq p c xs hn w' (HB.out.below h) hi (HXS.out.below h))
  have HGR := Lib.hid (fun q cq w' hi => Grows_any q cq (intsN (lotsL (bestK b false))) b.lots.length (by rw [intsN_len]; have := lotsL_le (bestK b false); omega) (by omega) w' hi (grown_lots hbest.1))
  obtain ⟨lo, hlo⟩ : ∃ v, topK b false = v := ⟨_, rfl⟩
  obtain ⟨hi, hhi⟩ : ∃ v, topK b true = v := ⟨_, rfl⟩
  rw [hlo] at HGO htop hSB
  rw [hhi] at HGO htop hSM
  have HVO := Lib.hid (fun w' => (by have r := Void_any lo hi w'; rw [show decide (hi < lo) = false by simp; omega] at r; exact r))
  obtain ⟨s1, hs1⟩ : ∃ v, stockV b xs (lotsL (bestK b false)) = v := ⟨_, rfl⟩
  rw [hs1] at HSL hSB
  have hSB' : ¬ s1 < lo := by omega
  obtain ⟨F, hF⟩ : ∃ v, bestK b false = v := ⟨_, rfl⟩
  obtain ⟨m, hm⟩ : ∃ v, drawnF b set = v := ⟨_, rfl⟩
  rw [hF] at HBE HHL HSL HGR
  rw [hm] at HDR HAL HHM HSK hways hSM
  obtain ⟨kd, hkd⟩ : ∃ v, kindN (fun k => allowK b k m) = v := ⟨_, rfl⟩
  obtain ⟨is, his⟩ : ∃ v, heldV b (lotsL m) xs = v := ⟨_, rfl⟩
  obtain ⟨s2, hs2⟩ : ∃ v, stockV b xs (lotsL m) = v := ⟨_, rfl⟩
  rw [hkd] at HAL hways
  rw [his] at HHM hways hSM
  rw [hs2] at HSK hSM
  have HWY := Lib.hid hways
  have HSM := Lib.hid hSM
  clear hbest hHB hmlt hways hSM hlo hhi hs1 hF hm hkd his hs2 hok hb hI hSB
  go_enter Try.func6, Try.ntmps6
  go_upto_region 1 with (fail)
  rw [← HW0.out]
  go_wp2_with (first
    | (go_at_call 37; (with_reducible refine HSO.out.mono ?_); rintro e u ⟨rfl, hbu⟩; obtain ⟨x0, hx0⟩ := later_of hbu; subst hx0; clear hbu)
    | (go_at_call 23; (with_reducible refine (HBE.out _ (Later.b _)).mono ?_); rintro e u ⟨q, cq, rfl, hi1, hbu⟩; have HIQ := Lib.hid hi1; obtain ⟨x1, hx1⟩ := x0.on hbu; subst hx1; clear hbu hi1)
    | (go_at_call 26; (with_reducible refine (HGO.out _ (Later.b _)).mono ?_); rintro e u ⟨rfl, hbu⟩; have HIQ := Lib.hid (HIQ.out.below hbu); obtain ⟨x2, hx2⟩ := x1.on hbu; subst hx2; clear hbu; have rS := Row.new x2.w #[.int .i64 lo, .int .i64 hi] 40; have HIQ := Lib.hid (HIQ.out.below (below_alloc x2.w (.cells #[.int .i64 lo, .int .i64 hi] 40))); obtain ⟨x3, hx3⟩ := x2.on (below_alloc x2.w (.cells #[.int .i64 lo, .int .i64 hi] 40)); rw [hx3] at rS HIQ; have HRS := Lib.hid rS; clear rS)
    | (refine store_new rfl 40 _ _ rfl #[.int .i64 lo, .int .i64 hi] #[.int .i64 0, .int .i64 0] 40 rfl rfl (by kernel_rfl) rfl (by simp [Value.oneCell']) ?_))
  obtain ⟨gS, hgS⟩ : ∃ n, x2.w.heap.size = n := ⟨_, rfl⟩
  rw [hgS] at HRS ⊢
  clear hgS
  have c0 := HRS.out.cell 0 (v := .int .i64 lo) rfl
  have c1 := HRS.out.cell 1 (v := .int .i64 hi) rfl
  have HG5 := Lib.hid (fun w' (h : Below x3.w.heap.size x3.w w') => HGR.out q cq w' (HIQ.out.below h))
  have HH5 := Lib.hid (fun w' (h : Below x3.w.heap.size x3.w w') => HHL.out q cq w' (x3.b.trans (h.mono x3.b.size)) (HIQ.out.below h))
  have HS5 := Lib.hid (fun w' (h : Below x3.w.heap.size x3.w w') => HSL.out q cq w' (x3.b.trans (h.mono x3.b.size)) (HIQ.out.below h))
  refine wp_region_later (by kernel_rfl) (by kernel_rfl) ?_
  repeat (go_big_quiet_step (first
    | (go_at_call 38; with_reducible exact Calls.later_of (HG5.out _ (Later.b _)))
    | (go_at_call 39; with_reducible exact Calls.later_of (HVO.out _))
    | (go_at_call 40; with_reducible exact Calls.later_of (HH5.out _ (Later.b _)))
    | (go_at_call 41; with_reducible exact Calls.later_of (HS5.out _ (Later.b _)))))
  refine wpQuiet_nil ?_
  intro _ hw'
  obtain ⟨y, hw''⟩ := hw'
  subst hw''
  have HRS := Lib.hid (HRS.out.below y.b HRS.out.lt)
  obtain ⟨x4, hx4⟩ := x3.up y
  rw [hx4] at HRS ⊢
  clear hx4 c0 c1
  go_wp2_with (first
    | (go_at_call 42; (with_reducible refine (HDR.out _).mono ?_); rintro e u ⟨qm, cqm, rfl, hi1, hbu⟩; have HIM := Lib.hid hi1; have HRS := Lib.hid (HRS.out.below hbu HRS.out.lt); obtain ⟨x5, hx5⟩ := x4.on hbu; subst hx5; clear hbu hi1)
    | (go_at_call 20; (with_reducible refine (HAL.out _ _ _ (Later.b _) HIM.out).mono ?_); rintro e u ⟨rfl, hbu⟩; have HIM := Lib.hid (HIM.out.below hbu); have HRS := Lib.hid (HRS.out.below hbu HRS.out.lt); obtain ⟨x6, hx6⟩ := x5.on hbu; subst hx6; clear hbu)
    | (go_at_call 40; (with_reducible refine (HHM.out _ _ _ (Later.b _) HIM.out).mono ?_); rintro e u ⟨rfl, hbu⟩; have HIM := Lib.hid (HIM.out.below hbu); have HRS := Lib.hid (HRS.out.below hbu HRS.out.lt); obtain ⟨x7, hx7⟩ := x6.on hbu; subst hx7; clear hbu))
  have c0 := HRS.out.cell 0 (v := .int .i64 lo) rfl
  have c1 := HRS.out.cell 1 (v := .int .i64 hi) rfl
  have HS7 := Lib.hid (fun w' (h : Below x7.w.heap.size x7.w w') => HSK.out qm cqm w' (x7.b.trans (h.mono x7.b.size)) (HIM.out.below h))
  have hk2 : 0 ≤ kd ∧ kd ≤ 2 := by
    rcases HWY.out with ⟨rfl, _⟩ | ⟨rfl, _⟩ | ⟨rfl, _⟩ | ⟨rfl, _⟩ <;> omega
  have HFI := Lib.hid (fun w' => Fits_yes kd 0 2 w' hk2.1 hk2.2)
  have hle : is = true → s2 ≤ hi := HSM.out
  clear hk2
  rcases HWY.out with ⟨rfl, rfl⟩ | ⟨rfl, rfl⟩ | ⟨rfl, rfl⟩ | ⟨rfl, rfl⟩
  all_goals
    clear HWY HSM
    simp only [forall_const, Bool.false_eq_true, false_implies] at hle
    refine wp_region_later (by kernel_rfl) (by kernel_rfl) ?_
    repeat (go_big_quiet_step (first
      | (go_at_call 43; with_reducible exact Calls.later_same (HFI.out _))
      | (go_at_call 41; with_reducible exact Calls.later_of (HS7.out _ (Later.b _)))
      | (go_at_call 22; with_reducible exact Calls.later_of (stacked_any _))))
    refine wpQuiet_nil ?_
    intro _ hw'
    obtain ⟨y, hw''⟩ := hw'
    subst hw''
    go_wp2_with fail
    go_ret
    exact ⟨rfl, (x7.base HE.out).trans (y.b.mono (x7.base HE.out).size)⟩
end Go.Proofs.Ytajkgfeockcbpaa
