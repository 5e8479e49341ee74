/- The walks of layer 5: how many splints are given more than the labels promise. -/
import Derived.Test.YtgdidhbomdfcpaaF26
import Derived.IntWalk
namespace Go.Proofs.Ytgdidhbomdfcpaa
open Go.RowKit Go.Maps
attribute [local go_sem] Oper.semAt_some

theorem From.setN {W w : World} (h : From W w) {g : Nat} (hg : W.heap.size ≤ g) (i : Nat) (v : Value) : From W (w.setCell ⟨g, i, none⟩ v) := ⟨h.b.setCell hg v⟩
/-- How many splints are given more than the labels promise, at an end. -/
def overV (f : Hd → Int) (b : Bf) (l : List Int) : Int := sumF f (rightL b l) - b.pr * ((rightL b l).length : Int)
theorem right_mem {b : Bf} (hok : BfOk b) {l : List Int} (hp : planB b l = true) : (rightL b l).length ≤ 8 ∧ ∀ x ∈ rightL b l, (0 ≤ x.lo ∧ x.lo ≤ 100000) ∧ (0 ≤ x.hi ∧ x.hi ≤ 100000) := by
  have hl := plan_len hp
  have hc := count_to b l l.length
  refine ⟨by unfold rightL; have := hok.n8; omega, fun x hx => ?_⟩
  unfold rightL rightTo at hx
  obtain ⟨i, hi, rfl⟩ := List.mem_map.1 hx
  have key : ∀ f : Hd → Int, (∀ h ∈ b.hs, 0 ≤ f h ∧ f h ≤ 200) → ∀ x y : Nat, 0 ≤ sumF f (partL b.hs x y) ∧ sumF f (partL b.hs x y) ≤ 100000 := by
    intro f hf x y
    have h1 := sumF_range (f := f) (hs := partL b.hs x y) (B := 200) (by omega) (fun h hh => hf h (partL_mem hh))
    have h2 : (partL b.hs x y).length ≤ b.hs.length := by unfold partL; simp; omega
    have := hok.n8
    omega
  exact ⟨key Hd.lo (fun h hh => by have := hok.h h hh; have := this.l0; have := (hok.h h hh).l1; have := (hok.h h hh).l2; omega) _ _, key Hd.hi (fun h hh => by have := (hok.h h hh).l0; have := (hok.h h hh).l1; have := (hok.h h hh).l2; omega) _ _⟩

set_option maxRecDepth 10000 in
set_option maxHeartbeats 1600000 in
theorem Over_bad (b : Bf) (p : Option Addr) (c : Nat) (q : Option Addr) (cq : Nat) (l : List Int) (w : World) (hB : BfAt w p c b) (hb : bookB b = false) :
    Calls Try.prog 29 #[.agg (bfA b p c), .slice q l.length cq] w fun e w' => e = .returned (.tuple #[.agg #[.int .i64 0, .int .i64 0], .int .i64 50]) ∧ Below w.heap.size w w' := by
  obtain ⟨W0, hW0⟩ : ∃ W, W = ((w.alloc (.cells (bfA b p c) 24)).alloc (.cells #[.int .i64 0, .int .i64 0] 27)) := ⟨_, rfl⟩
  have HW0 := Lib.hid hW0
  have HE := Lib.hid (show Below w.heap.size w W0 by rw [hW0]; exact below_alloc2 _ _ _)
  have HR := Lib.hid (show Row W0 w.heap.size (bfA b p c) 24 by rw [hW0]; exact (Row.new w _ _).alloc _)
  have HQ := Lib.hid (show Row W0 (w.heap.size + 1) #[.int .i64 0, .int .i64 0] 27 by rw [hW0]; exact Row.new1 w _ _ _)
  have HB := Lib.hid hB
  have HC := Lib.hid (follow_bad b p c q cq l W0 (hB.below HE.out) hb)
  have hzq := HQ.out.lt
  have g0 := HR.out.cell 0 (v := .int .i64 b.pr) rfl
  have g1 := HR.out.cell 1 (v := .int .i64 b.le) rfl
  have g2 := HR.out.cell 2 (v := .int .i64 b.mo) rfl
  have g3 := HR.out.cell 3 (v := .int .i64 b.gr) rfl
  have g4 := HR.out.cell 4 (v := .slice p b.hs.length c) rfl
  clear hW0 hB hb
  go_enter Try.func29, Try.ntmps29
  go_wp2_with fail
  rw [← HW0.out]
  refine HC.out.mono ?_
  rintro e u ⟨rfl, hbu⟩
  obtain ⟨z0, rfl⟩ := later_of hbu
  clear hbu
  obtain ⟨z, hz⟩ := z0.on (below_alloc z0.w (.cells noOut 90))
  have HZ := Lib.hid hz
  clear hz
  go_upto_region 3 with (fail)
  rw [HZ.out]
  have HQ := Lib.hid (z.fr.row HQ.out)
  have HE := Lib.hid (z.base HE.out)
  have c0 := HQ.out.cell 0 (v := .int .i64 0) rfl
  have f0 := HQ.out.free 0
  have c1 := HQ.out.cell 1 (v := .int .i64 0) rfl
  have f1 := HQ.out.free 1
  go_wp2_with fail
  clear c0 f0 c1 f1
  have qq := ((HQ.out.set 0 (.int .i64 0)).set 1 (.int .i64 0))
  have e0 := qq.cell 0 (v := .int .i64 0) rfl
  have e1 := qq.cell 1 (v := .int .i64 0) rfl
  have HEE := Lib.hid (show Below w.heap.size w ((z.w.setCell ⟨w.heap.size + 1, 0, none⟩ (.int .i64 0)).setCell ⟨w.heap.size + 1, 1, none⟩ (.int .i64 0)) from ((HE.out.setCell (by dsimp only; omega) _).setCell (by dsimp only; omega) _))
  exact bodyPost_ret (v := .tuple #[.agg #[.int .i64 0, .int .i64 0], .int .i64 50]) (by simp [results, Try.results29, go_sem, e0, e1]) rfl
    ⟨rfl, HEE.out⟩

set_option maxRecDepth 10000 in
set_option maxHeartbeats 1600000 in
theorem Over_no (b : Bf) (p : Option Addr) (c : Nat) (q : Option Addr) (cq : Nat) (l : List Int) (w : World) (hB : BfAt w p c b) (hb : bookB b = true) (hl : IntsAt w q l) (hn : l.length < 2 ^ 62) (h64 : ∀ i, i < l.length → I64 (at0 l i)) (hp : planB b l = false) :
    Calls Try.prog 29 #[.agg (bfA b p c), .slice q l.length cq] w fun e w' => e = .returned (.tuple #[.agg #[.int .i64 0, .int .i64 0], .int .i64 51]) ∧ Below w.heap.size w w' := by
  obtain ⟨W0, hW0⟩ : ∃ W, W = ((w.alloc (.cells (bfA b p c) 24)).alloc (.cells #[.int .i64 0, .int .i64 0] 27)) := ⟨_, rfl⟩
  have HW0 := Lib.hid hW0
  have HE := Lib.hid (show Below w.heap.size w W0 by rw [hW0]; exact below_alloc2 _ _ _)
  have HR := Lib.hid (show Row W0 w.heap.size (bfA b p c) 24 by rw [hW0]; exact (Row.new w _ _).alloc _)
  have HQ := Lib.hid (show Row W0 (w.heap.size + 1) #[.int .i64 0, .int .i64 0] 27 by rw [hW0]; exact Row.new1 w _ _ _)
  have HB := Lib.hid hB
  have HC := Lib.hid (follow_no b p c q cq l W0 (hB.below HE.out) hb (hl.below HE.out) hn h64 hp)
  have hzq := HQ.out.lt
  have g0 := HR.out.cell 0 (v := .int .i64 b.pr) rfl
  have g1 := HR.out.cell 1 (v := .int .i64 b.le) rfl
  have g2 := HR.out.cell 2 (v := .int .i64 b.mo) rfl
  have g3 := HR.out.cell 3 (v := .int .i64 b.gr) rfl
  have g4 := HR.out.cell 4 (v := .slice p b.hs.length c) rfl
  clear hW0 hB hb hl h64 hp
  go_enter Try.func29, Try.ntmps29
  go_wp2_with fail
  rw [← HW0.out]
  refine HC.out.mono ?_
  rintro e u ⟨rfl, hbu⟩
  obtain ⟨z0, rfl⟩ := later_of hbu
  clear hbu
  obtain ⟨z, hz⟩ := z0.on (below_alloc z0.w (.cells noOut 90))
  have HZ := Lib.hid hz
  clear hz
  go_upto_region 3 with (fail)
  rw [HZ.out]
  have HQ := Lib.hid (z.fr.row HQ.out)
  have HE := Lib.hid (z.base HE.out)
  have c0 := HQ.out.cell 0 (v := .int .i64 0) rfl
  have f0 := HQ.out.free 0
  have c1 := HQ.out.cell 1 (v := .int .i64 0) rfl
  have f1 := HQ.out.free 1
  go_wp2_with fail
  clear c0 f0 c1 f1
  have qq := ((HQ.out.set 0 (.int .i64 0)).set 1 (.int .i64 0))
  have e0 := qq.cell 0 (v := .int .i64 0) rfl
  have e1 := qq.cell 1 (v := .int .i64 0) rfl
  have HEE := Lib.hid (show Below w.heap.size w ((z.w.setCell ⟨w.heap.size + 1, 0, none⟩ (.int .i64 0)).setCell ⟨w.heap.size + 1, 1, none⟩ (.int .i64 0)) from ((HE.out.setCell (by dsimp only; omega) _).setCell (by dsimp only; omega) _))
  exact bodyPost_ret (v := .tuple #[.agg #[.int .i64 0, .int .i64 0], .int .i64 51]) (by simp [results, Try.results29, go_sem, e0, e1]) rfl
    ⟨rfl, HEE.out⟩

set_option maxRecDepth 10000 in
set_option maxHeartbeats 1600000 in
theorem Over_yes (b : Bf) (p : Option Addr) (c : Nat) (q : Option Addr) (cq : Nat) (l : List Int) (w : World) (hB : BfAt w p c b) (hb : bookB b = true) (hl : IntsAt w q l) (hn : l.length < 2 ^ 62) (h64 : ∀ i, i < l.length → I64 (at0 l i)) (hp : planB b l = true) :
    Calls Try.prog 29 #[.agg (bfA b p c), .slice q l.length cq] w fun e w' => e = .returned (.tuple #[.agg #[.int .i64 (overV Hd.lo b l), .int .i64 (overV Hd.hi b l)], .int .i64 0]) ∧ Below w.heap.size w w' := by
  obtain ⟨W0, hW0⟩ : ∃ W, W = ((w.alloc (.cells (bfA b p c) 24)).alloc (.cells #[.int .i64 0, .int .i64 0] 27)) := ⟨_, rfl⟩
  have HW0 := Lib.hid hW0
  have HE := Lib.hid (show Below w.heap.size w W0 by rw [hW0]; exact below_alloc2 _ _ _)
  have HR := Lib.hid (show Row W0 w.heap.size (bfA b p c) 24 by rw [hW0]; exact (Row.new w _ _).alloc _)
  have HQ := Lib.hid (show Row W0 (w.heap.size + 1) #[.int .i64 0, .int .i64 0] 27 by rw [hW0]; exact Row.new1 w _ _ _)
  have HB := Lib.hid hB
  have hok := bookB_iff.1 hb
  have HC := Lib.hid (follow_yes b p c q cq l W0 (hB.below HE.out) hb (hl.below HE.out) hn h64 hp)
  obtain ⟨hr8, hrm⟩ := right_mem hok hp
  have HPL := Lib.hid (fun q c w' (h : HdsAt w' q (rightL b l)) => together_any q c (rightL b l) w' h (by omega) hrm)
  have hp1 := hok.p1
  have hp2 := hok.p2
  have hzq := HQ.out.lt
  have g0 := HR.out.cell 0 (v := .int .i64 b.pr) rfl
  have g1 := HR.out.cell 1 (v := .int .i64 b.le) rfl
  have g2 := HR.out.cell 2 (v := .int .i64 b.mo) rfl
  have g3 := HR.out.cell 3 (v := .int .i64 b.gr) rfl
  have g4 := HR.out.cell 4 (v := .slice p b.hs.length c) rfl
  clear hW0 hB hb hl h64 hp hok
  go_enter Try.func29, Try.ntmps29
  go_wp2_with fail
  rw [← HW0.out]
  refine HC.out.mono ?_
  rintro e u ⟨pr, cr, ph, ch, rfl, hds, hih, hbu⟩
  obtain ⟨z0, rfl⟩ := later_of hbu
  have HD := Lib.hid (hds.below (below_alloc z0.w (.cells (outA q l.length cq pr (rightL b l).length cr ph (handL b l).length ch) 90)))
  obtain ⟨z, hz⟩ := z0.on (below_alloc z0.w (.cells (outA q l.length cq pr (rightL b l).length cr ph (handL b l).length ch) 90))
  have RO := Lib.hid (Row.new z0.w (outA q l.length cq pr (rightL b l).length cr ph (handL b l).length ch) 90)
  have HZ := Lib.hid hz
  clear hbu hds hih hz
  go_upto_region 4 with (fail)
  rw [HZ.out] at HD RO
  rw [HZ.out]
  have hbz := below_alloc z.w (.cells #[.int .i64 0, .int .i64 0] 27)
  have hbd : Below z.w.heap.size z.w ((z.w.alloc (.cells #[.int .i64 0, .int .i64 0] 27)).drew) := ((Below.refl _ _).alloc (Nat.le_refl _) _).drew
  have HT1 := Lib.hid (HPL.out pr cr z.w.drew HD.out)
  have HT2 := Lib.hid (HPL.out pr cr ((z.w.alloc (.cells #[.int .i64 0, .int .i64 0] 27)).drew) (HD.out.below hbd))
  have r1 := RO.out.cell 1 (v := .slice pr (rightL b l).length cr) rfl
  have o0 := z.fr.cell g0
  have HS := Lib.hid (fun w' (k : From z.w w') => (⟨k.cell r1, k.cell o0⟩ : w'.cell? ⟨z0.w.heap.size, 1, none⟩ = some (.slice pr (rightL b l).length cr) ∧ w'.cell? ⟨w.heap.size, 0, none⟩ = some (.int .i64 b.pr)))
  have KO := Lib.hid (show From z.w z.w.drew from (From.refl z.w).drew)
  have KA := Lib.hid (show From z.w ((z.w.alloc (.cells #[.int .i64 0, .int .i64 0] 27)).drew) from ⟨hbd⟩)
  have RA := Lib.hid (Row.new z.w #[.int .i64 0, .int .i64 0] 27).drew
  have hm0 : (0 : Int) ≤ b.pr * ((rightL b l).length : Int) := Int.mul_nonneg (by omega) (by omega)
  have hm1 : b.pr * ((rightL b l).length : Int) ≤ 4000 := by
    have h := Int.mul_le_mul hp2 (show ((rightL b l).length : Int) ≤ 8 by omega) (by omega) (by omega)
    omega
  have hs0 := sumF_range (f := Hd.lo) (hs := rightL b l) (B := 100000) (by omega) (fun x hx => (hrm x hx).1)
  have hs1 := sumF_range (f := Hd.hi) (hs := rightL b l) (B := 100000) (by omega) (fun x hx => (hrm x hx).2)
  have e9 : IntKind.i64.wrap (b.pr * ((rightL b l).length : Int)) = b.pr * ((rightL b l).length : Int) := IntWalk.i64_in _ (by omega)
  have HRM := Lib.hid hrm
  clear hbz hbd g0 g1 g2 g3 g4 r1 o0 hrm
  have hx0 : (rightL b l).length * 100000 ≤ 800000 := by omega
  generalize hlo : sumF Hd.lo (rightL b l) = lo at *
  generalize hhi : sumF Hd.hi (rightL b l) = hi at *
  have HLO := Lib.hid hlo
  have HHI := Lib.hid hhi
  clear hlo hhi
  go_region_held3 (fun w' => w'.cell? ⟨z0.w.heap.size, 1, none⟩ = some (.slice pr (rightL b l).length cr) ∧ w'.cell? ⟨w.heap.size, 0, none⟩ = some (.int .i64 b.pr))
    (first | with_reducible exact HS.out _ KO.out | with_reducible exact HS.out _ KA.out | with_reducible exact HS.out _ (KO.out.below (below_alloc _ _)) | with_reducible exact HS.out _ ((KO.out.setN (Nat.le_refl _) _ _).setN (Nat.le_refl _) _ _))
    (first
      | (go_at_call 61; (with_reducible refine HT1.out.mono ?_); rintro e u ⟨rfl, hbu⟩; have KO := Lib.hid (KO.out.below hbu); clear hbu)
      | (go_at_call 61; (with_reducible refine HT2.out.mono ?_); rintro e u ⟨rfl, hbu⟩; have RA := Lib.hid (RA.out.below hbu RA.out.lt); have KO := Lib.hid (KA.out.below hbu); have a0 := RA.out.cell 0 (v := .int .i64 0) rfl; have a1 := RA.out.cell 1 (v := .int .i64 0) rfl; have a2 := RA.out.free 0; have a3 := RA.out.free 1; clear hbu))
  · have KF := Lib.hid (KO.out.below (below_alloc u (.cells #[.int .i64 lo, .int .i64 hi] 27)))
    have RF := Lib.hid (Row.new u #[.int .i64 lo, .int .i64 hi] 27)
    have hgz : w.heap.size + 1 < u.heap.size := by
      have h1 := z.b.size
      have h2 := KO.out.b.size
      omega
    have HQ2 := Lib.hid (KF.out.row (z.fr.row HQ.out))
    have x0 := RF.out.cell 0 (v := .int .i64 lo) rfl
    have x1 := RF.out.cell 1 (v := .int .i64 hi) rfl
    have c0 := HQ2.out.cell 0 (v := .int .i64 0) rfl
    have f0 := HQ2.out.free 0
    have c1 := HQ2.out.cell 1 (v := .int .i64 0) rfl
    have f1 := HQ2.out.free 1
    have HEZ := Lib.hid ((z.base HE.out).trans (KF.out.b.mono (z.base HE.out).size))
    clear e9
    change Exit.then _ _ Exit.normal _ (u.alloc (.cells #[.int .i64 lo, .int .i64 hi] 27))
    generalize u.alloc (.cells #[.int .i64 lo, .int .i64 hi] 27) = cur at *
    go_wp2_with fail
    clear x0 x1 c0 f0 c1 f1
    have qq := ((HQ2.out.set 0 (.int .i64 (lo - b.pr * ((rightL b l).length : Int)))).set 1 (.int .i64 (hi - b.pr * ((rightL b l).length : Int))))
    have e0 := qq.cell 0 (v := .int .i64 (lo - b.pr * ((rightL b l).length : Int))) rfl
    have e1 := qq.cell 1 (v := .int .i64 (hi - b.pr * ((rightL b l).length : Int))) rfl
    have HEE := Lib.hid (show Below w.heap.size w ((cur.setCell ⟨w.heap.size + 1, 0, none⟩ (.int .i64 (lo - b.pr * ((rightL b l).length : Int)))).setCell ⟨w.heap.size + 1, 1, none⟩ (.int .i64 (hi - b.pr * ((rightL b l).length : Int)))) from ((HEZ.out.setCell (by dsimp only; omega) _).setCell (by dsimp only; omega) _))
    exact bodyPost_ret (v := .tuple #[.agg #[.int .i64 (lo - b.pr * ((rightL b l).length : Int)), .int .i64 (hi - b.pr * ((rightL b l).length : Int))], .int .i64 0]) (by simp [results, Try.results29, go_sem, e0, e1]) rfl
      ⟨by unfold overV; rw [HLO.out, HHI.out], HEE.out⟩
  · have KF := Lib.hid ((KO.out.setN (Nat.le_refl _) 0 (.int .i64 lo)).setN (Nat.le_refl _) 1 (.int .i64 hi))
    have RF := Lib.hid ((RA.out.set 0 (.int .i64 lo)).set 1 (.int .i64 hi))
    have hgz : w.heap.size + 1 < z.w.heap.size := by
      have h1 := z.b.size
      have h2 := KO.out.b.size
      omega
    have HQ2 := Lib.hid (KF.out.row (z.fr.row HQ.out))
    have x0 := RF.out.cell 0 (v := .int .i64 lo) rfl
    have x1 := RF.out.cell 1 (v := .int .i64 hi) rfl
    have c0 := HQ2.out.cell 0 (v := .int .i64 0) rfl
    have f0 := HQ2.out.free 0
    have c1 := HQ2.out.cell 1 (v := .int .i64 0) rfl
    have f1 := HQ2.out.free 1
    have HEZ := Lib.hid ((z.base HE.out).trans (KF.out.b.mono (z.base HE.out).size))
    clear e9
    change Exit.then _ _ Exit.normal _ ((u.setCell ⟨z.w.heap.size, 0, none⟩ (.int .i64 lo)).setCell ⟨z.w.heap.size, 1, none⟩ (.int .i64 hi))
    generalize (u.setCell ⟨z.w.heap.size, 0, none⟩ (.int .i64 lo)).setCell ⟨z.w.heap.size, 1, none⟩ (.int .i64 hi) = cur at *
    go_wp2_with fail
    clear x0 x1 c0 f0 c1 f1
    have qq := ((HQ2.out.set 0 (.int .i64 (lo - b.pr * ((rightL b l).length : Int)))).set 1 (.int .i64 (hi - b.pr * ((rightL b l).length : Int))))
    have e0 := qq.cell 0 (v := .int .i64 (lo - b.pr * ((rightL b l).length : Int))) rfl
    have e1 := qq.cell 1 (v := .int .i64 (hi - b.pr * ((rightL b l).length : Int))) rfl
    have HEE := Lib.hid (show Below w.heap.size w ((cur.setCell ⟨w.heap.size + 1, 0, none⟩ (.int .i64 (lo - b.pr * ((rightL b l).length : Int)))).setCell ⟨w.heap.size + 1, 1, none⟩ (.int .i64 (hi - b.pr * ((rightL b l).length : Int)))) from ((HEZ.out.setCell (by dsimp only; omega) _).setCell (by dsimp only; omega) _))
    exact bodyPost_ret (v := .tuple #[.agg #[.int .i64 (lo - b.pr * ((rightL b l).length : Int)), .int .i64 (hi - b.pr * ((rightL b l).length : Int))], .int .i64 0]) (by simp [results, Try.results29, go_sem, e0, e1]) rfl
      ⟨by unfold overV; rw [HLO.out, HHI.out], HEE.out⟩

end Go.Proofs.Ytgdidhbomdfcpaa
