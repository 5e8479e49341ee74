/- The walks of layer 5: what becomes of the boxes of a plan, asked for. -/
import Derived.Test.YtgdidhbomdfcpaaF24
import Derived.Test.YtgdidhbomdfcpaaF15
namespace Go.Proofs.Ytgdidhbomdfcpaa
open Go.RowKit Go.Maps
attribute [local go_sem] Oper.semAt_some

abbrev noOut : Array Value := #[.slice none 0 0, .slice none 0 0, .slice none 0 0]
/-- What follow returns of a plan. -/
def GaveFollow (b : Bf) (q : Option Addr) (cq : Nat) (l : List Int) (w : World) (e : Ending) (w' : World) : Prop :=
  ∃ pr cr ph ch, e = .returned (.tuple #[.agg (outA q l.length cq pr (rightL b l).length cr ph (handL b l).length ch), .int .i64 0]) ∧ HdsAt w' pr (rightL b l) ∧ IntsAt w' ph (handL b l) ∧ Below w.heap.size w w'

set_option maxRecDepth 10000 in
set_option maxHeartbeats 1600000 in
theorem follow_bad (b : Bf) (p : Option Addr) (c : Nat) (q : Option Addr) (cq : Nat) (l : List Int) (w : World) (hB : BfAt w p c b) (hb : bookB b = false) :
    Calls Try.prog 76 #[.agg (bfA b p c), .slice q l.length cq] w fun e w' => e = .returned (.tuple #[.agg noOut, .int .i64 50]) ∧ Below w.heap.size w w' := by
  obtain ⟨W0, hW0⟩ : ∃ W, W = ((w.alloc (.cells (bfA b p c) 24)).alloc (.cells noOut 90)) := ⟨_, rfl⟩
  have HW0 := Lib.hid hW0
  have HE := Lib.hid (show Below w.heap.size w W0 by rw [hW0]; exact below_alloc2 _ _ _)
  have HR := Lib.hid (show Row W0 w.heap.size (bfA b p c) 24 by rw [hW0]; exact (Row.new w _ _).alloc _)
  have HQ := Lib.hid (show Row W0 (w.heap.size + 1) noOut 90 by rw [hW0]; exact Row.new1 w _ _ _)
  have HB := Lib.hid hB
  have HC := Lib.hid (enter_bad b p c W0 (hB.below HE.out) hb)
  have hzq := HQ.out.lt
  have g0 := HR.out.cell 0 (v := .int .i64 b.pr) rfl
  have g1 := HR.out.cell 1 (v := .int .i64 b.le) rfl
  have g2 := HR.out.cell 2 (v := .int .i64 b.mo) rfl
  have g3 := HR.out.cell 3 (v := .int .i64 b.gr) rfl
  have g4 := HR.out.cell 4 (v := .slice p b.hs.length c) rfl
  clear hW0 hB hb
  go_enter Try.func76, Try.ntmps76
  go_wp2_with fail
  rw [← HW0.out]
  refine HC.out.mono ?_
  rintro e u ⟨rfl, hbu⟩
  obtain ⟨z0, rfl⟩ := later_of hbu
  clear hbu
  obtain ⟨z, hz⟩ := z0.on (below_alloc z0.w (.cells noBk 79))
  have HZ := Lib.hid hz
  clear hz
  go_upto_region 3 with (fail)
  rw [HZ.out]
  have HQ := Lib.hid (z.fr.row HQ.out)
  have HE := Lib.hid (z.base HE.out)
  have c0 := HQ.out.cell 0 (v := .slice none 0 0) rfl
  have f0 := HQ.out.free 0
  have c1 := HQ.out.cell 1 (v := .slice none 0 0) rfl
  have f1 := HQ.out.free 1
  have c2 := HQ.out.cell 2 (v := .slice none 0 0) rfl
  have f2 := HQ.out.free 2
  go_wp2_with fail
  clear c0 f0 c1 f1 c2 f2
  have qq := (((HQ.out.set 0 (.slice none 0 0)).set 1 (.slice none 0 0)).set 2 (.slice none 0 0))
  have e0 := qq.cell 0 (v := .slice none 0 0) rfl
  have e1 := qq.cell 1 (v := .slice none 0 0) rfl
  have e2 := qq.cell 2 (v := .slice none 0 0) rfl
  have HEE := Lib.hid (show Below w.heap.size w (((z.w.setCell ⟨w.heap.size + 1, 0, none⟩ (.slice none 0 0)).setCell ⟨w.heap.size + 1, 1, none⟩ (.slice none 0 0)).setCell ⟨w.heap.size + 1, 2, none⟩ (.slice none 0 0)) from (((HE.out.setCell (by dsimp only; omega) _).setCell (by dsimp only; omega) _).setCell (by dsimp only; omega) _))
  exact bodyPost_ret (v := .tuple #[.agg #[.slice none 0 0, .slice none 0 0, .slice none 0 0], .int .i64 50]) (by simp [results, Try.results76, go_sem, e0, e1, e2]) rfl
    ⟨rfl, HEE.out⟩

set_option maxRecDepth 10000 in
set_option maxHeartbeats 1600000 in
theorem follow_no (b : Bf) (p : Option Addr) (c : Nat) (q : Option Addr) (cq : Nat) (l : List Int) (w : World) (hB : BfAt w p c b) (hb : bookB b = true) (hl : IntsAt w q l) (hn : l.length < 2 ^ 62) (h64 : ∀ i, i < l.length → I64 (at0 l i)) (hp : planB b l = false) :
    Calls Try.prog 76 #[.agg (bfA b p c), .slice q l.length cq] w fun e w' => e = .returned (.tuple #[.agg noOut, .int .i64 51]) ∧ Below w.heap.size w w' := by
  obtain ⟨W0, hW0⟩ : ∃ W, W = ((w.alloc (.cells (bfA b p c) 24)).alloc (.cells noOut 90)) := ⟨_, rfl⟩
  have HW0 := Lib.hid hW0
  have HE := Lib.hid (show Below w.heap.size w W0 by rw [hW0]; exact below_alloc2 _ _ _)
  have HR := Lib.hid (show Row W0 w.heap.size (bfA b p c) 24 by rw [hW0]; exact (Row.new w _ _).alloc _)
  have HQ := Lib.hid (show Row W0 (w.heap.size + 1) noOut 90 by rw [hW0]; exact Row.new1 w _ _ _)
  have HB := Lib.hid hB
  have HC := Lib.hid (enter_yes b p c W0 (hB.below HE.out) hb)
  have HL := Lib.hid (hl.below HE.out)
  have HP := Lib.hid (fun mb w' (hk : BkF w' p c mb b) (hi : IntsAt w' q l) => (by have h := isPlan_any b p c mb q cq l w' hk hi hn h64; rw [hp] at h; exact h : Calls Try.prog 74 #[.agg (bkA b p c mb), .slice q l.length cq] w' fun e w'' => e = .returned (.bool false) ∧ Below w'.heap.size w' w''))
  have hzq := HQ.out.lt
  have g0 := HR.out.cell 0 (v := .int .i64 b.pr) rfl
  have g1 := HR.out.cell 1 (v := .int .i64 b.le) rfl
  have g2 := HR.out.cell 2 (v := .int .i64 b.mo) rfl
  have g3 := HR.out.cell 3 (v := .int .i64 b.gr) rfl
  have g4 := HR.out.cell 4 (v := .slice p b.hs.length c) rfl
  clear hW0 hB hb hl h64 hp
  go_enter Try.func76, Try.ntmps76
  go_wp2_with fail
  rw [← HW0.out]
  refine HC.out.mono ?_
  rintro e u ⟨mb, rfl, hk, hbu⟩
  obtain ⟨z0, rfl⟩ := later_of hbu
  have HI := Lib.hid ((HL.out.below hbu).below (below_alloc z0.w (.cells (bkA b p c mb) 79)))
  have HK := Lib.hid (hk.below (below_alloc z0.w (.cells (bkA b p c mb) 79)))
  obtain ⟨z1, hz1⟩ := z0.on (below_alloc z0.w (.cells (bkA b p c mb) 79))
  have RK := Lib.hid (Row.new z0.w (bkA b p c mb) 79)
  have HZ1 := Lib.hid hz1
  clear hbu hk hz1
  go_upto_region 4 with (fail)
  rw [HZ1.out] at HI HK RK
  rw [HZ1.out]
  have k0 := RK.out.cell 0 (v := .int .i64 b.pr) rfl
  have k1 := RK.out.cell 1 (v := .int .i64 b.le) rfl
  have k2 := RK.out.cell 2 (v := .int .i64 b.mo) rfl
  have k3 := RK.out.cell 3 (v := .int .i64 b.gr) rfl
  have k4 := RK.out.cell 4 (v := .slice p b.hs.length c) rfl
  have k5 := RK.out.cell 5 (v := .map (some mb)) rfl
  go_wp2_with fail
  refine (HP.out mb _ HK.out HI.out).mono ?_
  rintro e u ⟨rfl, hbu⟩
  obtain ⟨z, hz⟩ := z1.on hbu
  subst hz
  clear hbu k0 k1 k2 k3 k4 k5
  have HQ := Lib.hid (z.fr.row HQ.out)
  have HE := Lib.hid (z.base HE.out)
  have c0 := HQ.out.cell 0 (v := .slice none 0 0) rfl
  have f0 := HQ.out.free 0
  have c1 := HQ.out.cell 1 (v := .slice none 0 0) rfl
  have f1 := HQ.out.free 1
  have c2 := HQ.out.cell 2 (v := .slice none 0 0) rfl
  have f2 := HQ.out.free 2
  go_wp2_with fail
  clear c0 f0 c1 f1 c2 f2
  have qq := (((HQ.out.set 0 (.slice none 0 0)).set 1 (.slice none 0 0)).set 2 (.slice none 0 0))
  have e0 := qq.cell 0 (v := .slice none 0 0) rfl
  have e1 := qq.cell 1 (v := .slice none 0 0) rfl
  have e2 := qq.cell 2 (v := .slice none 0 0) rfl
  have HEE := Lib.hid (show Below w.heap.size w (((z.w.setCell ⟨w.heap.size + 1, 0, none⟩ (.slice none 0 0)).setCell ⟨w.heap.size + 1, 1, none⟩ (.slice none 0 0)).setCell ⟨w.heap.size + 1, 2, none⟩ (.slice none 0 0)) from (((HE.out.setCell (by dsimp only; omega) _).setCell (by dsimp only; omega) _).setCell (by dsimp only; omega) _))
  exact bodyPost_ret (v := .tuple #[.agg #[.slice none 0 0, .slice none 0 0, .slice none 0 0], .int .i64 51]) (by simp [results, Try.results76, go_sem, e0, e1, e2]) rfl
    ⟨rfl, HEE.out⟩

set_option maxRecDepth 10000 in
set_option maxHeartbeats 1600000 in
theorem follow_yes (b : Bf) (p : Option Addr) (c : Nat) (q : Option Addr) (cq : Nat) (l : List Int) (w : World) (hB : BfAt w p c b) (hb : bookB b = true) (hl : IntsAt w q l) (hn : l.length < 2 ^ 62) (h64 : ∀ i, i < l.length → I64 (at0 l i)) (hp : planB b l = true) :
    Calls Try.prog 76 #[.agg (bfA b p c), .slice q l.length cq] w (GaveFollow b q cq l w) := by
  obtain ⟨W0, hW0⟩ : ∃ W, W = ((w.alloc (.cells (bfA b p c) 24)).alloc (.cells noOut 90)) := ⟨_, rfl⟩
  have HW0 := Lib.hid hW0
  have HE := Lib.hid (show Below w.heap.size w W0 by rw [hW0]; exact below_alloc2 _ _ _)
  have HR := Lib.hid (show Row W0 w.heap.size (bfA b p c) 24 by rw [hW0]; exact (Row.new w _ _).alloc _)
  have HQ := Lib.hid (show Row W0 (w.heap.size + 1) noOut 90 by rw [hW0]; exact Row.new1 w _ _ _)
  have HB := Lib.hid hB
  have HC := Lib.hid (enter_yes b p c W0 (hB.below HE.out) hb)
  have HL := Lib.hid (hl.below HE.out)
  have HP := Lib.hid (fun mb w' (hk : BkF w' p c mb b) (hi : IntsAt w' q l) => (by have h := isPlan_any b p c mb q cq l w' hk hi hn h64; rw [hp] at h; exact h : Calls Try.prog 74 #[.agg (bkA b p c mb), .slice q l.length cq] w' fun e w'' => e = .returned (.bool true) ∧ Below w'.heap.size w' w''))
  have HY := Lib.hid (fun mb w' (hk : BkF w' p c mb b) (hi : IntsAt w' q l) => by_any b p c mb q cq l w' hk hi hn hp)
  have hzq := HQ.out.lt
  have g0 := HR.out.cell 0 (v := .int .i64 b.pr) rfl
  have g1 := HR.out.cell 1 (v := .int .i64 b.le) rfl
  have g2 := HR.out.cell 2 (v := .int .i64 b.mo) rfl
  have g3 := HR.out.cell 3 (v := .int .i64 b.gr) rfl
  have g4 := HR.out.cell 4 (v := .slice p b.hs.length c) rfl
  clear hW0 hB hb hl h64 hp
  go_enter Try.func76, Try.ntmps76
  go_wp2_with fail
  rw [← HW0.out]
  refine HC.out.mono ?_
  rintro e u ⟨mb, rfl, hk, hbu⟩
  obtain ⟨z0, rfl⟩ := later_of hbu
  have HI := Lib.hid ((HL.out.below hbu).below (below_alloc z0.w (.cells (bkA b p c mb) 79)))
  have HK := Lib.hid (hk.below (below_alloc z0.w (.cells (bkA b p c mb) 79)))
  obtain ⟨z1, hz1⟩ := z0.on (below_alloc z0.w (.cells (bkA b p c mb) 79))
  have RK := Lib.hid (Row.new z0.w (bkA b p c mb) 79)
  have HZ1 := Lib.hid hz1
  clear hbu hk hz1
  go_upto_region 4 with (fail)
  rw [HZ1.out] at HI HK RK
  rw [HZ1.out]
  have k0 := RK.out.cell 0 (v := .int .i64 b.pr) rfl
  have k1 := RK.out.cell 1 (v := .int .i64 b.le) rfl
  have k2 := RK.out.cell 2 (v := .int .i64 b.mo) rfl
  have k3 := RK.out.cell 3 (v := .int .i64 b.gr) rfl
  have k4 := RK.out.cell 4 (v := .slice p b.hs.length c) rfl
  have k5 := RK.out.cell 5 (v := .map (some mb)) rfl
  go_wp2_with fail
  refine (HP.out mb _ HK.out HI.out).mono ?_
  rintro e u ⟨rfl, hbu⟩
  have HI := Lib.hid (HI.out.below hbu)
  have HK := Lib.hid (HK.out.below hbu)
  obtain ⟨z2, hz⟩ := z1.on hbu
  have RK2 := Lib.hid (RK.out.below hbu RK.out.lt)
  subst hz
  clear hbu k0 k1 k2 k3 k4 k5
  have k0 := RK2.out.cell 0 (v := .int .i64 b.pr) rfl
  have k1 := RK2.out.cell 1 (v := .int .i64 b.le) rfl
  have k2 := RK2.out.cell 2 (v := .int .i64 b.mo) rfl
  have k3 := RK2.out.cell 3 (v := .int .i64 b.gr) rfl
  have k4 := RK2.out.cell 4 (v := .slice p b.hs.length c) rfl
  have k5 := RK2.out.cell 5 (v := .map (some mb)) rfl
  go_wp2_with fail
  refine (HY.out mb _ HK.out HI.out).mono ?_
  rintro e u ⟨pr, cr, ph, ch, rfl, hds, hih, hpr, hph, hbu⟩
  obtain ⟨z, hz⟩ := z2.on hbu
  subst hz
  have HDS := Lib.hid hds
  have HIH := Lib.hid hih
  have HPR := Lib.hid hpr
  have HPH := Lib.hid hph
  have hzz := z2.b.size
  clear hbu k0 k1 k2 k3 k4 k5 hds hih hpr hph
  have HQ := Lib.hid (z.fr.row HQ.out)
  have HE := Lib.hid (z.base HE.out)
  have c0 := HQ.out.cell 0 (v := .slice none 0 0) rfl
  have f0 := HQ.out.free 0
  have c1 := HQ.out.cell 1 (v := .slice none 0 0) rfl
  have f1 := HQ.out.free 1
  have c2 := HQ.out.cell 2 (v := .slice none 0 0) rfl
  have f2 := HQ.out.free 2
  go_wp2_with fail
  clear c0 f0 c1 f1 c2 f2
  have qq := (((HQ.out.set 0 (.slice q l.length cq)).set 1 (.slice pr (rightL b l).length cr)).set 2 (.slice ph (handL b l).length ch))
  have e0 := qq.cell 0 (v := .slice q l.length cq) rfl
  have e1 := qq.cell 1 (v := .slice pr (rightL b l).length cr) rfl
  have e2 := qq.cell 2 (v := .slice ph (handL b l).length ch) rfl
  have KS := Lib.hid ((set_keeps z.w (w.heap.size + 1) 0 (.slice q l.length cq)).trans ((set_keeps _ (w.heap.size + 1) 1 (.slice pr (rightL b l).length cr)).trans (set_keeps _ (w.heap.size + 1) 2 (.slice ph (handL b l).length ch))))
  have HDS3 := Lib.hid ((HDS.out.off (N := fun m => m = w.heap.size + 1) (fun g o e h => by have := HPR.out g o e; omega)).keeps KS.out (N' := fun _ => False) (fun _ h => h.elim)).at
  have HIH3 := Lib.hid ((HIH.out.off (N := fun m => m = w.heap.size + 1) (fun g o _ e h => by have := HPH.out g o e; omega)).keeps KS.out (N' := fun _ => False) (fun _ h => h.elim)).at
  have HEE := Lib.hid (show Below w.heap.size w (((z.w.setCell ⟨w.heap.size + 1, 0, none⟩ (.slice q l.length cq)).setCell ⟨w.heap.size + 1, 1, none⟩ (.slice pr (rightL b l).length cr)).setCell ⟨w.heap.size + 1, 2, none⟩ (.slice ph (handL b l).length ch)) from (((HE.out.setCell (by dsimp only; omega) _).setCell (by dsimp only; omega) _).setCell (by dsimp only; omega) _))
  exact bodyPost_ret (v := .tuple #[.agg #[.slice q l.length cq, .slice pr (rightL b l).length cr, .slice ph (handL b l).length ch], .int .i64 0]) (by simp [results, Try.results76, go_sem, e0, e1, e2]) rfl
    ⟨pr, cr, ph, ch, rfl, HDS3.out, HIH3.out, HEE.out⟩

end Go.Proofs.Ytgdidhbomdfcpaa
