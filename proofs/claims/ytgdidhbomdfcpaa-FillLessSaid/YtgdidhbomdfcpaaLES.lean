/- Layer 5, in plain lists: what allows more leaves no more boxes by hand. -/
import Derived.Test.YtgdidhbomdfcpaaF40
import Derived.Test.YtgdidhbomdfcpaaF39
import Derived.Deep.RegionHeld3
import Derived.Deep.Upon
namespace Go.Proofs.Ytgdidhbomdfcpaa
open Go.RowKit

/-- A book that allows no less, and of which no less is known. -/
structure Easier (b x : Bf) : Prop where
  pr : x.pr = b.pr
  le : b.le ≤ x.le
  mo : b.mo ≤ x.mo
  gr : b.gr ≤ x.gr
  n : x.hs.length = b.hs.length
  h : ∀ i (h : i < b.hs.length) (h' : i < x.hs.length), b.hs[i].lo ≤ x.hs[i].lo ∧ x.hs[i].hi ≤ b.hs[i].hi
theorem sumF_le {f : Hd → Int} : ∀ {l m : List Hd}, l.length = m.length → (∀ i (h : i < l.length) (h' : i < m.length), f l[i] ≤ f m[i]) → sumF f l ≤ sumF f m
  | [], [], _, _ => Int.le_refl _
  | [], _ :: _, h, _ => by simp at h
  | _ :: _, [], h, _ => by simp at h
  | x :: l, y :: m, h, hx => by
    have h0 := hx 0 (by simp) (by simp)
    have h1 := sumF_le (f := f) (l := l) (m := m) (by simpa using h) (fun i hi hi' => by
      have := hx (i + 1) (by simpa using hi) (by simpa using hi')
      simpa using this)
    simp only [List.getElem_cons_zero] at h0
    have e1 : sumF f (x :: l) = f x + sumF f l := by simp [sumF]
    have e2 : sumF f (y :: m) = f y + sumF f m := by simp [sumF]
    rw [e1, e2]
    omega
section
variable {b x : Bf} (e : Easier b x)
include e
theorem Easier.part (a c : Nat) : loB b a c ≤ loB x a c ∧ hiB x a c ≤ hiB b a c := by
  have hl : (partL b.hs a c).length = (partL x.hs a c).length := by unfold partL; simp [e.n]
  have key : ∀ i (h : i < (partL b.hs a c).length) (h' : i < (partL x.hs a c).length), (partL b.hs a c)[i].lo ≤ (partL x.hs a c)[i].lo ∧ (partL x.hs a c)[i].hi ≤ (partL b.hs a c)[i].hi := by
    intro i h h'
    have hb : a + i < b.hs.length := by unfold partL at h; simp at h; omega
    have hx : a + i < x.hs.length := by rw [e.n]; exact hb
    have := e.h (a + i) hb hx
    simpa [partL] using this
  exact ⟨sumF_le (f := Hd.lo) hl fun i h h' => (key i h h').1, sumF_le (f := Hd.hi) hl.symm fun i h h' => (key i h' h).2⟩
theorem Easier.right (l : List Int) (i : Nat) (h : rightI b l i = true) : rightI x l i = true := by
  unfold rightI at *
  simp only [decide_eq_true_eq, kindS_zero] at *
  have hp := e.part (bgn l i).toNat (at0 l i).toNat
  have h1 := e.pr
  have h2 := e.le
  have h3 := e.mo
  unfold loI hiI at *
  omega
theorem Easier.hand (l : List Int) : ∀ k, (handTo x l k).length ≤ (handTo b l k).length
  | 0 => Nat.le_refl _
  | k + 1 => by
    have ih := Easier.hand l k
    rw [handTo_succ, handTo_succ]
    cases hb : rightI b l k
    · cases hx : rightI x l k <;> simp <;> omega
    · rw [e.right l k hb]
      simpa using ih
theorem Easier.plan {l : List Int} (h : planB b l = true) : planB x l = true := by
  unfold planB planTo at *
  rw [Bool.and_eq_true, List.all_eq_true] at *
  refine ⟨fun i hi => ?_, by rw [e.n]; exact h.2⟩
  have := h.1 i hi
  unfold boxI boxB at *
  simp only [decide_eq_true_eq] at *
  have := e.gr
  have := e.n
  omega
/-- The best plan of what allows more has no more boxes by hand. -/
theorem Easier.best (hb : BfOk b) (hx : BfOk x) {p q : List Int} (hp : bestO (rankQ b) (plansB b) = some p) (hq : bestO (rankQ x) (plansB x) = some q) : (handL x q).length ≤ (handL b p).length := by
  obtain ⟨p', h1, h2, _⟩ := best_few hb
  obtain ⟨q', h3, _, h4⟩ := best_few hx
  rw [hp] at h1
  rw [hq] at h3
  cases h1
  cases h3
  exact Nat.le_trans (h4 p (e.plan h2)).1 (e.hand p p.length)
end
end Go.Proofs.Ytgdidhbomdfcpaa
/- The law's own helper of layer 5: how many boxes are by hand, at the worst. -/
namespace Go.Proofs.Ytgdidhbomdfcpaa
open Go.RowKit Go.Maps
attribute [local go_sem] Oper.semAt_some

/-- A copy of a book in a variable, with handfuls of its own: the world behind it. -/
theorem copied (w : World) (b : Bf) (bb o c : Nat) (h : HdsAt w (some ⟨bb, o, none⟩) b.hs) (h1 : 0 < b.hs.length) (h3 : b.hs.length ≤ 10) (ty : TypeId) :
    ∃ g cap cur w', (Builtin.append_ #[22, 22] ty #[.slice (some ⟨w.heap.size + 1, 0, none⟩) 0 0, .slice (some ⟨bb, o, none⟩) b.hs.length c]).run Try.prog ((w.alloc (.cells (bfA b (some ⟨bb, o, none⟩) c) 24)).alloc (.cells #[] 27)) = .ok (.slice (some ⟨g, 0, none⟩) b.hs.length cap) w' ∧
      Row w' w.heap.size (bfA b (some ⟨bb, o, none⟩) c) 24 ∧ Row w' g cur 27 ∧ w.heap.size + 2 ≤ g ∧ b.hs.length ≤ cap ∧ Below w.heap.size w w' ∧ HoldsH (cur[·]?) b.hs := by
  obtain ⟨g, cap, cur, w', hr, hrow, hg, hcap, hb, hh⟩ := copy_hds ((w.alloc (.cells (bfA b (some ⟨bb, o, none⟩) c) 24)).alloc (.cells #[] 27)) b.hs bb o c (h.below (below_alloc2 _ _ _)) h1 h3 ty (w.heap.size + 1)
  simp at hg
  exact ⟨g, cap, cur, w', hr, ((Row.new w _ _).alloc _).below hb (by simp; omega), hrow, hg, hcap, (below_alloc2 w _ _).trans (hb.mono (by simp; omega)), hh⟩

set_option maxRecDepth 10000 in
set_option maxHeartbeats 1600000 in
theorem worst5_any (b : Bf) (p : Option Addr) (c k : Nat) (w : World) (hB : BfAt w p c b) (hok : BfOk b) (hk : k < b.hs.length) :
    Calls Try.prog 56 #[.agg (bfA b p c), .int .i64 k] w fun e w' => e = .returned (.int .i64 (worstV b k)) ∧ Below w.heap.size w w' := by
  have hn8 := hok.n8
  obtain ⟨W0, hW0⟩ : ∃ W, W = w.alloc (.cells (bfA b p c) 24) := ⟨_, rfl⟩
  have HW0 := Lib.hid hW0
  have HE := Lib.hid (show Below w.heap.size w W0 by rw [hW0]; exact below_alloc _ _)
  have HR := Lib.hid (show Row W0 w.heap.size (bfA b p c) 24 by rw [hW0]; exact Row.new w _ _)
  have HB := Lib.hid (hB.below HE.out)
  obtain ⟨bb, o, rfl, h0, h1⟩ := HB.out.h k hk
  have hH := hok.h _ (List.getElem_mem hk)
  have hl0 := hH.l0
  have hl1 := hH.l1
  have hl2 := hH.l2
  have hl3 := hH.l3
  have HOK := Lib.hid hok
  have HHA := Lib.hid (handAt_eq hk)
  have HSO := Lib.hid (fun n (hn : b.hs[k].lo ≤ n) (hn2 : n ≤ b.hs[k].hi) => setB_ok HOK.out (k := k) n n ⟨show (0 : Int) ≤ n by omega, Int.le_refl n, show n ≤ 200 by omega, show n - n ≤ 10 by omega⟩)
  have g0 := HR.out.cell 0 (v := .int .i64 b.pr) rfl
  have g1 := HR.out.cell 1 (v := .int .i64 b.le) rfl
  have g2 := HR.out.cell 2 (v := .int .i64 b.mo) rfl
  have g3 := HR.out.cell 3 (v := .int .i64 b.gr) rfl
  have g4 := HR.out.cell 4 (v := .slice (some ⟨bb, o, none⟩) b.hs.length c) rfl
  have i1 : (0 : Int) ≤ (k : Int) := by omega
  have i2 : (k : Int) < (b.hs.length : Int) := by omega
  obtain ⟨lo, hlo⟩ : ∃ x, b.hs[k].lo = x := ⟨_, rfl⟩
  obtain ⟨hi, hhi⟩ : ∃ x, b.hs[k].hi = x := ⟨_, rfl⟩
  rw [hlo] at h0 hl0 hl1 hl3 HSO
  rw [hhi] at h1 hl1 hl2 hl3 HSO
  have HLO := Lib.hid hlo
  have HHI := Lib.hid hhi
  have HK := Lib.hid hk
  have HN10 := Lib.hid (show b.hs.length ≤ 10 by omega)
  clear hW0 hB hok hH hlo hhi
  go_enter Try.func56, Try.ntmps56
  go_upto_region 2 with (fail)
  rw [← HW0.out]
  go_wp2_with fail
  go_loopw [5, 6] (fun m i wr => ∃ j : Nat, (j : Int) ≤ hi - lo + 1 ∧ i = .int .i64 (lo + j) ∧ m = .int .i64 (worstTo b k j) ∧ 0 ≤ worstTo b k j ∧ worstTo b k j ≤ 8 ∧ ∃ x : Later W0, wr = x.w) (fun _ i _ => 300 - (intOf i).toNat)
  case atStart => exact ⟨0, by omega, by simp, rfl, by simp [worstTo], by simp [worstTo], ⟨W0, Below.refl _ _⟩, rfl⟩
  case round =>
    obtain ⟨j, hj, rfl, rfl, hw0, hw8, x, rfl⟩ := hrel
    by_cases hlt : lo + j ≤ hi
    · have HOKS := Lib.hid (HSO.out (lo + j) (by omega) hlt)
      have hcr := countAt_range HOKS.out
      have HWS := Lib.hid (show worstTo b k (j + 1) = max (worstTo b k j) (countAt b k (lo + j)) by rw [worstTo, HHA.out, HLO.out])
      have HCE := Lib.hid (show countAt b k (lo + j) = ((handL (setB b k (lo + j) (lo + j)) (bestQ (setB b k (lo + j) (lo + j)))).length : Int) from rfl)
      obtain ⟨n, hn⟩ : ∃ n, lo + (j : Int) = n := ⟨_, rfl⟩
      rw [hn] at HOKS hcr HWS HCE hlt
      have HNE := Lib.hid hn
      have hn0 : 0 ≤ n := by omega
      rw [hn]
      clear hn
      generalize worstTo b k j = wj at *
      obtain ⟨g, cap, cur, w1, hr, hx, hrow, hg, hcap, hbw, hh⟩ := copied x.w b bb o c (HB.out.below x.b).h (by omega) (by omega) 22
      have HRUN := Lib.hid hr
      have HX := Lib.hid hx
      have HROW := Lib.hid hrow
      have HH := Lib.hid hh
      have HBW := Lib.hid hbw
      have x0 := HX.out.cell 4 (v := .slice (some ⟨bb, o, none⟩) b.hs.length c) rfl
      have x0f := HX.out.free 4
      have HX2 := Lib.hid (HX.out.set 4 (.slice (some ⟨g, 0, none⟩) b.hs.length cap))
      have HROW2 := Lib.hid (HROW.out.set_other ⟨x.w.heap.size, 4, none⟩ (.slice (some ⟨g, 0, none⟩) b.hs.length cap) (by dsimp only; omega))
      have HBW2 := Lib.hid (show Below x.w.heap.size x.w (w1.setCell ⟨x.w.heap.size, 4, none⟩ (.slice (some ⟨g, 0, none⟩) b.hs.length cap)) from HBW.out.setCell (by dsimp only; omega) _)
      obtain ⟨c0, c1⟩ := HH.out k HK.out
      have G0 := Lib.hid c0
      have G1 := Lib.hid c1
      have q0 := HROW2.out.cell _ c0
      have q1 := HROW2.out.cell _ c1
      have f0 := HROW2.out.free (k * 2)
      have f1 := HROW2.out.free (k * 2 + 1)
      have x2 := HX2.out.cell 4 (v := .slice (some ⟨g, 0, none⟩) b.hs.length cap) rfl
      have a4 := ((((HR.out.below x.b HR.out.lt)).alloc (.cells (bfA b (some ⟨bb, o, none⟩) c) 24)).alloc (.cells #[] 27)).cell 4 (v := .slice (some ⟨bb, o, none⟩) b.hs.length c) rfl
      clear hr hx hrow hh hbw c0 c1
      go_wp2_with (first
        | (refine store_new rfl 24 _ _ rfl (bfA b (some ⟨bb, o, none⟩) c) #[.int .i64 0, .int .i64 0, .int .i64 0, .int .i64 0, .slice none 0 0] 24 rfl rfl (by kernel_rfl) rfl (by simp [Value.oneCell', bfA]) ?_)
        | (at_builtin; refine wpList_append_run rfl _ _ _ _ rfl (.slice (some ⟨x.w.heap.size + 1, 0, none⟩) 0 0) _ _ rfl rfl HRUN.out ?_))
      clear HX HROW HRUN a4 x0 x0f q0 q1 f0 f1
      generalize w1.setCell ⟨x.w.heap.size, 4, none⟩ (.slice (some ⟨g, 0, none⟩) b.hs.length cap) = W at *
      have KI := Lib.hid (From.refl W)
      have HS := Lib.hid (fun w' (kk : From W w') => kk.cell x2)
      have hWz := HBW2.out.size
      clear x2
      have q0 := (KI.out.row HROW2.out).cell _ G0.out
      have q1 := (KI.out.row HROW2.out).cell _ G1.out
      have f0 := (KI.out.row HROW2.out).free (k * 2)
      have f1 := (KI.out.row HROW2.out).free (k * 2 + 1)
      go_region_held3 (fun w' => w'.cell? ⟨x.w.heap.size, 4, none⟩ = some (.slice (some ⟨g, 0, none⟩) b.hs.length cap)) (first | with_reducible exact HS.out _ KI.out | with_reducible exact HS.out _ KI.out.drew | exact (((KI.out.row HX2.out).set_other _ _ (by dsimp only; omega)).set_other _ _ (by dsimp only; omega)).cell 4 rfl)
        (first | (go_at_call 54; (with_reducible refine (Only_any _ _).mono ?_); rintro e u ⟨rfl, hbu⟩; have KI := Lib.hid (by first | with_reducible exact KI.out.drew.below hbu | with_reducible exact KI.out.below hbu); have q0 := (KI.out.row HROW2.out).cell _ G0.out; have q1 := (KI.out.row HROW2.out).cell _ G1.out; have f0 := (KI.out.row HROW2.out).free (k * 2); have f1 := (KI.out.row HROW2.out).free (k * 2 + 1); clear hbu))
      have HX3 := Lib.hid (((KI.out.row HX2.out).set_other ⟨g, k * 2, none⟩ (.int .i64 n) (by dsimp only; omega)).set_other ⟨g, k * 2 + 1, none⟩ (.int .i64 n) (by dsimp only; omega))
      have HP3 := Lib.hid (hds_row (((KI.out.row HROW2.out).set (k * 2) (.int .i64 n)).set (k * 2 + 1) (.int .i64 n)) (holds_set HH.out HK.out n n))
      have HB3 := Lib.hid (show Below x.w.heap.size x.w ((u.setCell ⟨g, k * 2, none⟩ (.int .i64 n)).setCell ⟨g, k * 2 + 1, none⟩ (.int .i64 n)) from ((HBW2.out.trans (KI.out.b.mono HBW2.out.size)).setCell (by dsimp only; omega) _).setCell (by dsimp only; omega) _)
      clear HROW2 HX2 KI HS HBW2 HBW HH q0 q1 f0 f1
      generalize (u.setCell ⟨g, k * 2, none⟩ (.int .i64 n)).setCell ⟨g, k * 2 + 1, none⟩ (.int .i64 n) = u2 at *
      have HBF := Lib.hid (show BfAt u2 (some ⟨g, 0, none⟩) cap (setB b k n n) from ⟨HP3.out, by rw [setB_len]; exact HB.out.n, by rw [setB_len]; exact hcap, HB.out.i1⟩)
      obtain ⟨x2, hx2⟩ := x.on HB3.out
      subst hx2
      have hbk := bookB_iff.2 HOKS.out
      have heq : bfA (setB b k n n) (some ⟨g, 0, none⟩) cap = #[.int .i64 b.pr, .int .i64 b.le, .int .i64 b.mo, .int .i64 b.gr, .slice (some ⟨g, 0, none⟩) b.hs.length cap] := by
        rw [show bfA (setB b k n n) (some ⟨g, 0, none⟩) cap = #[.int .i64 b.pr, .int .i64 b.le, .int .i64 b.mo, .int .i64 b.gr, .slice (some ⟨g, 0, none⟩) (setB b k n n).hs.length cap] from rfl, setB_len]
      obtain ⟨pb, hpb, hpp, _⟩ := best_few HOKS.out
      have hbq : bestQ (setB b k n n) = pb := bestL_of hpb
      rw [hbq] at HCE
      have hlp := plan_len hpp
      rw [setB_len] at hlp
      have HBE := Lib.hid (by have h := Best_yes (setB b k n n) (some ⟨g, 0, none⟩) cap x2.w HBF.out hbk; rw [heq] at h; exact h)
      have HBY := Lib.hid (fun (q : Option Addr) (cq : Nat) w' (kk : From x2.w w') (hi : IntsAt w' q pb) => (by
        have h := ByHand_yes (setB b k n n) (some ⟨g, 0, none⟩) cap q cq pb w' (HBF.out.below kk.b) hbk hi (by have := hlp; omega) (plan_nums_all HOKS.out hpp) hpp
        rw [heq] at h
        exact h))
      have HRX := Lib.hid (show Row x2.w x.w.heap.size #[.int .i64 b.pr, .int .i64 b.le, .int .i64 b.mo, .int .i64 b.gr, .slice (some ⟨g, 0, none⟩) b.hs.length cap] 24 from HX3.out)
      clear HX3 HP3 HB3 hbk heq hpb HBF
      have y0 := HRX.out.cell 0 (v := .int .i64 b.pr) rfl
      have y1 := HRX.out.cell 1 (v := .int .i64 b.le) rfl
      have y2 := HRX.out.cell 2 (v := .int .i64 b.mo) rfl
      have y3 := HRX.out.cell 3 (v := .int .i64 b.gr) rfl
      have y4 := HRX.out.cell 4 (v := .slice (some ⟨g, 0, none⟩) b.hs.length cap) rfl
      go_wp2_with fail
      refine HBE.out.mono ?_
      rintro e u ⟨qb, cb, rfl, hi, hbu⟩
      rw [hbq] at hi
      rw [hbq]
      have HP := Lib.hid hi
      have KF := Lib.hid ((From.refl x2.w).below hbu)
      obtain ⟨x3, hx3⟩ := x2.on hbu
      subst hx3
      clear hbu hi y0 y1 y2 y3 y4
      have HRX := Lib.hid (KF.out.row HRX.out)
      have y0 := HRX.out.cell 0 (v := .int .i64 b.pr) rfl
      have y1 := HRX.out.cell 1 (v := .int .i64 b.le) rfl
      have y2 := HRX.out.cell 2 (v := .int .i64 b.mo) rfl
      have y3 := HRX.out.cell 3 (v := .int .i64 b.gr) rfl
      have y4 := HRX.out.cell 4 (v := .slice (some ⟨g, 0, none⟩) b.hs.length cap) rfl
      go_wp2_with fail
      refine (HBY.out _ _ _ KF.out HP.out).mono ?_
      rintro e u ⟨ph, ch, rfl, _, hbu⟩
      obtain ⟨x4, hx4⟩ := x3.on hbu
      subst hx4
      clear hbu y0 y1 y2 y3 y4 HBY HBE HRX HP KF
      generalize (handL (setB b k n n) pb).length = hl at *
      obtain ⟨ca, hca⟩ : ∃ x, countAt b k n = x := ⟨_, rfl⟩
      rw [hca] at hcr HWS HCE
      clear hca
      have hch : ca = (hl : Int) := HCE.out
      have hn2 : n + 1 ≤ 201 := by omega
      go_wp2_with fail
      all_goals
        go_roundw
        case rel => exact ⟨j + 1, by have := HNE.out; omega, by have := HNE.out; congr 1; omega, by rw [HWS.out]; congr 1; omega, by rw [HWS.out]; omega, by rw [HWS.out]; omega, x4, rfl⟩
        case measure => simp [intOf]; omega
    · have HV := Lib.hid (show worstV b k = worstTo b k j by
        unfold worstV
        rw [HHA.out, HLO.out, HHI.out]
        congr 1
        omega)
      go_wp2_with fail
      go_ret
      exact ⟨by rw [HV.out]; rfl, x.base HE.out⟩
end Go.Proofs.Ytgdidhbomdfcpaa
/- Layer 5, in plain lists: the handful that is asked for is the first one of the least worst; counting it leaves no more by hand. -/
namespace Go.Proofs.Ytgdidhbomdfcpaa
open Go.RowKit

theorem minN_le (l : List Int) : ∀ k i, i < k → minN l k ≤ at0 l i
  | 0, i, h => by omega
  | k + 1, i, h => by
    have e : minN l (k + 1) = min (minN l k) (at0 l k) := rfl
    rw [e]
    by_cases hik : i = k
    · subst hik; omega
    · have := minN_le l k i (by omega)
      omega
theorem minN_mem (l : List Int) : ∀ k, 0 < k → ∃ i, i < k ∧ minN l k = at0 l i
  | 0, h => by omega
  | 1, _ => ⟨0, by omega, minN_one l⟩
  | k + 2, _ => by
    obtain ⟨i, hi, e⟩ := minN_mem l (k + 1) (by omega)
    have e2 : minN l (k + 2) = min (minN l (k + 1)) (at0 l (k + 1)) := rfl
    by_cases h : minN l (k + 1) ≤ at0 l (k + 1)
    · exact ⟨i, by omega, by rw [e2, ← e]; omega⟩
    · exact ⟨k + 1, by omega, by rw [e2]; omega⟩
theorem idxN_spec {l : List Int} {x : Int} (h : ∃ i, i < l.length ∧ x = at0 l i) : ∃ a : Nat, idxN l x = a ∧ a < l.length ∧ x = at0 l a ∧ ∀ i, i < a → x ≠ at0 l i := by
  unfold idxN
  cases hf : (List.range l.length).find? (fun i => decide (x = at0 l i)) with
  | none =>
    rw [List.find?_range_eq_none] at hf
    obtain ⟨i, hi, e⟩ := h
    have := hf i hi
    simp [e] at this
  | some a =>
    rw [List.find?_range_eq_some] at hf
    exact ⟨a, rfl, by simpa using hf.2.1, by simpa using hf.1, fun i hi => by have := hf.2.2 i hi; simpa using this⟩
theorem asksN_at {b : Bf} {k : Nat} (hk : k < b.hs.length) : at0 (asksN b b.hs.length) k = worstV b k := by
  rw [at0_lt (by rw [asksN_length]; exact hk)]
  simp [asksN, hk]
theorem ask_first {b : Bf} (h0 : 0 < b.hs.length) : ∃ a : Nat, askV b = a ∧ a < b.hs.length ∧ ∀ k, k < b.hs.length → worstV b a < worstV b k ∨ worstV b a = worstV b k ∧ a ≤ k := by
  obtain ⟨i, hi, e⟩ := minN_mem (asksN b b.hs.length) b.hs.length h0
  obtain ⟨a, h1, h2, h3, h4⟩ := idxN_spec (l := asksN b b.hs.length) (x := minN (asksN b b.hs.length) b.hs.length) ⟨i, by rw [asksN_length]; exact hi, e⟩
  rw [asksN_length] at h2
  refine ⟨a, h1, h2, fun k hk => ?_⟩
  have h5 := minN_le (asksN b b.hs.length) b.hs.length k hk
  rw [h3, asksN_at h2, asksN_at hk] at h5
  by_cases hka : k < a
  · have := h4 k hka
    rw [h3, asksN_at h2, asksN_at hk] at this
    exact .inl (by omega)
  · by_cases he : worstV b a = worstV b k
    · exact .inr ⟨he, by omega⟩
    · exact .inl (by omega)
theorem setB_easier {b : Bf} {k : Nat} (hk : k < b.hs.length) {n m : Int} (h1 : b.hs[k].lo ≤ n) (h2 : m ≤ b.hs[k].hi) : Easier b (setB b k n m) :=
  ⟨rfl, Int.le_refl _, Int.le_refl _, Int.le_refl _, setB_len b k n m, fun i h h' => by
    simp only [setB, List.getElem_set]
    split
    · rename_i e
      subst e
      exact ⟨h1, h2⟩
    · exact ⟨Int.le_refl _, Int.le_refl _⟩⟩
theorem worst_hand {b : Bf} (hok : BfOk b) {k : Nat} (hk : k < b.hs.length) : worstV b k ≤ ((handL b (bestQ b)).length : Int) := by
  have hH := hok.h _ (List.getElem_mem hk)
  obtain ⟨hl0, hl1, hl2, hl3⟩ := hH
  obtain ⟨p, hp, _, _⟩ := best_few hok
  have hbp : bestQ b = p := bestL_of hp
  have key : ∀ j : Nat, (j : Int) ≤ b.hs[k].hi - b.hs[k].lo + 1 → worstTo b k j ≤ ((handL b (bestQ b)).length : Int) := by
    intro j
    induction j with
    | zero => intro _; show (0 : Int) ≤ _; omega
    | succ j ih =>
      intro hj
      have h1 := ih (by omega)
      rw [worstTo, handAt_eq hk]
      have hok2 : BfOk (setB b k (b.hs[k].lo + j) (b.hs[k].lo + j)) := setB_ok hok _ _ ⟨show (0 : Int) ≤ b.hs[k].lo + j by omega, Int.le_refl _, show b.hs[k].lo + j ≤ 200 by omega, show b.hs[k].lo + j - (b.hs[k].lo + j) ≤ 10 by omega⟩
      obtain ⟨q, hq, _, _⟩ := best_few hok2
      have hbq : bestQ (setB b k (b.hs[k].lo + j) (b.hs[k].lo + j)) = q := bestL_of hq
      have h2 := Easier.best (setB_easier hk (n := b.hs[k].lo + j) (m := b.hs[k].lo + j) (by omega) (by omega)) hok hok2 hp hq
      unfold countAt
      rw [hbp] at h1 ⊢
      rw [hbq]
      omega
  unfold worstV
  rw [handAt_eq hk]
  exact key _ (by omega)
end Go.Proofs.Ytgdidhbomdfcpaa
/- The law FillLess: what allows more leaves no more boxes by hand. -/
namespace Go.Proofs.Ytgdidhbomdfcpaa
open Go.RowKit Go.Maps
attribute [local go_sem] Oper.semAt_some

/-- Handfuls in a list of one's own. -/
def OwnH (w : World) (lo : Nat) (q : Option Addr) (hs : List Hd) : Prop := hs.length = 0 ∧ (∃ z, q = some ⟨z, 0, none⟩ ∧ lo < z) ∨ ∃ g cur, q = some ⟨g, 0, none⟩ ∧ lo < g ∧ Row w g cur 27 ∧ HoldsH (cur[·]?) hs
theorem OwnH.hds {w : World} {lo : Nat} {q : Option Addr} {hs : List Hd} (h : OwnH w lo q hs) : HdsAt w q hs := by
  rcases h with ⟨h, _⟩ | ⟨g, cur, rfl, _, hr, hh⟩
  · exact fun i hi => by omega
  · exact hds_row hr hh
theorem OwnH.set {w : World} {lo : Nat} {q : Option Addr} {hs : List Hd} (h : OwnH w lo q hs) (i : Nat) (v : Value) : OwnH (w.setCell ⟨lo, i, none⟩ v) lo q hs := by
  rcases h with h | ⟨g, cur, e, hl, hr, hh⟩
  · exact .inl h
  · exact .inr ⟨g, cur, e, hl, hr.set_other _ _ (by dsimp only; omega), hh⟩
theorem OwnH.below {w w' : World} {lo : Nat} {q : Option Addr} {hs : List Hd} (h : OwnH w lo q hs) (hb : Below w.heap.size w w') : OwnH w' lo q hs := by
  rcases h with h | ⟨g, cur, e, hl, hr, hh⟩
  · exact .inl h
  · exact .inr ⟨g, cur, e, hl, hr.below hb hr.lt, hh⟩
theorem copied0 (w : World) (b : Bf) (p : Option Addr) (c : Nat) (h : HdsAt w p b.hs) (h3 : b.hs.length ≤ 10) (ty : TypeId) :
    ∃ q cap w', (Builtin.append_ #[22, 22] ty #[.slice (some ⟨w.heap.size + 1, 0, none⟩) 0 0, .slice p b.hs.length c]).run Try.prog ((w.alloc (.cells (bfA b p c) 24)).alloc (.cells #[] 27)) = .ok (.slice q b.hs.length cap) w' ∧
      Row w' w.heap.size (bfA b p c) 24 ∧ OwnH w' w.heap.size q b.hs ∧ b.hs.length ≤ cap ∧ Below w.heap.size w w' := by
  by_cases h0 : b.hs.length = 0
  · refine ⟨some ⟨w.heap.size + 1, 0, none⟩, 0, (w.alloc (.cells (bfA b p c) 24)).alloc (.cells #[] 27), ?_, (Row.new w _ _).alloc _, .inl ⟨h0, _, rfl, by omega⟩, by omega, below_alloc2 w _ _⟩
    obtain ⟨i0, hi, hi0, hi1, hi2⟩ := info_parts Try.infoSpan
    rw [h0]
    refine run_append_nothing _ 22 22 ty 27 i0 Try.underlying22 hi _ 0 0 (Nat.le_refl _) _ ?_
    cases p with
    | none => exact Src.ofNil _ Try.underlying22 c
    | some a => exact Src.ofSlice _ Try.underlying22 a 0 c [] (by simp) (fun j u h => by simp at h) (fun u h => by simp at h)
  · obtain ⟨bb, o, rfl, _⟩ := h 0 (by omega)
    obtain ⟨g, cap, cur, w', hr, hx, hrow, hg, hcap, hb, hh⟩ := copied w b bb o c h (by omega) h3 ty
    exact ⟨_, cap, w', hr, hx, .inr ⟨g, cur, rfl, by omega, hrow, hh⟩, hcap, hb⟩
theorem drawn_in {a b : Int} (n : Int) (h1 : -1000000000 ≤ a) (h2 : a ≤ b) (h3 : b ≤ 1000000000) : a ≤ drawn a b n ∧ drawn a b n ≤ b := by
  have hs := spin_range n (b - a + 1) (by omega)
  have hd : drawn a b n = a + spin n (b - a + 1) := by
    rw [drawn, IntWalk.wrap64_in (b - a) (by omega), IntWalk.wrap64_in (b - a + 1) (by omega), IntWalk.wrap64_in _ (by omega)]
  omega
/-- The other book, as it lies in its variable. -/
structure Other (w u : World) (X : Nat) (b y : Bf) (q : Option Addr) (cap : Nat) : Prop where
  r : Row u X (bfA y q cap) 24
  h : HdsAt u q y.hs
  c : y.hs.length ≤ cap
  e : Easier b y
  ok : BfOk y
  f : Below w.heap.size w u

set_option maxRecDepth 100000 in
set_option maxHeartbeats 6400000 in
theorem FillLess_any (b : Bf) (p : Option Addr) (c : Nat) (x0 x1 x2 x3 : Int) (w : World) (hB : BfAt w p c b) :
    Calls Try.prog 11 #[.agg (bfA b p c), .agg #[.int .i64 x0, .int .i64 x1, .int .i64 x2, .int .i64 x3]] w fun e w' => e = .returned (.bool true) ∧ Below w.heap.size w w' := by
  obtain ⟨W0, hW0⟩ : ∃ W, W = (w.alloc (.cells (bfA b p c) 24)).alloc (.cells #[.int .i64 x0, .int .i64 x1, .int .i64 x2, .int .i64 x3] 60) := ⟨_, rfl⟩
  have HW0 := Lib.hid hW0
  have HE := Lib.hid (show Below w.heap.size w W0 by rw [hW0]; exact below_alloc2 _ _ _)
  have HR := Lib.hid (show Row W0 w.heap.size (bfA b p c) 24 by rw [hW0]; exact (Row.new w _ _).alloc _)
  have HN := Lib.hid (show Row W0 (w.heap.size + 1) #[.int .i64 x0, .int .i64 x1, .int .i64 x2, .int .i64 x3] 60 by rw [hW0]; exact Row.new1 w _ _ _)
  have HB := Lib.hid (hB.below HE.out)
  have g0 := HR.out.cell 0 (v := .int .i64 b.pr) rfl
  have g1 := HR.out.cell 1 (v := .int .i64 b.le) rfl
  have g2 := HR.out.cell 2 (v := .int .i64 b.mo) rfl
  have g3 := HR.out.cell 3 (v := .int .i64 b.gr) rfl
  have g4 := HR.out.cell 4 (v := .slice p b.hs.length c) rfl
  have n0 := HN.out.cell 0 (v := .int .i64 x0) rfl
  have n1 := HN.out.cell 1 (v := .int .i64 x1) rfl
  have n2 := HN.out.cell 2 (v := .int .i64 x2) rfl
  have n3 := HN.out.cell 3 (v := .int .i64 x3) rfl
  clear hW0 hB
  obtain ⟨z0, hz0⟩ : ∃ z : Later W0, W0 = z.w := ⟨⟨W0, Below.refl _ _⟩, rfl⟩
  have HZ0 := Lib.hid hz0
  clear hz0
  cases hb : bookB b
  · have HK := Lib.hid (fun w' (k : From W0 w') => sound_no b p c w' (HB.out.below k.b) hb)
    clear hb
    go_enter Try.func11, Try.ntmps11
    go_wp2_with fail
    rw [← HW0.out, HZ0.out]
    refine (HK.out _ z0.fr).mono ?_
    rintro e u ⟨rfl, hbu⟩
    obtain ⟨z1, hz⟩ := z0.on hbu
    subst hz
    clear hbu
    go_wp2_with fail
    refine (filled_any _).mono ?_
    rintro e u ⟨rfl, hbu⟩
    obtain ⟨z2, hz⟩ := z1.on hbu
    subst hz
    clear hbu
    go_wp2_with fail
    go_ret
    exact ⟨rfl, z2.base HE.out⟩
  · have hok := bookB_iff.1 hb
    have hn8 := hok.n8
    have h1 := hok.p1
    have h2 := hok.p2
    have h3 := hok.l1
    have h4 := hok.l2
    have h5 := hok.l3
    have h6 := hok.m1
    have h7 := hok.m2
    have h8 := hok.g1
    have h9 := hok.g2
    have HOK := Lib.hid hok
    obtain ⟨pb, hpb, hpp, _⟩ := best_few hok
    have hbq : bestQ b = pb := bestL_of hpb
    have hlp := plan_len hpp
    have HPB := Lib.hid hpb
    have HK := Lib.hid (fun w' (k : From W0 w') => sound_yes b p c w' (HB.out.below k.b) hb)
    have HBE := Lib.hid (fun w' (k : From W0 w') => (by
      have h := Best_yes b p c w' (HB.out.below k.b) hb
      refine h.mono fun e w'' h => ?_
      obtain ⟨q, cq, h1, h2, h3⟩ := h
      rw [hbq] at h1 h2
      exact ⟨q, cq, h1, h2, h3⟩ : Calls Try.prog 31 #[.agg (bfA b p c)] w' (GaveList0 pb w')))
    have HBY := Lib.hid (fun (q : Option Addr) (cq : Nat) w' (k : From W0 w') (hi : IntsAt w' q pb) => ByHand_yes b p c q cq pb w' (HB.out.below k.b) hb hi (by omega) (plan_nums_all HOK.out hpp) hpp)
    have hs4 := spin_range x0 4 (by omega)
    obtain ⟨s4, e4⟩ : ∃ s, spin x0 4 = s := ⟨_, rfl⟩
    have HS4 := Lib.hid (fun w' => by have h := Spin_any x0 4 w' ⟨by omega, by omega⟩; rw [e4] at h; exact h)
    rw [e4] at hs4
    clear hb hok hbq e4 hpb hpp
    go_enter Try.func11, Try.ntmps11
    go_wp2_with fail
    rw [← HW0.out, HZ0.out]
    refine (HK.out _ z0.fr).mono ?_
    rintro e u ⟨rfl, hbu⟩
    obtain ⟨z1, hz⟩ := z0.on hbu
    subst hz
    clear hbu
    obtain ⟨q, cap, w1, hr, hx, hown, hcap, hbw⟩ := copied0 z1.w b p c (HB.out.h.below z1.b) (by omega) 22
    have HRUN := Lib.hid hr
    have HX := Lib.hid hx
    have HOWN := Lib.hid hown
    have HBW := Lib.hid hbw
    have a4 := (((HR.out.below z1.b HR.out.lt).alloc (.cells (bfA b p c) 24)).alloc (.cells #[] 27)).cell 4 (v := .slice p b.hs.length c) rfl
    have x4 := HX.out.cell 4 (v := .slice p b.hs.length c) rfl
    have x4f := HX.out.free 4
    clear hr hx hown hbw
    have HX2 := Lib.hid (show Row (w1.setCell ⟨z1.w.heap.size, 4, none⟩ (.slice q b.hs.length cap)) z1.w.heap.size (bfA b q cap) 24 from HX.out.set 4 (.slice q b.hs.length cap))
    have HOWN2 := Lib.hid (HOWN.out.set 4 (.slice q b.hs.length cap))
    have HBW2 := Lib.hid (show Below z1.w.heap.size z1.w (w1.setCell ⟨z1.w.heap.size, 4, none⟩ (.slice q b.hs.length cap)) from HBW.out.setCell (by dsimp only; omega) _)
    go_upto_region 5 with (first
      | (refine store_new rfl 24 _ _ rfl (bfA b p c) #[.int .i64 0, .int .i64 0, .int .i64 0, .int .i64 0, .slice none 0 0] 24 rfl rfl (by kernel_rfl) rfl (by simp [Value.oneCell', bfA]) ?_)
      | (at_builtin; refine wpList_append_run rfl _ _ _ _ rfl (.slice (some ⟨z1.w.heap.size + 1, 0, none⟩) 0 0) _ _ rfl rfl HRUN.out ?_))
    clear HRUN HX a4 x4 x4f HOWN HBW
    generalize w1.setCell ⟨z1.w.heap.size, 4, none⟩ (.slice q b.hs.length cap) = w2 at *
    have hzw := z1.b.size
    obtain ⟨X, hX⟩ : ∃ X, z1.w.heap.size = X := ⟨_, rfl⟩
    have HXE := Lib.hid hX
    have HBZ := Lib.hid HBW2.out
    rw [hX] at HX2 HOWN2 HBW2 hzw ⊢
    clear hX
    obtain ⟨z2, hz⟩ := z1.on HBZ.out
    subst hz
    go_wp2_with fail
    refine (HS4.out _).mono ?_
    rintro e u ⟨rfl, hu⟩
    subst hu
    by_cases h40 : s4 = 0
    · subst h40
      have hs5 := spin_range x1 5 (by omega)
      obtain ⟨s5, e5⟩ : ∃ s, spin x1 5 = s := ⟨_, rfl⟩
      have HS5 := Lib.hid (fun w' => by have h := Spin_any x1 5 w' ⟨by omega, by omega⟩; rw [e5] at h; exact h)
      rw [e5] at hs5
      clear e5
      obtain ⟨nv, hnv⟩ : ∃ x, min 50 (min (IntKind.i64.wrap (b.pr - 1)) (IntKind.i64.wrap (b.le + s5))) = x := ⟨_, rfl⟩
      have hnb : b.le ≤ nv ∧ nv ≤ 50 ∧ nv ≤ b.pr - 1 := by rw [IntWalk.i64_in (b.pr - 1) (by omega), IntWalk.i64_in (b.le + s5) (by omega)] at hnv; omega
      have HNV := Lib.hid hnv
      clear hnv
      have xc := HX2.out.cell 1 (v := .int .i64 b.le) rfl
      have xf := HX2.out.free 1
      go_upto_region 11 with (fail)
      have KI := Lib.hid z2.fr
      have HS := Lib.hid (fun w' (kk : From W0 w') => (⟨kk.cell g0, kk.cell g1, kk.cell n1⟩ : w'.cell? ⟨w.heap.size, 0, none⟩ = some (.int .i64 b.pr) ∧ w'.cell? ⟨w.heap.size, 1, none⟩ = some (.int .i64 b.le) ∧ w'.cell? ⟨w.heap.size + 1, 1, none⟩ = some (.int .i64 x1)))
      go_region_held3 (fun w' => w'.cell? ⟨w.heap.size, 0, none⟩ = some (.int .i64 b.pr) ∧ w'.cell? ⟨w.heap.size, 1, none⟩ = some (.int .i64 b.le) ∧ w'.cell? ⟨w.heap.size + 1, 1, none⟩ = some (.int .i64 x1))
        (first | with_reducible exact HS.out _ KI.out | with_reducible exact HS.out _ KI.out.drew | exact HS.out _ (From.drew ⟨KI.out.b.setCell (by dsimp only; omega) _⟩))
        (first | (go_at_call 48; (with_reducible refine (HS5.out _).mono ?_); rintro e u ⟨rfl, rfl⟩))
      go_upto_region 16 with (fail)
      rw [HNV.out]
      have HO := Lib.hid (show Other z1.w (z2.w.setCell ⟨X, 1, none⟩ (.int .i64 nv)).drew X b { b with le := nv } q cap from
        ⟨(HX2.out.set 1 (.int .i64 nv)).drew, ((HOWN2.out.set 1 (.int .i64 nv)).below (Below.refl _ _).drew).hds, hcap, ⟨rfl, hnb.1, Int.le_refl _, Int.le_refl _, rfl, fun i h h' => ⟨Int.le_refl _, Int.le_refl _⟩⟩, ⟨h1, h2, show (0 : Int) ≤ nv by omega, show nv ≤ 50 by omega, show nv ≤ b.pr - 1 by omega, h6, h7, h8, h9, hn8, HOK.out.h⟩, by rw [HXE.out]; exact (HBW2.out.setCell (by dsimp only; omega) _).drew⟩)
      generalize (z2.w.setCell ⟨X, 1, none⟩ (.int .i64 nv)).drew = w3 at *
      obtain ⟨z3, hz⟩ := z1.on HO.out.f
      subst hz
      obtain ⟨y, hy⟩ : ∃ y : Bf, { b with le := nv } = y := ⟨_, rfl⟩
      rw [hy] at HO
      clear hy xc xf HNV HX2 HOWN2 HBW2 HBZ
      have hyn : y.hs.length = b.hs.length := HO.out.e.n
      obtain ⟨pc, hpc, hpq, _⟩ := best_few HO.out.ok
      have hyq : bestQ y = pc := bestL_of hpc
      have hle := HO.out.e.best HOK.out HO.out.ok HPB.out hpc
      have hlc := plan_len hpq
      have hyk := bookB_iff.2 HO.out.ok
      have HYB := Lib.hid (show BfAt z3.w q cap y from ⟨HO.out.h, by rw [hyn]; exact HB.out.n, HO.out.c, ⟨by have := HO.out.ok.p1; omega, by have := HO.out.ok.p2; omega⟩⟩)
      have HCE := Lib.hid (fun w' (k : From z3.w w') => (by
        have h := Best_yes y q cap w' (HYB.out.below k.b) hyk
        refine h.mono fun e w'' h => ?_
        obtain ⟨q, cq, h1, h2, h3⟩ := h
        rw [hyq] at h1 h2
        exact ⟨q, cq, h1, h2, h3⟩ : Calls Try.prog 31 #[.agg (bfA y q cap)] w' (GaveList0 pc w')))
      have HCY := Lib.hid (fun (qc : Option Addr) (cq : Nat) w' (k : From z3.w w') (hi : IntsAt w' qc pc) => ByHand_yes y q cap qc cq pc w' (HYB.out.below k.b) hyk hi (by have := HO.out.ok.n8; omega) (plan_nums_all HO.out.ok hpq) hpq)
      have HRX := Lib.hid HO.out.r
      clear HO hyk hpc hyq hpq HYB hyn hlc
      go_wp2_with fail
      refine (HBE.out _ z3.fr).mono ?_
      rintro e u ⟨qb, cb, rfl, hi, hbu⟩
      have HP := Lib.hid hi
      have KF := Lib.hid ((From.refl z3.w).below hbu)
      obtain ⟨z4, hz⟩ := z3.on hbu
      subst hz
      clear hbu hi
      go_wp2_with fail
      refine (HBY.out _ _ _ z4.fr HP.out).mono ?_
      rintro e u ⟨ph, ch, rfl, _, hbu⟩
      have KF := Lib.hid (KF.out.below hbu)
      obtain ⟨z5, hz⟩ := z4.on hbu
      subst hz
      clear hbu HP
      have RX := Lib.hid (KF.out.row HRX.out)
      have y0 := RX.out.cell 0 (v := .int .i64 y.pr) rfl
      have y1 := RX.out.cell 1 (v := .int .i64 y.le) rfl
      have y2 := RX.out.cell 2 (v := .int .i64 y.mo) rfl
      have y3 := RX.out.cell 3 (v := .int .i64 y.gr) rfl
      have y4 := RX.out.cell 4 (v := .slice q y.hs.length cap) rfl
      go_wp2_with fail
      refine (HCE.out _ KF.out).mono ?_
      rintro e u ⟨qc, cc, rfl, hi, hbu⟩
      have HP := Lib.hid hi
      have KF := Lib.hid (KF.out.below hbu)
      obtain ⟨z6, hz⟩ := z5.on hbu
      subst hz
      clear hbu hi y0 y1 y2 y3 y4
      have RX := Lib.hid (KF.out.row HRX.out)
      have y0 := RX.out.cell 0 (v := .int .i64 y.pr) rfl
      have y1 := RX.out.cell 1 (v := .int .i64 y.le) rfl
      have y2 := RX.out.cell 2 (v := .int .i64 y.mo) rfl
      have y3 := RX.out.cell 3 (v := .int .i64 y.gr) rfl
      have y4 := RX.out.cell 4 (v := .slice q y.hs.length cap) rfl
      go_wp2_with fail
      refine (HCY.out _ _ _ KF.out HP.out).mono ?_
      rintro e u ⟨pm, cm, rfl, _, hbu⟩
      obtain ⟨z7, hz⟩ := z6.on hbu
      subst hz
      clear hbu y0 y1 y2 y3 y4 RX KF HP HCE HCY HRX
      generalize (handL b pb).length = lh at *
      generalize (handL y pc).length = lm at *
      have hle2 : (lm : Int) ≤ (lh : Int) := by omega
      go_wp2_with fail
      refine (filled_any _).mono ?_
      rintro e u ⟨rfl, hbu⟩
      obtain ⟨z8, hz⟩ := z7.on hbu
      subst hz
      clear hbu
      go_wp2_with fail
      go_ret
      exact ⟨rfl, z8.base HE.out⟩
    by_cases h41 : s4 = 1
    · subst h41
      have hs5 := spin_range x1 5 (by omega)
      obtain ⟨s5, e5⟩ : ∃ s, spin x1 5 = s := ⟨_, rfl⟩
      have HS5 := Lib.hid (fun w' => by have h := Spin_any x1 5 w' ⟨by omega, by omega⟩; rw [e5] at h; exact h)
      rw [e5] at hs5
      clear e5
      obtain ⟨nv, hnv⟩ : ∃ x, min 50 (IntKind.i64.wrap (b.mo + s5)) = x := ⟨_, rfl⟩
      have hnb : b.mo ≤ nv ∧ nv ≤ 50 := by rw [IntWalk.i64_in (b.mo + s5) (by omega)] at hnv; omega
      have HNV := Lib.hid hnv
      clear hnv
      have xc := HX2.out.cell 2 (v := .int .i64 b.mo) rfl
      have xf := HX2.out.free 2
      go_upto_region 13 with (fail)
      have KI := Lib.hid z2.fr
      have HS := Lib.hid (fun w' (kk : From W0 w') => (⟨kk.cell g2, kk.cell n1⟩ : w'.cell? ⟨w.heap.size, 2, none⟩ = some (.int .i64 b.mo) ∧ w'.cell? ⟨w.heap.size + 1, 1, none⟩ = some (.int .i64 x1)))
      go_region_held3 (fun w' => w'.cell? ⟨w.heap.size, 2, none⟩ = some (.int .i64 b.mo) ∧ w'.cell? ⟨w.heap.size + 1, 1, none⟩ = some (.int .i64 x1))
        (first | with_reducible exact HS.out _ KI.out | with_reducible exact HS.out _ KI.out.drew | exact HS.out _ (From.drew ⟨KI.out.b.setCell (by dsimp only; omega) _⟩))
        (first | (go_at_call 48; (with_reducible refine (HS5.out _).mono ?_); rintro e u ⟨rfl, rfl⟩))
      go_upto_region 16 with (fail)
      rw [HNV.out]
      have HO := Lib.hid (show Other z1.w (z2.w.setCell ⟨X, 2, none⟩ (.int .i64 nv)).drew X b { b with mo := nv } q cap from
        ⟨(HX2.out.set 2 (.int .i64 nv)).drew, ((HOWN2.out.set 2 (.int .i64 nv)).below (Below.refl _ _).drew).hds, hcap, ⟨rfl, Int.le_refl _, hnb.1, Int.le_refl _, rfl, fun i h h' => ⟨Int.le_refl _, Int.le_refl _⟩⟩, ⟨h1, h2, h3, h4, h5, show (0 : Int) ≤ nv by omega, show nv ≤ 50 by omega, h8, h9, hn8, HOK.out.h⟩, by rw [HXE.out]; exact (HBW2.out.setCell (by dsimp only; omega) _).drew⟩)
      generalize (z2.w.setCell ⟨X, 2, none⟩ (.int .i64 nv)).drew = w3 at *
      obtain ⟨z3, hz⟩ := z1.on HO.out.f
      subst hz
      obtain ⟨y, hy⟩ : ∃ y : Bf, { b with mo := nv } = y := ⟨_, rfl⟩
      rw [hy] at HO
      clear hy xc xf HNV HX2 HOWN2 HBW2 HBZ
      have hyn : y.hs.length = b.hs.length := HO.out.e.n
      obtain ⟨pc, hpc, hpq, _⟩ := best_few HO.out.ok
      have hyq : bestQ y = pc := bestL_of hpc
      have hle := HO.out.e.best HOK.out HO.out.ok HPB.out hpc
      have hlc := plan_len hpq
      have hyk := bookB_iff.2 HO.out.ok
      have HYB := Lib.hid (show BfAt z3.w q cap y from ⟨HO.out.h, by rw [hyn]; exact HB.out.n, HO.out.c, ⟨by have := HO.out.ok.p1; omega, by have := HO.out.ok.p2; omega⟩⟩)
      have HCE := Lib.hid (fun w' (k : From z3.w w') => (by
        have h := Best_yes y q cap w' (HYB.out.below k.b) hyk
        refine h.mono fun e w'' h => ?_
        obtain ⟨q, cq, h1, h2, h3⟩ := h
        rw [hyq] at h1 h2
        exact ⟨q, cq, h1, h2, h3⟩ : Calls Try.prog 31 #[.agg (bfA y q cap)] w' (GaveList0 pc w')))
      have HCY := Lib.hid (fun (qc : Option Addr) (cq : Nat) w' (k : From z3.w w') (hi : IntsAt w' qc pc) => ByHand_yes y q cap qc cq pc w' (HYB.out.below k.b) hyk hi (by have := HO.out.ok.n8; omega) (plan_nums_all HO.out.ok hpq) hpq)
      have HRX := Lib.hid HO.out.r
      clear HO hyk hpc hyq hpq HYB hyn hlc
      go_wp2_with fail
      refine (HBE.out _ z3.fr).mono ?_
      rintro e u ⟨qb, cb, rfl, hi, hbu⟩
      have HP := Lib.hid hi
      have KF := Lib.hid ((From.refl z3.w).below hbu)
      obtain ⟨z4, hz⟩ := z3.on hbu
      subst hz
      clear hbu hi
      go_wp2_with fail
      refine (HBY.out _ _ _ z4.fr HP.out).mono ?_
      rintro e u ⟨ph, ch, rfl, _, hbu⟩
      have KF := Lib.hid (KF.out.below hbu)
      obtain ⟨z5, hz⟩ := z4.on hbu
      subst hz
      clear hbu HP
      have RX := Lib.hid (KF.out.row HRX.out)
      have y0 := RX.out.cell 0 (v := .int .i64 y.pr) rfl
      have y1 := RX.out.cell 1 (v := .int .i64 y.le) rfl
      have y2 := RX.out.cell 2 (v := .int .i64 y.mo) rfl
      have y3 := RX.out.cell 3 (v := .int .i64 y.gr) rfl
      have y4 := RX.out.cell 4 (v := .slice q y.hs.length cap) rfl
      go_wp2_with fail
      refine (HCE.out _ KF.out).mono ?_
      rintro e u ⟨qc, cc, rfl, hi, hbu⟩
      have HP := Lib.hid hi
      have KF := Lib.hid (KF.out.below hbu)
      obtain ⟨z6, hz⟩ := z5.on hbu
      subst hz
      clear hbu hi y0 y1 y2 y3 y4
      have RX := Lib.hid (KF.out.row HRX.out)
      have y0 := RX.out.cell 0 (v := .int .i64 y.pr) rfl
      have y1 := RX.out.cell 1 (v := .int .i64 y.le) rfl
      have y2 := RX.out.cell 2 (v := .int .i64 y.mo) rfl
      have y3 := RX.out.cell 3 (v := .int .i64 y.gr) rfl
      have y4 := RX.out.cell 4 (v := .slice q y.hs.length cap) rfl
      go_wp2_with fail
      refine (HCY.out _ _ _ KF.out HP.out).mono ?_
      rintro e u ⟨pm, cm, rfl, _, hbu⟩
      obtain ⟨z7, hz⟩ := z6.on hbu
      subst hz
      clear hbu y0 y1 y2 y3 y4 RX KF HP HCE HCY HRX
      generalize (handL b pb).length = lh at *
      generalize (handL y pc).length = lm at *
      have hle2 : (lm : Int) ≤ (lh : Int) := by omega
      go_wp2_with fail
      refine (filled_any _).mono ?_
      rintro e u ⟨rfl, hbu⟩
      obtain ⟨z8, hz⟩ := z7.on hbu
      subst hz
      clear hbu
      go_wp2_with fail
      go_ret
      exact ⟨rfl, z8.base HE.out⟩
    by_cases h42 : s4 = 2
    · subst h42
      obtain ⟨nv, hnv⟩ : ∃ x, min 4 (b.gr + 1) = x := ⟨_, rfl⟩
      have hnb : b.gr ≤ nv ∧ nv ≤ 4 := by omega
      have HNV := Lib.hid hnv
      clear hnv
      have xc := HX2.out.cell 3 (v := .int .i64 b.gr) rfl
      have xf := HX2.out.free 3
      go_upto_region 16 with (fail)
      rw [HNV.out]
      have HO := Lib.hid (show Other z1.w (z2.w.setCell ⟨X, 3, none⟩ (.int .i64 nv)) X b { b with gr := nv } q cap from
        ⟨(HX2.out.set 3 (.int .i64 nv)), (HOWN2.out.set 3 (.int .i64 nv)).hds, hcap, ⟨rfl, Int.le_refl _, Int.le_refl _, hnb.1, rfl, fun i h h' => ⟨Int.le_refl _, Int.le_refl _⟩⟩, ⟨h1, h2, h3, h4, h5, h6, h7, show (1 : Int) ≤ nv by omega, show nv ≤ 4 by omega, hn8, HOK.out.h⟩, by rw [HXE.out]; exact (HBW2.out.setCell (by dsimp only; omega) _)⟩)
      generalize (z2.w.setCell ⟨X, 3, none⟩ (.int .i64 nv)) = w3 at *
      obtain ⟨z3, hz⟩ := z1.on HO.out.f
      subst hz
      obtain ⟨y, hy⟩ : ∃ y : Bf, { b with gr := nv } = y := ⟨_, rfl⟩
      rw [hy] at HO
      clear hy xc xf HNV HX2 HOWN2 HBW2 HBZ
      have hyn : y.hs.length = b.hs.length := HO.out.e.n
      obtain ⟨pc, hpc, hpq, _⟩ := best_few HO.out.ok
      have hyq : bestQ y = pc := bestL_of hpc
      have hle := HO.out.e.best HOK.out HO.out.ok HPB.out hpc
      have hlc := plan_len hpq
      have hyk := bookB_iff.2 HO.out.ok
      have HYB := Lib.hid (show BfAt z3.w q cap y from ⟨HO.out.h, by rw [hyn]; exact HB.out.n, HO.out.c, ⟨by have := HO.out.ok.p1; omega, by have := HO.out.ok.p2; omega⟩⟩)
      have HCE := Lib.hid (fun w' (k : From z3.w w') => (by
        have h := Best_yes y q cap w' (HYB.out.below k.b) hyk
        refine h.mono fun e w'' h => ?_
        obtain ⟨q, cq, h1, h2, h3⟩ := h
        rw [hyq] at h1 h2
        exact ⟨q, cq, h1, h2, h3⟩ : Calls Try.prog 31 #[.agg (bfA y q cap)] w' (GaveList0 pc w')))
      have HCY := Lib.hid (fun (qc : Option Addr) (cq : Nat) w' (k : From z3.w w') (hi : IntsAt w' qc pc) => ByHand_yes y q cap qc cq pc w' (HYB.out.below k.b) hyk hi (by have := HO.out.ok.n8; omega) (plan_nums_all HO.out.ok hpq) hpq)
      have HRX := Lib.hid HO.out.r
      clear HO hyk hpc hyq hpq HYB hyn hlc
      go_wp2_with fail
      refine (HBE.out _ z3.fr).mono ?_
      rintro e u ⟨qb, cb, rfl, hi, hbu⟩
      have HP := Lib.hid hi
      have KF := Lib.hid ((From.refl z3.w).below hbu)
      obtain ⟨z4, hz⟩ := z3.on hbu
      subst hz
      clear hbu hi
      go_wp2_with fail
      refine (HBY.out _ _ _ z4.fr HP.out).mono ?_
      rintro e u ⟨ph, ch, rfl, _, hbu⟩
      have KF := Lib.hid (KF.out.below hbu)
      obtain ⟨z5, hz⟩ := z4.on hbu
      subst hz
      clear hbu HP
      have RX := Lib.hid (KF.out.row HRX.out)
      have y0 := RX.out.cell 0 (v := .int .i64 y.pr) rfl
      have y1 := RX.out.cell 1 (v := .int .i64 y.le) rfl
      have y2 := RX.out.cell 2 (v := .int .i64 y.mo) rfl
      have y3 := RX.out.cell 3 (v := .int .i64 y.gr) rfl
      have y4 := RX.out.cell 4 (v := .slice q y.hs.length cap) rfl
      go_wp2_with fail
      refine (HCE.out _ KF.out).mono ?_
      rintro e u ⟨qc, cc, rfl, hi, hbu⟩
      have HP := Lib.hid hi
      have KF := Lib.hid (KF.out.below hbu)
      obtain ⟨z6, hz⟩ := z5.on hbu
      subst hz
      clear hbu hi y0 y1 y2 y3 y4
      have RX := Lib.hid (KF.out.row HRX.out)
      have y0 := RX.out.cell 0 (v := .int .i64 y.pr) rfl
      have y1 := RX.out.cell 1 (v := .int .i64 y.le) rfl
      have y2 := RX.out.cell 2 (v := .int .i64 y.mo) rfl
      have y3 := RX.out.cell 3 (v := .int .i64 y.gr) rfl
      have y4 := RX.out.cell 4 (v := .slice q y.hs.length cap) rfl
      go_wp2_with fail
      refine (HCY.out _ _ _ KF.out HP.out).mono ?_
      rintro e u ⟨pm, cm, rfl, _, hbu⟩
      obtain ⟨z7, hz⟩ := z6.on hbu
      subst hz
      clear hbu y0 y1 y2 y3 y4 RX KF HP HCE HCY HRX
      generalize (handL b pb).length = lh at *
      generalize (handL y pc).length = lm at *
      have hle2 : (lm : Int) ≤ (lh : Int) := by omega
      go_wp2_with fail
      refine (filled_any _).mono ?_
      rintro e u ⟨rfl, hbu⟩
      obtain ⟨z8, hz⟩ := z7.on hbu
      subst hz
      clear hbu
      go_wp2_with fail
      go_ret
      exact ⟨rfl, z8.base HE.out⟩
    · obtain rfl : s4 = 3 := by omega
      by_cases hn0 : b.hs.length = 0
      · have HSK := Lib.hid (fun w' => by have h := Spin_any x1 b.hs.length w' ⟨by omega, by omega⟩; rw [show spin x1 (b.hs.length : Int) = 0 by rw [hn0]; rfl] at h; exact h)
        have hlz : ¬ (0 : Int) < (b.hs.length : Int) := by omega
        have hlz2 : decide ((0 : Int) < (b.hs.length : Int)) = false := decide_eq_false hlz
        clear hn0
        go_wp2_with fail
        refine (HSK.out _).mono ?_
        rintro e u ⟨rfl, hu⟩
        subst hu
        go_upto_region 16 with (fail)
        have HO := Lib.hid (show Other z1.w z2.w X b b q cap from ⟨HX2.out, HOWN2.out.hds, hcap, ⟨rfl, Int.le_refl _, Int.le_refl _, Int.le_refl _, rfl, fun i h h' => ⟨Int.le_refl _, Int.le_refl _⟩⟩, HOK.out, HBZ.out⟩)
        clear HX2 HOWN2 HBW2 HBZ hlz hlz2 HSK
        obtain ⟨z3, hz3⟩ : ∃ z : Later W0, z2.w = z.w := ⟨z2, rfl⟩
        obtain ⟨y, hy⟩ : ∃ y : Bf, b = y := ⟨_, rfl⟩
        have HO := Lib.hid (show Other z1.w z3.w X b y q cap by rw [← hz3, ← hy]; exact HO.out)
        rw [hz3]
        clear hy hz3
        have hyn : y.hs.length = b.hs.length := HO.out.e.n
        obtain ⟨pc, hpc, hpq, _⟩ := best_few HO.out.ok
        have hyq : bestQ y = pc := bestL_of hpc
        have hle := HO.out.e.best HOK.out HO.out.ok HPB.out hpc
        have hlc := plan_len hpq
        have hyk := bookB_iff.2 HO.out.ok
        have HYB := Lib.hid (show BfAt z3.w q cap y from ⟨HO.out.h, by rw [hyn]; exact HB.out.n, HO.out.c, ⟨by have := HO.out.ok.p1; omega, by have := HO.out.ok.p2; omega⟩⟩)
        have HCE := Lib.hid (fun w' (k : From z3.w w') => (by
          have h := Best_yes y q cap w' (HYB.out.below k.b) hyk
          refine h.mono fun e w'' h => ?_
          obtain ⟨q, cq, h1, h2, h3⟩ := h
          rw [hyq] at h1 h2
          exact ⟨q, cq, h1, h2, h3⟩ : Calls Try.prog 31 #[.agg (bfA y q cap)] w' (GaveList0 pc w')))
        have HCY := Lib.hid (fun (qc : Option Addr) (cq : Nat) w' (k : From z3.w w') (hi : IntsAt w' qc pc) => ByHand_yes y q cap qc cq pc w' (HYB.out.below k.b) hyk hi (by have := HO.out.ok.n8; omega) (plan_nums_all HO.out.ok hpq) hpq)
        have HRX := Lib.hid HO.out.r
        clear HO hyk hpc hyq hpq HYB hyn hlc
        go_wp2_with fail
        refine (HBE.out _ z3.fr).mono ?_
        rintro e u ⟨qb, cb, rfl, hi, hbu⟩
        have HP := Lib.hid hi
        have KF := Lib.hid ((From.refl z3.w).below hbu)
        obtain ⟨z4, hz⟩ := z3.on hbu
        subst hz
        clear hbu hi
        go_wp2_with fail
        refine (HBY.out _ _ _ z4.fr HP.out).mono ?_
        rintro e u ⟨ph, ch, rfl, _, hbu⟩
        have KF := Lib.hid (KF.out.below hbu)
        obtain ⟨z5, hz⟩ := z4.on hbu
        subst hz
        clear hbu HP
        have RX := Lib.hid (KF.out.row HRX.out)
        have y0 := RX.out.cell 0 (v := .int .i64 y.pr) rfl
        have y1 := RX.out.cell 1 (v := .int .i64 y.le) rfl
        have y2 := RX.out.cell 2 (v := .int .i64 y.mo) rfl
        have y3 := RX.out.cell 3 (v := .int .i64 y.gr) rfl
        have y4 := RX.out.cell 4 (v := .slice q y.hs.length cap) rfl
        go_wp2_with fail
        refine (HCE.out _ KF.out).mono ?_
        rintro e u ⟨qc, cc, rfl, hi, hbu⟩
        have HP := Lib.hid hi
        have KF := Lib.hid (KF.out.below hbu)
        obtain ⟨z6, hz⟩ := z5.on hbu
        subst hz
        clear hbu hi y0 y1 y2 y3 y4
        have RX := Lib.hid (KF.out.row HRX.out)
        have y0 := RX.out.cell 0 (v := .int .i64 y.pr) rfl
        have y1 := RX.out.cell 1 (v := .int .i64 y.le) rfl
        have y2 := RX.out.cell 2 (v := .int .i64 y.mo) rfl
        have y3 := RX.out.cell 3 (v := .int .i64 y.gr) rfl
        have y4 := RX.out.cell 4 (v := .slice q y.hs.length cap) rfl
        go_wp2_with fail
        refine (HCY.out _ _ _ KF.out HP.out).mono ?_
        rintro e u ⟨pm, cm, rfl, _, hbu⟩
        obtain ⟨z7, hz⟩ := z6.on hbu
        subst hz
        clear hbu y0 y1 y2 y3 y4 RX KF HP HCE HCY HRX
        generalize (handL b pb).length = lh at *
        generalize (handL y pc).length = lm at *
        have hle2 : (lm : Int) ≤ (lh : Int) := by omega
        go_wp2_with fail
        refine (filled_any _).mono ?_
        rintro e u ⟨rfl, hbu⟩
        obtain ⟨z8, hz⟩ := z7.on hbu
        subst hz
        clear hbu
        go_wp2_with fail
        go_ret
        exact ⟨rfl, z8.base HE.out⟩
      · have hpos : 0 < b.hs.length := by omega
        have hsr := spin_range x1 b.hs.length (by omega)
        obtain ⟨k, hk⟩ : ∃ k : Nat, spin x1 b.hs.length = k := ⟨(spin x1 b.hs.length).toNat, by omega⟩
        have HSK := Lib.hid (fun w' => by have h := Spin_any x1 b.hs.length w' ⟨by omega, by omega⟩; rw [hk] at h; exact h)
        rw [hk] at hsr
        have hkn : k < b.hs.length := by omega
        have HKN := Lib.hid hkn
        clear hk
        obtain ⟨bb, o, rfl, c0, c1⟩ := HB.out.h k hkn
        have hl0 : 0 ≤ (b.hs[k]'hkn).lo := (HOK.out.h _ (List.getElem_mem hkn)).l0
        have hl1 : (b.hs[k]'hkn).lo ≤ (b.hs[k]'hkn).hi := (HOK.out.h _ (List.getElem_mem hkn)).l1
        have hl2 : (b.hs[k]'hkn).hi ≤ 200 := (HOK.out.h _ (List.getElem_mem hkn)).l2
        have hl3 : (b.hs[k]'hkn).hi - (b.hs[k]'hkn).lo ≤ 10 := (HOK.out.h _ (List.getElem_mem hkn)).l3
        have HEA := Lib.hid (fun (n m : Int) (e1 : (b.hs[k]'hkn).lo ≤ n) (e2 : m ≤ (b.hs[k]'hkn).hi) => setB_easier hkn e1 e2)
        obtain ⟨lo, hlo⟩ : ∃ x, (b.hs[k]'hkn).lo = x := ⟨_, rfl⟩
        obtain ⟨hi, hhi⟩ : ∃ x, (b.hs[k]'hkn).hi = x := ⟨_, rfl⟩
        rw [hlo] at hl0 hl1 hl3 c0 HEA
        rw [hhi] at hl1 hl2 hl3 c1 HEA
        clear hlo hhi
        obtain ⟨l, hl⟩ : ∃ x, drawn lo hi x2 = x := ⟨_, rfl⟩
        have hlr := drawn_in x2 (show -1000000000 ≤ lo by omega) hl1 (by omega)
        have HD1 := Lib.hid (fun w' => by have h := Drawn_any lo hi x2 w' (by omega) hl1 (by omega); rw [hl] at h; exact h)
        rw [hl] at hlr
        clear hl
        obtain ⟨m, hm⟩ : ∃ x, drawn l hi x3 = x := ⟨_, rfl⟩
        have hmr := drawn_in x3 (show -1000000000 ≤ l by omega) hlr.2 (by omega)
        have HD2 := Lib.hid (fun w' => by have h := Drawn_any l hi x3 w' (by omega) hlr.2 (by omega); rw [hm] at h; exact h)
        rw [hm] at hmr
        clear hm
        rcases HOWN2.out with ⟨hz, _⟩ | ⟨g, cur, rfl, hgx, hrow, hho⟩
        · omega
        have HG := Lib.hid hrow
        have HH := Lib.hid hho
        clear hrow hho
        have i1 : (0 : Int) ≤ (k : Int) := by omega
        have i2 : (k : Int) < (b.hs.length : Int) := by omega
        go_wp2_with fail
        refine (HSK.out _).mono ?_
        rintro e u ⟨rfl, hu⟩
        subst hu
        go_upto_region 8 with (fail)
        have KI := Lib.hid (From.refl z2.w)
        have HS := Lib.hid (fun w' (kk : From z2.w w') => (⟨kk.cell (z2.fr.cell g4), kk.cell (z2.fr.cell c0), kk.cell (z2.fr.cell c1), kk.cell (z2.fr.cell n2)⟩ : w'.cell? ⟨w.heap.size, 4, none⟩ = some (.slice (some ⟨bb, o, none⟩) b.hs.length c) ∧ w'.cell? ⟨bb, o + k * 2, none⟩ = some (.int .i64 lo) ∧ w'.cell? ⟨bb, o + k * 2 + 1, none⟩ = some (.int .i64 hi) ∧ w'.cell? ⟨w.heap.size + 1, 2, none⟩ = some (.int .i64 x2)))
        go_region_held3 (fun w' => w'.cell? ⟨w.heap.size, 4, none⟩ = some (.slice (some ⟨bb, o, none⟩) b.hs.length c) ∧ w'.cell? ⟨bb, o + k * 2, none⟩ = some (.int .i64 lo) ∧ w'.cell? ⟨bb, o + k * 2 + 1, none⟩ = some (.int .i64 hi) ∧ w'.cell? ⟨w.heap.size + 1, 2, none⟩ = some (.int .i64 x2))
          (first | with_reducible exact HS.out _ KI.out | with_reducible exact HS.out _ KI.out.drew)
          (first | (go_at_call 52; (with_reducible refine (HD1.out _).mono ?_); rintro e u ⟨rfl, hbu⟩; have KI := Lib.hid (by first | with_reducible exact KI.out.drew.below hbu | with_reducible exact KI.out.below hbu); clear hbu))
        go_upto_region 9 with (fail)
        have HS := Lib.hid (fun w' (kk : From z2.w w') => (⟨kk.cell (HX2.out.cell 4 rfl), kk.cell (z2.fr.cell g4), kk.cell (z2.fr.cell c1), kk.cell (z2.fr.cell n3)⟩ : w'.cell? ⟨X, 4, none⟩ = some (.slice (some ⟨g, 0, none⟩) b.hs.length cap) ∧ w'.cell? ⟨w.heap.size, 4, none⟩ = some (.slice (some ⟨bb, o, none⟩) b.hs.length c) ∧ w'.cell? ⟨bb, o + k * 2 + 1, none⟩ = some (.int .i64 hi) ∧ w'.cell? ⟨w.heap.size + 1, 3, none⟩ = some (.int .i64 x3)))
        obtain ⟨d0, d1⟩ := HH.out k HKN.out
        have HD0 := Lib.hid d0
        have HD3 := Lib.hid d1
        clear d0 d1
        have q0 := (KI.out.row HG.out).cell _ HD0.out
        have q1 := (KI.out.row HG.out).cell _ HD3.out
        have f0 := (KI.out.row HG.out).free (k * 2)
        have f1 := (KI.out.row HG.out).free (k * 2 + 1)
        go_region_held3 (fun w' => w'.cell? ⟨X, 4, none⟩ = some (.slice (some ⟨g, 0, none⟩) b.hs.length cap) ∧ w'.cell? ⟨w.heap.size, 4, none⟩ = some (.slice (some ⟨bb, o, none⟩) b.hs.length c) ∧ w'.cell? ⟨bb, o + k * 2 + 1, none⟩ = some (.int .i64 hi) ∧ w'.cell? ⟨w.heap.size + 1, 3, none⟩ = some (.int .i64 x3))
          (first | with_reducible exact HS.out _ KI.out | with_reducible exact HS.out _ KI.out.drew | with_reducible exact HS.out _ (KI.out.below (below_alloc _ _)) | with_reducible exact HS.out _ (KI.out.below (below_alloc _ _)).drew | exact ⟨(((KI.out.row HX2.out).set_other _ _ (by dsimp only; omega)).set_other _ _ (by dsimp only; omega)).cell 4 rfl, (show From W0 _ from ⟨((z2.b.trans (KI.out.b.mono z2.b.size)).setCell (by dsimp only; omega) _).setCell (by dsimp only; omega) _⟩).cell g4, (show From W0 _ from ⟨((z2.b.trans (KI.out.b.mono z2.b.size)).setCell (by dsimp only; omega) _).setCell (by dsimp only; omega) _⟩).cell c1, (show From W0 _ from ⟨((z2.b.trans (KI.out.b.mono z2.b.size)).setCell (by dsimp only; omega) _).setCell (by dsimp only; omega) _⟩).cell n3⟩)
          (first
            | (go_at_call 52; (with_reducible refine (HD2.out _).mono ?_); rintro e u ⟨rfl, hbu⟩; have KI := Lib.hid (by first | with_reducible exact KI.out.drew.below hbu | with_reducible exact KI.out.below hbu); clear q0 q1 f0 f1; have q0 := (KI.out.row HG.out).cell _ HD0.out; have q1 := (KI.out.row HG.out).cell _ HD3.out; have f0 := (KI.out.row HG.out).free (k * 2); have f1 := (KI.out.row HG.out).free (k * 2 + 1); clear hbu)
            | (go_at_call 53; (with_reducible refine (Sp_any _ _ _).mono ?_); rintro e u ⟨rfl, hbu⟩; have KI := Lib.hid (by first | with_reducible exact KI.out.drew.below hbu | with_reducible exact KI.out.below hbu); clear q0 q1 f0 f1; have q0 := (KI.out.row HG.out).cell _ HD0.out; have q1 := (KI.out.row HG.out).cell _ HD3.out; have f0 := (KI.out.row HG.out).free (k * 2); have f1 := (KI.out.row HG.out).free (k * 2 + 1); clear hbu))
        all_goals
          have HX3 := Lib.hid (((KI.out.row HX2.out).set_other ⟨g, k * 2, none⟩ (.int .i64 l) (by dsimp only; omega)).set_other ⟨g, k * 2 + 1, none⟩ (.int .i64 m) (by dsimp only; omega))
          have HP3 := Lib.hid (hds_row (((KI.out.row HG.out).set (k * 2) (.int .i64 l)).set (k * 2 + 1) (.int .i64 m)) (holds_set HH.out HKN.out l m))
          have HB3 := Lib.hid (show Below z1.w.heap.size z1.w ((u.setCell ⟨g, k * 2, none⟩ (.int .i64 l)).setCell ⟨g, k * 2 + 1, none⟩ (.int .i64 m)) by
            have hz := HBW2.out.size
            rw [HXE.out] at hz ⊢
            exact ((HBW2.out.trans (KI.out.b.mono hz)).setCell (by dsimp only; omega) _).setCell (by dsimp only; omega) _)
          have HO := Lib.hid (show Other z1.w ((u.setCell ⟨g, k * 2, none⟩ (.int .i64 l)).setCell ⟨g, k * 2 + 1, none⟩ (.int .i64 m)) X b (setB b k l m) (some ⟨g, 0, none⟩) cap from
            ⟨by rw [show bfA (setB b k l m) (some ⟨g, 0, none⟩) cap = #[.int .i64 b.pr, .int .i64 b.le, .int .i64 b.mo, .int .i64 b.gr, .slice (some ⟨g, 0, none⟩) (setB b k l m).hs.length cap] from rfl, setB_len]; exact HX3.out,
              HP3.out, by rw [setB_len]; exact hcap, HEA.out l m hlr.1 hmr.2, setB_ok HOK.out _ _ ⟨show (0 : Int) ≤ l by omega, hmr.1, show m ≤ 200 by omega, show m - l ≤ 10 by omega⟩, HB3.out⟩)
          clear HX3 HP3 HB3 KI q0 q1 f0 f1 HS HX2 HOWN2 HBW2 HBZ HG HH HD0 HD1 HD2 HD3 HEA HSK
          generalize (u.setCell ⟨g, k * 2, none⟩ (.int .i64 l)).setCell ⟨g, k * 2 + 1, none⟩ (.int .i64 m) = w3 at *
          obtain ⟨z3, hz⟩ := z1.on HO.out.f
          subst hz
          obtain ⟨y, hy⟩ : ∃ y : Bf, setB b k l m = y := ⟨_, rfl⟩
          obtain ⟨q, hq⟩ : ∃ q : Option Addr, some ⟨g, 0, none⟩ = q := ⟨_, rfl⟩
          rw [hy, hq] at HO
          clear hy hq
          have hyn : y.hs.length = b.hs.length := HO.out.e.n
          obtain ⟨pc, hpc, hpq, _⟩ := best_few HO.out.ok
          have hyq : bestQ y = pc := bestL_of hpc
          have hle := HO.out.e.best HOK.out HO.out.ok HPB.out hpc
          have hlc := plan_len hpq
          have hyk := bookB_iff.2 HO.out.ok
          have HYB := Lib.hid (show BfAt z3.w q cap y from ⟨HO.out.h, by rw [hyn]; exact HB.out.n, HO.out.c, ⟨by have := HO.out.ok.p1; omega, by have := HO.out.ok.p2; omega⟩⟩)
          have HCE := Lib.hid (fun w' (k : From z3.w w') => (by
            have h := Best_yes y q cap w' (HYB.out.below k.b) hyk
            refine h.mono fun e w'' h => ?_
            obtain ⟨q, cq, h1, h2, h3⟩ := h
            rw [hyq] at h1 h2
            exact ⟨q, cq, h1, h2, h3⟩ : Calls Try.prog 31 #[.agg (bfA y q cap)] w' (GaveList0 pc w')))
          have HCY := Lib.hid (fun (qc : Option Addr) (cq : Nat) w' (k : From z3.w w') (hi : IntsAt w' qc pc) => ByHand_yes y q cap qc cq pc w' (HYB.out.below k.b) hyk hi (by have := HO.out.ok.n8; omega) (plan_nums_all HO.out.ok hpq) hpq)
          have HRX := Lib.hid HO.out.r
          clear HO hyk hpc hyq hpq HYB hyn hlc
          go_wp2_with fail
          refine (HBE.out _ z3.fr).mono ?_
          rintro e u ⟨qb, cb, rfl, hi, hbu⟩
          have HP := Lib.hid hi
          have KF := Lib.hid ((From.refl z3.w).below hbu)
          obtain ⟨z4, hz⟩ := z3.on hbu
          subst hz
          clear hbu hi
          go_wp2_with fail
          refine (HBY.out _ _ _ z4.fr HP.out).mono ?_
          rintro e u ⟨ph, ch, rfl, _, hbu⟩
          have KF := Lib.hid (KF.out.below hbu)
          obtain ⟨z5, hz⟩ := z4.on hbu
          subst hz
          clear hbu HP
          have RX := Lib.hid (KF.out.row HRX.out)
          have y0 := RX.out.cell 0 (v := .int .i64 y.pr) rfl
          have y1 := RX.out.cell 1 (v := .int .i64 y.le) rfl
          have y2 := RX.out.cell 2 (v := .int .i64 y.mo) rfl
          have y3 := RX.out.cell 3 (v := .int .i64 y.gr) rfl
          have y4 := RX.out.cell 4 (v := .slice q y.hs.length cap) rfl
          go_wp2_with fail
          refine (HCE.out _ KF.out).mono ?_
          rintro e u ⟨qc, cc, rfl, hi, hbu⟩
          have HP := Lib.hid hi
          have KF := Lib.hid (KF.out.below hbu)
          obtain ⟨z6, hz⟩ := z5.on hbu
          subst hz
          clear hbu hi y0 y1 y2 y3 y4
          have RX := Lib.hid (KF.out.row HRX.out)
          have y0 := RX.out.cell 0 (v := .int .i64 y.pr) rfl
          have y1 := RX.out.cell 1 (v := .int .i64 y.le) rfl
          have y2 := RX.out.cell 2 (v := .int .i64 y.mo) rfl
          have y3 := RX.out.cell 3 (v := .int .i64 y.gr) rfl
          have y4 := RX.out.cell 4 (v := .slice q y.hs.length cap) rfl
          go_wp2_with fail
          refine (HCY.out _ _ _ KF.out HP.out).mono ?_
          rintro e u ⟨pm, cm, rfl, _, hbu⟩
          obtain ⟨z7, hz⟩ := z6.on hbu
          subst hz
          clear hbu y0 y1 y2 y3 y4 RX KF HP HCE HCY HRX
          generalize (handL b pb).length = lh at *
          generalize (handL y pc).length = lm at *
          have hle2 : (lm : Int) ≤ (lh : Int) := by omega
          go_wp2_with fail
          refine (filled_any _).mono ?_
          rintro e u ⟨rfl, hbu⟩
          obtain ⟨z8, hz⟩ := z7.on hbu
          subst hz
          clear hbu
          go_wp2_with fail
          go_ret
          exact ⟨rfl, z8.base HE.out⟩
end Go.Proofs.Ytgdidhbomdfcpaa
