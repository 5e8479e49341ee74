/- Layer 5, in plain lists: what allows more leaves no more boxes by hand. -/
import Derived.Test.YtgdidhbomdfcpaaF40
import Derived.Test.YtgdidhbomdfcpaaF39
import Derived.Deep.RegionHeld3
namespace Go.Proofs.Ytgdidhbomdfcpaa
open Go.RowKit

/-- A book that allows no less, and of which no less is known. -/
structure Easier (b x : Bf) : Prop where
  pr : x.pr = b.pr
  le : b.le ≤ x.le
  mo : b.mo ≤ x.mo
  gr : b.gr ≤ x.gr
  n : x.hs.length = b.hs.length
  h : ∀ i (h : i < b.hs.length) (h' : i < x.hs.length), b.hs[i].lo ≤ x.hs[i].lo ∧ x.hs[i].hi ≤ b.hs[i].hi
theorem sumF_le {f : Hd → Int} : ∀ {l m : List Hd}, l.length = m.length → (∀ i (h : i < l.length) (h' : i < m.length), f l[i] ≤ f m[i]) → sumF f l ≤ sumF f m
  | [], [], _, _ => Int.le_refl _
  | [], _ :: _, h, _ => by simp at h
  | _ :: _, [], h, _ => by simp at h
  | x :: l, y :: m, h, hx => by
    have h0 := hx 0 (by simp) (by simp)
    have h1 := sumF_le (f := f) (l := l) (m := m) (by simpa using h) (fun i hi hi' => by
      have := hx (i + 1) (by simpa using hi) (by simpa using hi')
      simpa using this)
    simp only [List.getElem_cons_zero] at h0
    have e1 : sumF f (x :: l) = f x + sumF f l := by simp [sumF]
    have e2 : sumF f (y :: m) = f y + sumF f m := by simp [sumF]
    rw [e1, e2]
    omega
section
variable {b x : Bf} (e : Easier b x)
include e
theorem Easier.part (a c : Nat) : loB b a c ≤ loB x a c ∧ hiB x a c ≤ hiB b a c := by
  have hl : (partL b.hs a c).length = (partL x.hs a c).length := by unfold partL; simp [e.n]
  have key : ∀ i (h : i < (partL b.hs a c).length) (h' : i < (partL x.hs a c).length), (partL b.hs a c)[i].lo ≤ (partL x.hs a c)[i].lo ∧ (partL x.hs a c)[i].hi ≤ (partL b.hs a c)[i].hi := by
    intro i h h'
    have hb : a + i < b.hs.length := by unfold partL at h; simp at h; omega
    have hx : a + i < x.hs.length := by rw [e.n]; exact hb
    have := e.h (a + i) hb hx
    simpa [partL] using this
  exact ⟨sumF_le (f := Hd.lo) hl fun i h h' => (key i h h').1, sumF_le (f := Hd.hi) hl.symm fun i h h' => (key i h' h).2⟩
theorem Easier.right (l : List Int) (i : Nat) (h : rightI b l i = true) : rightI x l i = true := by
  unfold rightI at *
  simp only [decide_eq_true_eq, kindS_zero] at *
  have hp := e.part (bgn l i).toNat (at0 l i).toNat
  have h1 := e.pr
  have h2 := e.le
  have h3 := e.mo
  unfold loI hiI at *
  omega
theorem Easier.hand (l : List Int) : ∀ k, (handTo x l k).length ≤ (handTo b l k).length
  | 0 => Nat.le_refl _
  | k + 1 => by
    have ih := Easier.hand l k
    rw [handTo_succ, handTo_succ]
    cases hb : rightI b l k
    · cases hx : rightI x l k <;> simp <;> omega
    · rw [e.right l k hb]
      simpa using ih
theorem Easier.plan {l : List Int} (h : planB b l = true) : planB x l = true := by
  unfold planB planTo at *
  rw [Bool.and_eq_true, List.all_eq_true] at *
  refine ⟨fun i hi => ?_, by rw [e.n]; exact h.2⟩
  have := h.1 i hi
  unfold boxI boxB at *
  simp only [decide_eq_true_eq] at *
  have := e.gr
  have := e.n
  omega
/-- The best plan of what allows more has no more boxes by hand. -/
theorem Easier.best (hb : BfOk b) (hx : BfOk x) {p q : List Int} (hp : bestO (rankQ b) (plansB b) = some p) (hq : bestO (rankQ x) (plansB x) = some q) : (handL x q).length ≤ (handL b p).length := by
  obtain ⟨p', h1, h2, _⟩ := best_few hb
  obtain ⟨q', h3, _, h4⟩ := best_few hx
  rw [hp] at h1
  rw [hq] at h3
  cases h1
  cases h3
  exact Nat.le_trans (h4 p (e.plan h2)).1 (e.hand p p.length)
end
end Go.Proofs.Ytgdidhbomdfcpaa
/- The law's own helper of layer 5: how many boxes are by hand, at the worst. -/
namespace Go.Proofs.Ytgdidhbomdfcpaa
open Go.RowKit Go.Maps
attribute [local go_sem] Oper.semAt_some

/-- A copy of a book in a variable, with handfuls of its own: the world behind it. -/
theorem copied (w : World) (b : Bf) (bb o c : Nat) (h : HdsAt w (some ⟨bb, o, none⟩) b.hs) (h1 : 0 < b.hs.length) (h3 : b.hs.length ≤ 10) (ty : TypeId) :
    ∃ g cap cur w', (Builtin.append_ #[22, 22] ty #[.slice (some ⟨w.heap.size + 1, 0, none⟩) 0 0, .slice (some ⟨bb, o, none⟩) b.hs.length c]).run Try.prog ((w.alloc (.cells (bfA b (some ⟨bb, o, none⟩) c) 24)).alloc (.cells #[] 27)) = .ok (.slice (some ⟨g, 0, none⟩) b.hs.length cap) w' ∧
      Row w' w.heap.size (bfA b (some ⟨bb, o, none⟩) c) 24 ∧ Row w' g cur 27 ∧ w.heap.size + 2 ≤ g ∧ b.hs.length ≤ cap ∧ Below w.heap.size w w' ∧ HoldsH (cur[·]?) b.hs := by
  obtain ⟨g, cap, cur, w', hr, hrow, hg, hcap, hb, hh⟩ := copy_hds ((w.alloc (.cells (bfA b (some ⟨bb, o, none⟩) c) 24)).alloc (.cells #[] 27)) b.hs bb o c (h.below (below_alloc2 _ _ _)) h1 h3 ty (w.heap.size + 1)
  simp at hg
  exact ⟨g, cap, cur, w', hr, ((Row.new w _ _).alloc _).below hb (by simp; omega), hrow, hg, hcap, (below_alloc2 w _ _).trans (hb.mono (by simp; omega)), hh⟩

set_option maxRecDepth 10000 in
set_option maxHeartbeats 1600000 in
theorem worst5_any (b : Bf) (p : Option Addr) (c k : Nat) (w : World) (hB : BfAt w p c b) (hok : BfOk b) (hk : k < b.hs.length) :
    Calls Try.prog 56 #[.agg (bfA b p c), .int .i64 k] w fun e w' => e = .returned (.int .i64 (worstV b k)) ∧ Below w.heap.size w w' := by
  have hn8 := hok.n8
  obtain ⟨W0, hW0⟩ : ∃ W, W = w.alloc (.cells (bfA b p c) 24) := ⟨_, rfl⟩
  have HW0 := Lib.hid hW0
  have HE := Lib.hid (show Below w.heap.size w W0 by rw [hW0]; exact below_alloc _ _)
  have HR := Lib.hid (show Row W0 w.heap.size (bfA b p c) 24 by rw [hW0]; exact Row.new w _ _)
  have HB := Lib.hid (hB.below HE.out)
  obtain ⟨bb, o, rfl, h0, h1⟩ := HB.out.h k hk
  have hH := hok.h _ (List.getElem_mem hk)
  have hl0 := hH.l0
  have hl1 := hH.l1
  have hl2 := hH.l2
  have hl3 := hH.l3
  have HOK := Lib.hid hok
  have HHA := Lib.hid (handAt_eq hk)
  have HSO := Lib.hid (fun n (hn : b.hs[k].lo ≤ n) (hn2 : n ≤ b.hs[k].hi) => setB_ok HOK.out (k := k) n n ⟨show (0 : Int) ≤ n by omega, Int.le_refl n, show n ≤ 200 by omega, show n - n ≤ 10 by omega⟩)
  have g0 := HR.out.cell 0 (v := .int .i64 b.pr) rfl
  have g1 := HR.out.cell 1 (v := .int .i64 b.le) rfl
  have g2 := HR.out.cell 2 (v := .int .i64 b.mo) rfl
  have g3 := HR.out.cell 3 (v := .int .i64 b.gr) rfl
  have g4 := HR.out.cell 4 (v := .slice (some ⟨bb, o, none⟩) b.hs.length c) rfl
  have i1 : (0 : Int) ≤ (k : Int) := by omega
  have i2 : (k : Int) < (b.hs.length : Int) := by omega
  obtain ⟨lo, hlo⟩ : ∃ x, b.hs[k].lo = x := ⟨_, rfl⟩
  obtain ⟨hi, hhi⟩ : ∃ x, b.hs[k].hi = x := ⟨_, rfl⟩
  rw [hlo] at h0 hl0 hl1 hl3 HSO
  rw [hhi] at h1 hl1 hl2 hl3 HSO
  have HLO := Lib.hid hlo
  have HHI := Lib.hid hhi
  have HK := Lib.hid hk
  have HN10 := Lib.hid (show b.hs.length ≤ 10 by omega)
  clear hW0 hB hok hH hlo hhi
  go_enter Try.func56, Try.ntmps56
  go_upto_region 2 with (fail)
  rw [← HW0.out]
  go_wp2_with fail
  go_loopw [5, 6] (fun m i wr => ∃ j : Nat, (j : Int) ≤ hi - lo + 1 ∧ i = .int .i64 (lo + j) ∧ m = .int .i64 (worstTo b k j) ∧ 0 ≤ worstTo b k j ∧ worstTo b k j ≤ 8 ∧ ∃ x : Later W0, wr = x.w) (fun _ i _ => 300 - (intOf i).toNat)
  case atStart => exact ⟨0, by omega, by simp, rfl, by simp [worstTo], by simp [worstTo], ⟨W0, Below.refl _ _⟩, rfl⟩
  case round =>
    obtain ⟨j, hj, rfl, rfl, hw0, hw8, x, rfl⟩ := hrel
    by_cases hlt : lo + j ≤ hi
    · have HOKS := Lib.hid (HSO.out (lo + j) (by omega) hlt)
      have hcr := countAt_range HOKS.out
      have HWS := Lib.hid (show worstTo b k (j + 1) = max (worstTo b k j) (countAt b k (lo + j)) by rw [worstTo, HHA.out, HLO.out])
      have HCE := Lib.hid (show countAt b k (lo + j) = ((handL (setB b k (lo + j) (lo + j)) (bestQ (setB b k (lo + j) (lo + j)))).length : Int) from rfl)
      obtain ⟨n, hn⟩ : ∃ n, lo + (j : Int) = n := ⟨_, rfl⟩
      rw [hn] at HOKS hcr HWS HCE hlt
      have HNE := Lib.hid hn
      have hn0 : 0 ≤ n := by omega
      rw [hn]
      clear hn
      generalize worstTo b k j = wj at *
      obtain ⟨g, cap, cur, w1, hr, hx, hrow, hg, hcap, hbw, hh⟩ := copied x.w b bb o c (HB.out.below x.b).h (by omega) (by omega) 22
      have HRUN := Lib.hid hr
      have HX := Lib.hid hx
      have HROW := Lib.hid hrow
      have HH := Lib.hid hh
      have HBW := Lib.hid hbw
      have x0 := HX.out.cell 4 (v := .slice (some ⟨bb, o, none⟩) b.hs.length c) rfl
      have x0f := HX.out.free 4
      have HX2 := Lib.hid (HX.out.set 4 (.slice (some ⟨g, 0, none⟩) b.hs.length cap))
      have HROW2 := Lib.hid (HROW.out.set_other ⟨x.w.heap.size, 4, none⟩ (.slice (some ⟨g, 0, none⟩) b.hs.length cap) (by dsimp only; omega))
      have HBW2 := Lib.hid (show Below x.w.heap.size x.w (w1.setCell ⟨x.w.heap.size, 4, none⟩ (.slice (some ⟨g, 0, none⟩) b.hs.length cap)) from HBW.out.setCell (by dsimp only; omega) _)
      obtain ⟨c0, c1⟩ := HH.out k HK.out
      have G0 := Lib.hid c0
      have G1 := Lib.hid c1
      have q0 := HROW2.out.cell _ c0
      have q1 := HROW2.out.cell _ c1
      have f0 := HROW2.out.free (k * 2)
      have f1 := HROW2.out.free (k * 2 + 1)
      have x2 := HX2.out.cell 4 (v := .slice (some ⟨g, 0, none⟩) b.hs.length cap) rfl
      have a4 := ((((HR.out.below x.b HR.out.lt)).alloc (.cells (bfA b (some ⟨bb, o, none⟩) c) 24)).alloc (.cells #[] 27)).cell 4 (v := .slice (some ⟨bb, o, none⟩) b.hs.length c) rfl
      clear hr hx hrow hh hbw c0 c1
      go_wp2_with (first
        | (refine store_new rfl 24 _ _ rfl (bfA b (some ⟨bb, o, none⟩) c) #[.int .i64 0, .int .i64 0, .int .i64 0, .int .i64 0, .slice none 0 0] 24 rfl rfl (by kernel_rfl) rfl (by simp [Value.oneCell', bfA]) ?_)
        | (at_builtin; refine wpList_append_run rfl _ _ _ _ rfl (.slice (some ⟨x.w.heap.size + 1, 0, none⟩) 0 0) _ _ rfl rfl HRUN.out ?_))
      clear HX HROW HRUN a4 x0 x0f q0 q1 f0 f1
      generalize w1.setCell ⟨x.w.heap.size, 4, none⟩ (.slice (some ⟨g, 0, none⟩) b.hs.length cap) = W at *
      have KI := Lib.hid (From.refl W)
      have HS := Lib.hid (fun w' (kk : From W w') => kk.cell x2)
      have hWz := HBW2.out.size
      clear x2
      have q0 := (KI.out.row HROW2.out).cell _ G0.out
      have q1 := (KI.out.row HROW2.out).cell _ G1.out
      have f0 := (KI.out.row HROW2.out).free (k * 2)
      have f1 := (KI.out.row HROW2.out).free (k * 2 + 1)
      go_region_held3 (fun w' => w'.cell? ⟨x.w.heap.size, 4, none⟩ = some (.slice (some ⟨g, 0, none⟩) b.hs.length cap)) (first | with_reducible exact HS.out _ KI.out | with_reducible exact HS.out _ KI.out.drew | exact (((KI.out.row HX2.out).set_other _ _ (by dsimp only; omega)).set_other _ _ (by dsimp only; omega)).cell 4 rfl)
        (first | (go_at_call 54; (with_reducible refine (Only_any _ _).mono ?_); rintro e u ⟨rfl, hbu⟩; have KI := Lib.hid (by first | with_reducible exact KI.out.drew.below hbu | with_reducible exact KI.out.below hbu); have q0 := (KI.out.row HROW2.out).cell _ G0.out; have q1 := (KI.out.row HROW2.out).cell _ G1.out; have f0 := (KI.out.row HROW2.out).free (k * 2); have f1 := (KI.out.row HROW2.out).free (k * 2 + 1); clear hbu))
      have HX3 := Lib.hid (((KI.out.row HX2.out).set_other ⟨g, k * 2, none⟩ (.int .i64 n) (by dsimp only; omega)).set_other ⟨g, k * 2 + 1, none⟩ (.int .i64 n) (by dsimp only; omega))
      have HP3 := Lib.hid (hds_row (((KI.out.row HROW2.out).set (k * 2) (.int .i64 n)).set (k * 2 + 1) (.int .i64 n)) (holds_set HH.out HK.out n n))
      have HB3 := Lib.hid (show Below x.w.heap.size x.w ((u.setCell ⟨g, k * 2, none⟩ (.int .i64 n)).setCell ⟨g, k * 2 + 1, none⟩ (.int .i64 n)) from ((HBW2.out.trans (KI.out.b.mono HBW2.out.size)).setCell (by dsimp only; omega) _).setCell (by dsimp only; omega) _)
      clear HROW2 HX2 KI HS HBW2 HBW HH q0 q1 f0 f1
      generalize (u.setCell ⟨g, k * 2, none⟩ (.int .i64 n)).setCell ⟨g, k * 2 + 1, none⟩ (.int .i64 n) = u2 at *
      have HBF := Lib.hid (show BfAt u2 (some ⟨g, 0, none⟩) cap (setB b k n n) from ⟨HP3.out, by rw [setB_len]; exact HB.out.n, by rw [setB_len]; exact hcap, HB.out.i1⟩)
      obtain ⟨x2, hx2⟩ := x.on HB3.out
      subst hx2
      have hbk := bookB_iff.2 HOKS.out
      have heq : bfA (setB b k n n) (some ⟨g, 0, none⟩) cap = #[.int .i64 b.pr, .int .i64 b.le, .int .i64 b.mo, .int .i64 b.gr, .slice (some ⟨g, 0, none⟩) b.hs.length cap] := by
        rw [show bfA (setB b k n n) (some ⟨g, 0, none⟩) cap = #[.int .i64 b.pr, .int .i64 b.le, .int .i64 b.mo, .int .i64 b.gr, .slice (some ⟨g, 0, none⟩) (setB b k n n).hs.length cap] from rfl, setB_len]
      obtain ⟨pb, hpb, hpp, _⟩ := best_few HOKS.out
      have hbq : bestQ (setB b k n n) = pb := bestL_of hpb
      rw [hbq] at HCE
      have hlp := plan_len hpp
      rw [setB_len] at hlp
      have HBE := Lib.hid (by have h := Best_yes (setB b k n n) (some ⟨g, 0, none⟩) cap x2.w HBF.out hbk; rw [heq] at h; exact h)
      have HBY := Lib.hid (fun (q : Option Addr) (cq : Nat) w' (kk : From x2.w w') (hi : IntsAt w' q pb) => (by
        have h := ByHand_yes (setB b k n n) (some ⟨g, 0, none⟩) cap q cq pb w' (HBF.out.below kk.b) hbk hi (by have := hlp; omega) (plan_nums_all HOKS.out hpp) hpp
        rw [heq] at h
        exact h))
      have HRX := Lib.hid (show Row x2.w x.w.heap.size #[.int .i64 b.pr, .int .i64 b.le, .int .i64 b.mo, .int .i64 b.gr, .slice (some ⟨g, 0, none⟩) b.hs.length cap] 24 from HX3.out)
      clear HX3 HP3 HB3 hbk heq hpb HBF
      have y0 := HRX.out.cell 0 (v := .int .i64 b.pr) rfl
      have y1 := HRX.out.cell 1 (v := .int .i64 b.le) rfl
      have y2 := HRX.out.cell 2 (v := .int .i64 b.mo) rfl
      have y3 := HRX.out.cell 3 (v := .int .i64 b.gr) rfl
      have y4 := HRX.out.cell 4 (v := .slice (some ⟨g, 0, none⟩) b.hs.length cap) rfl
      go_wp2_with fail
      refine HBE.out.mono ?_
      rintro e u ⟨qb, cb, rfl, hi, hbu⟩
      rw [hbq] at hi
      rw [hbq]
      have HP := Lib.hid hi
      have KF := Lib.hid ((From.refl x2.w).below hbu)
      obtain ⟨x3, hx3⟩ := x2.on hbu
      subst hx3
      clear hbu hi y0 y1 y2 y3 y4
      have HRX := Lib.hid (KF.out.row HRX.out)
      have y0 := HRX.out.cell 0 (v := .int .i64 b.pr) rfl
      have y1 := HRX.out.cell 1 (v := .int .i64 b.le) rfl
      have y2 := HRX.out.cell 2 (v := .int .i64 b.mo) rfl
      have y3 := HRX.out.cell 3 (v := .int .i64 b.gr) rfl
      have y4 := HRX.out.cell 4 (v := .slice (some ⟨g, 0, none⟩) b.hs.length cap) rfl
      go_wp2_with fail
      refine (HBY.out _ _ _ KF.out HP.out).mono ?_
      rintro e u ⟨ph, ch, rfl, _, hbu⟩
      obtain ⟨x4, hx4⟩ := x3.on hbu
      subst hx4
      clear hbu y0 y1 y2 y3 y4 HBY HBE HRX HP KF
      generalize (handL (setB b k n n) pb).length = hl at *
      obtain ⟨ca, hca⟩ : ∃ x, countAt b k n = x := ⟨_, rfl⟩
      rw [hca] at hcr HWS HCE
      clear hca
      have hch : ca = (hl : Int) := HCE.out
      have hn2 : n + 1 ≤ 201 := by omega
      go_wp2_with fail
      all_goals
        go_roundw
        case rel => exact ⟨j + 1, by have := HNE.out; omega, by have := HNE.out; congr 1; omega, by rw [HWS.out]; congr 1; omega, by rw [HWS.out]; omega, by rw [HWS.out]; omega, x4, rfl⟩
        case measure => simp [intOf]; omega
    · have HV := Lib.hid (show worstV b k = worstTo b k j by
        unfold worstV
        rw [HHA.out, HLO.out, HHI.out]
        congr 1
        omega)
      go_wp2_with fail
      go_ret
      exact ⟨by rw [HV.out]; rfl, x.base HE.out⟩
end Go.Proofs.Ytgdidhbomdfcpaa
/- Layer 5, in plain lists: the handful that is asked for is the first one of the least worst; counting it leaves no more by hand. -/
namespace Go.Proofs.Ytgdidhbomdfcpaa
open Go.RowKit

theorem minN_le (l : List Int) : ∀ k i, i < k → minN l k ≤ at0 l i
  | 0, i, h => by omega
  | k + 1, i, h => by
    have e : minN l (k + 1) = min (minN l k) (at0 l k) := rfl
    rw [e]
    by_cases hik : i = k
    · subst hik; omega
    · have := minN_le l k i (by omega)
      omega
theorem minN_mem (l : List Int) : ∀ k, 0 < k → ∃ i, i < k ∧ minN l k = at0 l i
  | 0, h => by omega
  | 1, _ => ⟨0, by omega, minN_one l⟩
  | k + 2, _ => by
    obtain ⟨i, hi, e⟩ := minN_mem l (k + 1) (by omega)
    have e2 : minN l (k + 2) = min (minN l (k + 1)) (at0 l (k + 1)) := rfl
    by_cases h : minN l (k + 1) ≤ at0 l (k + 1)
    · exact ⟨i, by omega, by rw [e2, ← e]; omega⟩
    · exact ⟨k + 1, by omega, by rw [e2]; omega⟩
theorem idxN_spec {l : List Int} {x : Int} (h : ∃ i, i < l.length ∧ x = at0 l i) : ∃ a : Nat, idxN l x = a ∧ a < l.length ∧ x = at0 l a ∧ ∀ i, i < a → x ≠ at0 l i := by
  unfold idxN
  cases hf : (List.range l.length).find? (fun i => decide (x = at0 l i)) with
  | none =>
    rw [List.find?_range_eq_none] at hf
    obtain ⟨i, hi, e⟩ := h
    have := hf i hi
    simp [e] at this
  | some a =>
    rw [List.find?_range_eq_some] at hf
    exact ⟨a, rfl, by simpa using hf.2.1, by simpa using hf.1, fun i hi => by have := hf.2.2 i hi; simpa using this⟩
theorem asksN_at {b : Bf} {k : Nat} (hk : k < b.hs.length) : at0 (asksN b b.hs.length) k = worstV b k := by
  rw [at0_lt (by rw [asksN_length]; exact hk)]
  simp [asksN, hk]
theorem ask_first {b : Bf} (h0 : 0 < b.hs.length) : ∃ a : Nat, askV b = a ∧ a < b.hs.length ∧ ∀ k, k < b.hs.length → worstV b a < worstV b k ∨ worstV b a = worstV b k ∧ a ≤ k := by
  obtain ⟨i, hi, e⟩ := minN_mem (asksN b b.hs.length) b.hs.length h0
  obtain ⟨a, h1, h2, h3, h4⟩ := idxN_spec (l := asksN b b.hs.length) (x := minN (asksN b b.hs.length) b.hs.length) ⟨i, by rw [asksN_length]; exact hi, e⟩
  rw [asksN_length] at h2
  refine ⟨a, h1, h2, fun k hk => ?_⟩
  have h5 := minN_le (asksN b b.hs.length) b.hs.length k hk
  rw [h3, asksN_at h2, asksN_at hk] at h5
  by_cases hka : k < a
  · have := h4 k hka
    rw [h3, asksN_at h2, asksN_at hk] at this
    exact .inl (by omega)
  · by_cases he : worstV b a = worstV b k
    · exact .inr ⟨he, by omega⟩
    · exact .inl (by omega)
theorem setB_easier {b : Bf} {k : Nat} (hk : k < b.hs.length) {n m : Int} (h1 : b.hs[k].lo ≤ n) (h2 : m ≤ b.hs[k].hi) : Easier b (setB b k n m) :=
  ⟨rfl, Int.le_refl _, Int.le_refl _, Int.le_refl _, setB_len b k n m, fun i h h' => by
    simp only [setB, List.getElem_set]
    split
    · rename_i e
      subst e
      exact ⟨h1, h2⟩
    · exact ⟨Int.le_refl _, Int.le_refl _⟩⟩
theorem worst_hand {b : Bf} (hok : BfOk b) {k : Nat} (hk : k < b.hs.length) : worstV b k ≤ ((handL b (bestQ b)).length : Int) := by
  have hH := hok.h _ (List.getElem_mem hk)
  obtain ⟨hl0, hl1, hl2, hl3⟩ := hH
  obtain ⟨p, hp, _, _⟩ := best_few hok
  have hbp : bestQ b = p := bestL_of hp
  have key : ∀ j : Nat, (j : Int) ≤ b.hs[k].hi - b.hs[k].lo + 1 → worstTo b k j ≤ ((handL b (bestQ b)).length : Int) := by
    intro j
    induction j with
    | zero => intro _; show (0 : Int) ≤ _; omega
    | succ j ih =>
      intro hj
      have h1 := ih (by omega)
      rw [worstTo, handAt_eq hk]
      have hok2 : BfOk (setB b k (b.hs[k].lo + j) (b.hs[k].lo + j)) := setB_ok hok _ _ ⟨show (0 : Int) ≤ b.hs[k].lo + j by omega, Int.le_refl _, show b.hs[k].lo + j ≤ 200 by omega, show b.hs[k].lo + j - (b.hs[k].lo + j) ≤ 10 by omega⟩
      obtain ⟨q, hq, _, _⟩ := best_few hok2
      have hbq : bestQ (setB b k (b.hs[k].lo + j) (b.hs[k].lo + j)) = q := bestL_of hq
      have h2 := Easier.best (setB_easier hk (n := b.hs[k].lo + j) (m := b.hs[k].lo + j) (by omega) (by omega)) hok hok2 hp hq
      unfold countAt
      rw [hbp] at h1 ⊢
      rw [hbq]
      omega
  unfold worstV
  rw [handAt_eq hk]
  exact key _ (by omega)
end Go.Proofs.Ytgdidhbomdfcpaa
/- Layer 5, in plain lists: what any so many handfuls have lies between what the least and the greatest ones have; a plan of equal boxes. -/
namespace Go.Proofs.Ytgdidhbomdfcpaa
open Go.RowKit

theorem sum_perm {l m : List Int} (h : l.Perm m) : l.sum = m.sum := by
  induction h with
  | nil => rfl
  | cons x _ ih => simp [ih]
  | swap x y l => simp; omega
  | trans _ _ h1 h2 => exact h1.trans h2
theorem least_sum : ∀ (s t r : List Int), s.Pairwise (fun a b => a ≤ b) → s.Perm (t ++ r) → (s.take t.length).sum ≤ t.sum
  | [], t, r, _, hp => by
    have := hp.length_eq
    simp at this
    have h1 : t = [] := List.eq_nil_of_length_eq_zero (by omega)
    subst h1
    simp
  | a :: s, t, r, hs, hp => by
    have hs' := (List.pairwise_cons.1 hs).2
    have ha := (List.pairwise_cons.1 hs).1
    by_cases hm : a ∈ t
    · have h1 := List.perm_cons_erase hm
      have h2 : s.Perm (t.erase a ++ r) := List.Perm.cons_inv (hp.trans (h1.append_right r))
      have ih := least_sum s (t.erase a) r hs' h2
      have h3 := sum_perm h1
      have h4 := h1.length_eq
      rw [List.length_cons] at h4
      rw [h4, List.take_succ_cons, List.sum_cons, h3, List.sum_cons]
      omega
    · have hr : a ∈ r := by
        have := hp.mem_iff.1 (List.mem_cons_self (a := a) (l := s))
        rcases List.mem_append.1 this with h | h
        · exact absurd h hm
        · exact h
      have h1 := List.perm_cons_erase hr
      have h2 : s.Perm (t ++ r.erase a) := List.Perm.cons_inv (a := a) (hp.trans ((h1.append_left t).trans List.perm_middle))
      have ih := least_sum s t (r.erase a) hs' h2
      have hl := h2.length_eq
      rw [List.length_append] at hl
      cases hk : t.length with
      | zero =>
        have h0 : t = [] := List.eq_nil_of_length_eq_zero hk
        subst h0
        simp
      | succ k =>
        rw [hk] at ih
        have hks : k < s.length := by omega
        rw [List.take_succ_cons, List.sum_cons]
        rw [List.take_succ_eq_append_getElem hks, List.sum_append, List.sum_singleton] at ih
        have := ha _ (List.getElem_mem hks)
        omega
theorem most_sum {s t r : List Int} (hs : s.Pairwise (fun a b => a ≤ b)) (hp : s.Perm (t ++ r)) : t.sum ≤ (s.drop (s.length - t.length)).sum := by
  have h1 := least_sum s r t hs (hp.trans List.perm_append_comm)
  have h2 := sum_perm hp
  have h3 := hp.length_eq
  rw [List.length_append] at h3
  rw [show s.length - t.length = r.length by omega]
  have h4 : s.sum = (s.take r.length).sum + (s.drop r.length).sum := by rw [← List.sum_append, List.take_append_drop]
  rw [List.sum_append] at h2
  omega
theorem part_perm (hs : List Hd) (a m : Nat) : hs.Perm (partL hs a (a + m) ++ (hs.take a ++ hs.drop (a + m))) := by
  have e : hs = hs.take a ++ (partL hs a (a + m) ++ hs.drop (a + m)) := by
    unfold partL
    rw [show a + m - a = m by omega, ← List.drop_drop, List.take_append_drop, List.take_append_drop]
  conv => lhs; rw [e]
  exact List.perm_append_comm_assoc _ _ _
theorem any_part {b : Bf} {a m : Nat} (h : a + m ≤ b.hs.length) : lowAny b m ≤ loB b a (a + m) ∧ hiB b a (a + m) ≤ highAny b m := by
  have hp := part_perm b.hs a m
  have hl : (partL b.hs a (a + m)).length = m := by unfold partL; simp; omega
  have key : ∀ f : Hd → Int, (sortL (endL f b.hs)).Perm ((partL b.hs a (a + m)).map f ++ (b.hs.take a ++ b.hs.drop (a + m)).map f) := fun f => by
    refine (sortL_perm _).trans ?_
    rw [← List.map_append]
    exact hp.map f
  refine ⟨?_, ?_⟩
  · have := least_sum _ _ _ (sortL_sorted _) (key Hd.lo)
    rw [List.length_map, hl] at this
    exact this
  · have := most_sum (sortL_sorted _) (key Hd.hi)
    rw [List.length_map, hl, sortL_length] at this
    unfold highAny
    have e : (endL Hd.hi b.hs).length = b.hs.length := by simp [endL]
    rw [e] at this
    exact this
/-- A plan of so many boxes of so many handfuls. -/
def evenL (m k : Nat) : List Int := (List.range k).map fun i => (((i + 1) * m : Nat) : Int)
theorem evenL_length (m k : Nat) : (evenL m k).length = k := by simp [evenL]
theorem evenL_at {m k i : Nat} (h : i < k) : at0 (evenL m k) i = (((i + 1) * m : Nat) : Int) := by
  rw [at0_lt (by rw [evenL_length]; exact h)]
  simp [evenL]
theorem evenL_succ (m k : Nat) : evenL m (k + 1) = evenL m k ++ [(((k + 1) * m : Nat) : Int)] := by simp [evenL, List.range_succ]
theorem evenL_bgn {m k i : Nat} (h : i ≤ k) : bgn (evenL m k) i = ((i * m : Nat) : Int) := by
  unfold bgn
  split
  · rename_i e; subst e; simp
  · rw [evenL_at (by omega), show i - 1 + 1 = i by omega]
theorem even_plan {b : Bf} {m k : Nat} (hm : 1 ≤ m) (hg : (m : Int) ≤ b.gr) (hn : b.hs.length = k * m) : planB b (evenL m k) = true := by
  unfold planB planTo
  rw [Bool.and_eq_true, List.all_eq_true, evenL_length]
  refine ⟨fun i hi => ?_, by rw [evenL_bgn (Nat.le_refl _), hn]; simp⟩
  have hi := List.mem_range.1 hi
  unfold boxI boxB
  rw [evenL_bgn (by omega), evenL_at hi]
  have h1 : (i + 1) * m = i * m + m := by rw [Nat.add_mul, Nat.one_mul]
  have h2 : (i + 1) * m ≤ k * m := Nat.mul_le_mul_right _ hi
  simp only [decide_eq_true_eq]
  rw [hn]
  generalize (i + 1) * m = u at *
  generalize i * m = v at *
  generalize k * m = w at *
  omega
theorem even_right {b : Bf} {m k : Nat} (hn : b.hs.length = k * m) (ha : b.pr - b.le ≤ lowAny b m ∧ highAny b m ≤ b.pr + b.mo) : handL b (evenL m k) = [] := by
  unfold handL handTo
  rw [List.map_eq_nil_iff, List.filter_eq_nil_iff, evenL_length]
  intro i hi
  have hi := List.mem_range.1 hi
  have h1 : (i + 1) * m = i * m + m := by rw [Nat.add_mul, Nat.one_mul]
  have h2 : (i + 1) * m ≤ k * m := Nat.mul_le_mul_right _ hi
  unfold rightI loI hiI
  rw [evenL_bgn (by omega), evenL_at hi, Int.toNat_natCast, Int.toNat_natCast, h1]
  have := any_part (b := b) (a := i * m) (m := m) (by omega)
  simp [kindS_zero]
  omega
end Go.Proofs.Ytgdidhbomdfcpaa
/- Layer 5, in plain lists: every plan of a few handfuls is that of a set; the most boxes that are right in one of them. -/
namespace Go.Proofs.Ytgdidhbomdfcpaa
open Go.RowKit Go.Maps
attribute [local go_sem] Oper.semAt_some

/-- Is a number in a set? As the machine reckons it. -/
def inS (s i : Nat) : Bool := bits BinOp.and IntKind.i64 ((s : Int) / 2 ^ i) 1 == 1
set_option maxRecDepth 10000 in
theorem In_any (s i : Nat) (w : World) (hs : s < 32) (hi : i < 8) :
    Calls Try.prog 47 #[.int .i64 s, .int .i64 i] w fun e w' => e = .returned (.bool (inS s i)) ∧ w = w' := by
  go_enter Try.func47, Try.ntmps47
  go_wp2_with fail
  go_ret
  exact ⟨rfl, rfl⟩
def halfL (s k : Nat) : List Int := ((List.range k).filter (inS s)).map fun i => ((i + 1 : Nat) : Int)
theorem halfL_succ (s k : Nat) : halfL s (k + 1) = if inS s k then halfL s k ++ [((k + 1 : Nat) : Int)] else halfL s k := by
  unfold halfL
  rw [List.range_succ, List.filter_append, List.map_append]
  cases h : inS s k <;> simp [h]
theorem halfL_length (s k : Nat) : (halfL s k).length ≤ k := by
  unfold halfL
  rw [List.length_map]
  exact Nat.le_trans (List.length_filter_le _ _) (by simp)
theorem halfL_mem {s k : Nat} {x : Int} (h : x ∈ halfL s k) : 0 ≤ x ∧ x ≤ k := by
  unfold halfL at h
  obtain ⟨i, hi, rfl⟩ := List.mem_map.1 h
  have := List.mem_range.1 (List.mem_filter.1 hi).1
  omega
/-- The plan that a set says. -/
def setP (n s : Nat) : List Int := halfL s (n - 1) ++ (if 0 < n then [(n : Int)] else [])
theorem setP_mem {n s : Nat} {x : Int} (h : x ∈ setP n s) : 0 ≤ x ∧ x ≤ n := by
  unfold setP at h
  rcases List.mem_append.1 h with h | h
  · have := halfL_mem h; omega
  · split at h
    · simp at h; omega
    · simp at h
theorem setP_length (n s : Nat) : (setP n s).length ≤ n + 1 := by
  unfold setP
  rw [List.length_append]
  have := halfL_length s (n - 1)
  split <;> simp <;> omega
theorem sets_all : ((List.range 7).all fun n => (List.range 5).all fun gr => (plansL gr n 0).all fun q => (List.range 32).any fun s => decide (setP n s = q)) = true := by decide +kernel
theorem set_of_plan {b : Bf} (hok : BfOk b) (h6 : b.hs.length ≤ 6) {q : List Int} (h : planB b q = true) : ∃ s, s < 32 ∧ setP b.hs.length s = q := by
  have h1 := List.all_eq_true.1 sets_all b.hs.length (List.mem_range.2 (by omega))
  have h2 := List.all_eq_true.1 h1 (grN b) (List.mem_range.2 (by unfold grN; have := hok.g2; omega))
  have h3 := List.all_eq_true.1 h2 q ((plansB_iff hok.g1 q).2 h)
  obtain ⟨s, hs, he⟩ := List.any_eq_true.1 h3
  exact ⟨s, List.mem_range.1 hs, by simpa using he⟩
/-- The most boxes that are right in the plans of the first sets. -/
def bestTo (b : Bf) : Nat → Int
  | 0 => 0
  | s + 1 => if planB b (setP b.hs.length s) then max (bestTo b s) (((setP b.hs.length s).length : Int) - ((handL b (setP b.hs.length s)).length : Int)) else bestTo b s
theorem bestTo_range {b : Bf} (hok : BfOk b) : ∀ s, 0 ≤ bestTo b s ∧ bestTo b s ≤ 8
  | 0 => by simp [bestTo]
  | s + 1 => by
    have ih := bestTo_range hok s
    unfold bestTo
    split
    · rename_i h
      have h1 := plan_len h
      have h2 := hok.n8
      have h3 := count_all b (setP b.hs.length s)
      omega
    · exact ih
theorem bestTo_mono {b : Bf} (s : Nat) : ∀ t, s ≤ t → bestTo b s ≤ bestTo b t
  | 0, h => by obtain rfl : s = 0 := by omega
               exact Int.le_refl _
  | t + 1, h => by
    by_cases e : s = t + 1
    · subst e; exact Int.le_refl _
    · have ih := bestTo_mono (b := b) s t (by omega)
      have : bestTo b t ≤ bestTo b (t + 1) := by
        conv => rhs; unfold bestTo
        split <;> omega
      omega
theorem bestTo_all {b : Bf} (hok : BfOk b) (h6 : b.hs.length ≤ 6) {pr : List Int} (hp : planB b pr = true) (hm : ∀ q, planB b q = true → (rightL b q).length ≤ (rightL b pr).length) : bestTo b 32 = ((rightL b pr).length : Int) := by
  have up : ∀ s, bestTo b s ≤ ((rightL b pr).length : Int) := by
    intro s
    induction s with
    | zero => simp [bestTo]
    | succ s ih =>
      unfold bestTo
      split
      · rename_i h
        have h1 := hm _ h
        have h2 := count_all b (setP b.hs.length s)
        omega
      · exact ih
  obtain ⟨s, hs, he⟩ := set_of_plan hok h6 hp
  have h1 : ((rightL b pr).length : Int) ≤ bestTo b (s + 1) := by
    unfold bestTo
    rw [he, if_pos hp]
    have := count_all b pr
    omega
  have h2 := bestTo_mono (b := b) (s + 1) 32 (by omega)
  have h3 := up 32
  omega
end Go.Proofs.Ytgdidhbomdfcpaa
