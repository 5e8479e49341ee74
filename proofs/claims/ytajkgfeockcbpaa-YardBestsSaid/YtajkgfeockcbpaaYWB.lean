/- The law's own helpers of layer 6: a true distance, a choice that a number chooses. -/
import Derived.Test.YtajkgfeockcbpaaY41
import Derived.Test.YtajkgfeockcbpaaYWA
import Derived.Test.YtajkgfeockcbpaaY32
import Derived.Test.YtajkgfeockcbpaaLX
namespace Go.Proofs.Ytajkgfeockcbpaa
open Go.RowKit Go.Maps
attribute [local go_sem] Oper.semAt_some

set_option maxRecDepth 10000 in
set_option maxHeartbeats 1600000 in
theorem truly_any (b : Yb) (P : Yp) (s0 s1 t0 t1 : Int) (hs : spB (s0, s1) = true) (ht : spB (t0, t1) = true) (h0 : 0 ≤ b.err) (h1 : b.err ≤ 20) (p : Option Addr) (c : Nat) (xs : List Int) (hn : xs.length ≤ maxLen) (salt : Int) (w : World) (hI : IntsAt w p xs) :
    Calls Try.prog 88 #[.agg (ybA b P), .agg #[.int .i64 s0, .int .i64 s1], .agg #[.int .i64 t0, .int .i64 t1], .slice p xs.length c, .int .i64 salt] w fun e w' => e = .returned (.int .i64 (trulyV b.err (s0, s1) (t0, t1) xs salt)) ∧ Below w.heap.size w w' := by
  obtain ⟨W0, hW0⟩ : ∃ W, W = ((w.alloc (.cells (ybA b P) 25)).alloc (.cells #[.int .i64 s0, .int .i64 s1] 62)).alloc (.cells #[.int .i64 t0, .int .i64 t1] 62) := ⟨_, rfl⟩
  have HW0 := Lib.hid hW0
  have HE := Lib.hid (show Below w.heap.size w W0 by rw [hW0]; exact below_alloc3 _ _ _ _)
  have HRB := Lib.hid (show Row W0 w.heap.size (ybA b P) 25 by rw [hW0]; exact ((Row.new _ _ _).alloc _).alloc _)
  have HRS := Lib.hid (show Row W0 (w.heap.size + 1) #[.int .i64 s0, .int .i64 s1] 62 by rw [hW0]; exact (Row.new1 _ _ _ _).alloc _)
  have HRT := Lib.hid (show Row W0 (w.heap.size + 1 + 1) #[.int .i64 t0, .int .i64 t1] 62 by rw [hW0]; exact Row.new' (by simp) _ _)
  have g7 := HRB.out.cell 7 (v := .int .i64 b.err) rfl
  have a0 := HRS.out.cell 0 (v := .int .i64 s0) rfl
  have a1 := HRS.out.cell 1 (v := .int .i64 s1) rfl
  have b0 := HRT.out.cell 0 (v := .int .i64 t0) rfl
  have b1 := HRT.out.cell 1 (v := .int .i64 t1) rfl
  have HTO := Lib.hid (fun w' => told_law s0 s1 t0 t1 hs ht w')
  have ht0 := told_nn (s0, s1) (t0, t1)
  have ht1 := told_le hs ht
  have HV := Lib.hid (show trulyV b.err (s0, s1) (t0, t1) xs salt = max 0 (told (s0, s1) (t0, t1) - b.err + spin (item xs salt) (2 * b.err + 1)) from rfl)
  obtain ⟨tv, htv⟩ : ∃ t, told (s0, s1) (t0, t1) = t := ⟨_, rfl⟩
  rw [htv] at HTO HV ht0 ht1
  have HIT := Lib.hid (fun w' (h : Below W0.heap.size W0 w') => Item_any p c xs salt w' hn (hI.below (HE.out.trans (h.mono HE.out.size))))
  have HSP := Lib.hid (fun w' => Spin_any (item xs salt) (2 * b.err + 1) w' ⟨by omega, by omega⟩)
  have hsp := spin_range (item xs salt) (2 * b.err + 1) (by omega)
  obtain ⟨it, hit⟩ : ∃ i, item xs salt = i := ⟨_, rfl⟩
  rw [hit] at HIT HSP HV hsp
  obtain ⟨sp, hspe⟩ : ∃ i, spin it (2 * b.err + 1) = i := ⟨_, rfl⟩
  rw [hspe] at HSP HV hsp
  obtain ⟨d, hd⟩ : ∃ d, tv - b.err = d := ⟨_, rfl⟩
  obtain ⟨x, hx⟩ : ∃ x, d + sp = x := ⟨_, rfl⟩
  rw [hd, hx] at HV
  have e1 : IntKind.i64.wrap (tv - b.err) = d := by rw [hd]; exact IntWalk.i64_in _ (by omega)
  have e2 : IntKind.i64.wrap (2 * b.err) = 2 * b.err := IntWalk.i64_in _ (by omega)
  have e3 : IntKind.i64.wrap (2 * b.err + 1) = 2 * b.err + 1 := IntWalk.i64_in _ (by omega)
  have e4 : IntKind.i64.wrap (d + sp) = x := by rw [hx]; exact IntWalk.i64_in _ (by omega)
  clear hW0 hit hspe htv hd hx hs ht hI
  by_cases hA : 0 < x
  · have HM := Lib.hid (show max 0 x = x by omega)
    rw [HM.out] at HV
    go_enter Try.func88, Try.ntmps88
    go_upto_region 1 with (fail)
    rw [← HW0.out]
    refine wp_region_later (by kernel_rfl) (by kernel_rfl) ?_
    repeat (go_big_quiet_step (first
      | (go_at_call 45; with_reducible exact Calls.later_of (HTO.out _))
      | (go_at_call 90; with_reducible exact Calls.later_same (HIT.out _ (Later.b _)))
      | (go_at_call 44; with_reducible exact Calls.later_same (HSP.out _))))
    refine wpQuiet_nil ?_
    intro _ hw'
    obtain ⟨y, hw''⟩ := hw'
    subst hw''
    go_wp2_with fail
    go_ret
    exact ⟨by rw [HV.out]; rfl, y.base HE.out⟩
  · have HM := Lib.hid (show max 0 x = 0 by omega)
    rw [HM.out] at HV
    have hA' := eq_false hA
    go_enter Try.func88, Try.ntmps88
    go_upto_region 1 with (fail)
    rw [← HW0.out]
    refine wp_region_later (by kernel_rfl) (by kernel_rfl) ?_
    repeat (go_big_quiet_step (first
      | (go_at_call 45; with_reducible exact Calls.later_of (HTO.out _))
      | (go_at_call 90; with_reducible exact Calls.later_same (HIT.out _ (Later.b _)))
      | (go_at_call 44; with_reducible exact Calls.later_same (HSP.out _))))
    refine wpQuiet_nil ?_
    intro _ hw'
    obtain ⟨y, hw''⟩ := hw'
    subst hw''
    go_wp2_with fail
    go_ret
    exact ⟨by rw [HV.out]; rfl, y.base HE.out⟩
/-- A choice that a number chooses. -/
def drawnS (b : Yb) (set : Int) : Nat := (spin set ((2 ^ b.lots.length : Nat) : Int)).toNat
def drawnF (b : Yb) (set : Int) : Nat → Bool := setF b.lots.length (drawnS b set)
theorem drawnF_lt {b : Yb} {set : Int} {i : Nat} (h : drawnF b set i = true) : i < b.lots.length := setF_lt h
theorem drawn_spin {b : Yb} (hn : b.lots.length ≤ 7) (set : Int) : spin set ((2 ^ b.lots.length : Nat) : Int) = (drawnS b set : Int) ∧ drawnS b set < 256 := by
  have hp := pow_few (n := b.lots.length) (by omega)
  have h := spin_range set ((2 ^ b.lots.length : Nat) : Int) (by omega)
  unfold drawnS
  omega
/-- Numbers of a choice are returned. -/
def GaveSet (f : Nat → Bool) (w : World) (e : Ending) (w' : World) : Prop := ∃ q cq, e = .returned (.slice q (intsN (lotsL f)).length cq) ∧ IntsAt w' q (intsN (lotsL f)) ∧ Below w.heap.size w w'
set_option maxRecDepth 10000 in
set_option maxHeartbeats 1600000 in
theorem drawn_any (b : Yb) (P : Yp) (hn : b.lots.length ≤ 7) (set : Int) (w : World) :
    Calls Try.prog 42 #[.agg (ybA b P), .int .i64 set] w (GaveSet (drawnF b set) w) := by
  obtain ⟨W0, hW0⟩ : ∃ W, W = w.alloc (.cells (ybA b P) 25) := ⟨_, rfl⟩
  have HW0 := Lib.hid hW0
  have HE := Lib.hid (show Below w.heap.size w W0 by rw [hW0]; exact below_alloc _ _)
  have HRB := Lib.hid (show Row W0 w.heap.size (ybA b P) 25 by rw [hW0]; exact Row.new _ _ _)
  have g0 := HRB.out.cell 0 (v := .slice P.pl b.lots.length P.cl) rfl
  obtain ⟨hs, hs2⟩ := drawn_spin hn set
  have hp := pow_few (n := b.lots.length) (by omega)
  have HSP := Lib.hid (fun w' => (by have h := Spin_any set ((2 ^ b.lots.length : Nat) : Int) w' ⟨by omega, by omega⟩; rw [hs] at h; exact h))
  have HMK := Lib.hid (fun w' => Marks_any (drawnS b set) b.lots.length w' hs2 (by omega))
  rw [marksL_set hn] at HMK
  have HMF : Hid (∀ w', Calls Try.prog 49 #[.int .i64 (drawnS b set : Int), .int .i64 (b.lots.length : Int)] w' (GaveSet (drawnF b set) w')) := Lib.hid HMK.out
  obtain ⟨F, hF⟩ : ∃ F, drawnF b set = F := ⟨_, rfl⟩
  obtain ⟨s, hs'⟩ : ∃ s, drawnS b set = s := ⟨_, rfl⟩
  rw [hF] at HMF ⊢
  rw [hs'] at HSP HMF
  obtain ⟨N, hN⟩ : ∃ n, 2 ^ b.lots.length = n := ⟨_, rfl⟩
  rw [hN] at HSP hp
  have ex : wrap64 (2 ^ b.lots.length) = (N : Int) := by
    rw [show ((2 : Int) ^ b.lots.length) = (N : Int) by rw [← hN]; simp]
    exact IntWalk.wrap64_in _ (by omega)
  have ey : IntKind.i64.wrap (2 ^ b.lots.length) = (N : Int) := by
    rw [show ((2 : Int) ^ b.lots.length) = (N : Int) by rw [← hN]; simp]
    exact IntWalk.i64_in _ (by omega)
  have i7 : (b.lots.length : Int) ≤ 7 := by omega
  clear hW0 HMK hF hs' hs hs2 hN
  go_enter Try.func42, Try.ntmps42
  go_upto_region 1 with (fail)
  rw [← HW0.out]
  refine wp_region_late (S := fun w' => w'.cell? ⟨w.heap.size, 0, none⟩ = some (.slice P.pl b.lots.length P.cl)) 9 (by kernel_rfl) (by kernel_rfl) (by kernel_rfl) (by kernel_rfl) (by rfl) (HRB.out.cell 0 rfl) (fun hH => ?_)
  have KC := Lib.hid (show Below W0.heap.size W0 W0.drew from (Below.refl _ _).drew)
  obtain ⟨W1, hW1⟩ : ∃ z, W0.drew = z := ⟨_, rfl⟩
  rw [hW1] at hH KC ⊢
  clear hW1
  simp only [List.take_succ_cons, List.take_zero, List.drop_succ_cons, List.drop_zero, idled, List.map_cons, List.map_nil, idleOp, List.cons_append, List.nil_append, List.size_toArray, List.length_cons, List.length_nil, Nat.reduceAdd]
  refine wpAnyH_take_to 0 5 (.int .i64 set) rfl rfl (by kernel_rfl) (by kernel_rfl) (by kernel_rfl) (fun _ _ _ h => h) (Or.inl ⟨by rfl, fun w' hSw => by go_simp⟩) hH ?_
  refine wpAnyH_take_to 1 6 (.pointer (some ⟨w.heap.size, 0, none⟩)) rfl rfl (by kernel_rfl) (by kernel_rfl) (by kernel_rfl) (fun _ _ _ h => h) (Or.inl ⟨by rfl, fun w' hSw => by go_simp⟩) hH ?_
  refine wpAnyH_take_to 2 7 (.slice P.pl b.lots.length P.cl) rfl rfl (by kernel_rfl) (by kernel_rfl) (by kernel_rfl) (fun _ _ _ h => h) (Or.inl ⟨by rfl, fun w' hSw => by go_simp⟩) hH ?_
  refine wpAnyH_take_to 3 8 (.int .i64 (b.lots.length : Int)) rfl rfl (by kernel_rfl) (by kernel_rfl) (by kernel_rfl) (fun _ _ _ h => h) (Or.inl ⟨by rfl, fun w' hSw => by go_simp⟩) hH ?_
  refine wpAnyH_take_to 4 9 (.int .i64 (N : Int)) rfl rfl (by kernel_rfl) (by kernel_rfl) (by kernel_rfl) (fun _ _ _ h => h) (Or.inl ⟨by rfl, fun w' hSw => by go_simp⟩) hH ?_
  refine wpAnyH_take_to 6 11 (.pointer (some ⟨w.heap.size, 0, none⟩)) rfl rfl (by kernel_rfl) (by kernel_rfl) (by kernel_rfl) (fun _ _ _ h => h) (Or.inl ⟨by rfl, fun w' hSw => by go_simp⟩) hH ?_
  refine wpAnyH_take_to 7 12 (.slice P.pl b.lots.length P.cl) rfl rfl (by kernel_rfl) (by kernel_rfl) (by kernel_rfl) (fun _ _ _ h => h) (Or.inl ⟨by rfl, fun w' hSw => by go_simp⟩) hH ?_
  refine wpAnyH_take_to 8 13 (.int .i64 (b.lots.length : Int)) rfl rfl (by kernel_rfl) (by kernel_rfl) (by kernel_rfl) (fun _ _ _ h => h) (Or.inl ⟨by rfl, fun w' hSw => by go_simp⟩) hH ?_
  try simp only [List.setIfInBounds_toArray, List.set_cons_succ, List.set_cons_zero]
  refine wpAnyH_ready (rs := [5]) (by kernel_rfl) (by simp) (AllReadyH.cons rfl (fun K hK => ?_) AllReadyH.nil)
  go_simp
  refine (HSP.out _).mono ?_
  rintro e u ⟨rfl, rfl⟩
  refine hK.out _ _ ((HRB.out.below KC.out HRB.out.lt).cell 0 rfl) (fun hH => ?_)
  clear hK K
  try simp only [Act.put, List.setIfInBounds_toArray, List.set_cons_succ, List.set_cons_zero]
  refine wpAnyH_take (i := 9) (v := undef) rfl (by kernel_rfl) (by kernel_rfl) (by kernel_rfl) (fun _ _ _ h => h) (Or.inl ⟨by rfl, fun _ _ => by rfl⟩) hH ?_
  refine wpAnyH_take (i := 10) (v := undef) rfl (by kernel_rfl) (by kernel_rfl) (by kernel_rfl) (fun _ _ _ h => h) (Or.inl ⟨by rfl, fun _ _ => by rfl⟩) hH ?_
  refine wpAnyH_done (by kernel_rfl) ?_ _
  refine (id (α := wpList _ _ _ _ _ _) ?_)
  simp only [Act.put]
  go_wp2_with (first | (go_at_call 49; (with_reducible refine (HMF.out _).mono ?_); rintro e u ⟨q, cq, rfl, hi, hbu⟩; have HIQ := Lib.hid hi; have HBU := Lib.hid (HE.out.trans ((KC.out.trans (hbu.mono KC.out.size)).mono HE.out.size)); clear hi hbu))
  go_ret
  exact ⟨q, cq, rfl, HIQ.out, HBU.out⟩
end Go.Proofs.Ytajkgfeockcbpaa
/- The law's own helper of layer 6: is a lot truly near enough to one of some spots? -/
namespace Go.Proofs.Ytajkgfeockcbpaa
open Go.RowKit Go.Maps
attribute [local go_sem] Oper.semAt_some

def closeI (b : Yb) (lot : Nat) (l : List (Int × Int)) (most : Int) (xs : List Int) (salt : Int) (i : Nat) : Bool := decide (trulyV b.err (lotAt b lot).sp (l.getD i (0, 0)) xs (salt + 7 * (i : Int) + (lot : Int)) ≤ most)
theorem close_yes {b : Yb} {lot : Nat} {l : List (Int × Int)} {most : Int} {xs : List Int} {salt : Int} {k : Nat} (hk : k < l.length) (h : closeI b lot l most xs salt k = true) : closeV b lot l most xs salt = true :=
  List.any_eq_true.2 ⟨k, List.mem_range.2 hk, h⟩
theorem close_no {b : Yb} {lot : Nat} {l : List (Int × Int)} {most : Int} {xs : List Int} {salt : Int} (h : ∀ j, j < l.length → closeI b lot l most xs salt j = false) : closeV b lot l most xs salt = false := by
  unfold closeV
  rw [List.any_eq_false]
  intro i hi
  have := h i (List.mem_range.1 hi)
  unfold closeI at this
  rw [this]
  simp
set_option maxRecDepth 10000 in
set_option maxHeartbeats 1600000 in
theorem close_any (b : Yb) (P : Yp) (hok : YbOk b) (lot : Nat) (hlot : lot < b.lots.length) (p1 : Option Addr) (c1 : Nat) (l : List (Int × Int)) (hl4 : l.length ≤ 4) (hsp : ∀ s ∈ l, spB s = true) (most : Int) (p : Option Addr) (c : Nat) (xs : List Int) (hn : xs.length ≤ maxLen) (salt : Int) (hs0 : 0 ≤ salt) (hs1 : salt ≤ 100) (w : World) (hL : LotsAt w P.pl b.lots) (hS : SpotsAt w p1 l) (hI : IntsAt w p xs) :
    Calls Try.prog 87 #[.agg (ybA b P), .int .i64 (lot : Int), .slice p1 l.length c1, .int .i64 most, .slice p xs.length c, .int .i64 salt] w fun e w' => e = .returned (.bool (closeV b lot l most xs salt)) ∧ Below w.heap.size w w' := by
  obtain ⟨pl, cl, pd, cd, pb, cb, ps, cs⟩ := P
  dsimp only at hL
  obtain ⟨W0, hW0⟩ : ∃ W, W = w.alloc (.cells (ybA b ⟨pl, cl, pd, cd, pb, cb, ps, cs⟩) 25) := ⟨_, rfl⟩
  have HW0 := Lib.hid hW0
  have HE := Lib.hid (show Below w.heap.size w W0 by rw [hW0]; exact below_alloc _ _)
  have HRB := Lib.hid (show Row W0 w.heap.size (ybA b ⟨pl, cl, pd, cd, pb, cb, ps, cs⟩) 25 by rw [hW0]; exact Row.new _ _ _)
  have HS := Lib.hid (hS.below HE.out)
  have HSP := Lib.hid hsp
  have n7 := hok.n7
  have hq1 := lotAt_sp hok hlot
  have herr0 := hok.e0
  have herr1 := hok.e1
  obtain ⟨bl, ol, hpl, l0, l1, _, _⟩ := (hL.below HE.out).at hlot
  subst hpl
  have HTR := Lib.hid (fun (t0 t1 sl : Int) (ht : spB (t0, t1) = true) w' (h : From W0 w') => truly_any b ⟨some ⟨bl, ol, none⟩, cl, pd, cd, pb, cb, ps, cs⟩ (lotAt b lot).sp.1 (lotAt b lot).sp.2 t0 t1 hq1 ht herr0 herr1 p c xs hn sl w' ((hI.below HE.out).below h.b))
  have HCI : Hid (∀ k : Nat, closeI b lot l most xs salt k = decide (trulyV b.err ((lotAt b lot).sp.1, (lotAt b lot).sp.2) (l.getD k (0, 0)) xs (salt + 7 * (k : Int) + (lot : Int)) ≤ most)) := Lib.hid (fun k => rfl)
  have HY := Lib.hid (fun k hk h => close_yes (b := b) (lot := lot) (l := l) (most := most) (xs := xs) (salt := salt) (k := k) hk h)
  have HN := Lib.hid (fun h => close_no (b := b) (lot := lot) (l := l) (most := most) (xs := xs) (salt := salt) h)
  obtain ⟨CV, hcv⟩ : ∃ v, closeV b lot l most xs salt = v := ⟨_, rfl⟩
  obtain ⟨CI, hci⟩ : ∃ v, closeI b lot l most xs salt = v := ⟨_, rfl⟩
  rw [hcv] at HY HN ⊢
  rw [hci] at HCI HY HN
  generalize (lotAt b lot).sp.1 = s0 at *
  generalize (lotAt b lot).sp.2 = s1 at *
  have g0 := HRB.out.cell 0 (v := .slice (some ⟨bl, ol, none⟩) b.lots.length cl) rfl
  have g1 := HRB.out.cell 1 (v := .slice pd b.doors.length cd) rfl
  have g2 := HRB.out.cell 2 (v := .slice pb b.buckets.length cb) rfl
  have g3 := HRB.out.cell 3 (v := .slice ps b.spare.length cs) rfl
  have g4 := HRB.out.cell 4 (v := .int .i64 b.apart) rfl
  have g5 := HRB.out.cell 5 (v := .int .i64 b.door) rfl
  have g6 := HRB.out.cell 6 (v := .int .i64 b.bucket) rfl
  have g7 := HRB.out.cell 7 (v := .int .i64 b.err) rfl
  have z1 : (0 : Int) ≤ (lot : Int) := by omega
  have z2 : (lot : Int) < (b.lots.length : Int) := by omega
  have z3 : (b.lots.length : Int) ≤ 7 := by omega
  have HOKE := Lib.hid hok
  clear hW0 hS hsp hI hL hq1 hcv hci hok
  go_enter Try.func87, Try.ntmps87
  go_upto_region 1 with (fail)
  rw [← HW0.out]
  go_wp2_with fail
  go_loopw [13] (fun i wr => ∃ (k : Nat) (x : Later W0), k ≤ l.length ∧ i = .int .i64 (k : Int) ∧ Hid (∀ j, j < k → CI j = false) ∧ wr = x.w) (fun i _ => l.length - (intOf i).toNat)
  case atStart => exact ⟨0, ⟨W0, Below.refl _ _⟩, by omega, rfl, Lib.hid (fun j hj => absurd hj (Nat.not_lt_zero _)), rfl⟩
  case round =>
    obtain ⟨k, x, hk, rfl, HA, rfl⟩ := hrel
    by_cases hlt : k < l.length
    · obtain ⟨bq, oq, hp, q0, q1⟩ := HS.out k hlt
      have ht := HSP.out _ (List.getElem_mem hlt)
      have hgd : l.getD k (0, 0) = l[k] := by simp [List.getD, hlt]
      have hc := HCI.out k
      rw [hgd] at hc
      obtain ⟨t, htt⟩ : ∃ l', l[k] = l' := ⟨_, rfl⟩
      rw [htt] at q0 q1 ht hc
      obtain ⟨t0, t1⟩ := t
      subst hp
      have HT := Lib.hid (HTR.out t0 t1 (salt + 7 * (k : Int) + (lot : Int)) ht)
      obtain ⟨tv, htv⟩ : ∃ v, trulyV b.err (s0, s1) (t0, t1) xs (salt + 7 * (k : Int) + (lot : Int)) = v := ⟨_, rfl⟩
      rw [htv] at HT hc
      have HC := Lib.hid hc
      have i1 : (0 : Int) ≤ (k : Int) := by omega
      have i2 : (k : Int) < (l.length : Int) := by omega
      have e1 : IntKind.i64.wrap (7 * (k : Int)) = 7 * (k : Int) := IntWalk.i64_in _ (by omega)
      have e2 : IntKind.i64.wrap (salt + 7 * (k : Int)) = salt + 7 * (k : Int) := IntWalk.i64_in _ (by omega)
      have e3 : IntKind.i64.wrap (salt + 7 * (k : Int) + (lot : Int)) = salt + 7 * (k : Int) + (lot : Int) := IntWalk.i64_in _ (by omega)
      clear htt ht hgd hc htv HTR
      by_cases hle : tv ≤ most
      · have HV := Lib.hid (HY.out k hlt (by rw [HC.out]; exact decide_eq_true hle))
        go_wp2_with fail
        refine wp_region_later (by kernel_rfl) (by kernel_rfl) ?_
        repeat (go_big_quiet_step (first
          | (go_at_call 88; with_reducible exact Calls.later_of (HT.out _ (From.trans (Later.fr _) (Later.fr _))))))
        refine wpQuiet_nil ?_
        intro _ hw'
        obtain ⟨y, hw''⟩ := hw'
        subst hw''
        obtain ⟨x2, hx2⟩ := x.up y
        rw [hx2]
        clear hx2
        go_wp2_with fail
        go_ret
        exact ⟨by rw [HV.out]; rfl, x2.base HE.out⟩
      · have hle' := eq_false hle
        have HV := Lib.hid (show CI k = false by rw [HC.out]; exact decide_eq_false hle)
        go_wp2_with fail
        refine wp_region_later (by kernel_rfl) (by kernel_rfl) ?_
        repeat (go_big_quiet_step (first
          | (go_at_call 88; with_reducible exact Calls.later_of (HT.out _ (From.trans (Later.fr _) (Later.fr _))))))
        refine wpQuiet_nil ?_
        intro _ hw'
        obtain ⟨y, hw''⟩ := hw'
        subst hw''
        obtain ⟨x2, hx2⟩ := x.up y
        rw [hx2]
        clear hx2
        go_wp2_with fail
        go_roundw
        case rel => exact ⟨k + 1, x2, by omega, by go_num, Lib.hid (fun j hj => by
          by_cases e : j = k
          · subst e; exact HV.out
          · exact HA.out j (by omega)), rfl⟩
        case measure => simp [intOf]; omega
    · obtain rfl : k = l.length := by omega
      have HV := Lib.hid (HN.out HA.out)
      go_wp2_with fail
      go_ret
      exact ⟨by rw [HV.out]; rfl, x.base HE.out⟩
end Go.Proofs.Ytajkgfeockcbpaa
