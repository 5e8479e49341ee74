/- The law's own helper of layer 6: is a lot truly near enough to one of some spots? -/
import Derived.Test.YtajkgfeockcbpaaY43
namespace Go.Proofs.Ytajkgfeockcbpaa
open Go.RowKit Go.Maps
attribute [local go_sem] Oper.semAt_some

def closeI (b : Yb) (lot : Nat) (l : List (Int × Int)) (most : Int) (xs : List Int) (salt : Int) (i : Nat) : Bool := decide (trulyV b.err (lotAt b lot).sp (l.getD i (0, 0)) xs (salt + 7 * (i : Int) + (lot : Int)) ≤ most)
theorem close_yes {b : Yb} {lot : Nat} {l : List (Int × Int)} {most : Int} {xs : List Int} {salt : Int} {k : Nat} (hk : k < l.length) (h : closeI b lot l most xs salt k = true) : closeV b lot l most xs salt = true :=
  List.any_eq_true.2 ⟨k, List.mem_range.2 hk, h⟩
theorem close_no {b : Yb} {lot : Nat} {l : List (Int × Int)} {most : Int} {xs : List Int} {salt : Int} (h : ∀ j, j < l.length → closeI b lot l most xs salt j = false) : closeV b lot l most xs salt = false := by
  unfold closeV
  rw [List.any_eq_false]
  intro i hi
  have := h i (List.mem_range.1 hi)
  unfold closeI at this
  rw [this]
  simp
set_option maxRecDepth 10000 in
set_option maxHeartbeats 1600000 in
theorem close_any (b : Yb) (P : Yp) (hok : YbOk b) (lot : Nat) (hlot : lot < b.lots.length) (p1 : Option Addr) (c1 : Nat) (l : List (Int × Int)) (hl4 : l.length ≤ 4) (hsp : ∀ s ∈ l, spB s = true) (most : Int) (p : Option Addr) (c : Nat) (xs : List Int) (hn : xs.length ≤ maxLen) (salt : Int) (hs0 : 0 ≤ salt) (hs1 : salt ≤ 100) (w : World) (hL : LotsAt w P.pl b.lots) (hS : SpotsAt w p1 l) (hI : IntsAt w p xs) :
    Calls Try.prog 87 #[.agg (ybA b P), .int .i64 (lot : Int), .slice p1 l.length c1, .int .i64 most, .slice p xs.length c, .int .i64 salt] w fun e w' => e = .returned (.bool (closeV b lot l most xs salt)) ∧ Below w.heap.size w w' := by
  obtain ⟨pl, cl, pd, cd, pb, cb, ps, cs⟩ := P
  dsimp only at hL
  obtain ⟨W0, hW0⟩ : ∃ W, W = w.alloc (.cells (ybA b ⟨pl, cl, pd, cd, pb, cb, ps, cs⟩) 25) := ⟨_, rfl⟩
  have HW0 := Lib.hid hW0
  have HE := Lib.hid (show Below w.heap.size w W0 by rw [hW0]; exact below_alloc _ _)
  have HRB := Lib.hid (show Row W0 w.heap.size (ybA b ⟨pl, cl, pd, cd, pb, cb, ps, cs⟩) 25 by rw [hW0]; exact Row.new _ _ _)
  have HS := Lib.hid (hS.below HE.out)
  have HSP := Lib.hid hsp
  have n7 := hok.n7
  have hq1 := lotAt_sp hok hlot
  have herr0 := hok.e0
  have herr1 := hok.e1
  obtain ⟨bl, ol, hpl, l0, l1, _, _⟩ := (hL.below HE.out).at hlot
  subst hpl
  have HTR := Lib.hid (fun (t0 t1 sl : Int) (ht : spB (t0, t1) = true) w' (h : From W0 w') => truly_any b ⟨some ⟨bl, ol, none⟩, cl, pd, cd, pb, cb, ps, cs⟩ (lotAt b lot).sp.1 (lotAt b lot).sp.2 t0 t1 hq1 ht herr0 herr1 p c xs hn sl w' ((hI.below HE.out).below h.b))
  have HCI : Hid (∀ k : Nat, closeI b lot l most xs salt k = decide (trulyV b.err ((lotAt b lot).sp.1, (lotAt b lot).sp.2) (l.getD k (0, 0)) xs (salt + 7 * (k : Int) + (lot : Int)) ≤ most)) := Lib.hid (fun k => rfl)
  have HY := Lib.hid (fun k hk h => close_yes (b := b) (lot := lot) (l := l) (most := most) (xs := xs) (salt := salt) (k := k) hk h)
  have HN := Lib.hid (fun h => close_no (b := b) (lot := lot) (l := l) (most := most) (xs := xs) (salt := salt) h)
  obtain ⟨CV, hcv⟩ : ∃ v, closeV b lot l most xs salt = v := ⟨_, rfl⟩
  obtain ⟨CI, hci⟩ : ∃ v, closeI b lot l most xs salt = v := ⟨_, rfl⟩
  rw [hcv] at HY HN ⊢
  rw [hci] at HCI HY HN
  generalize (lotAt b lot).sp.1 = s0 at *
  generalize (lotAt b lot).sp.2 = s1 at *
  have g0 := HRB.out.cell 0 (v := .slice (some ⟨bl, ol, none⟩) b.lots.length cl) rfl
  have g1 := HRB.out.cell 1 (v := .slice pd b.doors.length cd) rfl
  have g2 := HRB.out.cell 2 (v := .slice pb b.buckets.length cb) rfl
  have g3 := HRB.out.cell 3 (v := .slice ps b.spare.length cs) rfl
  have g4 := HRB.out.cell 4 (v := .int .i64 b.apart) rfl
  have g5 := HRB.out.cell 5 (v := .int .i64 b.door) rfl
  have g6 := HRB.out.cell 6 (v := .int .i64 b.bucket) rfl
  have g7 := HRB.out.cell 7 (v := .int .i64 b.err) rfl
  have z1 : (0 : Int) ≤ (lot : Int) := by omega
  have z2 : (lot : Int) < (b.lots.length : Int) := by omega
  have z3 : (b.lots.length : Int) ≤ 7 := by omega
  have HOKE := Lib.hid hok
  clear hW0 hS hsp hI hL hq1 hcv hci hok
  go_enter Try.func87, Try.ntmps87
  go_upto_region 1 with (fail)
  rw [← HW0.out]
  go_wp2_with fail
  go_loopw [13] (fun i wr => ∃ (k : Nat) (x : Later W0), k ≤ l.length ∧ i = .int .i64 (k : Int) ∧ Hid (∀ j, j < k → CI j = false) ∧ wr = x.w) (fun i _ => l.length - (intOf i).toNat)
  case atStart => exact ⟨0, ⟨W0, Below.refl _ _⟩, by omega, rfl, Lib.hid (fun j hj => absurd hj (Nat.not_lt_zero _)), rfl⟩
  case round =>
    obtain ⟨k, x, hk, rfl, HA, rfl⟩ := hrel
    by_cases hlt : k < l.length
    · obtain ⟨bq, oq, hp, q0, q1⟩ := HS.out k hlt
      have ht := HSP.out _ (List.getElem_mem hlt)
      have hgd : l.getD k (0, 0) = l[k] := by simp [List.getD, hlt]
      have hc := HCI.out k
      rw [hgd] at hc
      obtain ⟨t, htt⟩ : ∃ l', l[k] = l' := ⟨_, rfl⟩
      rw [htt] at q0 q1 ht hc
      obtain ⟨t0, t1⟩ := t
      subst hp
      have HT := Lib.hid (HTR.out t0 t1 (salt + 7 * (k : Int) + (lot : Int)) ht)
      obtain ⟨tv, htv⟩ : ∃ v, trulyV b.err (s0, s1) (t0, t1) xs (salt + 7 * (k : Int) + (lot : Int)) = v := ⟨_, rfl⟩
      rw [htv] at HT hc
      have HC := Lib.hid hc
      have i1 : (0 : Int) ≤ (k : Int) := by omega
      have i2 : (k : Int) < (l.length : Int) := by omega
      have e1 : IntKind.i64.wrap (7 * (k : Int)) = 7 * (k : Int) := IntWalk.i64_in _ (by omega)
      have e2 : IntKind.i64.wrap (salt + 7 * (k : Int)) = salt + 7 * (k : Int) := IntWalk.i64_in _ (by omega)
      have e3 : IntKind.i64.wrap (salt + 7 * (k : Int) + (lot : Int)) = salt + 7 * (k : Int) + (lot : Int) := IntWalk.i64_in _ (by omega)
      clear htt ht hgd hc htv HTR
      by_cases hle : tv ≤ most
      · have HV := Lib.hid (HY.out k hlt (by rw [HC.out]; exact decide_eq_true hle))
        go_wp2_with fail
        refine wp_region_later (by kernel_rfl) (by kernel_rfl) ?_
        repeat (go_big_quiet_step (first
          | (go_at_call 88; with_reducible exact Calls.later_of (HT.out _ (From.trans (Later.fr _) (Later.fr _))))))
        refine wpQuiet_nil ?_
        intro _ hw'
        obtain ⟨y, hw''⟩ := hw'
        subst hw''
        obtain ⟨x2, hx2⟩ := x.up y
        rw [hx2]
        clear hx2
        go_wp2_with fail
        go_ret
        exact ⟨by rw [HV.out]; rfl, x2.base HE.out⟩
      · have hle' := eq_false hle
        have HV := Lib.hid (show CI k = false by rw [HC.out]; exact decide_eq_false hle)
        go_wp2_with fail
        refine wp_region_later (by kernel_rfl) (by kernel_rfl) ?_
        repeat (go_big_quiet_step (first
          | (go_at_call 88; with_reducible exact Calls.later_of (HT.out _ (From.trans (Later.fr _) (Later.fr _))))))
        refine wpQuiet_nil ?_
        intro _ hw'
        obtain ⟨y, hw''⟩ := hw'
        subst hw''
        obtain ⟨x2, hx2⟩ := x.up y
        rw [hx2]
        clear hx2
        go_wp2_with fail
        go_roundw
        case rel => exact ⟨k + 1, x2, by omega, by go_num, Lib.hid (fun j hj => by
          by_cases e : j = k
          · subst e; exact HV.out
          · exact HA.out j (by omega)), rfl⟩
        case measure => simp [intOf]; omega
    · obtain rfl : k = l.length := by omega
      have HV := Lib.hid (HN.out HA.out)
      go_wp2_with fail
      go_ret
      exact ⟨by rw [HV.out]; rfl, x.base HE.out⟩
end Go.Proofs.Ytajkgfeockcbpaa
