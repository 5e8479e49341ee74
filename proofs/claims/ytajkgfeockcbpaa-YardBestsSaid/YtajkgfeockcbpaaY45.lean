/- The law's own helper of layer 6: is a choice truly allowed? -/
import Derived.Test.YtajkgfeockcbpaaYWB
namespace Go.Proofs.Ytajkgfeockcbpaa
open Go.RowKit Go.Maps
attribute [local go_sem] Oper.semAt_some

theorem held_yes {b : Yb} {m : List Nat} {xs : List Int} (h : ∀ j, j < m.length → heldI b m xs j = true) : heldV b m xs = true := List.all_eq_true.2 fun i hi => h i (List.mem_range.1 hi)
theorem held_no {b : Yb} {m : List Nat} {xs : List Int} {k : Nat} (hk : k < m.length) (h : heldI b m xs k = false) : heldV b m xs = false := by
  unfold heldV
  rw [List.all_eq_false]
  exact ⟨k, List.mem_range.2 hk, by rw [h]; simp⟩
theorem heldI_all {b : Yb} {m : List Nat} {xs : List Int} {i v : Nat} (hv : m.getD i 0 = v) (h1 : closeV b v b.doors b.door xs 3 = true) (h2 : closeV b v b.buckets b.bucket xs 5 = true) (h : ∀ k, k < i → apartV b xs (m.getD k 0) v = true) : heldI b m xs i = true := by
  unfold heldI
  rw [hv, h1, h2, List.all_eq_true.2 fun k hk => h k (List.mem_range.1 hk)]
  rfl
theorem heldI_door {b : Yb} {m : List Nat} {xs : List Int} {i v : Nat} (hv : m.getD i 0 = v) (h1 : closeV b v b.doors b.door xs 3 = false) : heldI b m xs i = false := by
  unfold heldI
  rw [hv, h1]
  rfl
theorem heldI_bucket {b : Yb} {m : List Nat} {xs : List Int} {i v : Nat} (hv : m.getD i 0 = v) (h1 : closeV b v b.buckets b.bucket xs 5 = false) : heldI b m xs i = false := by
  unfold heldI
  rw [hv, h1]
  simp
theorem heldI_apart {b : Yb} {m : List Nat} {xs : List Int} {i v k : Nat} (hv : m.getD i 0 = v) (hk : k < i) (h1 : apartV b xs (m.getD k 0) v = false) : heldI b m xs i = false := by
  unfold heldI
  rw [hv, List.all_eq_false.2 ⟨k, List.mem_range.2 hk, by rw [h1]; simp⟩]
  simp
set_option maxRecDepth 10000 in
set_option maxHeartbeats 3200000 in
theorem held_any (b : Yb) (P : Yp) (hok : YbOk b) (m : List Nat) (hm7 : m.length ≤ 7) (hml : ∀ x ∈ m, x < b.lots.length) (pm : Option Addr) (cm : Nat) (p : Option Addr) (c : Nat) (xs : List Int) (hn : xs.length ≤ maxLen) (w : World) (hB : YbAt w P b) (hM : IntsAt w pm (intsN m)) (hI : IntsAt w p xs) :
    Calls Try.prog 40 #[.agg (ybA b P), .slice pm (intsN m).length cm, .slice p xs.length c] w fun e w' => e = .returned (.bool (heldV b m xs)) ∧ Below w.heap.size w w' := by
  obtain ⟨pl, cl, pd, cd, pb, cb, ps, cs⟩ := P
  obtain ⟨W0, hW0⟩ : ∃ W, W = w.alloc (.cells (ybA b ⟨pl, cl, pd, cd, pb, cb, ps, cs⟩) 25) := ⟨_, rfl⟩
  have HW0 := Lib.hid hW0
  have HE := Lib.hid (show Below w.heap.size w W0 by rw [hW0]; exact below_alloc _ _)
  have HRB := Lib.hid (show Row W0 w.heap.size (ybA b ⟨pl, cl, pd, cd, pb, cb, ps, cs⟩) 25 by rw [hW0]; exact Row.new _ _ _)
  have HB := Lib.hid (hB.below HE.out)
  have n1 := hok.n1
  have n7 := hok.n7
  have hb4 := hok.b4
  have hd4 : b.doors.length ≤ 4 := by have := hok.d3; omega
  have herr0 := hok.e0
  have herr1 := hok.e1
  have hsd := hok.sd
  have hsb := hok.sb
  obtain ⟨bl, ol, hpl, _, _, _, _⟩ := HB.out.l.at (i := 0) (by omega)
  dsimp only at hpl
  subst hpl
  have HLC := Lib.hid (fun i (hi : i < b.lots.length) => (by
    obtain ⟨q, o, e, c0, c1, _, _⟩ := HB.out.l.at hi
    cases e
    exact ⟨c0, c1⟩ : W0.cell? ⟨bl, ol + i * 4, none⟩ = some (.int .i64 (lotAt b i).sp.1) ∧ W0.cell? ⟨bl, ol + i * 4 + 1, none⟩ = some (.int .i64 (lotAt b i).sp.2)))
  have HTR := Lib.hid (fun i j (hi : i < b.lots.length) (hj : j < b.lots.length) sl w' (h : From W0 w') => truly_any b ⟨some ⟨bl, ol, none⟩, cl, pd, cd, pb, cb, ps, cs⟩ (lotAt b i).sp.1 (lotAt b i).sp.2 (lotAt b j).sp.1 (lotAt b j).sp.2 (lotAt_sp hok hi) (lotAt_sp hok hj) herr0 herr1 p c xs hn sl w' ((hI.below HE.out).below h.b))
  have HCD := Lib.hid (fun v (hv : v < b.lots.length) w' (h : From W0 w') => close_any b ⟨some ⟨bl, ol, none⟩, cl, pd, cd, pb, cb, ps, cs⟩ hok v hv pd cd b.doors hd4 hsd b.door p c xs hn 3 (by omega) (by omega) w' (HB.out.l.below h.b) (HB.out.d.below h.b) ((hI.below HE.out).below h.b))
  have HCU := Lib.hid (fun v (hv : v < b.lots.length) w' (h : From W0 w') => close_any b ⟨some ⟨bl, ol, none⟩, cl, pd, cd, pb, cb, ps, cs⟩ hok v hv pb cb b.buckets hb4 hsb b.bucket p c xs hn 5 (by omega) (by omega) w' (HB.out.l.below h.b) (HB.out.u.below h.b) ((hI.below HE.out).below h.b))
  have HMC := Lib.hid (fun i (hi : i < m.length) => (by
    have h := (hM.below HE.out) i (by rw [intsN_len]; exact hi)
    rw [intsN_get hi] at h
    exact h : ∃ g o, pm = some ⟨g, o, none⟩ ∧ W0.cell? ⟨g, o + i, none⟩ = some (.int .i64 ((m[i] : Nat) : Int))))
  have HML := Lib.hid (fun i (hi : i < m.length) => hml _ (List.getElem_mem hi))
  have HGD := Lib.hid (fun i (hi : i < m.length) => (by simp [List.getD, hi] : m.getD i 0 = m[i]))
  have HD := Lib.hid (fun i v hv h => heldI_door (b := b) (m := m) (xs := xs) (i := i) (v := v) hv h)
  have HU := Lib.hid (fun i v hv h => heldI_bucket (b := b) (m := m) (xs := xs) (i := i) (v := v) hv h)
  have HAP := Lib.hid (fun i v k hv hk h => heldI_apart (b := b) (m := m) (xs := xs) (i := i) (v := v) (k := k) hv hk h)
  have HAL := Lib.hid (fun i v hv h1 h2 h => heldI_all (b := b) (m := m) (xs := xs) (i := i) (v := v) hv h1 h2 h)
  have HY := Lib.hid (fun h => held_yes (b := b) (m := m) (xs := xs) h)
  have HN := Lib.hid (fun k hk h => held_no (b := b) (m := m) (xs := xs) (k := k) hk h)
  have HAV : Hid (∀ i j : Nat, apartV b xs i j = !decide (trulyV b.err ((lotAt b i).sp.1, (lotAt b i).sp.2) ((lotAt b j).sp.1, (lotAt b j).sp.2) xs (8 * (i : Int) + (j : Int)) < b.apart)) := Lib.hid (fun i j => rfl)
  obtain ⟨HVv, hcv⟩ : ∃ v, heldV b m xs = v := ⟨_, rfl⟩
  obtain ⟨HIf, hci⟩ : ∃ v, heldI b m xs = v := ⟨_, rfl⟩
  obtain ⟨AP, hap⟩ : ∃ v, apartV b xs = v := ⟨_, rfl⟩
  rw [hcv] at HY HN ⊢
  rw [hci] at HD HU HAP HAL HY HN
  rw [hap] at HAP HAL HAV
  rw [intsN_len]
  have g0 := HRB.out.cell 0 (v := .slice (some ⟨bl, ol, none⟩) b.lots.length cl) rfl
  have g1 := HRB.out.cell 1 (v := .slice pd b.doors.length cd) rfl
  have g2 := HRB.out.cell 2 (v := .slice pb b.buckets.length cb) rfl
  have g3 := HRB.out.cell 3 (v := .slice ps b.spare.length cs) rfl
  have g4 := HRB.out.cell 4 (v := .int .i64 b.apart) rfl
  have g5 := HRB.out.cell 5 (v := .int .i64 b.door) rfl
  have g6 := HRB.out.cell 6 (v := .int .i64 b.bucket) rfl
  have g7 := HRB.out.cell 7 (v := .int .i64 b.err) rfl
  have z3 : (b.lots.length : Int) ≤ 7 := by omega
  have z4 : (m.length : Int) ≤ 7 := by omega
  clear hW0 hcv hci hap hB hM hI hml hok hsd hsb hb4 hd4
  go_enter Try.func40, Try.ntmps40
  go_upto_region 1 with (fail)
  rw [← HW0.out]
  go_wp2_with fail
  go_loopw [7] (fun i wr => ∃ (k : Nat) (x : Later W0), k ≤ m.length ∧ i = .int .i64 (k : Int) ∧ Hid (∀ j, j < k → HIf j = true) ∧ wr = x.w) (fun i _ => m.length - (intOf i).toNat)
  case atStart => exact ⟨0, ⟨W0, Below.refl _ _⟩, by omega, rfl, Lib.hid (fun j hj => absurd hj (Nat.not_lt_zero _)), rfl⟩
  case round =>
    obtain ⟨k, x, hk, rfl, HA, rfl⟩ := hrel
    by_cases hlt : k < m.length
    · obtain ⟨bm, om, hpm, hmc⟩ := HMC.out k hlt
      have hvl := HML.out k hlt
      have hgd := HGD.out k hlt
      obtain ⟨v, hv⟩ : ∃ v, m[k] = v := ⟨_, rfl⟩
      rw [hv] at hmc hvl hgd
      subst hpm
      have HG := Lib.hid hgd
      have i1 : (0 : Int) ≤ (k : Int) := by omega
      have i2 : (k : Int) < (m.length : Int) := by omega
      have j1 : (0 : Int) ≤ (v : Int) := by omega
      have j2 : (v : Int) < (b.lots.length : Int) := by omega
      have HC1 := Lib.hid (HCD.out v hvl)
      have HC2 := Lib.hid (HCU.out v hvl)
      clear hv hgd
      cases hd : closeV b v b.doors b.door xs 3
      · rw [hd] at HC1
        have HV := Lib.hid (HN.out k hlt (HD.out k v HG.out hd))
        clear hd
        go_wp2_with fail
        refine wp_region_later (by kernel_rfl) (by kernel_rfl) ?_
        repeat (go_big_quiet_step (first
          | (go_at_call 87; with_reducible exact Calls.later_of (HC1.out _ (From.trans (Later.fr _) (Later.fr _))))))
        refine wpQuiet_nil ?_
        intro _ hw'
        obtain ⟨y, hw''⟩ := hw'
        subst hw''
        obtain ⟨x2, hx2⟩ := x.up y
        rw [hx2]
        clear hx2
        go_wp2_with fail
        go_ret
        exact ⟨by rw [HV.out]; rfl, x2.base HE.out⟩
      · rw [hd] at HC1
        cases hu : closeV b v b.buckets b.bucket xs 5
        · rw [hu] at HC2
          have HV := Lib.hid (HN.out k hlt (HU.out k v HG.out hu))
          clear hd hu
          go_wp2_with fail
          refine wp_region_later (by kernel_rfl) (by kernel_rfl) ?_
          repeat (go_big_quiet_step (first
            | (go_at_call 87; with_reducible exact Calls.later_of (HC1.out _ (From.trans (Later.fr _) (Later.fr _))))
            | (go_at_call 87; with_reducible exact Calls.later_of (HC2.out _ (From.trans (Later.fr _) (Later.fr _))))))
          refine wpQuiet_nil ?_
          intro _ hw'
          obtain ⟨y, hw''⟩ := hw'
          subst hw''
          obtain ⟨x2, hx2⟩ := x.up y
          rw [hx2]
          clear hx2
          go_wp2_with fail
          go_ret
          exact ⟨by rw [HV.out]; rfl, x2.base HE.out⟩
        · rw [hu] at HC2
          have HALL := Lib.hid (fun h => HAL.out k v HG.out hd hu h)
          clear hd hu
          go_wp2_with fail
          refine wp_region_later (by kernel_rfl) (by kernel_rfl) ?_
          repeat (go_big_quiet_step (first
            | (go_at_call 87; with_reducible exact Calls.later_of (HC1.out _ (From.trans (Later.fr _) (Later.fr _))))
            | (go_at_call 87; with_reducible exact Calls.later_of (HC2.out _ (From.trans (Later.fr _) (Later.fr _))))))
          refine wpQuiet_nil ?_
          intro _ hw'
          obtain ⟨y, hw''⟩ := hw'
          subst hw''
          obtain ⟨x2, hx2⟩ := x.up y
          rw [hx2]
          clear hx2
          go_wp2_with fail
          have hlc := HLC.out v hvl
          obtain ⟨l0, l1⟩ := hlc
          go_loopw [8] (fun i wr => ∃ (q : Nat) (z : Later W0), q ≤ k ∧ i = .int .i64 (q : Int) ∧ Hid (∀ j, j < q → AP (m.getD j 0) v = true) ∧ wr = z.w) (fun i _ => k - (intOf i).toNat)
          case atStart => exact ⟨0, x2, by omega, rfl, Lib.hid (fun j hj => absurd hj (Nat.not_lt_zero _)), rfl⟩
          case round =>
            obtain ⟨q, z, hq, rfl, HAQ, rfl⟩ := hrel
            by_cases hqk : q < k
            · have hqm : q < m.length := by omega
              obtain ⟨bm', om', hpm', hmq⟩ := HMC.out q hqm
              cases hpm'
              have hul := HML.out q hqm
              have hgq := HGD.out q hqm
              obtain ⟨u, hu⟩ : ∃ v, m[q] = v := ⟨_, rfl⟩
              rw [hu] at hmq hul hgq
              have HGQ := Lib.hid hgq
              have hlu := HLC.out u hul
              obtain ⟨u0, u1⟩ := hlu
              have HT := Lib.hid (HTR.out u v hul hvl (8 * (u : Int) + (v : Int)))
              have hav := HAV.out u v
              obtain ⟨tv, htv⟩ : ∃ t, trulyV b.err ((lotAt b u).sp.1, (lotAt b u).sp.2) ((lotAt b v).sp.1, (lotAt b v).sp.2) xs (8 * (u : Int) + (v : Int)) = t := ⟨_, rfl⟩
              rw [htv] at HT hav
              have HAW := Lib.hid hav
              have k1 : (0 : Int) ≤ (q : Int) := by omega
              have k2 : (q : Int) < (k : Int) := by omega
              have k3 : (q : Int) < (m.length : Int) := by omega
              have k4 : (0 : Int) ≤ (u : Int) := by omega
              have k5 : (u : Int) < (b.lots.length : Int) := by omega
              have e1 : IntKind.i64.wrap (8 * (u : Int)) = 8 * (u : Int) := IntWalk.i64_in _ (by omega)
              have e2 : IntKind.i64.wrap (8 * (u : Int) + (v : Int)) = 8 * (u : Int) + (v : Int) := IntWalk.i64_in _ (by omega)
              clear htv hav hu hgq
              generalize (lotAt b u).sp.1 = s0 at *
              generalize (lotAt b u).sp.2 = s1 at *
              generalize (lotAt b v).sp.1 = t0 at *
              generalize (lotAt b v).sp.2 = t1 at *
              by_cases hap : tv < b.apart
              · have HV := Lib.hid (HN.out k hlt (HAP.out k v q HG.out hqk (by rw [HGQ.out, HAW.out, decide_eq_true hap]; rfl)))
                go_wp2_with fail
                refine wp_region_later (by kernel_rfl) (by kernel_rfl) ?_
                repeat (go_big_quiet_step (first
                  | (go_at_call 88; with_reducible exact Calls.later_of (HT.out _ (From.trans (Later.fr _) (Later.fr _))))))
                refine wpQuiet_nil ?_
                intro _ hw'
                obtain ⟨y, hw''⟩ := hw'
                subst hw''
                obtain ⟨z2, hx2⟩ := z.up y
                rw [hx2]
                clear hx2
                go_wp2_with fail
                go_ret
                exact ⟨by rw [HV.out]; rfl, z2.base HE.out⟩
              · have hap' := eq_false hap
                have HV := Lib.hid (show AP (m.getD q 0) v = true by rw [HGQ.out, HAW.out, decide_eq_false hap]; rfl)
                go_wp2_with fail
                refine wp_region_later (by kernel_rfl) (by kernel_rfl) ?_
                repeat (go_big_quiet_step (first
                  | (go_at_call 88; with_reducible exact Calls.later_of (HT.out _ (From.trans (Later.fr _) (Later.fr _))))))
                refine wpQuiet_nil ?_
                intro _ hw'
                obtain ⟨y, hw''⟩ := hw'
                subst hw''
                obtain ⟨z2, hx2⟩ := z.up y
                rw [hx2]
                clear hx2
                go_wp2_with fail
                go_roundw
                case rel => exact ⟨q + 1, z2, by omega, by go_num, Lib.hid (fun j hj => by
                  by_cases e : j = q
                  · subst e; exact HV.out
                  · exact HAQ.out j (by omega)), rfl⟩
                case measure => simp [intOf]; omega
            · obtain rfl : q = k := by omega
              have HVI := Lib.hid (HALL.out HAQ.out)
              go_wp2_with fail
              go_roundw
              case rel => exact ⟨q + 1, z, by omega, by go_num, Lib.hid (fun j hj => by
                by_cases e : j = q
                · subst e; exact HVI.out
                · exact HA.out j (by omega)), rfl⟩
              case measure => simp [intOf]; omega
    · obtain rfl : k = m.length := by omega
      have HV := Lib.hid (HY.out HA.out)
      go_wp2_with fail
      go_ret
      exact ⟨by rw [HV.out]; rfl, x.base HE.out⟩
end Go.Proofs.Ytajkgfeockcbpaa
