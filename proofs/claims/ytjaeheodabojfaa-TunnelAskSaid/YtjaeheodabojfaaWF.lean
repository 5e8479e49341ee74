/- The law's own helpers of layer 3: how few frames at the worst. -/
import Derived.Test.YtjaeheodabojfaaWX
import Derived.Test.YtjaeheodabojfaaWB
namespace Go.Proofs.Ytjaeheodabojfaa
open Go.RowKit Go.Maps
attribute [local go_sem] Oper.semAt_some

set_option maxRecDepth 10000 in
set_option maxHeartbeats 3200000 in
theorem lworst_any (pp : Option Addr) (cp : Nat) (pf : Option Addr) (cf : Nat) (ps : List Pt) (ms : List FrM) (w : World) (hB : BkAt w pp pf ps ms) (hb : bookB ps (frsM ms) = true) (k : Nat) (hk : k < ps.length) :
    Calls Try.prog 53 #[.agg #[.slice pp ps.length cp, .slice pf ms.length cf], .int .i64 k] w fun e w' => e = .returned (.int .i64 (worstD ps (frsM ms) k)) ∧ Below w.heap.size w w' := by
  obtain ⟨b, o, rfl⟩ : ∃ b o, pp = some ⟨b, o, none⟩ := by
    obtain ⟨b, o, e, _⟩ := hB.p k hk
    exact ⟨b, o, e⟩
  have HBK := Lib.hid (bk_of hB hb)
  have hok := bookB_iff.1 hb
  have HOK := Lib.hid hok
  have hn4 := HBK.out.n4
  have hn5 := HBK.out.n5
  have HB0 := Lib.hid hB
  have hpo := hok.p ps[k] (List.getElem_mem _)
  obtain ⟨lo, hlo⟩ : ∃ x, ps[k].lo = x := ⟨_, rfl⟩
  obtain ⟨hi, hhi⟩ : ∃ x, ps[k].hi = x := ⟨_, rfl⟩
  have HLO := Lib.hid hlo
  have HHI := Lib.hid hhi
  have hl0 : 0 ≤ lo := by rw [← hlo]; exact hpo.l0
  have hl1 : lo ≤ hi := by rw [← hlo, ← hhi]; exact hpo.l1
  have hl2 : hi ≤ 20 := by rw [← hhi]; exact hpo.l2
  have hw : worstD ps (frsM ms) k = worstTo ps (frsM ms) k lo (hi - lo + 1).toNat := by rw [worstD, List.getElem?_eq_getElem hk, ← hlo, ← hhi]
  obtain ⟨nn, hnn⟩ : ∃ n : Nat, hi - lo + 1 = n := ⟨(hi - lo + 1).toNat, by omega⟩
  rw [show (hi - lo + 1).toNat = nn by omega] at hw
  have HW := Lib.hid hw
  have i1 : (0 : Int) ≤ (k : Int) := by omega
  have i2 : (k : Int) < (ps.length : Int) := by omega
  have hfl := frsM_length ms
  have HW0 := Lib.hid (show worstTo ps (frsM ms) k lo 0 = (ms.length : Int) by simp [worstTo, hfl])
  obtain ⟨b1, o1, e1, _, _, _, _, q4, q5⟩ := (HB0.out.below (below_alloc w (.cells #[.slice (some ⟨b, o, none⟩) ps.length cp, .slice pf ms.length cf] 25))).p k hk
  cases e1
  rw [hlo] at q4
  have HR := Lib.hid (Row.new w #[.slice (some ⟨b, o, none⟩) ps.length cp, .slice pf ms.length cf] 25)
  have HE := Lib.hid (below_alloc w (.cells #[.slice (some ⟨b, o, none⟩) ps.length cp, .slice pf ms.length cf] 25))
  clear hB hb hok hpo hlo hhi hw hfl q5
  go_enter Try.func53, Try.ntmps53
  go_wp2_with fail
  clear q4
  go_loopw [5, 6] (fun a i wr => ∃ j : Nat, j ≤ nn ∧ i = .int .i64 (lo + (j : Int)) ∧ a = .int .i64 (worstTo ps (frsM ms) k lo j) ∧ Row wr w.heap.size #[.slice (some ⟨b, o, none⟩) ps.length cp, .slice pf ms.length cf] 25 ∧ Below w.heap.size w wr) (fun _ i _ => (hi + 1 - intOf i).toNat)
  case atStart => exact ⟨0, by omega, by simp, by rw [HW0.out], HR.out, HE.out⟩
  case round =>
    clear HR HE
    obtain ⟨j, hj, rfl, rfl, r0, e0⟩ := hrel
    have HR := Lib.hid r0
    have HE := Lib.hid e0
    have c0 := r0.cell 0 (v := .slice (some ⟨b, o, none⟩) ps.length cp) rfl
    have c1 := r0.cell 1 (v := .slice pf ms.length cf) rfl
    obtain ⟨b1, o1, e1, _, _, _, _, _, q5⟩ := (HB0.out.below HE.out).p k hk
    cases e1
    rw [HHI.out] at q5
    clear r0 e0
    by_cases hlt : j < nn
    · have hle : lo + (j : Int) ≤ hi := by omega
      have hDP := damp_ok HOK.out hk (d := lo + (j : Int)) (e := lo + (j : Int)) (by rw [HLO.out]; omega) (by rw [HHI.out]; omega) (by omega)
      have hDB := bookB_iff.2 hDP
      have MF := Lib.hid (show mostF (dampP ps k (lo + (j : Int)) (lo + (j : Int))) (frsM ms) = goodD (dampP ps k (lo + (j : Int)) (lo + (j : Int))) (frsM ms) (mostD (dampP ps k (lo + (j : Int)) (lo + (j : Int))) (frsM ms)) by rw [mostF, if_pos hDB])
      have BE := Lib.hid (bookE_ok hDB)
      have HN := Lib.hid (show worstTo ps (frsM ms) k lo (j + 1) = min (worstTo ps (frsM ms) k lo j) ((goodD (dampP ps k (lo + (j : Int)) (lo + (j : Int))) (frsM ms) (mostD (dampP ps k (lo + (j : Int)) (lo + (j : Int))) (frsM ms))).length : Int) from rfl)
      have hrg := worstTo_range ps ms k lo j
      obtain ⟨wt, hwt⟩ : ∃ x, worstTo ps (frsM ms) k lo j = x := ⟨_, rfl⟩
      have HWT := Lib.hid hwt
      rw [hwt] at hrg
      clear hDP hDB hwt
      obtain ⟨d, hd⟩ : ∃ d, lo + (j : Int) = d := ⟨_, rfl⟩
      rw [hd] at MF BE HN hle
      have HD := Lib.hid hd
      have hra := HR.out.lt
      have hE1 := below_alloc wr (.cells #[.slice (some ⟨b, o, none⟩) ps.length cp, .slice pf ms.length cf] 25)
      have HX1 := Lib.hid (Row.new wr #[.slice (some ⟨b, o, none⟩) ps.length cp, .slice pf ms.length cf] 25)
      have HE1 := Lib.hid hE1
      clear hE1
      obtain ⟨W1, hW1⟩ : ∃ W, W = wr.alloc (.cells #[.slice (some ⟨b, o, none⟩) ps.length cp, .slice pf ms.length cf] 25) := ⟨_, rfl⟩
      rw [← hW1] at HX1 HE1
      have hz1 : W1.heap.size = wr.heap.size + 1 := by rw [hW1]; simp
      have HW1 := Lib.hid hW1
      obtain ⟨v, g, cap, cur, w2, hr, ⟨rfl, hrow, hg, hcap, hb2⟩, hh⟩ := copy_parts (W1.alloc (.cells #[] 64)) ps b o cp (((HB0.out.below HE.out).below HE1.out).below (below_alloc _ _)).p (by omega) (by omega) 22 (wr.heap.size + 1)
      have HA1 := Lib.hid hr
      have HH := Lib.hid hh
      have hb12 := (below_alloc W1 (.cells #[] 64)).trans (hb2.mono (by simp))
      have hgz : W1.heap.size < g := by simp at hg; omega
      have c2 := ((HR.out.below HE1.out hra).alloc (.cells #[] 64)).cell 0 (v := .slice (some ⟨b, o, none⟩) ps.length cp) rfl
      have HX2 := Lib.hid (HX1.out.below hb12 HX1.out.lt)
      have HR2 := Lib.hid ((HR.out.below HE1.out hra).below hb12 (by omega))
      have HE2 := Lib.hid ((HE1.out.trans (hb12.mono (by omega))))
      have x1 := HX2.out.cell 0 (v := .slice (some ⟨b, o, none⟩) ps.length cp) rfl
      have x1f := HX2.out.free 0
      have hgw := hrow.lt
      obtain ⟨W3, hW3⟩ : ∃ W, W = w2.setCell ⟨wr.heap.size, 0, none⟩ (.slice (some ⟨g, 0, none⟩) ps.length cap) := ⟨_, rfl⟩
      have HW3 := Lib.hid hW3
      have HX3 := Lib.hid (show Row W3 wr.heap.size #[.slice (some ⟨g, 0, none⟩) ps.length cap, .slice pf ms.length cf] 25 by rw [hW3]; exact HX2.out.set 0 _)
      have HR3 := Lib.hid (show Row W3 w.heap.size #[.slice (some ⟨b, o, none⟩) ps.length cp, .slice pf ms.length cf] 25 by rw [hW3]; exact HR2.out.set_other _ _ (by dsimp only; omega))
      have HG3 := Lib.hid (show Row W3 g cur 64 by rw [hW3]; exact hrow.set_other _ _ (by dsimp only; omega))
      have HE3 := Lib.hid (show Below wr.heap.size wr W3 by rw [hW3]; exact HE2.out.setCell (by dsimp only; omega) _)
      have hgr : wr.heap.size < g := by omega
      obtain ⟨_, _, _, _, g4, g5⟩ := HH.out k hk
      have g5' : cur[k * 6 + 4 + 1]? = some (.int .i64 ps[k].hi) := g5
      have G4 := Lib.hid g4
      have G5 := Lib.hid g5'
      have hS : ∀ w', From W3 w' → w'.cell? ⟨wr.heap.size, 0, none⟩ = some (.slice (some ⟨g, 0, none⟩) ps.length cap) := fun w' k => (k.row HX3.out).cell 0 rfl
      have hS2 : ∀ w', From W3 w' → ((w'.setCell ⟨g, k * 6 + 4, none⟩ (.int .i64 d)).setCell ⟨g, k * 6 + 4 + 1, none⟩ (.int .i64 d)).cell? ⟨wr.heap.size, 0, none⟩ = some (.slice (some ⟨g, 0, none⟩) ps.length cap) := fun w' q => (((q.row HX3.out).set_other _ _ (by dsimp only; omega)).set_other _ _ (by dsimp only; omega)).cell 0 rfl
      have HSS := Lib.hid hS
      have HSS2 := Lib.hid hS2
      have KI := Lib.hid (From.refl W3)
      clear hW1 hW3 hr hrow hh hb2 hg hb12 HX2 HR2 HE2 HX1 g4 g5 g5' hS hS2 hd hz1
      rw [HWT.out, HD.out]
      go_wp2_with (first
        | (at_builtin; rw [← HW1.out]; refine wpList_append_run rfl _ _ _ _ rfl (.slice (some ⟨wr.heap.size + 1, 0, none⟩) 0 0) _ _ rfl rfl HA1.out ?_))
      rw [← HW3.out]
      clear c0 c1 c2 x1 x1f
      go_region_held3 (fun w' => w'.cell? ⟨wr.heap.size, 0, none⟩ = some (.slice (some ⟨g, 0, none⟩) ps.length cap)) (first | with_reducible exact HSS.out _ KI.out | with_reducible exact HSS.out _ KI.out.drew | with_reducible exact HSS2.out _ KI.out)
        (first
          | (go_at_call 47; (with_reducible refine (Only_any _ _).mono ?_); rintro e u ⟨rfl, hbu⟩; have KI := Lib.hid (by first | with_reducible exact KI.out.drew.below hbu | with_reducible exact KI.out.below hbu); have t0 := (KI.out.row HG3.out).cell _ G4.out; have t1 := (KI.out.row HG3.out).cell _ G5.out; have t2 := (KI.out.row HG3.out).free (k * 6 + 4); have t3 := (KI.out.row HG3.out).free (k * 6 + 4 + 1); clear hbu))
      all_goals
        clear t0 t1 t2 t3
        have HXa := Lib.hid (((KI.out.row HX3.out).set_other ⟨g, k * 6 + 4, none⟩ (.int .i64 d) (by dsimp only; omega)).set_other ⟨g, k * 6 + 4 + 1, none⟩ (.int .i64 d) (by dsimp only; omega))
        have HRa := Lib.hid (((KI.out.row HR3.out).set_other ⟨g, k * 6 + 4, none⟩ (.int .i64 d) (by dsimp only; omega)).set_other ⟨g, k * 6 + 4 + 1, none⟩ (.int .i64 d) (by dsimp only; omega))
        have HPa := Lib.hid (pts_row (((KI.out.row HG3.out).set (k * 6 + 4) (.int .i64 d)).set (k * 6 + 5) (.int .i64 d)) (holdsP_set HH.out hk d d))
        have HEa := Lib.hid (((HE3.out.trans (KI.out.b.mono HE3.out.size)).setCell (p := ⟨g, k * 6 + 4, none⟩) (by dsimp only; omega) (.int .i64 d)).setCell (p := ⟨g, k * 6 + 4 + 1, none⟩) (by dsimp only; omega) (.int .i64 d))
        rw [show k * 6 + 5 = k * 6 + 4 + 1 by omega] at HPa
        generalize (u.setCell ⟨g, k * 6 + 4, none⟩ (.int .i64 d)).setCell ⟨g, k * 6 + 4 + 1, none⟩ (.int .i64 d) = W5 at *
        have hlz := HR.out.lt
        have HE5 := Lib.hid (HE.out.trans (HEa.out.mono (by have := HE.out.size; omega)))
        have hB5 := HB0.out.below HE5.out
        have HBD : BkAt W5 (some ⟨g, 0, none⟩) pf (dampP ps k d d) ms := ⟨HPa.out, hB5.f, by rw [dampP_length]; exact hB5.b1, hB5.b2, hB5.b3⟩
        have y0 := HXa.out.cell 0 (v := .slice (some ⟨g, 0, none⟩) ps.length cap) rfl
        have y1 := HXa.out.cell 1 (v := .slice pf ms.length cf) rfl
        go_wp2_with fail
        have hd := Most_any (some ⟨g, 0, none⟩) cap pf cf (dampP ps k d d) ms _ HBD
        rw [dampP_length, MF.out, BE.out] at hd
        generalize goodD (dampP ps k d d) (frsM ms) (mostD (dampP ps k d d) (frsM ms)) = gd at *
        refine hd.mono ?_
        clear hd y0 y1
        rintro e w6 ⟨qm, cm, qf, cf2, rfl, hm, hf, hb⟩
        have HE6 := Lib.hid (HE5.out.trans (hb.mono HE5.out.size))
        have HR6 := Lib.hid (HRa.out.below hb HRa.out.lt)
        clear hm hf hb
        go_wp2_with fail
        all_goals
          go_roundw
          case rel => exact ⟨j + 1, by omega, congrArg (Value.int .i64) (by have h9 := HD.out; rw [IntWalk.wrap64_in (d + 1) (by omega)]; push_cast; omega), congrArg (Value.int .i64) (by rw [HN.out, HWT.out, Int.min_def]; split <;> split <;> omega), HR6.out, HE6.out⟩
          case measure => have := HD.out; have e9 := IntWalk.wrap64_in (d + 1) (by omega); simp [intOf, e9]; omega
    · obtain rfl : j = nn := by omega
      go_wp2_with fail
      go_ret
      exact ⟨ret_int (by rw [HW.out]), HE.out⟩
end Go.Proofs.Ytjaeheodabojfaa
