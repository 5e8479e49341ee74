/- The law's own helpers of layer 5: a plan that numbers choose; is a number allowed? -/
import Derived.Test.YtgdidhbomdfcpaaF37
namespace Go.Proofs.Ytgdidhbomdfcpaa
open Go.RowKit Go.Maps
attribute [local go_sem] Oper.semAt_some

set_option maxRecDepth 10000 in
set_option maxHeartbeats 1600000 in
theorem allowed_any (b : Bf) (p : Option Addr) (c : Nat) (n : Int) (w : World) (hok : BfOk b) :
    Calls Try.prog 44 #[.agg (bfA b p c), .int .i64 n] w fun e w' => e = .returned (.bool (fits n (b.pr - b.le) (b.pr + b.mo))) ∧ Below w.heap.size w w' := by
  have h1 := hok.p1
  have h2 := hok.p2
  have h3 := hok.l1
  have h4 := hok.l2
  have h5 := hok.m1
  have h6 := hok.m2
  have HF := Lib.hid (fun w' => Fits_any n (b.pr - b.le) (b.pr + b.mo) w')
  clear hok
  obtain ⟨f, hf⟩ : ∃ f, fits n (b.pr - b.le) (b.pr + b.mo) = f := ⟨_, rfl⟩
  rw [hf] at HF
  have HFE := Lib.hid hf
  clear hf
  go_enter Try.func44, Try.ntmps44
  go_wp2_with fail
  refine (HF.out _).mono ?_
  rintro e u ⟨rfl, rfl⟩
  go_wp2_with fail
  go_ret
  exact ⟨by rw [HFE.out]; rfl, below_alloc _ _⟩
/-- Behind some boxes of a plan one box more. -/
theorem planTo_snoc {b : Bf} {l : List Int} {y : Int} (h : planTo b l l.length = true) (hy : boxB b (bgn l l.length) y = true) : planTo b (l ++ [y]) (l ++ [y]).length = true ∧ bgn (l ++ [y]) (l ++ [y]).length = y := by
  have at1 : ∀ i, i < l.length → at0 (l ++ [y]) i = at0 l i := fun i hi => by
    rw [at0_lt (by simp; omega), at0_lt hi, List.getElem_append_left hi]
  have at2 : at0 (l ++ [y]) l.length = y := by rw [at0_lt (by simp)]; simp
  have bg : ∀ i, i ≤ l.length → bgn (l ++ [y]) i = bgn l i := fun i hi => by
    unfold bgn
    split
    · rfl
    · rw [at1 _ (by omega)]
  rw [List.length_append, List.length_singleton]
  refine ⟨?_, by rw [bgn_succ, at2]⟩
  unfold planTo
  rw [List.all_eq_true]
  intro i hi
  have hi := List.mem_range.1 hi
  unfold boxI
  by_cases e : i = l.length
  · subst e
    rw [bg _ (Nat.le_refl _), at2]
    exact hy
  · rw [bg _ (by omega), at1 _ (by omega)]
    exact planTo_all h (by omega)
/-- A plan is returned. -/
def GaveDrawn (b : Bf) (w : World) (e : Ending) (w' : World) : Prop := ∃ l q c, e = .returned (.slice q l.length c) ∧ IntsAt w' q l ∧ planB b l = true ∧ Below w.heap.size w w'
set_option maxRecDepth 100000 in
set_option maxHeartbeats 1600000 in
theorem drawn_any (b : Bf) (p : Option Addr) (c : Nat) (ps : Option Addr) (cs : Nat) (ss : List Int) (w : World) (hok : BfOk b) (hs : IntsAt w ps ss) (hn : ss.length ≤ maxLen) :
    Calls Try.prog 39 #[.agg (bfA b p c), .slice ps ss.length cs] w (GaveDrawn b w) := by
  obtain ⟨i0, hi, hi0, hi1, hi2⟩ := info_parts Try.infoInt
  obtain ⟨W0, hW0⟩ : ∃ W, W = w.alloc (.cells (bfA b p c) 24) := ⟨_, rfl⟩
  have HW0 := Lib.hid hW0
  have HE := Lib.hid (show Below w.heap.size w W0 by rw [hW0]; exact below_alloc _ _)
  have HR := Lib.hid (show Row W0 w.heap.size (bfA b p c) 24 by rw [hW0]; exact Row.new w _ _)
  have HS := Lib.hid (hs.below HE.out)
  have HN := Lib.hid hn
  have g3 := HR.out.cell 3 (v := .int .i64 b.gr) rfl
  have g4 := HR.out.cell 4 (v := .slice p b.hs.length c) rfl
  have hn8 := hok.n8
  have h7 := hok.g1
  have h9 := hok.g2
  clear hW0 hok hs hn
  go_enter Try.func39, Try.ntmps39
  go_wp2_with fail
  rw [← HW0.out]
  go_loopw [5, 6, 7] (fun ls a i wr => ∃ (l : List Int) (x : Later W0), planTo b l l.length = true ∧ a = .int .i64 (bgn l l.length) ∧ i = .int .i64 l.length ∧ wr.ownsRow W0.heap.size 3 1 ls l.length (l.map (Value.int .i64)) ∧ wr = x.w) (fun _ a _ _ => b.hs.length - (intOf a).toNat)
  case atStart => exact ⟨[], ⟨W0, Below.refl _ _⟩, rfl, rfl, rfl, World.ownsRow_nil _ _ _ _, rfl⟩
  case round =>
    obtain ⟨l, x, hp, rfl, rfl, hown, rfl⟩ := hrel
    have hnum := plan_nums hp (Nat.le_refl _)
    have HP := Lib.hid hp
    obtain ⟨pl, cl, rfl⟩ := owns_slice hown
    have HO := Lib.hid hown
    clear hp hown
    obtain ⟨a, ha⟩ : ∃ a, bgn l l.length = a := ⟨_, rfl⟩
    have HA := Lib.hid ha
    rw [ha] at hnum ⊢
    clear ha
    obtain ⟨hnum0, hnum1, hnum2⟩ := hnum
    by_cases hlt : a < b.hs.length
    · have HIT := Lib.hid (fun w' (k : From W0 w') => Item_any ps cs ss l.length w' HN.out (HS.out.below k.b))
      obtain ⟨mn, hmn⟩ : ∃ m, m = min b.gr (b.hs.length - a) := ⟨_, rfl⟩
      obtain ⟨it, hit⟩ : ∃ x, item ss l.length = x := ⟨_, rfl⟩
      rw [hit] at HIT
      have hsr := spin_range it mn (by omega)
      obtain ⟨sp, hsp⟩ : ∃ x, spin it mn = x := ⟨_, rfl⟩
      have HSP := Lib.hid (fun w' => (by have h := Spin_any it mn w' (by unfold I64; omega); rw [hsp] at h; exact h))
      rw [hsp] at hsr
      clear hsp hit
      have e1 : IntKind.i64.wrap ((b.hs.length : Int) - a) = (b.hs.length : Int) - a := IntWalk.i64_in _ (by omega)
      have e2 : IntKind.i64.wrap (1 + sp) = 1 + sp := IntWalk.i64_in _ (by omega)
      have e3 : IntKind.i64.wrap (a + (1 + sp)) = a + (1 + sp) := IntWalk.i64_in _ (by omega)
      have HSN := Lib.hid (planTo_snoc HP.out (y := a + (1 + sp)) (by rw [HA.out]; unfold boxB; simp; omega))
      have hll : (l.length : Int) ≤ 8 := by omega
      obtain ⟨hs0, hs1⟩ := hsr
      have hmn4 : mn ≤ 4 := by omega
      have hmnn : mn ≤ (b.hs.length : Int) - a := by omega
      have hspn : 1 + sp ≤ (b.hs.length : Int) - a := by omega
      rw [hmn] at HSP
      clear hmn
      go_upto_region 6 with (fail)
      refine wp_region_later (by kernel_rfl) (by kernel_rfl) ?_
      repeat (go_big_quiet_step (first
        | (go_at_call 49; with_reducible exact Calls.later_same (HIT.out _ (From.trans (Later.fr _) (Later.fr _))))
        | (go_at_call 48; with_reducible exact Calls.later_same (HSP.out _))))
      refine wpQuiet_nil ?_
      intro _ hw'
      obtain ⟨y, hw''⟩ := hw'
      subst hw''
      obtain ⟨x2, hx2⟩ := x.up y
      rw [hx2]
      have HO2 := Lib.hid (by have h := owns_below HO.out y.b; rw [hx2] at h; exact h)
      have hzx := x2.b.size
      clear e1 e2 e3 hx2
      go_wp2_with (first
        | (at_builtin; (refine wpList_append_own _ rfl _ _ 38 rfl W0.heap.size 3 i0 (.int .i64 0) 1 8 Try.underlying38 hi hi0 hi1 hi2 rfl (by decide) _ _ _ rfl (HO2.out.alloc _) ⟨x2.w.heap.size, 0, none⟩ 1 1 [.int .i64 (a + (1 + sp))] rfl rfl (cell_one_new _ _ _) (by simp [Value.oneCell']) (by unfold maxLen; omega) (by omega) (by simp; omega) ?_); intro v' w2 hown' hgrow _; have HO3 := Lib.hid hown'; have hg2 : Below W0.heap.size x2.w w2 := ((Below.refl _ _).alloc (by omega) _).grown hgrow (by simp; omega) (fun k hk => (HO2.out.lt k hk).1); obtain ⟨x3, hx3⟩ := later_of (x2.b.trans hg2); clear hg2 hown' hgrow))
      subst hx3
      go_roundw
      case rel => exact ⟨l ++ [a + (1 + sp)], x3, HSN.out.1, by rw [HSN.out.2], by simp, by simpa using HO3.out, rfl⟩
      case measure => simp [intOf]; omega
    · have HPB := Lib.hid (show planB b l = true by
        unfold planB
        rw [HP.out, HA.out, Bool.true_and]
        simp
        omega)
      obtain ⟨p', c', hv, hints, _⟩ := ints_of_owns2 HO.out
      cases hv
      have HIN := Lib.hid hints
      clear hints
      go_wp2_with fail
      go_ret
      exact ⟨l, pl, cl, rfl, HIN.out, HPB.out, x.base HE.out⟩
end Go.Proofs.Ytgdidhbomdfcpaa
