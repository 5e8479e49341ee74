/- The walks of layer 6: what is near, and served. -/
import Derived.Test.YtajkgfeockcbpaaY4
import Derived.Deep.Upon
namespace Go.Proofs.Ytajkgfeockcbpaa
open Go.RowKit Go.Maps
attribute [local go_sem] Oper.semAt_some

theorem betw_false (e : Int) (s t : Int × Int) : betw e false s t = farLo e s t := rfl
theorem betw_true (e : Int) (s t : Int × Int) : betw e true s t = farHi e s t := rfl
theorem away_false (e : Int) (s t : Int × Int) : away e false s t = farHi e s t := rfl
theorem away_true (e : Int) (s t : Int × Int) : away e true s t = farLo e s t := rfl
set_option maxRecDepth 10000 in
set_option maxHeartbeats 1600000 in
theorem near_any (b : Yb) (P : Yp) (mb : Nat) (k : Bool) (i j : Nat) (hi : i < b.lots.length) (hj : j < b.lots.length) (w : World) (hK : YkAt w P mb b) :
    Calls Try.prog 58 #[.agg (trA b P mb k), .int .i64 i, .int .i64 j] w fun e w' => e = .returned (.bool (nearK b k i j)) ∧ Below w.heap.size w w' := by
  obtain ⟨W0, hW0⟩ : ∃ W, W = w.alloc (.cells (trA b P mb k) 89) := ⟨_, rfl⟩
  have HW0 := Lib.hid hW0
  have HE := Lib.hid (show Below w.heap.size w W0 by rw [hW0]; exact below_alloc _ _)
  have HR := Lib.hid (show Row W0 w.heap.size (trA b P mb k) 89 by rw [hW0]; exact Row.new w _ _)
  clear hW0
  obtain ⟨z0, hz0⟩ : ∃ z : Later W0, W0 = z.w := ⟨⟨W0, Below.refl _ _⟩, rfl⟩
  have HZ0 := Lib.hid hz0
  clear hz0
  have HK := Lib.hid (hK.below HE.out)
  clear hK
  obtain ⟨q, o, hp, l0, l1, _, _⟩ := HK.out.y.l.at hi
  obtain ⟨q', o', hp', m0, m1, _, _⟩ := HK.out.y.l.at hj
  have hpp := hp'
  rw [hp] at hpp
  cases hpp
  clear hp'
  have hs := lotAt_sp HK.out.ok hi
  have ht := lotAt_sp HK.out.ok hj
  have hkey := keyB_lots hi hj
  have HN := Lib.hid (show nearK b k i j = decide (betw b.err k (lotAt b i).sp (lotAt b j).sp < b.apart) from rfl)
  generalize (lotAt b i).sp = s at *
  generalize (lotAt b j).sp = t at *
  have HLK := Lib.hid (show ∀ w', (∃ x : Later z0.w, w' = x.w) → (Instr.lookup 81 (.map (some mb)) (.agg #[.int .i64 s.1, .int .i64 s.2, .int .i64 t.1, .int .i64 t.2]) false).run Try.prog w' = .ok (.agg #[.int .i64 (farLo b.err s t), .int .i64 (farHi b.err s t)]) w' by
    rintro _ ⟨x, rfl⟩
    exact ((HK.out.m.below z0.b).below x.b).look hs ht hkey)
  have i1 : (0 : Int) ≤ (i : Int) := by omega
  have i2 : (i : Int) < (b.lots.length : Int) := by omega
  have i3 : (0 : Int) ≤ (j : Int) := by omega
  have i4 : (j : Int) < (b.lots.length : Int) := by omega
  rw [HN.out]
  clear hs ht hkey
  cases k
  all_goals
    first | rw [betw_false] | rw [betw_true]
    have c0 := HR.out.cell 0 (v := .slice P.pl b.lots.length P.cl) rfl
    have c4 := HR.out.cell 4 (v := .int .i64 b.apart) rfl
    have c8 := HR.out.cell 8 (v := .map (some mb)) rfl
    rw [hp] at c0
    first
      | have c9 := HR.out.cell 9 (v := .func (.func 102) #[] #[]) rfl
      | have c9 := HR.out.cell 9 (v := .func (.func 103) #[] #[]) rfl
    have HHP := Lib.hid hp
    clear hp
    go_enter Try.func58, Try.ntmps58
    go_upto_region 1 with (fail)
    rw [← HW0.out, HZ0.out]
    refine wp_region_later (by kernel_rfl) (by kernel_rfl) ?_
    repeat (first
      | (go_big_quiet_want; (refine quiet_lookup 81 _ _ _ rfl mb _ rfl rfl _ HLK.out ?_); simp only [Act.put, List.setIfInBounds_toArray, List.set_cons_succ, List.set_cons_zero]; go_big_quiet_on)
      | go_big_quiet_step (first
        | (go_at_call 102; with_reducible exact Calls.later_of (low_any _ _ _))
        | (go_at_call 103; with_reducible exact Calls.later_of (high_any _ _ _))))
    refine wpQuiet_nil ?_
    intro _ hw'
    obtain ⟨yy, hw''⟩ := hw'
    subst hw''
    obtain ⟨z1, hy⟩ := z0.up yy
    rw [hy]
    clear hy
    go_wp2_with fail
    go_ret
    exact ⟨rfl, z1.base HE.out⟩
end Go.Proofs.Ytajkgfeockcbpaa
