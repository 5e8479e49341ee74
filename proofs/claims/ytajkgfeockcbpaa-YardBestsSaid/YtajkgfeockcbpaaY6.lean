/- The walks of layer 6: what is reached, and served. -/
import Derived.Test.YtajkgfeockcbpaaY5
namespace Go.Proofs.Ytajkgfeockcbpaa
open Go.RowKit Go.Maps
attribute [local go_sem] Oper.semAt_some

theorem any_take {α : Type} {f : α → Bool} {l : List α} {n : Nat} (h : n < l.length) : (l.take (n + 1)).any f = ((l.take n).any f || f l[n]) := by
  rw [List.take_add_one, List.getElem?_eq_getElem h, List.any_append]
  simp
theorem any_hit {α : Type} {f : α → Bool} {l : List α} {n : Nat} (h : n < l.length) (hf : f l[n] = true) : l.any f = true := List.any_eq_true.2 ⟨_, List.getElem_mem h, hf⟩
set_option maxRecDepth 10000 in
set_option maxHeartbeats 1600000 in
theorem reaches_any (b : Yb) (P : Yp) (mb : Nat) (k : Bool) (i : Nat) (hi : i < b.lots.length) (p : Option Addr) (c : Nat) (l : List (Int × Int)) (most : Int) (hn : l.length < 2 ^ 61) (hl : ∀ t ∈ l, spB t = true ∧ keyB b (lotAt b i).sp t = true) (w : World) (hK : YkAt w P mb b) (hL : SpotsAt w p l) :
    Calls Try.prog 130 #[.agg (trA b P mb k), .int .i64 i, .slice p l.length c, .int .i64 most] w fun e w' => e = .returned (.bool (reachK b k i l most)) ∧ Below w.heap.size w w' := by
  obtain ⟨W0, hW0⟩ : ∃ W, W = w.alloc (.cells (trA b P mb k) 89) := ⟨_, rfl⟩
  have HW0 := Lib.hid hW0
  have HE := Lib.hid (show Below w.heap.size w W0 by rw [hW0]; exact below_alloc _ _)
  have HR := Lib.hid (show Row W0 w.heap.size (trA b P mb k) 89 by rw [hW0]; exact Row.new w _ _)
  clear hW0
  have HK := Lib.hid (hK.below HE.out)
  have HL := Lib.hid (hL.below HE.out)
  clear hK hL
  obtain ⟨q, o, hp, l0, l1, _, _⟩ := HK.out.y.l.at hi
  have HSK := Lib.hid hl
  have hs := lotAt_sp HK.out.ok hi
  have HN := Lib.hid (show ∀ l, reachK b k i l most = l.any (fun t => decide (away b.err k (lotAt b i).sp t ≤ most)) from fun _ => rfl)
  generalize (lotAt b i).sp = s at *
  have HS := Lib.hid hs
  rw [HN.out]
  obtain ⟨f, hf⟩ : ∃ f : Int × Int → Bool, f = fun t => decide (away b.err k s t ≤ most) := ⟨_, rfl⟩
  rw [← hf]
  have HF := Lib.hid (show ∀ t, f t = decide (away b.err k s t ≤ most) from fun t => by rw [hf])
  have i1 : (0 : Int) ≤ (i : Int) := by omega
  have i2 : (i : Int) < (b.lots.length : Int) := by omega
  clear hl hs hf HN
  cases k
  all_goals
    first | simp only [away_false] at HF | simp only [away_true] at HF
    have c0 := HR.out.cell 0 (v := .slice P.pl b.lots.length P.cl) rfl
    have c8 := HR.out.cell 8 (v := .map (some mb)) rfl
    rw [hp] at c0
    first
      | have c10 := HR.out.cell 10 (v := .func (.func 102) #[] #[]) rfl
      | have c10 := HR.out.cell 10 (v := .func (.func 103) #[] #[]) rfl
    have HHP := Lib.hid hp
    clear hp
    go_enter Try.func130, Try.ntmps130
    go_wp2_with fail
    rw [← HW0.out]
    go_loopw [13] (fun ix wr => ∃ n : Nat, n ≤ l.length ∧ ix = .int .i64 n ∧ (l.take n).any f = false ∧ ∃ x : Later W0, wr = x.w) (fun ix _ => l.length - (intOf ix).toNat)
    case atStart => exact ⟨0, by omega, rfl, by simp, ⟨W0, Below.refl _ _⟩, rfl⟩
    case round =>
      obtain ⟨n, hn2, rfl, hany, x, rfl⟩ := hrel
      have HA := Lib.hid hany
      clear hany
      by_cases hlt : n < l.length
      · obtain ⟨q', o', hp', m0, m1⟩ := HL.out n hlt
        subst hp'
        have HT := Lib.hid (HSK.out _ (List.getElem_mem hlt))
        have HAT := Lib.hid (any_take (f := f) hlt)
        have HIT := Lib.hid (any_hit (f := f) hlt)
        have HFT := Lib.hid (HF.out l[n])
        have i3 : (0 : Int) ≤ (n : Int) := by omega
        have i4 : (n : Int) < (l.length : Int) := by omega
        generalize l[n] = t at *
        go_upto_region 4 with (fail)
        obtain ⟨z1, hz1⟩ := x.on (below_alloc x.w (.cells #[.int .i64 t.1, .int .i64 t.2] 62))
        have rT := Row.new x.w #[.int .i64 t.1, .int .i64 t.2] 62
        rw [hz1] at rT
        change Code.wp _ _ _ _ (x.w.alloc (.cells #[.int .i64 t.1, .int .i64 t.2] 62))
        rw [hz1]
        clear hz1
        have t0 := rT.cell 0 (v := .int .i64 t.1) rfl
        have t1 := rT.cell 1 (v := .int .i64 t.2) rfl
        have HLK := Lib.hid (show ∀ w', (∃ x : Later z1.w, w' = x.w) → (Instr.lookup 81 (.map (some mb)) (.agg #[.int .i64 s.1, .int .i64 s.2, .int .i64 t.1, .int .i64 t.2]) false).run Try.prog w' = .ok (.agg #[.int .i64 (farLo b.err s t), .int .i64 (farHi b.err s t)]) w' by
          rintro _ ⟨y, rfl⟩
          exact ((HK.out.m.below z1.b).below y.b).look HS.out HT.out.1 HT.out.2)
        clear rT
        refine wp_region_later (by kernel_rfl) (by kernel_rfl) ?_
        repeat (first
          | (go_big_quiet_want; (refine quiet_lookup 81 _ _ _ rfl mb _ rfl rfl _ HLK.out ?_); simp only [Act.put, List.setIfInBounds_toArray, List.set_cons_succ, List.set_cons_zero]; go_big_quiet_on)
          | go_big_quiet_step (first
            | (go_at_call 102; with_reducible exact Calls.later_of (low_any _ _ _))
            | (go_at_call 103; with_reducible exact Calls.later_of (high_any _ _ _))))
        refine wpQuiet_nil ?_
        intro _ hw'
        obtain ⟨yy, hw''⟩ := hw'
        subst hw''
        obtain ⟨z2, hy⟩ := z1.up yy
        rw [hy]
        clear hy t0 t1
        cases hv : f t
        · have hX := of_decide_eq_false (HFT.out.symm.trans hv)
          have HA2 := Lib.hid (show (l.take (n + 1)).any f = false by rw [HAT.out, HA.out, hv]; rfl)
          clear hv
          go_wp2_with fail
          go_roundw
          case rel => exact ⟨n + 1, by omega, by go_num, HA2.out, z2, rfl⟩
          case measure => simp [intOf]; omega
        · have hX := of_decide_eq_true (HFT.out.symm.trans hv)
          have HT2 := Lib.hid (HIT.out hv)
          clear hv
          go_wp2_with fail
          go_ret
          exact ⟨ret_bool HT2.out.symm, z2.base HE.out⟩
      · obtain rfl : n = l.length := by omega
        have HT := Lib.hid (show l.any f = false by have h := HA.out; rw [List.take_length] at h; exact h)
        go_wp2_with fail
        go_ret
        exact ⟨ret_bool HT.out.symm, x.base HE.out⟩

theorem end_spots {b : Yb} (hb : YbOk b) {i : Nat} (hi : i < b.lots.length) : (∀ t ∈ b.doors, spB t = true ∧ keyB b (lotAt b i).sp t = true) ∧ ∀ t ∈ b.buckets, spB t = true ∧ keyB b (lotAt b i).sp t = true :=
  ⟨fun t ht => ⟨hb.sd t ht, keyB_door hi (.inl ht)⟩, fun t ht => ⟨hb.sb t ht, keyB_door hi (.inr ht)⟩⟩
set_option maxRecDepth 10000 in
set_option maxHeartbeats 1600000 in
theorem hasDoor_any (b : Yb) (P : Yp) (mb : Nat) (k : Bool) (i : Nat) (hi : i < b.lots.length) (w : World) (hK : YkAt w P mb b) :
    Calls Try.prog 122 #[.agg (trA b P mb k), .int .i64 i] w fun e w' => e = .returned (.bool (reachK b k i b.doors b.door)) ∧ Below w.heap.size w w' := by
  have hE := below_alloc w (.cells (trA b P mb k) 89)
  have hK2 := hK.below hE
  have HC := Lib.hid (reaches_any b P mb k i hi P.pd P.cd b.doors b.door hK.y.n2 (end_spots hK.ok hi).1 _ hK2 hK2.y.d)
  have HE := Lib.hid hE
  clear hE hK2 hK
  go_enter Try.func122, Try.ntmps122
  go_wp2_with (go_at_call 130; refine HC.out.mono ?_; rintro e u ⟨rfl, hbu⟩)
  have HE2 := Lib.hid (HE.out.trans (hbu.mono HE.out.size))
  clear hbu
  go_wp2_with fail
  go_ret
  exact ⟨rfl, HE2.out⟩
set_option maxRecDepth 10000 in
set_option maxHeartbeats 1600000 in
theorem hasBucket_any (b : Yb) (P : Yp) (mb : Nat) (k : Bool) (i : Nat) (hi : i < b.lots.length) (w : World) (hK : YkAt w P mb b) :
    Calls Try.prog 123 #[.agg (trA b P mb k), .int .i64 i] w fun e w' => e = .returned (.bool (reachK b k i b.buckets b.bucket)) ∧ Below w.heap.size w w' := by
  have hE := below_alloc w (.cells (trA b P mb k) 89)
  have hK2 := hK.below hE
  have HC := Lib.hid (reaches_any b P mb k i hi P.pb P.cb b.buckets b.bucket hK.y.n3 (end_spots hK.ok hi).2 _ hK2 hK2.y.u)
  have HE := Lib.hid hE
  clear hE hK2 hK
  go_enter Try.func123, Try.ntmps123
  go_wp2_with (go_at_call 130; refine HC.out.mono ?_; rintro e u ⟨rfl, hbu⟩)
  have HE2 := Lib.hid (HE.out.trans (hbu.mono HE.out.size))
  clear hbu
  go_wp2_with fail
  go_ret
  exact ⟨rfl, HE2.out⟩
abbrev needA : Array Value := #[.func (.func 122) #[] #[], .func (.func 123) #[] #[]]
theorem need0 (w : World) : (Instr.index 133 (.agg needA) (.int .i64 0)).run Try.prog w = .ok (.func (.func 122) #[] #[]) w := by
  simp [Instr.index, go_sem]
theorem need1 (w : World) : (Instr.index 133 (.agg needA) (.int .i64 1)).run Try.prog w = .ok (.func (.func 123) #[] #[]) w := by
  simp [Instr.index, go_sem]
set_option maxRecDepth 10000 in
theorem needs_any (w : World) : Calls Try.prog 99 #[] w fun e w' => e = .returned (.agg needA) ∧ Below w.heap.size w w' := by
  go_enter Try.func99, Try.ntmps99
  go_wp2_with (first | (refine store_new rfl 133 _ _ rfl needA #[.nilFunc, .nilFunc] 133 rfl rfl (by kernel_rfl) rfl (by simp [Value.oneCell']) ?_))
  exact bodyPost_ret (v := .agg needA) (by simp [results, Try.results99, go_sem]) rfl ⟨rfl, below_alloc _ _⟩
end Go.Proofs.Ytajkgfeockcbpaa
