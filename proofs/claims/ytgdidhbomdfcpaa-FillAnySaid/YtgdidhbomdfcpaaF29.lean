/- The walks of layer 5: how many splints so many handfuls have, whichever they are. -/
import Derived.Test.YtgdidhbomdfcpaaF28
import Derived.Test.YtgdidhbomdfcpaaF27
namespace Go.Proofs.Ytgdidhbomdfcpaa
open Go.RowKit Go.Maps
attribute [local go_sem] Oper.semAt_some

/-- Numbers in a block of which nothing is frozen. -/
structure NumsRow (w : World) (g : Nat) (xs : List Int) : Prop where
  i : IntsAt w (some ⟨g, 0, none⟩) xs
  f : ∀ i, w.frozen? ⟨g, i, none⟩ = false
  z : g < w.heap.size
theorem NumsRow.keeps {A B : World} {N : Nat → Prop} {g : Nat} {xs : List Int} (h : NumsRow A g xs) (k : KeepsBut N A B) (hn : ¬ N g) : NumsRow B g xs := by
  have hb := k.block g h.z hn
  refine ⟨fun i hi => ?_, fun i => ?_, Nat.lt_of_lt_of_le h.z k.size⟩
  · obtain ⟨b, o, e, c⟩ := h.i i hi
    cases e
    exact ⟨g, 0, rfl, (World.cell?_of_block hb).trans c⟩
  · exact (World.frozen?_of_block hb).trans (h.f i)
theorem NumsRow.below {A B : World} {g : Nat} {xs : List Int} (h : NumsRow A g xs) (hb : Below A.heap.size A B) : NumsRow B g xs := h.keeps (KeepsBut.of_below (M := fun _ => False) hb) id
/-- The call returned numbers in a block of its own. -/
def GaveRow (n : Nat) (xs : List Int) (w : World) (e : Ending) (w' : World) : Prop := ∃ g cap, e = .returned (.slice (some ⟨g, 0, none⟩) n cap) ∧ NumsRow w' g xs ∧ w.heap.size ≤ g ∧ n ≤ cap ∧ cap ≤ maxLen ∧ Below w.heap.size w w'
theorem gave_row {n : Nat} {xs : List Int} {w w' : World} {e : Ending} (h : GaveNums xs w e w') (hn : xs.length = n) (h0 : 0 < n) : GaveRow n xs w e w' := by
  obtain ⟨v, he, ho, hb⟩ := h
  obtain ⟨p, c, rfl, hi, hc, hm, hp⟩ := ints_of_owns2 ho
  subst hn
  rcases hp with rfl | ⟨g, rfl, hg⟩
  · obtain ⟨b, o, e', _⟩ := hi 0 h0
    cases e'
  · exact ⟨g, c, he, ⟨hi, own_free ho, (own_lt ho rfl).2⟩, hg, hc, hm, hb⟩
/-- The fewest and the most splints that so many handfuls have. -/
def lowAny (b : Bf) (many : Nat) : Int := ((sortL (endL Hd.lo b.hs)).take many).sum
def highAny (b : Bf) (many : Nat) : Int := ((sortL (endL Hd.hi b.hs)).drop (b.hs.length - many)).sum
theorem ints_take {w : World} {p : Option Addr} {xs : List Int} (h : IntsAt w p xs) (k : Nat) : IntsAt w p (xs.take k) := fun i hi => by
  simp only [List.length_take] at hi
  obtain ⟨b, o, e, c⟩ := h i (by omega)
  refine ⟨b, o, e, c.trans ?_⟩
  rw [at0_lt (by omega), at0_lt (by simp; omega)]
  simp
theorem ints_drop {w : World} {g o : Nat} {xs : List Int} (h : IntsAt w (some ⟨g, o, none⟩) xs) (k : Nat) : IntsAt w (some ⟨g, o + k, none⟩) (xs.drop k) := fun i hi => by
  simp only [List.length_drop] at hi
  obtain ⟨b, o', e, c⟩ := h (k + i) (by omega)
  cases e
  refine ⟨g, o + k, rfl, ?_⟩
  rw [Nat.add_assoc, c, at0_lt (by omega), at0_lt (by simp; omega)]
  simp
theorem sort_row {w : World} {g n cap : Nat} {xs : List Int} (h : NumsRow w g xs) (hx : xs.length = n) (h0 : 0 < n) (hn : n ≤ 1000) :
    Calls Try.prog 96 #[.slice (some ⟨g, 0, none⟩) n cap] w fun e w' => e = .returned (.tuple #[]) ∧ NumsRow w' g (sortL xs) ∧ KeepsBut (fun m => m = g) w w' := by
  subst hx
  exact (sort_ints g cap xs w h.i (fun i _ => h.f i) h0 hn).mono fun e w' ⟨h1, h2, h3, h4⟩ => ⟨h1, ⟨h2, fun i => h3 i (h.f i), Nat.lt_of_lt_of_le h.z h4.size⟩, h4⟩
set_option maxRecDepth 10000 in
set_option maxHeartbeats 3200000 in
theorem whichever_any (b : Bf) (p : Option Addr) (c mb many : Nat) (w : World) (hB : BkF w p c mb b) (h1 : 1 ≤ many) (hm : many ≤ b.hs.length) :
    Calls Try.prog 71 #[.agg (bkA b p c mb), .int .i64 many] w fun e w' => e = .returned (.agg #[.int .i64 (lowAny b many), .int .i64 (highAny b many)]) ∧ Below w.heap.size w w' := by
  have hn8 := hB.ok.n8
  have HB0 := Lib.hid hB
  obtain ⟨W0, hW0⟩ : ∃ W, W = ((w.alloc (.cells (bkA b p c mb) 79)).alloc (.cells #[.int .i64 0, .int .i64 0] 27)) := ⟨_, rfl⟩
  have HW0 := Lib.hid hW0
  have HE := Lib.hid (show Below w.heap.size w W0 by rw [hW0]; exact below_alloc2 _ _ _)
  have HR := Lib.hid (show Row W0 w.heap.size (bkA b p c mb) 79 by rw [hW0]; exact (Row.new w _ _).alloc _)
  have HQ := Lib.hid (show Row W0 (w.heap.size + 1) #[.int .i64 0, .int .i64 0] 27 by rw [hW0]; exact Row.new1 w _ _ _)
  have hzq := HQ.out.lt
  clear hW0 hB
  go_enter Try.func71, Try.ntmps71
  go_wp2_with fail
  rw [← HW0.out]
  refine (ends_any _).mono ?_
  rintro e u ⟨rfl, hbu⟩
  obtain ⟨z0, rfl⟩ := later_of hbu
  clear hbu
  go_wp2_with (first | (refine store_new rfl 99 _ _ rfl endsA #[.nilFunc, .nilFunc] 99 rfl rfl (by kernel_rfl) rfl (by simp [Value.oneCell']) ?_))
  have rE := Row.new z0.w endsA 99
  have hz0 := z0.b.size
  have hne : W0.heap.size ≤ z0.w.heap.size := hz0
  obtain ⟨z1, hz1⟩ := z0.on (below_alloc z0.w (.cells endsA 99))
  change Code.wp _ _ _ _ (z0.w.alloc (.cells endsA 99))
  rw [hz1] at rE ⊢
  clear hz1
  generalize z0.w.heap.size = b1 at *
  obtain ⟨n, hn⟩ : ∃ n, b.hs.length = n := ⟨_, rfl⟩
  have HN := Lib.hid hn
  have hnn : many ≤ n := by omega
  have hn88 : n ≤ 8 := by omega
  have HLL := Lib.hid (show (endL Hd.lo b.hs).length = n by rw [endL_length]; exact hn)
  have HLH := Lib.hid (show (endL Hd.hi b.hs).length = n by rw [endL_length]; exact hn)
  have HNL := Lib.hid (fun w' (k : From z1.w w') => (by
    have h := numbers_lo_own p c b.hs w' (HB0.out.a.h.below ((z1.base HE.out).trans (k.b.mono (z1.base HE.out).size))) (by omega)
    rw [hn] at h
    exact h.mono fun e w'' h => gave_row h HLL.out (by omega) : Calls Try.prog 91 #[.slice p n c, .func (.func 104) #[] #[]] w' (GaveRow n (endL Hd.lo b.hs) w')))
  have HNH := Lib.hid (fun w' (k : From z1.w w') => (by
    have h := numbers_hi_own p c b.hs w' (HB0.out.a.h.below ((z1.base HE.out).trans (k.b.mono (z1.base HE.out).size))) (by omega)
    rw [hn] at h
    exact h.mono fun e w'' h => gave_row h HLH.out (by omega) : Calls Try.prog 91 #[.slice p n c, .func (.func 105) #[] #[]] w' (GaveRow n (endL Hd.hi b.hs) w')))
  have RBK := Lib.hid (z1.fr.row HR.out)
  have s0 := RBK.out.cell 4 (v := .slice p b.hs.length c) rfl
  have s1 := rE.cell 0 (v := .func (.func 104) #[] #[]) rfl
  have s2 := rE.cell 1 (v := .func (.func 105) #[] #[]) rfl
  rw [hn] at s0
  have HSS := Lib.hid (fun w' (k : From z1.w w') => (⟨k.cell s0, k.cell s1, k.cell s2⟩ : w'.cell? ⟨w.heap.size, 4, none⟩ = some (.slice p n c) ∧ w'.cell? ⟨b1, 0, none⟩ = some (.func (.func 104) #[] #[]) ∧ w'.cell? ⟨b1, 1, none⟩ = some (.func (.func 105) #[] #[])))
  have KI := Lib.hid (show From z1.w z1.w.drew from (From.refl z1.w).drew)
  have HLO := Lib.hid (show lowAny b many = ((sortL (endL Hd.lo b.hs)).take many).sum from rfl)
  have HHI := Lib.hid (show highAny b many = ((sortL (endL Hd.hi b.hs)).drop (n - many)).sum by unfold highAny; rw [hn])
  have HOK := Lib.hid HB0.out.ok
  have HRL := Lib.hid (endL_range (f := Hd.lo) (hs := b.hs) (B := 100000) (fun x hx => by have := hd_bounds HOK.out.h x hx; omega))
  have HRH := Lib.hid (endL_range (f := Hd.hi) (hs := b.hs) (B := 100000) (fun x hx => by have := hd_bounds HOK.out.h x hx; omega))
  generalize endL Hd.lo b.hs = ls at *
  generalize endL Hd.hi b.hs = hs at *
  obtain ⟨lo, hlo⟩ : ∃ x, lowAny b many = x := ⟨_, rfl⟩
  obtain ⟨hi, hhi⟩ : ∃ x, highAny b many = x := ⟨_, rfl⟩
  rw [hlo] at HLO
  rw [hhi] at HHI
  have HLA := Lib.hid hlo
  have HHA := Lib.hid hhi
  clear hlo hhi
  clear s0 s1 s2 rE hn hm hn8 hne
  go_region_held3 (fun w' => w'.cell? ⟨w.heap.size, 4, none⟩ = some (.slice p n c) ∧ w'.cell? ⟨b1, 0, none⟩ = some (.func (.func 104) #[] #[]) ∧ w'.cell? ⟨b1, 1, none⟩ = some (.func (.func 105) #[] #[]))
    (with_reducible exact HSS.out _ KI.out)
    (first
      | (go_at_call 91; (with_reducible refine (HNL.out _ KI.out).mono ?_); rintro e wy ⟨gl, cl, rfl, hil, hgl, hcl, hml, hbu⟩; (try have HNE := Lib.hid (show gl ≠ gh by have h1 := HIH.out.z; omega)); have hgl2 : z1.w.heap.size ≤ gl := Nat.le_trans KI.out.b.size hgl; have KI := Lib.hid (KI.out.below hbu); have HIL := Lib.hid hil; (try have HIH := Lib.hid (HIH.out.below hbu)); clear hil hbu hgl)
      | (go_at_call 91; (with_reducible refine (HNH.out _ KI.out).mono ?_); rintro e wy ⟨gh, ch, rfl, hih, hgh, hch, hmh, hbu⟩; (try have HNE := Lib.hid (show gl ≠ gh by have h1 := HIL.out.z; omega)); have hgh2 : z1.w.heap.size ≤ gh := Nat.le_trans KI.out.b.size hgh; have KI := Lib.hid (KI.out.below hbu); have HIH := Lib.hid hih; (try have HIL := Lib.hid (HIL.out.below hbu)); clear hih hbu hgh))
  all_goals
    go_wp2_with fail
    have hzw := z1.b.size
    have hnz : 0 < n := by omega
    have hn10 : n ≤ 1000 := by omega
    have HEC := Lib.hid ((z1.base HE.out).trans (KI.out.b.mono (z1.base HE.out).size))
    have HQC := Lib.hid (KI.out.row (z1.fr.row HQ.out))
    refine (sort_row HIL.out HLL.out hnz hn10).mono ?_
    rintro e w2 ⟨rfl, hil, hk2⟩
    have HIL := Lib.hid hil
    have HIH := Lib.hid (HIH.out.keeps hk2 (fun e => HNE.out e.symm))
    have HQC := Lib.hid (HQC.out.keeps hk2 (by omega))
    have HEC := Lib.hid (below_keep HEC.out hk2 HEC.out.size (fun m hm => by omega))
    clear hil hk2
    go_wp2_with fail
    refine (sort_row HIH.out HLH.out hnz hn10).mono ?_
    rintro e w3 ⟨rfl, hih, hk3⟩
    have HIH := Lib.hid hih
    have HIL := Lib.hid (HIL.out.keeps hk3 HNE.out)
    have HQC := Lib.hid (HQC.out.keeps hk3 (by omega))
    have HEC := Lib.hid (below_keep HEC.out hk3 HEC.out.size (fun m hm => by omega))
    clear hih hk3
    obtain ⟨d, hd⟩ : ∃ d, n = many + d := ⟨n - many, by omega⟩
    subst hd
    have HSL := Lib.hid (by
      have h := sum_any (some ⟨gl, 0, none⟩) many ((sortL ls).take many) w3.drew (ints_take HIL.out.i many) (by simp; omega) (fun x hx => HRL.out x ((sortL_perm ls).mem_iff.1 (List.mem_of_mem_take hx)))
      rw [List.length_take, sortL_length, HLL.out, show min many (many + d) = many by omega, ← HLO.out] at h
      exact h : Calls Try.prog 90 #[.slice (some ⟨gl, 0, none⟩) many many] w3.drew fun e w' => e = .returned (.int .i64 lo) ∧ w3.drew = w')
    have HSH := Lib.hid (by
      have h := sum_any (some ⟨gh, 0 + d, none⟩) (ch - d) ((sortL hs).drop d) w3.drew (ints_drop HIH.out.i d) (by rw [List.length_drop, sortL_length, HLH.out]; omega) (fun x hx => HRH.out x ((sortL_perm hs).mem_iff.1 (List.mem_of_mem_drop hx)))
      rw [List.length_drop, sortL_length, HLH.out, show many + d - d = many by omega, Nat.zero_add] at h
      have h2 := HHI.out
      rw [show many + d - many = d by omega] at h2
      rw [← h2] at h
      exact h : Calls Try.prog 90 #[.slice (some ⟨gh, d, none⟩) many (ch - d)] w3.drew fun e w' => e = .returned (.int .i64 hi) ∧ w3.drew = w')
    have i1 : (0 : Int) ≤ (many : Int) := by omega
    have i2 : (many : Int) ≤ (cl : Int) := by omega
    have i3 : (0 : Int) ≤ (d : Int) := by omega
    have i4 : (d : Int) ≤ ((many + d : Nat) : Int) := by omega
    have i5 : (d : Int) < (ch : Int) := by omega
    have i6 : ((many + d : Nat) : Int) - (many : Int) = (d : Int) := by omega
    have i7 : ((many + d : Nat) : Int) ≤ (ch : Int) := by omega
    have i8 : (many : Int) + (d : Int) ≤ (ch : Int) := by omega
    have i9 : (d : Int) ≤ (ch : Int) := by omega
    have i10 : ¬ ch = d := by omega
    have i11 : ¬ d = ch := by omega
    have i12 : d < ch := by omega
    have i13 : 0 < ch - d := by omega
    have i14 : ¬ (many : Int) + (d : Int) < (d : Int) := by omega
    go_upto_region 5 with (fail)
    have e9 : IntKind.i64.wrap ((many : Int) + (d : Int) - (many : Int)) = (d : Int) := by rw [show (many : Int) + (d : Int) - (many : Int) = (d : Int) by omega]; exact IntWalk.i64_in _ (by omega)
    have e8 : IntKind.i64.wrap (d : Int) = (d : Int) := IntWalk.i64_in _ (by omega)
    have c0 := HQC.out.cell 0 (v := .int .i64 0) rfl
    have c1 := HQC.out.cell 1 (v := .int .i64 0) rfl
    have f0 := HQC.out.free 0
    have f1 := HQC.out.free 1
    go_region_held3 (fun _ => True) (exact trivial)
      (first
        | (go_at_call 90; (with_reducible refine HSL.out.mono ?_); rintro e wy ⟨rfl, rfl⟩)
        | (go_at_call 90; (with_reducible refine HSH.out.mono ?_); rintro e wy ⟨rfl, rfl⟩))
    all_goals
      clear e8 e9
      go_wp2_with fail
      have q := (HQC.out.set 0 (.int .i64 lo)).set 1 (.int .i64 hi)
      have e0 := q.cell 0 (v := .int .i64 lo) rfl
      have e1 := q.cell 1 (v := .int .i64 hi) rfl
      exact bodyPost_ret (v := .agg #[.int .i64 lo, .int .i64 hi]) (by simp [results, Try.results71, go_sem, e0, e1]) rfl
        ⟨by rw [HLA.out, HHA.out], (HEC.out.drew.setCell (by dsimp only; omega) _).setCell (by dsimp only; omega) _⟩
end Go.Proofs.Ytgdidhbomdfcpaa
