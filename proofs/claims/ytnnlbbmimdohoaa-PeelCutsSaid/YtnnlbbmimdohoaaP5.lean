/- The walks of layer 1: the places of a knot, one by one. -/
import Derived.Test.YtnnlbbmimdohoaaP4
import Derived.Test.YtnnlbbmimdohoaaG
import Derived.Deep.DeepCutAuto
import Derived.Deep.LoopGhost
namespace Go.Proofs.Ytnnlbbmimdohoaa
open Go.RowKit
attribute [local go_sem] Oper.semAt_some

/-- A pointer to a block of the call's own. -/
def PtrTo (n : Nat) (v : Value) (cs : Array Value) (t : TypeId) (w : World) : Prop := ∃ p, v = .pointer (some ⟨p, 0, none⟩) ∧ n ≤ p ∧ Row w p cs t
theorem PtrTo.new {n : Nat} {w : World} (hn : n ≤ w.heap.size) (cs : Array Value) (t : TypeId) : PtrTo n (.pointer (some ⟨w.heap.size, 0, none⟩)) cs t (w.alloc (.cells cs t)) := ⟨_, rfl, hn, Row.new _ _ _⟩
theorem PtrTo.alloc {n : Nat} {v : Value} {cs : Array Value} {t : TypeId} {w : World} (h : PtrTo n v cs t w) (o : Obj) : PtrTo n v cs t (w.alloc o) := let ⟨p, hv, hp, hr⟩ := h; ⟨p, hv, hp, hr.alloc o⟩
theorem PtrTo.below {n : Nat} {v : Value} {cs : Array Value} {t : TypeId} {w w' : World} (h : PtrTo n v cs t w) (hb : Below w.heap.size w w') : PtrTo n v cs t w' := let ⟨p, hv, hp, hr⟩ := h; ⟨p, hv, hp, hr.below hb hr.lt⟩
theorem PtrTo.setRow {n q : Nat} {v : Value} {cs ds : Array Value} {t : TypeId} {w : World} (h : PtrTo n v cs t w) (hne : (.pointer (some ⟨q, 0, none⟩) : Value) ≠ v) : PtrTo n v cs t (w.setRow q ds) :=
  let ⟨p, hv, hp, hr⟩ := h; ⟨p, hv, hp, hr.setRow_other ds (fun e => hne (by rw [hv, e]))⟩
theorem PtrTo.fresh_ne {n : Nat} {v : Value} {t : TypeId} {w : World} (h : ∃ cs, PtrTo n v cs t w) : (.pointer (some ⟨w.heap.size, 0, none⟩) : Value) ≠ v := by
  obtain ⟨cs, p, rfl, _, hr⟩ := h
  intro e
  have := hr.lt
  simp at e
/-- A knot, as far as it is known where it is. -/
structure K4 where
  al : Int
  ah : Int
  fl : Int
  fh : Int
def K4.A (k : K4) : Array Value := #[.int .i64 k.al, .int .i64 k.ah, .int .i64 k.fl, .int .i64 k.fh]
def placeV (a t : Int) : Value := .agg #[.int .i64 a, .int .i64 t]

set_option maxRecDepth 10000 in
set_option maxHeartbeats 800000 in
theorem pieces_any (R : Rib) (sz wd : Nat) (hs : R.s.length = 6) (hsz : R.sz = sz) (h1 : 1 ≤ sz) (h6 : sz ≤ 6) (hwd : R.wide = wd) (hw : wd ≤ 72) (kn : List Bool) (hk : kn.length = 72) (w : World) :
    Calls Try.prog 76 #[.agg R.A, cols kn] w fun e w' => e = .returned (.int .i64 ((cutL (wholeL kn sz R.wide) sz wd 0).length : Nat)) ∧ Below w.heap.size w w' := by
  rw [cols_def]
  have HS := Lib.hid (size76 hs)
  have HK := Lib.hid (size88 hk)
  have HW := Lib.hid hwd
  have HZ := Lib.hid hsz
  clear hwd hsz
  go_enter Try.func76, Try.ntmps76
  go_wp2_with (first | (refine load_row rfl 76 _ rfl _ rfl 76 _ _ ((Row.new _ _ _).alloc _) Try.underlying76 rfl HS.out ?_) | (refine load_row rfl 88 _ rfl _ rfl 88 _ _ (Row.new' (by simp) _ _) Try.underlying88 rfl HK.out ?_))
  refine (knife_any R sz hs HZ.out h1 h6 (by rw [HW.out]; omega) (by rw [HW.out]; omega) kn hk _).mono ?_
  rintro e w1 ⟨rfl, hb1⟩
  have hz1 := hb1.size
  simp at hz1
  have HB := Lib.hid (((below_alloc _ _).alloc (by simp) _).trans (hb1.mono (by simp; omega)) : Below w.heap.size w w1)
  clear hb1
  go_wp2_with fail
  rw [show knifeV R.wide sz (wholeL kn sz R.wide) = knifeV wd sz (wholeL kn sz R.wide) by rw [HW.out]]
  refine (cut_any wd sz h1 h6 hw _ (wholeL_length _ _ _) _).mono ?_
  rintro e w2 ⟨p, c, rfl, _, hb2⟩
  have HB := Lib.hid (HB.out.trans (hb2.mono (by omega)))
  clear hb2
  go_wp2
  go_ret
  exact ⟨rfl, HB.out⟩

theorem places_any (k : K4) (w : World) :
    Calls Try.prog 82 #[.agg k.A] w fun e w' => e = .returned (.func (.func 93) #[] #[.pointer (some ⟨w.heap.size, 0, none⟩)]) ∧ w' = w.alloc (.cells k.A 113) := by
  go_enter Try.func82, Try.ntmps82
  go_wp2
  go_ret
  exact ⟨rfl, rfl⟩

/-- The places of a knot, as values. -/
def placesL (k : K4) : List (Int × Int) :=
  (List.range (k.ah - k.al + 1).toNat).flatMap fun (i : Nat) => (List.range (k.fh - k.fl + 1).toNat).map fun (j : Nat) => (k.al + (i : Int), k.fl + (j : Int))
theorem placesL_at {k : K4} {p m : Nat} (hm : k.fh - k.fl + 1 = m) (hp : k.ah - k.al + 1 = p) {i j : Nat} (hi : i < p) (hj : j < m) :
    ((placesL k).map fun q => #[placeV q.1 q.2])[i * m + j]? = some #[placeV (k.al + i) (k.fl + j)] := by
  have h : ∀ (n i : Nat), i < n → ((List.range n).flatMap fun (i : Nat) => (List.range m).map fun (j : Nat) => (k.al + (i : Int), k.fl + (j : Int)))[i * m + j]? = some (k.al + (i : Int), k.fl + (j : Int)) := by
    intro n
    induction n with
    | zero => intro i h; omega
    | succ n ih =>
      intro i h
      have hlen : ((List.range n).flatMap fun (i : Nat) => (List.range m).map fun (j : Nat) => (k.al + (i : Int), k.fl + (j : Int))).length = n * m := by
        clear ih h; induction n with
        | zero => simp
        | succ n ih2 => rw [List.range_succ, List.flatMap_append, List.length_append, ih2, Nat.succ_mul]; simp
      rw [List.range_succ, List.flatMap_append]
      rcases Nat.lt_or_ge i n with h1 | h1
      · rw [List.getElem?_append_left (by rw [hlen]; calc i * m + j < i * m + m := by omega
                                                        _ = (i + 1) * m := by rw [Nat.succ_mul]
                                                        _ ≤ n * m := Nat.mul_le_mul_right m h1)]
        exact ih i h1
      · have e : i = n := by omega
        subst e
        rw [List.getElem?_append_right (by rw [hlen]; omega), hlen]
        simp [hj]
  simp only [placesL, hm, hp, Int.toNat_natCast, List.getElem?_map, h p i hi, Option.map_some]
theorem placesL_length {k : K4} {p m : Nat} (hm : k.fh - k.fl + 1 = m) (hp : k.ah - k.al + 1 = p) : (placesL k).length = p * m := by
  simp only [placesL, hm, hp, Int.toNat_natCast]
  clear hm hp
  induction p with
  | zero => simp
  | succ n ih2 => rw [List.range_succ, List.flatMap_append, List.length_append, ih2, Nat.succ_mul]; simp
theorem idx_lt {i j p m : Nat} (hi : i < p) (hj : j < m) : i * m + j < p * m := by
  have h : (i + 1) * m ≤ p * m := Nat.mul_le_mul_right m hi
  rw [Nat.succ_mul] at h
  omega
structure K4Ok (k : K4) : Prop where
  a : k.al ≤ k.ah
  f : k.fl ≤ k.fh
  a0 : 0 ≤ k.al
  a1 : k.ah ≤ 23
  f0 : 0 ≤ k.fl
  f1 : k.fh ≤ 6

set_option maxRecDepth 10000 in
set_option maxHeartbeats 800000 in
theorem places1_iter (k : K4) (hk : K4Ok k) (kb : Nat) (W : World) (hW : Row W kb k.A 113) :
    IterAt Try.prog 93 #[.pointer (some ⟨kb, 0, none⟩)] (fun m => m = kb) ((placesL k).map fun p => #[placeV p.1 p.2]) W := by
  intro l M J Jx hM hJ hJx hY h0
  show Calls _ _ #[.func (.yield l) #[] #[], .pointer (some ⟨kb, 0, none⟩)] _ _
  have hkb := hW.lt
  have hkb := hW.lt
  have hkb := hW.lt
  go_enter Try.func93, Try.ntmps93
  go_wp2_with fail
  refine region_inv rfl (by kernel_rfl) (fun L a w => ∃ x3 x4 x5 x6 x7 x8 : Value, a = { tmps := #[.func (.yield l) #[] #[], .pointer (some ⟨kb, 0, none⟩), undef, x3, x4, x5, x6, x7, x8, undef, undef, undef, undef, undef, undef, undef, undef, undef, undef, undef, undef, undef, undef, undef, undef, undef, undef, undef, undef, undef, undef, undef, undef, undef], defers := [] } ∧ Hid (L 0 = true → x5 = .agg k.A) ∧ Hid (L 1 = true → x6 = .agg #[.int .i64 k.al, .int .i64 k.fl]) ∧ Hid (L 2 = true → x7 = .agg k.A) ∧ Hid (L 3 = true → x8 = .agg #[.int .i64 k.ah, .int .i64 k.fh]) ∧ Hid (Row w kb k.A 113) ∧ Hid (L 4 = true → L 6 = false → PtrTo W.heap.size x3 #[.int .i64 0, .int .i64 0] 80 w) ∧ Hid (L 6 = true → PtrTo W.heap.size x3 #[.int .i64 k.al, .int .i64 k.fl] 80 w) ∧ Hid (L 5 = true → L 7 = false → PtrTo W.heap.size x4 #[.int .i64 0, .int .i64 0] 80 w) ∧ Hid (L 7 = true → PtrTo W.heap.size x4 #[.int .i64 k.ah, .int .i64 k.fh] 80 w) ∧ Hid (L 4 = true → L 5 = true → x3 ≠ x4) ∧ Hid (L 6 = true → L 4 = true) ∧ Hid (L 7 = true → L 5 = true) ∧ Hid (Below W.heap.size W w)) ?h0 ?steps ?hd
  case h0 => exact ⟨_, _, _, _, _, _, rfl, Lib.hid nofun, Lib.hid nofun, Lib.hid nofun, Lib.hid nofun, Lib.hid (hW), Lib.hid (nofun), Lib.hid (nofun), Lib.hid (nofun), Lib.hid (nofun), Lib.hid (nofun), Lib.hid (nofun), Lib.hid (nofun), Lib.hid ((Below.refl _ _).drew)⟩
  case hd =>
    rintro L a w hL ⟨x3, x4, x5, x6, x7, x8, rfl, hf0, hf1, hf2, hf3, hr, hA, hA2, hB, hB2, hne, hord, hord2, hb⟩
    obtain rfl := hf0.out (hL 0 (by decide))
    obtain rfl := hf1.out (hL 1 (by decide))
    obtain rfl := hf2.out (hL 2 (by decide))
    obtain rfl := hf3.out (hL 3 (by decide))
    clear hf0
    clear hf1
    clear hf2
    clear hf3
    obtain ⟨pa, rfl, hpa, hra⟩ := hA2.out (hL 6 (by decide))
    obtain ⟨pl, rfl, hpl, hrl⟩ := hB2.out (hL 7 (by decide))
    have hne1 : pa ≠ pl := fun h => hne.out (hL 4 (by decide)) (hL 5 (by decide)) (by rw [h])
    clear hA hA2 hB hB2 hne hord hord2 hL
    go_upto_region 1 with (fail)
    obtain ⟨m, hm⟩ : ∃ m : Nat, k.fh - k.fl + 1 = m := ⟨(k.fh - k.fl + 1).toNat, by have := hk.f; omega⟩
    obtain ⟨p, hp⟩ : ∃ p : Nat, k.ah - k.al + 1 = p := ⟨(k.ah - k.al + 1).toNat, by have := hk.a; omega⟩
    have hm1 : 1 ≤ m := by have := hk.f; omega
    have hp1 : 1 ≤ p := by have := hk.a; omega
    have HM := Lib.hid hm
    have HP := Lib.hid hp
    clear hm hp
    go_loopg [] (p * m) (fun g wr => ∃ i j : Nat, g = p * m - (i * m + j) ∧ i < p ∧ j < m ∧ J (i * m + j) wr ∧ Row wr pa #[.int .i64 (k.al + i), .int .i64 (k.fl + j)] 80 ∧ Row wr pl #[.int .i64 k.ah, .int .i64 k.fh] 80 ∧ Row wr kb k.A 113 ∧ KeepsBut M W wr)
    case atStart => exact ⟨0, 0, by simp, by omega, by omega, by simpa using hJ 0 _ _ h0 hb.out, by simpa using hra, hrl, hr.out, .of_below hb.out⟩
    case round =>
      obtain ⟨i, j, hg, hi, hj, hJn, r1, r2, r3, hkeep⟩ := hrel
      have HG := Lib.hid hg
      have c0 := r1.cell 0 (v := .int .i64 (k.al + i)) rfl
      have c1 := r1.cell 1 (v := .int .i64 (k.fl + j)) rfl
      obtain ⟨fn, tmps, assign, body, hy, hR⟩ := hY (i * m + j) #[placeV (k.al + i) (k.fl + j)] wr (placesL_at HM.out HP.out hi hj) hJn hkeep
      unfold placeV at hy
      have R1 := Lib.hid r1
      have R2 := Lib.hid r2
      have R3 := Lib.hid r3
      have HK2 := Lib.hid hkeep
      have HR := Lib.hid hR
      have hz1 := r1.lt
      have hz2 := r2.lt
      clear r1 r2 r3 hkeep hR hg hJn
      refine wp_seq_k (fun K1 hK1 => wp_seq_k (fun K2 hK2 => (wpIn_wide (n := 1)).1 ?_))
      gi_wp2_with fail
      refine HR.out.mono ?_
      rintro e B ⟨hkB, (⟨rfl, hJ1⟩ | ⟨rfl, hJx1⟩)⟩
      · have hzB := hkB.size
        have R1 := Lib.hid (R1.out.keeps hkB (fun h => by have := (hM _ h).1; omega))
        have R2 := Lib.hid (R2.out.keeps hkB (fun h => by have := (hM _ h).1; omega))
        have R3 := Lib.hid (R3.out.keeps hkB (fun h => (hM _ h).2 rfl))
        have HK2 := Lib.hid (HK2.out.trans hkB)
        have HJ1 := Lib.hid hJ1
        clear hkB hJ1 hy c0 c1
        have c0 := R1.out.cell 0 (v := .int .i64 (k.al + i)) rfl
        have c1 := R1.out.cell 1 (v := .int .i64 (k.fl + j)) rfl
        have l0 := R2.out.cell 0 (v := .int .i64 k.ah) rfl
        have l1 := R2.out.cell 1 (v := .int .i64 k.fh) rfl
        have k2 := R3.out.cell 2 (v := .int .i64 k.fl) rfl
        have b0 := hk.a0
        have b1 := hk.a1
        have b2 := hk.f0
        have b3 := hk.f1
        have b4 : k.al + i ≤ k.ah := by have := HP.out; omega
        have b5 : k.fl + j ≤ k.fh := by have := HM.out; omega
        by_cases elast : k.al + i = k.ah ∧ k.fl + j = k.fh
        · have e1' : (k.al + i == k.ah) = true := by simpa using elast.1
          have e2' : (k.fl + j == k.fh) = true := by simpa using elast.2
          have HE := Lib.hid elast
          clear elast
          gi_wp2
          go_wp2
          go_end0
          refine ⟨⟨_, rfl⟩, HK2.out, .inl ?_⟩
          have e : i * m + j + 1 = ((placesL k).map fun q => #[placeV q.1 q.2]).length := by
            rw [List.length_map, placesL_length HM.out HP.out]
            have h1 : i + 1 = p := by have := HP.out; have := HE.out.1; omega
            have h2 : j + 1 = m := by have := HM.out; have := HE.out.2; omega
            rw [← h1, Nat.succ_mul]; omega
          rw [← e]
          exact HJ1.out
        · have hidx := idx_lt hi hj
          have f1 := R1.out.free 1
          have f0 := R1.out.free 0
          have d1 : (B.setCell ⟨pa, 1, none⟩ (.int .i64 (k.fl + j + 1))).cell? ⟨pa, 1, none⟩ = some (.int .i64 (k.fl + j + 1)) := (R1.out.set 1 _).cell 1 rfl
          have d2 : (B.setCell ⟨pa, 1, none⟩ (.int .i64 (k.fl + j + 1))).cell? ⟨pl, 1, none⟩ = some (.int .i64 k.fh) := (R2.out.set_other _ _ (by dsimp only; omega)).cell 1 rfl
          have hrow1 := Lib.hid (R1.out.set 1 (.int .i64 (k.fl + j + 1)))
          have hJset : ∀ A, Below W.heap.size B A → J (i * m + j + 1) A := fun A hA => hJ _ _ _ HJ1.out hA
          have HJS := Lib.hid hJset
          have HEL := Lib.hid elast
          clear hJset
          have hbranch : (k.al + i == k.ah) = false ∨ ((k.al + i == k.ah) = true ∧ (k.fl + j == k.fh) = false) := by
            rcases Classical.em (k.al + i = k.ah) with h | h
            · exact .inr ⟨by simpa using h, by simp; exact fun h2 => elast ⟨h, h2⟩⟩
            · exact .inl (by simpa using h)
          clear elast
          by_cases hjm : j + 1 < m
          · have hcmp : k.fl + j + 1 ≤ k.fh := by have := HM.out; omega
            rcases hbranch with h1 | ⟨h1, h2⟩
            all_goals
              gi_wp2
              go_wp2
              go_roundg (p * m - (i * m + (j + 1)))
              case measure => have := HG.out; omega
              case rel =>
                refine ⟨i, j + 1, rfl, hi, hjm, HJS.out _ ((Below.refl _ _).setCell (by dsimp only; omega) _), ?_, R2.out.set_other _ _ (by dsimp only; omega), R3.out.set_other _ _ (by dsimp only; omega), HK2.out.setCell (.inr (by dsimp only; omega)) _⟩
                have := hrow1.out
                rw [show k.fl + (j : Int) + 1 = k.fl + ((j + 1 : Nat) : Int) by omega] at this
                rw [show k.fl + (j : Int) + 1 = k.fl + ((j + 1 : Nat) : Int) by omega]
                exact this
          · have hjm1 : j + 1 = m := by omega
            have hcmp : k.fh < k.fl + j + 1 := by have := HM.out; omega
            have him : i + 1 < p := by
              have := HP.out; have := HM.out; have := HEL.out
              have h3 : k.fl + j = k.fh := by omega
              have h4 : ¬ k.al + i = k.ah := fun h => HEL.out ⟨h, h3⟩
              omega
            have HJM := Lib.hid hjm1
            clear hjm1
            have d0 : (B.setCell ⟨pa, 1, none⟩ (.int .i64 (k.fl + j + 1))).cell? ⟨pa, 0, none⟩ = some (.int .i64 (k.al + i)) := (R1.out.set 1 _).cell 0 rfl
            have d3 : (B.setCell ⟨pa, 1, none⟩ (.int .i64 (k.fl + j + 1))).cell? ⟨kb, 2, none⟩ = some (.int .i64 k.fl) := (R3.out.set_other _ _ (by dsimp only; omega)).cell 2 rfl
            rcases hbranch with h1 | ⟨h1, h2⟩
            all_goals
              gi_wp2
              go_wp2_with (first | (refine store_row rfl 80 _ _ rfl _ _ _ _ rfl rfl hrow1.out (by kernel_rfl) rfl (by simp [Value.oneCell']) ?_))
              go_roundg (p * m - ((i + 1) * m + 0))
              case measure => have := HG.out; have := HJM.out; rw [Nat.succ_mul]; omega
              case rel =>
                have e : i * m + j + 1 = (i + 1) * m + 0 := by rw [Nat.succ_mul]; have := HJM.out; omega
                refine ⟨i + 1, 0, rfl, him, by omega, by rw [← e]; exact HJS.out _ (below_setRow ((Below.refl _ _).setCell (by dsimp only; omega) _) (by omega) _), ?_, (R2.out.set_other _ _ (by dsimp only; omega)).setRow_other _ (by omega), (R3.out.set_other _ _ (by dsimp only; omega)).setRow_other _ (by omega), (HK2.out.setCell (.inr (by dsimp only; omega)) _).setRow (.inr (by omega)) _⟩
                have h5 := hrow1.out.setRow #[.int .i64 (k.al + i + 1), .int .i64 k.fl]
                rw [show k.al + (i : Int) + 1 = k.al + ((i + 1 : Nat) : Int) by omega] at h5
                rw [show k.al + (i : Int) + 1 = k.al + ((i + 1 : Nat) : Int) by omega]
                simpa using h5
      · have HJX := Lib.hid hJx1
        have HK2 := Lib.hid (HK2.out.trans hkB)
        clear hkB hJx1 hy c0 c1
        gi_wp2
        go_wp2
        go_end0
        exact ⟨⟨_, rfl⟩, HK2.out, .inr HJX.out⟩
  case steps =>
    refine ⟨?_, ?_, ?_, ?_, ?_, ?_, ?_, ?_, trivial⟩
    · rintro L a w hL hk ⟨x3, x4, x5, x6, x7, x8, rfl, hf0, hf1, hf2, hf3, hr, hA, hA2, hB, hB2, hne, hord, hord2, hb⟩ K hK
      have HK0 := Lib.hid hK
      clear hK
      clear hL
      clear hk
      refine wp_load_row 113 _ rfl _ rfl 113 _ (0, 0) _ hr.out Try.underlying113 rfl rfl ?_
      exact HK0.out _ _ ⟨_, _, _, _, _, _, rfl, Lib.hid (fun _ => rfl), Lib.hid (fun h => hf1.out (by simpa [upd] using h)), Lib.hid (fun h => hf2.out (by simpa [upd] using h)), Lib.hid (fun h => hf3.out (by simpa [upd] using h)), hr, Lib.hid (fun h1 h2 => hA.out (by simpa [upd] using h1) (by simpa [upd] using h2)), Lib.hid (fun h => hA2.out (by simpa [upd] using h)), Lib.hid (fun h1 h2 => hB.out (by simpa [upd] using h1) (by simpa [upd] using h2)), Lib.hid (fun h => hB2.out (by simpa [upd] using h)), Lib.hid (fun h1 h2 => hne.out (by simpa [upd] using h1) (by simpa [upd] using h2)), Lib.hid (fun h => by have := hord.out (by simpa [upd] using h); simp [upd]; try exact this), Lib.hid (fun h => by have := hord2.out (by simpa [upd] using h); simp [upd]; try exact this), hb⟩
    · rintro L a w hL hk ⟨x3, x4, x5, x6, x7, x8, rfl, hf0, hf1, hf2, hf3, hr, hA, hA2, hB, hB2, hne, hord, hord2, hb⟩ K hK
      have HK0 := Lib.hid hK
      clear hK
      obtain rfl := hf0.out (after_on hL 0 rfl)
      clear hL
      clear hk
      go_wp2_with fail
      refine (low_any k.al k.ah k.fl k.fh _).mono ?_
      rintro e w1 ⟨rfl, hb1⟩
      exact HK0.out _ _ ⟨_, _, _, _, _, _, rfl, Lib.hid (fun _ => rfl), Lib.hid (fun _ => rfl), Lib.hid (fun h => hf2.out (by simpa [upd] using h)), Lib.hid (fun h => hf3.out (by simpa [upd] using h)), Lib.hid (hr.out.below hb1 hr.out.lt), Lib.hid (fun h1 h2 => (hA.out (by simpa [upd] using h1) (by simpa [upd] using h2)).below hb1), Lib.hid (fun h => (hA2.out (by simpa [upd] using h)).below hb1), Lib.hid (fun h1 h2 => (hB.out (by simpa [upd] using h1) (by simpa [upd] using h2)).below hb1), Lib.hid (fun h => (hB2.out (by simpa [upd] using h)).below hb1), Lib.hid (fun h1 h2 => hne.out (by simpa [upd] using h1) (by simpa [upd] using h2)), Lib.hid (fun h => by have := hord.out (by simpa [upd] using h); simp [upd]; try exact this), Lib.hid (fun h => by have := hord2.out (by simpa [upd] using h); simp [upd]; try exact this), Lib.hid (hb.out.trans (hb1.mono hb.out.size))⟩
    · rintro L a w hL hk ⟨x3, x4, x5, x6, x7, x8, rfl, hf0, hf1, hf2, hf3, hr, hA, hA2, hB, hB2, hne, hord, hord2, hb⟩ K hK
      have HK0 := Lib.hid hK
      clear hK
      clear hL
      clear hk
      refine wp_load_row 113 _ rfl _ rfl 113 _ (0, 0) _ hr.out Try.underlying113 rfl rfl ?_
      exact HK0.out _ _ ⟨_, _, _, _, _, _, rfl, Lib.hid (fun h => hf0.out (by simpa [upd] using h)), Lib.hid (fun h => hf1.out (by simpa [upd] using h)), Lib.hid (fun _ => rfl), Lib.hid (fun h => hf3.out (by simpa [upd] using h)), hr, Lib.hid (fun h1 h2 => hA.out (by simpa [upd] using h1) (by simpa [upd] using h2)), Lib.hid (fun h => hA2.out (by simpa [upd] using h)), Lib.hid (fun h1 h2 => hB.out (by simpa [upd] using h1) (by simpa [upd] using h2)), Lib.hid (fun h => hB2.out (by simpa [upd] using h)), Lib.hid (fun h1 h2 => hne.out (by simpa [upd] using h1) (by simpa [upd] using h2)), Lib.hid (fun h => by have := hord.out (by simpa [upd] using h); simp [upd]; try exact this), Lib.hid (fun h => by have := hord2.out (by simpa [upd] using h); simp [upd]; try exact this), hb⟩
    · rintro L a w hL hk ⟨x3, x4, x5, x6, x7, x8, rfl, hf0, hf1, hf2, hf3, hr, hA, hA2, hB, hB2, hne, hord, hord2, hb⟩ K hK
      have HK0 := Lib.hid hK
      clear hK
      obtain rfl := hf2.out (after_on hL 2 rfl)
      clear hL
      clear hk
      go_wp2_with fail
      refine (high_any k.al k.ah k.fl k.fh _).mono ?_
      rintro e w1 ⟨rfl, hb1⟩
      exact HK0.out _ _ ⟨_, _, _, _, _, _, rfl, Lib.hid (fun h => hf0.out (by simpa [upd] using h)), Lib.hid (fun h => hf1.out (by simpa [upd] using h)), Lib.hid (fun _ => rfl), Lib.hid (fun _ => rfl), Lib.hid (hr.out.below hb1 hr.out.lt), Lib.hid (fun h1 h2 => (hA.out (by simpa [upd] using h1) (by simpa [upd] using h2)).below hb1), Lib.hid (fun h => (hA2.out (by simpa [upd] using h)).below hb1), Lib.hid (fun h1 h2 => (hB.out (by simpa [upd] using h1) (by simpa [upd] using h2)).below hb1), Lib.hid (fun h => (hB2.out (by simpa [upd] using h)).below hb1), Lib.hid (fun h1 h2 => hne.out (by simpa [upd] using h1) (by simpa [upd] using h2)), Lib.hid (fun h => by have := hord.out (by simpa [upd] using h); simp [upd]; try exact this), Lib.hid (fun h => by have := hord2.out (by simpa [upd] using h); simp [upd]; try exact this), Lib.hid (hb.out.trans (hb1.mono hb.out.size))⟩
    · rintro L a w hL hk ⟨x3, x4, x5, x6, x7, x8, rfl, hf0, hf1, hf2, hf3, hr, hA, hA2, hB, hB2, hne, hord, hord2, hb⟩ K hK
      have HK0 := Lib.hid hK
      clear hK
      clear hL
      have HBB := Lib.hid (show L 5 = true → ∃ cs, PtrTo W.heap.size x4 cs 80 w from fun h => (Bool.eq_false_or_eq_true (L 7)).elim (fun h7 => ⟨_, hB2.out h7⟩) (fun h7 => ⟨_, hB.out h h7⟩))
      have HKK := Lib.hid hk
      clear hk
      go_wp2
      exact HK0.out _ _ ⟨_, _, _, _, _, _, rfl, Lib.hid (fun h => hf0.out (by simpa [upd] using h)), Lib.hid (fun h => hf1.out (by simpa [upd] using h)), Lib.hid (fun h => hf2.out (by simpa [upd] using h)), Lib.hid (fun h => hf3.out (by simpa [upd] using h)), Lib.hid (hr.out.alloc _), Lib.hid (fun _ _ => PtrTo.new hb.out.size _ _), Lib.hid (fun h => by have := hord.out (by simpa [upd] using h); rw [HKK.out] at this; cases this), Lib.hid (fun h1 h2 => (hB.out (by simpa [upd] using h1) (by simpa [upd] using h2)).alloc _), Lib.hid (fun h => (hB2.out (by simpa [upd] using h)).alloc _), Lib.hid (fun _ h2 => PtrTo.fresh_ne (HBB.out (by simpa [upd] using h2))), Lib.hid (fun h => by have := hord.out (by simpa [upd] using h); simp [upd]; try exact this), Lib.hid (fun h => by have := hord2.out (by simpa [upd] using h); simp [upd]; try exact this), Lib.hid (hb.out.alloc hb.out.size _)⟩
    · rintro L a w hL hk ⟨x3, x4, x5, x6, x7, x8, rfl, hf0, hf1, hf2, hf3, hr, hA, hA2, hB, hB2, hne, hord, hord2, hb⟩ K hK
      have HK0 := Lib.hid hK
      clear hK
      clear hL
      have HAA := Lib.hid (show L 4 = true → ∃ cs, PtrTo W.heap.size x3 cs 80 w from fun h => (Bool.eq_false_or_eq_true (L 6)).elim (fun h7 => ⟨_, hA2.out h7⟩) (fun h7 => ⟨_, hA.out h h7⟩))
      have HKK := Lib.hid hk
      clear hk
      go_wp2
      exact HK0.out _ _ ⟨_, _, _, _, _, _, rfl, Lib.hid (fun h => hf0.out (by simpa [upd] using h)), Lib.hid (fun h => hf1.out (by simpa [upd] using h)), Lib.hid (fun h => hf2.out (by simpa [upd] using h)), Lib.hid (fun h => hf3.out (by simpa [upd] using h)), Lib.hid (hr.out.alloc _), Lib.hid (fun h1 h2 => (hA.out (by simpa [upd] using h1) (by simpa [upd] using h2)).alloc _), Lib.hid (fun h => (hA2.out (by simpa [upd] using h)).alloc _), Lib.hid (fun _ _ => PtrTo.new hb.out.size _ _), Lib.hid (fun h => by have := hord2.out (by simpa [upd] using h); rw [HKK.out] at this; cases this), Lib.hid (fun h1 _ h => PtrTo.fresh_ne (HAA.out (by simpa [upd] using h1)) h.symm), Lib.hid (fun h => by have := hord.out (by simpa [upd] using h); simp [upd]; try exact this), Lib.hid (fun h => by have := hord2.out (by simpa [upd] using h); simp [upd]; try exact this), Lib.hid (hb.out.alloc hb.out.size _)⟩
    · rintro L a w hL hk ⟨x3, x4, x5, x6, x7, x8, rfl, hf0, hf1, hf2, hf3, hr, hA, hA2, hB, hB2, hne, hord, hord2, hb⟩ K hK
      have HK0 := Lib.hid hK
      clear hK
      obtain rfl := hf1.out (after_on hL 1 rfl)
      obtain ⟨p, rfl, hp, hrz⟩ := hA.out (after_on hL 4 rfl) hk
      refine wp_store_row' 80 _ _ rfl _ _ _ _ rfl rfl hrz (by kernel_rfl) rfl (by simp [Value.oneCell']) ?_
      exact HK0.out _ _ ⟨_, _, _, _, _, _, rfl, Lib.hid (fun h => hf0.out (by simpa [upd] using h)), Lib.hid (fun _ => rfl), Lib.hid (fun h => hf2.out (by simpa [upd] using h)), Lib.hid (fun h => hf3.out (by simpa [upd] using h)), Lib.hid (hr.out.setRow_other _ (fun e => by have := hr.out.lt; have := hkb; omega)), Lib.hid (fun _ h => by simp [upd] at h), Lib.hid (fun _ => ⟨p, rfl, hp, hrz.setRow _⟩), Lib.hid (fun h1 h2 => (hB.out (by simpa [upd] using h1) (by simpa [upd] using h2)).setRow (hne.out (after_on hL 4 rfl) (by simpa [upd] using h1))), Lib.hid (fun h => (hB2.out (by simpa [upd] using h)).setRow (hne.out (after_on hL 4 rfl) (hord2.out (by simpa [upd] using h)))), Lib.hid (fun h1 h2 => hne.out (by simpa [upd] using h1) (by simpa [upd] using h2)), Lib.hid (fun _ => by rw [upd_other _ (by decide)]; exact after_on hL 4 rfl), Lib.hid (fun h => by have := hord2.out (by simpa [upd] using h); simp [upd]; try exact this), Lib.hid (below_setRow hb.out hp _)⟩
    · rintro L a w hL hk ⟨x3, x4, x5, x6, x7, x8, rfl, hf0, hf1, hf2, hf3, hr, hA, hA2, hB, hB2, hne, hord, hord2, hb⟩ K hK
      have HK0 := Lib.hid hK
      clear hK
      obtain rfl := hf3.out (after_on hL 3 rfl)
      obtain ⟨p, rfl, hp, hrz⟩ := hB.out (after_on hL 5 rfl) hk
      refine wp_store_row' 80 _ _ rfl _ _ _ _ rfl rfl hrz (by kernel_rfl) rfl (by simp [Value.oneCell']) ?_
      exact HK0.out _ _ ⟨_, _, _, _, _, _, rfl, Lib.hid (fun h => hf0.out (by simpa [upd] using h)), Lib.hid (fun h => hf1.out (by simpa [upd] using h)), Lib.hid (fun h => hf2.out (by simpa [upd] using h)), Lib.hid (fun _ => rfl), Lib.hid (hr.out.setRow_other _ (fun e => by have := hr.out.lt; have := hkb; omega)), Lib.hid (fun h1 h2 => (hA.out (by simpa [upd] using h1) (by simpa [upd] using h2)).setRow (fun e => hne.out (by simpa [upd] using h1) (after_on hL 5 rfl) e.symm)), Lib.hid (fun h => (hA2.out (by simpa [upd] using h)).setRow (fun e => hne.out (hord.out (by simpa [upd] using h)) (after_on hL 5 rfl) e.symm)), Lib.hid (fun _ h => by simp [upd] at h), Lib.hid (fun _ => ⟨p, rfl, hp, hrz.setRow _⟩), Lib.hid (fun h1 h2 => hne.out (by simpa [upd] using h1) (by simpa [upd] using h2)), Lib.hid (fun h => by have := hord.out (by simpa [upd] using h); simp [upd]; try exact this), Lib.hid (fun _ => by rw [upd_other _ (by decide)]; exact after_on hL 5 rfl), Lib.hid (below_setRow hb.out hp _)⟩

end Go.Proofs.Ytnnlbbmimdohoaa
