/- The walks of layer 1: whole pieces, cuttings, knives. -/
import Derived.Test.YtnnlbbmimdohoaaP2
import Derived.Test.YtnnlbbmimdohoaaR
namespace Go.Proofs.Ytnnlbbmimdohoaa
open Go.RowKit

/-- Do so many columns from one on have no knot? -/
def freeAt (kn : List Bool) (i sz : Nat) : Bool := (List.range sz).all fun j => !b0 kn (i + j)
/-- The first columns of whole pieces, of those below a column. -/
def wholeTo (kn : List Bool) (sz k : Nat) : List Bool := (List.range 72).map fun i => decide (i < k) && freeAt kn i sz
theorem wholeTo_length (kn : List Bool) (sz k : Nat) : (wholeTo kn sz k).length = 72 := by simp [wholeTo]
theorem wholeTo_at (kn : List Bool) (sz k i : Nat) (hi : i < 72) : (wholeTo kn sz k)[i]? = some (decide (i < k) && freeAt kn i sz) := by simp [wholeTo, hi]
theorem wholeTo_zero (kn : List Bool) (sz : Nat) : wholeTo kn sz 0 = List.replicate 72 false := by
  apply List.ext_getElem? ; intro i
  by_cases hi : i < 72
  · rw [wholeTo_at _ _ _ _ hi, List.getElem?_replicate, if_pos hi]; rfl
  · rw [List.getElem?_eq_none (by rw [wholeTo_length]; omega), List.getElem?_eq_none (by simp; omega)]
theorem wholeTo_yes {kn : List Bool} {sz k : Nat} (h : freeAt kn k sz = true) : (wholeTo kn sz k).set k true = wholeTo kn sz (k + 1) := by
  apply List.ext_getElem? ; intro i
  by_cases hi : i < 72
  · rw [wholeTo_at _ _ _ _ hi, List.getElem?_set]
    by_cases hk : k = i
    · subst hk; simp [wholeTo_length, hi, h]
    · rw [if_neg hk, wholeTo_at _ _ _ _ hi]
      have : (i < k + 1) ↔ (i < k) := by omega
      simp [this]
  · rw [List.getElem?_eq_none (by rw [List.length_set, wholeTo_length]; omega), List.getElem?_eq_none (by rw [wholeTo_length]; omega)]
theorem wholeTo_no {kn : List Bool} {sz k : Nat} (h : freeAt kn k sz = false) : wholeTo kn sz k = wholeTo kn sz (k + 1) := by
  apply List.ext_getElem? ; intro i
  by_cases hi : i < 72
  · rw [wholeTo_at _ _ _ _ hi, wholeTo_at _ _ _ _ hi]
    by_cases hk : k = i
    · subst hk; simp [h]
    · have : (i < k + 1) ↔ (i < k) := by omega
      simp [this]
  · rw [List.getElem?_eq_none (by rw [wholeTo_length]; omega), List.getElem?_eq_none (by rw [wholeTo_length]; omega)]
theorem free_yes {kn : List Bool} {k sz : Nat} (h : ∀ i, i < sz → b0 kn (k + i) = false) : freeAt kn k sz = true := by
  simp only [freeAt, List.all_eq_true, List.mem_range]; intro i hi; simp [h i hi]
theorem free_no {kn : List Bool} {k sz i : Nat} (hi : i < sz) (h : b0 kn (k + i) = true) : freeAt kn k sz = false := by
  rw [Bool.eq_false_iff]; intro hf
  simp only [freeAt, List.all_eq_true, List.mem_range] at hf
  have := hf i hi; rw [h] at this; cases this
/-- All of them. -/
def wholeL (kn : List Bool) (sz : Nat) (wide : Int) : List Bool := wholeTo kn sz (wide - sz + 1).toNat
theorem wholeL_length (kn : List Bool) (sz : Nat) (wide : Int) : (wholeL kn sz wide).length = 72 := wholeTo_length _ _ _

set_option maxRecDepth 10000 in
set_option maxHeartbeats 800000 in
theorem whole_any (R : Rib) (sz : Nat) (hsz : R.sz = sz) (h1 : 1 ≤ sz) (h6 : sz ≤ 6) (hw0 : 0 ≤ R.wide) (hw : R.wide ≤ 72) (kn : List Bool) (hk : kn.length = 72) (w : World) :
    Calls Try.prog 89 #[.agg R.A, cols kn] w fun e w' => e = .returned (cols (wholeL kn sz R.wide)) ∧ Below w.heap.size w w' := by
  rw [cols_def]
  obtain ⟨wd, hwd⟩ : ∃ wd : Nat, R.wide = wd := ⟨R.wide.toNat, by omega⟩
  have a1 := R.a1
  have a3 := R.a3
  rw [hsz] at a1
  rw [hwd] at a3 hw ⊢
  have HD := Lib.hid hwd
  have HZ := Lib.hid hsz
  clear hwd hsz hw0
  go_enter Try.func89, Try.ntmps89
  go_wp2
  go_step3
  go_wp2
  go_step3
  go_wp2
  clear a1 a3
  go_loopg [15] ((wd : Int) - sz + 1).toNat (fun g i wr => ∃ k : Nat, g = ((wd : Int) - sz + 1).toNat - k ∧ k ≤ ((wd : Int) - sz + 1).toNat ∧ i = .int .i64 k ∧ Row wr w.heap.size R.A 76 ∧ Row wr (w.heap.size + 1) (boolsA kn) 88 ∧ Row wr (w.heap.size + 1 + 1) Try.zeroCells88 88 ∧ Row wr (w.heap.size + 1 + 1 + 1) (boolsA (wholeTo kn sz k)) 88 ∧ Below w.heap.size w wr)
  case atStart => exact ⟨0, rfl, by omega, rfl, (((Row.new _ _ _).alloc _).alloc _).alloc _, ((Row.new' (by simp) _ _).alloc _).alloc _, (Row.new' (by simp) _ _).alloc _, by rw [wholeTo_zero, ← zero88]; exact Row.new' (by simp) _ _, (((below_alloc _ _).alloc (by simp) _).alloc (by simp; omega) _).alloc (by simp; omega) _⟩
  case round =>
    obtain ⟨k, hg, hkn, rfl, r0, r1, r2, r3, hb⟩ := hrel
    have HG := Lib.hid hg
    have a1 := r0.cell 1 R.a1
    rw [HZ.out] at a1
    have R0 := Lib.hid r0
    have R1 := Lib.hid r1
    have R2 := Lib.hid r2
    have R3 := Lib.hid r3
    have HB := Lib.hid hb
    have hz := r3.lt
    clear r0 r1 r2 r3 hb hg
    by_cases hlt : (k : Int) < (wd : Int) - sz + 1
    · go_wp2
      go_loop [21] (fun i => ∃ j : Nat, j ≤ sz ∧ i = .int .i64 j ∧ Hid (∀ i, i < j → b0 kn (k + i) = false)) (fun i => sz - (intOf i).toNat)
      case atStart => exact ⟨0, by omega, rfl, Lib.hid (fun i h => by omega)⟩
      case round =>
        obtain ⟨j, hj, rfl, hfree⟩ := hrel
        by_cases hjl : j < sz
        · have hcell := R1.out.cell (k + j) (boolsA_at (b := b0 kn (k + j)) (by rw [b0_lt (by omega)]; simp))
          cases hkj : b0 kn (k + j)
          · rw [hkj] at hcell
            have HKJ := Lib.hid hkj
            clear hkj
            go_wp2
            go_round
            case rel => exact ⟨j + 1, by omega, by go_num, Lib.hid (fun i hi => by
              rcases Nat.lt_or_ge i j with h | h
              · exact hfree.out i h
              · rw [show i = j by omega]; exact HKJ.out)⟩
            case measure => simp [intOf]; omega
          · rw [hkj] at hcell
            have HKJ := Lib.hid hkj
            clear hkj
            go_wp2
            go_roundg (((wd : Int) - sz + 1).toNat - (k + 1))
            case measure => have := HG.out; omega
            case rel => exact ⟨k + 1, rfl, by omega, by go_num, R0.out, R1.out, R2.out, by rw [← wholeTo_no (free_no hjl HKJ.out)]; exact R3.out, HB.out⟩
        · have e : j = sz := by omega
          have HF := Lib.hid (free_yes (kn := kn) (k := k) (sz := sz) (fun i hi => hfree.out i (by omega)))
          have hcell := R3.out.cell k (boolsA_at (wholeTo_at kn sz k k (by omega)))
          have hfr := R3.out.free k
          clear e hfree
          go_wp2
          go_roundg (((wd : Int) - sz + 1).toNat - (k + 1))
          case measure => have := HG.out; omega
          case rel => exact ⟨k + 1, rfl, by omega, by go_num, R0.out.set_other _ _ (by dsimp only; omega), R1.out.set_other _ _ (by dsimp only; omega), R2.out.set_other _ _ (by dsimp only; omega), by rw [← wholeTo_yes HF.out, ← boolsA_set]; exact R3.out.set k _, HB.out.setCell (by dsimp only; omega) _⟩
    · have e : k = ((wd : Int) - sz + 1).toNat := by omega
      have HE := Lib.hid e
      clear e
      go_wp2_with (first | (refine load_row rfl 88 _ rfl _ rfl 88 _ _ R3.out Try.underlying88 rfl (size88 (wholeTo_length _ _ _)) ?_) | (refine store_row rfl 88 _ _ rfl _ _ _ _ rfl rfl R2.out (size88 (wholeTo_length _ _ _)) (by rw [zero88, boolsA_size, boolsA_size, wholeTo_length, List.length_replicate]) (boolsA_one _) ?_))
      have hr2 := R2.out.setRow (boolsA (wholeTo kn sz k))
      exact bodyPost_ret (v := cols (wholeL kn sz wd)) (by rw [cols_def, wholeL, ← HE.out]; exact results_cell_row Try.results89 _ _ _ _ _ _ _ rfl hr2 Try.underlying88 rfl (size88 (wholeTo_length _ _ _))) rfl ⟨rfl, below_setRow HB.out (by omega) _⟩

/-- A knife that counts the pieces of which something is so. -/
def knifeV (wide : Int) (sz : Nat) (c : List Bool) : Value := .agg #[.int .i64 wide, .int .i64 sz, .func (.func 90) #[cols c] #[]]

set_option maxRecDepth 10000 in
set_option maxHeartbeats 800000 in
theorem knife_any (R : Rib) (sz : Nat) (hs : R.s.length = 6) (hsz : R.sz = sz) (h1 : 1 ≤ sz) (h6 : sz ≤ 6) (hw0 : 0 ≤ R.wide) (hw : R.wide ≤ 72) (kn : List Bool) (hk : kn.length = 72) (w0 : World) :
    Calls Try.prog 67 #[.agg R.A, cols kn] w0 fun e w' => e = .returned (knifeV R.wide sz (wholeL kn sz R.wide)) ∧ Below w0.heap.size w0 w' := by
  rw [cols_def]
  have HZ := Lib.hid hsz
  have HS := Lib.hid (size76 hs)
  have HK := Lib.hid (size88 hk)
  go_enter Try.func67, Try.ntmps67
  go_wp2_with fail
  refine region_inv rfl (by kernel_rfl) (fun L a w => ∃ x5 x6 x7 x8 x9 x10 x11 x12 x13 x14 : Value, a = { tmps := #[.agg R.A, .agg (boolsA kn), .pointer (some ⟨w0.heap.size, 0, none⟩), .pointer (some ⟨w0.heap.size + 1, 0, none⟩), .pointer (some ⟨w0.heap.size + 1 + 1, 0, none⟩), x5, x6, x7, x8, x9, x10, x11, x12, x13, x14], defers := [] } ∧ Hid (L 0 = true → x5 = .pointer (some ⟨w0.heap.size, 3, none⟩)) ∧ Hid (L 1 = true → x6 = .int .i64 R.wide) ∧ Hid (L 2 = true → x7 = .pointer (some ⟨w0.heap.size, 0, none⟩)) ∧ Hid (L 3 = true → x8 = .pointer (some ⟨w0.heap.size, 1, none⟩)) ∧ Hid (L 4 = true → x9 = .int .i64 sz) ∧ Hid (L 5 = true → x10 = .agg R.A) ∧ Hid (L 6 = true → x11 = .agg (boolsA kn)) ∧ Hid (L 7 = true → x12 = cols (wholeL kn sz R.wide)) ∧ Hid (L 8 = true → x13 = .func (.func 90) #[cols (wholeL kn sz R.wide)] #[]) ∧ Hid (L 9 = true → x14 = .agg #[.int .i64 R.wide, .int .i64 sz, .func (.func 90) #[cols (wholeL kn sz R.wide)] #[]]) ∧ Hid (Row w w0.heap.size R.A 76) ∧ Hid (Row w (w0.heap.size + 1) (boolsA kn) 88) ∧ Hid (L 10 = false → Row w (w0.heap.size + 1 + 1) #[.int .i64 0, .int .i64 0, .nilFunc] 95) ∧ Hid (L 10 = true → Row w (w0.heap.size + 1 + 1) (#[.int .i64 R.wide, .int .i64 sz, .func (.func 90) #[cols (wholeL kn sz R.wide)] #[]]) 95) ∧ Hid (Below w0.heap.size w0 w) ∧ Hid (w0.heap.size + 1 + 1 < w.heap.size)) ?h0 ?steps ?hd
  case h0 => exact ⟨_, _, _, _, _, _, _, _, _, _, rfl, Lib.hid nofun, Lib.hid nofun, Lib.hid nofun, Lib.hid nofun, Lib.hid nofun, Lib.hid nofun, Lib.hid nofun, Lib.hid nofun, Lib.hid nofun, Lib.hid nofun, Lib.hid (((Row.new _ _ _).alloc _).alloc _), Lib.hid ((Row.new' (by simp) _ _).alloc _), Lib.hid (fun _ => Row.new' (by simp) _ _), Lib.hid (nofun), Lib.hid ((((below_alloc _ _).alloc (by simp) _).alloc (by simp; omega) _).drew), Lib.hid (by simp [World.drew])⟩
  case hd =>
    rintro L a w hL ⟨x5, x6, x7, x8, x9, x10, x11, x12, x13, x14, rfl, hf0, hf1, hf2, hf3, hf4, hf5, hf6, hf7, hf8, hf9, hr0, hr1, hr2, hr3, hb, hz⟩
    obtain rfl := hf0.out (hL 0 (by decide))
    obtain rfl := hf1.out (hL 1 (by decide))
    obtain rfl := hf2.out (hL 2 (by decide))
    obtain rfl := hf3.out (hL 3 (by decide))
    obtain rfl := hf4.out (hL 4 (by decide))
    obtain rfl := hf5.out (hL 5 (by decide))
    obtain rfl := hf6.out (hL 6 (by decide))
    obtain rfl := hf7.out (hL 7 (by decide))
    obtain rfl := hf8.out (hL 8 (by decide))
    obtain rfl := hf9.out (hL 9 (by decide))
    clear hf0
    clear hf1
    clear hf2
    clear hf3
    clear hf4
    clear hf5
    clear hf6
    clear hf7
    clear hf8
    clear hf9
    have hr := hr3.out (hL 10 (by decide))
    clear hL
    go_wp2
    exact bodyPost_ret (v := knifeV R.wide sz (wholeL kn sz R.wide)) (by exact results_cell_row Try.results67 _ _ _ _ _ _ _ rfl hr Try.underlying95 rfl (by kernel_rfl)) rfl ⟨rfl, hb.out⟩
  case steps =>
    refine ⟨?_, ?_, ?_, ?_, ?_, ?_, ?_, ?_, ?_, ?_, ?_, trivial⟩
    · rintro L a w hL hk ⟨x5, x6, x7, x8, x9, x10, x11, x12, x13, x14, rfl, hf0, hf1, hf2, hf3, hf4, hf5, hf6, hf7, hf8, hf9, hr0, hr1, hr2, hr3, hb, hz⟩ K hK
      have HK0 := Lib.hid hK
      clear hK
      clear hL
      clear hk
      go_wp2
      exact HK0.out _ _ ⟨_, _, _, _, _, _, _, _, _, _, rfl, Lib.hid (fun _ => rfl), Lib.hid (fun h => hf1.out (by simpa [upd] using h)), Lib.hid (fun h => hf2.out (by simpa [upd] using h)), Lib.hid (fun h => hf3.out (by simpa [upd] using h)), Lib.hid (fun h => hf4.out (by simpa [upd] using h)), Lib.hid (fun h => hf5.out (by simpa [upd] using h)), Lib.hid (fun h => hf6.out (by simpa [upd] using h)), Lib.hid (fun h => hf7.out (by simpa [upd] using h)), Lib.hid (fun h => hf8.out (by simpa [upd] using h)), Lib.hid (fun h => hf9.out (by simpa [upd] using h)), hr0, hr1, Lib.hid (fun h => hr2.out (by simpa [upd] using h)), Lib.hid (fun h => hr3.out (by simpa [upd] using h)), hb, hz⟩
    · rintro L a w hL hk ⟨x5, x6, x7, x8, x9, x10, x11, x12, x13, x14, rfl, hf0, hf1, hf2, hf3, hf4, hf5, hf6, hf7, hf8, hf9, hr0, hr1, hr2, hr3, hb, hz⟩ K hK
      have HK0 := Lib.hid hK
      clear hK
      obtain rfl := hf0.out (after_on hL 0 rfl)
      clear hL
      clear hk
      have c3 := hr0.out.cell 3 R.a3
      go_wp2
      exact HK0.out _ _ ⟨_, _, _, _, _, _, _, _, _, _, rfl, Lib.hid (fun _ => rfl), Lib.hid (fun _ => rfl), Lib.hid (fun h => hf2.out (by simpa [upd] using h)), Lib.hid (fun h => hf3.out (by simpa [upd] using h)), Lib.hid (fun h => hf4.out (by simpa [upd] using h)), Lib.hid (fun h => hf5.out (by simpa [upd] using h)), Lib.hid (fun h => hf6.out (by simpa [upd] using h)), Lib.hid (fun h => hf7.out (by simpa [upd] using h)), Lib.hid (fun h => hf8.out (by simpa [upd] using h)), Lib.hid (fun h => hf9.out (by simpa [upd] using h)), hr0, hr1, Lib.hid (fun h => hr2.out (by simpa [upd] using h)), Lib.hid (fun h => hr3.out (by simpa [upd] using h)), hb, hz⟩
    · rintro L a w hL hk ⟨x5, x6, x7, x8, x9, x10, x11, x12, x13, x14, rfl, hf0, hf1, hf2, hf3, hf4, hf5, hf6, hf7, hf8, hf9, hr0, hr1, hr2, hr3, hb, hz⟩ K hK
      have HK0 := Lib.hid hK
      clear hK
      clear hL
      clear hk
      go_wp2
      exact HK0.out _ _ ⟨_, _, _, _, _, _, _, _, _, _, rfl, Lib.hid (fun h => hf0.out (by simpa [upd] using h)), Lib.hid (fun h => hf1.out (by simpa [upd] using h)), Lib.hid (fun _ => rfl), Lib.hid (fun h => hf3.out (by simpa [upd] using h)), Lib.hid (fun h => hf4.out (by simpa [upd] using h)), Lib.hid (fun h => hf5.out (by simpa [upd] using h)), Lib.hid (fun h => hf6.out (by simpa [upd] using h)), Lib.hid (fun h => hf7.out (by simpa [upd] using h)), Lib.hid (fun h => hf8.out (by simpa [upd] using h)), Lib.hid (fun h => hf9.out (by simpa [upd] using h)), hr0, hr1, Lib.hid (fun h => hr2.out (by simpa [upd] using h)), Lib.hid (fun h => hr3.out (by simpa [upd] using h)), hb, hz⟩
    · rintro L a w hL hk ⟨x5, x6, x7, x8, x9, x10, x11, x12, x13, x14, rfl, hf0, hf1, hf2, hf3, hf4, hf5, hf6, hf7, hf8, hf9, hr0, hr1, hr2, hr3, hb, hz⟩ K hK
      have HK0 := Lib.hid hK
      clear hK
      obtain rfl := hf2.out (after_on hL 2 rfl)
      clear hL
      clear hk
      go_wp2
      exact HK0.out _ _ ⟨_, _, _, _, _, _, _, _, _, _, rfl, Lib.hid (fun h => hf0.out (by simpa [upd] using h)), Lib.hid (fun h => hf1.out (by simpa [upd] using h)), Lib.hid (fun _ => rfl), Lib.hid (fun _ => rfl), Lib.hid (fun h => hf4.out (by simpa [upd] using h)), Lib.hid (fun h => hf5.out (by simpa [upd] using h)), Lib.hid (fun h => hf6.out (by simpa [upd] using h)), Lib.hid (fun h => hf7.out (by simpa [upd] using h)), Lib.hid (fun h => hf8.out (by simpa [upd] using h)), Lib.hid (fun h => hf9.out (by simpa [upd] using h)), hr0, hr1, Lib.hid (fun h => hr2.out (by simpa [upd] using h)), Lib.hid (fun h => hr3.out (by simpa [upd] using h)), hb, hz⟩
    · rintro L a w hL hk ⟨x5, x6, x7, x8, x9, x10, x11, x12, x13, x14, rfl, hf0, hf1, hf2, hf3, hf4, hf5, hf6, hf7, hf8, hf9, hr0, hr1, hr2, hr3, hb, hz⟩ K hK
      have HK0 := Lib.hid hK
      clear hK
      obtain rfl := hf3.out (after_on hL 3 rfl)
      clear hL
      clear hk
      have c1 := hr0.out.cell 1 R.a1
      rw [HZ.out] at c1
      go_wp2
      exact HK0.out _ _ ⟨_, _, _, _, _, _, _, _, _, _, rfl, Lib.hid (fun h => hf0.out (by simpa [upd] using h)), Lib.hid (fun h => hf1.out (by simpa [upd] using h)), Lib.hid (fun h => hf2.out (by simpa [upd] using h)), Lib.hid (fun _ => rfl), Lib.hid (fun _ => rfl), Lib.hid (fun h => hf5.out (by simpa [upd] using h)), Lib.hid (fun h => hf6.out (by simpa [upd] using h)), Lib.hid (fun h => hf7.out (by simpa [upd] using h)), Lib.hid (fun h => hf8.out (by simpa [upd] using h)), Lib.hid (fun h => hf9.out (by simpa [upd] using h)), hr0, hr1, Lib.hid (fun h => hr2.out (by simpa [upd] using h)), Lib.hid (fun h => hr3.out (by simpa [upd] using h)), hb, hz⟩
    · rintro L a w hL hk ⟨x5, x6, x7, x8, x9, x10, x11, x12, x13, x14, rfl, hf0, hf1, hf2, hf3, hf4, hf5, hf6, hf7, hf8, hf9, hr0, hr1, hr2, hr3, hb, hz⟩ K hK
      have HK0 := Lib.hid hK
      clear hK
      clear hL
      clear hk
      refine wp_load_row 76 _ rfl _ rfl 76 _ (0, 0) _ hr0.out Try.underlying76 rfl HS.out ?_
      exact HK0.out _ _ ⟨_, _, _, _, _, _, _, _, _, _, rfl, Lib.hid (fun h => hf0.out (by simpa [upd] using h)), Lib.hid (fun h => hf1.out (by simpa [upd] using h)), Lib.hid (fun h => hf2.out (by simpa [upd] using h)), Lib.hid (fun h => hf3.out (by simpa [upd] using h)), Lib.hid (fun h => hf4.out (by simpa [upd] using h)), Lib.hid (fun _ => rfl), Lib.hid (fun h => hf6.out (by simpa [upd] using h)), Lib.hid (fun h => hf7.out (by simpa [upd] using h)), Lib.hid (fun h => hf8.out (by simpa [upd] using h)), Lib.hid (fun h => hf9.out (by simpa [upd] using h)), hr0, hr1, Lib.hid (fun h => hr2.out (by simpa [upd] using h)), Lib.hid (fun h => hr3.out (by simpa [upd] using h)), hb, hz⟩
    · rintro L a w hL hk ⟨x5, x6, x7, x8, x9, x10, x11, x12, x13, x14, rfl, hf0, hf1, hf2, hf3, hf4, hf5, hf6, hf7, hf8, hf9, hr0, hr1, hr2, hr3, hb, hz⟩ K hK
      have HK0 := Lib.hid hK
      clear hK
      clear hL
      clear hk
      refine wp_load_row 88 _ rfl _ rfl 88 _ (0, 0) _ hr1.out Try.underlying88 rfl HK.out ?_
      exact HK0.out _ _ ⟨_, _, _, _, _, _, _, _, _, _, rfl, Lib.hid (fun h => hf0.out (by simpa [upd] using h)), Lib.hid (fun h => hf1.out (by simpa [upd] using h)), Lib.hid (fun h => hf2.out (by simpa [upd] using h)), Lib.hid (fun h => hf3.out (by simpa [upd] using h)), Lib.hid (fun h => hf4.out (by simpa [upd] using h)), Lib.hid (fun h => hf5.out (by simpa [upd] using h)), Lib.hid (fun _ => rfl), Lib.hid (fun h => hf7.out (by simpa [upd] using h)), Lib.hid (fun h => hf8.out (by simpa [upd] using h)), Lib.hid (fun h => hf9.out (by simpa [upd] using h)), hr0, hr1, Lib.hid (fun h => hr2.out (by simpa [upd] using h)), Lib.hid (fun h => hr3.out (by simpa [upd] using h)), hb, hz⟩
    · rintro L a w hL hk ⟨x5, x6, x7, x8, x9, x10, x11, x12, x13, x14, rfl, hf0, hf1, hf2, hf3, hf4, hf5, hf6, hf7, hf8, hf9, hr0, hr1, hr2, hr3, hb, hz⟩ K hK
      have HK0 := Lib.hid hK
      clear hK
      obtain rfl := hf5.out (after_on hL 5 rfl)
      obtain rfl := hf6.out (after_on hL 6 rfl)
      clear hL
      clear hk
      have hlt := hz.out
      go_wp2_with fail
      refine (whole_any R sz HZ.out h1 h6 hw0 hw kn hk _).mono ?_
      rintro e w1 ⟨rfl, hb1⟩
      exact HK0.out _ _ ⟨_, _, _, _, _, _, _, _, _, _, rfl, Lib.hid (fun h => hf0.out (by simpa [upd] using h)), Lib.hid (fun h => hf1.out (by simpa [upd] using h)), Lib.hid (fun h => hf2.out (by simpa [upd] using h)), Lib.hid (fun h => hf3.out (by simpa [upd] using h)), Lib.hid (fun h => hf4.out (by simpa [upd] using h)), Lib.hid (fun _ => rfl), Lib.hid (fun _ => rfl), Lib.hid (fun _ => rfl), Lib.hid (fun h => hf8.out (by simpa [upd] using h)), Lib.hid (fun h => hf9.out (by simpa [upd] using h)), Lib.hid (hr0.out.below hb1 (by omega)), Lib.hid (hr1.out.below hb1 (by omega)), Lib.hid (fun h => (hr2.out (by simpa [upd] using h)).below hb1 (by omega)), Lib.hid (fun h => (hr3.out (by simpa [upd] using h)).below hb1 (by omega)), Lib.hid (hb.out.trans (hb1.mono (by omega))), Lib.hid (Nat.lt_of_lt_of_le hlt hb1.size)⟩
    · rintro L a w hL hk ⟨x5, x6, x7, x8, x9, x10, x11, x12, x13, x14, rfl, hf0, hf1, hf2, hf3, hf4, hf5, hf6, hf7, hf8, hf9, hr0, hr1, hr2, hr3, hb, hz⟩ K hK
      have HK0 := Lib.hid hK
      clear hK
      obtain rfl := hf7.out (after_on hL 7 rfl)
      clear hL
      clear hk
      go_wp2
      exact HK0.out _ _ ⟨_, _, _, _, _, _, _, _, _, _, rfl, Lib.hid (fun h => hf0.out (by simpa [upd] using h)), Lib.hid (fun h => hf1.out (by simpa [upd] using h)), Lib.hid (fun h => hf2.out (by simpa [upd] using h)), Lib.hid (fun h => hf3.out (by simpa [upd] using h)), Lib.hid (fun h => hf4.out (by simpa [upd] using h)), Lib.hid (fun h => hf5.out (by simpa [upd] using h)), Lib.hid (fun h => hf6.out (by simpa [upd] using h)), Lib.hid (fun _ => rfl), Lib.hid (fun _ => rfl), Lib.hid (fun h => hf9.out (by simpa [upd] using h)), hr0, hr1, Lib.hid (fun h => hr2.out (by simpa [upd] using h)), Lib.hid (fun h => hr3.out (by simpa [upd] using h)), hb, hz⟩
    · rintro L a w hL hk ⟨x5, x6, x7, x8, x9, x10, x11, x12, x13, x14, rfl, hf0, hf1, hf2, hf3, hf4, hf5, hf6, hf7, hf8, hf9, hr0, hr1, hr2, hr3, hb, hz⟩ K hK
      have HK0 := Lib.hid hK
      clear hK
      obtain rfl := hf1.out (after_on hL 1 rfl)
      obtain rfl := hf4.out (after_on hL 4 rfl)
      obtain rfl := hf8.out (after_on hL 8 rfl)
      clear hL
      clear hk
      go_wp2
      exact HK0.out _ _ ⟨_, _, _, _, _, _, _, _, _, _, rfl, Lib.hid (fun h => hf0.out (by simpa [upd] using h)), Lib.hid (fun _ => rfl), Lib.hid (fun h => hf2.out (by simpa [upd] using h)), Lib.hid (fun h => hf3.out (by simpa [upd] using h)), Lib.hid (fun _ => rfl), Lib.hid (fun h => hf5.out (by simpa [upd] using h)), Lib.hid (fun h => hf6.out (by simpa [upd] using h)), Lib.hid (fun h => hf7.out (by simpa [upd] using h)), Lib.hid (fun _ => rfl), Lib.hid (fun _ => rfl), hr0, hr1, Lib.hid (fun h => hr2.out (by simpa [upd] using h)), Lib.hid (fun h => hr3.out (by simpa [upd] using h)), hb, hz⟩
    · rintro L a w hL hk ⟨x5, x6, x7, x8, x9, x10, x11, x12, x13, x14, rfl, hf0, hf1, hf2, hf3, hf4, hf5, hf6, hf7, hf8, hf9, hr0, hr1, hr2, hr3, hb, hz⟩ K hK
      have HK0 := Lib.hid hK
      clear hK
      obtain rfl := hf9.out (after_on hL 9 rfl)
      clear hL
      have hrz := hr2.out hk
      refine wp_store_row' 95 _ _ rfl _ _ _ _ rfl rfl hrz (by kernel_rfl) rfl (by simp [Value.oneCell']) ?_
      exact HK0.out _ _ ⟨_, _, _, _, _, _, _, _, _, _, rfl, Lib.hid (fun h => hf0.out (by simpa [upd] using h)), Lib.hid (fun h => hf1.out (by simpa [upd] using h)), Lib.hid (fun h => hf2.out (by simpa [upd] using h)), Lib.hid (fun h => hf3.out (by simpa [upd] using h)), Lib.hid (fun h => hf4.out (by simpa [upd] using h)), Lib.hid (fun h => hf5.out (by simpa [upd] using h)), Lib.hid (fun h => hf6.out (by simpa [upd] using h)), Lib.hid (fun h => hf7.out (by simpa [upd] using h)), Lib.hid (fun h => hf8.out (by simpa [upd] using h)), Lib.hid (fun _ => rfl), Lib.hid (hr0.out.setRow_other _ (by omega)), Lib.hid (hr1.out.setRow_other _ (by omega)), Lib.hid (nofun), Lib.hid (fun _ => hrz.setRow _), Lib.hid (below_setRow hb.out (by omega) _), Lib.hid (by simpa using hz.out)⟩

end Go.Proofs.Ytnnlbbmimdohoaa
