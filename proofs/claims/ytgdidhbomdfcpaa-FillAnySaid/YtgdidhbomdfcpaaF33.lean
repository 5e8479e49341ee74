/- The walks of layer 5: which handful should be counted. -/
import Derived.Test.YtgdidhbomdfcpaaF32
namespace Go.Proofs.Ytgdidhbomdfcpaa
open Go.RowKit Go.Maps
attribute [local go_sem] Oper.semAt_some

/-- The least of the first numbers of a list. -/
def minN (l : List Int) : Nat → Int
  | 0 => at0 l 0
  | k + 1 => min (minN l k) (at0 l k)
theorem minN_one (l : List Int) : minN l 1 = at0 l 0 := by simp [minN]
/-- The first place of a number in a list; -1 if there is none. -/
def idxN (l : List Int) (x : Int) : Int := match (List.range l.length).find? (fun i => decide (x = at0 l i)) with
  | some i => (i : Int)
  | none => -1
theorem find_first {n k : Nat} {f : Nat → Bool} (hk : k < n) (hf : f k = true) (h : ∀ i, i < k → f i = false) : (List.range n).find? f = some k := by
  rw [List.find?_range_eq_some]
  exact ⟨hf, by simpa using hk, fun j hj => by simp [h j hj]⟩
theorem find_none {n : Nat} {f : Nat → Bool} (h : ∀ i, i < n → f i = false) : (List.range n).find? f = none := by
  rw [List.find?_range_eq_none]
  exact fun i hi => by simp [h i hi]
theorem idx_some {l : List Int} {x : Int} {k : Nat} (hk : k < l.length) (hx : x = at0 l k) (h : ∀ i, i < k → x ≠ at0 l i) : idxN l x = k := by
  unfold idxN
  rw [find_first hk (by simpa using hx) (fun i hi => by simpa using h i hi)]
theorem idx_none {l : List Int} {x : Int} (h : ∀ i, i < l.length → x ≠ at0 l i) : idxN l x = -1 := by
  unfold idxN
  rw [find_none (fun i hi => by simpa using h i hi)]

set_option maxRecDepth 10000 in
set_option maxHeartbeats 1600000 in
theorem min_any (p : Option Addr) (c : Nat) (l : List Int) (hn : l.length ≤ 1000) (h0 : 0 < l.length) (w : World) (hI : IntsAt w p l) :
    Calls Try.prog 87 #[.slice p l.length c] w fun e w' => e = .returned (.int .i64 (minN l l.length)) ∧ w' = w := by
  obtain ⟨g, o, rfl, hc0⟩ := hI 0 h0
  rw [Nat.add_zero] at hc0
  have HI := Lib.hid hI
  have hh : ¬ (l.length : Int) < 1 := by omega
  have hi0 : (0 : Int) < (l.length : Int) := by omega
  clear hI
  go_enter Try.func87, Try.ntmps87
  go_wp2
  clear hc0
  go_loopw [3, 4] (fun a i wr => wr = w ∧ ∃ k : Nat, 1 ≤ k ∧ k ≤ l.length ∧ i = .int .i64 k ∧ a = .int .i64 (minN l k)) (fun _ i _ => l.length - (intOf i).toNat)
  case atStart => exact ⟨rfl, 1, by omega, by omega, rfl, by rw [minN_one]⟩
  case round =>
    obtain ⟨rfl, k, h1, hk, rfl, rfl⟩ := hrel
    by_cases hlt : k < l.length
    · obtain ⟨g', o', e', hc⟩ := HI.out k hlt
      cases e'
      have i1 : (0 : Int) ≤ (k : Int) := by omega
      have i2 : (k : Int) < (l.length : Int) := by omega
      go_wp2
      go_roundw
      case rel => exact ⟨trivial, k + 1, by omega, by omega, by go_num, by simp [minN]; rw [Int.min_def]; split <;> split <;> omega⟩
      case measure => simp [intOf]; omega
    · obtain rfl : k = l.length := by omega
      go_wp2
      go_ret
      exact ⟨rfl, rfl⟩

set_option maxRecDepth 10000 in
set_option maxHeartbeats 1600000 in
theorem index_any (p : Option Addr) (c : Nat) (l : List Int) (x : Int) (hn : l.length ≤ 1000) (w : World) (hI : IntsAt w p l) :
    Calls Try.prog 86 #[.slice p l.length c, .int .i64 x] w fun e w' => e = .returned (.int .i64 (idxN l x)) ∧ w' = w := by
  have HI := Lib.hid hI
  clear hI
  go_enter Try.func86, Try.ntmps86
  go_wp2
  go_loopw [8] (fun i wr => wr = w ∧ ∃ k : Nat, k ≤ l.length ∧ i = .int .i64 k ∧ Hid (∀ i, i < k → x ≠ at0 l i)) (fun i _ => l.length - (intOf i).toNat)
  case atStart => exact ⟨rfl, 0, by omega, rfl, Lib.hid (by intro i hi; omega)⟩
  case round =>
    obtain ⟨rfl, k, hk, rfl, HN⟩ := hrel
    by_cases hlt : k < l.length
    · obtain ⟨g, o, rfl, hc⟩ := HI.out k hlt
      have i1 : (0 : Int) ≤ (k : Int) := by omega
      have i2 : (k : Int) < (l.length : Int) := by omega
      by_cases hx : x = at0 l k
      · have HX := Lib.hid hx
        have HV := Lib.hid (idx_some hlt hx HN.out)
        go_wp2
        go_ret
        exact ⟨ret_int HV.out.symm, rfl⟩
      · have HX := Lib.hid hx
        go_wp2
        go_roundw
        case rel => exact ⟨trivial, k + 1, by omega, by go_num, Lib.hid fun j hj => by
          by_cases e : j = k
          · subst e; exact HX.out
          · exact HN.out j (by omega)⟩
        case measure => simp [intOf]; omega
    · obtain rfl : k = l.length := by omega
      have HV := Lib.hid (idx_none HN.out)
      go_wp2
      go_ret
      exact ⟨ret_int HV.out.symm, rfl⟩
/-- What each handful is worth, of the first ones. -/
def asksN (b : Bf) (k : Nat) : List Int := (List.range b.hs.length).map fun i => if i < k then worstV b i else 0
theorem asksN_length (b : Bf) (k : Nat) : (asksN b k).length = b.hs.length := by simp [asksN]
theorem asksN_zero (b : Bf) : List.replicate b.hs.length (0 : Int) = asksN b 0 := by
  apply List.ext_getElem
  · simp [asksN]
  · intro i h1 h2; simp [asksN]
theorem asksN_set (b : Bf) {k : Nat} (_hk : k < b.hs.length) : (asksN b k).set k (worstV b k) = asksN b (k + 1) := by
  apply List.ext_getElem
  · simp [asksN]
  · intro i h1 h2
    rw [List.getElem_set]
    by_cases e : k = i
    · subst e; simp [asksN]
    · simp only [asksN, e, if_false, List.getElem_map, List.getElem_range]
      by_cases h : i < k
      · rw [if_pos h, if_pos (by omega)]
      · rw [if_neg h, if_neg (by omega)]
/-- What Ask returns. -/
def askV (b : Bf) : Int := idxN (asksN b b.hs.length) (minN (asksN b b.hs.length) b.hs.length)
set_option maxRecDepth 10000 in
set_option maxHeartbeats 1600000 in
theorem Ask_bad (b : Bf) (p : Option Addr) (c : Nat) (w : World) (hB : BfAt w p c b) (hb : bookB b = false) :
    Calls Try.prog 35 #[.agg (bfA b p c)] w fun e w' => e = .returned (.tuple #[.int .i64 0, .int .i64 50]) ∧ Below w.heap.size w w' := by
  have hE := below_alloc w (.cells (bfA b p c) 24)
  have HB := Lib.hid (hB.below hE)
  have HE := Lib.hid hE
  have HR := Lib.hid (Row.new w (bfA b p c) 24)
  have HC := Lib.hid (by have h := Check_any b p c _ (hB.below hE); rw [bookE_bad hb] at h; exact h)
  clear hE hB hb
  go_enter Try.func35, Try.ntmps35
  go_wp2_with fail
  refine HC.out.mono ?_
  rintro e w1 ⟨rfl, hb1⟩
  have HE := Lib.hid (HE.out.trans (hb1.mono HE.out.size))
  clear hb1
  go_wp2_with fail
  go_ret2
  exact ⟨rfl, HE.out⟩
set_option maxRecDepth 10000 in
set_option maxHeartbeats 1600000 in
theorem Ask_none (b : Bf) (p : Option Addr) (c : Nat) (w : World) (hB : BfAt w p c b) (hb : bookB b = true) (h0 : b.hs.length = 0) :
    Calls Try.prog 35 #[.agg (bfA b p c)] w fun e w' => e = .returned (.tuple #[.int .i64 0, .int .i64 4]) ∧ Below w.heap.size w w' := by
  have hE := below_alloc w (.cells (bfA b p c) 24)
  have HB := Lib.hid (hB.below hE)
  have HE := Lib.hid hE
  have HR := Lib.hid (Row.new w (bfA b p c) 24)
  have HC := Lib.hid (by have h := Check_any b p c _ (hB.below hE); rw [bookE_ok hb] at h; exact h)
  have hlz : ((b.hs.length : Int) == 0) = true := by rw [h0]; rfl
  have HLZ := Lib.hid h0
  clear hE hB hb h0
  go_enter Try.func35, Try.ntmps35
  go_wp2_with fail
  refine HC.out.mono ?_
  rintro e w1 ⟨rfl, hb1⟩
  have HE := Lib.hid (HE.out.trans (hb1.mono HE.out.size))
  have HR := Lib.hid (HR.out.below hb1 HR.out.lt)
  have g4 := HR.out.cell 4 (v := .slice p b.hs.length c) rfl
  clear hb1
  go_wp2_with fail
  go_ret2
  exact ⟨rfl, HE.out⟩
set_option maxRecDepth 10000 in
set_option maxHeartbeats 1600000 in
theorem Ask_yes (b : Bf) (p : Option Addr) (c : Nat) (w : World) (hB : BfAt w p c b) (hb : bookB b = true) (h0 : 0 < b.hs.length) :
    Calls Try.prog 35 #[.agg (bfA b p c)] w fun e w' => e = .returned (.tuple #[.int .i64 (askV b), .int .i64 0]) ∧ Below w.heap.size w w' := by
  have hE := below_alloc w (.cells (bfA b p c) 24)
  have HB := Lib.hid (hB.below hE)
  have HE := Lib.hid hE
  have HR := Lib.hid (Row.new w (bfA b p c) 24)
  have HC := Lib.hid (by have h := Check_any b p c _ (hB.below hE); rw [bookE_ok hb] at h; exact h)
  have HOK := Lib.hid (bookB_iff.1 hb)
  have hn8 := HOK.out.n8
  have hlz : ((b.hs.length : Int) == 0) = false := beq_eq_false_iff_ne.2 (by omega)
  have hlz2 : ¬ ((b.hs.length : Int) = 0) := by omega
  clear hE hB hb
  go_enter Try.func35, Try.ntmps35
  go_wp2_with fail
  refine HC.out.mono ?_
  rintro e w1 ⟨rfl, hb1⟩
  have HE := Lib.hid (HE.out.trans (hb1.mono HE.out.size))
  have HR := Lib.hid (HR.out.below hb1 HR.out.lt)
  have HB := Lib.hid (HB.out.below hb1)
  clear hb1
  have g0 := HR.out.cell 4 (v := .slice p b.hs.length c) rfl
  have hmk := make_ints b.hs.length (by omega) w1
  rw [asksN_zero b] at hmk
  have RA := Lib.hid (Row.new w1 (intsA (asksN b 0)) 3)
  have hA := below_alloc w1 (.cells (intsA (asksN b 0)) 3)
  have HE2 := Lib.hid (HE.out.trans (hA.mono HE.out.size))
  have HR2 := Lib.hid (HR.out.below hA HR.out.lt)
  have HB2 := Lib.hid (HB.out.below hA)
  have hrl := HR.out.lt
  clear hA
  go_wp2_with fail
  clear hmk g0
  go_loopw [22] (fun i wr => ∃ k : Nat, k ≤ b.hs.length ∧ i = .int .i64 k ∧ Row wr w1.heap.size (intsA (asksN b k)) 3 ∧ Row wr w.heap.size (bfA b p c) 24 ∧ Below w1.heap.size w1 wr) (fun i _ => b.hs.length - (intOf i).toNat)
  case atStart => exact ⟨0, by omega, rfl, RA.out, HR2.out, below_alloc _ _⟩
  case round =>
    clear RA HR2 HE2 HR HB2
    obtain ⟨k, hk, rfl, r1, r0, hb⟩ := hrel
    have HR0 := Lib.hid r0
    have HR1 := Lib.hid r1
    have HBW := Lib.hid hb
    by_cases hlt : k < b.hs.length
    · have g0 := r0.cell 0 (v := .int .i64 b.pr) rfl
      have g1 := r0.cell 1 (v := .int .i64 b.le) rfl
      have g2 := r0.cell 2 (v := .int .i64 b.mo) rfl
      have g3 := r0.cell 3 (v := .int .i64 b.gr) rfl
      have g4 := r0.cell 4 (v := .slice p b.hs.length c) rfl
      have i1 : (0 : Int) ≤ (k : Int) := by omega
      have i2 : (k : Int) < (b.hs.length : Int) := by omega
      clear r0 r1 hb
      go_wp2_with fail
      refine (worst_any b p c k wr (HB.out.below HBW.out) HOK.out hlt).mono ?_
      rintro e w2 ⟨rfl, hb2⟩
      have HR1 := Lib.hid (HR1.out.below hb2 HR1.out.lt)
      have HR0 := Lib.hid (HR0.out.below hb2 HR0.out.lt)
      have HBW := Lib.hid (HBW.out.trans (hb2.mono HBW.out.size))
      clear hb2 g0 g1 g2 g3 g4
      have d0 := HR1.out.cell k (intsA_at (by rw [asksN_length]; exact hlt))
      have d1 := HR1.out.free k
      have hz := HR1.out.lt
      go_wp2_with fail
      go_roundw
      case rel =>
        refine ⟨k + 1, by omega, by go_num, ?_, HR0.out.set_other _ _ (by dsimp only; omega), HBW.out.setCell (Nat.le_refl _) _⟩
        have h := HR1.out.set k (.int .i64 (worstV b k))
        rw [intsA_set, asksN_set b hlt] at h
        exact h
      case measure => simp [intOf]; omega
    · obtain rfl : k = b.hs.length := by omega
      have HMI := Lib.hid (by have h := min_any (some ⟨w1.heap.size, 0, none⟩) b.hs.length (asksN b b.hs.length) (by rw [asksN_length]; omega) (by rw [asksN_length]; exact h0) wr (ints_row HR1.out); rw [asksN_length] at h; exact h)
      have HIX := Lib.hid (by have h := index_any (some ⟨w1.heap.size, 0, none⟩) b.hs.length (asksN b b.hs.length) (minN (asksN b b.hs.length) b.hs.length) (by rw [asksN_length]; omega) wr (ints_row HR1.out); rw [asksN_length] at h; exact h)
      clear r0 r1 hb
      go_wp2_with fail
      refine HMI.out.mono ?_
      rintro e w2 ⟨rfl, rfl⟩
      go_wp2_with fail
      refine HIX.out.mono ?_
      rintro e w3 ⟨rfl, rfl⟩
      go_wp2_with fail
      go_ret2
      exact ⟨rfl, HE.out.trans (HBW.out.mono HE.out.size)⟩
end Go.Proofs.Ytgdidhbomdfcpaa
