/- The walks of layer 3: what is asked for. -/
import Derived.Test.YtfppcmechfjpoaaUV
namespace Go.Proofs.Ytfppcmechfjpoaa
open Go.RowKit Go.Maps
attribute [local go_sem] Oper.semAt_some

/-- The greatest of the first numbers of a list. -/
def maxN (l : List Int) : Nat → Int
  | 0 => at0 l 0
  | k + 1 => max (maxN l k) (at0 l k)
theorem maxN_one (l : List Int) : maxN l 1 = at0 l 0 := by simp [maxN]
/-- The first place of a number in a list; -1 if there is none. -/
def idxN (l : List Int) (x : Int) : Int := match (List.range l.length).find? (fun i => decide (x = at0 l i)) with
  | some i => (i : Int)
  | none => -1
theorem find_first {n k : Nat} {f : Nat → Bool} (hk : k < n) (hf : f k = true) (h : ∀ i, i < k → f i = false) : (List.range n).find? f = some k := by
  rw [List.find?_range_eq_some]
  exact ⟨hf, by simpa using hk, fun j hj => by simp [h j hj]⟩
theorem find_none {n : Nat} {f : Nat → Bool} (h : ∀ i, i < n → f i = false) : (List.range n).find? f = none := by
  rw [List.find?_range_eq_none]
  exact fun i hi => by simp [h i hi]
theorem idx_some {l : List Int} {x : Int} {k : Nat} (hk : k < l.length) (hx : x = at0 l k) (h : ∀ i, i < k → x ≠ at0 l i) : idxN l x = k := by
  unfold idxN
  rw [find_first hk (by simpa using hx) (fun i hi => by simpa using h i hi)]
theorem idx_none {l : List Int} {x : Int} (h : ∀ i, i < l.length → x ≠ at0 l i) : idxN l x = -1 := by
  unfold idxN
  rw [find_none (fun i hi => by simpa using h i hi)]

set_option maxRecDepth 10000 in
set_option maxHeartbeats 1600000 in
theorem max_any (p : Option Addr) (c : Nat) (l : List Int) (hn : l.length ≤ 1000) (h0 : 0 < l.length) (w : World) (hI : IntsAt w p l) :
    Calls Try.prog 88 #[.slice p l.length c] w fun e w' => e = .returned (.int .i64 (maxN l l.length)) ∧ w' = w := by
  obtain ⟨g, o, rfl, hc0⟩ := hI 0 h0
  rw [Nat.add_zero] at hc0
  have HI := Lib.hid hI
  have hh : ¬ (l.length : Int) < 1 := by omega
  have hi0 : (0 : Int) < (l.length : Int) := by omega
  clear hI
  go_enter Try.func88, Try.ntmps88
  go_wp2
  clear hc0
  go_loopw [3, 4] (fun a i wr => wr = w ∧ ∃ k : Nat, 1 ≤ k ∧ k ≤ l.length ∧ i = .int .i64 k ∧ a = .int .i64 (maxN l k)) (fun _ i _ => l.length - (intOf i).toNat)
  case atStart => exact ⟨rfl, 1, by omega, by omega, rfl, by rw [maxN_one]⟩
  case round =>
    obtain ⟨rfl, k, h1, hk, rfl, rfl⟩ := hrel
    by_cases hlt : k < l.length
    · obtain ⟨g', o', e', hc⟩ := HI.out k hlt
      cases e'
      have i1 : (0 : Int) ≤ (k : Int) := by omega
      have i2 : (k : Int) < (l.length : Int) := by omega
      go_wp2
      go_roundw
      case rel => exact ⟨trivial, k + 1, by omega, by omega, by go_num, by simp [maxN]; rw [Int.max_def]; split <;> split <;> omega⟩
      case measure => simp [intOf]; omega
    · obtain rfl : k = l.length := by omega
      go_wp2
      go_ret
      exact ⟨rfl, rfl⟩

set_option maxRecDepth 10000 in
set_option maxHeartbeats 1600000 in
theorem index_any (p : Option Addr) (c : Nat) (l : List Int) (x : Int) (hn : l.length ≤ 1000) (w : World) (hI : IntsAt w p l) :
    Calls Try.prog 87 #[.slice p l.length c, .int .i64 x] w fun e w' => e = .returned (.int .i64 (idxN l x)) ∧ w' = w := by
  have HI := Lib.hid hI
  clear hI
  go_enter Try.func87, Try.ntmps87
  go_wp2
  go_loopw [8] (fun i wr => wr = w ∧ ∃ k : Nat, k ≤ l.length ∧ i = .int .i64 k ∧ Hid (∀ i, i < k → x ≠ at0 l i)) (fun i _ => l.length - (intOf i).toNat)
  case atStart => exact ⟨rfl, 0, by omega, rfl, Lib.hid (by intro i hi; omega)⟩
  case round =>
    obtain ⟨rfl, k, hk, rfl, HN⟩ := hrel
    by_cases hlt : k < l.length
    · obtain ⟨g, o, rfl, hc⟩ := HI.out k hlt
      have i1 : (0 : Int) ≤ (k : Int) := by omega
      have i2 : (k : Int) < (l.length : Int) := by omega
      by_cases hx : x = at0 l k
      · have HX := Lib.hid hx
        have HV := Lib.hid (idx_some hlt hx HN.out)
        go_wp2
        go_ret
        exact ⟨ret_int HV.out.symm, rfl⟩
      · have HX := Lib.hid hx
        go_wp2
        go_roundw
        case rel => exact ⟨trivial, k + 1, by omega, by go_num, Lib.hid fun j hj => by
          by_cases e : j = k
          · subst e; exact HX.out
          · exact HN.out j (by omega)⟩
        case measure => simp [intOf]; omega
    · obtain rfl : k = l.length := by omega
      have HV := Lib.hid (idx_none HN.out)
      go_wp2
      go_ret
      exact ⟨ret_int HV.out.symm, rfl⟩
/-- What each part is worth, of the first ones. -/
def asksN (ps : List Pt) (fs : List Fr) (k : Nat) : List Int := (List.range ps.length).map fun i => if i < k then worstD ps fs i else 0
theorem asksN_length (ps : List Pt) (fs : List Fr) (k : Nat) : (asksN ps fs k).length = ps.length := by simp [asksN]
theorem asksN_zero (ps : List Pt) (fs : List Fr) : List.replicate ps.length (0 : Int) = asksN ps fs 0 := by
  apply List.ext_getElem
  · simp [asksN]
  · intro i h1 h2; simp [asksN]
theorem asksN_set (ps : List Pt) (fs : List Fr) {k : Nat} (_hk : k < ps.length) : (asksN ps fs k).set k (worstD ps fs k) = asksN ps fs (k + 1) := by
  apply List.ext_getElem
  · simp [asksN]
  · intro i h1 h2
    rw [List.getElem_set]
    by_cases e : k = i
    · subst e; simp [asksN]
    · simp only [asksN, e, if_false, List.getElem_map, List.getElem_range]
      by_cases h : i < k
      · rw [if_pos h, if_pos (by omega)]
      · rw [if_neg h, if_neg (by omega)]
/-- What Ask returns. -/
def askV (ps : List Pt) (fs : List Fr) : Int := if bookB ps fs then idxN (asksN ps fs ps.length) (maxN (asksN ps fs ps.length) ps.length) else 0

set_option maxRecDepth 10000 in
set_option maxHeartbeats 1600000 in
theorem Ask_any (pp : Option Addr) (cp : Nat) (pf : Option Addr) (cf : Nat) (ps : List Pt) (ms : List FrM) (w : World) (hB : BkAt w pp pf ps ms) : Calls Try.prog 37 #[.agg #[.slice pp ps.length cp, .slice pf ms.length cf]] w fun e w' => e = .returned (.tuple #[.int .i64 (askV ps (frsM ms)), .int .i64 (bookE ps (frsM ms))]) ∧ Below w.heap.size w w' := by
  have hE := below_alloc w (.cells #[.slice pp ps.length cp, .slice pf ms.length cf] 25)
  have HB := Lib.hid (hB.below hE)
  have HE := Lib.hid hE
  have HR := Lib.hid (Row.new w #[.slice pp ps.length cp, .slice pf ms.length cf] 25)
  clear hE
  cases hb : bookB ps (frsM ms)
  · have HV := Lib.hid (bookE_bad hb)
    simp only [askV, hb, Bool.false_eq_true, if_false, bookE_bad hb]
    clear hb
    go_enter Try.func37, Try.ntmps37
    go_wp2_with fail
    refine (Check_any pp cp pf cf ps ms _ HB.out).mono ?_
    rintro e w1 ⟨rfl, hb1⟩
    rw [HV.out]
    have HE := Lib.hid (HE.out.trans (hb1.mono HE.out.size))
    have HR := Lib.hid (HR.out.below hb1 HR.out.lt)
    clear hb1
    go_wp2_with fail
    go_ret2
    exact ⟨rfl, HE.out⟩
  · have HV := Lib.hid (bookE_ok hb)
    have HBK := Lib.hid (bk_of hB hb)
    have hn4 := HBK.out.n4
    have hn1 := HBK.out.ok.p1
    simp only [askV, hb, if_true, bookE_ok hb]
    clear hb
    go_enter Try.func37, Try.ntmps37
    go_wp2_with fail
    refine (Check_any pp cp pf cf ps ms _ HB.out).mono ?_
    rintro e w1 ⟨rfl, hb1⟩
    rw [HV.out]
    have HE := Lib.hid (HE.out.trans (hb1.mono HE.out.size))
    have HR := Lib.hid (HR.out.below hb1 HR.out.lt)
    clear hb1
    have g0 := HR.out.cell 0 (v := .slice pp ps.length cp) rfl
    have hmk := make_ints ps.length (by omega) w1
    rw [asksN_zero ps (frsM ms)] at hmk
    have RA := Lib.hid (Row.new w1 (intsA (asksN ps (frsM ms) 0)) 3)
    have hA := below_alloc w1 (.cells (intsA (asksN ps (frsM ms) 0)) 3)
    have HE2 := Lib.hid (HE.out.trans (hA.mono HE.out.size))
    have HR2 := Lib.hid (HR.out.below hA HR.out.lt)
    have hrl := HR.out.lt
    clear hA
    go_wp2_with fail
    clear hmk g0
    go_loopw [18] (fun i wr => ∃ k : Nat, k ≤ ps.length ∧ i = .int .i64 k ∧ Row wr w1.heap.size (intsA (asksN ps (frsM ms) k)) 3 ∧ Row wr w.heap.size #[.slice pp ps.length cp, .slice pf ms.length cf] 25 ∧ Below w.heap.size w wr) (fun i _ => ps.length - (intOf i).toNat)
    case atStart => exact ⟨0, by omega, rfl, RA.out, HR2.out, HE2.out⟩
    case round =>
      clear RA HR2 HE2 HR HE HB
      obtain ⟨k, hk, rfl, r1, r0, hb⟩ := hrel
      have HR0 := Lib.hid r0
      have HR1 := Lib.hid r1
      have HBW := Lib.hid hb
      by_cases hlt : k < ps.length
      · have c0 := r0.cell 0 (v := .slice pp ps.length cp) rfl
        have c1 := r0.cell 1 (v := .slice pf ms.length cf) rfl
        have i1 : (0 : Int) ≤ (k : Int) := by omega
        have i2 : (k : Int) < (ps.length : Int) := by omega
        clear r0 r1 hb
        go_wp2_with fail
        refine (worst_any pp cp pf cf ps ms wr (HBK.out.below HBW.out) k hlt).mono ?_
        rintro e w2 ⟨rfl, hb2⟩
        have HR1 := Lib.hid (HR1.out.below hb2 HR1.out.lt)
        have HR0 := Lib.hid (HR0.out.below hb2 HR0.out.lt)
        have HBW := Lib.hid (HBW.out.trans (hb2.mono HBW.out.size))
        clear hb2 c0 c1
        have d0 := HR1.out.cell k (intsA_at (by rw [asksN_length]; exact hlt))
        have d1 := HR1.out.free k
        have hz := HR1.out.lt
        go_wp2_with fail
        go_roundw
        case rel =>
          refine ⟨k + 1, by omega, by go_num, ?_, HR0.out.set_other _ _ (by dsimp only; omega), HBW.out.setCell (by dsimp only; omega) _⟩
          have h := HR1.out.set k (.int .i64 (worstD ps (frsM ms) k))
          rw [intsA_set, asksN_set _ _ hlt] at h
          exact h
        case measure => simp [intOf]; omega
      · obtain rfl : k = ps.length := by omega
        have HI := Lib.hid (ints_row HR1.out)
        have HLN := Lib.hid (asksN_length ps (frsM ms) ps.length)
        clear r0 r1 hb
        generalize hgl : asksN ps (frsM ms) ps.length = l at *
        have HGL := Lib.hid hgl
        clear hgl
        go_wp2_with fail
        rw [← HLN.out]
        refine (max_any _ _ l (by rw [HLN.out]; omega) (by rw [HLN.out]; omega) wr HI.out).mono ?_
        rintro e w2 ⟨rfl, rfl⟩
        go_wp2_with fail
        refine (index_any _ _ l _ (by rw [HLN.out]; omega) _ HI.out).mono ?_
        rintro e w3 ⟨rfl, rfl⟩
        go_wp2_with fail
        go_ret2
        exact ⟨by rw [HGL.out, ← HLN.out]; rfl, HBW.out⟩
end Go.Proofs.Ytfppcmechfjpoaa
