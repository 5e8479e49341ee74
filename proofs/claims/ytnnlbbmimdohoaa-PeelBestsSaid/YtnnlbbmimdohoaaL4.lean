/- The law's own helper of layer 1: a cutting that numbers choose. -/
import Derived.Test.YtnnlbbmimdohoaaN1
namespace Go.Proofs.Ytnnlbbmimdohoaa
open Go.RowKit Go.Maps
attribute [local go_sem] Oper.semAt_some

/-- A cutting that numbers choose: how many columns are left ahead of each piece. -/
def drawnL (sz wide : Int) : List Int → Int → List Int
  | [], _ => []
  | x :: xs, c => if wide < c + spin x 4 + sz then [] else (c + spin x 4) :: drawnL sz wide xs (c + spin x 4 + sz)
theorem drawnL_ok {sz wide : Int} : ∀ (l : List Int) (c : Int), cutOk sz wide c (drawnL sz wide l c) = true
  | [], _ => by rw [drawnL, cutOk]
  | x :: xs, c => by
    have hs := spin_range x 4 (by omega)
    rw [drawnL]
    by_cases h : wide < c + spin x 4 + sz
    · rw [if_pos h, cutOk]
    · rw [if_neg h]
      exact cutOk_mk (by omega) (by omega) (drawnL_ok xs _)
theorem drawnL_length {sz wide : Int} : ∀ (l : List Int) (c : Int), (drawnL sz wide l c).length ≤ l.length
  | [], _ => by rw [drawnL]; simp
  | x :: xs, c => by
    rw [drawnL]
    by_cases h : wide < c + spin x 4 + sz
    · rw [if_pos h]; simp
    · rw [if_neg h]
      have := drawnL_length (sz := sz) (wide := wide) xs (c + spin x 4 + sz)
      simp; omega
theorem drawnL_at {sz wide c : Int} {l : List Int} {j : Nat} (h : j < l.length) : drawnL sz wide (l.drop j) c = if wide < c + spin (at0 l j) 4 + sz then [] else (c + spin (at0 l j) 4) :: drawnL sz wide (l.drop (j + 1)) (c + spin (at0 l j) 4 + sz) := by
  rw [List.drop_eq_getElem_cons h, drawnL, at0_lt h]
theorem cutOk_len {sz wide : Int} (h1 : 1 ≤ sz) : ∀ {cut : List Int} {i : Int}, cutOk sz wide i cut = true → (cut.length : Int) ≤ max 0 (wide - i)
  | [], _, _ => by simp; omega
  | f :: l, i, h => by
    obtain ⟨a, b, hl⟩ := cutOk_cons h
    have := cutOk_len h1 hl
    simp; omega

set_option maxRecDepth 10000 in
set_option maxHeartbeats 1600000 in
theorem drawn_cut (p1 : Option Addr) (c1 : Nat) (p2 : Option Addr) (c2 : Nat) (long : List Int) (sz : Int) (ks : List K4) (w : World) (h : LogAt w p1 p2 long ks) (hb : validB long sz ks = true) (pb : Option Addr) (cb : Nat) (bits : List Int) (hi : IntsAt w pb bits) (hn : bits.length ≤ maxLen) :
    Calls Try.prog 42 #[.agg #[.slice p1 long.length c1, .int .i64 sz, .slice p2 ks.length c2], .slice pb bits.length cb] w (GaveInts (drawnL sz (psum long long.length) (bits.take 72) 0) w) := by
  have hok := valid_ok hb
  have hw := wideN_eq hok.L
  have hs1 := hok.s1
  have hs6 := hok.s6
  have hn6 := hok.L.n6
  have hlong := total_psum hok.L long.length (Nat.le_refl _)
  rw [List.take_length] at hlong
  have HLONG := Lib.hid hlong
  have hbl : (bits.take 72).length = min 72 bits.length := List.length_take
  have HBL := Lib.hid hbl
  have hbat : ∀ j, j < (bits.take 72).length → at0 (bits.take 72) j = at0 bits j := fun j hj => by
    rw [at0_lt hj, at0_lt (by omega)]; simp
  have HBAT := Lib.hid hbat
  have HH := Lib.hid h
  have HI := Lib.hid hi
  have hnn := hn
  unfold maxLen at hnn
  clear hlong hbl h hi hn hbat
  obtain ⟨i0, hi, hi0, hi1, hi2⟩ := info_parts Try.infoInt
  go_enter Try.func42, Try.ntmps42
  go_wp2
  go_loopw [5, 6, 7] (fun s c i wr => ∃ (j : Nat) (cc : Int) (acc : List Int), j ≤ (bits.take 72).length ∧ i = .int .i64 j ∧ c = .int .i64 cc ∧ 0 ≤ cc ∧ cc ≤ 100 ∧ Hid (acc ++ drawnL sz (psum long long.length) ((bits.take 72).drop j) cc = drawnL sz (psum long long.length) (bits.take 72) 0) ∧ acc.length ≤ j ∧ wr.ownsRow (w.heap.size + 1) 3 1 s acc.length (acc.map (Value.int .i64)) ∧ Row wr w.heap.size #[.slice p1 long.length c1, .int .i64 sz, .slice p2 ks.length c2] 25 ∧ Below w.heap.size w wr) (fun _ _ i _ => 72 - (intOf i).toNat)
  case atStart => exact ⟨0, 0, [], by omega, rfl, rfl, by omega, by omega, Lib.hid rfl, by simp, World.ownsRow_nil _ _ _ _, Row.new _ _ _, below_alloc _ _⟩
  case round =>
    obtain ⟨j, cc, acc, hj, rfl, rfl, hc0, hc1, HA, hacc, hown, hr0, hb0⟩ := hrel
    have HO := Lib.hid hown
    have HR := Lib.hid hr0
    have HB := Lib.hid hb0
    have hj72 : j ≤ 72 ∧ j ≤ bits.length := by have := HBL.out; omega
    have hz := hr0.lt
    have fin : ∀ (h0 : acc = drawnL sz (psum long long.length) (bits.take 72) 0) (s' : Value) (hs' : wr.ownsRow (w.heap.size + 1) 3 1 s' acc.length (acc.map (Value.int .i64))), GaveInts (drawnL sz (psum long long.length) (bits.take 72) 0) w (.returned s') wr := by
      intro h0 s' hs'
      obtain ⟨p, c, rfl, hints, _, _, _⟩ := ints_of_owns hs'
      exact ⟨p, c, by rw [← h0], by rw [← h0]; exact hints, HB.out⟩
    clear hown hr0 hb0
    by_cases hlt : j < (bits.take 72).length
    · have hjb : j < bits.length ∧ j < 72 := by have := HBL.out; omega
      obtain ⟨hjb1, hjb2⟩ := hjb
      obtain ⟨b, o, rfl, hcell⟩ := (HI.out.below HB.out) j hjb1
      have hst := drawnL_at (sz := sz) (wide := psum long long.length) (c := cc) hlt
      rw [HBAT.out j hlt] at hst
      have HST := Lib.hid hst
      have hsp := spin_range (at0 bits j) 4 (by omega)
      clear hst
      have HT := Lib.hid (fun nq => (by have h := Total_any p1 c1 long (wr.drewN nq) (by unfold maxLen; omega) (HH.out.below HB.out).l; rw [HLONG.out] at h; exact h) : ∀ nq, Calls Try.prog 47 #[.slice p1 long.length c1] (wr.drewN nq) fun e w' => e = .returned (.int .i64 (psum long long.length)) ∧ wr.drewN nq = w')
      have k0 := HR.out.cell 0 (v := .slice p1 long.length c1) rfl
      have k1 := HR.out.cell 1 (v := .int .i64 sz) rfl
      generalize hsv : spin (at0 bits j) 4 = sv at *
      have HSV := Lib.hid hsv
      clear hsv
      by_cases hgt : psum long long.length < cc + sv + sz
      · go_wp2_with (first | (refine (Spin_any _ _ _ ⟨by omega, by omega⟩).mono ?_; rw [HSV.out]; rintro e u ⟨rfl, rfl⟩))
        go_quiet ((go_at_call 47; exact quiet_eq (HT.out _)))
        go_wp2
        go_ret
        have h0 : acc = drawnL sz (psum long long.length) (bits.take 72) 0 := by
          have := HA.out
          rw [HST.out, if_pos hgt, List.append_nil] at this
          exact this
        obtain ⟨p, c, e1, h1, h2⟩ := fin h0 _ HO.out
        exact ⟨p, c, e1, h1, below_drewN h2 _⟩
      · go_wp2_with (first | (refine (Spin_any _ _ _ ⟨by omega, by omega⟩).mono ?_; rw [HSV.out]; rintro e u ⟨rfl, rfl⟩))
        go_quiet ((go_at_call 47; exact quiet_eq (HT.out _)))
        have HR1 := Lib.hid (HR.out.drewN nq)
        have HO1 := Lib.hid (show (wr.drewN nq).ownsRow (w.heap.size + 1) 3 1 _ acc.length (acc.map (Value.int .i64)) from HO.out)
        have HB1 := Lib.hid (below_drewN HB.out nq)
        have hz1 : w.heap.size < (wr.drewN nq).heap.size := hz
        have k0 := HR1.out.cell 0 (v := .slice p1 long.length c1) rfl
        have k1 := HR1.out.cell 1 (v := .int .i64 sz) rfl
        clear HT fin
        generalize wr.drewN nq = w1 at *
        go_wp2_with (first | (at_builtin; (refine wpList_append_own _ rfl _ _ 22 rfl (w.heap.size + 1) 3 i0 (.int .i64 0) 1 8 Try.underlying22 hi hi0 hi1 hi2 rfl (by decide) _ _ _ rfl (HO1.out.alloc _) ⟨w1.heap.size, 0, none⟩ 1 1 [.int .i64 (cc + sv)] rfl rfl (cell_one_new _ _ _) (by simp [Value.oneCell']) (by unfold maxLen; omega) (by omega) (by simp; omega) ?_); intro v' w2 hown' hgrow _; have HO2 := Lib.hid hown'; have hg2 : Below (w.heap.size + 1) w1 w2 := ((Below.refl _ _).alloc (by omega) _).grown hgrow (by simp; omega) (fun k hk => (HO1.out.lt k hk).1); have hz2 := hg2.size; have HR2 := Lib.hid (HR1.out.below hg2 (by omega)); have HB2 := Lib.hid (HB1.out.trans (hg2.mono (by omega))); have k1 := HR2.out.cell 1 (v := .int .i64 sz) rfl; clear hown' hgrow hg2))
        have hnew : acc ++ [cc + sv] ++ drawnL sz (psum long long.length) ((bits.take 72).drop (j + 1)) (cc + sv + sz) = drawnL sz (psum long long.length) (bits.take 72) 0 := by
          have := HA.out
          rw [HST.out, if_neg (by omega)] at this
          rw [← this]; simp
        exact ⟨⟨j + 1, cc + sv + sz, acc ++ [cc + sv], by omega, by congr 1, rfl, by omega, by omega, Lib.hid hnew, by simp; omega, by simpa using HO2.out, HR2.out, HB2.out⟩, by simp [intOf]; omega⟩
    · have h0 : acc = drawnL sz (psum long long.length) (bits.take 72) 0 := by
        have := HA.out
        rw [List.drop_eq_nil_of_le (by omega), drawnL, List.append_nil] at this
        exact this
      have HFIN := Lib.hid (fin h0 _ HO.out)
      have hout : j = bits.length ∨ j = 72 := by have := HBL.out; omega
      clear fin h0
      rcases hout with e | e
      · subst e
        go_wp2
        go_ret
        exact HFIN.out
      · subst e
        go_wp2
        all_goals go_ret
        all_goals exact HFIN.out

end Go.Proofs.Ytnnlbbmimdohoaa
