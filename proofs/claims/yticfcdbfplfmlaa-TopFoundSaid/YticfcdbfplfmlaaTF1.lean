/- The laws' own helper through the layers: a cutting that numbers choose. -/
import Derived.Test.YticfcdbfplfmlaaTP2
import Derived.Test.YticfcdbfplfmlaaFDX
namespace Go.Proofs.Yticfcdbfplfmlaa
open Go.RowKit Go.Maps
attribute [local go_sem] Oper.semAt_some

set_option maxRecDepth 10000 in
set_option maxHeartbeats 1600000 in
theorem sliced_any (p1 : Option Addr) (n1 c1 : Nat) (p2 : Option Addr) (n2 c2 : Nat) (sz wide : Int) (w : World) (hs1 : 1 ≤ sz) (hs6 : sz ≤ 6) (hw : wide ≤ 72) (pb : Option Addr) (cb : Nat) (bits : List Int) (hi : IntsAt w pb bits) (hn : bits.length ≤ maxLen) :
    Calls Try.prog 57 #[.agg #[.slice p1 n1 c1, .int .i64 sz, .slice p2 n2 c2], .int .i64 wide, .slice pb bits.length cb] w (GaveInts (Pe.slicedL sz wide (bits.take 72) 0) w) := by
  have hbl : (bits.take 72).length = min 72 bits.length := List.length_take
  have HBL := Lib.hid hbl
  have hbat : ∀ j, j < (bits.take 72).length → at0 (bits.take 72) j = at0 bits j := fun j hj => by
    rw [at0_lt hj, at0_lt (by omega)]; simp
  have HBAT := Lib.hid hbat
  have HI := Lib.hid hi
  have hnn := hn
  unfold maxLen at hnn
  clear hbl hi hn hbat
  obtain ⟨i0, hi, hi0, hi1, hi2⟩ := info_parts Try.infoInt
  go_enter Try.func57, Try.ntmps57
  go_wp2
  go_loopw [7, 8, 9] (fun s c i wr => ∃ (j : Nat) (cc : Int) (acc : List Int), j ≤ (bits.take 72).length ∧ i = .int .i64 j ∧ c = .int .i64 cc ∧ 0 ≤ cc ∧ cc ≤ 100 ∧ Hid (acc ++ Pe.slicedL sz wide ((bits.take 72).drop j) cc = Pe.slicedL sz wide (bits.take 72) 0) ∧ acc.length ≤ j ∧ wr.ownsRow (w.heap.size + 1) 3 1 s acc.length (acc.map (Value.int .i64)) ∧ Row wr w.heap.size #[.slice p1 n1 c1, .int .i64 sz, .slice p2 n2 c2] 25 ∧ Below w.heap.size w wr) (fun _ _ i _ => 72 - (intOf i).toNat)
  case atStart => exact ⟨0, 0, [], by omega, rfl, rfl, by omega, by omega, Lib.hid rfl, by simp, World.ownsRow_nil _ _ _ _, Row.new _ _ _, below_alloc _ _⟩
  case round =>
    obtain ⟨j, cc, acc, hj, rfl, rfl, hc0, hc1, HA, hacc, hown, hr0, hb0⟩ := hrel
    have HO := Lib.hid hown
    have HR := Lib.hid hr0
    have HB := Lib.hid hb0
    have hj72 : j ≤ 72 ∧ j ≤ bits.length := by have := HBL.out; omega
    have hz := hr0.lt
    have fin : ∀ (h0 : acc = Pe.slicedL sz wide (bits.take 72) 0) (s' : Value) (hs' : wr.ownsRow (w.heap.size + 1) 3 1 s' acc.length (acc.map (Value.int .i64))), GaveInts (Pe.slicedL sz wide (bits.take 72) 0) w (.returned s') wr := by
      intro h0 s' hs'
      obtain ⟨p, c, rfl, hints, _, _, _⟩ := ints_of_owns hs'
      exact ⟨p, c, by rw [← h0], by rw [← h0]; exact hints, HB.out⟩
    clear hown hr0 hb0
    by_cases hlt : j < (bits.take 72).length
    · have hjb : j < bits.length ∧ j < 72 := by have := HBL.out; omega
      obtain ⟨hjb1, hjb2⟩ := hjb
      obtain ⟨b, o, rfl, hcell⟩ := (HI.out.below HB.out) j hjb1
      have hst := Pe.slicedL_at (sz := sz) (wide := wide) (c := cc) hlt
      rw [HBAT.out j hlt] at hst
      have HST := Lib.hid hst
      have hsp := spin_range (at0 bits j) 3 (by omega)
      clear hst
      have k1 := HR.out.cell 1 (v := .int .i64 sz) rfl
      generalize hsv : spin (at0 bits j) 3 = sv at *
      have HSV := Lib.hid hsv
      clear hsv
      have e1 : IntKind.i64.wrap (cc + sv) = cc + sv := IntWalk.i64_in _ (by omega)
      have e2 : IntKind.i64.wrap (cc + sv + sz) = cc + sv + sz := IntWalk.i64_in _ (by omega)
      by_cases hgt : wide < cc + sv + sz
      · go_wp2_with (first | (refine (Spin_any _ _ _ ⟨by omega, by omega⟩).mono ?_; rw [HSV.out]; rintro e u ⟨rfl, rfl⟩))
        go_ret
        have h0 : acc = Pe.slicedL sz wide (bits.take 72) 0 := by
          have := HA.out
          rw [HST.out, if_pos hgt, List.append_nil] at this
          exact this
        exact fin h0 _ HO.out
      · go_wp2_with (first | (refine (Spin_any _ _ _ ⟨by omega, by omega⟩).mono ?_; rw [HSV.out]; rintro e u ⟨rfl, rfl⟩) | (at_builtin; (refine wpList_append_own _ rfl _ _ 22 rfl (w.heap.size + 1) 3 i0 (.int .i64 0) 1 8 Try.underlying22 hi hi0 hi1 hi2 rfl (by decide) _ _ _ rfl (HO.out.alloc _) ⟨wr.heap.size, 0, none⟩ 1 1 [.int .i64 (cc + sv)] rfl rfl (cell_one_new _ _ _) (by simp [Value.oneCell']) (by unfold maxLen; omega) (by omega) (by simp; omega) ?_); intro v' w2 hown' hgrow _; have HO2 := Lib.hid hown'; have hg2 : Below (w.heap.size + 1) wr w2 := ((Below.refl _ _).alloc (by omega) _).grown hgrow (by simp; omega) (fun k hk => (HO.out.lt k hk).1); have hz2 := hg2.size; have HR2 := Lib.hid (HR.out.below hg2 (by omega)); have HB2 := Lib.hid (HB.out.trans (hg2.mono (by omega))); have k1 := HR2.out.cell 1 (v := .int .i64 sz) rfl; clear hown' hgrow hg2))
        have hnew : acc ++ [cc + sv] ++ Pe.slicedL sz wide ((bits.take 72).drop (j + 1)) (cc + sv + sz) = Pe.slicedL sz wide (bits.take 72) 0 := by
          have := HA.out
          rw [HST.out, if_neg (by omega)] at this
          rw [← this]; simp
        exact ⟨⟨j + 1, cc + sv + sz, acc ++ [cc + sv], by omega, by congr 1, rfl, by omega, by omega, Lib.hid hnew, by simp; omega, by simpa using HO2.out, HR2.out, HB2.out⟩, by simp [intOf]; omega⟩
    · have h0 : acc = Pe.slicedL sz wide (bits.take 72) 0 := by
        have := HA.out
        rw [List.drop_eq_nil_of_le (by omega), Pe.slicedL, List.append_nil] at this
        exact this
      have HFIN := Lib.hid (fin h0 _ HO.out)
      have hout : j = bits.length ∨ j = 72 := by have := HBL.out; omega
      clear fin h0
      rcases hout with e | e
      · subst e
        go_wp2
        go_ret
        exact HFIN.out
      · subst e
        go_wp2
        all_goals go_ret
        all_goals exact HFIN.out
end Go.Proofs.Yticfcdbfplfmlaa
