/- The walks of layer 1: which logs are valid, all of it. -/
import Derived.Test.YtnnlbbmimdohoaaP10
namespace Go.Proofs.Ytnnlbbmimdohoaa
open Go.RowKit Go.Maps
attribute [local go_sem] Oper.semAt_some

/-- The lengths fall from turn to turn. -/
def fallB : Int → List Int → Bool
  | _, [] => true
  | before, x :: xs => decide (1 ≤ x) && decide (x ≤ before) && fallB x xs
/-- Which logs are valid. -/
def validB (long : List Int) (sz : Int) (ks : List K4) : Bool :=
  decide (1 ≤ long.length) && decide (long.length ≤ 6) && decide (1 ≤ sz) && decide (sz ≤ 6) && decide (ks.length ≤ 3) && fallB 12 long && ks.all (kvalidB · long.length)

theorem fall_at {y : Int} {long : List Int} {j : Nat} (h : j < long.length) : fallB y (long.drop j) = (decide (1 ≤ at0 long j) && decide (at0 long j ≤ y) && fallB (at0 long j) (long.drop (j + 1))) := by
  rw [List.drop_eq_getElem_cons h, fallB, at0_lt h]
theorem not_fall {long : List Int} {sz : Int} {ks : List K4} (h : fallB 12 long = false) : false = validB long sz ks := by
  simp [validB, h]
theorem not_valid {long : List Int} {sz : Int} {ks : List K4} (h : ¬ (1 ≤ long.length ∧ long.length ≤ 6 ∧ 1 ≤ sz ∧ sz ≤ 6 ∧ ks.length ≤ 3)) : false = validB long sz ks := by
  cases hv : validB long sz ks
  · rfl
  · exfalso
    apply h
    simp only [validB, Bool.and_eq_true, decide_eq_true_eq] at hv
    obtain ⟨⟨⟨⟨⟨⟨h1, h2⟩, h3⟩, h4⟩, h5⟩, _⟩, _⟩ := hv
    exact ⟨h1, h2, h3, h4, h5⟩
theorem numAt0 (a b c : Int) (w : World) : (Instr.index 117 (.agg #[.int .i64 a, .int .i64 1, .int .i64 6, .int .i64 b, .int .i64 1, .int .i64 6, .int .i64 c, .int .i64 0, .int .i64 3]) (.int .i64 0)).run Try.prog w = .ok (.agg #[.int .i64 a, .int .i64 1, .int .i64 6]) w := by
  simp [Instr.index, go_sem]
theorem numAt1 (a b c : Int) (w : World) : (Instr.index 117 (.agg #[.int .i64 a, .int .i64 1, .int .i64 6, .int .i64 b, .int .i64 1, .int .i64 6, .int .i64 c, .int .i64 0, .int .i64 3]) (.int .i64 1)).run Try.prog w = .ok (.agg #[.int .i64 b, .int .i64 1, .int .i64 6]) w := by
  simp [Instr.index, go_sem]
theorem numAt2 (a b c : Int) (w : World) : (Instr.index 117 (.agg #[.int .i64 a, .int .i64 1, .int .i64 6, .int .i64 b, .int .i64 1, .int .i64 6, .int .i64 c, .int .i64 0, .int .i64 3]) (.int .i64 2)).run Try.prog w = .ok (.agg #[.int .i64 c, .int .i64 0, .int .i64 3]) w := by
  simp [Instr.index, go_sem]

set_option maxRecDepth 10000 in
set_option maxHeartbeats 800000 in
theorem valid_any (p1 : Option Addr) (c1 : Nat) (p2 : Option Addr) (c2 : Nat) (long : List Int) (sz : Int) (ks : List K4) (w : World) (hl : IntsAt w p1 long) (hks : KnotsAt w p2 ks) (hb1 : long.length < 2 ^ 62) (hb2 : ks.length < 2 ^ 62) :
    Calls Try.prog 57 #[.agg #[.slice p1 long.length c1, .int .i64 sz, .slice p2 ks.length c2]] w fun e w' => e = .returned (.bool (validB long sz ks)) ∧ Below w.heap.size w w' := by
  go_enter Try.func57, Try.ntmps57
  go_wp2_with fail
  go_loopw [24] (fun i wr => (i = .int .i64 0 ∨ (i = .int .i64 1 ∧ 1 ≤ long.length ∧ long.length ≤ 6) ∨ (i = .int .i64 2 ∧ 1 ≤ long.length ∧ long.length ≤ 6 ∧ 1 ≤ sz ∧ sz ≤ 6) ∨ (i = .int .i64 3 ∧ 1 ≤ long.length ∧ long.length ≤ 6 ∧ 1 ≤ sz ∧ sz ≤ 6 ∧ ks.length ≤ 3)) ∧ Row wr w.heap.size #[.slice p1 long.length c1, .int .i64 sz, .slice p2 ks.length c2] 25 ∧ Below w.heap.size w wr) (fun i _ => 3 - (intOf i).toNat)
  case atStart => exact ⟨.inl rfl, (Row.new _ _ _).alloc _, (below_alloc _ _).alloc (by simp) _⟩
  case round =>
    obtain ⟨hi, hr, hb⟩ := hrel
    have HR := Lib.hid hr
    have HB := Lib.hid hb
    have hlt := hr.lt
    clear hr hb
    rcases hi with rfl | ⟨rfl, h1, h2⟩ | ⟨rfl, h1, h2, h3, h4⟩ | ⟨rfl, h1, h2, h3, h4, h5⟩
    · go_wp2_with (first | (refine index_op rfl 117 _ _ rfl _ _ rfl rfl _ (numAt0 _ _ _ _) ?_))
      all_goals first
        | (go_ret; exact ⟨ret_bool (not_valid (by omega)), HB.out.alloc (by omega) _⟩)
        | exact ⟨⟨.inr (.inl ⟨rfl, by omega, by omega⟩), HR.out.alloc _, HB.out.alloc (by omega) _⟩, by simp [intOf]⟩
    · go_wp2_with (first | (refine index_op rfl 117 _ _ rfl _ _ rfl rfl _ (numAt1 _ _ _ _) ?_))
      all_goals first
        | (go_ret; exact ⟨ret_bool (not_valid (by omega)), HB.out.alloc (by omega) _⟩)
        | exact ⟨⟨.inr (.inr (.inl ⟨rfl, by omega, by omega, by omega, by omega⟩)), HR.out.alloc _, HB.out.alloc (by omega) _⟩, by simp [intOf]⟩
    · go_wp2_with (first | (refine index_op rfl 117 _ _ rfl _ _ rfl rfl _ (numAt2 _ _ _ _) ?_))
      all_goals first
        | (go_ret; exact ⟨ret_bool (not_valid (by omega)), HB.out.alloc (by omega) _⟩)
        | exact ⟨⟨.inr (.inr (.inr ⟨rfl, by omega, by omega, by omega, by omega, by omega⟩)), HR.out.alloc _, HB.out.alloc (by omega) _⟩, by simp [intOf]⟩
    · have hl' := hl.below HB.out
      have hks' := hks.below HB.out
      have HL := Lib.hid hl'
      have HK := Lib.hid hks'
      have c0 := HR.out.cell 0 (v := .slice p1 long.length c1) rfl
      have c2' := HR.out.cell 2 (v := .slice p2 ks.length c2) rfl
      clear hl hks hl' hks'
      go_wp2_with fail
      go_loopw [6, 43] (fun b i v => ∃ (j : Nat) (y : Int), j ≤ long.length ∧ i = .int .i64 j ∧ b = .int .i64 y ∧ fallB 12 long = fallB y (long.drop j) ∧ v = wr) (fun _ i _ => long.length - (intOf i).toNat)
      case atStart => exact ⟨0, 12, by omega, rfl, rfl, rfl, rfl⟩
      case round =>
        obtain ⟨j, y, hj, rfl, rfl, hf, rfl⟩ := hrel
        by_cases hjl : j < long.length
        · obtain ⟨b, o, rfl, hc⟩ := HL.out j hjl
          rw [fall_at hjl] at hf
          have HF := Lib.hid hf
          clear hf
          go_wp2
          all_goals first
            | (go_ret; exact ⟨ret_bool (not_fall (by rw [HF.out]; simp; intros; omega)), HB.out⟩)
            | exact ⟨⟨j + 1, _, by omega, by rw [show ((j + 1 : Nat) : Int) = (j : Int) + 1 by omega], rfl, by rw [HF.out, show decide (1 ≤ at0 long j) = true by simp; omega, show decide (at0 long j ≤ y) = true by simp; omega]; simp, trivial⟩, by simp [intOf]; omega⟩
        · obtain rfl : j = long.length := by omega
          rw [List.drop_length] at hf
          have HF := Lib.hid hf
          clear hf hj
          go_wp2
          go_loopw [59] (fun i v => ∃ j : Nat, j ≤ ks.length ∧ i = .int .i64 j ∧ (∀ x ∈ ks.take j, kvalidB x long.length = true) ∧ Below wr.heap.size wr v) (fun i _ => ks.length - (intOf i).toNat)
          case atStart => exact ⟨0, by omega, rfl, by simp, Below.refl _ _⟩
          case round =>
            obtain ⟨j, hj, rfl, hall, hbv⟩ := hrel
            have HALL := Lib.hid hall
            have HBV := Lib.hid hbv
            by_cases hjl : j < ks.length
            · obtain ⟨b, o, rfl, k0, k1, k2, k3⟩ := (HK.out.below hbv) j hjl
              clear hall hbv
              have c0'' := (HR.out.below HBV.out hlt).cell 0 (v := .slice p1 long.length c1) rfl
              have hltn := Nat.lt_of_lt_of_le hlt HBV.out.size
              cases hkv : kvalidB ks[j] long.length
              · have HKV := Lib.hid hkv
                clear hkv
                go_wp2_with (first | (refine (kvalid_any ks[j] _ _).mono ?_; rw [HKV.out]; rintro e w3 ⟨rfl, hb3⟩))
                go_ret
                exact ⟨ret_bool (by simp only [validB]; rw [show ks.all (kvalidB · long.length) = false by rw [List.all_eq_false]; exact ⟨ks[j], List.getElem_mem _, by simp [HKV.out]⟩]; simp), HB.out.trans ((HBV.out.mono (Nat.le_of_lt hlt)).trans (((below_alloc _ _).mono (Nat.le_of_lt hltn)).trans (hb3.mono (by simp; omega))))⟩
              · have HKV := Lib.hid hkv
                clear hkv
                go_wp2_with (first | (refine (kvalid_any ks[j] _ _).mono ?_; rw [HKV.out]; rintro e w3 ⟨rfl, hb3⟩))
                have hall2 : ∀ x ∈ ks.take (j + 1), kvalidB x long.length = true := by
                  intro x hx
                  rw [List.take_succ_eq_append_getElem hjl] at hx
                  rcases List.mem_append.1 hx with h | h
                  · exact HALL.out x h
                  · obtain rfl : x = ks[j] := by simpa using h
                    exact HKV.out
                exact ⟨⟨j + 1, by omega, by rw [show ((j + 1 : Nat) : Int) = (j : Int) + 1 by omega], hall2, HBV.out.trans (((below_alloc _ _).mono HBV.out.size).trans (hb3.mono (by have := HBV.out.size; simp; omega)))⟩, by simp [intOf]; omega⟩
            · obtain rfl : j = ks.length := by omega
              rw [List.take_length] at hall
              have HALL2 := Lib.hid hall
              clear hall hbv
              go_wp2
              go_ret
              exact ⟨ret_bool (by symm; simp only [validB, Bool.and_eq_true, decide_eq_true_eq]; exact ⟨⟨⟨⟨⟨⟨h1, h2⟩, h3⟩, h4⟩, h5⟩, by rw [HF.out]; rfl⟩, List.all_eq_true.2 HALL2.out⟩), HB.out.trans (HBV.out.mono (Nat.le_of_lt hlt))⟩

end Go.Proofs.Ytnnlbbmimdohoaa
