/- The walks of layer 1: which logs are valid, all of it. -/
import Derived.Test.YticfcdbfplfmlaaPBX
namespace Go.Proofs.Yticfcdbfplfmlaa.Pe
open Go.RowKit Go.Maps
attribute [local go_sem] Oper.semAt_some

/-- The lengths fall from turn to turn. -/
def fallB : Int → List Int → Bool
  | _, [] => true
  | before, x :: xs => decide (1 ≤ x) && decide (x ≤ before) && fallB x xs
/-- Which logs are valid. -/
def validB (long : List Int) (sz : Int) (ks : List K4) : Bool :=
  decide (1 ≤ long.length) && decide (long.length ≤ 6) && decide (1 ≤ sz) && decide (sz ≤ 6) && decide (ks.length ≤ 3) && fallB 12 long && ks.all (kvalidB · long.length)

theorem fall_at {y : Int} {long : List Int} {j : Nat} (h : j < long.length) : fallB y (long.drop j) = (decide (1 ≤ at0 long j) && decide (at0 long j ≤ y) && fallB (at0 long j) (long.drop (j + 1))) := by
  rw [List.drop_eq_getElem_cons h, fallB, at0_lt h]
theorem not_fall {long : List Int} {sz : Int} {ks : List K4} (h : fallB 12 long = false) : false = validB long sz ks := by
  simp [validB, h]
theorem not_valid {long : List Int} {sz : Int} {ks : List K4} (h : ¬ (1 ≤ long.length ∧ long.length ≤ 6 ∧ 1 ≤ sz ∧ sz ≤ 6 ∧ ks.length ≤ 3)) : false = validB long sz ks := by
  cases hv : validB long sz ks
  · rfl
  · exfalso
    apply h
    simp only [validB, Bool.and_eq_true, decide_eq_true_eq] at hv
    obtain ⟨⟨⟨⟨⟨⟨h1, h2⟩, h3⟩, h4⟩, h5⟩, _⟩, _⟩ := hv
    exact ⟨h1, h2, h3, h4, h5⟩
theorem numAt0 (a b c : Int) (w : World) : (Instr.index 174 (.agg #[.int .i64 a, .int .i64 1, .int .i64 6, .int .i64 b, .int .i64 1, .int .i64 6, .int .i64 c, .int .i64 0, .int .i64 3]) (.int .i64 0)).run Try.prog w = .ok (.agg #[.int .i64 a, .int .i64 1, .int .i64 6]) w := by
  simp [Instr.index, go_sem]
theorem numAt1 (a b c : Int) (w : World) : (Instr.index 174 (.agg #[.int .i64 a, .int .i64 1, .int .i64 6, .int .i64 b, .int .i64 1, .int .i64 6, .int .i64 c, .int .i64 0, .int .i64 3]) (.int .i64 1)).run Try.prog w = .ok (.agg #[.int .i64 b, .int .i64 1, .int .i64 6]) w := by
  simp [Instr.index, go_sem]
theorem numAt2 (a b c : Int) (w : World) : (Instr.index 174 (.agg #[.int .i64 a, .int .i64 1, .int .i64 6, .int .i64 b, .int .i64 1, .int .i64 6, .int .i64 c, .int .i64 0, .int .i64 3]) (.int .i64 2)).run Try.prog w = .ok (.agg #[.int .i64 c, .int .i64 0, .int .i64 3]) w := by
  simp [Instr.index, go_sem]

set_option maxRecDepth 10000 in
set_option maxHeartbeats 800000 in
theorem valid_any (p1 : Option Addr) (c1 : Nat) (p2 : Option Addr) (c2 : Nat) (long : List Int) (sz : Int) (ks : List K4) (w : World) (hl : IntsAt w p1 long) (hks : KnotsAt w p2 ks) (hb1 : long.length < 2 ^ 62) (hb2 : ks.length < 2 ^ 62) :
    Calls Try.prog 73 #[.agg #[.slice p1 long.length c1, .int .i64 sz, .slice p2 ks.length c2]] w fun e w' => e = .returned (.bool (validB long sz ks)) ∧ Below w.heap.size w w' := by
  go_enter Try.func73, Try.ntmps73
  go_wp2_with fail
  go_loopw [24] (fun i wr => (i = .int .i64 0 ∨ (i = .int .i64 1 ∧ 1 ≤ long.length ∧ long.length ≤ 6) ∨ (i = .int .i64 2 ∧ 1 ≤ long.length ∧ long.length ≤ 6 ∧ 1 ≤ sz ∧ sz ≤ 6) ∨ (i = .int .i64 3 ∧ 1 ≤ long.length ∧ long.length ≤ 6 ∧ 1 ≤ sz ∧ sz ≤ 6 ∧ ks.length ≤ 3)) ∧ Row wr w.heap.size #[.slice p1 long.length c1, .int .i64 sz, .slice p2 ks.length c2] 25 ∧ Below w.heap.size w wr) (fun i _ => 3 - (intOf i).toNat)
  case atStart => exact ⟨.inl rfl, (Row.new _ _ _).alloc _, (below_alloc _ _).alloc (by simp) _⟩
  case round =>
    obtain ⟨hi, hr, hb⟩ := hrel
    have HR := Lib.hid hr
    have HB := Lib.hid hb
    have hlt := hr.lt
    clear hr hb
    rcases hi with rfl | ⟨rfl, h1, h2⟩ | ⟨rfl, h1, h2, h3, h4⟩ | ⟨rfl, h1, h2, h3, h4, h5⟩
    · go_wp2_with (first | (refine index_op rfl 174 _ _ rfl _ _ rfl rfl _ (numAt0 _ _ _ _) ?_))
      all_goals first
        | (go_ret; exact ⟨ret_bool (not_valid (by omega)), HB.out.alloc (by omega) _⟩)
        | exact ⟨⟨.inr (.inl ⟨rfl, by omega, by omega⟩), HR.out.alloc _, HB.out.alloc (by omega) _⟩, by simp [intOf]⟩
    · go_wp2_with (first | (refine index_op rfl 174 _ _ rfl _ _ rfl rfl _ (numAt1 _ _ _ _) ?_))
      all_goals first
        | (go_ret; exact ⟨ret_bool (not_valid (by omega)), HB.out.alloc (by omega) _⟩)
        | exact ⟨⟨.inr (.inr (.inl ⟨rfl, by omega, by omega, by omega, by omega⟩)), HR.out.alloc _, HB.out.alloc (by omega) _⟩, by simp [intOf]⟩
    · go_wp2_with (first | (refine index_op rfl 174 _ _ rfl _ _ rfl rfl _ (numAt2 _ _ _ _) ?_))
      all_goals first
        | (go_ret; exact ⟨ret_bool (not_valid (by omega)), HB.out.alloc (by omega) _⟩)
        | exact ⟨⟨.inr (.inr (.inr ⟨rfl, by omega, by omega, by omega, by omega, by omega⟩)), HR.out.alloc _, HB.out.alloc (by omega) _⟩, by simp [intOf]⟩
    · have hl' := hl.below HB.out
      have hks' := hks.below HB.out
      have HL := Lib.hid hl'
      have HK := Lib.hid hks'
      have c0 := HR.out.cell 0 (v := .slice p1 long.length c1) rfl
      have c2' := HR.out.cell 2 (v := .slice p2 ks.length c2) rfl
      clear hl hks hl' hks'
      go_wp2_with fail
      go_loopw [6, 43] (fun b i v => ∃ (j : Nat) (y : Int), j ≤ long.length ∧ i = .int .i64 j ∧ b = .int .i64 y ∧ fallB 12 long = fallB y (long.drop j) ∧ v = wr) (fun _ i _ => long.length - (intOf i).toNat)
      case atStart => exact ⟨0, 12, by omega, rfl, rfl, rfl, rfl⟩
      case round =>
        obtain ⟨j, y, hj, rfl, rfl, hf, rfl⟩ := hrel
        by_cases hjl : j < long.length
        · obtain ⟨b, o, rfl, hc⟩ := HL.out j hjl
          rw [fall_at hjl] at hf
          have HF := Lib.hid hf
          clear hf
          go_wp2
          all_goals first
            | (go_ret; exact ⟨ret_bool (not_fall (by rw [HF.out]; simp; intros; omega)), HB.out⟩)
            | exact ⟨⟨j + 1, _, by omega, by rw [show ((j + 1 : Nat) : Int) = (j : Int) + 1 by omega], rfl, by rw [HF.out, show decide (1 ≤ at0 long j) = true by simp; omega, show decide (at0 long j ≤ y) = true by simp; omega]; simp, trivial⟩, by simp [intOf]; omega⟩
        · obtain rfl : j = long.length := by omega
          rw [List.drop_length] at hf
          have HF := Lib.hid hf
          clear hf hj
          go_wp2
          go_loopw [59] (fun i v => ∃ j : Nat, j ≤ ks.length ∧ i = .int .i64 j ∧ (∀ x ∈ ks.take j, kvalidB x long.length = true) ∧ Below wr.heap.size wr v) (fun i _ => ks.length - (intOf i).toNat)
          case atStart => exact ⟨0, by omega, rfl, by simp, Below.refl _ _⟩
          case round =>
            obtain ⟨j, hj, rfl, hall, hbv⟩ := hrel
            have HALL := Lib.hid hall
            have HBV := Lib.hid hbv
            by_cases hjl : j < ks.length
            · obtain ⟨b, o, rfl, k0, k1, k2, k3⟩ := (HK.out.below hbv) j hjl
              clear hall hbv
              have c0'' := (HR.out.below HBV.out hlt).cell 0 (v := .slice p1 long.length c1) rfl
              have hltn := Nat.lt_of_lt_of_le hlt HBV.out.size
              cases hkv : kvalidB ks[j] long.length
              · have HKV := Lib.hid hkv
                clear hkv
                go_wp2_with (first | (refine (kvalid_any ks[j] _ _).mono ?_; rw [HKV.out]; rintro e w3 ⟨rfl, hb3⟩))
                go_ret
                exact ⟨ret_bool (by simp only [validB]; rw [show ks.all (kvalidB · long.length) = false by rw [List.all_eq_false]; exact ⟨ks[j], List.getElem_mem _, by simp [HKV.out]⟩]; simp), HB.out.trans ((HBV.out.mono (Nat.le_of_lt hlt)).trans (((below_alloc _ _).mono (Nat.le_of_lt hltn)).trans (hb3.mono (by simp; omega))))⟩
              · have HKV := Lib.hid hkv
                clear hkv
                go_wp2_with (first | (refine (kvalid_any ks[j] _ _).mono ?_; rw [HKV.out]; rintro e w3 ⟨rfl, hb3⟩))
                have hall2 : ∀ x ∈ ks.take (j + 1), kvalidB x long.length = true := by
                  intro x hx
                  rw [List.take_succ_eq_append_getElem hjl] at hx
                  rcases List.mem_append.1 hx with h | h
                  · exact HALL.out x h
                  · obtain rfl : x = ks[j] := by simpa using h
                    exact HKV.out
                exact ⟨⟨j + 1, by omega, by rw [show ((j + 1 : Nat) : Int) = (j : Int) + 1 by omega], hall2, HBV.out.trans (((below_alloc _ _).mono HBV.out.size).trans (hb3.mono (by have := HBV.out.size; simp; omega)))⟩, by simp [intOf]; omega⟩
            · obtain rfl : j = ks.length := by omega
              rw [List.take_length] at hall
              have HALL2 := Lib.hid hall
              clear hall hbv
              go_wp2
              go_ret
              exact ⟨ret_bool (by symm; simp only [validB, Bool.and_eq_true, decide_eq_true_eq]; exact ⟨⟨⟨⟨⟨⟨h1, h2⟩, h3⟩, h4⟩, h5⟩, by rw [HF.out]; rfl⟩, List.all_eq_true.2 HALL2.out⟩), HB.out.trans (HBV.out.mono (Nat.le_of_lt hlt))⟩

end Go.Proofs.Yticfcdbfplfmlaa.Pe
/- The walks of layer 1: what refuses a log. -/
namespace Go.Proofs.Yticfcdbfplfmlaa.Pe
open Go.RowKit Go.Maps
attribute [local go_sem] Oper.semAt_some

/-- The number that Check returns. -/
def checkE (long : List Int) (sz : Int) (ks : List K4) : Int := if validB long sz ks then 0 else 10

set_option maxRecDepth 10000 in
set_option maxHeartbeats 800000 in
theorem check_any (p1 : Option Addr) (c1 : Nat) (p2 : Option Addr) (c2 : Nat) (long : List Int) (sz : Int) (ks : List K4) (w : World) (hl : IntsAt w p1 long) (hks : KnotsAt w p2 ks) (hb1 : long.length < 2 ^ 62) (hb2 : ks.length < 2 ^ 62) :
    Calls Try.prog 19 #[.agg #[.slice p1 long.length c1, .int .i64 sz, .slice p2 ks.length c2]] w fun e w' => e = .returned (.int .i64 (checkE long sz ks)) ∧ Below w.heap.size w w' := by
  go_enter Try.func19, Try.ntmps19
  have hba := below_alloc w (.cells #[.slice p1 long.length c1, .int .i64 sz, .slice p2 ks.length c2] 25)
  have hv := valid_any p1 c1 p2 c2 long sz ks _ (hl.below hba) (hks.below hba) hb1 hb2
  have HV := Lib.hid hv
  clear hv hl hks
  cases hb : validB long sz ks
  · go_wp2_with (first | (refine HV.out.mono ?_; rw [hb]; rintro e w2 ⟨rfl, hb3⟩))
    go_ret
    exact ⟨by simp [checkE, hb], hba.trans (hb3.mono (by simp))⟩
  · go_wp2_with (first | (refine HV.out.mono ?_; rw [hb]; rintro e w2 ⟨rfl, hb3⟩))
    go_ret
    exact ⟨by simp [checkE, hb], hba.trans (hb3.mono (by simp))⟩

end Go.Proofs.Yticfcdbfplfmlaa.Pe
/- The walks of layer 1: how many columns a ribbon has. -/
namespace Go.Proofs.Yticfcdbfplfmlaa.Pe
open Go.RowKit Go.Maps
attribute [local go_sem] Oper.semAt_some

theorem field_op {P : Program} {ops : Array Oper} {Q : Exit → Act → World → Prop} {rest : List Oper} {op : Oper} {a : Act} {w : World} (hgd : op.guard = none) (ty : TypeId) (x : Operand) (k : Nat) (ho : op.op = .field ty x k) (v u : Value) (hx : a.eval x = v)
    (hr : (Instr.field ty v k).run P w = .ok u w) (h : wpList P ops Q rest (a.put op.dst u) w) : wpList P ops Q (op :: rest) a w :=
  wpList_plain hgd fun _ hK => by
    unfold Oper.wp execOp
    simp only [ho, hx, Sem.run_bind, Sem.run_pure, hr, Result.andThen_ok]
    exact hK _ _ h
theorem field_wide (R : Rib) (w : World) : (Instr.field 98 (.agg R.A) 1).run Try.prog w = .ok (.int .i64 R.wide) w := by
  simp [Instr.field, asAgg, go_sem, Rib.A]

set_option maxRecDepth 10000 in
set_option maxHeartbeats 800000 in
theorem ribbon_any (p1 : Option Addr) (c1 : Nat) (p2 : Option Addr) (c2 : Nat) (long : List Int) (sz : Int) (ks : List K4) (w : World) (hl : IntsAt w p1 long) (hks : KnotsAt w p2 ks) (hb1 : long.length < 2 ^ 62) (hb2 : ks.length < 2 ^ 62) (hok : validB long sz ks = true → LongOk long ∧ (∀ k ∈ ks, K4Ok k) ∧ ks.length ≤ 3) :
    Calls Try.prog 9 #[.agg #[.slice p1 long.length c1, .int .i64 sz, .slice p2 ks.length c2]] w fun e w' => e = .returned (if validB long sz ks then .tuple #[.int .i64 (ribTo p1 c1 p2 c2 long sz ks.length 0 long.length).wide, .int .i64 0] else .tuple #[.int .i64 0, .int .i64 10]) ∧ Below w.heap.size w w' := by
  go_enter Try.func9, Try.ntmps9
  have hba := below_alloc w (.cells #[.slice p1 long.length c1, .int .i64 sz, .slice p2 ks.length c2] 25)
  have r0 := Row.new w #[.slice p1 long.length c1, .int .i64 sz, .slice p2 ks.length c2] 25
  have HC := Lib.hid (check_any p1 c1 p2 c2 long sz ks _ (hl.below hba) (hks.below hba) hb1 hb2)
  have HL := Lib.hid (hl.below hba)
  have HK := Lib.hid (hks.below hba)
  clear hl hks
  cases hb : validB long sz ks
  · go_wp2_with (first | (refine HC.out.mono ?_; rw [checkE, hb]; rintro e w2 ⟨rfl, hb3⟩))
    go_ret2
    exact ⟨rfl, hba.trans (hb3.mono (by simp))⟩
  · obtain ⟨h1, h2, h3⟩ := hok hb
    go_wp2_with (first | (refine HC.out.mono ?_; rw [checkE, hb]; rintro e w2 ⟨rfl, hb3⟩; have r2 := Lib.hid (r0.below hb3 (by simp)); have k0 := r2.out.cell 0 (v := .slice p1 long.length c1) rfl; have k1 := r2.out.cell 1 (v := .int .i64 sz) rfl; have k2 := r2.out.cell 2 (v := .slice p2 ks.length c2) rfl) | (refine (unroll_any p1 c1 p2 c2 long sz ks _ h1 (HL.out.below hb3) (HK.out.below hb3) h2 h3).mono ?_; rintro e w3 ⟨mb, nn, f, rfl, _, _, hb4⟩) | (refine field_op rfl 98 _ _ rfl _ _ rfl (field_wide _ _) ?_))
    go_ret2
    exact ⟨rfl, (hba.trans (hb3.mono (by simp))).trans (hb4.mono (by have := hb3.size; simp at this; omega))⟩

end Go.Proofs.Yticfcdbfplfmlaa.Pe
/- Layer 1, in plain lists: what is known of a valid log; what the calls return of it. -/
namespace Go.Proofs.Yticfcdbfplfmlaa.Pe
open Go.RowKit

theorem fall_all : ∀ (long : List Int) (y : Int), fallB y long = true → ∀ t, t < long.length → 1 ≤ at0 long t ∧ at0 long t ≤ y
  | [], _, _, t, h => by simp at h
  | x :: xs, y, h, t, ht => by
    simp only [fallB, Bool.and_eq_true, decide_eq_true_eq] at h
    obtain ⟨⟨h1, h2⟩, h3⟩ := h
    cases t with
    | zero => exact ⟨by simpa [at0] using h1, by simpa [at0] using h2⟩
    | succ t =>
      have := fall_all xs x h3 t (by simpa using ht)
      have e : at0 (x :: xs) (t + 1) = at0 xs t := by simp [at0]
      rw [e]; omega

/-- What is known of a valid log. -/
structure LogOk (long : List Int) (sz : Int) (ks : List K4) : Prop where
  L : LongOk long
  s1 : 1 ≤ sz
  s6 : sz ≤ 6
  k3 : ks.length ≤ 3
  ok : ∀ k ∈ ks, K4Ok k
  fh : ∀ k ∈ ks, k.fh ≤ long.length
  aw : ∀ k ∈ ks, k.ah - k.al ≤ 3
  fw : ∀ k ∈ ks, k.fh - k.fl ≤ 1
  fall : fallB 12 long = true

theorem valid_ok {long : List Int} {sz : Int} {ks : List K4} (h : validB long sz ks = true) : LogOk long sz ks := by
  simp only [validB, Bool.and_eq_true, decide_eq_true_eq] at h
  obtain ⟨⟨⟨⟨⟨⟨h1, h2⟩, h3⟩, h4⟩, h5⟩, h6⟩, h7⟩ := h
  rw [List.all_eq_true] at h7
  have hf := fall_all long 12 h6
  have hk : ∀ k ∈ ks, 0 ≤ k.al ∧ k.al ≤ k.ah ∧ k.ah ≤ 23 ∧ 0 ≤ k.fl ∧ k.fl ≤ k.fh ∧ k.fh ≤ long.length ∧ k.ah - k.al ≤ 3 ∧ k.fh - k.fl ≤ 1 := by
    intro k hk
    have := h7 k hk
    have hw : wrap64 ((long.length : Int) + 1) = long.length + 1 := IntWalk.wrap64_in _ (by omega)
    simp only [kvalidB, showsB, narrowB, hw, Bool.and_eq_true, decide_eq_true_eq] at this
    obtain ⟨⟨⟨⟨⟨⟨a1, a2⟩, a3⟩, a4⟩, ⟨⟨b1, b2⟩, b3⟩, b4⟩, c1, c2⟩, d1, d2⟩ := this
    rw [IntWalk.wrap64_in _ (by omega)] at c2
    rw [IntWalk.wrap64_in _ (by omega)] at d2
    omega
  exact ⟨⟨h1, h2, fun t ht => (hf t ht).1, fun t ht => (hf t ht).2⟩, h3, h4, h5, fun k hm => (by have := hk k hm; exact ⟨by omega, by omega, by omega, by omega, by omega, by omega⟩), fun k hm => (by have := hk k hm; omega), fun k hm => (by have := hk k hm; omega), fun k hm => (by have := hk k hm; omega), h6⟩
theorem valid_hok {long : List Int} {sz : Int} {ks : List K4} (h : validB long sz ks = true) : LongOk long ∧ (∀ k ∈ ks, K4Ok k) ∧ ks.length ≤ 3 := ⟨(valid_ok h).L, (valid_ok h).ok, (valid_ok h).k3⟩

/-- The columns of a ribbon. -/
def wideN (long : List Int) : Nat := (psum long long.length).toNat
theorem wideN_eq {long : List Int} (h : LongOk long) : (wideN long : Int) = psum long long.length ∧ wideN long ≤ 72 ∧ 1 ≤ wideN long := by
  have := psum_range h long.length (by omega)
  have := h.n6
  have := h.n1
  unfold wideN
  omega
/-- A ribbon that lies nowhere. -/
def rb (long : List Int) : Rib := ribTo none 0 none 0 long 0 0 0 long.length
theorem trailTo_s {R R' : Rib} (h : R.s = R'.s) (long : List Int) (a : Int) (t : Nat) : ∀ j, trailTo R long a t j = trailTo R' long a t j
  | 0 => rfl
  | j + 1 => by rw [trailTo, trailTo, trailTo_s h long a t j, colOf, colOf, h]
theorem trailL_s {R R' : Rib} (h : R.s = R'.s) (long : List Int) (a : Int) (t : Nat) : trailL R long a t = trailL R' long a t := trailTo_s h _ _ _ _
theorem reachK_s {R R' : Rib} (h : R.s = R'.s) (long : List Int) : reachK R long = reachK R' long := by
  funext acc k
  unfold reachK
  congr 1
  funext c p
  rw [trailL_s h]
theorem reachL_s {R R' : Rib} (h : R.s = R'.s) (long : List Int) (ks : List K4) : reachL R long ks = reachL R' long ks := by
  unfold reachL
  rw [reachK_s h]
theorem truthsL_s {R R' : Rib} (h : R.s = R'.s) (long : List Int) : ∀ (ks : List K4) (kn : List Bool), truthsL R long ks kn = truthsL R' long ks kn
  | [], _ => rfl
  | k :: ks, kn => by
    rw [truthsL, truthsL]
    congr 1
    funext q
    rw [trailL_s h, truthsL_s h long ks]

/-- The columns of a knot at a place; those that some knots can have; those of each truth. -/
def trailD (long : List Int) (a : Int) (t : Nat) : List Bool := trailL (rb long) long a t
def reachD (long : List Int) (ks : List K4) : List Bool := reachL (rb long) long ks
def truthsD (long : List Int) (ks : List K4) : List (List Bool) := truthsL (rb long) long ks (List.replicate 72 false)
theorem reachD_length (long : List Int) (ks : List K4) : (reachD long ks).length = 72 := reachF_length _ _ _ _ (by simp)

section
variable {p1 : Option Addr} {c1 : Nat} {p2 : Option Addr} {c2 : Nat} {long : List Int} {sz : Int} {nk mb : Nat}
theorem trail_rib (a : Int) (t : Nat) : trailL (ribTo p1 c1 p2 c2 long sz nk mb long.length) long a t = trailD long a t := trailL_s (R := ribTo p1 c1 p2 c2 long sz nk mb long.length) (R' := rb long) rfl _ _ _
theorem reach_rib (ks : List K4) : reachL (ribTo p1 c1 p2 c2 long sz nk mb long.length) long ks = reachD long ks := reachL_s (R := ribTo p1 c1 p2 c2 long sz nk mb long.length) (R' := rb long) rfl _ _
theorem truths_rib (ks : List K4) : truthsOf (ribTo p1 c1 p2 c2 long sz nk mb long.length) long ks = truthsD long ks := truthsL_s (R := ribTo p1 c1 p2 c2 long sz nk mb long.length) (R' := rb long) rfl _ _ _
end

/-- The pieces that can be cut where some columns have a knot. -/
def wholesD (long : List Int) (sz : Int) (kn : List Bool) : List Bool := wholeL kn sz.toNat (psum long long.length)
def cutD (long : List Int) (sz : Int) (kn : List Bool) : List Int := cutL (wholesD long sz kn) sz.toNat (wideN long) 0
/-- The cutting that is returned. -/
def bestD (long : List Int) (sz : Int) (ks : List K4) : List Int := cutD long sz (reachD long ks)
/-- How many pieces, at the worst, if it is known where a knot is. -/
def worstD (long : List Int) (sz : Int) (ks : List K4) (k : Nat) : Int :=
  match ks[k]? with
  | none => 0
  | some x => (placesL x).foldl (fun m q => min m ((cutD long sz (orL (reachD long (ks.eraseIdx k)) (trailD long q.1 q.2.toNat))).length : Int)) (psum long long.length)
/-- The knot to ask for. -/
def askD (long : List Int) (sz : Int) (ks : List K4) : Int :=
  let l := (List.range ks.length).map (worstD long sz ks)
  indexL l (maxL (at0 l 0) l.tail)
/-- The most pieces in some truth. -/
def hopeD (long : List Int) (sz : Int) (ks : List K4) : Int := ((truthsD long ks).map fun kn => ((cutD long sz kn).length : Int)).foldl max 0
/-- Between which numbers the whole pieces of a cutting lie. -/
def loD (long : List Int) (sz : Int) (ks : List K4) (cut : List Int) : Int := (truthsD long ks).foldl (fun m kn => min m (countL (wholesD long sz kn) cut)) cut.length
def hiD (long : List Int) (sz : Int) (ks : List K4) (cut : List Int) : Int := (truthsD long ks).foldl (fun m kn => max m (countL (wholesD long sz kn) cut)) 0
/-- Has a column a knot? -/
def knotD (long : List Int) (ks : List K4) (c : Nat) : Int :=
  if (truthsD long ks).all (b0 · c) then 2 else if (truthsD long ks).any (b0 · c) then 1 else 0

/-- The chapter's log. -/
def exL : List Int := [10, 9, 8]
def exK : List K4 := [⟨5, 7, 1, 1⟩, ⟨20, 20, 0, 1⟩]
theorem ex_valid : validB exL 3 exK = true := by kernel_rfl
theorem ex_best : bestD exL 3 exK = [0, 3, 13, 22] := by kernel_rfl
theorem ex_hope : hopeD exL 3 exK = 7 := by kernel_rfl
theorem ex_ask : askD exL 3 exK = 0 := by kernel_rfl
theorem ex_knot : knotD exL exK 17 = 2 := by kernel_rfl
theorem ex_lo : loD exL 3 exK [0, 3, 6, 9] = 2 := by kernel_rfl
theorem ex_hi : hiD exL 3 exK [0, 3, 6, 9] = 4 := by kernel_rfl
theorem ex_sure : countL (wholesD exL 3 (reachD exL exK)) [0, 3, 6, 9] = 2 := by kernel_rfl
theorem ex_col : colOf (rb exL) exL 7 1 = 12 := by kernel_rfl
theorem ex_wide : psum exL exL.length = 27 := by kernel_rfl

end Go.Proofs.Yticfcdbfplfmlaa.Pe
/- Layer 1, in plain lists: cutting each piece as early as can be gives the most pieces, and the first such cutting. -/
namespace Go.Proofs.Yticfcdbfplfmlaa.Pe
open Go.RowKit

theorem cutOk_less {sz wide : Int} : ∀ {cut : List Int} {i j : Int}, j ≤ i → cutOk sz wide i cut = true → cutOk sz wide j cut = true
  | [], _, _, _, _ => by rw [cutOk]
  | f :: l, i, j, hj, h => by
    rw [cutOk] at h ⊢
    by_cases hc : f < i ∨ wide - sz < f
    · rw [if_pos hc] at h; cases h
    · rw [if_neg hc] at h
      rw [if_neg (by omega)]
      exact h
theorem cutOk_cons {sz wide i f : Int} {l : List Int} (h : cutOk sz wide i (f :: l) = true) : i ≤ f ∧ f + sz ≤ wide ∧ cutOk sz wide (f + sz) l = true := by
  rw [cutOk] at h
  by_cases hc : f < i ∨ wide - sz < f
  · rw [if_pos hc] at h; cases h
  · rw [if_neg hc] at h
    exact ⟨by omega, by omega, h⟩
theorem cutOk_mk {sz wide i f : Int} {l : List Int} (h1 : i ≤ f) (h2 : f + sz ≤ wide) (h : cutOk sz wide (f + sz) l = true) : cutOk sz wide i (f :: l) = true := by
  rw [cutOk, if_neg (by omega)]; exact h
theorem countL_nil (c : List Bool) : countL c [] = 0 := rfl
theorem countL_cons (c : List Bool) (f : Int) (l : List Int) : countL c (f :: l) = countL c l + if b0 c f.toNat then 1 else 0 := by
  unfold countL
  rw [List.countP_cons]
  split <;> simp_all

/-- No cutting has more pieces that are counted. -/
theorem greedy_most {c : List Bool} {sz wide : Nat} (h1 : 1 ≤ sz) : ∀ (n i : Nat) (cut : List Int), wide < n + i → cutOk sz wide i cut = true → countL c cut ≤ ((cutL c sz wide i).length : Int)
  | _, _, [], _, _ => by rw [countL_nil]; omega
  | 0, i, f :: l, hn, h => by
    obtain ⟨a, b, _⟩ := cutOk_cons h
    omega
  | n + 1, i, f :: l, hn, h => by
    obtain ⟨a, b, hl⟩ := cutOk_cons h
    have hi : i + sz ≤ wide := by omega
    cases hb : b0 c i
    · rw [cutL_no h1 hi hb]
      by_cases he : f = i
      · rw [countL_cons, he, Int.toNat_natCast, hb]
        have := greedy_most (c := c) h1 n (i + 1) l (by omega) (cutOk_less (by omega) hl)
        simpa using this
      · exact greedy_most h1 n (i + 1) (f :: l) (by omega) (cutOk_mk (by omega) b hl)
    · rw [cutL_yes h1 hi hb, countL_cons]
      have := greedy_most (c := c) h1 n (i + sz) l (by omega) (cutOk_less (by omega) hl)
      rw [List.length_cons]
      split <;> omega
/-- No cutting of as many pieces that all are counted comes before it. -/
theorem greedy_first {c : List Bool} {sz wide : Nat} (h1 : 1 ≤ sz) : ∀ (n i : Nat) (cut : List Int), wide < n + i → cutOk sz wide i cut = true → (∀ f ∈ cut, b0 c f.toNat = true) → earlier cut (cutL c sz wide i) = true → cut.length < (cutL c sz wide i).length
  | n, i, [], _, _, _, he => by
    cases hc : cutL c sz wide i with
    | nil => rw [hc] at he; cases he
    | cons => simp
  | 0, i, f :: l, hn, h, _, _ => by
    obtain ⟨a, b, _⟩ := cutOk_cons h
    omega
  | n + 1, i, f :: l, hn, h, hall, he => by
    obtain ⟨a, b, hl⟩ := cutOk_cons h
    have hi : i + sz ≤ wide := by omega
    have hf := hall f (by simp)
    cases hb : b0 c i
    · rw [cutL_no h1 hi hb] at he ⊢
      have hne : f ≠ i := fun e => by rw [e, Int.toNat_natCast, hb] at hf; cases hf
      exact greedy_first h1 n (i + 1) (f :: l) (by omega) (cutOk_mk (by omega) b hl) hall he
    · rw [cutL_yes h1 hi hb] at he ⊢
      rw [earlier] at he
      by_cases e : f = i
      · rw [if_pos e] at he
        have := greedy_first (c := c) h1 n (i + sz) l (by omega) (cutOk_less (by omega) hl) (fun x hx => hall x (by simp [hx])) he
        simpa using this
      · rw [if_neg e] at he
        simp at he
        omega
/-- It is a cutting, and all of its pieces are counted. -/
theorem greedy_ok {c : List Bool} {sz wide : Nat} (h1 : 1 ≤ sz) : ∀ (n i : Nat), wide < n + i → cutOk sz wide i (cutL c sz wide i) = true ∧ ∀ f ∈ cutL c sz wide i, b0 c f.toNat = true
  | 0, i, hn => by rw [cutL_end (by omega)]; exact ⟨by rw [cutOk], by simp⟩
  | n + 1, i, hn => by
    by_cases hi : i + sz ≤ wide
    · cases hb : b0 c i
      · rw [cutL_no h1 hi hb]
        obtain ⟨a, b⟩ := greedy_ok (c := c) (sz := sz) (wide := wide) h1 n (i + 1) (by omega)
        exact ⟨cutOk_less (i := ((i + 1 : Nat) : Int)) (by omega) a, b⟩
      · rw [cutL_yes h1 hi hb]
        obtain ⟨a, b⟩ := greedy_ok (c := c) (sz := sz) (wide := wide) h1 n (i + sz) (by omega)
        refine ⟨cutOk_mk (by omega) (by omega) (by simpa using a), ?_⟩
        intro f hf
        rcases List.mem_cons.1 hf with rfl | hf
        · simpa using hb
        · exact b f hf
    · rw [cutL_end hi]; exact ⟨by rw [cutOk], by simp⟩
theorem countL_all {c : List Bool} {cut : List Int} (h : ∀ f ∈ cut, b0 c f.toNat = true) : countL c cut = cut.length := by
  unfold countL
  congr 1
  rw [List.countP_eq_length]
  exact h
theorem countL_mono {c d : List Bool} {cut : List Int} (h : ∀ f ∈ cut, b0 c f.toNat = true → b0 d f.toNat = true) : countL c cut ≤ countL d cut := by
  unfold countL
  have := List.countP_mono_left (l := cut) (p := fun f => b0 c f.toNat) (q := fun f => b0 d f.toNat) h
  omega
theorem cutOk_range {sz wide : Int} : ∀ {cut : List Int} {i : Int}, 0 ≤ i → 0 ≤ sz → cutOk sz wide i cut = true → ∀ f ∈ cut, i ≤ f ∧ f + sz ≤ wide
  | [], _, _, _, _, _, h => by cases h
  | f :: l, i, hi, hs, h, x, hx => by
    obtain ⟨a, b, hl⟩ := cutOk_cons h
    rcases List.mem_cons.1 hx with rfl | hx
    · exact ⟨a, b⟩
    · have := cutOk_range (by omega) hs hl x hx
      omega
theorem cutOk_at {sz wide : Int} {cut : List Int} (h0 : 0 ≤ sz) (h : cutOk sz wide 0 cut = true) (hw : wide ≤ 72) (h1 : 1 ≤ sz) : ∀ k, k < cut.length → 0 ≤ at0 cut k ∧ at0 cut k < 72 := by
  intro k hk
  have := cutOk_range (Int.le_refl 0) h0 h (at0 cut k) (by rw [at0_lt hk]; exact List.getElem_mem _)
  omega
/-- Smaller pieces, and more that are counted: no fewer pieces. -/
theorem cutOk_size {sz sz' wide : Int} (h : sz' ≤ sz) : ∀ {cut : List Int} {i : Int}, cutOk sz wide i cut = true → cutOk sz' wide i cut = true
  | [], _, _ => by rw [cutOk]
  | f :: l, i, hc => by
    obtain ⟨a, b, hl⟩ := cutOk_cons hc
    exact cutOk_mk a (by omega) (cutOk_less (by omega) (cutOk_size h hl))
theorem greedy_mono {c d : List Bool} {sz sz' wide : Nat} (h1 : 1 ≤ sz') (hs : sz' ≤ sz) (h : ∀ i, b0 c i = true → b0 d i = true) : (cutL c sz wide 0).length ≤ (cutL d sz' wide 0).length := by
  obtain ⟨a, b⟩ := greedy_ok (c := c) (sz := sz) (wide := wide) (by omega) (wide + 1) 0 (by omega)
  have hm := greedy_most (c := d) (sz := sz') (wide := wide) h1 (wide + 1) 0 (cutL c sz wide 0) (by omega) (cutOk_size (by omega) a)
  rw [countL_all (fun f hf => h _ (b f hf))] at hm
  omega

end Go.Proofs.Yticfcdbfplfmlaa.Pe
/- The walks of layer 1: the ribbon of a valid log, with what it lies on; what is asked of a cutting. -/
namespace Go.Proofs.Yticfcdbfplfmlaa.Pe
open Go.RowKit Go.Maps
attribute [local go_sem] Oper.semAt_some

/-- A log lies in memory. -/
structure LogAt (w : World) (p1 p2 : Option Addr) (long : List Int) (ks : List K4) : Prop where
  l : IntsAt w p1 long
  k : KnotsAt w p2 ks
  b1 : long.length < 2 ^ 62
  b2 : ks.length < 2 ^ 62
theorem LogAt.below {w w' : World} {p1 p2 : Option Addr} {long : List Int} {ks : List K4} (h : LogAt w p1 p2 long ks) (hb : Below w.heap.size w w') : LogAt w' p1 p2 long ks := ⟨h.l.below hb, h.k.below hb, h.b1, h.b2⟩

/-- The ribbon of a log. -/
structure RibOf (R : Rib) (p1 : Option Addr) (c1 : Nat) (p2 : Option Addr) (c2 : Nat) (long : List Int) (sz : Int) (ks : List K4) : Prop where
  p1 : R.p1 = p1
  c1 : R.c1 = c1
  p2 : R.p2 = p2
  n2 : R.n2 = ks.length
  c2 : R.c2 = c2
  sz : R.sz = sz
  s : R.s = (rb long).s
  wide : R.wide = psum long long.length
  ok : RibOk R long
/-- What the ribbon lies on: its map, its knots, its turns. -/
structure RibAt (w : World) (R : Rib) (long : List Int) (ks : List K4) (mb nn : Nat) (f : Int → Int → Option (List Bool)) : Prop where
  e : R.mb = some mb
  m : MapIs w mb nn f
  t : Trails R long ks f
  k : KnotsAt w R.p2 ks
  l : IntsAt w R.p1 long
theorem RibAt.below {w w' : World} {R : Rib} {long : List Int} {ks : List K4} {mb nn : Nat} {f : Int → Int → Option (List Bool)} (h : RibAt w R long ks mb nn f) (hb : Below w.heap.size w w') : RibAt w' R long ks mb nn f :=
  ⟨h.e, h.m.of_same (hb.block _ h.m.lt), h.t, h.k.below hb, h.l.below hb⟩

theorem unroll_of (p1 : Option Addr) (c1 : Nat) (p2 : Option Addr) (c2 : Nat) (long : List Int) (sz : Int) (ks : List K4) (w : World) (h : LogAt w p1 p2 long ks) (hv : LogOk long sz ks) :
    Calls Try.prog 59 #[.agg #[.slice p1 long.length c1, .int .i64 sz, .slice p2 ks.length c2]] w fun e w' => ∃ R mb nn f, e = .returned (.agg R.A) ∧ RibOf R p1 c1 p2 c2 long sz ks ∧ RibAt w' R long ks mb nn f ∧ Below w.heap.size w w' := by
  refine (unroll_any p1 c1 p2 c2 long sz ks w hv.L h.l h.k hv.ok hv.k3).mono ?_
  rintro e w' ⟨mb, nn, f, rfl, hm, ht, hb⟩
  exact ⟨_, mb, nn, f, rfl, ⟨rfl, rfl, rfl, rfl, rfl, rfl, rfl, rfl, rib_ok hv.L⟩, ⟨rfl, hm, ht, h.k.below hb, h.l.below hb⟩, hb⟩

theorem reach_of {R : Rib} {p1 : Option Addr} {c1 : Nat} {p2 : Option Addr} {c2 : Nat} {long : List Int} {sz : Int} {ks : List K4} {mb nn : Nat} {f : Int → Int → Option (List Bool)} (hR : RibOf R p1 c1 p2 c2 long sz ks) (hv : LogOk long sz ks) (w : World) (hA : RibAt w R long ks mb nn f) :
    Calls Try.prog 66 #[.agg R.A, .slice p2 ks.length c2] w fun e w' => e = .returned (cols (reachD long ks)) ∧ Below w.heap.size w w' := by
  have h := reach_any R long hR.ok.s6 p2 c2 ks w (by have := hA.k; rw [hR.p2] at this; exact this) hv.ok hv.k3 mb nn f hA.e hA.m hA.t
  rw [reachL_s (R' := rb long) hR.s] at h
  exact h

theorem alloc_setRow (w : World) (old cs : Array Value) (t : TypeId) : (w.alloc (.cells old t)).setRow w.heap.size cs = w.alloc (.cells cs t) := by
  have e : (w.heap.push (Obj.cells old t)).modify w.heap.size (fun x => match x with | Obj.cells c elem frozen => Obj.cells cs elem frozen | o => o) = w.heap.push (Obj.cells cs t) := by
    apply Array.ext
    · simp
    · intro i h1 h2
      rw [Array.getElem_modify]
      simp only [Array.size_push] at h2
      by_cases hi : i = w.heap.size
      · subst hi; simp
      · rw [if_neg (Ne.symm hi), Array.getElem_push_lt (by omega), Array.getElem_push_lt (by omega)]
  show ({ heap := _, tape := w.tape, drawn := w.drawn, os := w.os, output := w.output } : World) = { heap := _, tape := w.tape, drawn := w.drawn, os := w.os, output := w.output }
  congr 1
/-- A new variable gets its value. -/
theorem store_new {P : Program} {ops : Array Oper} {rest : List Oper} {op : Oper} {a : Act} {w : World} {Q : Exit → Act → World → Prop} (hgd : op.guard = none) (ty : TypeId) (x y : Operand) (ho : op.op = .store ty x y)
    (cs old : Array Value) (t : TypeId) (hx : a.eval x = .pointer (some ⟨w.heap.size, 0, none⟩)) (hy : a.eval y = .agg cs)
    (hi : (P.info? ty).map (·.size) = some cs.size) (hold : old.size = cs.size) (h1 : cs.all (·.oneCell') = true)
    (h : wpList P ops Q rest (a.put op.dst undef) (w.alloc (.cells cs t))) : wpList P ops Q (op :: rest) a (w.alloc (.cells old t)) :=
  store_row hgd ty x y ho w.heap.size cs old t hx hy (Row.new _ _ _) hi hold h1 (by rw [alloc_setRow]; exact h)

theorem isCut_of {R : Rib} {p1 : Option Addr} {c1 : Nat} {p2 : Option Addr} {c2 : Nat} {long : List Int} {sz : Int} {ks : List K4} (hR : RibOf R p1 c1 p2 c2 long sz ks) (hv : LogOk long sz ks) (p : Option Addr) (c : Nat) (cut : List Int) (w : World) (hn : cut.length ≤ maxLen) (hc : IntsAt w p cut) :
    Calls Try.prog 63 #[.agg R.A, .slice p cut.length c] w fun e w' => e = .returned (.bool (cutOk sz (psum long long.length) 0 cut)) ∧ Below w.heap.size w w' := by
  have hw := wideN_eq hv.L
  have h := isCut_any R (by rw [hR.wide]; omega) (by rw [hR.wide]; omega) (by rw [hR.sz]; exact hv.s1) (by rw [hR.sz]; exact hv.s6) p c cut w hn hc
  rw [hR.sz, hR.wide] at h
  exact h

theorem RibAt.drew {w : World} {R : Rib} {long : List Int} {ks : List K4} {mb nn : Nat} {f : Int → Int → Option (List Bool)} (h : RibAt w R long ks mb nn f) : RibAt w.drew R long ks mb nn f := ⟨h.e, h.m, h.t, h.k, h.l⟩
theorem wholesD_length (long : List Int) (sz : Int) (kn : List Bool) : (wholesD long sz kn).length = 72 := wholeL_length _ _ _
section
variable {R : Rib} {p1 : Option Addr} {c1 : Nat} {p2 : Option Addr} {c2 : Nat} {long : List Int} {sz : Int} {ks : List K4}
theorem knife_of (hR : RibOf R p1 c1 p2 c2 long sz ks) (hv : LogOk long sz ks) (kn : List Bool) (hk : kn.length = 72) (w : World) :
    Calls Try.prog 65 #[.agg R.A, cols kn] w fun e w' => e = .returned (knifeV (wideN long) sz.toNat (wholesD long sz kn)) ∧ Below w.heap.size w w' := by
  have hw := wideN_eq hv.L
  have h1 := hv.s1
  have h6 := hv.s6
  have h := knife_any R sz.toNat hR.ok.s6 (by rw [hR.sz]; omega) (by omega) (by omega) (by rw [hR.wide]; omega) (by rw [hR.wide]; omega) kn hk w
  rw [hR.wide] at h
  rw [hw.1]
  exact h
theorem cut_of (hv : LogOk long sz ks) (c : List Bool) (hc : c.length = 72) (w : World) :
    Calls Try.prog 69 #[knifeV (wideN long) sz.toNat c] w (GaveInts (cutL c sz.toNat (wideN long) 0) w) := by
  have hw := wideN_eq hv.L
  have h1 := hv.s1
  have h6 := hv.s6
  exact cut_any _ _ (by omega) (by omega) hw.2.1 c hc w
theorem pieces_of (hR : RibOf R p1 c1 p2 c2 long sz ks) (hv : LogOk long sz ks) (kn : List Bool) (hk : kn.length = 72) (w : World) :
    Calls Try.prog 70 #[.agg R.A, cols kn] w fun e w' => e = .returned (.int .i64 ((cutD long sz kn).length : Nat)) ∧ Below w.heap.size w w' := by
  have hw := wideN_eq hv.L
  have h1 := hv.s1
  have h6 := hv.s6
  have h := pieces_any R sz.toNat (wideN long) hR.ok.s6 (by rw [hR.sz]; omega) (by omega) (by omega) (by rw [hR.wide]; omega) hw.2.1 kn hk w
  rw [hR.wide] at h
  exact h
theorem cutD_short (hv : LogOk long sz ks) (kn : List Bool) : ((cutD long sz kn).length : Int) ≤ 72 := by
  have hw := wideN_eq hv.L
  have h1 := hv.s1
  have := cutL_length (c := wholesD long sz kn) (sz := sz.toNat) (wide := wideN long) (by omega) (wideN long + 1) 0 (by omega)
  unfold cutD
  omega
theorem count_of (hv : LogOk long sz ks) (c : List Bool) (hc : c.length = 72) (p : Option Addr) (cc : Nat) (cut : List Int) (w : World) (hn : cut.length ≤ maxLen) (hi : IntsAt w p cut) (hcut : cutOk sz (psum long long.length) 0 cut = true) :
    Calls Try.prog 67 #[knifeV (wideN long) sz.toNat c, .slice p cut.length cc] w fun e w' => e = .returned (.int .i64 (countL c cut)) ∧ Below w.heap.size w w' := by
  have hw := wideN_eq hv.L
  have h1 := hv.s1
  exact count_any _ _ c hc p cc cut w hn hi (cutOk_at (by omega) hcut (by omega) h1)
end
theorem MapIs.ne {w : World} {mb n : Nat} {f : Int → Int → Option (List Bool)} {b : Nat} {cs : Array Value} {t : TypeId} (h : MapIs w mb n f) (hr : Row w b cs t) : mb ≠ b := by
  intro e
  subst e
  obtain ⟨D, ⟨es, clock, hb, _⟩, _⟩ := h
  unfold Row at hr
  rw [hb] at hr
  cases hr

/-- The same in a round. -/
theorem store_newIn {F : Fence} {n : Nat} {P : Program} {ops : Array Oper} {rest : List Oper} {op : Oper} {a : Act} {w : World} {Q : Exit → Act → World → Prop} (hgd : op.guard = none) (ty : TypeId) (x y : Operand) (ho : op.op = .store ty x y)
    (cs old : Array Value) (t : TypeId) (hx : a.eval x = .pointer (some ⟨w.heap.size, 0, none⟩)) (hy : a.eval y = .agg cs)
    (hi : (P.info? ty).map (·.size) = some cs.size) (hold : old.size = cs.size) (h1 : cs.all (·.oneCell') = true)
    (h : wpListIn F n P ops Q rest (a.put op.dst undef) (w.alloc (.cells cs t))) : wpListIn F n P ops Q (op :: rest) a (w.alloc (.cells old t)) :=
  wpListIn_plain hgd fun K hK => by
    refine ⟨fun f hf => by simp [Oper.about, ho] at hf, ?_⟩
    rw [Oper.semAt_eq _ _ _ (by intro c hc; rw [ho] at hc; cases hc)]
    unfold execOp
    simp only [ho, hx, hy, Instr.storeAt, Instr.sureAddr, Sem.run_bind, Sem.run_pure, Result.andThen_ok, run_storeVar_row (w.alloc (.cells old t)) w.heap.size t ty old cs (Row.new _ _ _) hi hold h1]
    rw [alloc_setRow]
    exact hK _ _ h

theorem truthsL_length (R : Rib) (long : List Int) : ∀ (ks : List K4) (acc : List Bool), acc.length = 72 → ∀ kn ∈ truthsL R long ks acc, kn.length = 72
  | [], acc, h, kn, hm => by rw [truthsL, List.mem_singleton] at hm; rw [hm]; exact h
  | k :: ks, acc, h, kn, hm => by
    rw [truthsL, List.mem_flatMap] at hm
    obtain ⟨q, _, hq⟩ := hm
    exact truthsL_length R long ks _ (orL_length h (trailL_length _ _ _ _)) kn hq
theorem truths_of {R : Rib} {p1 : Option Addr} {c1 : Nat} {p2 : Option Addr} {c2 : Nat} {long : List Int} {sz : Int} {ks : List K4} {mb nn : Nat} {f : Int → Int → Option (List Bool)} (hR : RibOf R p1 c1 p2 c2 long sz ks) (hv : LogOk long sz ks) (b : Nat) (W : World) (hr : Row W b R.A 98) (hA : RibAt W R long ks mb nn f) :
    IterAt Try.prog 113 #[.pointer (some ⟨b, 0, none⟩)] (readsR R ks b mb) ((truthsD long ks).map fun c => #[cols c]) W := by
  have h := truths1_iter R long ks hR.ok.s6 hR.n2 hv.k3 hv.ok b mb nn f hA.e hA.t W hr hA.m hA.k
  rw [show truthsOf R long ks = truthsD long ks from truthsL_s hR.s long ks _] at h
  exact h
theorem truthsD_length {long : List Int} {ks : List K4} {kn : List Bool} (h : kn ∈ truthsD long ks) : kn.length = 72 := truthsL_length _ _ _ _ (by simp) kn h
/-- What the rounds read is none of the caller's new variables. -/
theorem not_reads {R : Rib} {long : List Int} {ks : List K4} {mb nn : Nat} {f : Int → Int → Option (List Bool)} {w w0 : World} {b m : Nat} {cs : Array Value} {t : TypeId} (hA : RibAt w R long ks mb nn f) (hr : Row w m cs t) (hb : m ≠ b) (hk : KnotsAt w0 R.p2 ks) (hm : w0.heap.size ≤ m) : ¬ readsR R ks b mb m := by
  rintro (e | e | ⟨hne, o, e⟩)
  · exact hb e
  · exact hA.m.ne hr e.symm
  · obtain ⟨b', o', hp, h0, _⟩ := hk 0 (List.length_pos_iff.2 hne)
    rw [e] at hp
    cases hp
    have := cell_block h0
    dsimp only at this
    omega

theorem not_reads_new {R : Rib} {long : List Int} {ks : List K4} {mb nn : Nat} {f : Int → Int → Option (List Bool)} {w : World} {b m : Nat} {cs : Array Value} {t : TypeId} (hA : RibAt w R long ks mb nn f) (hr : Row w b cs t) (hm : w.heap.size ≤ m) : ¬ readsR R ks b mb m := by
  have h1 := hA.m.lt
  have h2 := hr.lt
  rintro (e | e | ⟨hne, o, e⟩)
  · omega
  · omega
  · obtain ⟨b', o', hp, h0, _⟩ := hA.k 0 (List.length_pos_iff.2 hne)
    rw [e] at hp
    cases hp
    have := cell_block h0
    dsimp only at this
    omega
theorem map_at {l : List (List Bool)} {j : Nat} {x : Array Value} (h : (l.map fun c => #[cols c])[j]? = some x) : ∃ kn, l[j]? = some kn ∧ x = #[cols kn] := by
  rw [List.getElem?_map] at h
  cases hq : l[j]? with
  | none => rw [hq] at h; cases h
  | some q => rw [hq] at h; cases h; exact ⟨q, rfl, rfl⟩

theorem results_cell_two {P : Program} {fn : Func} {p q : Tmp} {ty : TypeId} (h : fn.results = #[.cell p ty, .tmp q]) (tmps : Array Value) (w : World) (g : Nat) (t : TypeId) (cs : Array Value) (fr : Nat × Nat) (d : TypeDesc) (v2 : Value)
    (hp : tmps.getD p undef = .pointer (some ⟨g, 0, none⟩)) (hq : tmps.getD q undef = v2) (hg : w.heap[g]? = some (.cells cs t fr))
    (hu : P.underlying ty = some d) (hd : (match d with | .struct _ | .array _ _ => true | _ => false) = true) (hi : (P.info? ty).map (·.size) = some cs.size) :
    (results fn tmps).run P w = .ok (.tuple #[.agg cs, v2]) w := by
  have hp' : tmps[p]?.getD undef = .pointer (some ⟨g, 0, none⟩) := by simpa using hp
  have hq' : tmps[q]?.getD undef = v2 := by simpa using hq
  simp [results, h, hp', hq', asAddr, run_loadVar_row w g t ty cs fr d hg hu hd hi]

abbrev zero76 : Array Value := #[.slice none 0 0, .int .i64 0, .slice none 0 0, .int .i64 0, .int .i64 0, .int .i64 0, .int .i64 0, .int .i64 0, .int .i64 0, .int .i64 0, .map none]
theorem zero76_size : (Try.prog.info? 98).map (·.size) = some zero76.size := by kernel_rfl
theorem zero76_one : zero76.all (·.oneCell') = true := by kernel_rfl

set_option maxRecDepth 10000 in
set_option maxHeartbeats 800000 in
theorem ask_bad (p1 : Option Addr) (c1 : Nat) (p2 : Option Addr) (c2 : Nat) (long : List Int) (sz : Int) (ks : List K4) (w : World) (h : LogAt w p1 p2 long ks) (hv : validB long sz ks = false) (pc : Option Addr) (nc cc : Nat) :
    Calls Try.prog 64 #[.agg #[.slice p1 long.length c1, .int .i64 sz, .slice p2 ks.length c2], .slice pc nc cc] w fun e w' => e = .returned (.tuple #[.agg zero76, .int .i64 10]) ∧ Below w.heap.size w w' := by
  go_enter Try.func64, Try.ntmps64
  have hba := (below_alloc w (.cells #[.slice p1 long.length c1, .int .i64 sz, .slice p2 ks.length c2] 25)).alloc (Nat.le_of_lt (by simp)) (.cells zero76 98)
  have r1 : Row _ (w.heap.size + 1) zero76 98 := Row.new' (w := w.alloc (.cells #[.slice p1 long.length c1, .int .i64 sz, .slice p2 ks.length c2] 25)) (by simp) _ _
  have HC := Lib.hid (check_any p1 c1 p2 c2 long sz ks _ (h.l.below hba) (h.k.below hba) h.b1 h.b2)
  clear h
  go_wp2_with (first | (refine HC.out.mono ?_; rw [checkE, hv]; rintro e w2 ⟨rfl, hb3⟩; have R1 := Lib.hid (r1.below hb3 (by simp)); have HB := Lib.hid (hba.trans (hb3.mono (by simp; omega))); clear hb3 hba r1) | (refine store_row rfl 98 _ _ rfl _ zero76 zero76 98 rfl rfl R1.out zero76_size rfl zero76_one ?_))
  have hr2 := R1.out.setRow zero76
  exact bodyPost_ret (v := .tuple #[.agg zero76, .int .i64 10]) (results_cell_two Try.results64 _ _ _ _ _ _ _ _ rfl rfl hr2 Try.underlying98 rfl zero76_size) rfl ⟨rfl, below_setRow HB.out (by omega) _⟩

set_option maxRecDepth 10000 in
set_option maxHeartbeats 800000 in
theorem ask_good (p1 : Option Addr) (c1 : Nat) (p2 : Option Addr) (c2 : Nat) (long : List Int) (sz : Int) (ks : List K4) (w : World) (h : LogAt w p1 p2 long ks) (hv : validB long sz ks = true) (pc : Option Addr) (cut : List Int) (cc : Nat) (hc : IntsAt w pc cut) (hn : cut.length ≤ maxLen) :
    Calls Try.prog 64 #[.agg #[.slice p1 long.length c1, .int .i64 sz, .slice p2 ks.length c2], .slice pc cut.length cc] w fun e w' => Below w.heap.size w w' ∧
      ((cutOk sz (psum long long.length) 0 cut = false ∧ e = .returned (.tuple #[.agg zero76, .int .i64 11])) ∨
        (cutOk sz (psum long long.length) 0 cut = true ∧ ∃ R mb nn f, e = .returned (.tuple #[.agg R.A, .int .i64 0]) ∧ RibOf R p1 c1 p2 c2 long sz ks ∧ RibAt w' R long ks mb nn f)) := by
  have hok := valid_ok hv
  go_enter Try.func64, Try.ntmps64
  have hba := (below_alloc w (.cells #[.slice p1 long.length c1, .int .i64 sz, .slice p2 ks.length c2] 25)).alloc (Nat.le_of_lt (by simp)) (.cells zero76 98)
  have r0 : Row _ w.heap.size #[.slice p1 long.length c1, .int .i64 sz, .slice p2 ks.length c2] 25 := (Row.new w _ _).alloc (.cells zero76 98)
  have r1 : Row _ (w.heap.size + 1) zero76 98 := Row.new' (w := w.alloc (.cells #[.slice p1 long.length c1, .int .i64 sz, .slice p2 ks.length c2] 25)) (by simp) _ _
  have HC := Lib.hid (check_any p1 c1 p2 c2 long sz ks _ (h.l.below hba) (h.k.below hba) h.b1 h.b2)
  have HH := Lib.hid h
  have HI := Lib.hid hc
  clear h hc
  go_wp2_with (first | (refine HC.out.mono ?_; rw [checkE, hv]; rintro e w2 ⟨rfl, hb3⟩; have R0 := Lib.hid (r0.below hb3 (by simp; omega)); have R1 := Lib.hid (r1.below hb3 (by simp)); have HB := Lib.hid (hba.trans (hb3.mono (by simp; omega))); clear hb3 hba r1 r0; have k0 := R0.out.cell 0 (v := .slice p1 long.length c1) rfl; have k1 := R0.out.cell 1 (v := .int .i64 sz) rfl; have k2 := R0.out.cell 2 (v := .slice p2 ks.length c2) rfl; have hz := R1.out.lt) | (refine (unroll_of p1 c1 p2 c2 long sz ks _ (HH.out.below HB.out) hok).mono ?_; rintro e w3 ⟨R, mb, nn, f, rfl, hR, hA, hb4⟩) | (refine store_new rfl 98 _ _ rfl R.A zero76 98 rfl rfl (size76 hR.ok.s6) (by rw [R.size hR.ok.s6]; rfl) R.one ?_) | (refine load_row rfl 98 _ rfl _ rfl 98 _ _ (Row.new _ _ _) Try.underlying98 rfl (size76 hR.ok.s6) ?_))
  have hb5 := ((HB.out.trans (hb4.mono (by omega))).trans ((below_alloc w3 (.cells R.A 98)).mono (by have := hb4.size; omega)))
  have hR1 := (R1.out.below hb4 hz).alloc (.cells R.A 98)
  refine (isCut_of hR hok _ _ _ _ hn ((HI.out.below (HB.out.trans (hb4.mono (by omega)))).below (below_alloc _ _))).mono ?_
  rintro e w4 ⟨rfl, hb6⟩
  have HB := Lib.hid (hb5.trans (hb6.mono (by have := hb4.size; simp; omega)))
  have R1 := Lib.hid (hR1.below hb6 (by have := hb4.size; simp; omega))
  have hRr : Row w4 w3.heap.size R.A 98 := (Row.new _ _ _).below hb6 (by simp)
  have HA := Lib.hid ((hA.below (below_alloc w3 (.cells R.A 98))).below hb6)
  have HR := Lib.hid hRr
  clear hb5 hR1 hb6 hRr k0 k1 k2 hA HC
  cases hcut : cutOk sz (psum long long.length) 0 cut
  · have HCUT := Lib.hid hcut
    clear hcut
    go_wp2_with (first | (refine store_row rfl 98 _ _ rfl _ zero76 zero76 98 rfl rfl R1.out zero76_size rfl zero76_one ?_))
    have hr2 := R1.out.setRow zero76
    exact bodyPost_ret (v := .tuple #[.agg zero76, .int .i64 11]) (results_cell_two Try.results64 _ _ _ _ _ _ _ _ rfl rfl hr2 Try.underlying98 rfl zero76_size) rfl ⟨below_setRow HB.out (by omega) _, .inl ⟨by assumption, rfl⟩⟩
  · have HCUT := Lib.hid hcut
    clear hcut
    go_wp2_with (first | (refine load_row rfl 98 _ rfl _ rfl 98 _ _ HR.out Try.underlying98 rfl (size76 hR.ok.s6) ?_) | (refine store_row rfl 98 _ _ rfl _ R.A zero76 98 rfl rfl R1.out (size76 hR.ok.s6) (by rw [R.size hR.ok.s6]; rfl) R.one ?_))
    have hr2 := R1.out.setRow R.A
    refine bodyPost_ret (v := .tuple #[.agg R.A, .int .i64 0]) (results_cell_two Try.results64 _ _ _ _ _ _ _ _ rfl rfl hr2 Try.underlying98 rfl (size76 hR.ok.s6)) rfl ⟨below_setRow HB.out (by omega) _, .inr ⟨by assumption, R, mb, nn, f, rfl, hR, ?_⟩⟩
    have hbb := below_setRow HB.out (show w.heap.size ≤ w.heap.size + 1 by omega) R.A
    exact ⟨HA.out.e, HA.out.m.of_same (_root_.Go.setRow_other _ _ _ _ (HA.out.m.ne R1.out)), HA.out.t, by rw [hR.p2]; exact HH.out.k.below hbb, by rw [hR.p1]; exact HH.out.l.below hbb⟩

theorem ask_no (p1 : Option Addr) (c1 : Nat) (p2 : Option Addr) (c2 : Nat) (long : List Int) (sz : Int) (ks : List K4) (w : World) (h : LogAt w p1 p2 long ks) (hv : validB long sz ks = true) (pc : Option Addr) (cut : List Int) (cc : Nat) (hc : IntsAt w pc cut) (hn : cut.length ≤ maxLen) (hcut : cutOk sz (psum long long.length) 0 cut = false) :
    Calls Try.prog 64 #[.agg #[.slice p1 long.length c1, .int .i64 sz, .slice p2 ks.length c2], .slice pc cut.length cc] w fun e w' => e = .returned (.tuple #[.agg zero76, .int .i64 11]) ∧ Below w.heap.size w w' := by
  refine (ask_good p1 c1 p2 c2 long sz ks w h hv pc cut cc hc hn).mono ?_
  rintro e w' ⟨hb, (⟨_, h⟩ | ⟨h, _⟩)⟩
  · exact ⟨h, hb⟩
  · rw [hcut] at h; cases h
theorem ask_yes (p1 : Option Addr) (c1 : Nat) (p2 : Option Addr) (c2 : Nat) (long : List Int) (sz : Int) (ks : List K4) (w : World) (h : LogAt w p1 p2 long ks) (hv : validB long sz ks = true) (pc : Option Addr) (cut : List Int) (cc : Nat) (hc : IntsAt w pc cut) (hn : cut.length ≤ maxLen) (hcut : cutOk sz (psum long long.length) 0 cut = true) :
    Calls Try.prog 64 #[.agg #[.slice p1 long.length c1, .int .i64 sz, .slice p2 ks.length c2], .slice pc cut.length cc] w fun e w' => ∃ R mb nn f, e = .returned (.tuple #[.agg R.A, .int .i64 0]) ∧ RibOf R p1 c1 p2 c2 long sz ks ∧ RibAt w' R long ks mb nn f ∧ Below w.heap.size w w' := by
  refine (ask_good p1 c1 p2 c2 long sz ks w h hv pc cut cc hc hn).mono ?_
  rintro e w' ⟨hb, (⟨h, _⟩ | ⟨h, R, mb, nn, f, he, hR, hA⟩)⟩
  · rw [hcut] at h; cases h
  · exact ⟨R, mb, nn, f, he, hR, hA, hb⟩

end Go.Proofs.Yticfcdbfplfmlaa.Pe
