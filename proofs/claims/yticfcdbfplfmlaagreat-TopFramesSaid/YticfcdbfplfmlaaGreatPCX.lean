/- The walks of layer 1: which logs are valid, all of it. -/
import Derived.Test.YticfcdbfplfmlaaGreatPBX
import Derived.ArgAppend
import Derived.Deep.Upon
namespace Go.Proofs.YticfcdbfplfmlaaGreat.Pe
open Go.RowKit Go.Maps
attribute [local go_sem] Oper.semAt_some

/-- The lengths fall from turn to turn. -/
def fallB : Int → List Int → Bool
  | _, [] => true
  | before, x :: xs => decide (1 ≤ x) && decide (x ≤ before) && fallB x xs
/-- Which logs are valid. -/
def validB (long : List Int) (sz : Int) (ks : List K4) : Bool :=
  decide (1 ≤ long.length) && decide (long.length ≤ 6) && decide (1 ≤ sz) && decide (sz ≤ 6) && decide (ks.length ≤ 3) && fallB 12 long && ks.all (kvalidB · long.length)

theorem fall_at {y : Int} {long : List Int} {j : Nat} (h : j < long.length) : fallB y (long.drop j) = (decide (1 ≤ at0 long j) && decide (at0 long j ≤ y) && fallB (at0 long j) (long.drop (j + 1))) := by
  rw [List.drop_eq_getElem_cons h, fallB, at0_lt h]
theorem not_fall {long : List Int} {sz : Int} {ks : List K4} (h : fallB 12 long = false) : false = validB long sz ks := by
  simp [validB, h]
theorem not_valid {long : List Int} {sz : Int} {ks : List K4} (h : ¬ (1 ≤ long.length ∧ long.length ≤ 6 ∧ 1 ≤ sz ∧ sz ≤ 6 ∧ ks.length ≤ 3)) : false = validB long sz ks := by
  cases hv : validB long sz ks
  · rfl
  · exfalso
    apply h
    simp only [validB, Bool.and_eq_true, decide_eq_true_eq] at hv
    obtain ⟨⟨⟨⟨⟨⟨h1, h2⟩, h3⟩, h4⟩, h5⟩, _⟩, _⟩ := hv
    exact ⟨h1, h2, h3, h4, h5⟩
theorem numAt0 (a b c : Int) (w : World) : (Instr.index 199 (.agg #[.int .i64 a, .int .i64 1, .int .i64 6, .int .i64 b, .int .i64 1, .int .i64 6, .int .i64 c, .int .i64 0, .int .i64 3]) (.int .i64 0)).run Tryz.prog w = .ok (.agg #[.int .i64 a, .int .i64 1, .int .i64 6]) w := by
  simp [Instr.index, go_sem]
theorem numAt1 (a b c : Int) (w : World) : (Instr.index 199 (.agg #[.int .i64 a, .int .i64 1, .int .i64 6, .int .i64 b, .int .i64 1, .int .i64 6, .int .i64 c, .int .i64 0, .int .i64 3]) (.int .i64 1)).run Tryz.prog w = .ok (.agg #[.int .i64 b, .int .i64 1, .int .i64 6]) w := by
  simp [Instr.index, go_sem]
theorem numAt2 (a b c : Int) (w : World) : (Instr.index 199 (.agg #[.int .i64 a, .int .i64 1, .int .i64 6, .int .i64 b, .int .i64 1, .int .i64 6, .int .i64 c, .int .i64 0, .int .i64 3]) (.int .i64 2)).run Tryz.prog w = .ok (.agg #[.int .i64 c, .int .i64 0, .int .i64 3]) w := by
  simp [Instr.index, go_sem]

set_option maxRecDepth 10000 in
set_option maxHeartbeats 800000 in
theorem valid_any (p1 : Option Addr) (c1 : Nat) (p2 : Option Addr) (c2 : Nat) (long : List Int) (sz : Int) (ks : List K4) (w : World) (hl : IntsAt w p1 long) (hks : KnotsAt w p2 ks) (hb1 : long.length < 2 ^ 62) (hb2 : ks.length < 2 ^ 62) :
    Calls Tryz.prog 77 #[.agg #[.slice p1 long.length c1, .int .i64 sz, .slice p2 ks.length c2]] w fun e w' => e = .returned (.bool (validB long sz ks)) ∧ Below w.heap.size w w' := by
  go_enter Tryz.func77, Tryz.ntmps77
  go_wp2_with fail
  go_loopw [24] (fun i wr => (i = .int .i64 0 ∨ (i = .int .i64 1 ∧ 1 ≤ long.length ∧ long.length ≤ 6) ∨ (i = .int .i64 2 ∧ 1 ≤ long.length ∧ long.length ≤ 6 ∧ 1 ≤ sz ∧ sz ≤ 6) ∨ (i = .int .i64 3 ∧ 1 ≤ long.length ∧ long.length ≤ 6 ∧ 1 ≤ sz ∧ sz ≤ 6 ∧ ks.length ≤ 3)) ∧ Row wr w.heap.size #[.slice p1 long.length c1, .int .i64 sz, .slice p2 ks.length c2] 65 ∧ Below w.heap.size w wr) (fun i _ => 3 - (intOf i).toNat)
  case atStart => exact ⟨.inl rfl, (Row.new _ _ _).alloc _, (below_alloc _ _).alloc (by simp) _⟩
  case round =>
    obtain ⟨hi, hr, hb⟩ := hrel
    have HR := Lib.hid hr
    have HB := Lib.hid hb
    have hlt := hr.lt
    clear hr hb
    rcases hi with rfl | ⟨rfl, h1, h2⟩ | ⟨rfl, h1, h2, h3, h4⟩ | ⟨rfl, h1, h2, h3, h4, h5⟩
    · go_wp2_with (first | (refine index_op rfl 199 _ _ rfl _ _ rfl rfl _ (numAt0 _ _ _ _) ?_))
      all_goals first
        | (go_ret; exact ⟨ret_bool (not_valid (by omega)), HB.out.alloc (by omega) _⟩)
        | exact ⟨⟨.inr (.inl ⟨rfl, by omega, by omega⟩), HR.out.alloc _, HB.out.alloc (by omega) _⟩, by simp [intOf]⟩
    · go_wp2_with (first | (refine index_op rfl 199 _ _ rfl _ _ rfl rfl _ (numAt1 _ _ _ _) ?_))
      all_goals first
        | (go_ret; exact ⟨ret_bool (not_valid (by omega)), HB.out.alloc (by omega) _⟩)
        | exact ⟨⟨.inr (.inr (.inl ⟨rfl, by omega, by omega, by omega, by omega⟩)), HR.out.alloc _, HB.out.alloc (by omega) _⟩, by simp [intOf]⟩
    · go_wp2_with (first | (refine index_op rfl 199 _ _ rfl _ _ rfl rfl _ (numAt2 _ _ _ _) ?_))
      all_goals first
        | (go_ret; exact ⟨ret_bool (not_valid (by omega)), HB.out.alloc (by omega) _⟩)
        | exact ⟨⟨.inr (.inr (.inr ⟨rfl, by omega, by omega, by omega, by omega, by omega⟩)), HR.out.alloc _, HB.out.alloc (by omega) _⟩, by simp [intOf]⟩
    · have hl' := hl.below HB.out
      have hks' := hks.below HB.out
      have HL := Lib.hid hl'
      have HK := Lib.hid hks'
      have c0 := HR.out.cell 0 (v := .slice p1 long.length c1) rfl
      have c2' := HR.out.cell 2 (v := .slice p2 ks.length c2) rfl
      clear hl hks hl' hks'
      go_wp2_with fail
      go_loopw [6, 43] (fun b i v => ∃ (j : Nat) (y : Int), j ≤ long.length ∧ i = .int .i64 j ∧ b = .int .i64 y ∧ fallB 12 long = fallB y (long.drop j) ∧ v = wr) (fun _ i _ => long.length - (intOf i).toNat)
      case atStart => exact ⟨0, 12, by omega, rfl, rfl, rfl, rfl⟩
      case round =>
        obtain ⟨j, y, hj, rfl, rfl, hf, rfl⟩ := hrel
        by_cases hjl : j < long.length
        · obtain ⟨b, o, rfl, hc⟩ := HL.out j hjl
          rw [fall_at hjl] at hf
          have HF := Lib.hid hf
          clear hf
          go_wp2
          all_goals first
            | (go_ret; exact ⟨ret_bool (not_fall (by rw [HF.out]; simp; intros; omega)), HB.out⟩)
            | exact ⟨⟨j + 1, _, by omega, by rw [show ((j + 1 : Nat) : Int) = (j : Int) + 1 by omega], rfl, by rw [HF.out, show decide (1 ≤ at0 long j) = true by simp; omega, show decide (at0 long j ≤ y) = true by simp; omega]; simp, trivial⟩, by simp [intOf]; omega⟩
        · obtain rfl : j = long.length := by omega
          rw [List.drop_length] at hf
          have HF := Lib.hid hf
          clear hf hj
          go_wp2
          go_loopw [59] (fun i v => ∃ j : Nat, j ≤ ks.length ∧ i = .int .i64 j ∧ (∀ x ∈ ks.take j, kvalidB x long.length = true) ∧ Below wr.heap.size wr v) (fun i _ => ks.length - (intOf i).toNat)
          case atStart => exact ⟨0, by omega, rfl, by simp, Below.refl _ _⟩
          case round =>
            obtain ⟨j, hj, rfl, hall, hbv⟩ := hrel
            have HALL := Lib.hid hall
            have HBV := Lib.hid hbv
            by_cases hjl : j < ks.length
            · obtain ⟨b, o, rfl, k0, k1, k2, k3⟩ := (HK.out.below hbv) j hjl
              clear hall hbv
              have c0'' := (HR.out.below HBV.out hlt).cell 0 (v := .slice p1 long.length c1) rfl
              have hltn := Nat.lt_of_lt_of_le hlt HBV.out.size
              cases hkv : kvalidB ks[j] long.length
              · have HKV := Lib.hid hkv
                clear hkv
                go_wp2_with (first | (refine (kvalid_any ks[j] _ _).mono ?_; rw [HKV.out]; rintro e w3 ⟨rfl, hb3⟩))
                go_ret
                exact ⟨ret_bool (by simp only [validB]; rw [show ks.all (kvalidB · long.length) = false by rw [List.all_eq_false]; exact ⟨ks[j], List.getElem_mem _, by simp [HKV.out]⟩]; simp), HB.out.trans ((HBV.out.mono (Nat.le_of_lt hlt)).trans (((below_alloc _ _).mono (Nat.le_of_lt hltn)).trans (hb3.mono (by simp; omega))))⟩
              · have HKV := Lib.hid hkv
                clear hkv
                go_wp2_with (first | (refine (kvalid_any ks[j] _ _).mono ?_; rw [HKV.out]; rintro e w3 ⟨rfl, hb3⟩))
                have hall2 : ∀ x ∈ ks.take (j + 1), kvalidB x long.length = true := by
                  intro x hx
                  rw [List.take_succ_eq_append_getElem hjl] at hx
                  rcases List.mem_append.1 hx with h | h
                  · exact HALL.out x h
                  · obtain rfl : x = ks[j] := by simpa using h
                    exact HKV.out
                exact ⟨⟨j + 1, by omega, by rw [show ((j + 1 : Nat) : Int) = (j : Int) + 1 by omega], hall2, HBV.out.trans (((below_alloc _ _).mono HBV.out.size).trans (hb3.mono (by have := HBV.out.size; simp; omega)))⟩, by simp [intOf]; omega⟩
            · obtain rfl : j = ks.length := by omega
              rw [List.take_length] at hall
              have HALL2 := Lib.hid hall
              clear hall hbv
              go_wp2
              go_ret
              exact ⟨ret_bool (by symm; simp only [validB, Bool.and_eq_true, decide_eq_true_eq]; exact ⟨⟨⟨⟨⟨⟨h1, h2⟩, h3⟩, h4⟩, h5⟩, by rw [HF.out]; rfl⟩, List.all_eq_true.2 HALL2.out⟩), HB.out.trans (HBV.out.mono (Nat.le_of_lt hlt))⟩

end Go.Proofs.YticfcdbfplfmlaaGreat.Pe
/- The walks of layer 1: what refuses a log. -/
namespace Go.Proofs.YticfcdbfplfmlaaGreat.Pe
open Go.RowKit Go.Maps
attribute [local go_sem] Oper.semAt_some

/-- The number that Check returns. -/
def checkE (long : List Int) (sz : Int) (ks : List K4) : Int := if validB long sz ks then 0 else 10

set_option maxRecDepth 10000 in
set_option maxHeartbeats 800000 in
theorem check_any (p1 : Option Addr) (c1 : Nat) (p2 : Option Addr) (c2 : Nat) (long : List Int) (sz : Int) (ks : List K4) (w : World) (hl : IntsAt w p1 long) (hks : KnotsAt w p2 ks) (hb1 : long.length < 2 ^ 62) (hb2 : ks.length < 2 ^ 62) :
    Calls Tryz.prog 55 #[.agg #[.slice p1 long.length c1, .int .i64 sz, .slice p2 ks.length c2]] w fun e w' => e = .returned (.int .i64 (checkE long sz ks)) ∧ Below w.heap.size w w' := by
  go_enter Tryz.func55, Tryz.ntmps55
  have hba := below_alloc w (.cells #[.slice p1 long.length c1, .int .i64 sz, .slice p2 ks.length c2] 65)
  have hv := valid_any p1 c1 p2 c2 long sz ks _ (hl.below hba) (hks.below hba) hb1 hb2
  have HV := Lib.hid hv
  clear hv hl hks
  cases hb : validB long sz ks
  · go_wp2_with (first | (refine HV.out.mono ?_; rw [hb]; rintro e w2 ⟨rfl, hb3⟩))
    go_ret
    exact ⟨by simp [checkE, hb], hba.trans (hb3.mono (by simp))⟩
  · go_wp2_with (first | (refine HV.out.mono ?_; rw [hb]; rintro e w2 ⟨rfl, hb3⟩))
    go_ret
    exact ⟨by simp [checkE, hb], hba.trans (hb3.mono (by simp))⟩

end Go.Proofs.YticfcdbfplfmlaaGreat.Pe
/- The walks of layer 1: how many columns a ribbon has. -/
namespace Go.Proofs.YticfcdbfplfmlaaGreat.Pe
open Go.RowKit Go.Maps
attribute [local go_sem] Oper.semAt_some

theorem field_op {P : Program} {ops : Array Oper} {Q : Exit → Act → World → Prop} {rest : List Oper} {op : Oper} {a : Act} {w : World} (hgd : op.guard = none) (ty : TypeId) (x : Operand) (k : Nat) (ho : op.op = .field ty x k) (v u : Value) (hx : a.eval x = v)
    (hr : (Instr.field ty v k).run P w = .ok u w) (h : wpList P ops Q rest (a.put op.dst u) w) : wpList P ops Q (op :: rest) a w :=
  wpList_plain hgd fun _ hK => by
    unfold Oper.wp execOp
    simp only [ho, hx, Sem.run_bind, Sem.run_pure, hr, Result.andThen_ok]
    exact hK _ _ h
theorem field_wide (R : Rib) (w : World) : (Instr.field 115 (.agg R.A) 1).run Tryz.prog w = .ok (.int .i64 R.wide) w := by
  simp [Instr.field, asAgg, go_sem, Rib.A]

end Go.Proofs.YticfcdbfplfmlaaGreat.Pe
/- Layer 1, in plain lists: what is known of a valid log; what the calls return of it. -/
namespace Go.Proofs.YticfcdbfplfmlaaGreat.Pe
open Go.RowKit

theorem fall_all : ∀ (long : List Int) (y : Int), fallB y long = true → ∀ t, t < long.length → 1 ≤ at0 long t ∧ at0 long t ≤ y
  | [], _, _, t, h => by simp at h
  | x :: xs, y, h, t, ht => by
    simp only [fallB, Bool.and_eq_true, decide_eq_true_eq] at h
    obtain ⟨⟨h1, h2⟩, h3⟩ := h
    cases t with
    | zero => exact ⟨by simpa [at0] using h1, by simpa [at0] using h2⟩
    | succ t =>
      have := fall_all xs x h3 t (by simpa using ht)
      have e : at0 (x :: xs) (t + 1) = at0 xs t := by simp [at0]
      rw [e]; omega

/-- What is known of a valid log. -/
structure LogOk (long : List Int) (sz : Int) (ks : List K4) : Prop where
  L : LongOk long
  s1 : 1 ≤ sz
  s6 : sz ≤ 6
  k3 : ks.length ≤ 3
  ok : ∀ k ∈ ks, K4Ok k
  fh : ∀ k ∈ ks, k.fh ≤ long.length
  aw : ∀ k ∈ ks, k.ah - k.al ≤ 3
  fw : ∀ k ∈ ks, k.fh - k.fl ≤ 1
  fall : fallB 12 long = true

theorem valid_ok {long : List Int} {sz : Int} {ks : List K4} (h : validB long sz ks = true) : LogOk long sz ks := by
  simp only [validB, Bool.and_eq_true, decide_eq_true_eq] at h
  obtain ⟨⟨⟨⟨⟨⟨h1, h2⟩, h3⟩, h4⟩, h5⟩, h6⟩, h7⟩ := h
  rw [List.all_eq_true] at h7
  have hf := fall_all long 12 h6
  have hk : ∀ k ∈ ks, 0 ≤ k.al ∧ k.al ≤ k.ah ∧ k.ah ≤ 23 ∧ 0 ≤ k.fl ∧ k.fl ≤ k.fh ∧ k.fh ≤ long.length ∧ k.ah - k.al ≤ 3 ∧ k.fh - k.fl ≤ 1 := by
    intro k hk
    have := h7 k hk
    have hw : wrap64 ((long.length : Int) + 1) = long.length + 1 := IntWalk.wrap64_in _ (by omega)
    simp only [kvalidB, showsB, narrowB, hw, Bool.and_eq_true, decide_eq_true_eq] at this
    obtain ⟨⟨⟨⟨⟨⟨a1, a2⟩, a3⟩, a4⟩, ⟨⟨b1, b2⟩, b3⟩, b4⟩, c1, c2⟩, d1, d2⟩ := this
    rw [IntWalk.wrap64_in _ (by omega)] at c2
    rw [IntWalk.wrap64_in _ (by omega)] at d2
    omega
  exact ⟨⟨h1, h2, fun t ht => (hf t ht).1, fun t ht => (hf t ht).2⟩, h3, h4, h5, fun k hm => (by have := hk k hm; exact ⟨by omega, by omega, by omega, by omega, by omega, by omega⟩), fun k hm => (by have := hk k hm; omega), fun k hm => (by have := hk k hm; omega), fun k hm => (by have := hk k hm; omega), h6⟩
theorem valid_hok {long : List Int} {sz : Int} {ks : List K4} (h : validB long sz ks = true) : LongOk long ∧ (∀ k ∈ ks, K4Ok k) ∧ ks.length ≤ 3 := ⟨(valid_ok h).L, (valid_ok h).ok, (valid_ok h).k3⟩

/-- The columns of a ribbon. -/
def wideN (long : List Int) : Nat := (psum long long.length).toNat
theorem wideN_eq {long : List Int} (h : LongOk long) : (wideN long : Int) = psum long long.length ∧ wideN long ≤ 72 ∧ 1 ≤ wideN long := by
  have := psum_range h long.length (by omega)
  have := h.n6
  have := h.n1
  unfold wideN
  omega
/-- A ribbon that lies nowhere. -/
def rb (long : List Int) : Rib := ribTo none 0 none 0 long 0 0 0 long.length
theorem trailTo_s {R R' : Rib} (h : R.s = R'.s) (long : List Int) (a : Int) (t : Nat) : ∀ j, trailTo R long a t j = trailTo R' long a t j
  | 0 => rfl
  | j + 1 => by rw [trailTo, trailTo, trailTo_s h long a t j, colOf, colOf, h]
theorem trailL_s {R R' : Rib} (h : R.s = R'.s) (long : List Int) (a : Int) (t : Nat) : trailL R long a t = trailL R' long a t := trailTo_s h _ _ _ _
theorem reachK_s {R R' : Rib} (h : R.s = R'.s) (long : List Int) : reachK R long = reachK R' long := by
  funext acc k
  unfold reachK
  congr 1
  funext c p
  rw [trailL_s h]
theorem reachL_s {R R' : Rib} (h : R.s = R'.s) (long : List Int) (ks : List K4) : reachL R long ks = reachL R' long ks := by
  unfold reachL
  rw [reachK_s h]
theorem truthsL_s {R R' : Rib} (h : R.s = R'.s) (long : List Int) : ∀ (ks : List K4) (kn : List Bool), truthsL R long ks kn = truthsL R' long ks kn
  | [], _ => rfl
  | k :: ks, kn => by
    rw [truthsL, truthsL]
    congr 1
    funext q
    rw [trailL_s h, truthsL_s h long ks]

/-- The columns of a knot at a place; those that some knots can have; those of each truth. -/
def trailD (long : List Int) (a : Int) (t : Nat) : List Bool := trailL (rb long) long a t
def reachD (long : List Int) (ks : List K4) : List Bool := reachL (rb long) long ks
def truthsD (long : List Int) (ks : List K4) : List (List Bool) := truthsL (rb long) long ks (List.replicate 72 false)
theorem reachD_length (long : List Int) (ks : List K4) : (reachD long ks).length = 72 := reachF_length _ _ _ _ (by simp)

section
variable {p1 : Option Addr} {c1 : Nat} {p2 : Option Addr} {c2 : Nat} {long : List Int} {sz : Int} {nk mb : Nat}
theorem trail_rib (a : Int) (t : Nat) : trailL (ribTo p1 c1 p2 c2 long sz nk mb long.length) long a t = trailD long a t := trailL_s (R := ribTo p1 c1 p2 c2 long sz nk mb long.length) (R' := rb long) rfl _ _ _
theorem reach_rib (ks : List K4) : reachL (ribTo p1 c1 p2 c2 long sz nk mb long.length) long ks = reachD long ks := reachL_s (R := ribTo p1 c1 p2 c2 long sz nk mb long.length) (R' := rb long) rfl _ _
theorem truths_rib (ks : List K4) : truthsOf (ribTo p1 c1 p2 c2 long sz nk mb long.length) long ks = truthsD long ks := truthsL_s (R := ribTo p1 c1 p2 c2 long sz nk mb long.length) (R' := rb long) rfl _ _ _
end

/-- The pieces that can be cut where some columns have a knot. -/
def wholesD (long : List Int) (sz : Int) (kn : List Bool) : List Bool := wholeL kn sz.toNat (psum long long.length)
def cutD (long : List Int) (sz : Int) (kn : List Bool) : List Int := cutL (wholesD long sz kn) sz.toNat (wideN long) 0
/-- The cutting that is returned. -/
def bestD (long : List Int) (sz : Int) (ks : List K4) : List Int := cutD long sz (reachD long ks)
/-- How many pieces, at the worst, if it is known where a knot is. -/
def worstD (long : List Int) (sz : Int) (ks : List K4) (k : Nat) : Int :=
  match ks[k]? with
  | none => 0
  | some x => (placesL x).foldl (fun m q => min m ((cutD long sz (orL (reachD long (ks.eraseIdx k)) (trailD long q.1 q.2.toNat))).length : Int)) (psum long long.length)
/-- The knot to ask for. -/
def askD (long : List Int) (sz : Int) (ks : List K4) : Int :=
  let l := (List.range ks.length).map (worstD long sz ks)
  indexL l (maxL (at0 l 0) l.tail)
/-- The most pieces in some truth. -/
def hopeD (long : List Int) (sz : Int) (ks : List K4) : Int := ((truthsD long ks).map fun kn => ((cutD long sz kn).length : Int)).foldl max 0
/-- Between which numbers the whole pieces of a cutting lie. -/
def loD (long : List Int) (sz : Int) (ks : List K4) (cut : List Int) : Int := (truthsD long ks).foldl (fun m kn => min m (countL (wholesD long sz kn) cut)) cut.length
def hiD (long : List Int) (sz : Int) (ks : List K4) (cut : List Int) : Int := (truthsD long ks).foldl (fun m kn => max m (countL (wholesD long sz kn) cut)) 0
/-- Has a column a knot? -/
def knotD (long : List Int) (ks : List K4) (c : Nat) : Int :=
  if (truthsD long ks).all (b0 · c) then 2 else if (truthsD long ks).any (b0 · c) then 1 else 0

/-- The chapter's log. -/
def exL : List Int := [10, 9, 8]
def exK : List K4 := [⟨5, 7, 1, 1⟩, ⟨20, 20, 0, 1⟩]
theorem ex_valid : validB exL 3 exK = true := by kernel_rfl
theorem ex_best : bestD exL 3 exK = [0, 3, 13, 22] := by kernel_rfl
theorem ex_hope : hopeD exL 3 exK = 7 := by kernel_rfl
theorem ex_ask : askD exL 3 exK = 0 := by kernel_rfl
theorem ex_knot : knotD exL exK 17 = 2 := by kernel_rfl
theorem ex_lo : loD exL 3 exK [0, 3, 6, 9] = 2 := by kernel_rfl
theorem ex_hi : hiD exL 3 exK [0, 3, 6, 9] = 4 := by kernel_rfl
theorem ex_sure : countL (wholesD exL 3 (reachD exL exK)) [0, 3, 6, 9] = 2 := by kernel_rfl
theorem ex_col : colOf (rb exL) exL 7 1 = 12 := by kernel_rfl
theorem ex_wide : psum exL exL.length = 27 := by kernel_rfl

end Go.Proofs.YticfcdbfplfmlaaGreat.Pe
/- Layer 1, in plain lists: cutting each piece as early as can be gives the most pieces, and the first such cutting. -/
namespace Go.Proofs.YticfcdbfplfmlaaGreat.Pe
open Go.RowKit

theorem cutOk_less {sz wide : Int} : ∀ {cut : List Int} {i j : Int}, j ≤ i → cutOk sz wide i cut = true → cutOk sz wide j cut = true
  | [], _, _, _, _ => by rw [cutOk]
  | f :: l, i, j, hj, h => by
    rw [cutOk] at h ⊢
    by_cases hc : f < i ∨ wide - sz < f
    · rw [if_pos hc] at h; cases h
    · rw [if_neg hc] at h
      rw [if_neg (by omega)]
      exact h
theorem cutOk_cons {sz wide i f : Int} {l : List Int} (h : cutOk sz wide i (f :: l) = true) : i ≤ f ∧ f + sz ≤ wide ∧ cutOk sz wide (f + sz) l = true := by
  rw [cutOk] at h
  by_cases hc : f < i ∨ wide - sz < f
  · rw [if_pos hc] at h; cases h
  · rw [if_neg hc] at h
    exact ⟨by omega, by omega, h⟩
theorem cutOk_mk {sz wide i f : Int} {l : List Int} (h1 : i ≤ f) (h2 : f + sz ≤ wide) (h : cutOk sz wide (f + sz) l = true) : cutOk sz wide i (f :: l) = true := by
  rw [cutOk, if_neg (by omega)]; exact h
theorem countL_nil (c : List Bool) : countL c [] = 0 := rfl
theorem countL_cons (c : List Bool) (f : Int) (l : List Int) : countL c (f :: l) = countL c l + if b0 c f.toNat then 1 else 0 := by
  unfold countL
  rw [List.countP_cons]
  split <;> simp_all

/-- No cutting has more pieces that are counted. -/
theorem greedy_most {c : List Bool} {sz wide : Nat} (h1 : 1 ≤ sz) : ∀ (n i : Nat) (cut : List Int), wide < n + i → cutOk sz wide i cut = true → countL c cut ≤ ((cutL c sz wide i).length : Int)
  | _, _, [], _, _ => by rw [countL_nil]; omega
  | 0, i, f :: l, hn, h => by
    obtain ⟨a, b, _⟩ := cutOk_cons h
    omega
  | n + 1, i, f :: l, hn, h => by
    obtain ⟨a, b, hl⟩ := cutOk_cons h
    have hi : i + sz ≤ wide := by omega
    cases hb : b0 c i
    · rw [cutL_no h1 hi hb]
      by_cases he : f = i
      · rw [countL_cons, he, Int.toNat_natCast, hb]
        have := greedy_most (c := c) h1 n (i + 1) l (by omega) (cutOk_less (by omega) hl)
        simpa using this
      · exact greedy_most h1 n (i + 1) (f :: l) (by omega) (cutOk_mk (by omega) b hl)
    · rw [cutL_yes h1 hi hb, countL_cons]
      have := greedy_most (c := c) h1 n (i + sz) l (by omega) (cutOk_less (by omega) hl)
      rw [List.length_cons]
      split <;> omega
/-- No cutting of as many pieces that all are counted comes before it. -/
theorem greedy_first {c : List Bool} {sz wide : Nat} (h1 : 1 ≤ sz) : ∀ (n i : Nat) (cut : List Int), wide < n + i → cutOk sz wide i cut = true → (∀ f ∈ cut, b0 c f.toNat = true) → earlier cut (cutL c sz wide i) = true → cut.length < (cutL c sz wide i).length
  | n, i, [], _, _, _, he => by
    cases hc : cutL c sz wide i with
    | nil => rw [hc] at he; cases he
    | cons => simp
  | 0, i, f :: l, hn, h, _, _ => by
    obtain ⟨a, b, _⟩ := cutOk_cons h
    omega
  | n + 1, i, f :: l, hn, h, hall, he => by
    obtain ⟨a, b, hl⟩ := cutOk_cons h
    have hi : i + sz ≤ wide := by omega
    have hf := hall f (by simp)
    cases hb : b0 c i
    · rw [cutL_no h1 hi hb] at he ⊢
      have hne : f ≠ i := fun e => by rw [e, Int.toNat_natCast, hb] at hf; cases hf
      exact greedy_first h1 n (i + 1) (f :: l) (by omega) (cutOk_mk (by omega) b hl) hall he
    · rw [cutL_yes h1 hi hb] at he ⊢
      rw [earlier] at he
      by_cases e : f = i
      · rw [if_pos e] at he
        have := greedy_first (c := c) h1 n (i + sz) l (by omega) (cutOk_less (by omega) hl) (fun x hx => hall x (by simp [hx])) he
        simpa using this
      · rw [if_neg e] at he
        simp at he
        omega
/-- It is a cutting, and all of its pieces are counted. -/
theorem greedy_ok {c : List Bool} {sz wide : Nat} (h1 : 1 ≤ sz) : ∀ (n i : Nat), wide < n + i → cutOk sz wide i (cutL c sz wide i) = true ∧ ∀ f ∈ cutL c sz wide i, b0 c f.toNat = true
  | 0, i, hn => by rw [cutL_end (by omega)]; exact ⟨by rw [cutOk], by simp⟩
  | n + 1, i, hn => by
    by_cases hi : i + sz ≤ wide
    · cases hb : b0 c i
      · rw [cutL_no h1 hi hb]
        obtain ⟨a, b⟩ := greedy_ok (c := c) (sz := sz) (wide := wide) h1 n (i + 1) (by omega)
        exact ⟨cutOk_less (i := ((i + 1 : Nat) : Int)) (by omega) a, b⟩
      · rw [cutL_yes h1 hi hb]
        obtain ⟨a, b⟩ := greedy_ok (c := c) (sz := sz) (wide := wide) h1 n (i + sz) (by omega)
        refine ⟨cutOk_mk (by omega) (by omega) (by simpa using a), ?_⟩
        intro f hf
        rcases List.mem_cons.1 hf with rfl | hf
        · simpa using hb
        · exact b f hf
    · rw [cutL_end hi]; exact ⟨by rw [cutOk], by simp⟩
theorem countL_all {c : List Bool} {cut : List Int} (h : ∀ f ∈ cut, b0 c f.toNat = true) : countL c cut = cut.length := by
  unfold countL
  congr 1
  rw [List.countP_eq_length]
  exact h
theorem countL_mono {c d : List Bool} {cut : List Int} (h : ∀ f ∈ cut, b0 c f.toNat = true → b0 d f.toNat = true) : countL c cut ≤ countL d cut := by
  unfold countL
  have := List.countP_mono_left (l := cut) (p := fun f => b0 c f.toNat) (q := fun f => b0 d f.toNat) h
  omega
theorem cutOk_range {sz wide : Int} : ∀ {cut : List Int} {i : Int}, 0 ≤ i → 0 ≤ sz → cutOk sz wide i cut = true → ∀ f ∈ cut, i ≤ f ∧ f + sz ≤ wide
  | [], _, _, _, _, _, h => by cases h
  | f :: l, i, hi, hs, h, x, hx => by
    obtain ⟨a, b, hl⟩ := cutOk_cons h
    rcases List.mem_cons.1 hx with rfl | hx
    · exact ⟨a, b⟩
    · have := cutOk_range (by omega) hs hl x hx
      omega
theorem cutOk_at {sz wide : Int} {cut : List Int} (h0 : 0 ≤ sz) (h : cutOk sz wide 0 cut = true) (hw : wide ≤ 72) (h1 : 1 ≤ sz) : ∀ k, k < cut.length → 0 ≤ at0 cut k ∧ at0 cut k < 72 := by
  intro k hk
  have := cutOk_range (Int.le_refl 0) h0 h (at0 cut k) (by rw [at0_lt hk]; exact List.getElem_mem _)
  omega
/-- Smaller pieces, and more that are counted: no fewer pieces. -/
theorem cutOk_size {sz sz' wide : Int} (h : sz' ≤ sz) : ∀ {cut : List Int} {i : Int}, cutOk sz wide i cut = true → cutOk sz' wide i cut = true
  | [], _, _ => by rw [cutOk]
  | f :: l, i, hc => by
    obtain ⟨a, b, hl⟩ := cutOk_cons hc
    exact cutOk_mk a (by omega) (cutOk_less (by omega) (cutOk_size h hl))
theorem greedy_mono {c d : List Bool} {sz sz' wide : Nat} (h1 : 1 ≤ sz') (hs : sz' ≤ sz) (h : ∀ i, b0 c i = true → b0 d i = true) : (cutL c sz wide 0).length ≤ (cutL d sz' wide 0).length := by
  obtain ⟨a, b⟩ := greedy_ok (c := c) (sz := sz) (wide := wide) (by omega) (wide + 1) 0 (by omega)
  have hm := greedy_most (c := d) (sz := sz') (wide := wide) h1 (wide + 1) 0 (cutL c sz wide 0) (by omega) (cutOk_size (by omega) a)
  rw [countL_all (fun f hf => h _ (b f hf))] at hm
  omega

end Go.Proofs.YticfcdbfplfmlaaGreat.Pe
/- The walks of layer 1: the ribbon of a valid log, with what it lies on; what is asked of a cutting. -/
namespace Go.Proofs.YticfcdbfplfmlaaGreat.Pe
open Go.RowKit Go.Maps
attribute [local go_sem] Oper.semAt_some

/-- A log lies in memory. -/
structure LogAt (w : World) (p1 p2 : Option Addr) (long : List Int) (ks : List K4) : Prop where
  l : IntsAt w p1 long
  k : KnotsAt w p2 ks
  b1 : long.length < 2 ^ 62
  b2 : ks.length < 2 ^ 62
theorem LogAt.below {w w' : World} {p1 p2 : Option Addr} {long : List Int} {ks : List K4} (h : LogAt w p1 p2 long ks) (hb : Below w.heap.size w w') : LogAt w' p1 p2 long ks := ⟨h.l.below hb, h.k.below hb, h.b1, h.b2⟩

/-- The ribbon of a log. -/
structure RibOf (R : Rib) (p1 : Option Addr) (c1 : Nat) (p2 : Option Addr) (c2 : Nat) (long : List Int) (sz : Int) (ks : List K4) : Prop where
  p1 : R.p1 = p1
  c1 : R.c1 = c1
  p2 : R.p2 = p2
  n2 : R.n2 = ks.length
  c2 : R.c2 = c2
  sz : R.sz = sz
  s : R.s = (rb long).s
  wide : R.wide = psum long long.length
  ok : RibOk R long
/-- What the ribbon lies on: its map, its knots, its turns. -/
structure RibAt (w : World) (R : Rib) (long : List Int) (ks : List K4) (mb nn : Nat) (f : Int → Int → Option (List Bool)) : Prop where
  e : R.mb = some mb
  m : MapIs w mb nn f
  t : Trails R long ks f
  k : KnotsAt w R.p2 ks
  l : IntsAt w R.p1 long
theorem RibAt.below {w w' : World} {R : Rib} {long : List Int} {ks : List K4} {mb nn : Nat} {f : Int → Int → Option (List Bool)} (h : RibAt w R long ks mb nn f) (hb : Below w.heap.size w w') : RibAt w' R long ks mb nn f :=
  ⟨h.e, h.m.of_same (hb.block _ h.m.lt), h.t, h.k.below hb, h.l.below hb⟩

theorem unroll_of (p1 : Option Addr) (c1 : Nat) (p2 : Option Addr) (c2 : Nat) (long : List Int) (sz : Int) (ks : List K4) (w : World) (h : LogAt w p1 p2 long ks) (hv : LogOk long sz ks) :
    Calls Tryz.prog 56 #[.agg #[.slice p1 long.length c1, .int .i64 sz, .slice p2 ks.length c2]] w fun e w' => ∃ R mb nn f, e = .returned (.agg R.A) ∧ RibOf R p1 c1 p2 c2 long sz ks ∧ RibAt w' R long ks mb nn f ∧ Below w.heap.size w w' := by
  refine (unroll_any p1 c1 p2 c2 long sz ks w hv.L h.l h.k hv.ok hv.k3).mono ?_
  rintro e w' ⟨mb, nn, f, rfl, hm, ht, hb⟩
  exact ⟨_, mb, nn, f, rfl, ⟨rfl, rfl, rfl, rfl, rfl, rfl, rfl, rfl, rib_ok hv.L⟩, ⟨rfl, hm, ht, h.k.below hb, h.l.below hb⟩, hb⟩

theorem alloc_setRow (w : World) (old cs : Array Value) (t : TypeId) : (w.alloc (.cells old t)).setRow w.heap.size cs = w.alloc (.cells cs t) := by
  have e : (w.heap.push (Obj.cells old t)).modify w.heap.size (fun x => match x with | Obj.cells c elem frozen => Obj.cells cs elem frozen | o => o) = w.heap.push (Obj.cells cs t) := by
    apply Array.ext
    · simp
    · intro i h1 h2
      rw [Array.getElem_modify]
      simp only [Array.size_push] at h2
      by_cases hi : i = w.heap.size
      · subst hi; simp
      · rw [if_neg (Ne.symm hi), Array.getElem_push_lt (by omega), Array.getElem_push_lt (by omega)]
  show ({ heap := _, tape := w.tape, drawn := w.drawn, os := w.os, output := w.output } : World) = { heap := _, tape := w.tape, drawn := w.drawn, os := w.os, output := w.output }
  congr 1
/-- A new variable gets its value. -/
theorem store_new {P : Program} {ops : Array Oper} {rest : List Oper} {op : Oper} {a : Act} {w : World} {Q : Exit → Act → World → Prop} (hgd : op.guard = none) (ty : TypeId) (x y : Operand) (ho : op.op = .store ty x y)
    (cs old : Array Value) (t : TypeId) (hx : a.eval x = .pointer (some ⟨w.heap.size, 0, none⟩)) (hy : a.eval y = .agg cs)
    (hi : (P.info? ty).map (·.size) = some cs.size) (hold : old.size = cs.size) (h1 : cs.all (·.oneCell') = true)
    (h : wpList P ops Q rest (a.put op.dst undef) (w.alloc (.cells cs t))) : wpList P ops Q (op :: rest) a (w.alloc (.cells old t)) :=
  store_row hgd ty x y ho w.heap.size cs old t hx hy (Row.new _ _ _) hi hold h1 (by rw [alloc_setRow]; exact h)

theorem RibAt.drew {w : World} {R : Rib} {long : List Int} {ks : List K4} {mb nn : Nat} {f : Int → Int → Option (List Bool)} (h : RibAt w R long ks mb nn f) : RibAt w.drew R long ks mb nn f := ⟨h.e, h.m, h.t, h.k, h.l⟩
theorem wholesD_length (long : List Int) (sz : Int) (kn : List Bool) : (wholesD long sz kn).length = 72 := wholeL_length _ _ _
section
variable {R : Rib} {p1 : Option Addr} {c1 : Nat} {p2 : Option Addr} {c2 : Nat} {long : List Int} {sz : Int} {ks : List K4}
theorem knife_of (hR : RibOf R p1 c1 p2 c2 long sz ks) (hv : LogOk long sz ks) (kn : List Bool) (hk : kn.length = 72) (w : World) :
    Calls Tryz.prog 83 #[.agg R.A, cols kn] w fun e w' => e = .returned (knifeV (wideN long) sz.toNat (wholesD long sz kn)) ∧ Below w.heap.size w w' := by
  have hw := wideN_eq hv.L
  have h1 := hv.s1
  have h6 := hv.s6
  have h := knife_any R sz.toNat hR.ok.s6 (by rw [hR.sz]; omega) (by omega) (by omega) (by rw [hR.wide]; omega) (by rw [hR.wide]; omega) kn hk w
  rw [hR.wide] at h
  rw [hw.1]
  exact h
theorem cut_of (hv : LogOk long sz ks) (c : List Bool) (hc : c.length = 72) (w : World) :
    Calls Tryz.prog 84 #[knifeV (wideN long) sz.toNat c] w (GaveInts (cutL c sz.toNat (wideN long) 0) w) := by
  have hw := wideN_eq hv.L
  have h1 := hv.s1
  have h6 := hv.s6
  exact cut_any _ _ (by omega) (by omega) hw.2.1 c hc w
theorem pieces_of (hR : RibOf R p1 c1 p2 c2 long sz ks) (hv : LogOk long sz ks) (kn : List Bool) (hk : kn.length = 72) (w : World) :
    Calls Tryz.prog 59 #[.agg R.A, cols kn] w fun e w' => e = .returned (.int .i64 ((cutD long sz kn).length : Nat)) ∧ Below w.heap.size w w' := by
  have hw := wideN_eq hv.L
  have h1 := hv.s1
  have h6 := hv.s6
  have h := pieces_any R sz.toNat (wideN long) hR.ok.s6 (by rw [hR.sz]; omega) (by omega) (by omega) (by rw [hR.wide]; omega) hw.2.1 kn hk w
  rw [hR.wide] at h
  exact h
theorem cutD_short (hv : LogOk long sz ks) (kn : List Bool) : ((cutD long sz kn).length : Int) ≤ 72 := by
  have hw := wideN_eq hv.L
  have h1 := hv.s1
  have := cutL_length (c := wholesD long sz kn) (sz := sz.toNat) (wide := wideN long) (by omega) (wideN long + 1) 0 (by omega)
  unfold cutD
  omega
end
theorem MapIs.ne {w : World} {mb n : Nat} {f : Int → Int → Option (List Bool)} {b : Nat} {cs : Array Value} {t : TypeId} (h : MapIs w mb n f) (hr : Row w b cs t) : mb ≠ b := by
  intro e
  subst e
  obtain ⟨D, ⟨es, clock, hb, _⟩, _⟩ := h
  unfold Row at hr
  rw [hb] at hr
  cases hr

/-- The same in a round. -/
theorem store_newIn {F : Fence} {n : Nat} {P : Program} {ops : Array Oper} {rest : List Oper} {op : Oper} {a : Act} {w : World} {Q : Exit → Act → World → Prop} (hgd : op.guard = none) (ty : TypeId) (x y : Operand) (ho : op.op = .store ty x y)
    (cs old : Array Value) (t : TypeId) (hx : a.eval x = .pointer (some ⟨w.heap.size, 0, none⟩)) (hy : a.eval y = .agg cs)
    (hi : (P.info? ty).map (·.size) = some cs.size) (hold : old.size = cs.size) (h1 : cs.all (·.oneCell') = true)
    (h : wpListIn F n P ops Q rest (a.put op.dst undef) (w.alloc (.cells cs t))) : wpListIn F n P ops Q (op :: rest) a (w.alloc (.cells old t)) :=
  wpListIn_plain hgd fun K hK => by
    refine ⟨fun f hf => by simp [Oper.about, ho] at hf, ?_⟩
    rw [Oper.semAt_eq _ _ _ (by intro c hc; rw [ho] at hc; cases hc)]
    unfold execOp
    simp only [ho, hx, hy, Instr.storeAt, Instr.sureAddr, Sem.run_bind, Sem.run_pure, Result.andThen_ok, run_storeVar_row (w.alloc (.cells old t)) w.heap.size t ty old cs (Row.new _ _ _) hi hold h1]
    rw [alloc_setRow]
    exact hK _ _ h

theorem truthsL_length (R : Rib) (long : List Int) : ∀ (ks : List K4) (acc : List Bool), acc.length = 72 → ∀ kn ∈ truthsL R long ks acc, kn.length = 72
  | [], acc, h, kn, hm => by rw [truthsL, List.mem_singleton] at hm; rw [hm]; exact h
  | k :: ks, acc, h, kn, hm => by
    rw [truthsL, List.mem_flatMap] at hm
    obtain ⟨q, _, hq⟩ := hm
    exact truthsL_length R long ks _ (orL_length h (trailL_length _ _ _ _)) kn hq
theorem truths_of {R : Rib} {p1 : Option Addr} {c1 : Nat} {p2 : Option Addr} {c2 : Nat} {long : List Int} {sz : Int} {ks : List K4} {mb nn : Nat} {f : Int → Int → Option (List Bool)} (hR : RibOf R p1 c1 p2 c2 long sz ks) (hv : LogOk long sz ks) (b : Nat) (W : World) (hr : Row W b R.A 115) (hA : RibAt W R long ks mb nn f) :
    IterAt Tryz.prog 80 #[.pointer (some ⟨b, 0, none⟩)] (readsR R ks b mb) ((truthsD long ks).map fun c => #[cols c]) W := by
  have h := truths1_iter R long ks hR.ok.s6 hR.n2 hv.k3 hv.ok b mb nn f hA.e hA.t W hr hA.m hA.k
  rw [show truthsOf R long ks = truthsD long ks from truthsL_s hR.s long ks _] at h
  exact h
theorem truthsD_length {long : List Int} {ks : List K4} {kn : List Bool} (h : kn ∈ truthsD long ks) : kn.length = 72 := truthsL_length _ _ _ _ (by simp) kn h
/-- What the rounds read is none of the caller's new variables. -/
theorem not_reads {R : Rib} {long : List Int} {ks : List K4} {mb nn : Nat} {f : Int → Int → Option (List Bool)} {w w0 : World} {b m : Nat} {cs : Array Value} {t : TypeId} (hA : RibAt w R long ks mb nn f) (hr : Row w m cs t) (hb : m ≠ b) (hk : KnotsAt w0 R.p2 ks) (hm : w0.heap.size ≤ m) : ¬ readsR R ks b mb m := by
  rintro (e | e | ⟨hne, o, e⟩)
  · exact hb e
  · exact hA.m.ne hr e.symm
  · obtain ⟨b', o', hp, h0, _⟩ := hk 0 (List.length_pos_iff.2 hne)
    rw [e] at hp
    cases hp
    have := cell_block h0
    dsimp only at this
    omega

theorem not_reads_new {R : Rib} {long : List Int} {ks : List K4} {mb nn : Nat} {f : Int → Int → Option (List Bool)} {w : World} {b m : Nat} {cs : Array Value} {t : TypeId} (hA : RibAt w R long ks mb nn f) (hr : Row w b cs t) (hm : w.heap.size ≤ m) : ¬ readsR R ks b mb m := by
  have h1 := hA.m.lt
  have h2 := hr.lt
  rintro (e | e | ⟨hne, o, e⟩)
  · omega
  · omega
  · obtain ⟨b', o', hp, h0, _⟩ := hA.k 0 (List.length_pos_iff.2 hne)
    rw [e] at hp
    cases hp
    have := cell_block h0
    dsimp only at this
    omega
theorem map_at {l : List (List Bool)} {j : Nat} {x : Array Value} (h : (l.map fun c => #[cols c])[j]? = some x) : ∃ kn, l[j]? = some kn ∧ x = #[cols kn] := by
  rw [List.getElem?_map] at h
  cases hq : l[j]? with
  | none => rw [hq] at h; cases h
  | some q => rw [hq] at h; cases h; exact ⟨q, rfl, rfl⟩

theorem results_cell_two {P : Program} {fn : Func} {p q : Tmp} {ty : TypeId} (h : fn.results = #[.cell p ty, .tmp q]) (tmps : Array Value) (w : World) (g : Nat) (t : TypeId) (cs : Array Value) (fr : Nat × Nat) (d : TypeDesc) (v2 : Value)
    (hp : tmps.getD p undef = .pointer (some ⟨g, 0, none⟩)) (hq : tmps.getD q undef = v2) (hg : w.heap[g]? = some (.cells cs t fr))
    (hu : P.underlying ty = some d) (hd : (match d with | .struct _ | .array _ _ => true | _ => false) = true) (hi : (P.info? ty).map (·.size) = some cs.size) :
    (results fn tmps).run P w = .ok (.tuple #[.agg cs, v2]) w := by
  have hp' : tmps[p]?.getD undef = .pointer (some ⟨g, 0, none⟩) := by simpa using hp
  have hq' : tmps[q]?.getD undef = v2 := by simpa using hq
  simp [results, h, hp', hq', asAddr, run_loadVar_row w g t ty cs fr d hg hu hd hi]

abbrev zero76 : Array Value := #[.slice none 0 0, .int .i64 0, .slice none 0 0, .int .i64 0, .int .i64 0, .int .i64 0, .int .i64 0, .int .i64 0, .int .i64 0, .int .i64 0, .map none]
theorem zero76_size : (Tryz.prog.info? 115).map (·.size) = some zero76.size := by kernel_rfl
theorem zero76_one : zero76.all (·.oneCell') = true := by kernel_rfl

end Go.Proofs.YticfcdbfplfmlaaGreat.Pe
/- Layer 1, in plain lists: fewer knots, more pieces; the greatest of several numbers. -/
namespace Go.Proofs.YticfcdbfplfmlaaGreat.Pe
open Go.RowKit

theorem b0_wholeL {kn : List Bool} {sz : Nat} {wide : Int} {i : Nat} : b0 (wholeL kn sz wide) i = (decide (i < 72) && decide (i < (wide - sz + 1).toNat) && freeAt kn i sz) := by
  by_cases hi : i < 72
  · rw [b0_lt (by rw [wholeL_length]; exact hi)]
    have := wholeTo_at kn sz (wide - sz + 1).toNat i hi
    rw [List.getElem?_eq_getElem (by rw [wholeTo_length]; exact hi)] at this
    simp only [wholeL, Option.some.inj this, hi, decide_true, Bool.true_and]
  · simp [b0, List.getD_eq_getElem?_getD, wholeL, wholeTo, hi]
theorem freeAt_iff {kn : List Bool} {i sz : Nat} : freeAt kn i sz = true ↔ ∀ j, j < sz → b0 kn (i + j) = false := by
  simp [freeAt, List.all_eq_true]
theorem b0_wholesD {long : List Int} {sz : Int} {kn : List Bool} {i : Nat} : b0 (wholesD long sz kn) i = true ↔ i < 72 ∧ i < (psum long long.length - sz.toNat + 1).toNat ∧ ∀ j, j < sz.toNat → b0 kn (i + j) = false := by
  rw [wholesD, b0_wholeL]
  simp only [Bool.and_eq_true, decide_eq_true_eq, freeAt_iff]
  constructor
  · rintro ⟨⟨a, b⟩, c⟩; exact ⟨a, b, c⟩
  · rintro ⟨a, b, c⟩; exact ⟨⟨a, b⟩, c⟩
/-- Where there are fewer knots, more pieces are whole. -/
theorem wholesD_mono {long : List Int} {sz : Int} {kn kn' : List Bool} (h : ∀ i, b0 kn' i = true → b0 kn i = true) (i : Nat) (hi : b0 (wholesD long sz kn) i = true) : b0 (wholesD long sz kn') i = true := by
  rw [b0_wholesD] at hi ⊢
  refine ⟨hi.1, hi.2.1, fun j hj => ?_⟩
  have := hi.2.2 j hj
  cases hb : b0 kn' (i + j)
  · rfl
  · rw [h _ hb] at this; cases this
theorem b0_false (n i : Nat) : b0 (List.replicate n false) i = false := by
  by_cases h : i < n
  · simp [b0, h]
  · simp [b0, List.getD_eq_getElem?_getD, h]
theorem cutD_mono {long : List Int} {sz : Int} (h1 : 1 ≤ sz) {kn kn' : List Bool} (h : ∀ i, b0 kn' i = true → b0 kn i = true) : (cutD long sz kn).length ≤ (cutD long sz kn').length :=
  greedy_mono (by omega) (Nat.le_refl _) (wholesD_mono h)

theorem maxF (l : List Int) : ∀ m, m ≤ l.foldl max m ∧ (∀ x ∈ l, x ≤ l.foldl max m) ∧ (l.foldl max m = m ∨ l.foldl max m ∈ l) := by
  induction l with
  | nil => intro m; simp
  | cons a l ih =>
    intro m
    obtain ⟨h1, h2, h3⟩ := ih (max m a)
    rw [List.foldl_cons]
    refine ⟨by omega, ?_, ?_⟩
    · intro x hx
      rcases List.mem_cons.1 hx with rfl | hx
      · omega
      · exact h2 x hx
    · rcases h3 with h3 | h3
      · rcases Int.le_total m a with h | h
        · right; rw [h3, show max m a = a by omega]; simp
        · left; omega
      · right; exact List.mem_cons_of_mem _ h3
/-- No number behind a place is greater than the one that stands there. -/
theorem maxF_stop {l : List Int} {j : Nat} {m x : Int} (hx : l[j]? = some x) (h : ∀ y ∈ l, y ≤ x) : (l.take (j + 1)).foldl max m = l.foldl max m := by
  obtain ⟨a1, a2, a3⟩ := maxF (l.take (j + 1)) m
  obtain ⟨b1, b2, b3⟩ := maxF l m
  have hxt : x ∈ l.take (j + 1) := by rw [List.take_add_one, hx]; simp
  have := a2 x hxt
  have h2 : (l.take (j + 1)).foldl max m ≤ l.foldl max m := by
    rcases a3 with e | e
    · omega
    · exact b2 _ (List.mem_of_mem_take e)
  rcases b3 with e | e
  · omega
  · have := h _ e; omega

/-- How many pieces can be cut in each truth. -/
def hopesD (long : List Int) (sz : Int) (ks : List K4) : List Int := (truthsD long ks).map fun kn => ((cutD long sz kn).length : Int)
theorem hope_stop {long : List Int} {sz : Int} {ks : List K4} (h1 : 1 ≤ sz) {j : Nat} (hj : (truthsD long ks)[j]? = some (List.replicate 72 false)) : ((hopesD long sz ks).take (j + 1)).foldl max 0 = hopeD long sz ks := by
  refine maxF_stop (x := ((cutD long sz (List.replicate 72 false)).length : Int)) (by rw [hopesD, List.getElem?_map, hj]; rfl) ?_
  intro y hy
  simp only [hopesD, List.mem_map] at hy
  obtain ⟨kn, _, rfl⟩ := hy
  have := cutD_mono (long := long) h1 (kn := kn) (kn' := List.replicate 72 false) (fun i hi => by rw [b0_false] at hi; cases hi)
  omega
theorem hope_step {long : List Int} {sz : Int} {ks : List K4} {j : Nat} {kn : List Bool} (hj : (truthsD long ks)[j]? = some kn) : ((hopesD long sz ks).take (j + 1)).foldl max 0 = max (((hopesD long sz ks).take j).foldl max 0) ((cutD long sz kn).length : Int) := by
  rw [List.take_add_one, hopesD, List.getElem?_map, hj]
  simp
theorem hope_range {long : List Int} {sz : Int} {ks : List K4} (hv : LogOk long sz ks) (j : Nat) : 0 ≤ ((hopesD long sz ks).take j).foldl max 0 ∧ ((hopesD long sz ks).take j).foldl max 0 ≤ 72 := by
  obtain ⟨a, b, c⟩ := maxF ((hopesD long sz ks).take j) 0
  refine ⟨a, ?_⟩
  rcases c with e | e
  · omega
  · have hm := List.mem_of_mem_take e
    generalize ((hopesD long sz ks).take j).foldl max 0 = v at *
    simp only [hopesD, List.mem_map] at hm
    obtain ⟨kn, _, h⟩ := hm
    have h1 := hv.s1
    have hw := wideN_eq hv.L
    have := cutL_length (c := wholesD long sz kn) (sz := sz.toNat) (wide := wideN long) (by omega) (wideN long + 1) 0 (by omega)
    rw [← h]
    unfold cutD
    omega

end Go.Proofs.YticfcdbfplfmlaaGreat.Pe
/- The walks of layer 1: how many pieces can be hoped for. -/
namespace Go.Proofs.YticfcdbfplfmlaaGreat.Pe
open Go.RowKit Go.Maps
attribute [local go_sem] Oper.semAt_some


theorem all_range_bools : ∀ (xs ys : List Bool), xs.length = ys.length → ((List.range xs.length).all fun i => xs.getD i false == ys.getD i false) = (xs == ys)
  | [], [], _ => rfl
  | x :: xs, y :: ys, h => by
    have ih := all_range_bools xs ys (by simpa using h)
    rw [List.length_cons, List.range_succ_eq_map, List.all_cons, List.all_map]
    simp only [List.getD_cons_zero, Function.comp_def, List.getD_cons_succ, ih, List.cons_beq_cons]
  | [], _ :: _, h => by simp at h
  | _ :: _, [], h => by simp at h
/-- Two arrays of bools, compared. -/
theorem eq_bools {P : Program} (d : Nat) (t e : TypeId) (n : Nat) (ht : P.underlying t = some (.array n e)) (he : P.underlying e = some .bool) (hsz : ∀ w, (sizeOf e).run P w = .ok 1 w)
    (xs ys : List Bool) (hx : xs.length = n) (hy : ys.length = n) (w : World) :
    (Op.equalIn (d + 2) t (.agg (boolsA xs)) (.agg (boolsA ys))).run P w = .ok (xs == ys) w := by
  rw [← all_range_bools xs ys (hx.trans hy.symm), hx, List.range_eq_range', Op.equalIn]
  simp only [Sem.run_bind, run_underlying ht, Result.andThen_ok, hsz, Std.Legacy.Range.forIn_eq_forIn_range', Std.Legacy.Range.size, Nat.sub_zero, Nat.add_sub_cancel, Nat.div_one]
  have hl : ∀ i ∈ List.range' 0 n 1, i < n := fun i hi => by simpa using (List.mem_range'_1.1 hi).2
  generalize List.range' 0 n 1 = l at hl ⊢
  induction l with
  | nil => simp
  | cons i l ih =>
    have hi : i < n := hl i (by simp)
    have px : (part e (boolsA xs) (i * 1)).run P w = .ok (.bool (xs.getD i false)) w := by
      simp [part, isAgg, run_underlying he, boolsA, List.getD, List.getElem?_eq_getElem (show i < xs.length by omega)]
    have py : (part e (boolsA ys) (i * 1)).run P w = .ok (.bool (ys.getD i false)) w := by
      simp [part, isAgg, run_underlying he, boolsA, List.getD, List.getElem?_eq_getElem (show i < ys.length by omega)]
    have pe : (Op.equalIn (d + 1) e (.bool (xs.getD i false)) (.bool (ys.getD i false))).run P w = .ok (xs.getD i false == ys.getD i false) w := run_equalIn_bool w d e _ _ he
    simp only [List.forIn_cons, Sem.run_bind, px, py, pe, Result.andThen_ok, List.all_cons]
    cases hb : (xs.getD i false == ys.getD i false)
    · simp
    · simp only [Bool.not_true, Bool.false_eq_true, if_false, Sem.run_pure, Result.andThen_ok, Bool.true_and]
      exact ih fun j hj => hl j (by simp [hj])
theorem eq88 (xs : List Bool) (hx : xs.length = 72) (w : World) : (binOp .eql 121 (.agg (boolsA xs)) (.agg Tryz.zeroCells121)).run Tryz.prog w = .ok (.bool (xs == List.replicate 72 false)) w := by
  rw [run_eql_struct, zero88, eq_bools 9998 121 4 72 (by kernel_rfl) (by kernel_rfl) (fun w => by simp [go_sem]) xs _ hx (by simp)]
  rfl

theorem ints_one (w : World) (x : Int) : IntsAt (w.alloc (.cells #[.int .i64 x] 3)) (some ⟨w.heap.size, 0, none⟩) [x] := by
  intro i hi
  obtain rfl : i = 0 := by simpa using hi
  exact ⟨w.heap.size, 0, rfl, by rw [(Row.new w _ _).cell 0 (v := .int .i64 x) rfl]; rfl⟩
theorem maxL_one (a b : Int) : maxL a [b] = max a b := rfl

set_option maxRecDepth 10000 in
set_option maxHeartbeats 800000 in
theorem Hope_bad (p1 : Option Addr) (c1 : Nat) (p2 : Option Addr) (c2 : Nat) (long : List Int) (sz : Int) (ks : List K4) (w0 : World) (h : LogAt w0 p1 p2 long ks) (hb : validB long sz ks = false) :
    Calls Tryz.prog 27 #[.agg #[.slice p1 long.length c1, .int .i64 sz, .slice p2 ks.length c2]] w0 fun e w' => e = .returned (.tuple #[.int .i64 0, .int .i64 10]) ∧ Below w0.heap.size w0 w' := by
  go_enter Tryz.func27, Tryz.ntmps27
  have hba := below_alloc w0 (.cells #[.slice p1 long.length c1, .int .i64 sz, .slice p2 ks.length c2] 65)
  have r0 := Row.new w0 #[.slice p1 long.length c1, .int .i64 sz, .slice p2 ks.length c2] 65
  have HC := Lib.hid (check_any p1 c1 p2 c2 long sz ks _ (h.l.below hba) (h.k.below hba) h.b1 h.b2)
  have HH := Lib.hid h
  clear h
  go_wp2_with (first | (refine HC.out.mono ?_; rw [checkE, hb]; rintro e w2 ⟨rfl, hb3⟩))
  go_ret2
  exact ⟨rfl, hba.trans (hb3.mono (by simp))⟩


set_option maxRecDepth 10000 in
set_option maxHeartbeats 800000 in
theorem Hope_good (p1 : Option Addr) (c1 : Nat) (p2 : Option Addr) (c2 : Nat) (long : List Int) (sz : Int) (ks : List K4) (w0 : World) (h : LogAt w0 p1 p2 long ks) (hb : validB long sz ks = true) :
    Calls Tryz.prog 27 #[.agg #[.slice p1 long.length c1, .int .i64 sz, .slice p2 ks.length c2]] w0 fun e w' => e = .returned (.tuple #[.int .i64 (hopeD long sz ks), .int .i64 0]) ∧ Below w0.heap.size w0 w' := by
  have hok := valid_ok hb
  refine calls_marks Tryz.func27 rfl ?_
  simp only [Tryz.ntmps27, List.size_toArray, List.length_cons, List.length_nil, Nat.reduceAdd, Nat.reduceSub, Array.replicate_succ, Array.replicate_zero, List.push_toArray, List.append_toArray, List.nil_append, List.cons_append]
  have hba := below_alloc w0 (.cells #[.slice p1 long.length c1, .int .i64 sz, .slice p2 ks.length c2] 65)
  have r0 := Row.new w0 #[.slice p1 long.length c1, .int .i64 sz, .slice p2 ks.length c2] 65
  have HC := Lib.hid (check_any p1 c1 p2 c2 long sz ks _ (h.l.below hba) (h.k.below hba) h.b1 h.b2)
  have HH := Lib.hid h
  clear h
  go_wp2_with (first | (refine HC.out.mono ?_; rw [checkE, hb]; rintro e w2 ⟨rfl, hb3⟩; have HB2 := Lib.hid (hba.trans (hb3.mono (by simp))); have r2 := Lib.hid (r0.below hb3 (by simp)); clear hb3; have k0 := r2.out.cell 0 (v := .slice p1 long.length c1) rfl; have k1 := r2.out.cell 1 (v := .int .i64 sz) rfl; have k2 := r2.out.cell 2 (v := .slice p2 ks.length c2) rfl; have hz := r2.out.lt) | (refine (unroll_of p1 c1 p2 c2 long sz ks _ (HH.out.below HB2.out) hok).mono ?_; rintro e w3 ⟨R, mb, nn, f, rfl, hR, hA, hb4⟩; have HB4 := Lib.hid (HB2.out.trans (hb4.mono (by omega))); have hz3 := hb4.size; have HA3 := Lib.hid hA; clear hb4 hA k0 k1 k2) | (refine store_new rfl 115 _ _ rfl R.A zero76 115 rfl rfl (size76 hR.ok.s6) (by rw [R.size hR.ok.s6]; rfl) R.one ?_) | (refine load_row rfl 115 _ rfl _ rfl 115 _ _ ((Row.new w3 R.A 115).alloc (.cells #[.int .i64 0] 3)) Tryz.underlying115 rfl (size76 hR.ok.s6) ?_) | (refine (truths_any R hR.ok.s6 _).mono ?_; rintro e w5 ⟨rfl, rfl⟩))
  have hA5 := ((HA3.out.below (below_alloc w3 (.cells R.A 115))).below (below_alloc _ (.cells #[.int .i64 0] 3))).below (below_alloc _ (.cells R.A 115))
  have hB5 : Below w0.heap.size w0 (((w3.alloc (.cells R.A 115)).alloc (.cells #[.int .i64 0] 3)).alloc (.cells R.A 115)) := ((HB4.out.alloc (by omega) _).alloc (by simp; omega) _).alloc (by simp; omega) _
  have rR : Row (((w3.alloc (.cells R.A 115)).alloc (.cells #[.int .i64 0] 3)).alloc (.cells R.A 115)) w3.heap.size R.A 115 := ((Row.new _ _ _).alloc _).alloc _
  have rM : Row (((w3.alloc (.cells R.A 115)).alloc (.cells #[.int .i64 0] 3)).alloc (.cells R.A 115)) (w3.heap.size + 1) #[.int .i64 0] 3 := (Row.new' (by simp) _ _).alloc _
  have rT : Row (((w3.alloc (.cells R.A 115)).alloc (.cells #[.int .i64 0] 3)).alloc (.cells R.A 115)) (w3.heap.size + 1 + 1) R.A 115 := Row.new' (by simp) _ _
  have hs5 : w3.heap.size + 1 + 1 + 1 = (((w3.alloc (.cells R.A 115)).alloc (.cells #[.int .i64 0] 3)).alloc (.cells R.A 115)).heap.size := by simp
  have HS5 := Lib.hid hs5
  have HW := Lib.hid (show w0.heap.size < w3.heap.size by omega)
  clear hs5 hba r0 HC HA3 HB4 HB2 r2
  go_wp2_with fail
  generalize (((w3.alloc (.cells R.A 115)).alloc (.cells #[.int .i64 0] 3)).alloc (.cells R.A 115)) = w5 at *
  have RR := Lib.hid rR
  have HA5 := Lib.hid hA5
  have HB5 := Lib.hid hB5
  have hk0 : KnotsAt w0 R.p2 ks := by rw [hR.p2]; exact HH.out.k
  have hnM := not_reads (b := w3.heap.size + 1 + 1) hA5 rM (by omega) hk0 (by have := HW.out; omega)
  clear rR hA5 hB5
  refine range_law 80 #[.pointer (some ⟨w3.heap.size + 1 + 1, 0, none⟩)] (readsR R ks (w3.heap.size + 1 + 1) mb) ((truthsD long ks).map fun c => #[cols c]) rfl (fun args w => Tryz.call80 args w)
    (fun W1 hb _ => truths_of hR hok _ W1 (rT.below hb (by have := HS5.out; omega)) (HA5.out.below hb)) (by intro x hx; simp at hx; obtain ⟨_, _, rfl⟩ := hx; rfl) (fun m => m = w3.heap.size + 1)
    (by rintro m rfl; exact ⟨by have := HS5.out; omega, hnM⟩) (not_reads_new HA5.out rT (by omega))
    (fun j A => Row A (w3.heap.size + 1) #[.int .i64 (((hopesD long sz ks).take j).foldl max 0)] 3) (fun c A => c = .exit 0 ∧ Row A (w3.heap.size + 1) #[.int .i64 (hopeD long sz ks)] 3)
    (fun j A B h hb => by have := HS5.out; exact Row.below h hb (by omega)) (fun c A B h hb => by have := HS5.out; exact ⟨h.1, h.2.below hb (by omega)⟩) rM ?body ?done ?stop
  case body =>
    rintro l j x A rfl hx hI hkeep hlA
    obtain ⟨kn, hq, rfl⟩ := map_at hx
    have hlen := truthsD_length (List.mem_of_getElem? hq)
    have HLEN := Lib.hid hlen
    have HST := Lib.hid (hope_step (sz := sz) hq)
    have HSTOP := Lib.hid (fun e : kn = List.replicate 72 false => hope_stop (ks := ks) hok.s1 (by rw [← e]; exact hq))
    have hln := cutD_short hok kn
    have hmr := hope_range hok j
    have RR2 := Lib.hid (RR.out.keeps hkeep (by omega))
    generalize hmo : ((hopesD long sz ks).take j).foldl max 0 = mo at *
    clear hmo hx hq hkeep
    rw [cols_def]
    gi_wp2_with (first | (refine store_newIn rfl 121 _ _ rfl (boolsA kn) Tryz.zeroCells121 121 rfl rfl (size88 HLEN.out) (by rw [zero88, boolsA_size, boolsA_size, HLEN.out, List.length_replicate]) (boolsA_one _) ?_))
    refine ⟨(KeepsBut.refl _ _).alloc _, fun oo => ?_⟩
    generalize hA2 : (A.alloc (Obj.cells (boolsA kn) 121)).putObj (w5.heap.size + 1) oo = A2
    have hsame : ∀ m, m ≠ w5.heap.size + 1 → A2.heap[m]? = (A.alloc (Obj.cells (boolsA kn) 121)).heap[m]? := fun m hm => by rw [← hA2]; exact World.putObj_heap_other hm
    have q0 : Row A2 w3.heap.size R.A 115 := by unfold Row; rw [hsame _ (by have := HS5.out; omega)]; exact RR2.out.alloc _
    have qm : Row A2 (w3.heap.size + 1) #[.int .i64 mo] 3 := by unfold Row; rw [hsame _ (by have := HS5.out; omega)]; exact Row.alloc hI _
    have qk : Row A2 A.heap.size (boolsA kn) 121 := by unfold Row; rw [hsame _ (by omega)]; exact Row.new _ _ _
    have HAS := Lib.hid (show w3.heap.size + 1 + 1 < A.heap.size by have := HS5.out; omega)
    have heq := eq88 kn hlen
    have HEQ := Lib.hid heq
    clear hsame hA2 hI RR2 hlen heq hnM rM rT hk0
    gi_wp2_with fail
    refine region_invIn rfl (by kernel_rfl) (by kernel_rfl) (fun L a v => ∃ x18 x19 x20 x21 x22 x23 : Value, a = { tmps := #[.agg #[.slice p1 long.length c1, .int .i64 sz, .slice p2 ks.length c2], .pointer (some ⟨w0.heap.size, 0, none⟩), .int .i64 0, .int .i64 0, .int .i64 0, .pointer (some ⟨w3.heap.size, 0, none⟩), .pointer (some ⟨w3.heap.size + 1, 0, none⟩), .pointer (some ⟨A.heap.size, 0, none⟩), .agg #[.slice p1 long.length c1, .int .i64 sz, .slice p2 ks.length c2], .int .i64 0, .int .i64 0, .bool false, undef, .agg #[.slice p1 long.length c1, .int .i64 sz, .slice p2 ks.length c2], .agg R.A, .agg R.A, .func (.func 80) #[] #[.pointer (some ⟨w3.heap.size + 1 + 1, 0, none⟩)], .agg (boolsA kn), x18, x19, x20, x21, x22, x23, undef, undef, undef, undef], defers := [] } ∧ Hid (L 0 = true → x18 = .int .i64 mo) ∧ Hid (L 1 = true → x19 = .agg R.A) ∧ Hid (L 2 = true → x20 = .agg (boolsA kn)) ∧ Hid (L 3 = true → x21 = .int .i64 ((cutD long sz kn).length : Int)) ∧ Hid (L 5 = true → x23 = .int .i64 (max mo ((cutD long sz kn).length : Int))) ∧ Hid (Row v w3.heap.size R.A 115) ∧ Hid (Row v A.heap.size (boolsA kn) 121) ∧ Hid (L 6 = false → Row v (w3.heap.size + 1) #[.int .i64 mo] 3) ∧ Hid (L 6 = true → Row v (w3.heap.size + 1) #[.int .i64 (max mo ((cutD long sz kn).length : Int))] 3) ∧ Hid (L 4 = true → L 5 = false → ∃ g, x22 = .slice (some ⟨g, 0, none⟩) 1 1 ∧ IntsAt v (some ⟨g, 0, none⟩) [((cutD long sz kn).length : Int)]) ∧ Hid (L 6 = true → L 0 = true) ∧ Hid (KeepsBut (fun m => m = w3.heap.size + 1) A2 v)) ?h0 ?steps ?hd
    case h0 => exact ⟨_, _, _, _, _, _, rfl, Lib.hid nofun, Lib.hid nofun, Lib.hid nofun, Lib.hid nofun, Lib.hid nofun, Lib.hid (q0), Lib.hid (qk), Lib.hid (fun _ => qm), Lib.hid (nofun), Lib.hid (fun h => by cases h), Lib.hid (nofun), Lib.hid ((KeepsBut.refl _ _).drew)⟩
    case hd =>
      rintro L a v hL ⟨x18, x19, x20, x21, x22, x23, rfl, hf0, hf1, hf2, hf3, hf5, hr0, hkn, hm, hm2, hsl, hord, hkb⟩
      obtain rfl := hf0.out (hL 0 (by decide))
      obtain rfl := hf1.out (hL 1 (by decide))
      obtain rfl := hf2.out (hL 2 (by decide))
      obtain rfl := hf3.out (hL 3 (by decide))
      obtain rfl := hf5.out (hL 5 (by decide))
      clear hf0
      clear hf1
      clear hf2
      clear hf3
      clear hf5
      have hmz := hm2.out (hL 6 (by decide))
      clear hL hm hm2 hsl hord
      cases hz : (kn == List.replicate 72 false)
      · have he : ∀ w, (binOp .eql 121 (.agg (boolsA kn)) (.agg Tryz.zeroCells121)).run Tryz.prog w = .ok (.bool false) w := fun w => by rw [HEQ.out w, hz]
        gi_wp2_with (first | (refine load_rowIn rfl 121 _ rfl _ rfl 121 _ _ hkn.out Tryz.underlying121 rfl (size88 HLEN.out) ?_))
        exact ⟨hkb.out, by rw [HST.out]; exact hmz⟩
      · have he : ∀ w, (binOp .eql 121 (.agg (boolsA kn)) (.agg Tryz.zeroCells121)).run Tryz.prog w = .ok (.bool true) w := fun w => by rw [HEQ.out w, hz]
        gi_wp2_with (first | (refine load_rowIn rfl 121 _ rfl _ rfl 121 _ _ hkn.out Tryz.underlying121 rfl (size88 HLEN.out) ?_))
        exact ⟨hkb.out, rfl, by rw [← HSTOP.out (by simpa using hz), HST.out]; exact hmz⟩
    case steps =>
      refine ⟨?_, ?_, ?_, ?_, ?_, ?_, ?_, trivial⟩
      · rintro L a v hL hk ⟨x18, x19, x20, x21, x22, x23, rfl, hf0, hf1, hf2, hf3, hf5, hr0, hkn, hm, hm2, hsl, hord, hkb⟩ K hK
        have HK0 := Lib.hid hK
        clear hK
        clear hL
        have h6 : L 6 = false := by cases h7 : L 6; rfl; exact absurd (hord.out h7) (by simp [hk])
        have c0 := (hm.out h6).cell 0 (v := .int .i64 mo) rfl
        clear hk
        go_wp2
        exact HK0.out _ _ ⟨_, _, _, _, _, _, rfl, Lib.hid (fun _ => rfl), Lib.hid (fun h => hf1.out (by simpa [upd] using h)), Lib.hid (fun h => hf2.out (by simpa [upd] using h)), Lib.hid (fun h => hf3.out (by simpa [upd] using h)), Lib.hid (fun h => hf5.out (by simpa [upd] using h)), hr0, hkn, Lib.hid (fun h => hm.out (by simpa [upd] using h)), Lib.hid (fun h => hm2.out (by simpa [upd] using h)), Lib.hid (fun h h5 => hsl.out (by simpa [upd] using h) (by simpa [upd] using h5)), Lib.hid (fun h => by have := hord.out (by simpa [upd] using h); first | (simp [upd]; done) | (simp [upd]; simp [this])), hkb⟩
      · rintro L a v hL hk ⟨x18, x19, x20, x21, x22, x23, rfl, hf0, hf1, hf2, hf3, hf5, hr0, hkn, hm, hm2, hsl, hord, hkb⟩ K hK
        have HK0 := Lib.hid hK
        clear hK
        clear hL
        clear hk
        refine wp_load_row 115 _ rfl _ rfl 115 _ (0, 0) _ hr0.out Tryz.underlying115 rfl (size76 hR.ok.s6) ?_
        exact HK0.out _ _ ⟨_, _, _, _, _, _, rfl, Lib.hid (fun h => hf0.out (by simpa [upd] using h)), Lib.hid (fun _ => rfl), Lib.hid (fun h => hf2.out (by simpa [upd] using h)), Lib.hid (fun h => hf3.out (by simpa [upd] using h)), Lib.hid (fun h => hf5.out (by simpa [upd] using h)), hr0, hkn, Lib.hid (fun h => hm.out (by simpa [upd] using h)), Lib.hid (fun h => hm2.out (by simpa [upd] using h)), Lib.hid (fun h h5 => hsl.out (by simpa [upd] using h) (by simpa [upd] using h5)), Lib.hid (fun h => by have := hord.out (by simpa [upd] using h); first | (simp [upd]; done) | (simp [upd]; simp [this])), hkb⟩
      · rintro L a v hL hk ⟨x18, x19, x20, x21, x22, x23, rfl, hf0, hf1, hf2, hf3, hf5, hr0, hkn, hm, hm2, hsl, hord, hkb⟩ K hK
        have HK0 := Lib.hid hK
        clear hK
        clear hL
        clear hk
        refine wp_load_row 121 _ rfl _ rfl 121 _ (0, 0) _ hkn.out Tryz.underlying121 rfl (size88 HLEN.out) ?_
        exact HK0.out _ _ ⟨_, _, _, _, _, _, rfl, Lib.hid (fun h => hf0.out (by simpa [upd] using h)), Lib.hid (fun h => hf1.out (by simpa [upd] using h)), Lib.hid (fun _ => rfl), Lib.hid (fun h => hf3.out (by simpa [upd] using h)), Lib.hid (fun h => hf5.out (by simpa [upd] using h)), hr0, hkn, Lib.hid (fun h => hm.out (by simpa [upd] using h)), Lib.hid (fun h => hm2.out (by simpa [upd] using h)), Lib.hid (fun h h5 => hsl.out (by simpa [upd] using h) (by simpa [upd] using h5)), Lib.hid (fun h => by have := hord.out (by simpa [upd] using h); first | (simp [upd]; done) | (simp [upd]; simp [this])), hkb⟩
      · rintro L a v hL hk ⟨x18, x19, x20, x21, x22, x23, rfl, hf0, hf1, hf2, hf3, hf5, hr0, hkn, hm, hm2, hsl, hord, hkb⟩ K hK
        have HK0 := Lib.hid hK
        clear hK
        obtain rfl := hf1.out (after_on hL 1 rfl)
        obtain rfl := hf2.out (after_on hL 2 rfl)
        clear hL
        clear hk
        go_wp2_with fail
        refine (pieces_of hR hok kn HLEN.out _).mono ?_
        rintro e w6 ⟨rfl, hb6⟩
        exact HK0.out _ _ ⟨_, _, _, _, _, _, rfl, Lib.hid (fun h => hf0.out (by simpa [upd] using h)), Lib.hid (fun _ => rfl), Lib.hid (fun _ => rfl), Lib.hid (fun _ => rfl), Lib.hid (fun h => hf5.out (by simpa [upd] using h)), Lib.hid (hr0.out.below hb6 hr0.out.lt), Lib.hid (hkn.out.below hb6 hkn.out.lt), Lib.hid (fun h => (hm.out (by simpa [upd] using h)).below hb6 (hm.out (by simpa [upd] using h)).lt), Lib.hid (fun h => (hm2.out (by simpa [upd] using h)).below hb6 (hm2.out (by simpa [upd] using h)).lt), Lib.hid (fun h h5 => (hsl.out (by simpa [upd] using h) (by simpa [upd] using h5)).imp fun g h => ⟨h.1, h.2.below hb6⟩), Lib.hid (fun h => by have := hord.out (by simpa [upd] using h); first | (simp [upd]; done) | (simp [upd]; simp [this])), Lib.hid (hkb.out.after hb6)⟩
      · rintro L a v hL hk ⟨x18, x19, x20, x21, x22, x23, rfl, hf0, hf1, hf2, hf3, hf5, hr0, hkn, hm, hm2, hsl, hord, hkb⟩ K hK
        have HK0 := Lib.hid hK
        clear hK
        obtain rfl := hf3.out (after_on hL 3 rfl)
        clear hL
        clear hk
        go_wp2
        exact HK0.out _ _ ⟨_, _, _, _, _, _, rfl, Lib.hid (fun h => hf0.out (by simpa [upd] using h)), Lib.hid (fun h => hf1.out (by simpa [upd] using h)), Lib.hid (fun h => hf2.out (by simpa [upd] using h)), Lib.hid (fun _ => rfl), Lib.hid (fun h => hf5.out (by simpa [upd] using h)), Lib.hid (hr0.out.below (below_alloc v _) hr0.out.lt), Lib.hid (hkn.out.below (below_alloc v _) hkn.out.lt), Lib.hid (fun h => (hm.out (by simpa [upd] using h)).below (below_alloc v _) (hm.out (by simpa [upd] using h)).lt), Lib.hid (fun h => (hm2.out (by simpa [upd] using h)).below (below_alloc v _) (hm2.out (by simpa [upd] using h)).lt), Lib.hid (fun _ _ => ⟨_, rfl, ints_one _ _⟩), Lib.hid (fun h => by have := hord.out (by simpa [upd] using h); first | (simp [upd]; done) | (simp [upd]; simp [this])), Lib.hid (hkb.out.after (below_alloc v _))⟩
      · rintro L a v hL hk ⟨x18, x19, x20, x21, x22, x23, rfl, hf0, hf1, hf2, hf3, hf5, hr0, hkn, hm, hm2, hsl, hord, hkb⟩ K hK
        have HK0 := Lib.hid hK
        clear hK
        obtain rfl := hf0.out (after_on hL 0 rfl)
        obtain ⟨g, rfl, hi⟩ := hsl.out (after_on hL 4 rfl) hk
        clear hL hk
        go_wp2_with fail
        refine (greatest_any mo (some ⟨g, 0, none⟩) 1 [((cutD long sz kn).length : Int)] _ (by simp [maxLen]) hi).mono ?_
        rintro e w6 ⟨rfl, rfl⟩
        rw [maxL_one]
        exact HK0.out _ _ ⟨_, _, _, _, _, _, rfl, Lib.hid (fun _ => rfl), Lib.hid (fun h => hf1.out (by simpa [upd] using h)), Lib.hid (fun h => hf2.out (by simpa [upd] using h)), Lib.hid (fun h => hf3.out (by simpa [upd] using h)), Lib.hid (fun _ => rfl), hr0, hkn, Lib.hid (fun h => hm.out (by simpa [upd] using h)), Lib.hid (fun h => hm2.out (by simpa [upd] using h)), Lib.hid (fun _ h => by simp [upd] at h), Lib.hid (fun h => by have := hord.out (by simpa [upd] using h); first | (simp [upd]; done) | (simp [upd]; simp [this])), hkb⟩
      · rintro L a v hL hk ⟨x18, x19, x20, x21, x22, x23, rfl, hf0, hf1, hf2, hf3, hf5, hr0, hkn, hm, hm2, hsl, hord, hkb⟩ K hK
        have HK0 := Lib.hid hK
        clear hK
        obtain rfl := hf5.out (after_on hL 5 rfl)
        have hrz := hm.out hk
        have f0 := hrz.free 0
        have c0 := hrz.cell 0 (v := .int .i64 mo) rfl
        have HLL := Lib.hid hL
        clear hL hk
        go_wp2
        exact HK0.out _ _ ⟨_, _, _, _, _, _, rfl, Lib.hid (fun h => hf0.out (by simpa [upd] using h)), Lib.hid (fun h => hf1.out (by simpa [upd] using h)), Lib.hid (fun h => hf2.out (by simpa [upd] using h)), Lib.hid (fun h => hf3.out (by simpa [upd] using h)), Lib.hid (fun _ => rfl), Lib.hid (hr0.out.set_other _ _ (by dsimp only; omega)), Lib.hid (hkn.out.set_other _ _ (by have := HAS.out; dsimp only; omega)), Lib.hid (fun h => by simp [upd] at h), Lib.hid (fun _ => hrz.set 0 _), Lib.hid (fun _ h5 => absurd (after_on HLL.out 5 rfl) (by have h9 : L 5 = false := (by simpa [upd] using h5); simp [h9])), Lib.hid (fun _ => by rw [upd_other _ (by decide)]; exact after_on HLL.out 0 rfl), Lib.hid (hkb.out.setCell (.inl rfl) _)⟩
  case done =>
    intro W3 hI hkeep hsz hD
    have hI : Row W3 (w3.heap.size + 1) #[.int .i64 (((hopesD long sz ks).take ((truthsD long ks).map fun c => #[cols c]).length).foldl max 0)] 3 := hI
    rw [List.length_map, List.take_of_length_le (by simp [hopesD])] at hI
    have hmarks := (show Marks w0.heap.size [] w5 from trivial).push hkeep (fun m oo hm h => by subst hm; unfold Row at rM; rw [rM] at h; cases h) (by have := HS5.out; have := HW.out; omega) hD
    have HM := Lib.hid hmarks
    have HB6 := Lib.hid (HB5.out.trans (hkeep.below (n := w0.heap.size) (by have := HS5.out; have := HW.out; omega) (fun m hm => by have := HS5.out; have := HW.out; omega)))
    have cM := hI.cell 0 (v := .int .i64 ((hopesD long sz ks).foldl max 0)) rfl
    clear hkeep hD hmarks hI rM rT hnM hk0
    go_wp2
    refine marks_leave HM.out (fun B2 hB2 => ⟨_, results_tmp2 rfl _ _ _, ?_⟩)
    exact ⟨rfl, HB6.out.trans hB2.below⟩
  case stop =>
    rintro c W3 ⟨rfl, hI⟩ hkeep hsz hD
    have hmarks := (show Marks w0.heap.size [] w5 from trivial).push hkeep (fun m oo hm h => by subst hm; unfold Row at rM; rw [rM] at h; cases h) (by have := HS5.out; have := HW.out; omega) hD
    have HM := Lib.hid hmarks
    have HB6 := Lib.hid (HB5.out.trans (hkeep.below (n := w0.heap.size) (by have := HS5.out; have := HW.out; omega) (fun m hm => by have := HS5.out; have := HW.out; omega)))
    have cM := hI.cell 0 (v := .int .i64 (hopeD long sz ks)) rfl
    clear hkeep hD hmarks hI rM rT hnM hk0
    go_wp2
    refine marks_leave HM.out (fun B2 hB2 => ⟨_, results_tmp2 rfl _ _ _, ?_⟩)
    exact ⟨rfl, HB6.out.trans hB2.below⟩

end Go.Proofs.YticfcdbfplfmlaaGreat.Pe
/- The walks of layer 1: a list of knots without one of them, by 'append'. -/
namespace Go.Proofs.YticfcdbfplfmlaaGreat.Pe
open Go.RowKit Go.Maps
attribute [local go_sem] Oper.semAt_some

/-- The cells of knots. -/
def knotVals (ks : List K4) : List Value := ks.flatMap fun k => k.A.toList
theorem knotVals_length : ∀ ks : List K4, (knotVals ks).length = ks.length * 4
  | [] => rfl
  | k :: ks => by
    have := knotVals_length ks
    rw [knotVals] at this ⊢
    rw [List.flatMap_cons, List.length_append, this]
    simp [K4.A]; omega
theorem knotVals_at : ∀ {ks : List K4} {i : Nat} (h : i < ks.length), (knotVals ks)[i * 4]? = some (.int .i64 ks[i].al) ∧ (knotVals ks)[i * 4 + 1]? = some (.int .i64 ks[i].ah) ∧ (knotVals ks)[i * 4 + 2]? = some (.int .i64 ks[i].fl) ∧ (knotVals ks)[i * 4 + 3]? = some (.int .i64 ks[i].fh)
  | [], _, h => by simp at h
  | k :: ks, 0, _ => by simp [knotVals, K4.A]
  | k :: ks, i + 1, h => by
    have := knotVals_at (ks := ks) (i := i) (by simpa using h)
    have e0 : (i + 1) * 4 = i * 4 + 1 + 1 + 1 + 1 := by omega
    have e1 : (i + 1) * 4 + 1 = i * 4 + 1 + 1 + 1 + 1 + 1 := by omega
    have e2 : (i + 1) * 4 + 2 = i * 4 + 2 + 1 + 1 + 1 + 1 := by omega
    have e3 : (i + 1) * 4 + 3 = i * 4 + 3 + 1 + 1 + 1 + 1 := by omega
    rw [e1, e2, e3, e0]
    simpa [knotVals, K4.A] using this
theorem KnotsAt.cells {w : World} {b o : Nat} {ks : List K4} (h : KnotsAt w (some ⟨b, o, none⟩) ks) : ∀ j u, (knotVals ks)[j]? = some u → w.cell? ⟨b, o + j, none⟩ = some u := by
  intro j u hj
  have hlt : j < ks.length * 4 := by rw [← knotVals_length]; exact (List.getElem?_eq_some_iff.1 hj).1
  have hi : j / 4 < ks.length := by omega
  have hcs : j = j / 4 * 4 ∨ j = j / 4 * 4 + 1 ∨ j = j / 4 * 4 + 2 ∨ j = j / 4 * 4 + 3 := by omega
  generalize j / 4 = q at *
  obtain ⟨b', o', e, h0, h1, h2, h3⟩ := h q hi
  cases e
  obtain ⟨a0, a1, a2, a3⟩ := knotVals_at hi
  rcases hcs with rfl | rfl | rfl | rfl
  · rw [a0] at hj; cases hj; exact h0
  · rw [a1] at hj; cases hj; exact h1
  · rw [a2] at hj; cases hj; exact h2
  · rw [a3] at hj; cases hj; exact h3
theorem knots_of_cells {w : World} {b o : Nat} {ks : List K4} (h : ∀ j u, (knotVals ks)[j]? = some u → w.cell? ⟨b, o + j, none⟩ = some u) : KnotsAt w (some ⟨b, o, none⟩) ks := by
  intro i hi
  obtain ⟨a0, a1, a2, a3⟩ := knotVals_at hi
  exact ⟨b, o, rfl, h _ _ a0, h _ _ a1, h _ _ a2, h _ _ a3⟩
theorem knotVals_append (a b : List K4) : knotVals (a ++ b) = knotVals a ++ knotVals b := List.flatMap_append
theorem knotVals_one (ks : List K4) : ∀ u ∈ knotVals ks, u.oneCell' = true := by
  intro u hu
  simp only [knotVals, List.mem_flatMap] at hu
  obtain ⟨k, _, hu⟩ := hu
  simp [K4.A] at hu
  rcases hu with rfl | rfl | rfl | rfl <;> rfl
theorem KnotsAt.drop {w : World} {b o : Nat} {ks : List K4} (h : KnotsAt w (some ⟨b, o, none⟩) ks) (n : Nat) : KnotsAt w (some ⟨b, o + n * 4, none⟩) (ks.drop n) := by
  intro i hi
  rw [List.length_drop] at hi
  obtain ⟨b', o', e, h0, h1, h2, h3⟩ := h (n + i) (by omega)
  cases e
  refine ⟨b, o + n * 4, rfl, ?_⟩
  rw [show o + n * 4 + i * 4 = o + (n + i) * 4 by omega]
  simp only [List.getElem_drop]
  exact ⟨h0, h1, h2, h3⟩
theorem KnotsAt.take {w : World} {p : Option Addr} {ks : List K4} (h : KnotsAt w p ks) (n : Nat) : KnotsAt w p (ks.take n) := by
  intro i hi
  rw [List.length_take] at hi
  have := h i (by omega)
  simp only [List.getElem_take]
  exact this

theorem wp_append_run {P : Program} {o : Oper} {a : Act} {w w' : World} {Q : Exit → Act → World → Prop} {K : Act → World → Prop} (s x : Operand) (t t' : TypeId) (ho : o.op = Op.call { callee := Callee.builtin Builtin.append, args := #[s, x], argTypes := #[t, t'] }) (vs vx v : Value) (hs : a.eval s = vs) (hx : a.eval x = vx)
    (hr : (Builtin.append_ #[t, t'] o.type #[vs, vx]).run P w = .ok v w') (h : K (a.put o.dst v) w') : o.wp P a w K Q := by
  unfold Oper.wp
  simp [execOp, ho, resolve, invoke, builtin, hs, hx, hr, Result.andThen]
  exact h
theorem Tryz.infoKnot : (Tryz.prog.info? 125).map (fun i => (i.zero, i.size, i.bytes)) = some (some (.agg #[.int .i64 0, .int .i64 0, .int .i64 0, .int .i64 0]), 4, 32) := by kernel_rfl

/-- One knot is left out. -/
theorem append_knots (w : World) (ks : List K4) (p2 : Option Addr) (k : Nat) (hk : k < ks.length) (hks : KnotsAt w p2 ks) (h3 : ks.length ≤ 3) (ty : TypeId) (q : Option Addr) (c' : Nat) (hq : KnotsAt w q (ks.drop (k + 1))) :
    ∃ p c w', (Builtin.append_ #[63, 63] ty #[.slice p2 k k, .slice q (ks.length - (k + 1)) c']).run Tryz.prog w = .ok (.slice p (ks.eraseIdx k).length c) w' ∧ KnotsAt w' p (ks.eraseIdx k) ∧ Below w.heap.size w w' := by
  obtain ⟨i0, hi, hi0, hi1, hi2⟩ := info_parts Tryz.infoKnot
  have he : ks.eraseIdx k = ks.take k ++ ks.drop (k + 1) := List.eraseIdx_eq_take_drop_succ ks k
  have hel : (ks.eraseIdx k).length = k + (ks.length - (k + 1)) := by rw [he, List.length_append, List.length_take, List.length_drop]; omega
  rw [hel]
  obtain ⟨b, o, rfl, _⟩ := hks 0 (by omega)
  rcases Nat.eq_zero_or_pos (ks.length - (k + 1)) with h0 | h0
  · rw [h0, Nat.add_zero]
    have hsrc : Src Tryz.prog i0.size 63 (.slice q 0 c') 0 [] w := by
      cases q with
      | none => exact Src.ofNil w Tryz.underlying63 c'
      | some a => exact Src.ofSlice w Tryz.underlying63 a 0 c' [] (by simp) (by simp) (by simp)
    refine ⟨_, _, _, run_append_nothing w 63 63 ty 125 i0 Tryz.underlying63 hi _ k k (Nat.le_refl _) _ hsrc, ?_, Below.refl _ _⟩
    rw [he, List.drop_eq_nil_of_le (by omega), List.append_nil]
    exact hks.take k
  · obtain ⟨b', o', rfl, _⟩ := hq 0 (by rw [List.length_drop]; omega)
    have hlt : (ks.take k).length = k := by rw [List.length_take]; omega
    obtain ⟨v', w', hr, hown, hg⟩ := run_append_arg_grows (P := Tryz.prog) w 63 ty 125 i0 _ 4 32 Tryz.underlying63 hi hi0 hi1 hi2 rfl (by decide) ⟨b, o, none⟩ k k (knotVals (ks.take k)) (by rw [knotVals_length, hlt]) (fun j u h => by rw [Addr.add_lit]; exact (hks.take k).cells j u h)
      ⟨b', o', none⟩ (ks.length - (k + 1)) c' (knotVals (ks.drop (k + 1))) (by rw [knotVals_length, List.length_drop]) (fun j u h => by rw [Addr.add_lit]; exact hq.cells j u h) (by omega) (by unfold maxLen; omega) (by omega)
    rw [← knotVals_append, ← he] at hown
    rcases hown.2 with ⟨_, hn⟩ | ⟨g, cap, cur, hv, hg0, hh, h1, h2, h3, h4⟩
    · omega
    · refine ⟨_, _, w', by rw [hr, hv], ?_, ⟨hg.os, hg.tape, hg.output, hg.size, fun k hk => hg.block k hk (by simp)⟩⟩
      refine knots_of_cells fun j u hj => ?_
      rw [cell_of_row w' g (0 + j) cur _ (0, 0) hh, Nat.zero_add]
      have hjl : j < (k + (ks.length - (k + 1))) * 4 := by
        have := (List.getElem?_eq_some_iff.1 hj).1
        rw [knotVals_length, hel] at this
        exact this
      rw [← h4, List.getElem?_take_of_lt hjl] at hj
      simpa using hj

end Go.Proofs.YticfcdbfplfmlaaGreat.Pe
