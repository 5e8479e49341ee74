/- The walks of layer 1: the ribbon of a log. -/
import Derived.Test.YtnnlbbmimdohoaaP6
namespace Go.Proofs.Ytnnlbbmimdohoaa
open Go.RowKit Go.Maps
attribute [local go_sem] Oper.semAt_some

theorem Rib.set_s (R : Rib) (h : R.s.length = 6) {i : Nat} (hi : i < 6) (v : Int) : R.A.setIfInBounds (4 + i) (.int .i64 v) = ({ R with s := R.s.set i v } : Rib).A := by
  have e : 4 + i = i + 1 + 1 + 1 + 1 := by omega
  simp [Rib.A, e, List.set_append_left, h, hi, List.map_set]
theorem Rib.set_wide (R : Rib) (v : Int) : R.A.setIfInBounds 3 (.int .i64 v) = ({ R with wide := v } : Rib).A := by
  simp [Rib.A]

/-- The columns of the first turns together. -/
def psum (long : List Int) (i : Nat) : Int := (long.take i).sum
theorem psum_succ {long : List Int} {i : Nat} (h : i < long.length) : psum long (i + 1) = psum long i + at0 long i := by
  rw [psum, take_snoc h, List.sum_append]; simp [psum]
/-- The first columns of turns, as far as some turns go. -/
def startsTo (long : List Int) (i : Nat) : List Int := (List.range 6).map fun j => if j < i then psum long j else 0
theorem startsTo_length (long : List Int) (i : Nat) : (startsTo long i).length = 6 := by simp [startsTo]
theorem startsTo_set {long : List Int} {i : Nat} (hi : i < 6) : (startsTo long i).set i (psum long i) = startsTo long (i + 1) := by
  apply List.ext_getElem?
  intro j
  rw [List.getElem?_set]
  by_cases hj : j < 6
  · by_cases h : i = j
    · subst h; simp [startsTo, hi]
    · have h2 : (j < i + 1) ↔ (j < i) := by omega
      simp [startsTo, h, hj, h2]
  · simp [startsTo, hj]; omega
/-- The ribbon of a log with so many turns unrolled. -/
def ribTo (p1 : Option Addr) (c1 : Nat) (p2 : Option Addr) (c2 : Nat) (long : List Int) (sz : Int) (nk : Nat) (mb : Nat) (i : Nat) : Rib :=
  { p1 := p1, n1 := long.length, c1 := c1, sz := sz, p2 := p2, n2 := nk, c2 := c2, wide := psum long i, s := startsTo long i, mb := some mb }
/-- The turns of a valid log. -/
structure LongOk (long : List Int) : Prop where
  n1 : 1 ≤ long.length
  n6 : long.length ≤ 6
  lo : ∀ t, t < long.length → 1 ≤ at0 long t
  hi : ∀ t, t < long.length → at0 long t ≤ 12
theorem psum_range {long : List Int} (h : LongOk long) : ∀ i, i ≤ long.length → (i : Int) ≤ psum long i ∧ psum long i ≤ 12 * i
  | 0, _ => by simp [psum]
  | i + 1, hi => by
    have := psum_range h i (by omega)
    rw [psum_succ (by omega)]
    have := h.lo i (by omega)
    have := h.hi i (by omega)
    omega
theorem psum_mono {long : List Int} (h : LongOk long) {i : Nat} : ∀ {j : Nat}, i ≤ j → j ≤ long.length → psum long i ≤ psum long j
  | 0, h1, _ => by rw [show i = 0 by omega]; exact Int.le_refl _
  | j + 1, h1, h2 => by
    by_cases e : i = j + 1
    · rw [e]; exact Int.le_refl _
    · have := psum_mono h (i := i) (j := j) (by omega) (by omega)
      rw [psum_succ (by omega)]
      have := h.lo j (by omega)
      omega
theorem rib_ok {p1 : Option Addr} {c1 : Nat} {p2 : Option Addr} {c2 : Nat} {long : List Int} {sz : Int} {nk mb : Nat} (h : LongOk long) : RibOk (ribTo p1 c1 p2 c2 long sz nk mb long.length) long where
  s6 := startsTo_length _ _
  n1 := rfl
  n6 := h.n6
  lo := h.lo
  hi := h.hi
  s0 := fun t ht => by
    have h6 := h.n6
    have e : at0 (startsTo long long.length) t = psum long t := by rw [at0_lt (by rw [startsTo_length]; omega)]; simp [startsTo, ht]
    show 0 ≤ at0 (startsTo long long.length) t
    rw [e]; have := psum_range h t (by omega); omega
  se := fun t ht => by
    have h6 := h.n6
    have e : at0 (startsTo long long.length) t = psum long t := by rw [at0_lt (by rw [startsTo_length]; omega)]; simp [startsTo, ht]
    show at0 (startsTo long long.length) t + at0 long t ≤ psum long long.length
    rw [e, ← psum_succ ht]; exact psum_mono h (by omega) (by omega)
  w72 := by show psum long long.length ≤ 72; have := psum_range h long.length (by omega); have := h.n6; omega

/-- What a map holds behind some places. -/
def fDone (R : Rib) (long : List Int) (l : List (Int × Int)) (a t : Int) : Option (List Bool) := if (a, t) ∈ l then some (trailL R long a t.toNat) else none
theorem fDone_snoc (R : Rib) (long : List Int) (l : List (Int × Int)) (a t : Int) : (fun a' t' => if a' = a ∧ t' = t then some (trailL R long a t.toNat) else fDone R long l a' t') = fDone R long (l ++ [(a, t)]) := by
  funext a' t'
  by_cases h : a' = a ∧ t' = t
  · obtain ⟨rfl, rfl⟩ := h; simp [fDone]
  · rw [if_neg h]
    have : ((a', t') ∈ l ++ [(a, t)]) ↔ (a', t') ∈ l := by simp; intro h1 h2; exact absurd ⟨h1, h2⟩ h
    simp only [fDone, this]
theorem fDone_nil (R : Rib) (long : List Int) : fDone R long [] = fun _ _ => none := by funext a t; simp [fDone]
theorem row_grown {w w' : World} {b m : Nat} {cs : Array Value} {t : TypeId} (h : Row w b cs t) (hg : w.grownBy w' (some m)) (hne : b ≠ m) : Row w' b cs t := by
  unfold Row; rw [hg.block b h.lt (by simpa using hne)]; exact h
theorem keeps_grown {w w' : World} {m : Nat} (hg : w.grownBy w' (some m)) (M : Nat → Prop) (hM : M m) : KeepsBut M w w' :=
  ⟨hg.os, hg.tape, hg.output, hg.size, fun k hk hn => hg.block k hk (fun e => hn (by cases e; exact hM))⟩
theorem IntsAt.grown {w w' : World} {p : Option Addr} {xs : List Int} {m : Nat} (h : IntsAt w p xs) (hg : w.grownBy w' (some m)) (hne : ∀ b o, p = some ⟨b, o, none⟩ → b < w.heap.size → b ≠ m) : IntsAt w' p xs := by
  intro i hi
  obtain ⟨b, o, hp, hc⟩ := h i hi
  have hlt : b < w.heap.size := cell_block hc
  exact ⟨b, o, hp, (World.cell?_of_block (hg.block b hlt (by simpa using hne b o hp hlt))).trans hc⟩
theorem wp_mapUpdate' {P : Program} {op : Oper} {a : Act} {w w' : World} {Q : Exit → Act → World → Prop} {K : Act → World → Prop} (ty : TypeId) (m x y : Operand) (ho : op.op = .mapUpdate ty m x y) (vm vx vy : Value) (hm : a.eval m = vm) (hx : a.eval x = vx) (hy : a.eval y = vy)
    (hr : (Instr.mapUpdate ty vm vx vy).run P w = .ok () w') (h : K (a.put op.dst undef) w') : op.wp P a w K Q := by
  unfold Oper.wp execOp
  simp only [ho, hm, hx, hy, Sem.run_bind, Sem.run_pure, hr, Result.andThen_ok]
  exact h
theorem placesL_short {k : K4} (h : K4Ok k) : (placesL k).length ≤ 168 := by
  obtain ⟨m, hm⟩ : ∃ m : Nat, k.fh - k.fl + 1 = m := ⟨(k.fh - k.fl + 1).toNat, by have := h.f; omega⟩
  obtain ⟨p, hp⟩ : ∃ p : Nat, k.ah - k.al + 1 = p := ⟨(k.ah - k.al + 1).toNat, by have := h.a; omega⟩
  rw [placesL_length hm hp]
  have h1 : p ≤ 24 := by have := h.a0; have := h.a1; omega
  have h2 : m ≤ 7 := by have := h.f0; have := h.f1; omega
  exact Nat.mul_le_mul h1 h2
theorem flat_short : ∀ (ks : List K4), (∀ k ∈ ks, K4Ok k) → (ks.flatMap placesL).length ≤ 168 * ks.length
  | [], _ => by simp
  | k :: ks, h => by
    have h1 := flat_short ks (fun k hk => h k (by simp [hk]))
    have h2 := placesL_short (h k (by simp))
    rw [List.flatMap_cons, List.length_append, List.length_cons]; omega

/-- The call returned a ribbon, with a map that holds its knots' trails; what was there is as it was. -/
def GaveRib (p1 : Option Addr) (c1 : Nat) (p2 : Option Addr) (c2 : Nat) (long : List Int) (sz : Int) (ks : List K4) (w : World) (e : Ending) (w' : World) : Prop :=
  ∃ mb n f, e = .returned (.agg (ribTo p1 c1 p2 c2 long sz ks.length mb long.length).A) ∧ MapIs w' mb n f ∧ Trails (ribTo p1 c1 p2 c2 long sz ks.length mb long.length) long ks f ∧ Below w.heap.size w w'

set_option maxRecDepth 10000 in
set_option maxHeartbeats 1600000 in
theorem unroll_any (p1 : Option Addr) (c1 : Nat) (p2 : Option Addr) (c2 : Nat) (long : List Int) (sz : Int) (ks : List K4) (w : World) (hL : LongOk long) (hl : IntsAt w p1 long) (hks : KnotsAt w p2 ks) (hko : ∀ k ∈ ks, K4Ok k) (h3 : ks.length ≤ 3) :
    Calls Try.prog 56 #[.agg #[.slice p1 long.length c1, .int .i64 sz, .slice p2 ks.length c2]] w (GaveRib p1 c1 p2 c2 long sz ks w) := by
  have HL := Lib.hid hl
  have HKS := Lib.hid hks
  have h6 := hL.n6
  have HP1 := Lib.hid (fun b1 o1 (e1 : p1 = some ⟨b1, o1, none⟩) => by obtain ⟨b, o, e, hc⟩ := hl 0 (by have := hL.n1; omega); rw [e] at e1; cases e1; exact cell_block hc : ∀ b1 o1, p1 = some ⟨b1, o1, none⟩ → b1 < w.heap.size)
  have hmm := @run_makeMap Try.prog
  clear hl hks
  refine calls_marks Try.func56 rfl ?_
  simp only [Try.ntmps56, List.size_toArray, List.length_cons, List.length_nil, Nat.reduceAdd, Nat.reduceSub, Array.replicate_succ, Array.replicate_zero, List.push_toArray, List.append_toArray, List.nil_append, List.cons_append]
  go_wp2_with fail
  clear hmm
  go_loopw [15] (fun i wr => ∃ k : Nat, k ≤ long.length ∧ i = .int .i64 k ∧ Row wr w.heap.size #[.slice p1 long.length c1, .int .i64 sz, .slice p2 ks.length c2] 25 ∧ (∃ zz : Array Value, zz.size = 11 ∧ Row wr (w.heap.size + 1) zz 76) ∧ MapIs wr (w.heap.size + 1 + 1) 0 (fun _ _ => none) ∧ Row wr (w.heap.size + 1 + 1 + 1) (ribTo p1 c1 p2 c2 long sz ks.length (w.heap.size + 1 + 1) k).A 76 ∧ Below w.heap.size w wr) (fun i _ => long.length - (intOf i).toNat)
  case atStart => exact ⟨0, by omega, rfl, ((((Row.new _ _ _).alloc _).alloc _).alloc _), ⟨_, rfl, ((Row.new' (by simp) _ _).alloc _).alloc _⟩, ((by have h := MapIs.made ((w.alloc (.cells #[.slice p1 long.length c1, .int .i64 sz, .slice p2 ks.length c2] 25)).alloc (.cells #[.slice none 0 0, .int .i64 0, .slice none 0 0, .int .i64 0, .int .i64 0, .int .i64 0, .int .i64 0, .int .i64 0, .int .i64 0, .int .i64 0, .map none] 76)); simp only [World.size_alloc] at h; exact h.of_same (Below.heap_alloc _ _ _ (by simp))) : MapIs _ (w.heap.size + 1 + 1) 0 (fun _ _ => none)), Row.new' (by simp) _ _, (((below_alloc _ _).alloc (by simp) _).alloc (by simp; omega) _).alloc (by simp; omega) _⟩
  case round =>
    obtain ⟨k, hk, rfl, r0, ⟨zz, hzz, r1⟩, hm, r3, hb⟩ := hrel
    have R0 := Lib.hid r0
    have R1 := Lib.hid r1
    have HZZ := Lib.hid hzz
    have HM := Lib.hid hm
    have R3 := Lib.hid r3
    have HB := Lib.hid hb
    have hz := r3.lt
    clear r0 r1 hm r3 hb hzz
    have hp := psum_range hL k hk
    by_cases hlt : k < long.length
    · obtain ⟨b, o, rfl, hcell⟩ := (HL.out.below HB.out) k hlt
      have hbl := cell_block hcell
      dsimp only at hbl
      have hlo := hL.lo k hlt
      have hhi := hL.hi k hlt
      have c3 := R3.out.cell 3 (Rib.a3 _)
      have c4 := R3.out.cell (4 + k) (Rib.a4 _ (startsTo_length _ _) (i := k) (by omega))
      have f4 := R3.out.free (4 + k)
      have f3 := R3.out.free 3
      have rs := R3.out.set (4 + k) (.int .i64 (psum long k))
      rw [Rib.set_s _ (startsTo_length _ _) (by omega)] at rs
      have e1 : (ribTo (some ⟨b, o, none⟩) c1 p2 c2 long sz ks.length (w.heap.size + 1 + 1) k).wide = psum long k := rfl
      rw [e1] at c3
      have c3' := rs.cell 3 (Rib.a3 _)
      dsimp only at c3'
      rw [e1] at c3'
      have f3' := rs.free 3
      have RS := Lib.hid rs
      clear rs e1
      go_wp2
      go_roundw
      case measure => simp [intOf]; omega
      case rel =>
        refine ⟨k + 1, by omega, by go_num, (R0.out.set_other _ _ (by dsimp only; omega)).set_other _ _ (by dsimp only; omega), ⟨zz, HZZ.out, (R1.out.set_other _ _ (by dsimp only; omega)).set_other _ _ (by dsimp only; omega)⟩, (HM.out.of_same (Below.heap_setCell _ _ _ _ (by dsimp only; omega))).of_same (Below.heap_setCell _ _ _ _ (by dsimp only; omega)), ?_, (HB.out.setCell (by dsimp only; omega) _).setCell (by dsimp only; omega) _⟩
        have h := RS.out.set 3 (.int .i64 (psum long k + at0 long k))
        rw [Rib.set_wide] at h
        have e : ({ ({ ribTo (some ⟨b, o, none⟩) c1 p2 c2 long sz ks.length (w.heap.size + 1 + 1) k with s := (ribTo (some ⟨b, o, none⟩) c1 p2 c2 long sz ks.length (w.heap.size + 1 + 1) k).s.set k (psum long k) } : Rib) with wide := psum long k + at0 long k } : Rib) = ribTo (some ⟨b, o, none⟩) c1 p2 c2 long sz ks.length (w.heap.size + 1 + 1) (k + 1) := by
          simp only [ribTo, psum_succ hlt, startsTo_set (show k < 6 by omega)]
        rw [← e]
        exact h
    · have e : k = long.length := by omega
      have HR := Lib.hid (show Row wr (w.heap.size + 1 + 1 + 1) (ribTo p1 c1 p2 c2 long sz ks.length (w.heap.size + 1 + 1) long.length).A 76 by rw [← e]; exact R3.out)
      clear e
      have cl := R0.out.cell 2 (v := .slice p2 ks.length c2) rfl
      go_wp2_with fail
      clear cl
      refine wp_loop (fun a v => ∃ (i : Nat) (z7 z8 z35 z36 z37 z38 z39 z40 z41 z42 z43 z44 z45 z46 z47 z48 : Value) (ds : List Deferred), a = { tmps := #[.agg #[.slice p1 long.length c1, .int .i64 sz, .slice p2 ks.length c2], .pointer (some ⟨w.heap.size, 0, none⟩), .pointer (some ⟨w.heap.size + 1, 0, none⟩), .pointer (some ⟨w.heap.size + 1 + 1 + 1, 0, none⟩), u4, u5, undef, z7, z8, .agg #[.slice p1 long.length c1, .int .i64 sz, .slice p2 ks.length c2], .map (some (w.heap.size + 1 + 1)), .agg #[.slice p1 long.length c1, .int .i64 sz, .slice p2 ks.length c2, .int .i64 0, .int .i64 0, .int .i64 0, .int .i64 0, .int .i64 0, .int .i64 0, .int .i64 0, .map (some (w.heap.size + 1 + 1))], .pointer (some ⟨w.heap.size, 0, none⟩), .slice p1 long.length c1, .int .i64 long.length, .int .i64 k, .bool false, u17, u18, u19, u20, u21, u22, u23, u24, u25, u26, u27, u28, u29, u30, .pointer (some ⟨w.heap.size, 2, none⟩), .slice p2 ks.length c2, .int .i64 ks.length, .int .i64 i, z35, z36, z37, z38, z39, z40, z41, z42, z43, z44, z45, z46, z47, z48, undef], defers := ds } ∧ i ≤ ks.length ∧ Row v w.heap.size #[.slice p1 long.length c1, .int .i64 sz, .slice p2 ks.length c2] 25 ∧ Row v (w.heap.size + 1) zz 76 ∧ MapIs v (w.heap.size + 1 + 1) ((ks.take i).flatMap placesL).length (fDone (ribTo p1 c1 p2 c2 long sz ks.length (w.heap.size + 1 + 1) long.length) long ((ks.take i).flatMap placesL)) ∧ Row v (w.heap.size + 1 + 1 + 1) (ribTo p1 c1 p2 c2 long sz ks.length (w.heap.size + 1 + 1) long.length).A 76 ∧ Marks w.heap.size ds v ∧ Below w.heap.size w v)
        (fun a _ => ks.length - (intOf (a.tmps.getD 34 undef)).toNat) ?_ ?_
      · exact ⟨0, _, _, _, _, _, _, _, _, _, _, _, _, _, _, _, _, [], rfl, by omega, R0.out, R1.out, by simpa [fDone_nil] using HM.out, HR.out, trivial, HB.out⟩
      · rintro a wv ⟨i, z7, z8, z35, z36, z37, z38, z39, z40, z41, z42, z43, z44, z45, z46, z47, z48, ds, rfl, hi, r0, r1, hm, r3, hmk, hb⟩
        have R0 := Lib.hid r0
        have R1 := Lib.hid r1
        have HM := Lib.hid hm
        have R3 := Lib.hid r3
        have HMK := Lib.hid hmk
        have HB := Lib.hid hb
        have hz := r3.lt
        clear r0 r1 hm r3 hmk hb
        have hfl := flat_short (ks.take i) (fun k hk => hko k (List.mem_of_mem_take hk))
        have hfl2 : (ks.take i).length ≤ 3 := by rw [List.length_take]; omega
        by_cases hlt : i < ks.length
        · obtain ⟨b, o, rfl, k0, k1, k2, k3⟩ := (HKS.out.below HB.out) i hlt
          have hko' := hko ks[i] (List.getElem_mem _)
          generalize hkk : ks[i] = kn at *
          have HKK := Lib.hid hkk
          clear hkk
          generalize hd0 : (ks.take i).flatMap placesL = d0 at *
          have HD0 := Lib.hid hd0
          clear hd0
          have hbl := cell_block k0
          dsimp only at hbl
          go_wp2_with fail
          refine (places_any kn _).mono ?_
          rintro e w1 ⟨rfl, rfl⟩
          clear k0 k1 k2 k3
          go_wp2_with fail
          generalize hW2 : (wv.alloc (Obj.cells #[Value.int IntKind.i64 kn.al, Value.int IntKind.i64 kn.ah, Value.int IntKind.i64 kn.fl, Value.int IntKind.i64 kn.fh] 61)).alloc (Obj.cells kn.A 113) = w2
          have hB2 : Below wv.heap.size wv w2 := by rw [← hW2]; exact (below_alloc _ _).alloc (by simp) _
          have hs2 : wv.heap.size + 2 ≤ w2.heap.size := by rw [← hW2]; simp
          have hs3 : w2.heap.size ≤ wv.heap.size + 2 := by rw [← hW2]; simp
          have rK : Row w2 (wv.heap.size + 1) kn.A 113 := by rw [← hW2]; exact Row.new' (by simp) _ _
          have Q0 := Lib.hid (R0.out.below hB2 (by omega))
          have Q1 := Lib.hid (R1.out.below hB2 (by omega))
          have Q3 := Lib.hid (R3.out.below hB2 (by omega))
          have QM := Lib.hid (HM.out.of_same (hB2.block _ (by omega)))
          have QMK := Lib.hid (HMK.out.keeps (KeepsBut.of_below (M := fun _ => False) hB2) (fun _ _ h => h.elim))
          have QB := Lib.hid (HB.out.trans (hB2.mono (by omega)))
          clear hW2
          refine range_law 93 #[.pointer (some ⟨wv.heap.size + 1, 0, none⟩)] (fun m => m = wv.heap.size + 1) ((placesL kn).map fun q => #[placeV q.1 q.2]) rfl (fun args w => Try.call93 args w)
            (fun W1 hb _ => places1_iter kn hko' _ W1 (rK.below hb (by omega))) (by intro x hx; simp at hx; obtain ⟨_, _, _, rfl⟩ := hx; rfl) (fun m => m = w.heap.size + 1 + 1) (by rintro m rfl; exact ⟨by omega, by omega⟩) (by omega)
            (fun (j : Nat) (A : World) => MapIs A (w.heap.size + 1 + 1) (d0.length + j) (fDone (ribTo p1 c1 (some ⟨b, o, none⟩) c2 long sz ks.length (w.heap.size + 1 + 1) long.length) long (d0 ++ (placesL kn).take j))) (fun _ _ => False) (fun j A B h hb => by exact MapIs.of_same h (hb.block _ (by omega))) (fun _ _ _ h _ => h) (by simpa using QM.out) ?body ?done ?stop
          case body =>
            rintro l j x A rfl hx hI hkeep hlA
            obtain ⟨⟨qa, qt⟩, hq, rfl⟩ : ∃ q : Int × Int, (placesL kn)[j]? = some q ∧ x = #[placeV q.1 q.2] := by
              rw [List.getElem?_map] at hx
              cases hq : (placesL kn)[j]? with
              | none => rw [hq] at hx; cases hx
              | some q => rw [hq] at hx; cases hx; exact ⟨q, rfl, rfl⟩
            have hmem : (qa, qt) ∈ placesL kn := List.mem_of_getElem? hq
            have hrng := placesL_range hko' hmem
            obtain ⟨tn, rfl⟩ := Int.eq_ofNat_of_zero_le hrng.2.2.1
            have hjl : j < 168 := Nat.lt_of_lt_of_le (List.getElem?_eq_some_iff.1 hq).1 (placesL_short hko')
            have HIA := Lib.hid (show I64 qa from ⟨by omega, by omega⟩)
            have HIT := Lib.hid (show I64 (tn : Int) from ⟨by omega, by omega⟩)
            have HQJ := Lib.hid hq
            have HI := Lib.hid hI
            have HKP := Lib.hid hkeep
            clear hx hq hI hkeep hmem
            unfold placeV
            gi_wp2
            refine ⟨(KeepsBut.refl _ _).alloc _, fun oo => ?_⟩
            have hAz : w2.heap.size + 1 < A.heap.size := hlA
            generalize hA2 : (A.alloc (Obj.cells #[Value.int IntKind.i64 qa, Value.int IntKind.i64 ↑tn] 80)).putObj (w2.heap.size + 1) oo = A2
            have hsame : ∀ m, m ≠ w2.heap.size + 1 → A2.heap[m]? = (A.alloc (Obj.cells #[Value.int IntKind.i64 qa, Value.int IntKind.i64 ↑tn] 80)).heap[m]? := fun m hm => by rw [← hA2]; exact World.putObj_heap_other hm
            have rb3 : Row A2 (w.heap.size + 1 + 1 + 1) (ribTo p1 c1 (some ⟨b, o, none⟩) c2 long sz ks.length (w.heap.size + 1 + 1) long.length).A 76 := by unfold Row; rw [hsame _ (by omega)]; exact ((Q3.out.keeps HKP.out (by omega)).alloc _)
            have rba : Row A2 A.heap.size #[.int .i64 qa, .int .i64 tn] 80 := by unfold Row; rw [hsame _ (by omega)]; exact Row.new _ _ _
            have rbm : MapIs A2 (w.heap.size + 1 + 1) (d0.length + j) (fDone (ribTo p1 c1 (some ⟨b, o, none⟩) c2 long sz ks.length (w.heap.size + 1 + 1) long.length) long (d0 ++ (placesL kn).take j)) := (HI.out.of_same (Below.heap_alloc A _ _ (by omega))).of_same (hsame _ (by omega))
            have hbA : Below w.heap.size w A2 := ⟨by rw [← hA2]; exact HKP.out.os.trans QB.out.os, by rw [← hA2]; exact HKP.out.tape.trans QB.out.tape, by rw [← hA2]; exact HKP.out.output.trans QB.out.output, by have := QB.out.size; rw [← hA2]; simp; omega, fun m hm => by
              rw [hsame m (by omega), Below.heap_alloc _ _ _ (by omega), HKP.out.block m (by omega) (by omega), QB.out.block m hm]⟩
            have rbi : IntsAt A2 p1 long := HL.out.below hbA
            clear hsame hA2 hbA
            gi_wp2_with fail
            have e2 : (placesL kn).take (j + 1) = (placesL kn).take j ++ [(qa, (tn : Int))] := by
              rw [List.take_add_one, HQJ.out]; rfl
            have HE2 := Lib.hid e2
            clear e2
            refine region_invIn rfl (by kernel_rfl) (by kernel_rfl) (fun L a v => ∃ x42 x43 x44 x45 x46 x47 : Value, a = { tmps := #[.agg #[.slice p1 long.length c1, .int .i64 sz, .slice (some ⟨b, o, none⟩) ks.length c2], .pointer (some ⟨w.heap.size, 0, none⟩), .pointer (some ⟨w.heap.size + 1, 0, none⟩), .pointer (some ⟨w.heap.size + 1 + 1 + 1, 0, none⟩), u4, u5, undef, .pointer (some ⟨wv.heap.size, 0, none⟩), .pointer (some ⟨A.heap.size, 0, none⟩), .agg #[.slice p1 long.length c1, .int .i64 sz, .slice (some ⟨b, o, none⟩) ks.length c2], .map (some (w.heap.size + 1 + 1)), .agg #[.slice p1 long.length c1, .int .i64 sz, .slice (some ⟨b, o, none⟩) ks.length c2, .int .i64 0, .int .i64 0, .int .i64 0, .int .i64 0, .int .i64 0, .int .i64 0, .int .i64 0, .map (some (w.heap.size + 1 + 1))], .pointer (some ⟨w.heap.size, 0, none⟩), .slice p1 long.length c1, .int .i64 long.length, .int .i64 k, .bool false, u17, u18, u19, u20, u21, u22, u23, u24, u25, u26, u27, u28, u29, u30, .pointer (some ⟨w.heap.size, 2, none⟩), .slice (some ⟨b, o, none⟩) ks.length c2, .int .i64 ks.length, .int .i64 i, .bool true, .pointer (some ⟨b, o + i * 4, none⟩), .agg #[.int .i64 kn.al, .int .i64 kn.ah, .int .i64 kn.fl, .int .i64 kn.fh], .agg #[.int .i64 kn.al, .int .i64 kn.ah, .int .i64 kn.fl, .int .i64 kn.fh], .agg #[.int .i64 kn.al, .int .i64 kn.ah, .int .i64 kn.fl, .int .i64 kn.fh], .func (.func 93) #[] #[.pointer (some ⟨wv.heap.size + 1, 0, none⟩)], placeV qa tn, x42, x43, x44, x45, x46, x47, z48, undef], defers := [] } ∧ Hid (L 0 = true → x42 = .pointer (some ⟨w.heap.size + 1 + 1 + 1, 10, none⟩)) ∧ Hid (L 1 = true → x43 = .map (some (w.heap.size + 1 + 1))) ∧ Hid (L 2 = true → x44 = placeV qa tn) ∧ Hid (L 3 = true → x45 = .agg (ribTo p1 c1 (some ⟨b, o, none⟩) c2 long sz ks.length (w.heap.size + 1 + 1) long.length).A) ∧ Hid (L 4 = true → x46 = placeV qa tn) ∧ Hid (L 5 = true → x47 = cols (trailL (ribTo p1 c1 (some ⟨b, o, none⟩) c2 long sz ks.length (w.heap.size + 1 + 1) long.length) long qa tn)) ∧ Hid (Row v (w.heap.size + 1 + 1 + 1) (ribTo p1 c1 (some ⟨b, o, none⟩) c2 long sz ks.length (w.heap.size + 1 + 1) long.length).A 76) ∧ Hid (Row v A.heap.size #[.int .i64 qa, .int .i64 tn] 80) ∧ Hid (IntsAt v p1 long) ∧ Hid (L 6 = false → MapIs v (w.heap.size + 1 + 1) (d0.length + j) (fDone (ribTo p1 c1 (some ⟨b, o, none⟩) c2 long sz ks.length (w.heap.size + 1 + 1) long.length) long (d0 ++ (placesL kn).take j))) ∧ Hid (L 6 = true → MapIs v (w.heap.size + 1 + 1) (d0.length + j + 1) (fDone (ribTo p1 c1 (some ⟨b, o, none⟩) c2 long sz ks.length (w.heap.size + 1 + 1) long.length) long (d0 ++ (placesL kn).take j ++ [(qa, (tn : Int))]))) ∧ Hid (KeepsBut (fun m => m = w.heap.size + 1 + 1) A2 v)) ?h0 ?steps ?hd
            case h0 => exact ⟨_, _, _, _, _, _, rfl, Lib.hid nofun, Lib.hid nofun, Lib.hid nofun, Lib.hid nofun, Lib.hid nofun, Lib.hid nofun, Lib.hid (rb3), Lib.hid (rba), Lib.hid (rbi), Lib.hid (fun _ => rbm), Lib.hid (nofun), Lib.hid ((KeepsBut.refl _ _).drew)⟩
            case hd =>
              rintro L a v hL0 ⟨x42, x43, x44, x45, x46, x47, rfl, hf0, hf1, hf2, hf3, hf4, hf5, hr3, hra, hints, hm0, hm1, hk2⟩
              obtain rfl := hf0.out (hL0 0 (by decide))
              obtain rfl := hf1.out (hL0 1 (by decide))
              obtain rfl := hf2.out (hL0 2 (by decide))
              obtain rfl := hf3.out (hL0 3 (by decide))
              obtain rfl := hf4.out (hL0 4 (by decide))
              obtain rfl := hf5.out (hL0 5 (by decide))
              clear hf0
              clear hf1
              clear hf2
              clear hf3
              clear hf4
              clear hf5
              exact (show KeepsBut _ A2 v ∧ MapIs v (w.heap.size + 1 + 1) (d0.length + (j + 1)) (fDone (ribTo p1 c1 (some ⟨b, o, none⟩) c2 long sz ks.length (w.heap.size + 1 + 1) long.length) long (d0 ++ (placesL kn).take (j + 1))) from ⟨hk2.out, by rw [HE2.out, ← List.append_assoc]; exact hm1.out (hL0 6 (by decide))⟩)
            case steps =>
              refine ⟨?_, ?_, ?_, ?_, ?_, ?_, ?_, trivial⟩
              · rintro L a v hL hk ⟨x42, x43, x44, x45, x46, x47, rfl, hf0, hf1, hf2, hf3, hf4, hf5, hr3, hra, hints, hm0, hm1, hk2⟩ K hK
                have HK0 := Lib.hid hK
                clear hK
                clear hL
                clear hk
                go_wp2
                exact HK0.out _ _ ⟨_, _, _, _, _, _, rfl, Lib.hid (fun _ => rfl), Lib.hid (fun h => hf1.out (by simpa [upd] using h)), Lib.hid (fun h => hf2.out (by simpa [upd] using h)), Lib.hid (fun h => hf3.out (by simpa [upd] using h)), Lib.hid (fun h => hf4.out (by simpa [upd] using h)), Lib.hid (fun h => hf5.out (by simpa [upd] using h)), hr3, hra, hints, Lib.hid (fun h => hm0.out (by simpa [upd] using h)), Lib.hid (fun h => hm1.out (by simpa [upd] using h)), hk2⟩
              · rintro L a v hL hk ⟨x42, x43, x44, x45, x46, x47, rfl, hf0, hf1, hf2, hf3, hf4, hf5, hr3, hra, hints, hm0, hm1, hk2⟩ K hK
                have HK0 := Lib.hid hK
                clear hK
                obtain rfl := hf0.out (after_on hL 0 rfl)
                clear hL
                clear hk
                have c10 := hr3.out.cell 10 (Rib.a10 _ (startsTo_length _ _))
                have e10 : (ribTo p1 c1 (some ⟨b, o, none⟩) c2 long sz ks.length (w.heap.size + 1 + 1) long.length).mb = some (w.heap.size + 1 + 1) := rfl
                rw [e10] at c10
                clear e10
                go_wp2
                exact HK0.out _ _ ⟨_, _, _, _, _, _, rfl, Lib.hid (fun _ => rfl), Lib.hid (fun _ => rfl), Lib.hid (fun h => hf2.out (by simpa [upd] using h)), Lib.hid (fun h => hf3.out (by simpa [upd] using h)), Lib.hid (fun h => hf4.out (by simpa [upd] using h)), Lib.hid (fun h => hf5.out (by simpa [upd] using h)), hr3, hra, hints, Lib.hid (fun h => hm0.out (by simpa [upd] using h)), Lib.hid (fun h => hm1.out (by simpa [upd] using h)), hk2⟩
              · rintro L a v hL hk ⟨x42, x43, x44, x45, x46, x47, rfl, hf0, hf1, hf2, hf3, hf4, hf5, hr3, hra, hints, hm0, hm1, hk2⟩ K hK
                have HK0 := Lib.hid hK
                clear hK
                clear hL
                clear hk
                refine wp_load_row 80 _ rfl _ rfl 80 _ (0, 0) _ hra.out Try.underlying80 rfl (by kernel_rfl) ?_
                exact HK0.out _ _ ⟨_, _, _, _, _, _, rfl, Lib.hid (fun h => hf0.out (by simpa [upd] using h)), Lib.hid (fun h => hf1.out (by simpa [upd] using h)), Lib.hid (fun _ => rfl), Lib.hid (fun h => hf3.out (by simpa [upd] using h)), Lib.hid (fun h => hf4.out (by simpa [upd] using h)), Lib.hid (fun h => hf5.out (by simpa [upd] using h)), hr3, hra, hints, Lib.hid (fun h => hm0.out (by simpa [upd] using h)), Lib.hid (fun h => hm1.out (by simpa [upd] using h)), hk2⟩
              · rintro L a v hL hk ⟨x42, x43, x44, x45, x46, x47, rfl, hf0, hf1, hf2, hf3, hf4, hf5, hr3, hra, hints, hm0, hm1, hk2⟩ K hK
                have HK0 := Lib.hid hK
                clear hK
                clear hL
                clear hk
                refine wp_load_row 76 _ rfl _ rfl 76 _ (0, 0) _ hr3.out Try.underlying76 rfl (size76 (startsTo_length _ _)) ?_
                exact HK0.out _ _ ⟨_, _, _, _, _, _, rfl, Lib.hid (fun h => hf0.out (by simpa [upd] using h)), Lib.hid (fun h => hf1.out (by simpa [upd] using h)), Lib.hid (fun h => hf2.out (by simpa [upd] using h)), Lib.hid (fun _ => rfl), Lib.hid (fun h => hf4.out (by simpa [upd] using h)), Lib.hid (fun h => hf5.out (by simpa [upd] using h)), hr3, hra, hints, Lib.hid (fun h => hm0.out (by simpa [upd] using h)), Lib.hid (fun h => hm1.out (by simpa [upd] using h)), hk2⟩
              · rintro L a v hL hk ⟨x42, x43, x44, x45, x46, x47, rfl, hf0, hf1, hf2, hf3, hf4, hf5, hr3, hra, hints, hm0, hm1, hk2⟩ K hK
                have HK0 := Lib.hid hK
                clear hK
                clear hL
                clear hk
                refine wp_load_row 80 _ rfl _ rfl 80 _ (0, 0) _ hra.out Try.underlying80 rfl (by kernel_rfl) ?_
                exact HK0.out _ _ ⟨_, _, _, _, _, _, rfl, Lib.hid (fun h => hf0.out (by simpa [upd] using h)), Lib.hid (fun h => hf1.out (by simpa [upd] using h)), Lib.hid (fun h => hf2.out (by simpa [upd] using h)), Lib.hid (fun h => hf3.out (by simpa [upd] using h)), Lib.hid (fun _ => rfl), Lib.hid (fun h => hf5.out (by simpa [upd] using h)), hr3, hra, hints, Lib.hid (fun h => hm0.out (by simpa [upd] using h)), Lib.hid (fun h => hm1.out (by simpa [upd] using h)), hk2⟩
              · rintro L a v hL hk ⟨x42, x43, x44, x45, x46, x47, rfl, hf0, hf1, hf2, hf3, hf4, hf5, hr3, hra, hints, hm0, hm1, hk2⟩ K hK
                have HK0 := Lib.hid hK
                clear hK
                obtain rfl := hf3.out (after_on hL 3 rfl)
                obtain rfl := hf4.out (after_on hL 4 rfl)
                clear hL
                clear hk
                unfold placeV
                go_wp2_with fail
                refine (trail_any _ long (rib_ok hL) _ hints.out qa tn (by omega) (by omega) (by omega)).mono ?_
                rintro e w1 ⟨rfl, hb1⟩
                exact HK0.out _ _ ⟨_, _, _, _, _, _, rfl, Lib.hid (fun h => hf0.out (by simpa [upd] using h)), Lib.hid (fun h => hf1.out (by simpa [upd] using h)), Lib.hid (fun h => hf2.out (by simpa [upd] using h)), Lib.hid (fun _ => rfl), Lib.hid (fun _ => rfl), Lib.hid (fun _ => rfl), Lib.hid (hr3.out.below hb1 hr3.out.lt), Lib.hid (hra.out.below hb1 hra.out.lt), Lib.hid (hints.out.below hb1), Lib.hid (fun h => (hm0.out (by simpa [upd] using h)).of_same (hb1.block _ (hm0.out (by simpa [upd] using h)).lt)), Lib.hid (fun h => (hm1.out (by simpa [upd] using h)).of_same (hb1.block _ (hm1.out (by simpa [upd] using h)).lt)), Lib.hid (hk2.out.after hb1)⟩
              · rintro L a v hL hk ⟨x42, x43, x44, x45, x46, x47, rfl, hf0, hf1, hf2, hf3, hf4, hf5, hr3, hra, hints, hm0, hm1, hk2⟩ K hK
                have HK0 := Lib.hid hK
                clear hK
                obtain rfl := hf1.out (after_on hL 1 rfl)
                obtain rfl := hf2.out (after_on hL 2 rfl)
                obtain rfl := hf5.out (after_on hL 5 rfl)
                obtain ⟨v2, hrun, hm2, hgrow⟩ := (hm0.out hk).put (by unfold maxLen; omega) HIA.out HIT.out (trailL (ribTo p1 c1 (some ⟨b, o, none⟩) c2 long sz ks.length (w.heap.size + 1 + 1) long.length) long qa tn)
                refine wp_mapUpdate' _ _ _ _ rfl _ _ _ rfl rfl rfl hrun ?_
                exact HK0.out _ _ ⟨_, _, _, _, _, _, rfl, Lib.hid (fun h => hf0.out (by simpa [upd] using h)), Lib.hid (fun _ => rfl), Lib.hid (fun _ => rfl), Lib.hid (fun h => hf3.out (by simpa [upd] using h)), Lib.hid (fun h => hf4.out (by simpa [upd] using h)), Lib.hid (fun _ => rfl), Lib.hid (row_grown hr3.out hgrow (by omega)), Lib.hid (row_grown hra.out hgrow (by omega)), Lib.hid (hints.out.grown hgrow (fun b1 o1 e1 _ => by have := HP1.out b1 o1 e1; omega)), Lib.hid (fun h => by simp [upd] at h), Lib.hid (fun _ => by rw [← fDone_snoc]; exact hm2), Lib.hid (hk2.out.trans (keeps_grown hgrow (fun m => m = w.heap.size + 1 + 1) rfl))⟩
          case done =>
            intro W3 hI hkeep hsz hD
            have hI : MapIs W3 (w.heap.size + 1 + 1) (d0.length + ((placesL kn).map fun q => #[placeV q.1 q.2]).length) (fDone (ribTo p1 c1 (some ⟨b, o, none⟩) c2 long sz ks.length (w.heap.size + 1 + 1) long.length) long (d0 ++ (placesL kn).take ((placesL kn).map fun q => #[placeV q.1 q.2]).length)) := hI
            rw [List.length_map, List.take_length] at hI
            have hmarks := QMK.out.push hkeep (fun m oo hm h => by subst hm; obtain ⟨_, ⟨_, _, hq, _⟩, _⟩ := QM.out; rw [hq] at h; cases h) (by omega) hD
            have H0 := Lib.hid (Q0.out.keeps hkeep (by omega))
            have H1 := Lib.hid (Q1.out.keeps hkeep (by omega))
            have H2 := Lib.hid hI
            have H3 := Lib.hid (Q3.out.keeps hkeep (by omega))
            have H4 := Lib.hid hmarks
            have H5 := Lib.hid (QB.out.trans (hkeep.below (by omega) (fun m hm => by omega)))
            clear hI hkeep hD hmarks
            go_wp2
            have e3 : (ks.take (i + 1)).flatMap placesL = d0 ++ placesL kn := by
              rw [List.take_succ_eq_append_getElem hlt, List.flatMap_append, HD0.out, HKK.out]; simp
            refine ⟨⟨i + 1, _, _, _, _, _, _, _, _, _, _, _, _, _, _, _, _, _, by rw [show ((i + 1 : Nat) : Int) = (i : Int) + 1 by omega], by omega, H0.out, H1.out, ?_, H3.out, H4.out, H5.out⟩, ?_⟩
            · rw [e3, List.length_append]; exact H2.out
            · simp [intOf]; omega
          case stop => intro c W3 h; exact h.elim
        · have e : i = ks.length := by omega
          have HMF := Lib.hid (show MapIs wv (w.heap.size + 1 + 1) (ks.flatMap placesL).length (fDone (ribTo p1 c1 p2 c2 long sz ks.length (w.heap.size + 1 + 1) long.length) long (ks.flatMap placesL)) by have := HM.out; rw [e, List.take_length] at this; exact this)
          clear e
          have HS := Lib.hid (size76 (R := (ribTo p1 c1 p2 c2 long sz ks.length (w.heap.size + 1 + 1) long.length)) (startsTo_length _ _))
          go_wp2_with (first | (refine load_row rfl 76 _ rfl _ rfl 76 _ _ R3.out Try.underlying76 rfl HS.out ?_) | (refine store_row rfl 76 _ _ rfl _ _ _ _ rfl rfl R1.out HS.out (by rw [HZZ.out, Rib.size _ (startsTo_length _ _)]) (Rib.one _) ?_))
          have hr2 := R1.out.setRow (ribTo p1 c1 p2 c2 long sz ks.length (w.heap.size + 1 + 1) long.length).A
          have hmk := HMK.out.same (B := wv.setRow (w.heap.size + 1) (ribTo p1 c1 p2 c2 long sz ks.length (w.heap.size + 1 + 1) long.length).A) (fun m o h => _root_.Go.setRow_other _ _ _ _ (fun e => by subst e; have := R1.out; unfold Row at this; rw [this] at h; cases h))
          have hbb := below_setRow HB.out (show w.heap.size ≤ w.heap.size + 1 by omega) (ribTo p1 c1 p2 c2 long sz ks.length (w.heap.size + 1 + 1) long.length).A
          refine marks_leave hmk (fun B2 hB2 => ?_)
          have hr3 : Row B2 (w.heap.size + 1) (ribTo p1 c1 p2 c2 long sz ks.length (w.heap.size + 1 + 1) long.length).A 76 := by unfold Row; rw [hB2.rest _ (fun o h => by unfold Row at hr2; rw [hr2] at h; cases h)]; exact hr2
          have hm3 := (HMF.out.of_same (w' := wv.setRow (w.heap.size + 1) (ribTo p1 c1 p2 c2 long sz ks.length (w.heap.size + 1 + 1) long.length).A) (_root_.Go.setRow_other _ _ _ _ (by omega)))
          have hm4 := hm3.of_same (w' := B2) (hB2.rest _ (fun o h => by obtain ⟨_, ⟨_, _, hq, _⟩, _⟩ := hm3; rw [hq] at h; cases h))
          refine ⟨_, results_cell_row Try.results56 _ _ _ _ _ _ _ rfl hr3 Try.underlying76 rfl HS.out, ?_⟩
          exact ⟨_, _, _, rfl, hm4, fun k hk q hq => by simp only [fDone, if_pos (List.mem_flatMap.2 ⟨k, hk, hq⟩)], hbb.trans hB2.below⟩

end Go.Proofs.Ytnnlbbmimdohoaa
