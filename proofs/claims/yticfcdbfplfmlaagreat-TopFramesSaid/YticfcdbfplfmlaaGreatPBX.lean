/- The walks of layer 1: the ribbon of a log. -/
import Derived.Test.YticfcdbfplfmlaaGreatPAX
namespace Go.Proofs.YticfcdbfplfmlaaGreat.Pe
open Go.RowKit Go.Maps
attribute [local go_sem] Oper.semAt_some

theorem Rib.set_s (R : Rib) (h : R.s.length = 6) {i : Nat} (hi : i < 6) (v : Int) : R.A.setIfInBounds (4 + i) (.int .i64 v) = ({ R with s := R.s.set i v } : Rib).A := by
  have e : 4 + i = i + 1 + 1 + 1 + 1 := by omega
  simp [Rib.A, e, List.set_append_left, h, hi, List.map_set]
theorem Rib.set_wide (R : Rib) (v : Int) : R.A.setIfInBounds 3 (.int .i64 v) = ({ R with wide := v } : Rib).A := by
  simp [Rib.A]

/-- The columns of the first turns together. -/
def psum (long : List Int) (i : Nat) : Int := (long.take i).sum
theorem psum_succ {long : List Int} {i : Nat} (h : i < long.length) : psum long (i + 1) = psum long i + at0 long i := by
  rw [psum, take_snoc h, List.sum_append]; simp [psum]
/-- The first columns of turns, as far as some turns go. -/
def startsTo (long : List Int) (i : Nat) : List Int := (List.range 6).map fun j => if j < i then psum long j else 0
theorem startsTo_length (long : List Int) (i : Nat) : (startsTo long i).length = 6 := by simp [startsTo]
theorem startsTo_set {long : List Int} {i : Nat} (hi : i < 6) : (startsTo long i).set i (psum long i) = startsTo long (i + 1) := by
  apply List.ext_getElem?
  intro j
  rw [List.getElem?_set]
  by_cases hj : j < 6
  · by_cases h : i = j
    · subst h; simp [startsTo, hi]
    · have h2 : (j < i + 1) ↔ (j < i) := by omega
      simp [startsTo, h, hj, h2]
  · simp [startsTo, hj]; omega
/-- The ribbon of a log with so many turns unrolled. -/
def ribTo (p1 : Option Addr) (c1 : Nat) (p2 : Option Addr) (c2 : Nat) (long : List Int) (sz : Int) (nk : Nat) (mb : Nat) (i : Nat) : Rib :=
  { p1 := p1, n1 := long.length, c1 := c1, sz := sz, p2 := p2, n2 := nk, c2 := c2, wide := psum long i, s := startsTo long i, mb := some mb }
/-- The turns of a valid log. -/
structure LongOk (long : List Int) : Prop where
  n1 : 1 ≤ long.length
  n6 : long.length ≤ 6
  lo : ∀ t, t < long.length → 1 ≤ at0 long t
  hi : ∀ t, t < long.length → at0 long t ≤ 12
theorem psum_range {long : List Int} (h : LongOk long) : ∀ i, i ≤ long.length → (i : Int) ≤ psum long i ∧ psum long i ≤ 12 * i
  | 0, _ => by simp [psum]
  | i + 1, hi => by
    have := psum_range h i (by omega)
    rw [psum_succ (by omega)]
    have := h.lo i (by omega)
    have := h.hi i (by omega)
    omega
theorem psum_mono {long : List Int} (h : LongOk long) {i : Nat} : ∀ {j : Nat}, i ≤ j → j ≤ long.length → psum long i ≤ psum long j
  | 0, h1, _ => by rw [show i = 0 by omega]; exact Int.le_refl _
  | j + 1, h1, h2 => by
    by_cases e : i = j + 1
    · rw [e]; exact Int.le_refl _
    · have := psum_mono h (i := i) (j := j) (by omega) (by omega)
      rw [psum_succ (by omega)]
      have := h.lo j (by omega)
      omega
theorem rib_ok {p1 : Option Addr} {c1 : Nat} {p2 : Option Addr} {c2 : Nat} {long : List Int} {sz : Int} {nk mb : Nat} (h : LongOk long) : RibOk (ribTo p1 c1 p2 c2 long sz nk mb long.length) long where
  s6 := startsTo_length _ _
  n1 := rfl
  n6 := h.n6
  lo := h.lo
  hi := h.hi
  s0 := fun t ht => by
    have h6 := h.n6
    have e : at0 (startsTo long long.length) t = psum long t := by rw [at0_lt (by rw [startsTo_length]; omega)]; simp [startsTo, ht]
    show 0 ≤ at0 (startsTo long long.length) t
    rw [e]; have := psum_range h t (by omega); omega
  se := fun t ht => by
    have h6 := h.n6
    have e : at0 (startsTo long long.length) t = psum long t := by rw [at0_lt (by rw [startsTo_length]; omega)]; simp [startsTo, ht]
    show at0 (startsTo long long.length) t + at0 long t ≤ psum long long.length
    rw [e, ← psum_succ ht]; exact psum_mono h (by omega) (by omega)
  w72 := by show psum long long.length ≤ 72; have := psum_range h long.length (by omega); have := h.n6; omega

/-- What a map holds behind some places. -/
def fDone (R : Rib) (long : List Int) (l : List (Int × Int)) (a t : Int) : Option (List Bool) := if (a, t) ∈ l then some (trailL R long a t.toNat) else none
theorem fDone_snoc (R : Rib) (long : List Int) (l : List (Int × Int)) (a t : Int) : (fun a' t' => if a' = a ∧ t' = t then some (trailL R long a t.toNat) else fDone R long l a' t') = fDone R long (l ++ [(a, t)]) := by
  funext a' t'
  by_cases h : a' = a ∧ t' = t
  · obtain ⟨rfl, rfl⟩ := h; simp [fDone]
  · rw [if_neg h]
    have : ((a', t') ∈ l ++ [(a, t)]) ↔ (a', t') ∈ l := by simp; intro h1 h2; exact absurd ⟨h1, h2⟩ h
    simp only [fDone, this]
theorem fDone_nil (R : Rib) (long : List Int) : fDone R long [] = fun _ _ => none := by funext a t; simp [fDone]
theorem row_grown {w w' : World} {b m : Nat} {cs : Array Value} {t : TypeId} (h : Row w b cs t) (hg : w.grownBy w' (some m)) (hne : b ≠ m) : Row w' b cs t := by
  unfold Row; rw [hg.block b h.lt (by simpa using hne)]; exact h
theorem keeps_grown {w w' : World} {m : Nat} (hg : w.grownBy w' (some m)) (M : Nat → Prop) (hM : M m) : KeepsBut M w w' :=
  ⟨hg.os, hg.tape, hg.output, hg.size, fun k hk hn => hg.block k hk (fun e => hn (by cases e; exact hM))⟩
theorem _root_.Go.Proofs.YticfcdbfplfmlaaGreat.IntsAt.grown {w w' : World} {p : Option Addr} {xs : List Int} {m : Nat} (h : IntsAt w p xs) (hg : w.grownBy w' (some m)) (hne : ∀ b o, p = some ⟨b, o, none⟩ → b < w.heap.size → b ≠ m) : IntsAt w' p xs := by
  intro i hi
  obtain ⟨b, o, hp, hc⟩ := h i hi
  have hlt : b < w.heap.size := cell_block hc
  exact ⟨b, o, hp, (World.cell?_of_block (hg.block b hlt (by simpa using hne b o hp hlt))).trans hc⟩
theorem wp_mapUpdate' {P : Program} {op : Oper} {a : Act} {w w' : World} {Q : Exit → Act → World → Prop} {K : Act → World → Prop} (ty : TypeId) (m x y : Operand) (ho : op.op = .mapUpdate ty m x y) (vm vx vy : Value) (hm : a.eval m = vm) (hx : a.eval x = vx) (hy : a.eval y = vy)
    (hr : (Instr.mapUpdate ty vm vx vy).run P w = .ok () w') (h : K (a.put op.dst undef) w') : op.wp P a w K Q := by
  unfold Oper.wp execOp
  simp only [ho, hm, hx, hy, Sem.run_bind, Sem.run_pure, hr, Result.andThen_ok]
  exact h
theorem placesL_short {k : K4} (h : K4Ok k) : (placesL k).length ≤ 168 := by
  obtain ⟨m, hm⟩ : ∃ m : Nat, k.fh - k.fl + 1 = m := ⟨(k.fh - k.fl + 1).toNat, by have := h.f; omega⟩
  obtain ⟨p, hp⟩ : ∃ p : Nat, k.ah - k.al + 1 = p := ⟨(k.ah - k.al + 1).toNat, by have := h.a; omega⟩
  rw [placesL_length hm hp]
  have h1 : p ≤ 24 := by have := h.a0; have := h.a1; omega
  have h2 : m ≤ 7 := by have := h.f0; have := h.f1; omega
  exact Nat.mul_le_mul h1 h2
theorem flat_short : ∀ (ks : List K4), (∀ k ∈ ks, K4Ok k) → (ks.flatMap placesL).length ≤ 168 * ks.length
  | [], _ => by simp
  | k :: ks, h => by
    have h1 := flat_short ks (fun k hk => h k (by simp [hk]))
    have h2 := placesL_short (h k (by simp))
    rw [List.flatMap_cons, List.length_append, List.length_cons]; omega

/-- The call returned a ribbon, with a map that holds its knots' trails; what was there is as it was. -/
def GaveRib (p1 : Option Addr) (c1 : Nat) (p2 : Option Addr) (c2 : Nat) (long : List Int) (sz : Int) (ks : List K4) (w : World) (e : Ending) (w' : World) : Prop :=
  ∃ mb n f, e = .returned (.agg (ribTo p1 c1 p2 c2 long sz ks.length mb long.length).A) ∧ MapIs w' mb n f ∧ Trails (ribTo p1 c1 p2 c2 long sz ks.length mb long.length) long ks f ∧ Below w.heap.size w w'

set_option maxRecDepth 10000 in
set_option maxHeartbeats 1600000 in
theorem unroll_any (p1 : Option Addr) (c1 : Nat) (p2 : Option Addr) (c2 : Nat) (long : List Int) (sz : Int) (ks : List K4) (w : World) (hL : LongOk long) (hl : IntsAt w p1 long) (hks : KnotsAt w p2 ks) (hko : ∀ k ∈ ks, K4Ok k) (h3 : ks.length ≤ 3) :
    Calls Tryz.prog 56 #[.agg #[.slice p1 long.length c1, .int .i64 sz, .slice p2 ks.length c2]] w (GaveRib p1 c1 p2 c2 long sz ks w) := by
  have HL := Lib.hid hl
  have HKS := Lib.hid hks
  have h6 := hL.n6
  have HP1 := Lib.hid (fun b1 o1 (e1 : p1 = some ⟨b1, o1, none⟩) => by obtain ⟨b, o, e, hc⟩ := hl 0 (by have := hL.n1; omega); rw [e] at e1; cases e1; exact cell_block hc : ∀ b1 o1, p1 = some ⟨b1, o1, none⟩ → b1 < w.heap.size)
  have hmm := @run_makeMap Tryz.prog
  clear hl hks
  refine calls_marks Tryz.func56 rfl ?_
  simp only [Tryz.ntmps56, List.size_toArray, List.length_cons, List.length_nil, Nat.reduceAdd, Nat.reduceSub, Array.replicate_succ, Array.replicate_zero, List.push_toArray, List.append_toArray, List.nil_append, List.cons_append]
  go_wp2_with fail
  clear hmm
  go_loopw [15] (fun i wr => ∃ k : Nat, k ≤ long.length ∧ i = .int .i64 k ∧ Row wr w.heap.size #[.slice p1 long.length c1, .int .i64 sz, .slice p2 ks.length c2] 65 ∧ (∃ zz : Array Value, zz.size = 11 ∧ Row wr (w.heap.size + 1) zz 115) ∧ MapIs wr (w.heap.size + 1 + 1) 0 (fun _ _ => none) ∧ Row wr (w.heap.size + 1 + 1 + 1) (ribTo p1 c1 p2 c2 long sz ks.length (w.heap.size + 1 + 1) k).A 115 ∧ Below w.heap.size w wr) (fun i _ => long.length - (intOf i).toNat)
  case atStart => exact ⟨0, by omega, rfl, ((((Row.new _ _ _).alloc _).alloc _).alloc _), ⟨_, rfl, ((Row.new' (by simp) _ _).alloc _).alloc _⟩, ((by have h := MapIs.made ((w.alloc (.cells #[.slice p1 long.length c1, .int .i64 sz, .slice p2 ks.length c2] 65)).alloc (.cells #[.slice none 0 0, .int .i64 0, .slice none 0 0, .int .i64 0, .int .i64 0, .int .i64 0, .int .i64 0, .int .i64 0, .int .i64 0, .int .i64 0, .map none] 115)); simp only [World.size_alloc] at h; exact h.of_same (Below.heap_alloc _ _ _ (by simp))) : MapIs _ (w.heap.size + 1 + 1) 0 (fun _ _ => none)), Row.new' (by simp) _ _, (((below_alloc _ _).alloc (by simp) _).alloc (by simp; omega) _).alloc (by simp; omega) _⟩
  case round =>
    obtain ⟨k, hk, rfl, r0, ⟨zz, hzz, r1⟩, hm, r3, hb⟩ := hrel
    have R0 := Lib.hid r0
    have R1 := Lib.hid r1
    have HZZ := Lib.hid hzz
    have HM := Lib.hid hm
    have R3 := Lib.hid r3
    have HB := Lib.hid hb
    have hz := r3.lt
    clear r0 r1 hm r3 hb hzz
    have hp := psum_range hL k hk
    by_cases hlt : k < long.length
    · obtain ⟨b, o, rfl, hcell⟩ := (HL.out.below HB.out) k hlt
      have hbl := cell_block hcell
      dsimp only at hbl
      have hlo := hL.lo k hlt
      have hhi := hL.hi k hlt
      have c3 := R3.out.cell 3 (Rib.a3 _)
      have c4 := R3.out.cell (4 + k) (Rib.a4 _ (startsTo_length _ _) (i := k) (by omega))
      have f4 := R3.out.free (4 + k)
      have f3 := R3.out.free 3
      have rs := R3.out.set (4 + k) (.int .i64 (psum long k))
      rw [Rib.set_s _ (startsTo_length _ _) (by omega)] at rs
      have e1 : (ribTo (some ⟨b, o, none⟩) c1 p2 c2 long sz ks.length (w.heap.size + 1 + 1) k).wide = psum long k := rfl
      rw [e1] at c3
      have c3' := rs.cell 3 (Rib.a3 _)
      dsimp only at c3'
      rw [e1] at c3'
      have f3' := rs.free 3
      have RS := Lib.hid rs
      clear rs e1
      go_wp2
      go_roundw
      case measure => simp [intOf]; omega
      case rel =>
        refine ⟨k + 1, by omega, by go_num, (R0.out.set_other _ _ (by dsimp only; omega)).set_other _ _ (by dsimp only; omega), ⟨zz, HZZ.out, (R1.out.set_other _ _ (by dsimp only; omega)).set_other _ _ (by dsimp only; omega)⟩, (HM.out.of_same (Below.heap_setCell _ _ _ _ (by dsimp only; omega))).of_same (Below.heap_setCell _ _ _ _ (by dsimp only; omega)), ?_, (HB.out.setCell (by dsimp only; omega) _).setCell (by dsimp only; omega) _⟩
        have h := RS.out.set 3 (.int .i64 (psum long k + at0 long k))
        rw [Rib.set_wide] at h
        have e : ({ ({ ribTo (some ⟨b, o, none⟩) c1 p2 c2 long sz ks.length (w.heap.size + 1 + 1) k with s := (ribTo (some ⟨b, o, none⟩) c1 p2 c2 long sz ks.length (w.heap.size + 1 + 1) k).s.set k (psum long k) } : Rib) with wide := psum long k + at0 long k } : Rib) = ribTo (some ⟨b, o, none⟩) c1 p2 c2 long sz ks.length (w.heap.size + 1 + 1) (k + 1) := by
          simp only [ribTo, psum_succ hlt, startsTo_set (show k < 6 by omega)]
        rw [← e]
        exact h
    · have e : k = long.length := by omega
      have HR := Lib.hid (show Row wr (w.heap.size + 1 + 1 + 1) (ribTo p1 c1 p2 c2 long sz ks.length (w.heap.size + 1 + 1) long.length).A 115 by rw [← e]; exact R3.out)
      clear e
      have cl := R0.out.cell 2 (v := .slice p2 ks.length c2) rfl
      go_wp2_with fail
      clear cl
      refine wp_loop (fun a v => ∃ (i : Nat) (z7 z8 z35 z36 z37 z38 z39 z40 z41 z42 z43 z44 z45 z46 z47 z48 : Value) (ds : List Deferred), a = { tmps := #[.agg #[.slice p1 long.length c1, .int .i64 sz, .slice p2 ks.length c2], .pointer (some ⟨w.heap.size, 0, none⟩), .pointer (some ⟨w.heap.size + 1, 0, none⟩), .pointer (some ⟨w.heap.size + 1 + 1 + 1, 0, none⟩), u4, u5, undef, z7, z8, .agg #[.slice p1 long.length c1, .int .i64 sz, .slice p2 ks.length c2], .map (some (w.heap.size + 1 + 1)), .agg #[.slice p1 long.length c1, .int .i64 sz, .slice p2 ks.length c2, .int .i64 0, .int .i64 0, .int .i64 0, .int .i64 0, .int .i64 0, .int .i64 0, .int .i64 0, .map (some (w.heap.size + 1 + 1))], .pointer (some ⟨w.heap.size, 0, none⟩), .slice p1 long.length c1, .int .i64 long.length, .int .i64 k, .bool false, u17, u18, u19, u20, u21, u22, u23, u24, u25, u26, u27, u28, u29, u30, .pointer (some ⟨w.heap.size, 2, none⟩), .slice p2 ks.length c2, .int .i64 ks.length, .int .i64 i, z35, z36, z37, z38, z39, z40, z41, z42, z43, z44, z45, z46, z47, z48, undef], defers := ds } ∧ i ≤ ks.length ∧ Row v w.heap.size #[.slice p1 long.length c1, .int .i64 sz, .slice p2 ks.length c2] 65 ∧ Row v (w.heap.size + 1) zz 115 ∧ MapIs v (w.heap.size + 1 + 1) ((ks.take i).flatMap placesL).length (fDone (ribTo p1 c1 p2 c2 long sz ks.length (w.heap.size + 1 + 1) long.length) long ((ks.take i).flatMap placesL)) ∧ Row v (w.heap.size + 1 + 1 + 1) (ribTo p1 c1 p2 c2 long sz ks.length (w.heap.size + 1 + 1) long.length).A 115 ∧ Marks w.heap.size ds v ∧ Below w.heap.size w v)
        (fun a _ => ks.length - (intOf (a.tmps.getD 34 undef)).toNat) ?_ ?_
      · exact ⟨0, _, _, _, _, _, _, _, _, _, _, _, _, _, _, _, _, [], rfl, by omega, R0.out, R1.out, by simpa [fDone_nil] using HM.out, HR.out, trivial, HB.out⟩
      · rintro a wv ⟨i, z7, z8, z35, z36, z37, z38, z39, z40, z41, z42, z43, z44, z45, z46, z47, z48, ds, rfl, hi, r0, r1, hm, r3, hmk, hb⟩
        have R0 := Lib.hid r0
        have R1 := Lib.hid r1
        have HM := Lib.hid hm
        have R3 := Lib.hid r3
        have HMK := Lib.hid hmk
        have HB := Lib.hid hb
        have hz := r3.lt
        clear r0 r1 hm r3 hmk hb
        have hfl := flat_short (ks.take i) (fun k hk => hko k (List.mem_of_mem_take hk))
        have hfl2 : (ks.take i).length ≤ 3 := by rw [List.length_take]; omega
        by_cases hlt : i < ks.length
        · obtain ⟨b, o, rfl, k0, k1, k2, k3⟩ := (HKS.out.below HB.out) i hlt
          have hko' := hko ks[i] (List.getElem_mem _)
          generalize hkk : ks[i] = kn at *
          have HKK := Lib.hid hkk
          clear hkk
          generalize hd0 : (ks.take i).flatMap placesL = d0 at *
          have HD0 := Lib.hid hd0
          clear hd0
          have hbl := cell_block k0
          dsimp only at hbl
          go_wp2_with fail
          refine (places_any kn _).mono ?_
          rintro e w1 ⟨rfl, rfl⟩
          clear k0 k1 k2 k3
          go_wp2_with fail
          generalize hW2 : (wv.alloc (Obj.cells #[Value.int IntKind.i64 kn.al, Value.int IntKind.i64 kn.ah, Value.int IntKind.i64 kn.fl, Value.int IntKind.i64 kn.fh] 125)).alloc (Obj.cells kn.A 171) = w2
          have hB2 : Below wv.heap.size wv w2 := by rw [← hW2]; exact (below_alloc _ _).alloc (by simp) _
          have hs2 : wv.heap.size + 2 ≤ w2.heap.size := by rw [← hW2]; simp
          have hs3 : w2.heap.size ≤ wv.heap.size + 2 := by rw [← hW2]; simp
          have rK : Row w2 (wv.heap.size + 1) kn.A 171 := by rw [← hW2]; exact Row.new' (by simp) _ _
          have Q0 := Lib.hid (R0.out.below hB2 (by omega))
          have Q1 := Lib.hid (R1.out.below hB2 (by omega))
          have Q3 := Lib.hid (R3.out.below hB2 (by omega))
          have QM := Lib.hid (HM.out.of_same (hB2.block _ (by omega)))
          have QMK := Lib.hid (HMK.out.keeps (KeepsBut.of_below (M := fun _ => False) hB2) (fun _ _ h => h.elim))
          have QB := Lib.hid (HB.out.trans (hB2.mono (by omega)))
          clear hW2
          refine range_law 104 #[.pointer (some ⟨wv.heap.size + 1, 0, none⟩)] (fun m => m = wv.heap.size + 1) ((placesL kn).map fun q => #[placeV q.1 q.2]) rfl (fun args w => Tryz.call104 args w)
            (fun W1 hb _ => places1_iter kn hko' _ W1 (rK.below hb (by omega))) (by intro x hx; simp at hx; obtain ⟨_, _, _, rfl⟩ := hx; rfl) (fun m => m = w.heap.size + 1 + 1) (by rintro m rfl; exact ⟨by omega, by omega⟩) (by omega)
            (fun (j : Nat) (A : World) => MapIs A (w.heap.size + 1 + 1) (d0.length + j) (fDone (ribTo p1 c1 (some ⟨b, o, none⟩) c2 long sz ks.length (w.heap.size + 1 + 1) long.length) long (d0 ++ (placesL kn).take j))) (fun _ _ => False) (fun j A B h hb => by exact MapIs.of_same h (hb.block _ (by omega))) (fun _ _ _ h _ => h) (by simpa using QM.out) ?body ?done ?stop
          case body =>
            rintro l j x A rfl hx hI hkeep hlA
            obtain ⟨⟨qa, qt⟩, hq, rfl⟩ : ∃ q : Int × Int, (placesL kn)[j]? = some q ∧ x = #[placeV q.1 q.2] := by
              rw [List.getElem?_map] at hx
              cases hq : (placesL kn)[j]? with
              | none => rw [hq] at hx; cases hx
              | some q => rw [hq] at hx; cases hx; exact ⟨q, rfl, rfl⟩
            have hmem : (qa, qt) ∈ placesL kn := List.mem_of_getElem? hq
            have hrng := placesL_range hko' hmem
            obtain ⟨tn, rfl⟩ := Int.eq_ofNat_of_zero_le hrng.2.2.1
            have hjl : j < 168 := Nat.lt_of_lt_of_le (List.getElem?_eq_some_iff.1 hq).1 (placesL_short hko')
            have HIA := Lib.hid (show I64 qa from ⟨by omega, by omega⟩)
            have HIT := Lib.hid (show I64 (tn : Int) from ⟨by omega, by omega⟩)
            have HQJ := Lib.hid hq
            have HI := Lib.hid hI
            have HKP := Lib.hid hkeep
            clear hx hq hI hkeep hmem
            unfold placeV
            gi_wp2
            refine ⟨(KeepsBut.refl _ _).alloc _, fun oo => ?_⟩
            have hAz : w2.heap.size + 1 < A.heap.size := hlA
            generalize hA2 : (A.alloc (Obj.cells #[Value.int IntKind.i64 qa, Value.int IntKind.i64 ↑tn] 174)).putObj (w2.heap.size + 1) oo = A2
            have hsame : ∀ m, m ≠ w2.heap.size + 1 → A2.heap[m]? = (A.alloc (Obj.cells #[Value.int IntKind.i64 qa, Value.int IntKind.i64 ↑tn] 174)).heap[m]? := fun m hm => by rw [← hA2]; exact World.putObj_heap_other hm
            have rb3 : Row A2 (w.heap.size + 1 + 1 + 1) (ribTo p1 c1 (some ⟨b, o, none⟩) c2 long sz ks.length (w.heap.size + 1 + 1) long.length).A 115 := by unfold Row; rw [hsame _ (by omega)]; exact ((Q3.out.keeps HKP.out (by omega)).alloc _)
            have rba : Row A2 A.heap.size #[.int .i64 qa, .int .i64 tn] 174 := by unfold Row; rw [hsame _ (by omega)]; exact Row.new _ _ _
            have rbm : MapIs A2 (w.heap.size + 1 + 1) (d0.length + j) (fDone (ribTo p1 c1 (some ⟨b, o, none⟩) c2 long sz ks.length (w.heap.size + 1 + 1) long.length) long (d0 ++ (placesL kn).take j)) := (HI.out.of_same (Below.heap_alloc A _ _ (by omega))).of_same (hsame _ (by omega))
            have hbA : Below w.heap.size w A2 := ⟨by rw [← hA2]; exact HKP.out.os.trans QB.out.os, by rw [← hA2]; exact HKP.out.tape.trans QB.out.tape, by rw [← hA2]; exact HKP.out.output.trans QB.out.output, by have := QB.out.size; rw [← hA2]; simp; omega, fun m hm => by
              rw [hsame m (by omega), Below.heap_alloc _ _ _ (by omega), HKP.out.block m (by omega) (by omega), QB.out.block m hm]⟩
            have rbi : IntsAt A2 p1 long := HL.out.below hbA
            clear hsame hA2 hbA
            gi_wp2_with fail
            have e2 : (placesL kn).take (j + 1) = (placesL kn).take j ++ [(qa, (tn : Int))] := by
              rw [List.take_add_one, HQJ.out]; rfl
            have HE2 := Lib.hid e2
            clear e2
            refine region_invIn rfl (by kernel_rfl) (by kernel_rfl) (fun L a v => ∃ x42 x43 x44 x45 x46 x47 : Value, a = { tmps := #[.agg #[.slice p1 long.length c1, .int .i64 sz, .slice (some ⟨b, o, none⟩) ks.length c2], .pointer (some ⟨w.heap.size, 0, none⟩), .pointer (some ⟨w.heap.size + 1, 0, none⟩), .pointer (some ⟨w.heap.size + 1 + 1 + 1, 0, none⟩), u4, u5, undef, .pointer (some ⟨wv.heap.size, 0, none⟩), .pointer (some ⟨A.heap.size, 0, none⟩), .agg #[.slice p1 long.length c1, .int .i64 sz, .slice (some ⟨b, o, none⟩) ks.length c2], .map (some (w.heap.size + 1 + 1)), .agg #[.slice p1 long.length c1, .int .i64 sz, .slice (some ⟨b, o, none⟩) ks.length c2, .int .i64 0, .int .i64 0, .int .i64 0, .int .i64 0, .int .i64 0, .int .i64 0, .int .i64 0, .map (some (w.heap.size + 1 + 1))], .pointer (some ⟨w.heap.size, 0, none⟩), .slice p1 long.length c1, .int .i64 long.length, .int .i64 k, .bool false, u17, u18, u19, u20, u21, u22, u23, u24, u25, u26, u27, u28, u29, u30, .pointer (some ⟨w.heap.size, 2, none⟩), .slice (some ⟨b, o, none⟩) ks.length c2, .int .i64 ks.length, .int .i64 i, .bool true, .pointer (some ⟨b, o + i * 4, none⟩), .agg #[.int .i64 kn.al, .int .i64 kn.ah, .int .i64 kn.fl, .int .i64 kn.fh], .agg #[.int .i64 kn.al, .int .i64 kn.ah, .int .i64 kn.fl, .int .i64 kn.fh], .agg #[.int .i64 kn.al, .int .i64 kn.ah, .int .i64 kn.fl, .int .i64 kn.fh], .func (.func 104) #[] #[.pointer (some ⟨wv.heap.size + 1, 0, none⟩)], placeV qa tn, x42, x43, x44, x45, x46, x47, z48, undef], defers := [] } ∧ Hid (L 0 = true → x42 = .pointer (some ⟨w.heap.size + 1 + 1 + 1, 10, none⟩)) ∧ Hid (L 1 = true → x43 = .map (some (w.heap.size + 1 + 1))) ∧ Hid (L 2 = true → x44 = placeV qa tn) ∧ Hid (L 3 = true → x45 = .agg (ribTo p1 c1 (some ⟨b, o, none⟩) c2 long sz ks.length (w.heap.size + 1 + 1) long.length).A) ∧ Hid (L 4 = true → x46 = placeV qa tn) ∧ Hid (L 5 = true → x47 = cols (trailL (ribTo p1 c1 (some ⟨b, o, none⟩) c2 long sz ks.length (w.heap.size + 1 + 1) long.length) long qa tn)) ∧ Hid (Row v (w.heap.size + 1 + 1 + 1) (ribTo p1 c1 (some ⟨b, o, none⟩) c2 long sz ks.length (w.heap.size + 1 + 1) long.length).A 115) ∧ Hid (Row v A.heap.size #[.int .i64 qa, .int .i64 tn] 174) ∧ Hid (IntsAt v p1 long) ∧ Hid (L 6 = false → MapIs v (w.heap.size + 1 + 1) (d0.length + j) (fDone (ribTo p1 c1 (some ⟨b, o, none⟩) c2 long sz ks.length (w.heap.size + 1 + 1) long.length) long (d0 ++ (placesL kn).take j))) ∧ Hid (L 6 = true → MapIs v (w.heap.size + 1 + 1) (d0.length + j + 1) (fDone (ribTo p1 c1 (some ⟨b, o, none⟩) c2 long sz ks.length (w.heap.size + 1 + 1) long.length) long (d0 ++ (placesL kn).take j ++ [(qa, (tn : Int))]))) ∧ Hid (KeepsBut (fun m => m = w.heap.size + 1 + 1) A2 v)) ?h0 ?steps ?hd
            case h0 => exact ⟨_, _, _, _, _, _, rfl, Lib.hid nofun, Lib.hid nofun, Lib.hid nofun, Lib.hid nofun, Lib.hid nofun, Lib.hid nofun, Lib.hid (rb3), Lib.hid (rba), Lib.hid (rbi), Lib.hid (fun _ => rbm), Lib.hid (nofun), Lib.hid ((KeepsBut.refl _ _).drew)⟩
            case hd =>
              rintro L a v hL0 ⟨x42, x43, x44, x45, x46, x47, rfl, hf0, hf1, hf2, hf3, hf4, hf5, hr3, hra, hints, hm0, hm1, hk2⟩
              obtain rfl := hf0.out (hL0 0 (by decide))
              obtain rfl := hf1.out (hL0 1 (by decide))
              obtain rfl := hf2.out (hL0 2 (by decide))
              obtain rfl := hf3.out (hL0 3 (by decide))
              obtain rfl := hf4.out (hL0 4 (by decide))
              obtain rfl := hf5.out (hL0 5 (by decide))
              clear hf0
              clear hf1
              clear hf2
              clear hf3
              clear hf4
              clear hf5
              exact (show KeepsBut _ A2 v ∧ MapIs v (w.heap.size + 1 + 1) (d0.length + (j + 1)) (fDone (ribTo p1 c1 (some ⟨b, o, none⟩) c2 long sz ks.length (w.heap.size + 1 + 1) long.length) long (d0 ++ (placesL kn).take (j + 1))) from ⟨hk2.out, by rw [HE2.out, ← List.append_assoc]; exact hm1.out (hL0 6 (by decide))⟩)
            case steps =>
              refine ⟨?_, ?_, ?_, ?_, ?_, ?_, ?_, trivial⟩
              · rintro L a v hL hk ⟨x42, x43, x44, x45, x46, x47, rfl, hf0, hf1, hf2, hf3, hf4, hf5, hr3, hra, hints, hm0, hm1, hk2⟩ K hK
                have HK0 := Lib.hid hK
                clear hK
                clear hL
                clear hk
                go_wp2
                exact HK0.out _ _ ⟨_, _, _, _, _, _, rfl, Lib.hid (fun _ => rfl), Lib.hid (fun h => hf1.out (by simpa [upd] using h)), Lib.hid (fun h => hf2.out (by simpa [upd] using h)), Lib.hid (fun h => hf3.out (by simpa [upd] using h)), Lib.hid (fun h => hf4.out (by simpa [upd] using h)), Lib.hid (fun h => hf5.out (by simpa [upd] using h)), hr3, hra, hints, Lib.hid (fun h => hm0.out (by simpa [upd] using h)), Lib.hid (fun h => hm1.out (by simpa [upd] using h)), hk2⟩
              · rintro L a v hL hk ⟨x42, x43, x44, x45, x46, x47, rfl, hf0, hf1, hf2, hf3, hf4, hf5, hr3, hra, hints, hm0, hm1, hk2⟩ K hK
                have HK0 := Lib.hid hK
                clear hK
                obtain rfl := hf0.out (after_on hL 0 rfl)
                clear hL
                clear hk
                have c10 := hr3.out.cell 10 (Rib.a10 _ (startsTo_length _ _))
                have e10 : (ribTo p1 c1 (some ⟨b, o, none⟩) c2 long sz ks.length (w.heap.size + 1 + 1) long.length).mb = some (w.heap.size + 1 + 1) := rfl
                rw [e10] at c10
                clear e10
                go_wp2
                exact HK0.out _ _ ⟨_, _, _, _, _, _, rfl, Lib.hid (fun _ => rfl), Lib.hid (fun _ => rfl), Lib.hid (fun h => hf2.out (by simpa [upd] using h)), Lib.hid (fun h => hf3.out (by simpa [upd] using h)), Lib.hid (fun h => hf4.out (by simpa [upd] using h)), Lib.hid (fun h => hf5.out (by simpa [upd] using h)), hr3, hra, hints, Lib.hid (fun h => hm0.out (by simpa [upd] using h)), Lib.hid (fun h => hm1.out (by simpa [upd] using h)), hk2⟩
              · rintro L a v hL hk ⟨x42, x43, x44, x45, x46, x47, rfl, hf0, hf1, hf2, hf3, hf4, hf5, hr3, hra, hints, hm0, hm1, hk2⟩ K hK
                have HK0 := Lib.hid hK
                clear hK
                clear hL
                clear hk
                refine wp_load_row 174 _ rfl _ rfl 174 _ (0, 0) _ hra.out Tryz.underlying174 rfl (by kernel_rfl) ?_
                exact HK0.out _ _ ⟨_, _, _, _, _, _, rfl, Lib.hid (fun h => hf0.out (by simpa [upd] using h)), Lib.hid (fun h => hf1.out (by simpa [upd] using h)), Lib.hid (fun _ => rfl), Lib.hid (fun h => hf3.out (by simpa [upd] using h)), Lib.hid (fun h => hf4.out (by simpa [upd] using h)), Lib.hid (fun h => hf5.out (by simpa [upd] using h)), hr3, hra, hints, Lib.hid (fun h => hm0.out (by simpa [upd] using h)), Lib.hid (fun h => hm1.out (by simpa [upd] using h)), hk2⟩
              · rintro L a v hL hk ⟨x42, x43, x44, x45, x46, x47, rfl, hf0, hf1, hf2, hf3, hf4, hf5, hr3, hra, hints, hm0, hm1, hk2⟩ K hK
                have HK0 := Lib.hid hK
                clear hK
                clear hL
                clear hk
                refine wp_load_row 115 _ rfl _ rfl 115 _ (0, 0) _ hr3.out Tryz.underlying115 rfl (size76 (startsTo_length _ _)) ?_
                exact HK0.out _ _ ⟨_, _, _, _, _, _, rfl, Lib.hid (fun h => hf0.out (by simpa [upd] using h)), Lib.hid (fun h => hf1.out (by simpa [upd] using h)), Lib.hid (fun h => hf2.out (by simpa [upd] using h)), Lib.hid (fun _ => rfl), Lib.hid (fun h => hf4.out (by simpa [upd] using h)), Lib.hid (fun h => hf5.out (by simpa [upd] using h)), hr3, hra, hints, Lib.hid (fun h => hm0.out (by simpa [upd] using h)), Lib.hid (fun h => hm1.out (by simpa [upd] using h)), hk2⟩
              · rintro L a v hL hk ⟨x42, x43, x44, x45, x46, x47, rfl, hf0, hf1, hf2, hf3, hf4, hf5, hr3, hra, hints, hm0, hm1, hk2⟩ K hK
                have HK0 := Lib.hid hK
                clear hK
                clear hL
                clear hk
                refine wp_load_row 174 _ rfl _ rfl 174 _ (0, 0) _ hra.out Tryz.underlying174 rfl (by kernel_rfl) ?_
                exact HK0.out _ _ ⟨_, _, _, _, _, _, rfl, Lib.hid (fun h => hf0.out (by simpa [upd] using h)), Lib.hid (fun h => hf1.out (by simpa [upd] using h)), Lib.hid (fun h => hf2.out (by simpa [upd] using h)), Lib.hid (fun h => hf3.out (by simpa [upd] using h)), Lib.hid (fun _ => rfl), Lib.hid (fun h => hf5.out (by simpa [upd] using h)), hr3, hra, hints, Lib.hid (fun h => hm0.out (by simpa [upd] using h)), Lib.hid (fun h => hm1.out (by simpa [upd] using h)), hk2⟩
              · rintro L a v hL hk ⟨x42, x43, x44, x45, x46, x47, rfl, hf0, hf1, hf2, hf3, hf4, hf5, hr3, hra, hints, hm0, hm1, hk2⟩ K hK
                have HK0 := Lib.hid hK
                clear hK
                obtain rfl := hf3.out (after_on hL 3 rfl)
                obtain rfl := hf4.out (after_on hL 4 rfl)
                clear hL
                clear hk
                unfold placeV
                go_wp2_with fail
                refine (trail_any _ long (rib_ok hL) _ hints.out qa tn (by omega) (by omega) (by omega)).mono ?_
                rintro e w1 ⟨rfl, hb1⟩
                exact HK0.out _ _ ⟨_, _, _, _, _, _, rfl, Lib.hid (fun h => hf0.out (by simpa [upd] using h)), Lib.hid (fun h => hf1.out (by simpa [upd] using h)), Lib.hid (fun h => hf2.out (by simpa [upd] using h)), Lib.hid (fun _ => rfl), Lib.hid (fun _ => rfl), Lib.hid (fun _ => rfl), Lib.hid (hr3.out.below hb1 hr3.out.lt), Lib.hid (hra.out.below hb1 hra.out.lt), Lib.hid (hints.out.below hb1), Lib.hid (fun h => (hm0.out (by simpa [upd] using h)).of_same (hb1.block _ (hm0.out (by simpa [upd] using h)).lt)), Lib.hid (fun h => (hm1.out (by simpa [upd] using h)).of_same (hb1.block _ (hm1.out (by simpa [upd] using h)).lt)), Lib.hid (hk2.out.after hb1)⟩
              · rintro L a v hL hk ⟨x42, x43, x44, x45, x46, x47, rfl, hf0, hf1, hf2, hf3, hf4, hf5, hr3, hra, hints, hm0, hm1, hk2⟩ K hK
                have HK0 := Lib.hid hK
                clear hK
                obtain rfl := hf1.out (after_on hL 1 rfl)
                obtain rfl := hf2.out (after_on hL 2 rfl)
                obtain rfl := hf5.out (after_on hL 5 rfl)
                obtain ⟨v2, hrun, hm2, hgrow⟩ := (hm0.out hk).put (by unfold maxLen; omega) HIA.out HIT.out (trailL (ribTo p1 c1 (some ⟨b, o, none⟩) c2 long sz ks.length (w.heap.size + 1 + 1) long.length) long qa tn)
                refine wp_mapUpdate' _ _ _ _ rfl _ _ _ rfl rfl rfl hrun ?_
                exact HK0.out _ _ ⟨_, _, _, _, _, _, rfl, Lib.hid (fun h => hf0.out (by simpa [upd] using h)), Lib.hid (fun _ => rfl), Lib.hid (fun _ => rfl), Lib.hid (fun h => hf3.out (by simpa [upd] using h)), Lib.hid (fun h => hf4.out (by simpa [upd] using h)), Lib.hid (fun _ => rfl), Lib.hid (row_grown hr3.out hgrow (by omega)), Lib.hid (row_grown hra.out hgrow (by omega)), Lib.hid (hints.out.grown hgrow (fun b1 o1 e1 _ => by have := HP1.out b1 o1 e1; omega)), Lib.hid (fun h => by simp [upd] at h), Lib.hid (fun _ => by rw [← fDone_snoc]; exact hm2), Lib.hid (hk2.out.trans (keeps_grown hgrow (fun m => m = w.heap.size + 1 + 1) rfl))⟩
          case done =>
            intro W3 hI hkeep hsz hD
            have hI : MapIs W3 (w.heap.size + 1 + 1) (d0.length + ((placesL kn).map fun q => #[placeV q.1 q.2]).length) (fDone (ribTo p1 c1 (some ⟨b, o, none⟩) c2 long sz ks.length (w.heap.size + 1 + 1) long.length) long (d0 ++ (placesL kn).take ((placesL kn).map fun q => #[placeV q.1 q.2]).length)) := hI
            rw [List.length_map, List.take_length] at hI
            have hmarks := QMK.out.push hkeep (fun m oo hm h => by subst hm; obtain ⟨_, ⟨_, _, hq, _⟩, _⟩ := QM.out; rw [hq] at h; cases h) (by omega) hD
            have H0 := Lib.hid (Q0.out.keeps hkeep (by omega))
            have H1 := Lib.hid (Q1.out.keeps hkeep (by omega))
            have H2 := Lib.hid hI
            have H3 := Lib.hid (Q3.out.keeps hkeep (by omega))
            have H4 := Lib.hid hmarks
            have H5 := Lib.hid (QB.out.trans (hkeep.below (by omega) (fun m hm => by omega)))
            clear hI hkeep hD hmarks
            go_wp2
            have e3 : (ks.take (i + 1)).flatMap placesL = d0 ++ placesL kn := by
              rw [List.take_succ_eq_append_getElem hlt, List.flatMap_append, HD0.out, HKK.out]; simp
            refine ⟨⟨i + 1, _, _, _, _, _, _, _, _, _, _, _, _, _, _, _, _, _, by rw [show ((i + 1 : Nat) : Int) = (i : Int) + 1 by omega], by omega, H0.out, H1.out, ?_, H3.out, H4.out, H5.out⟩, ?_⟩
            · rw [e3, List.length_append]; exact H2.out
            · simp [intOf]; omega
          case stop => intro c W3 h; exact h.elim
        · have e : i = ks.length := by omega
          have HMF := Lib.hid (show MapIs wv (w.heap.size + 1 + 1) (ks.flatMap placesL).length (fDone (ribTo p1 c1 p2 c2 long sz ks.length (w.heap.size + 1 + 1) long.length) long (ks.flatMap placesL)) by have := HM.out; rw [e, List.take_length] at this; exact this)
          clear e
          have HS := Lib.hid (size76 (R := (ribTo p1 c1 p2 c2 long sz ks.length (w.heap.size + 1 + 1) long.length)) (startsTo_length _ _))
          go_wp2_with (first | (refine load_row rfl 115 _ rfl _ rfl 115 _ _ R3.out Tryz.underlying115 rfl HS.out ?_) | (refine store_row rfl 115 _ _ rfl _ _ _ _ rfl rfl R1.out HS.out (by rw [HZZ.out, Rib.size _ (startsTo_length _ _)]) (Rib.one _) ?_))
          have hr2 := R1.out.setRow (ribTo p1 c1 p2 c2 long sz ks.length (w.heap.size + 1 + 1) long.length).A
          have hmk := HMK.out.same (B := wv.setRow (w.heap.size + 1) (ribTo p1 c1 p2 c2 long sz ks.length (w.heap.size + 1 + 1) long.length).A) (fun m o h => _root_.Go.setRow_other _ _ _ _ (fun e => by subst e; have := R1.out; unfold Row at this; rw [this] at h; cases h))
          have hbb := below_setRow HB.out (show w.heap.size ≤ w.heap.size + 1 by omega) (ribTo p1 c1 p2 c2 long sz ks.length (w.heap.size + 1 + 1) long.length).A
          refine marks_leave hmk (fun B2 hB2 => ?_)
          have hr3 : Row B2 (w.heap.size + 1) (ribTo p1 c1 p2 c2 long sz ks.length (w.heap.size + 1 + 1) long.length).A 115 := by unfold Row; rw [hB2.rest _ (fun o h => by unfold Row at hr2; rw [hr2] at h; cases h)]; exact hr2
          have hm3 := (HMF.out.of_same (w' := wv.setRow (w.heap.size + 1) (ribTo p1 c1 p2 c2 long sz ks.length (w.heap.size + 1 + 1) long.length).A) (_root_.Go.setRow_other _ _ _ _ (by omega)))
          have hm4 := hm3.of_same (w' := B2) (hB2.rest _ (fun o h => by obtain ⟨_, ⟨_, _, hq, _⟩, _⟩ := hm3; rw [hq] at h; cases h))
          refine ⟨_, results_cell_row Tryz.results56 _ _ _ _ _ _ _ rfl hr3 Tryz.underlying115 rfl HS.out, ?_⟩
          exact ⟨_, _, _, rfl, hm4, fun k hk q hq => by simp only [fDone, if_pos (List.mem_flatMap.2 ⟨k, hk, hq⟩)], hbb.trans hB2.below⟩

end Go.Proofs.YticfcdbfplfmlaaGreat.Pe
/- The walks of layer 1: all truths of a ribbon, one by one. -/
namespace Go.Proofs.YticfcdbfplfmlaaGreat.Pe
open Go.RowKit Go.Maps
attribute [local go_sem] Oper.semAt_some

/-- The truths: for each the columns that have a knot, knot by knot. -/
def truthsL (R : Rib) (long : List Int) : List K4 → List Bool → List (List Bool)
  | [], kn => [kn]
  | k :: ks, kn => (placesL k).flatMap fun p => truthsL R long ks (orL kn (trailL R long p.1 p.2.toNat))
/-- What of memory the search for truths reads. -/
structure Env (R : Rib) (ks : List K4) (M : Nat → Prop) (W : World) (l rb yb pb mb nn : Nat) (f : Int → Int → Option (List Bool)) (A : World) : Prop where
  r : Row A rb R.A 115
  y : Row A yb #[.func (.yield l) #[] #[]] 176
  p : Row A pb #[.func (.func 81) #[] #[.pointer (some ⟨rb, 0, none⟩), .pointer (some ⟨yb, 0, none⟩), .pointer (some ⟨pb, 0, none⟩)]] 177
  m : MapIs A mb nn f
  k : KnotsAt A R.p2 ks
  keep : KeepsBut M W A
/-- What the rounds may change is none of it. -/
structure Off (R : Rib) (ks : List K4) (M : Nat → Prop) (W : World) (rb yb pb mb : Nat) : Prop where
  lt : ∀ m, M m → m < W.heap.size
  r : ¬ M rb
  m : ¬ M mb
  k : ks ≠ [] → ∀ b o, R.p2 = some ⟨b, o, none⟩ → ¬ M b
  y : W.heap.size ≤ yb
  p : W.heap.size ≤ pb
theorem KnotsAt.keeps {M : Nat → Prop} {A B : World} {p : Option Addr} {ks : List K4} (h : KnotsAt A p ks) (hk : KeepsBut M A B) (hM : ks ≠ [] → ∀ b o, p = some ⟨b, o, none⟩ → ¬ M b) : KnotsAt B p ks := by
  intro i hi
  obtain ⟨b, o, hp, h0, h1, h2, h3⟩ := h i hi
  have hs : B.heap[b]? = A.heap[b]? := hk.block b (cell_block h0) (hM (by rintro rfl; simp at hi) b o hp)
  exact ⟨b, o, hp, (World.cell?_of_block (a := ⟨b, _, none⟩) hs).trans h0, (World.cell?_of_block (a := ⟨b, _, none⟩) hs).trans h1, (World.cell?_of_block (a := ⟨b, _, none⟩) hs).trans h2, (World.cell?_of_block (a := ⟨b, _, none⟩) hs).trans h3⟩
theorem Env.keeps {R : Rib} {ks : List K4} {M : Nat → Prop} {W A B : World} {l rb yb pb mb nn : Nat} {f : Int → Int → Option (List Bool)} (h : Env R ks M W l rb yb pb mb nn f A) (ho : Off R ks M W rb yb pb mb) (hk : KeepsBut M A B) : Env R ks M W l rb yb pb mb nn f B :=
  ⟨h.r.keeps hk ho.r, h.y.keeps hk (fun e => by have := ho.lt _ e; have := ho.y; omega), h.p.keeps hk (fun e => by have := ho.lt _ e; have := ho.p; omega), h.m.of_same (hk.block _ h.m.lt ho.m), h.k.keeps hk ho.k, h.keep.trans hk⟩
theorem Env.below {R : Rib} {ks : List K4} {M : Nat → Prop} {W A B : World} {l rb yb pb mb nn : Nat} {f : Int → Int → Option (List Bool)} (h : Env R ks M W l rb yb pb mb nn f A) (hb : Below A.heap.size A B) : Env R ks M W l rb yb pb mb nn f B :=
  ⟨h.r.below hb h.r.lt, h.y.below hb h.y.lt, h.p.below hb h.p.lt, h.m.of_same (hb.block _ h.m.lt), h.k.below hb, h.keep.after hb⟩
theorem _root_.Go.Proofs.YticfcdbfplfmlaaGreat.Stable.mono {n n' : Nat} {J : World → Prop} (h : Stable n J) (hn : n ≤ n') : Stable n' J := fun A B hA hb => h A B hA (hb.mono hn)

theorem flat_at {α β : Type} (g : α → List β) {l : List α} {j : Nat} {q : α} (h : l[j]? = some q) (t : Nat) (ht : t < (g q).length) : (l.flatMap g)[((l.take j).flatMap g).length + t]? = (g q)[t]? := by
  obtain ⟨hj, rfl⟩ := List.getElem?_eq_some_iff.1 h
  have e : l.flatMap g = (l.take j).flatMap g ++ (g l[j] ++ (l.drop (j + 1)).flatMap g) := by
    rw [← List.flatMap_cons, ← List.drop_eq_getElem_cons hj, ← List.flatMap_append, List.take_append_drop]
  rw [e, List.getElem?_append_right (by omega), Nat.add_sub_cancel_left, List.getElem?_append_left ht]
theorem take_flat {α β : Type} (g : α → List β) {l : List α} {j : Nat} {q : α} (h : l[j]? = some q) : ((l.take (j + 1)).flatMap g).length = ((l.take j).flatMap g).length + (g q).length := by
  rw [List.take_add_one, h]; simp [List.flatMap_append]
theorem Env.keepsT {R : Rib} {ks : List K4} {M : Nat → Prop} {W A w2 B : World} {l rb yb pb mb nn t : Nat} {f : Int → Int → Option (List Bool)} (h : Env R ks M W l rb yb pb mb nn f A) (ho : Off R ks M W rb yb pb mb) (ht : A.heap.size ≤ t) (hb : Below A.heap.size A w2) (hk : KeepsBut (fun m => M m ∨ m = t) w2 B) : Env R ks M W l rb yb pb mb nn f B := by
  have hAB : KeepsBut (fun m => M m ∨ m = t) A B := (KeepsBut.of_below hb).trans hk
  have hl := h.keep.size
  refine ⟨h.r.keeps hAB ?_, h.y.keeps hAB ?_, h.p.keeps hAB ?_, h.m.of_same (hAB.block _ h.m.lt ?_), ?_, ?_⟩
  · rintro (e | e); exact ho.r e; have := h.r.lt; omega
  · rintro (e | e); (have := ho.lt _ e; have := ho.y; omega); have := h.y.lt; omega
  · rintro (e | e); (have := ho.lt _ e; have := ho.p; omega); have := h.p.lt; omega
  · rintro (e | e); exact ho.m e; have := h.m.lt; omega
  · intro i hi
    obtain ⟨b, o, hp, h0, h1, h2, h3⟩ := h.k i hi
    have hlt : b < A.heap.size := cell_block h0
    have hs : B.heap[b]? = A.heap[b]? := hAB.block b hlt (by rintro (e | e); exact ho.k (by rintro rfl; simp at hi) b o hp e; omega)
    exact ⟨b, o, hp, (World.cell?_of_block (a := ⟨b, _, none⟩) hs).trans h0, (World.cell?_of_block (a := ⟨b, _, none⟩) hs).trans h1, (World.cell?_of_block (a := ⟨b, _, none⟩) hs).trans h2, (World.cell?_of_block (a := ⟨b, _, none⟩) hs).trans h3⟩
  · refine ⟨hAB.os.trans h.keep.os, hAB.tape.trans h.keep.tape, hAB.output.trans h.keep.output, by have := hAB.size; omega, fun m hm hn => ?_⟩
    rw [hAB.block m (by omega) (by rintro (e | e); exact hn e; omega), h.keep.block m hm hn]

theorem _root_.Go.Proofs.YticfcdbfplfmlaaGreat.KeepsBut.tail {M : Nat → Prop} {A w2 B : World} {t : Nat} (hb : Below A.heap.size A w2) (hk : KeepsBut (fun m => M m ∨ m = t) w2 B) (ht : A.heap.size ≤ t) : KeepsBut M A B :=
  ⟨hk.os.trans hb.os, hk.tape.trans hb.tape, hk.output.trans hb.output, Nat.le_trans hb.size hk.size, fun k hk' hn => (hk.block k (Nat.lt_of_lt_of_le hk' hb.size) (by rintro (e | e); exact hn e; omega)).trans (hb.block k hk')⟩
theorem _root_.Go.Proofs.YticfcdbfplfmlaaGreat.KeepsBut.after' {M : Nat → Prop} {A B C : World} (h : KeepsBut M A B) (k : Below A.heap.size B C) : KeepsBut M A C :=
  ⟨k.os.trans h.os, k.tape.trans h.tape, k.output.trans h.output, Nat.le_trans h.size k.size, fun i hi hm => (k.block i hi).trans (h.block i hi hm)⟩
/-- How many truths the first places of a knot give. -/
def offL (R : Rib) (long : List Int) (ks : List K4) (kn : List Bool) (l : List (Int × Int)) (j : Nat) : Nat := ((l.take j).flatMap fun (q : Int × Int) => truthsL R long ks (orL kn (trailL R long q.1 q.2.toNat))).length
/-- What a call of the search comes to. -/
def PutPost (M : Nat → Prop) (J : Nat → World → Prop) (Jx : World → Prop) (A : World) (n : Nat) (e : Ending) (B : World) : Prop :=
  KeepsBut M A B ∧ ((e = .returned (.bool true) ∧ J n B) ∨ (e = .returned (.bool false) ∧ Jx B))

set_option maxRecDepth 10000 in
set_option maxHeartbeats 1600000 in
theorem put_any (R : Rib) (long : List Int) (ks : List K4) (hs : R.s.length = 6) (hn2 : R.n2 = ks.length) (h3 : ks.length ≤ 3) (hko : ∀ k ∈ ks, K4Ok k) (M : Nat → Prop) (W : World) (l rb yb pb mb nn : Nat) (f : Int → Int → Option (List Bool))
    (ho : Off R ks M W rb yb pb mb) (hmb : R.mb = some mb) (ht : Trails R long ks f) (J : Nat → World → Prop) (Jx : World → Prop) (hJ : ∀ k, Stable W.heap.size (J k)) (hJx : Stable W.heap.size Jx)
    (xs : List (Array Value)) (hY : ∀ k x A, xs[k]? = some x → J k A → KeepsBut M W A → YieldAt Fence.wide 0 Tryz.prog l x A fun e B => PutPost M J Jx A (k + 1) e B) :
    ∀ (ks' : List K4) (i n : Nat) (kn : List Bool) (A : World), ks = ks.take i ++ ks' → i + ks'.length = ks.length → kn.length = 72 → (∀ j, j < (truthsL R long ks' kn).length → xs[n + j]? = some #[cols ((truthsL R long ks' kn).getD j [])]) →
      Env R ks M W l rb yb pb mb nn f A → J n A →
      Calls Tryz.prog 81 #[.int .i64 i, cols kn, .pointer (some ⟨rb, 0, none⟩), .pointer (some ⟨yb, 0, none⟩), .pointer (some ⟨pb, 0, none⟩)] A (PutPost M J Jx A (n + (truthsL R long ks' kn).length)) := by
  intro ks'
  induction ks' with
  | nil =>
    intro i n kn A hk hi hkn hxs hE hJn
    simp only [List.length_nil, Nat.add_zero] at hi
    have hx := hxs 0 (by simp [truthsL])
    rw [Nat.add_zero] at hx
    obtain ⟨fn, tmps, assign, body, hy, hR⟩ := hY n _ ((((A.alloc (.cells #[.int .i64 i] 3)).alloc (.cells (boolsA kn) 121)).alloc (.cells #[.bool false] 4))) hx (hJ n _ _ hJn ((((Below.refl _ _).alloc (by have := hE.keep.size; omega) _).alloc (by have := hE.keep.size; simp; omega) _).alloc (by have := hE.keep.size; simp; omega) _)) (hE.keep.after (((below_alloc _ _).alloc (by simp) _).alloc (by simp; omega) _))
    have hy : (Instr.yield l #[cols kn]).run Tryz.prog _ = _ := hy
    have HR := Lib.hid hR
    have hE2 := hE.below (((below_alloc A (.cells #[.int .i64 i] 3)).alloc (by simp) (.cells (boolsA kn) 121)).alloc (by simp; omega) (.cells #[.bool false] 4))
    have r2 := hE2.r.cell 2 R.a2
    rw [hn2] at r2
    have y0 := hE2.y.cell 0 (v := .func (.yield l) #[] #[]) rfl
    have HE := Lib.hid hE2
    have HJN := Lib.hid hJn
    have hie : ((i : Int) == (ks.length : Int)) = true := by simp; omega
    have HSA := Lib.hid hE.keep.size
    have hlt1 := hE.r.lt
    have hlt2 := hE.y.lt
    rw [cols_def] at *
    clear hE hE2 hR hxs hx hJn hi hk hn2
    go_enter Tryz.func81, Tryz.ntmps81
    go_upto_region 2 with (fail)
    refine (wpIn_wide (n := 1)).1 ?_
    gi_wp2_with (first | (refine load_rowIn rfl 121 _ rfl _ rfl 121 _ _ ((Row.new' (by simp) _ _).alloc _) Tryz.underlying121 rfl (size88 hkn) ?_))
    have hsz := HE.out.keep.size
    simp only [World.size_alloc] at hsz
    have hszA := HSA.out
    refine HR.out.mono ?_
    have rr := Row.new (((A.alloc (.cells #[.int .i64 i] 3)).alloc (.cells (boolsA kn) 121))) #[.bool false] 4
    simp only [World.size_alloc] at rr
    have hk0 := Lib.hid (KeepsBut.of_below (M := M) (((below_alloc A (.cells #[.int .i64 i] 3)).alloc (by simp) (.cells (boolsA kn) 121)).alloc (by simp; omega) (.cells #[.bool false] 4)))
    rintro e B ⟨hkB, (⟨rfl, hJ1⟩ | ⟨rfl, hJx1⟩)⟩
    · have rB := rr.keeps hkB (fun e => by have := ho.lt _ e; omega)
      have c0 := rB.cell 0 (v := .bool false) rfl
      have f0 := rB.free 0
      have hres := (rB.set 0 (.bool true)).cell 0 (v := .bool true) rfl
      have HKB := Lib.hid (hk0.out.trans hkB)
      have HJ1 := Lib.hid hJ1
      clear hkB hJ1 hy rr rB
      gi_wp2
      go_wp2
      refine bodyPost_ret (v := .bool true) (by simp [results, Tryz.results81, go_sem, hres]) rfl ⟨HKB.out.setCell (.inr (by dsimp only; omega)) _, .inl ⟨rfl, ?_⟩⟩
      exact hJ _ _ _ HJ1.out ((Below.refl _ _).setCell (by dsimp only; omega) _)
    · have rB := rr.keeps hkB (fun e => by have := ho.lt _ e; omega)
      have c0 := rB.cell 0 (v := .bool false) rfl
      have f0 := rB.free 0
      have hres := (rB.set 0 (.bool false)).cell 0 (v := .bool false) rfl
      have HKB := Lib.hid (hk0.out.trans hkB)
      have HJ1 := Lib.hid hJx1
      clear hkB hJx1 hy rr rB
      gi_wp2
      go_wp2
      refine bodyPost_ret (v := .bool false) (by simp [results, Tryz.results81, go_sem, hres]) rfl ⟨HKB.out.setCell (.inr (by dsimp only; omega)) _, .inr ⟨rfl, ?_⟩⟩
      exact hJx _ _ HJ1.out ((Below.refl _ _).setCell (by dsimp only; omega) _)
  | cons k ks' ih =>
    intro i n kn A hk hi hkn hxs hE hJn
    simp only [List.length_cons] at hi
    have hlt : i < ks.length := by omega
    have hki : ks[i] = k := by
      have h : ks[i]? = (ks.take i ++ k :: ks')[i]? := by rw [← hk]
      rw [List.getElem?_append_right (by rw [List.length_take]; omega), List.length_take, Nat.min_eq_left (by omega), Nat.sub_self, List.getElem?_eq_getElem hlt] at h
      simpa using h
    have hko' := hko k (by rw [← hki]; exact List.getElem_mem _)
    have HT1 := Lib.hid (show ks = ks.take (i + 1) ++ ks' by rw [List.take_succ_eq_append_getElem hlt, hki, List.append_assoc]; exact hk)
    have HT2 := Lib.hid (show i + 1 + ks'.length = ks.length by omega)
    have HKI := Lib.hid hki
    have HXS := Lib.hid hxs
    have HMB := Lib.hid hmb
    have HSA := Lib.hid hE.keep.size
    have hbA := (((below_alloc A (.cells #[.int .i64 i] 3)).alloc (by simp) (.cells (boolsA kn) 121)).alloc (by simp; omega) (.cells #[.bool false] 4))
    have hE2 := hE.below hbA
    have r2 := hE2.r.cell 2 R.a2
    rw [hn2] at r2
    obtain ⟨b, o, hpe, k0, k1, k2, k3⟩ := hE2.k i hlt
    rw [hki] at k0 k1 k2 k3
    rw [hpe] at r2
    have HPE := Lib.hid hpe
    have hie : ((i : Int) == (ks.length : Int)) = false := by simp; omega
    have HE := Lib.hid hE
    have HJN := Lib.hid hJn
    have hlt1 := hE.r.lt
    have hbl := cell_block k0
    simp only [World.size_alloc] at hbl
    have hblA : b < A.heap.size := by
      obtain ⟨b', o', e', c', _⟩ := hE.k i hlt
      rw [hpe] at e'; cases e'; exact cell_block c'
    rw [cols_def] at *
    clear hE hE2 hxs hJn hk hi hmb hki hpe
    refine calls_marks Tryz.func81 rfl ?_
    simp only [Tryz.ntmps81, List.size_toArray, List.length_cons, List.length_nil, Nat.reduceAdd, Nat.reduceSub, Array.replicate_succ, Array.replicate_zero, List.push_toArray, List.append_toArray, List.nil_append, List.cons_append]
    go_wp2_with fail
    refine (places_any k _).mono ?_
    rintro e w1 ⟨rfl, rfl⟩
    clear k0 k1 k2 k3 r2
    go_wp2_with fail
    generalize hW2 : ((((A.alloc (.cells #[.int .i64 i] 3)).alloc (.cells (boolsA kn) 121)).alloc (.cells #[.bool false] 4))).alloc (.cells k.A 171) = w2
    have hB2 : Below A.heap.size A w2 := by rw [← hW2]; exact hbA.alloc (by simp; omega) _
    have hs2 : A.heap.size + 4 ≤ w2.heap.size := by rw [← hW2]; simp
    have rK : Row w2 (A.heap.size + 1 + 1 + 1) k.A 171 := by rw [← hW2]; exact Row.new' (by simp) _ _
    have Q5 : Row w2 A.heap.size #[.int .i64 i] 3 := by rw [← hW2]; exact (((Row.new _ _ _).alloc _).alloc _).alloc _
    have Q6 : Row w2 (A.heap.size + 1) (boolsA kn) 121 := by rw [← hW2]; exact ((Row.new' (by simp) _ _).alloc _).alloc _
    have Q7 : Row w2 (A.heap.size + 1 + 1) #[.bool false] 4 := by rw [← hW2]; exact (Row.new' (by simp) _ _).alloc _
    clear hW2 hbA
    refine range_law 104 #[.pointer (some ⟨A.heap.size + 1 + 1 + 1, 0, none⟩)] (fun m => m = A.heap.size + 1 + 1 + 1) ((placesL k).map fun q => #[placeV q.1 q.2]) rfl (fun args w => Tryz.call104 args w)
      (fun W1 hb _ => places1_iter k hko' _ W1 (rK.below hb (by omega))) (by intro x hx; simp at hx; obtain ⟨_, _, _, rfl⟩ := hx; rfl) (fun m => M m ∨ m = A.heap.size + 1 + 1) (by have := HSA.out; rintro m (hm | rfl); (have := ho.lt _ hm; exact ⟨by omega, by omega⟩); exact ⟨by omega, by omega⟩) (by omega)
      (fun j B => J (n + (offL R long ks' kn (placesL k) j)) B ∧ Row B (A.heap.size + 1 + 1) #[.bool false] 4) (fun c B => c = .ret ∧ Jx B ∧ Row B (A.heap.size + 1 + 1) #[.bool false] 4) (fun j B C h hb => ⟨hJ _ _ _ h.1 (hb.mono (by have := HSA.out; omega)), h.2.below hb (by omega)⟩) (fun c B C h hb => ⟨h.1, hJx _ _ h.2.1 (hb.mono (by have := HSA.out; omega)), h.2.2.below hb (by omega)⟩) ⟨hJ _ _ _ HJN.out (hB2.mono HSA.out), Q7⟩ ?body ?done ?stop
    case body =>
      rintro l' j x D rfl hx hI hkeep hlA
      obtain ⟨⟨qa, qt⟩, hq, rfl⟩ : ∃ q : Int × Int, (placesL k)[j]? = some q ∧ x = #[placeV q.1 q.2] := by
        rw [List.getElem?_map] at hx
        cases hq : (placesL k)[j]? with
        | none => rw [hq] at hx; cases hx
        | some q => rw [hq] at hx; cases hx; exact ⟨q, rfl, rfl⟩
      have hmem : (qa, qt) ∈ placesL k := List.mem_of_getElem? hq
      have hrng := placesL_range hko' hmem
      have HTR := Lib.hid (ht k (by rw [← HKI.out]; exact List.getElem_mem _) _ hmem)
      have HIA := Lib.hid (show I64 qa from ⟨by omega, by omega⟩)
      have HIT := Lib.hid (show I64 qt from ⟨by omega, by omega⟩)
      have HE2 : Hid ((offL R long ks' kn (placesL k) (j + 1)) = (offL R long ks' kn (placesL k) j) + (truthsL R long ks' (orL kn (trailL R long qa qt.toNat))).length) := Lib.hid (take_flat (fun (q : Int × Int) => truthsL R long ks' (orL kn (trailL R long q.1 q.2.toNat))) hq)
      have hflat : ∀ t, t < (truthsL R long ks' (orL kn (trailL R long qa qt.toNat))).length → (truthsL R long (k :: ks') kn)[(offL R long ks' kn (placesL k) j) + t]? = (truthsL R long ks' (orL kn (trailL R long qa qt.toNat)))[t]? := fun t ht => flat_at (fun (q : Int × Int) => truthsL R long ks' (orL kn (trailL R long q.1 q.2.toNat))) hq t ht
      have HT3 : Hid (∀ t, t < (truthsL R long ks' (orL kn (trailL R long qa qt.toNat))).length → xs[n + (offL R long ks' kn (placesL k) j) + t]? = some #[cols ((truthsL R long ks' (orL kn (trailL R long qa qt.toNat))).getD t [])]) := by
        refine Lib.hid fun t ht' => ?_
        have h1 := hflat t ht'
        obtain ⟨h2, h3⟩ := List.getElem?_eq_some_iff.1 (h1.trans (List.getElem?_eq_getElem ht'))
        have h4 := HXS.out _ h2
        rw [Nat.add_assoc, h4]
        have h5 : ((truthsL R long (k :: ks') kn).getD ((offL R long ks' kn (placesL k) j) + t) []) = (truthsL R long ks' (orL kn (trailL R long qa qt.toNat))).getD t [] := by
          rw [List.getD_eq_getElem?_getD, List.getD_eq_getElem?_getD]
          exact congrArg (fun o => o.getD []) h1
        rw [h5]
      generalize (offL R long ks' kn (placesL k) j) = off0 at hI HE2 HT3
      have HI := Lib.hid hI
      have HKP := Lib.hid hkeep
      clear hx hq hI hkeep hmem hflat
      unfold placeV
      gi_wp2
      refine ⟨(KeepsBut.refl _ _).alloc _, fun oo => ?_⟩
      have hAz : w2.heap.size + 1 < D.heap.size := hlA
      have HDA := Lib.hid (show A.heap.size ≤ D.heap.size by omega)
      generalize hA2 : (D.alloc (Obj.cells #[Value.int IntKind.i64 qa, Value.int IntKind.i64 qt] 174)).putObj (w2.heap.size + 1) oo = A2
      have hsame : ∀ m, m ≠ w2.heap.size + 1 → A2.heap[m]? = (D.alloc (Obj.cells #[Value.int IntKind.i64 qa, Value.int IntKind.i64 qt] 174)).heap[m]? := fun m hm => by rw [← hA2]; exact World.putObj_heap_other hm
      have hk2A : KeepsBut (fun m => M m ∨ m = A.heap.size + 1 + 1) w2 A2 := by rw [← hA2]; exact (HKP.out.alloc _).putObj (.inr (by omega)) _
      have hDA2 : Below W.heap.size D A2 := by rw [← hA2]; exact ((below_alloc D _).mono (by have := HSA.out; omega)).trans (below_putObj _ _ _ (by have := HSA.out; omega))
      have rbe := HE.out.keepsT ho (show A.heap.size ≤ A.heap.size + 1 + 1 by omega) hB2 hk2A
      have rb5 : Row A2 A.heap.size #[.int .i64 i] 3 := Q5.keeps hk2A (by have := HSA.out; rintro (e | e); (have := ho.lt _ e; omega); omega)
      have rb6 : Row A2 (A.heap.size + 1) (boolsA kn) 121 := Q6.keeps hk2A (by have := HSA.out; rintro (e | e); (have := ho.lt _ e; omega); omega)
      have rb7 : Row A2 (A.heap.size + 1 + 1) #[.bool false] 4 := by unfold Row; rw [hsame _ (by omega)]; exact HI.out.2.alloc _
      have rba : Row A2 D.heap.size #[.int .i64 qa, .int .i64 qt] 174 := by unfold Row; rw [hsame _ (by omega)]; exact Row.new _ _ _
      have rbJ := hJ _ _ _ HI.out.1 hDA2
      have rbsz : W.heap.size ≤ A2.drew.heap.size := by have := HSA.out; have := hk2A.size; show W.heap.size ≤ A2.heap.size; omega
      clear hsame hA2 hk2A hDA2 HKP HI HKI HXS HJN HE Q5 Q6 Q7 rK
      gi_wp2_with fail
      refine region_invIn rfl (by kernel_rfl) (by kernel_rfl) (fun L a v => ∃ x27 x28 x29 x30 x31 x32 x33 x34 x35 x36 x37 : Value, a = { tmps := #[.int .i64 i, .agg (boolsA kn), .pointer (some ⟨rb, 0, none⟩), .pointer (some ⟨yb, 0, none⟩), .pointer (some ⟨pb, 0, none⟩), .pointer (some ⟨A.heap.size, 0, none⟩), .pointer (some ⟨A.heap.size + 1, 0, none⟩), .pointer (some ⟨A.heap.size + 1 + 1, 0, none⟩), .pointer (some ⟨D.heap.size, 0, none⟩), .int .i64 i, .pointer (some ⟨rb, 0, none⟩), .pointer (some ⟨rb, 2, none⟩), .slice (some ⟨b, o, none⟩) ks.length R.c2, .int .i64 ks.length, .bool false, undef, undef, undef, .pointer (some ⟨rb, 0, none⟩), .pointer (some ⟨rb, 2, none⟩), .slice (some ⟨b, o, none⟩) ks.length R.c2, .int .i64 i, .pointer (some ⟨b, o + i * 4, none⟩), .agg #[.int .i64 k.al, .int .i64 k.ah, .int .i64 k.fl, .int .i64 k.fh], .agg #[.int .i64 k.al, .int .i64 k.ah, .int .i64 k.fl, .int .i64 k.fh], .func (.func 104) #[] #[.pointer (some ⟨A.heap.size + 1 + 1 + 1, 0, none⟩)], placeV qa qt, x27, x28, x29, x30, x31, x32, x33, x34, x35, x36, x37], defers := [] } ∧ Hid (L 0 = true → x27 = .func (.func 81) #[] #[.pointer (some ⟨rb, 0, none⟩), .pointer (some ⟨yb, 0, none⟩), .pointer (some ⟨pb, 0, none⟩)]) ∧ Hid (L 1 = true → x28 = .int .i64 i) ∧ Hid (L 2 = true → x29 = .int .i64 ((i : Int) + 1)) ∧ Hid (L 3 = true → x30 = .agg (boolsA kn)) ∧ Hid (L 4 = true → x31 = .pointer (some ⟨rb, 10, none⟩)) ∧ Hid (L 5 = true → x32 = .map (some mb)) ∧ Hid (L 6 = true → x33 = placeV qa qt) ∧ Hid (L 7 = true → x34 = cols (trailL R long qa qt.toNat)) ∧ Hid (L 8 = true → x35 = cols (orL kn (trailL R long qa qt.toNat))) ∧ Hid (L 9 = false → Env R ks M W l rb yb pb mb nn f v) ∧ Hid (Row v A.heap.size #[.int .i64 i] 3) ∧ Hid (Row v (A.heap.size + 1) (boolsA kn) 121) ∧ Hid (Row v (A.heap.size + 1 + 1) #[.bool false] 4) ∧ Hid (Row v D.heap.size #[.int .i64 qa, .int .i64 qt] 174) ∧ Hid (L 9 = false → J (n + off0) v) ∧ Hid (L 9 = true → ((x36 = .bool true ∧ J ((n + off0) + (truthsL R long ks' (orL kn (trailL R long qa qt.toNat))).length) v) ∨ (x36 = .bool false ∧ Jx v))) ∧ Hid (L 10 = true → L 9 = true ∧ ∃ b : Bool, x36 = .bool b ∧ x37 = .bool (!b)) ∧ Hid (L 9 = true → L 0 = true ∧ L 5 = true ∧ L 7 = true) ∧ Hid (L 7 = true → L 5 = true) ∧ Hid (L 8 = true → L 7 = true) ∧ Hid (KeepsBut M A2 v) ∧ Hid (W.heap.size ≤ v.heap.size)) ?h0 ?steps ?hd
      case h0 => exact ⟨_, _, _, _, _, _, _, _, _, _, _, rfl, Lib.hid nofun, Lib.hid nofun, Lib.hid nofun, Lib.hid nofun, Lib.hid nofun, Lib.hid nofun, Lib.hid nofun, Lib.hid nofun, Lib.hid nofun, Lib.hid (fun _ => rbe.below (Below.refl _ _).drew), Lib.hid (rb5), Lib.hid (rb6), Lib.hid (rb7), Lib.hid (rba), Lib.hid (fun _ => hJ _ _ _ rbJ (Below.refl _ _).drew), Lib.hid (nofun), Lib.hid (nofun), Lib.hid (nofun), Lib.hid (nofun), Lib.hid (nofun), Lib.hid ((KeepsBut.refl _ _).drew), Lib.hid (rbsz)⟩
      case hd =>
        rintro L a v hL ⟨x27, x28, x29, x30, x31, x32, x33, x34, x35, x36, x37, rfl, hf0, hf1, hf2, hf3, hf4, hf5, hf6, hf7, hf8, he, h5, h6, h7, hra, hj, h36, h37, hord, ho7, ho8, hk2, hsz⟩
        obtain rfl := hf0.out (hL 0 (by decide))
        obtain rfl := hf1.out (hL 1 (by decide))
        obtain rfl := hf2.out (hL 2 (by decide))
        obtain rfl := hf3.out (hL 3 (by decide))
        obtain rfl := hf4.out (hL 4 (by decide))
        obtain rfl := hf5.out (hL 5 (by decide))
        obtain rfl := hf6.out (hL 6 (by decide))
        obtain rfl := hf7.out (hL 7 (by decide))
        obtain rfl := hf8.out (hL 8 (by decide))
        clear hf0
        clear hf1
        clear hf2
        clear hf3
        clear hf4
        clear hf5
        clear hf6
        clear hf7
        clear hf8
        obtain ⟨_, bv, hb36, hb37⟩ := h37.out (hL 10 (by decide))
        have hor := h36.out (hL 9 (by decide))
        subst hb37
        clear h37 hord hj he hL
        cases bv
        · rcases hor with ⟨h1, _⟩ | ⟨_, hjx⟩
          · rw [hb36] at h1; cases h1
          · have HJX := Lib.hid hjx
            have c7 := h7.out.cell 0 (v := .bool false) rfl
            have f7 := h7.out.free 0
            clear hjx hb36 h36
            gi_wp2
            have hrow := h7.out.set 0 (.bool false)
            exact (show KeepsBut _ A2 _ ∧ (Code.ret = Code.ret ∧ Jx _ ∧ Row _ (A.heap.size + 1 + 1) #[.bool false] 4) from ⟨(hk2.out.mono (fun _ _ h => .inl h)).setCell (.inl (.inr rfl)) _, rfl, hJx _ _ HJX.out ((Below.refl _ _).setCell (by have := HSA.out; dsimp only; omega) _), hrow⟩)
        · rcases hor with ⟨_, hjt⟩ | ⟨h1, _⟩
          · have HJT := Lib.hid hjt
            clear hjt hb36 h36
            gi_wp2
            exact (show KeepsBut _ A2 v ∧ (J (n + (offL R long ks' kn (placesL k) (j + 1))) v ∧ Row v (A.heap.size + 1 + 1) #[.bool false] 4) from ⟨hk2.out.mono (fun _ _ h => .inl h), by rw [HE2.out, ← Nat.add_assoc]; exact HJT.out, h7.out⟩)
          · rw [hb36] at h1; cases h1
      case steps =>
        refine ⟨?_, ?_, ?_, ?_, ?_, ?_, ?_, ?_, ?_, ?_, ?_, trivial⟩
        · rintro L a v hL hk ⟨x27, x28, x29, x30, x31, x32, x33, x34, x35, x36, x37, rfl, hf0, hf1, hf2, hf3, hf4, hf5, hf6, hf7, hf8, he, h5, h6, h7, hra, hj, h36, h37, hord, ho7, ho8, hk2, hsz⟩ K hK
          have HK0 := Lib.hid hK
          clear hK
          have hl9 : L 9 = false := by cases h9 : L 9; rfl; exact absurd (hord.out h9).1 (by simp [hk])
          have cp := (he.out hl9).p.cell 0 (v := .func (.func 81) #[] #[.pointer (some ⟨rb, 0, none⟩), .pointer (some ⟨yb, 0, none⟩), .pointer (some ⟨pb, 0, none⟩)]) rfl
          clear hk hl9 hL
          go_wp2
          exact HK0.out _ _ ⟨_, _, _, _, _, _, _, _, _, _, _, rfl, Lib.hid (fun _ => rfl), Lib.hid (fun h => hf1.out (by simpa [upd] using h)), Lib.hid (fun h => hf2.out (by simpa [upd] using h)), Lib.hid (fun h => hf3.out (by simpa [upd] using h)), Lib.hid (fun h => hf4.out (by simpa [upd] using h)), Lib.hid (fun h => hf5.out (by simpa [upd] using h)), Lib.hid (fun h => hf6.out (by simpa [upd] using h)), Lib.hid (fun h => hf7.out (by simpa [upd] using h)), Lib.hid (fun h => hf8.out (by simpa [upd] using h)), Lib.hid (fun h => he.out (by simpa [upd] using h)), h5, h6, h7, hra, Lib.hid (fun h => hj.out (by simpa [upd] using h)), Lib.hid (fun h => h36.out (by simpa [upd] using h)), Lib.hid (fun h => by have := h37.out (by simpa [upd] using h); exact ⟨by simp [upd, this.1], this.2⟩), Lib.hid (fun h => by have := hord.out (by simpa [upd] using h); first | (simp [upd]; done) | (simp [upd]; simp [this])), Lib.hid (fun h => by have := ho7.out (by simpa [upd] using h); first | (simp [upd]; done) | (simp [upd]; simp [this])), Lib.hid (fun h => by have := ho8.out (by simpa [upd] using h); first | (simp [upd]; done) | (simp [upd]; simp [this])), hk2, hsz⟩
        · rintro L a v hL hk ⟨x27, x28, x29, x30, x31, x32, x33, x34, x35, x36, x37, rfl, hf0, hf1, hf2, hf3, hf4, hf5, hf6, hf7, hf8, he, h5, h6, h7, hra, hj, h36, h37, hord, ho7, ho8, hk2, hsz⟩ K hK
          have HK0 := Lib.hid hK
          clear hK
          clear hL
          clear hk
          have c5 := h5.out.cell 0 (v := .int .i64 i) rfl
          go_wp2
          exact HK0.out _ _ ⟨_, _, _, _, _, _, _, _, _, _, _, rfl, Lib.hid (fun h => hf0.out (by simpa [upd] using h)), Lib.hid (fun _ => rfl), Lib.hid (fun h => hf2.out (by simpa [upd] using h)), Lib.hid (fun h => hf3.out (by simpa [upd] using h)), Lib.hid (fun h => hf4.out (by simpa [upd] using h)), Lib.hid (fun h => hf5.out (by simpa [upd] using h)), Lib.hid (fun h => hf6.out (by simpa [upd] using h)), Lib.hid (fun h => hf7.out (by simpa [upd] using h)), Lib.hid (fun h => hf8.out (by simpa [upd] using h)), Lib.hid (fun h => he.out (by simpa [upd] using h)), h5, h6, h7, hra, Lib.hid (fun h => hj.out (by simpa [upd] using h)), Lib.hid (fun h => h36.out (by simpa [upd] using h)), Lib.hid (fun h => by have := h37.out (by simpa [upd] using h); exact ⟨by simp [upd, this.1], this.2⟩), Lib.hid (fun h => by have := hord.out (by simpa [upd] using h); first | (simp [upd]; done) | (simp [upd]; simp [this])), Lib.hid (fun h => by have := ho7.out (by simpa [upd] using h); first | (simp [upd]; done) | (simp [upd]; simp [this])), Lib.hid (fun h => by have := ho8.out (by simpa [upd] using h); first | (simp [upd]; done) | (simp [upd]; simp [this])), hk2, hsz⟩
        · rintro L a v hL hk ⟨x27, x28, x29, x30, x31, x32, x33, x34, x35, x36, x37, rfl, hf0, hf1, hf2, hf3, hf4, hf5, hf6, hf7, hf8, he, h5, h6, h7, hra, hj, h36, h37, hord, ho7, ho8, hk2, hsz⟩ K hK
          have HK0 := Lib.hid hK
          clear hK
          obtain rfl := hf1.out (after_on hL 1 rfl)
          clear hL
          clear hk
          go_wp2
          exact HK0.out _ _ ⟨_, _, _, _, _, _, _, _, _, _, _, rfl, Lib.hid (fun h => hf0.out (by simpa [upd] using h)), Lib.hid (fun _ => rfl), Lib.hid (fun _ => rfl), Lib.hid (fun h => hf3.out (by simpa [upd] using h)), Lib.hid (fun h => hf4.out (by simpa [upd] using h)), Lib.hid (fun h => hf5.out (by simpa [upd] using h)), Lib.hid (fun h => hf6.out (by simpa [upd] using h)), Lib.hid (fun h => hf7.out (by simpa [upd] using h)), Lib.hid (fun h => hf8.out (by simpa [upd] using h)), Lib.hid (fun h => he.out (by simpa [upd] using h)), h5, h6, h7, hra, Lib.hid (fun h => hj.out (by simpa [upd] using h)), Lib.hid (fun h => h36.out (by simpa [upd] using h)), Lib.hid (fun h => by have := h37.out (by simpa [upd] using h); exact ⟨by simp [upd, this.1], this.2⟩), Lib.hid (fun h => by have := hord.out (by simpa [upd] using h); first | (simp [upd]; done) | (simp [upd]; simp [this])), Lib.hid (fun h => by have := ho7.out (by simpa [upd] using h); first | (simp [upd]; done) | (simp [upd]; simp [this])), Lib.hid (fun h => by have := ho8.out (by simpa [upd] using h); first | (simp [upd]; done) | (simp [upd]; simp [this])), hk2, hsz⟩
        · rintro L a v hL hk ⟨x27, x28, x29, x30, x31, x32, x33, x34, x35, x36, x37, rfl, hf0, hf1, hf2, hf3, hf4, hf5, hf6, hf7, hf8, he, h5, h6, h7, hra, hj, h36, h37, hord, ho7, ho8, hk2, hsz⟩ K hK
          have HK0 := Lib.hid hK
          clear hK
          clear hL
          clear hk
          refine wp_load_row 121 _ rfl _ rfl 121 _ (0, 0) _ h6.out Tryz.underlying121 rfl (size88 hkn) ?_
          exact HK0.out _ _ ⟨_, _, _, _, _, _, _, _, _, _, _, rfl, Lib.hid (fun h => hf0.out (by simpa [upd] using h)), Lib.hid (fun h => hf1.out (by simpa [upd] using h)), Lib.hid (fun h => hf2.out (by simpa [upd] using h)), Lib.hid (fun _ => rfl), Lib.hid (fun h => hf4.out (by simpa [upd] using h)), Lib.hid (fun h => hf5.out (by simpa [upd] using h)), Lib.hid (fun h => hf6.out (by simpa [upd] using h)), Lib.hid (fun h => hf7.out (by simpa [upd] using h)), Lib.hid (fun h => hf8.out (by simpa [upd] using h)), Lib.hid (fun h => he.out (by simpa [upd] using h)), h5, h6, h7, hra, Lib.hid (fun h => hj.out (by simpa [upd] using h)), Lib.hid (fun h => h36.out (by simpa [upd] using h)), Lib.hid (fun h => by have := h37.out (by simpa [upd] using h); exact ⟨by simp [upd, this.1], this.2⟩), Lib.hid (fun h => by have := hord.out (by simpa [upd] using h); first | (simp [upd]; done) | (simp [upd]; simp [this])), Lib.hid (fun h => by have := ho7.out (by simpa [upd] using h); first | (simp [upd]; done) | (simp [upd]; simp [this])), Lib.hid (fun h => by have := ho8.out (by simpa [upd] using h); first | (simp [upd]; done) | (simp [upd]; simp [this])), hk2, hsz⟩
        · rintro L a v hL hk ⟨x27, x28, x29, x30, x31, x32, x33, x34, x35, x36, x37, rfl, hf0, hf1, hf2, hf3, hf4, hf5, hf6, hf7, hf8, he, h5, h6, h7, hra, hj, h36, h37, hord, ho7, ho8, hk2, hsz⟩ K hK
          have HK0 := Lib.hid hK
          clear hK
          clear hL
          clear hk
          go_wp2
          exact HK0.out _ _ ⟨_, _, _, _, _, _, _, _, _, _, _, rfl, Lib.hid (fun h => hf0.out (by simpa [upd] using h)), Lib.hid (fun h => hf1.out (by simpa [upd] using h)), Lib.hid (fun h => hf2.out (by simpa [upd] using h)), Lib.hid (fun h => hf3.out (by simpa [upd] using h)), Lib.hid (fun _ => rfl), Lib.hid (fun h => hf5.out (by simpa [upd] using h)), Lib.hid (fun h => hf6.out (by simpa [upd] using h)), Lib.hid (fun h => hf7.out (by simpa [upd] using h)), Lib.hid (fun h => hf8.out (by simpa [upd] using h)), Lib.hid (fun h => he.out (by simpa [upd] using h)), h5, h6, h7, hra, Lib.hid (fun h => hj.out (by simpa [upd] using h)), Lib.hid (fun h => h36.out (by simpa [upd] using h)), Lib.hid (fun h => by have := h37.out (by simpa [upd] using h); exact ⟨by simp [upd, this.1], this.2⟩), Lib.hid (fun h => by have := hord.out (by simpa [upd] using h); first | (simp [upd]; done) | (simp [upd]; simp [this])), Lib.hid (fun h => by have := ho7.out (by simpa [upd] using h); first | (simp [upd]; done) | (simp [upd]; simp [this])), Lib.hid (fun h => by have := ho8.out (by simpa [upd] using h); first | (simp [upd]; done) | (simp [upd]; simp [this])), hk2, hsz⟩
        · rintro L a v hL hk ⟨x27, x28, x29, x30, x31, x32, x33, x34, x35, x36, x37, rfl, hf0, hf1, hf2, hf3, hf4, hf5, hf6, hf7, hf8, he, h5, h6, h7, hra, hj, h36, h37, hord, ho7, ho8, hk2, hsz⟩ K hK
          have HK0 := Lib.hid hK
          clear hK
          obtain rfl := hf4.out (after_on hL 4 rfl)
          have hl9 : L 9 = false := by cases h9 : L 9; rfl; exact absurd (hord.out h9).2.1 (by simp [hk])
          have c10 := (he.out hl9).r.cell 10 (R.a10 hs)
          rw [HMB.out] at c10
          clear hk hl9 hL
          go_wp2
          exact HK0.out _ _ ⟨_, _, _, _, _, _, _, _, _, _, _, rfl, Lib.hid (fun h => hf0.out (by simpa [upd] using h)), Lib.hid (fun h => hf1.out (by simpa [upd] using h)), Lib.hid (fun h => hf2.out (by simpa [upd] using h)), Lib.hid (fun h => hf3.out (by simpa [upd] using h)), Lib.hid (fun _ => rfl), Lib.hid (fun _ => rfl), Lib.hid (fun h => hf6.out (by simpa [upd] using h)), Lib.hid (fun h => hf7.out (by simpa [upd] using h)), Lib.hid (fun h => hf8.out (by simpa [upd] using h)), Lib.hid (fun h => he.out (by simpa [upd] using h)), h5, h6, h7, hra, Lib.hid (fun h => hj.out (by simpa [upd] using h)), Lib.hid (fun h => h36.out (by simpa [upd] using h)), Lib.hid (fun h => by have := h37.out (by simpa [upd] using h); exact ⟨by simp [upd, this.1], this.2⟩), Lib.hid (fun h => by have := hord.out (by simpa [upd] using h); first | (simp [upd]; done) | (simp [upd]; simp [this])), Lib.hid (fun h => by have := ho7.out (by simpa [upd] using h); first | (simp [upd]; done) | (simp [upd]; simp [this])), Lib.hid (fun h => by have := ho8.out (by simpa [upd] using h); first | (simp [upd]; done) | (simp [upd]; simp [this])), hk2, hsz⟩
        · rintro L a v hL hk ⟨x27, x28, x29, x30, x31, x32, x33, x34, x35, x36, x37, rfl, hf0, hf1, hf2, hf3, hf4, hf5, hf6, hf7, hf8, he, h5, h6, h7, hra, hj, h36, h37, hord, ho7, ho8, hk2, hsz⟩ K hK
          have HK0 := Lib.hid hK
          clear hK
          clear hL
          clear hk
          refine wp_load_row 174 _ rfl _ rfl 174 _ (0, 0) _ hra.out Tryz.underlying174 rfl (by kernel_rfl) ?_
          exact HK0.out _ _ ⟨_, _, _, _, _, _, _, _, _, _, _, rfl, Lib.hid (fun h => hf0.out (by simpa [upd] using h)), Lib.hid (fun h => hf1.out (by simpa [upd] using h)), Lib.hid (fun h => hf2.out (by simpa [upd] using h)), Lib.hid (fun h => hf3.out (by simpa [upd] using h)), Lib.hid (fun h => hf4.out (by simpa [upd] using h)), Lib.hid (fun h => hf5.out (by simpa [upd] using h)), Lib.hid (fun _ => rfl), Lib.hid (fun h => hf7.out (by simpa [upd] using h)), Lib.hid (fun h => hf8.out (by simpa [upd] using h)), Lib.hid (fun h => he.out (by simpa [upd] using h)), h5, h6, h7, hra, Lib.hid (fun h => hj.out (by simpa [upd] using h)), Lib.hid (fun h => h36.out (by simpa [upd] using h)), Lib.hid (fun h => by have := h37.out (by simpa [upd] using h); exact ⟨by simp [upd, this.1], this.2⟩), Lib.hid (fun h => by have := hord.out (by simpa [upd] using h); first | (simp [upd]; done) | (simp [upd]; simp [this])), Lib.hid (fun h => by have := ho7.out (by simpa [upd] using h); first | (simp [upd]; done) | (simp [upd]; simp [this])), Lib.hid (fun h => by have := ho8.out (by simpa [upd] using h); first | (simp [upd]; done) | (simp [upd]; simp [this])), hk2, hsz⟩
        · rintro L a v hL hk ⟨x27, x28, x29, x30, x31, x32, x33, x34, x35, x36, x37, rfl, hf0, hf1, hf2, hf3, hf4, hf5, hf6, hf7, hf8, he, h5, h6, h7, hra, hj, h36, h37, hord, ho7, ho8, hk2, hsz⟩ K hK
          have HK0 := Lib.hid hK
          clear hK
          obtain rfl := hf5.out (after_on hL 5 rfl)
          obtain rfl := hf6.out (after_on hL 6 rfl)
          have HL7 := Lib.hid hL
          have hl9 : L 9 = false := by cases h9 : L 9; rfl; exact absurd (hord.out h9).2.2 (by simp [hk])
          clear hL
          refine wp_lookup' _ _ _ rfl mb _ rfl rfl _ ((he.out hl9).m.look HIA.out HIT.out HTR.out) ?_
          exact HK0.out _ _ ⟨_, _, _, _, _, _, _, _, _, _, _, rfl, Lib.hid (fun h => hf0.out (by simpa [upd] using h)), Lib.hid (fun h => hf1.out (by simpa [upd] using h)), Lib.hid (fun h => hf2.out (by simpa [upd] using h)), Lib.hid (fun h => hf3.out (by simpa [upd] using h)), Lib.hid (fun h => hf4.out (by simpa [upd] using h)), Lib.hid (fun _ => rfl), Lib.hid (fun _ => rfl), Lib.hid (fun _ => rfl), Lib.hid (fun h => hf8.out (by simpa [upd] using h)), Lib.hid (fun h => he.out (by simpa [upd] using h)), h5, h6, h7, hra, Lib.hid (fun h => hj.out (by simpa [upd] using h)), Lib.hid (fun h => h36.out (by simpa [upd] using h)), Lib.hid (fun h => by have := h37.out (by simpa [upd] using h); exact ⟨by simp [upd, this.1], this.2⟩), Lib.hid (fun h => by have := hord.out (by simpa [upd] using h); first | (simp [upd]; done) | (simp [upd]; simp [this])), Lib.hid (fun _ => by rw [upd_other _ (by decide)]; exact after_on HL7.out 5 rfl), Lib.hid (fun h => by have := ho8.out (by simpa [upd] using h); first | (simp [upd]; done) | (simp [upd]; simp [this])), hk2, hsz⟩
        · rintro L a v hL hk ⟨x27, x28, x29, x30, x31, x32, x33, x34, x35, x36, x37, rfl, hf0, hf1, hf2, hf3, hf4, hf5, hf6, hf7, hf8, he, h5, h6, h7, hra, hj, h36, h37, hord, ho7, ho8, hk2, hsz⟩ K hK
          have HK0 := Lib.hid hK
          clear hK
          obtain rfl := hf3.out (after_on hL 3 rfl)
          obtain rfl := hf7.out (after_on hL 7 rfl)
          clear hk
          have HL8 := Lib.hid hL
          clear hL
          go_wp2_with fail
          refine (with_any kn _ hkn (trailL_length _ _ _ _) _).mono ?_
          rintro e w1 ⟨rfl, hb1⟩
          exact HK0.out _ _ ⟨_, _, _, _, _, _, _, _, _, _, _, rfl, Lib.hid (fun h => hf0.out (by simpa [upd] using h)), Lib.hid (fun h => hf1.out (by simpa [upd] using h)), Lib.hid (fun h => hf2.out (by simpa [upd] using h)), Lib.hid (fun _ => rfl), Lib.hid (fun h => hf4.out (by simpa [upd] using h)), Lib.hid (fun h => hf5.out (by simpa [upd] using h)), Lib.hid (fun h => hf6.out (by simpa [upd] using h)), Lib.hid (fun _ => rfl), Lib.hid (fun _ => rfl), Lib.hid (fun h => (he.out (by simpa [upd] using h)).below hb1), Lib.hid (h5.out.below hb1 h5.out.lt), Lib.hid (h6.out.below hb1 h6.out.lt), Lib.hid (h7.out.below hb1 h7.out.lt), Lib.hid (hra.out.below hb1 hra.out.lt), Lib.hid (fun h => hJ _ _ _ (hj.out (by simpa [upd] using h)) (hb1.mono hsz.out)), Lib.hid (fun h => by have := h36.out (by simpa [upd] using h); exact this.imp (fun h => ⟨h.1, hJ _ _ _ h.2 (hb1.mono hsz.out)⟩) (fun h => ⟨h.1, hJx _ _ h.2 (hb1.mono hsz.out)⟩)), Lib.hid (fun h => by have := h37.out (by simpa [upd] using h); exact ⟨by simp [upd, this.1], this.2⟩), Lib.hid (fun h => by have := hord.out (by simpa [upd] using h); first | (simp [upd]; done) | (simp [upd]; simp [this])), Lib.hid (fun h => by have := ho7.out (by simpa [upd] using h); first | (simp [upd]; done) | (simp [upd]; simp [this])), Lib.hid (fun _ => by rw [upd_other _ (by decide)]; exact after_on HL8.out 7 rfl), Lib.hid (hk2.out.after hb1), Lib.hid (Nat.le_trans hsz.out hb1.size)⟩
        · rintro L a v hL hk ⟨x27, x28, x29, x30, x31, x32, x33, x34, x35, x36, x37, rfl, hf0, hf1, hf2, hf3, hf4, hf5, hf6, hf7, hf8, he, h5, h6, h7, hra, hj, h36, h37, hord, ho7, ho8, hk2, hsz⟩ K hK
          have HK0 := Lib.hid hK
          clear hK
          obtain rfl := hf0.out (after_on hL 0 rfl)
          obtain rfl := hf2.out (after_on hL 2 rfl)
          obtain rfl := hf8.out (after_on hL 8 rfl)
          have hcall := ih (i + 1) (n + off0) (orL kn (trailL R long qa qt.toNat)) v HT1.out HT2.out (orL_length hkn (trailL_length _ _ _ _)) HT3.out (he.out hk) (hj.out hk)
          rw [show ((i + 1 : Nat) : Int) = (i : Int) + 1 by omega] at hcall
          have HCALL := Lib.hid hcall
          have HLL := Lib.hid hL
          have HLK := Lib.hid hk
          clear hcall hk hL
          go_wp2_with fail
          refine HCALL.out.mono ?_
          rintro e w1 ⟨hkM, (⟨rfl, hjj⟩ | ⟨rfl, hjj⟩)⟩
          all_goals exact HK0.out _ _ ⟨_, _, _, _, _, _, _, _, _, _, _, rfl, Lib.hid (fun _ => rfl), Lib.hid (fun h => hf1.out (by simpa [upd] using h)), Lib.hid (fun _ => rfl), Lib.hid (fun h => hf3.out (by simpa [upd] using h)), Lib.hid (fun h => hf4.out (by simpa [upd] using h)), Lib.hid (fun h => hf5.out (by simpa [upd] using h)), Lib.hid (fun h => hf6.out (by simpa [upd] using h)), Lib.hid (fun h => hf7.out (by simpa [upd] using h)), Lib.hid (fun _ => rfl), Lib.hid (fun h => by simp [upd] at h), Lib.hid (h5.out.keeps hkM (fun e => by have := ho.lt _ e; have := HSA.out; omega)), Lib.hid (h6.out.keeps hkM (fun e => by have := ho.lt _ e; have := HSA.out; omega)), Lib.hid (h7.out.keeps hkM (fun e => by have := ho.lt _ e; have := HSA.out; omega)), Lib.hid (hra.out.keeps hkM (fun e => by have := ho.lt _ e; have := HSA.out; have := HDA.out; omega)), Lib.hid (fun h => by simp [upd] at h), Lib.hid (fun _ => by first | exact .inl ⟨rfl, hjj⟩ | exact .inr ⟨rfl, hjj⟩), Lib.hid (fun h => absurd (h37.out (by simpa [upd] using h)).1 (by simp [HLK.out])), Lib.hid (fun _ => by rw [upd_other _ (by decide), upd_other _ (by decide), upd_other _ (by decide)]; have h8 := ho8.out (after_on HLL.out 8 rfl); exact ⟨after_on HLL.out 0 rfl, ho7.out h8, h8⟩), Lib.hid (fun h => by have := ho7.out (by simpa [upd] using h); first | (simp [upd]; done) | (simp [upd]; simp [this])), Lib.hid (fun h => by have := ho8.out (by simpa [upd] using h); first | (simp [upd]; done) | (simp [upd]; simp [this])), Lib.hid (hk2.out.trans hkM), Lib.hid (Nat.le_trans hsz.out hkM.size)⟩
        · rintro L a v hL hk ⟨x27, x28, x29, x30, x31, x32, x33, x34, x35, x36, x37, rfl, hf0, hf1, hf2, hf3, hf4, hf5, hf6, hf7, hf8, he, h5, h6, h7, hra, hj, h36, h37, hord, ho7, ho8, hk2, hsz⟩ K hK
          have HK0 := Lib.hid hK
          clear hK
          have h9 := after_on hL 9 rfl
          clear hL hk
          rcases h36.out h9 with ⟨rfl, hjj⟩ | ⟨rfl, hjj⟩
          all_goals have HJJ := Lib.hid hjj
          all_goals clear hjj
          all_goals go_wp2
          all_goals exact HK0.out _ _ ⟨_, _, _, _, _, _, _, _, _, _, _, rfl, Lib.hid (fun h => hf0.out (by simpa [upd] using h)), Lib.hid (fun h => hf1.out (by simpa [upd] using h)), Lib.hid (fun h => hf2.out (by simpa [upd] using h)), Lib.hid (fun h => hf3.out (by simpa [upd] using h)), Lib.hid (fun h => hf4.out (by simpa [upd] using h)), Lib.hid (fun h => hf5.out (by simpa [upd] using h)), Lib.hid (fun h => hf6.out (by simpa [upd] using h)), Lib.hid (fun h => hf7.out (by simpa [upd] using h)), Lib.hid (fun h => hf8.out (by simpa [upd] using h)), Lib.hid (fun h => he.out (by simpa [upd] using h)), h5, h6, h7, hra, Lib.hid (fun h => hj.out (by simpa [upd] using h)), Lib.hid (fun _ => by first | exact .inl ⟨rfl, HJJ.out⟩ | exact .inr ⟨rfl, HJJ.out⟩), Lib.hid (fun _ => ⟨by rw [upd_other _ (by decide)]; exact h9, _, rfl, rfl⟩), Lib.hid (fun h => by have := hord.out (by simpa [upd] using h); first | (simp [upd]; done) | (simp [upd]; simp [this])), Lib.hid (fun h => by have := ho7.out (by simpa [upd] using h); first | (simp [upd]; done) | (simp [upd]; simp [this])), Lib.hid (fun h => by have := ho8.out (by simpa [upd] using h); first | (simp [upd]; done) | (simp [upd]; simp [this])), hk2, hsz⟩
    case done =>
      intro B hI hkeep hsz hD
      have hI : J (n + (offL R long ks' kn (placesL k) ((placesL k).map fun q => #[placeV q.1 q.2]).length)) B ∧ Row B (A.heap.size + 1 + 1) #[.bool false] 4 := hI
      have e0 : offL R long ks' kn (placesL k) (placesL k).length = (truthsL R long (k :: ks') kn).length := by unfold offL; rw [List.take_length]; rfl
      rw [List.length_map, e0] at hI
      have HB2 := Lib.hid hI.1
      have HK := Lib.hid ((KeepsBut.tail hB2 hkeep (show A.heap.size ≤ A.heap.size + 1 + 1 by omega)))
      have rB := hI.2
      have c0 := rB.cell 0 (v := .bool false) rfl
      have f0 := rB.free 0
      have hrow := rB.set 0 (.bool true)
      have HDD := Lib.hid hD
      have HSZ := Lib.hid hsz
      clear hI hkeep hD hsz rB
      go_wp2
      refine marks_leave (n := A.heap.size) (show Marks A.heap.size _ _ from ⟨⟨_, rfl, by omega, (Below.heap_setCell _ _ _ _ (by dsimp only; omega)).trans HDD.out, by simp⟩, trivial⟩) (fun B2 hS => ?_)
      have hr3 : Row B2 (A.heap.size + 1 + 1) #[.bool true] 4 := by unfold Row; rw [hS.rest _ (fun o h => by unfold Row at hrow; rw [hrow] at h; cases h)]; exact hrow
      have hres := hr3.cell 0 (v := .bool true) rfl
      refine ⟨.bool true, by simp [results, Tryz.results81, go_sem, hres], ?_⟩
      exact ⟨(HK.out.setCell (.inr (by dsimp only; omega)) _).after' hS.below, .inl ⟨rfl, hJ _ _ _ HB2.out (((Below.refl _ _).setCell (by have := HSA.out; dsimp only; omega) _).trans (hS.below.mono HSA.out))⟩⟩
    case stop =>
      rintro c B ⟨rfl, hjx, hrow⟩ hkeep hsz hD
      have HB2 := Lib.hid hjx
      have HK := Lib.hid ((KeepsBut.tail hB2 hkeep (show A.heap.size ≤ A.heap.size + 1 + 1 by omega)))
      clear hjx hkeep
      refine wp_ret ?_
      refine marks_leave (n := A.heap.size) (show Marks A.heap.size _ _ from ⟨⟨_, rfl, by omega, hD, by simp⟩, trivial⟩) (fun B2 hS => ?_)
      have hr3 : Row B2 (A.heap.size + 1 + 1) #[.bool false] 4 := by unfold Row; rw [hS.rest _ (fun o h => by unfold Row at hrow; rw [hrow] at h; cases h)]; exact hrow
      have hres := hr3.cell 0 (v := .bool false) rfl
      refine ⟨.bool false, by simp [results, Tryz.results81, go_sem, hres], ?_⟩
      exact ⟨HK.out.after' hS.below, .inr ⟨rfl, hJx _ _ HB2.out (hS.below.mono HSA.out)⟩⟩

end Go.Proofs.YticfcdbfplfmlaaGreat.Pe
/- The walks of layer 1: the truths of a ribbon as rounds of a range. -/
namespace Go.Proofs.YticfcdbfplfmlaaGreat.Pe
open Go.RowKit Go.Maps
attribute [local go_sem] Oper.semAt_some

/-- What the rounds over the truths read. -/
def readsR (R : Rib) (ks : List K4) (rb mb : Nat) (m : Nat) : Prop := m = rb ∨ m = mb ∨ (ks ≠ [] ∧ ∃ o, R.p2 = some ⟨m, o, none⟩)
/-- The truths of a ribbon, in their order. -/
def truthsOf (R : Rib) (long : List Int) (ks : List K4) : List (List Bool) := truthsL R long ks (List.replicate 72 false)

set_option maxRecDepth 10000 in
set_option maxHeartbeats 1600000 in
theorem truths1_iter (R : Rib) (long : List Int) (ks : List K4) (hs : R.s.length = 6) (hn2 : R.n2 = ks.length) (h3 : ks.length ≤ 3) (hko : ∀ k ∈ ks, K4Ok k) (rb mb nn : Nat) (f : Int → Int → Option (List Bool)) (hmb : R.mb = some mb) (ht : Trails R long ks f)
    (W : World) (hr : Row W rb R.A 115) (hm : MapIs W mb nn f) (hk : KnotsAt W R.p2 ks) :
    IterAt Tryz.prog 80 #[.pointer (some ⟨rb, 0, none⟩)] (readsR R ks rb mb) ((truthsOf R long ks).map fun c => #[cols c]) W := by
  intro l M J Jx hM hJ hJx hY h0
  show Calls _ _ #[.func (.yield l) #[] #[], .pointer (some ⟨rb, 0, none⟩)] _ _
  have HR := Lib.hid hr
  have HM := Lib.hid hm
  have HK := Lib.hid hk
  have HY := Lib.hid hY
  have H0 := Lib.hid h0
  have hlt := hr.lt
  have hlt2 := hm.lt
  clear hr hm hk hY h0
  go_enter Tryz.func80, Tryz.ntmps80
  go_wp2_with fail
  generalize hW2 : ((W.alloc (.cells #[.func (.yield l) #[] #[]] 176)).alloc (.cells #[.func (.func 81) #[] #[.pointer (some ⟨rb, 0, none⟩), .pointer (some ⟨W.heap.size, 0, none⟩), .pointer (some ⟨W.heap.size + 1, 0, none⟩)]] 177)) = W2
  have hb : Below W.heap.size W W2 := by rw [← hW2]; exact (below_alloc _ _).alloc (by simp) _
  have hE : Env R ks M W l rb W.heap.size (W.heap.size + 1) mb nn f W2 := by
    refine ⟨HR.out.below hb hlt, ?_, ?_, HM.out.of_same (hb.block _ hlt2), HK.out.below hb, .of_below hb⟩
    · rw [← hW2]; exact (Row.new _ _ _).alloc _
    · rw [← hW2]; exact Row.new' (by simp) _ _
  have ho : Off R ks M W rb W.heap.size (W.heap.size + 1) mb :=
    ⟨fun m h => (hM m h).1, fun h => (hM _ h).2 (.inl rfl), fun h => (hM _ h).2 (.inr (.inl rfl)), fun hne b o e h => (hM _ h).2 (.inr (.inr ⟨hne, o, e⟩)), Nat.le_refl _, by omega⟩
  have hcall := put_any R long ks hs hn2 h3 hko M W l rb W.heap.size (W.heap.size + 1) mb nn f ho hmb ht J Jx hJ hJx ((truthsOf R long ks).map fun c => #[cols c]) HY.out ks 0 0 (List.replicate 72 false) W2 rfl (by simp) (by simp)
    (fun j hj => by
      rw [Nat.zero_add, List.getElem?_map, List.getD_eq_getElem?_getD]
      have hj : j < (truthsOf R long ks).length := hj
      show Option.map _ (truthsOf R long ks)[j]? = some #[cols ((truthsOf R long ks)[j]?.getD [])]
      rw [List.getElem?_eq_getElem hj]; rfl) hE (hJ _ _ _ H0.out hb)
  rw [cols_def, ← zero88] at hcall
  clear hW2
  refine hcall.mono ?_
  rintro e B ⟨hkB, hJB⟩
  have HKB := Lib.hid ((KeepsBut.of_below hb).trans hkB)
  have HJB := Lib.hid (show J ((truthsOf R long ks).map fun c => #[cols c]).length B ∨ Jx B by
    rw [List.length_map]
    rcases hJB with ⟨_, h⟩ | ⟨_, h⟩
    · rw [Nat.zero_add] at h; exact .inl h
    · exact .inr h)
  have hv : ∃ v, e = .returned v := by rcases hJB with ⟨h, _⟩ | ⟨h, _⟩ <;> exact ⟨_, h⟩
  obtain ⟨v, rfl⟩ := hv
  clear hkB hJB hcall hE
  go_wp2
  go_end0
  exact ⟨⟨_, rfl⟩, HKB.out, HJB.out⟩

set_option maxRecDepth 10000 in
theorem truths_any (R : Rib) (hs : R.s.length = 6) (w : World) :
    Calls Tryz.prog 57 #[.agg R.A] w fun e w' => e = .returned (.func (.func 80) #[] #[.pointer (some ⟨w.heap.size, 0, none⟩)]) ∧ w' = w.alloc (.cells R.A 115) := by
  have HS := Lib.hid (size76 (R := R) hs)
  go_enter Tryz.func57, Tryz.ntmps57
  go_wp2
  go_ret
  exact ⟨rfl, rfl⟩

end Go.Proofs.YticfcdbfplfmlaaGreat.Pe
/- The walks of layer 1: which logs are valid. -/
namespace Go.Proofs.YticfcdbfplfmlaaGreat.Pe
open Go.RowKit Go.Maps
attribute [local go_sem] Oper.semAt_some

/-- What knots of so many turns are valid. -/
def kvalidB (k : K4) (n : Int) : Bool := showsB k.al k.fl (wrap64 (n + 1)) && showsB k.ah k.fh (wrap64 (n + 1)) && narrowB k.al k.ah 3 && narrowB k.fl k.fh 1

theorem endAt0 (w : World) : (Instr.index 206 (.agg #[.func (.func 105) #[] #[], .func (.func 106) #[] #[]]) (.int .i64 0)).run Tryz.prog w = .ok (.func (.func 105) #[] #[]) w := by
  simp [Instr.index, go_sem]
theorem endAt1 (w : World) : (Instr.index 206 (.agg #[.func (.func 105) #[] #[], .func (.func 106) #[] #[]]) (.int .i64 1)).run Tryz.prog w = .ok (.func (.func 106) #[] #[]) w := by
  simp [Instr.index, go_sem]

set_option maxRecDepth 10000 in
set_option maxHeartbeats 800000 in
theorem kvalid_any (k : K4) (n : Int) (w : World) :
    Calls Tryz.prog 103 #[.agg k.A, .int .i64 n] w fun e w' => e = .returned (.bool (kvalidB k n)) ∧ Below w.heap.size w w' := by
  unfold K4.A
  go_enter Tryz.func103, Tryz.ntmps103
  go_wp2_with (first | (refine (ends_any _).mono ?_; rintro e w1 ⟨rfl, hb1⟩))
  have r0 : Row w1 w.heap.size #[.int .i64 k.al, .int .i64 k.ah, .int .i64 k.fl, .int .i64 k.fh] 171 := (Row.new _ _ _).below hb1 (by simp)
  have hb0 := (below_alloc w (.cells #[.int .i64 k.al, .int .i64 k.ah, .int .i64 k.fl, .int .i64 k.fh] 171)).trans (hb1.mono (by simp))
  go_loopw [8] (fun i wr => (i = .int .i64 0 ∨ (i = .int .i64 1 ∧ showsB k.al k.fl (wrap64 (n + 1)) = true) ∨ (i = .int .i64 2 ∧ showsB k.al k.fl (wrap64 (n + 1)) = true ∧ showsB k.ah k.fh (wrap64 (n + 1)) = true)) ∧ Row wr w.heap.size #[.int .i64 k.al, .int .i64 k.ah, .int .i64 k.fl, .int .i64 k.fh] 171 ∧ Below w.heap.size w wr) (fun i _ => 2 - (intOf i).toNat)
  case atStart => exact ⟨.inl rfl, r0, hb0⟩
  case round =>
    obtain ⟨hi, hr, hb⟩ := hrel
    have HR := Lib.hid hr
    have HB := Lib.hid hb
    have hlt := hr.lt
    clear hr hb r0 hb0 hb1
    rcases hi with rfl | ⟨rfl, h1⟩ | ⟨rfl, h1, h2⟩
    · cases hs : showsB k.al k.fl (wrap64 (n + 1))
      · go_wp2_with (first | (refine index_op rfl 206 _ _ rfl _ _ rfl rfl _ (endAt0 _) ?_) | (refine load_row rfl 171 _ rfl _ rfl 171 _ _ HR.out Tryz.underlying171 rfl (by kernel_rfl) ?_) | (refine (low_any _ _ _ _ _).mono ?_; rintro e w2 ⟨rfl, hb2⟩) | (refine (shows_any _ _ _ _).mono ?_; rw [hs]; rintro e w3 ⟨rfl, hb3⟩))
        go_ret
        exact ⟨ret_bool (by simp [kvalidB, hs]), HB.out.trans ((hb2.mono (Nat.le_of_lt hlt)).trans (hb3.mono (by have := hb2.size; omega)))⟩
      · go_wp2_with (first | (refine index_op rfl 206 _ _ rfl _ _ rfl rfl _ (endAt0 _) ?_) | (refine load_row rfl 171 _ rfl _ rfl 171 _ _ HR.out Tryz.underlying171 rfl (by kernel_rfl) ?_) | (refine (low_any _ _ _ _ _).mono ?_; rintro e w2 ⟨rfl, hb2⟩) | (refine (shows_any _ _ _ _).mono ?_; rw [hs]; rintro e w3 ⟨rfl, hb3⟩))
        go_roundw
        case rel => exact ⟨.inr (.inl ⟨rfl, trivial⟩), (HR.out.below hb2 hlt).below hb3 (by have := hb2.size; omega), HB.out.trans ((hb2.mono (Nat.le_of_lt hlt)).trans (hb3.mono (by have := hb2.size; omega)))⟩
        case measure => simp [intOf]
    · cases hs : showsB k.ah k.fh (wrap64 (n + 1))
      · go_wp2_with (first | (refine index_op rfl 206 _ _ rfl _ _ rfl rfl _ (endAt1 _) ?_) | (refine load_row rfl 171 _ rfl _ rfl 171 _ _ HR.out Tryz.underlying171 rfl (by kernel_rfl) ?_) | (refine (high_any _ _ _ _ _).mono ?_; rintro e w2 ⟨rfl, hb2⟩) | (refine (shows_any _ _ _ _).mono ?_; rw [hs]; rintro e w3 ⟨rfl, hb3⟩))
        go_ret
        exact ⟨ret_bool (by simp [kvalidB, hs]), HB.out.trans ((hb2.mono (Nat.le_of_lt hlt)).trans (hb3.mono (by have := hb2.size; omega)))⟩
      · go_wp2_with (first | (refine index_op rfl 206 _ _ rfl _ _ rfl rfl _ (endAt1 _) ?_) | (refine load_row rfl 171 _ rfl _ rfl 171 _ _ HR.out Tryz.underlying171 rfl (by kernel_rfl) ?_) | (refine (high_any _ _ _ _ _).mono ?_; rintro e w2 ⟨rfl, hb2⟩) | (refine (shows_any _ _ _ _).mono ?_; rw [hs]; rintro e w3 ⟨rfl, hb3⟩))
        go_roundw
        case rel => exact ⟨.inr (.inr ⟨rfl, h1, trivial⟩), (HR.out.below hb2 hlt).below hb3 (by have := hb2.size; omega), HB.out.trans ((hb2.mono (Nat.le_of_lt hlt)).trans (hb3.mono (by have := hb2.size; omega)))⟩
        case measure => simp [intOf]
    · have c0 := HR.out.cell 0 (v := .int .i64 k.al) rfl
      have c1 := HR.out.cell 1 (v := .int .i64 k.ah) rfl
      have c2 := HR.out.cell 2 (v := .int .i64 k.fl) rfl
      have c3 := HR.out.cell 3 (v := .int .i64 k.fh) rfl
      cases hn : narrowB k.al k.ah 3
      · go_wp2_with (first | (refine (narrow_any _ _ _ _).mono ?_; rw [hn]; rintro e w2 ⟨rfl, hb2⟩))
        go_ret
        exact ⟨ret_bool (by simp [kvalidB, hn]), HB.out.trans (hb2.mono (Nat.le_of_lt hlt))⟩
      · have HN := Lib.hid hn
        have H1 := Lib.hid h1
        have H2 := Lib.hid h2
        clear hn h1 h2
        go_wp2_with (first | (refine (narrow_any _ _ _ _).mono ?_; rw [HN.out]; rintro e w2 ⟨rfl, hb2⟩; clear c0 c1 c2 c3; have q := Lib.hid (HR.out.below hb2 hlt); have c2 := q.out.cell 2 (v := .int .i64 k.fl) rfl; have c3 := q.out.cell 3 (v := .int .i64 k.fh) rfl) | (refine (narrow_any _ _ _ _).mono ?_; rintro e w3 ⟨rfl, hb3⟩))
        go_ret
        exact ⟨ret_bool (by simp [kvalidB, HN.out, H1.out, H2.out]), HB.out.trans ((hb2.mono (Nat.le_of_lt hlt)).trans (hb3.mono (by have := hb2.size; omega)))⟩

end Go.Proofs.YticfcdbfplfmlaaGreat.Pe
