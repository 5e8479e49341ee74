/- The walks of layer 1: how many pieces at the worst, if it is known where a knot is. -/
import Derived.Test.YtnnlbbmimdohoaaP23
import Derived.Test.YtnnlbbmimdohoaaT2
namespace Go.Proofs.Ytnnlbbmimdohoaa
open Go.RowKit Go.Maps
attribute [local go_sem] Oper.semAt_some

theorem reach_sub {R : Rib} {p1 : Option Addr} {c1 : Nat} {p2 : Option Addr} {c2 : Nat} {long : List Int} {sz : Int} {ks : List K4} {mb nn : Nat} {f : Int → Int → Option (List Bool)} (hR : RibOf R p1 c1 p2 c2 long sz ks) (hv : LogOk long sz ks) (k : Nat) (w : World) (hA : RibAt w R long ks mb nn f) (p : Option Addr) (c : Nat) (hkn : KnotsAt w p (ks.eraseIdx k)) :
    Calls Try.prog 68 #[.agg R.A, .slice p (ks.eraseIdx k).length c] w fun e w' => e = .returned (cols (reachD long (ks.eraseIdx k))) ∧ Below w.heap.size w w' := by
  have h := reach_any R long hR.ok.s6 p c (ks.eraseIdx k) w hkn (fun x hx => hv.ok x (List.mem_of_mem_eraseIdx hx)) (by have := hv.k3; have := List.length_eraseIdx_le ks k; omega) mb nn f hA.e hA.m (fun x hx => hA.t x (List.mem_of_mem_eraseIdx hx))
  rw [reachL_s (R' := rb long) hR.s] at h
  exact h

set_option maxRecDepth 10000 in
set_option maxHeartbeats 1600000 in
theorem worst_any {R : Rib} {p1 : Option Addr} {c1 : Nat} {p2 : Option Addr} {c2 : Nat} {long : List Int} {sz : Int} {ks : List K4} {mb nn : Nat} {f : Int → Int → Option (List Bool)} (hR : RibOf R p1 c1 p2 c2 long sz ks) (hok : LogOk long sz ks) (w0 : World) (hA : RibAt w0 R long ks mb nn f) (k : Nat) (hk : k < ks.length) (hcap : ks.length ≤ c2) :
    Calls Try.prog 77 #[.agg R.A, .int .i64 k] w0 fun e w' => e = .returned (.int .i64 (worstD long sz ks k)) ∧ Below w0.heap.size w0 w' := by
  refine calls_marks Try.func77 rfl ?_
  simp only [Try.ntmps77, List.size_toArray, List.length_cons, List.length_nil, Nat.reduceAdd, Nat.reduceSub, Array.replicate_succ, Array.replicate_zero, List.push_toArray, List.append_toArray, List.nil_append, List.cons_append]
  have hk3 := hok.k3
  obtain ⟨b, o, hp2, _⟩ := hA.k 0 (by omega)
  rw [hR.p2] at hp2
  subst hp2
  go_wp2_with fail
  have HA1 := Lib.hid (hA.below (below_alloc w0 (.cells R.A 76)))
  have R0 := Lib.hid (Row.new w0 R.A 76)
  have HB1 := Lib.hid (below_alloc w0 (.cells R.A 76))
  refine region_inv rfl (by kernel_rfl) (fun L a v => ∃ x5 x8 x9 x10 x11 x12 x13 x14 x15 x16 x17 x18 x19 x20 x21 x22 : Value, a = { tmps := #[.agg R.A, .int .i64 k, .pointer (some ⟨w0.heap.size, 0, none⟩), undef, .int .i64 0, x5, undef, undef, x8, x9, x10, x11, x12, x13, x14, x15, x16, x17, x18, x19, x20, x21, x22, undef, undef, undef, undef, undef, undef, undef, undef, undef, undef, undef, undef, undef, undef, undef, undef, undef, undef, undef, undef, undef, undef], defers := [] } ∧ Hid (L 0 = true → x8 = .agg R.A) ∧ Hid (L 1 = true → x9 = .pointer (some ⟨w0.heap.size, 0, none⟩)) ∧ Hid (L 2 = true → x10 = .pointer (some ⟨w0.heap.size, 2, none⟩)) ∧ Hid (L 3 = true → x11 = .slice (some ⟨b, o, none⟩) ks.length c2) ∧ Hid (L 4 = true → x12 = .int .i64 k) ∧ Hid (L 5 = true → x13 = .int .i64 k) ∧ Hid (L 6 = true → x14 = .slice (some ⟨b, o, none⟩) k k) ∧ Hid (L 7 = true → x15 = .pointer (some ⟨w0.heap.size, 0, none⟩)) ∧ Hid (L 8 = true → x16 = .pointer (some ⟨w0.heap.size, 2, none⟩)) ∧ Hid (L 9 = true → x17 = .slice (some ⟨b, o, none⟩) ks.length c2) ∧ Hid (L 10 = true → x18 = .int .i64 k) ∧ Hid (L 11 = true → x19 = .int .i64 (k + 1)) ∧ Hid (L 14 = true → x22 = (cols (reachD long (ks.eraseIdx k)))) ∧ Hid (Row v w0.heap.size R.A 76) ∧ Hid (RibAt v R long ks mb nn f) ∧ Hid (L 15 = true → L 16 = false → PtrTo (w0.heap.size + 1) x5 Try.zeroCells88 88 v) ∧ Hid (L 16 = true → PtrTo (w0.heap.size + 1) x5 (boolsA (reachD long (ks.eraseIdx k))) 88 v) ∧ Hid (L 13 = true → L 14 = false → ∃ p c, x21 = .slice p (ks.eraseIdx k).length c ∧ KnotsAt v p (ks.eraseIdx k)) ∧ Hid (L 12 = true → ∃ q' c', x20 = .slice q' (ks.length - (k + 1) : Nat) c' ∧ (q' = some ⟨b, o + (k + 1) * 4, none⟩ ∨ ks.drop (k + 1) = [])) ∧ Hid (L 16 = true → L 15 = true) ∧ Hid (Below w0.heap.size w0 v) ∧ Hid (w0.heap.size + 1 ≤ v.heap.size)) ?h0 ?steps ?hd
  case h0 => exact ⟨_, _, _, _, _, _, _, _, _, _, _, _, _, _, _, _, rfl, Lib.hid nofun, Lib.hid nofun, Lib.hid nofun, Lib.hid nofun, Lib.hid nofun, Lib.hid nofun, Lib.hid nofun, Lib.hid nofun, Lib.hid nofun, Lib.hid nofun, Lib.hid nofun, Lib.hid nofun, Lib.hid nofun, Lib.hid (R0.out.drew), Lib.hid (HA1.out.drew), Lib.hid (fun h => by cases h), Lib.hid (nofun), Lib.hid (fun h => by cases h), Lib.hid (nofun), Lib.hid (nofun), Lib.hid (HB1.out.drew), Lib.hid (by simp [World.drew])⟩
  case hd =>
    rintro L a v hL ⟨x5, x8, x9, x10, x11, x12, x13, x14, x15, x16, x17, x18, x19, x20, x21, x22, rfl, hf0, hf1, hf2, hf3, hf4, hf5, hf6, hf7, hf8, hf9, hf10, hf11, hf14, hr0, ha, hp, hp2, hx, hs, hord, hbe, hsz⟩
    obtain rfl := hf0.out (hL 0 (by decide))
    obtain rfl := hf1.out (hL 1 (by decide))
    obtain rfl := hf2.out (hL 2 (by decide))
    obtain rfl := hf3.out (hL 3 (by decide))
    obtain rfl := hf4.out (hL 4 (by decide))
    obtain rfl := hf5.out (hL 5 (by decide))
    obtain rfl := hf6.out (hL 6 (by decide))
    obtain rfl := hf7.out (hL 7 (by decide))
    obtain rfl := hf8.out (hL 8 (by decide))
    obtain rfl := hf9.out (hL 9 (by decide))
    obtain rfl := hf10.out (hL 10 (by decide))
    obtain rfl := hf11.out (hL 11 (by decide))
    obtain rfl := hf14.out (hL 14 (by decide))
    clear hf0
    clear hf1
    clear hf2
    clear hf3
    clear hf4
    clear hf5
    clear hf6
    clear hf7
    clear hf8
    clear hf9
    clear hf10
    clear hf11
    clear hf14
    obtain ⟨q, rfl, hq, hrz⟩ := hp2.out (hL 16 (by decide))
    clear hL hp hp2 hx hs hord
    have HVZ := Lib.hid (show w0.heap.size < v.heap.size ∧ q < v.heap.size from ⟨hr0.out.lt, hrz.lt⟩)
    have HMB := Lib.hid (show mb < v.heap.size from ha.out.m.lt)
    have c3 := hr0.out.cell 3 R.a3
    rw [hR.wide] at c3
    have c2' := (hr0.out.alloc (.cells #[.int .i64 (psum long long.length)] 3)).cell 2 R.a2
    rw [hR.p2, hR.n2, hR.c2] at c2'
    have hAa := ha.out.below (below_alloc v (.cells #[.int .i64 (psum long long.length)] 3))
    have hko := hok.ok ks[k] (List.getElem_mem _)
    have hwd : worstD long sz ks k = (placesL ks[k]).foldl (fun m q => min m ((cutD long sz (orL (reachD long (ks.eraseIdx k)) (trailD long q.1 q.2.toNat))).length : Int)) (psum long long.length) := by simp only [worstD, List.getElem?_eq_getElem hk]
    have htr := hA.t ks[k] (List.getElem_mem _)
    obtain ⟨b', o', e', k0, k1, k2, k3⟩ := hAa.k k hk
    rw [hR.p2] at e'
    cases e'
    generalize hkk : ks[k] = kk at *
    have HWD := Lib.hid hwd
    have HTRA := Lib.hid htr
    clear hkk hwd htr
    go_wp2_with (first | (refine (places_any kk _).mono ?_; rintro e w5 ⟨rfl, rfl⟩))
    clear k0 k1 k2 k3 c2' c3
    have hs5 : v.heap.size + 1 + 1 = ((v.alloc (.cells #[.int .i64 (psum long long.length)] 3)).alloc (.cells kk.A 113)).heap.size := by simp
    have hB5 : Below v.heap.size v ((v.alloc (.cells #[.int .i64 (psum long long.length)] 3)).alloc (.cells kk.A 113)) := (below_alloc _ _).alloc (by simp) _
    have rM : Row ((v.alloc (.cells #[.int .i64 (psum long long.length)] 3)).alloc (.cells kk.A 113)) v.heap.size #[.int .i64 (psum long long.length)] 3 := (Row.new _ _ _).alloc _
    have rK : Row ((v.alloc (.cells #[.int .i64 (psum long long.length)] 3)).alloc (.cells kk.A 113)) (v.heap.size + 1) kk.A 113 := Row.new' (by simp) _ _
    have HS5 := Lib.hid hs5
    clear hs5 hAa
    go_wp2_with fail
    generalize ((v.alloc (.cells #[.int .i64 (psum long long.length)] 3)).alloc (.cells kk.A 113)) = w5 at *
    have HB5 := Lib.hid (hbe.out.trans (hB5.mono (by have := HVZ.out; omega)))
    have QR := Lib.hid (hr0.out.below hB5 hr0.out.lt)
    have QQ := Lib.hid (hrz.below hB5 hrz.lt)
    have QM := Lib.hid (ha.out.m.of_same (hB5.block _ ha.out.m.lt))
    clear hB5 hrz hr0 ha hbe hsz
    refine range_law 93 #[.pointer (some ⟨v.heap.size + 1, 0, none⟩)] (fun m => m = v.heap.size + 1) ((placesL kk).map fun q => #[placeV q.1 q.2]) rfl (fun args w => Try.call93 args w)
      (fun W1 hb _ => places1_iter kk hko _ W1 (rK.below hb (by have := HS5.out; omega))) (by intro x hx; simp at hx; obtain ⟨_, _, _, rfl⟩ := hx; rfl) (fun m => m = v.heap.size) (by rintro m rfl; exact ⟨by have := HS5.out; omega, by omega⟩) (by have := HS5.out; omega)
      (fun j A => Row A v.heap.size #[.int .i64 (((placesL kk).take j).foldl (fun m q => min m ((cutD long sz (orL (reachD long (ks.eraseIdx k)) (trailD long q.1 q.2.toNat))).length : Int)) (psum long long.length))] 3) (fun _ _ => False) (fun j A B h hb => by have := HS5.out; exact Row.below h hb (by omega)) (fun _ _ _ h _ => h) rM ?body ?done ?stop
    case body =>
      rintro l j x A rfl hx hI hkeep hlA
      obtain ⟨⟨qa, qt⟩, hq, rfl⟩ : ∃ q : Int × Int, (placesL kk)[j]? = some q ∧ x = #[placeV q.1 q.2] := by
        rw [List.getElem?_map] at hx
        cases hq : (placesL kk)[j]? with
        | none => rw [hq] at hx; cases hx
        | some q => rw [hq] at hx; cases hx; exact ⟨q, rfl, rfl⟩
      have hmem : (qa, qt) ∈ placesL kk := List.mem_of_getElem? hq
      have hrng := placesL_range hko hmem
      have HTR := Lib.hid (show f qa qt = some (trailD long qa qt.toNat) by rw [HTRA.out _ hmem, trailL_s (R' := rb long) hR.s]; rfl)
      have HIA := Lib.hid (show I64 qa from ⟨by omega, by omega⟩)
      have HIT := Lib.hid (show I64 qt from ⟨by omega, by omega⟩)
      have hst : ((placesL kk).take (j + 1)).foldl (fun m q => min m ((cutD long sz (orL (reachD long (ks.eraseIdx k)) (trailD long q.1 q.2.toNat))).length : Int)) (psum long long.length) = min (((placesL kk).take j).foldl (fun m q => min m ((cutD long sz (orL (reachD long (ks.eraseIdx k)) (trailD long q.1 q.2.toNat))).length : Int)) (psum long long.length)) ((cutD long sz (orL (reachD long (ks.eraseIdx k)) (trailD long qa qt.toNat))).length : Int) := by rw [List.take_add_one, hq, List.foldl_append]; rfl
      have HST := Lib.hid hst
      have hI : Row A v.heap.size #[.int .i64 (((placesL kk).take j).foldl (fun m q => min m ((cutD long sz (orL (reachD long (ks.eraseIdx k)) (trailD long q.1 q.2.toNat))).length : Int)) (psum long long.length))] 3 := hI
      have hln := cutD_short hok (orL (reachD long (ks.eraseIdx k)) (trailD long qa qt.toNat))
      generalize ((placesL kk).take j).foldl (fun m q => min m ((cutD long sz (orL (reachD long (ks.eraseIdx k)) (trailD long q.1 q.2.toNat))).length : Int)) (psum long long.length) = le at *
      have P0 := Lib.hid (QR.out.keeps hkeep (by have := HVZ.out; omega))
      have PQ := Lib.hid (QQ.out.keeps hkeep (by have := HVZ.out; omega))
      have PM := Lib.hid (QM.out.of_same (hkeep.block mb (by have := HMB.out; have := HS5.out; omega) (by have := HMB.out; omega)))
      clear hst hq hx hmem hkeep
      unfold placeV
      gi_wp2
      refine ⟨(KeepsBut.refl _ _).alloc _, fun oo => ?_⟩
      have hAz : w5.heap.size + 1 < A.heap.size := hlA
      have HAS := Lib.hid (show v.heap.size + 1 < A.heap.size by have := HS5.out; omega)
      generalize hA2 : (A.alloc (Obj.cells #[Value.int IntKind.i64 qa, Value.int IntKind.i64 qt] 80)).putObj (w5.heap.size + 1) oo = A2
      have hsame : ∀ m, m ≠ w5.heap.size + 1 → A2.heap[m]? = (A.alloc (Obj.cells #[Value.int IntKind.i64 qa, Value.int IntKind.i64 qt] 80)).heap[m]? := fun m hm => by rw [← hA2]; exact World.putObj_heap_other hm
      have q0 : Row A2 w0.heap.size R.A 76 := by unfold Row; rw [hsame _ (by have := HVZ.out; have := HS5.out; omega)]; exact P0.out.alloc _
      have qq : Row A2 q (boolsA (reachD long (ks.eraseIdx k))) 88 := by unfold Row; rw [hsame _ (by have := HVZ.out; have := HS5.out; omega)]; exact PQ.out.alloc _
      have qp : Row A2 A.heap.size #[.int .i64 qa, .int .i64 qt] 80 := by unfold Row; rw [hsame _ (by omega)]; exact Row.new _ _ _
      have ql : Row A2 v.heap.size #[.int .i64 le] 3 := by unfold Row; rw [hsame _ (by have := HS5.out; omega)]; exact hI.alloc _
      have qm : MapIs A2 mb nn f := (PM.out.of_same (Below.heap_alloc A _ mb (by have := HMB.out; have := HS5.out; omega))).of_same (hsame _ (by have := HMB.out; have := HS5.out; omega))
      clear hsame hA2 hI P0 PQ PM rM rK
      gi_wp2_with fail
      refine region_invIn rfl (by kernel_rfl) (by kernel_rfl) (fun L a u => ∃ x34 x35 x36 x37 x38 x39 x40 x41 x42 x43 : Value, a = { tmps := #[.agg R.A, .int .i64 k, .pointer (some ⟨w0.heap.size, 0, none⟩), undef, .int .i64 0, .pointer (some ⟨q, 0, none⟩), .pointer (some ⟨v.heap.size, 0, none⟩), .pointer (some ⟨A.heap.size, 0, none⟩), .agg R.A, .pointer (some ⟨w0.heap.size, 0, none⟩), .pointer (some ⟨w0.heap.size, 2, none⟩), .slice (some ⟨b, o, none⟩) ks.length c2, .int .i64 k, .int .i64 k, .slice (some ⟨b, o, none⟩) k k, .pointer (some ⟨w0.heap.size, 0, none⟩), .pointer (some ⟨w0.heap.size, 2, none⟩), .slice (some ⟨b, o, none⟩) ks.length c2, .int .i64 k, .int .i64 (k + 1), x20, x21, cols (reachD long (ks.eraseIdx k)), .pointer (some ⟨w0.heap.size, 3, none⟩), .int .i64 (psum long long.length), .pointer (some ⟨w0.heap.size, 0, none⟩), .pointer (some ⟨w0.heap.size, 2, none⟩), .slice (some ⟨b, o, none⟩) ks.length c2, .int .i64 k, .pointer (some ⟨b, o + k * 4, none⟩), .agg #[.int .i64 kk.al, .int .i64 kk.ah, .int .i64 kk.fl, .int .i64 kk.fh], .agg #[.int .i64 kk.al, .int .i64 kk.ah, .int .i64 kk.fl, .int .i64 kk.fh], .func (.func 93) #[] #[.pointer (some ⟨v.heap.size + 1, 0, none⟩)], placeV qa qt, x34, x35, x36, x37, x38, x39, x40, x41, x42, x43, undef], defers := [] } ∧ Hid (L 0 = true → x34 = .int .i64 le) ∧ Hid (L 1 = true → x35 = .agg R.A) ∧ Hid (L 2 = true → x36 = .agg (boolsA (reachD long (ks.eraseIdx k)))) ∧ Hid (L 3 = true → x37 = .pointer (some ⟨w0.heap.size, 10, none⟩)) ∧ Hid (L 4 = true → x38 = .map (some mb)) ∧ Hid (L 5 = true → x39 = placeV qa qt) ∧ Hid (L 6 = true → x40 = cols (trailD long qa qt.toNat)) ∧ Hid (L 7 = true → x41 = cols (orL (reachD long (ks.eraseIdx k)) (trailD long qa qt.toNat))) ∧ Hid (L 8 = true → x42 = .int .i64 ((cutD long sz (orL (reachD long (ks.eraseIdx k)) (trailD long qa qt.toNat))).length : Int)) ∧ Hid (L 9 = true → x43 = .int .i64 (min le ((cutD long sz (orL (reachD long (ks.eraseIdx k)) (trailD long qa qt.toNat))).length : Int))) ∧ Hid (Row u w0.heap.size R.A 76) ∧ Hid (Row u q (boolsA (reachD long (ks.eraseIdx k))) 88) ∧ Hid (Row u A.heap.size #[.int .i64 qa, .int .i64 qt] 80) ∧ Hid (MapIs u mb nn f) ∧ Hid (L 10 = false → Row u v.heap.size #[.int .i64 le] 3) ∧ Hid (L 10 = true → Row u v.heap.size #[.int .i64 (min le ((cutD long sz (orL (reachD long (ks.eraseIdx k)) (trailD long qa qt.toNat))).length : Int))] 3) ∧ Hid (L 10 = true → L 0 = true) ∧ Hid (KeepsBut (fun m => m = v.heap.size) A2 u)) ?g0 ?gsteps ?gd
      case g0 => exact ⟨_, _, _, _, _, _, _, _, _, _, rfl, Lib.hid nofun, Lib.hid nofun, Lib.hid nofun, Lib.hid nofun, Lib.hid nofun, Lib.hid nofun, Lib.hid nofun, Lib.hid nofun, Lib.hid nofun, Lib.hid nofun, Lib.hid (q0), Lib.hid (qq), Lib.hid (qp), Lib.hid (qm), Lib.hid (fun _ => ql), Lib.hid (nofun), Lib.hid (nofun), Lib.hid ((KeepsBut.refl _ _).drew)⟩
      case gd =>
        rintro L a u hL ⟨x34, x35, x36, x37, x38, x39, x40, x41, x42, x43, rfl, hf0, hf1, hf2, hf3, hf4, hf5, hf6, hf7, hf8, hf9, gr, gq, gp, gm, gl, gl2, gord, gk⟩
        obtain rfl := hf0.out (hL 0 (by decide))
        obtain rfl := hf1.out (hL 1 (by decide))
        obtain rfl := hf2.out (hL 2 (by decide))
        obtain rfl := hf3.out (hL 3 (by decide))
        obtain rfl := hf4.out (hL 4 (by decide))
        obtain rfl := hf5.out (hL 5 (by decide))
        obtain rfl := hf6.out (hL 6 (by decide))
        obtain rfl := hf7.out (hL 7 (by decide))
        obtain rfl := hf8.out (hL 8 (by decide))
        obtain rfl := hf9.out (hL 9 (by decide))
        clear hf0
        clear hf1
        clear hf2
        clear hf3
        clear hf4
        clear hf5
        clear hf6
        clear hf7
        clear hf8
        clear hf9
        have hmz := gl2.out (hL 10 (by decide))
        clear hL gl gl2 gord
        exact ⟨gk.out, by rw [HST.out]; exact hmz⟩
      case gsteps =>
        refine ⟨?_, ?_, ?_, ?_, ?_, ?_, ?_, ?_, ?_, ?_, ?_, trivial⟩
        · rintro L a u hL hk ⟨x34, x35, x36, x37, x38, x39, x40, x41, x42, x43, rfl, hf0, hf1, hf2, hf3, hf4, hf5, hf6, hf7, hf8, hf9, gr, gq, gp, gm, gl, gl2, gord, gk⟩ K hK
          have HK0 := Lib.hid hK
          clear hK
          clear hL
          have h10 : L 10 = false := by cases h7 : L 10; rfl; exact absurd (gord.out h7) (by simp [hk])
          have c0 := (gl.out h10).cell 0 (v := .int .i64 le) rfl
          clear hk
          go_wp2
          exact HK0.out _ _ ⟨_, _, _, _, _, _, _, _, _, _, rfl, Lib.hid (fun _ => rfl), Lib.hid (fun h => hf1.out (by simpa [upd] using h)), Lib.hid (fun h => hf2.out (by simpa [upd] using h)), Lib.hid (fun h => hf3.out (by simpa [upd] using h)), Lib.hid (fun h => hf4.out (by simpa [upd] using h)), Lib.hid (fun h => hf5.out (by simpa [upd] using h)), Lib.hid (fun h => hf6.out (by simpa [upd] using h)), Lib.hid (fun h => hf7.out (by simpa [upd] using h)), Lib.hid (fun h => hf8.out (by simpa [upd] using h)), Lib.hid (fun h => hf9.out (by simpa [upd] using h)), gr, gq, gp, gm, Lib.hid (fun h => gl.out (by simpa [upd] using h)), Lib.hid (fun h => gl2.out (by simpa [upd] using h)), Lib.hid (fun h => by have := gord.out (by simpa [upd] using h); first | (simp [upd]; done) | (simp [upd]; simp [this])), gk⟩
        · rintro L a u hL hk ⟨x34, x35, x36, x37, x38, x39, x40, x41, x42, x43, rfl, hf0, hf1, hf2, hf3, hf4, hf5, hf6, hf7, hf8, hf9, gr, gq, gp, gm, gl, gl2, gord, gk⟩ K hK
          have HK0 := Lib.hid hK
          clear hK
          clear hL
          clear hk
          refine wp_load_row 76 _ rfl _ rfl 76 _ (0, 0) _ gr.out Try.underlying76 rfl (size76 hR.ok.s6) ?_
          exact HK0.out _ _ ⟨_, _, _, _, _, _, _, _, _, _, rfl, Lib.hid (fun h => hf0.out (by simpa [upd] using h)), Lib.hid (fun _ => rfl), Lib.hid (fun h => hf2.out (by simpa [upd] using h)), Lib.hid (fun h => hf3.out (by simpa [upd] using h)), Lib.hid (fun h => hf4.out (by simpa [upd] using h)), Lib.hid (fun h => hf5.out (by simpa [upd] using h)), Lib.hid (fun h => hf6.out (by simpa [upd] using h)), Lib.hid (fun h => hf7.out (by simpa [upd] using h)), Lib.hid (fun h => hf8.out (by simpa [upd] using h)), Lib.hid (fun h => hf9.out (by simpa [upd] using h)), gr, gq, gp, gm, Lib.hid (fun h => gl.out (by simpa [upd] using h)), Lib.hid (fun h => gl2.out (by simpa [upd] using h)), Lib.hid (fun h => by have := gord.out (by simpa [upd] using h); first | (simp [upd]; done) | (simp [upd]; simp [this])), gk⟩
        · rintro L a u hL hk ⟨x34, x35, x36, x37, x38, x39, x40, x41, x42, x43, rfl, hf0, hf1, hf2, hf3, hf4, hf5, hf6, hf7, hf8, hf9, gr, gq, gp, gm, gl, gl2, gord, gk⟩ K hK
          have HK0 := Lib.hid hK
          clear hK
          clear hL
          clear hk
          refine wp_load_row 88 _ rfl _ rfl 88 _ (0, 0) _ gq.out Try.underlying88 rfl (size88 (reachD_length _ _)) ?_
          exact HK0.out _ _ ⟨_, _, _, _, _, _, _, _, _, _, rfl, Lib.hid (fun h => hf0.out (by simpa [upd] using h)), Lib.hid (fun h => hf1.out (by simpa [upd] using h)), Lib.hid (fun _ => rfl), Lib.hid (fun h => hf3.out (by simpa [upd] using h)), Lib.hid (fun h => hf4.out (by simpa [upd] using h)), Lib.hid (fun h => hf5.out (by simpa [upd] using h)), Lib.hid (fun h => hf6.out (by simpa [upd] using h)), Lib.hid (fun h => hf7.out (by simpa [upd] using h)), Lib.hid (fun h => hf8.out (by simpa [upd] using h)), Lib.hid (fun h => hf9.out (by simpa [upd] using h)), gr, gq, gp, gm, Lib.hid (fun h => gl.out (by simpa [upd] using h)), Lib.hid (fun h => gl2.out (by simpa [upd] using h)), Lib.hid (fun h => by have := gord.out (by simpa [upd] using h); first | (simp [upd]; done) | (simp [upd]; simp [this])), gk⟩
        · rintro L a u hL hk ⟨x34, x35, x36, x37, x38, x39, x40, x41, x42, x43, rfl, hf0, hf1, hf2, hf3, hf4, hf5, hf6, hf7, hf8, hf9, gr, gq, gp, gm, gl, gl2, gord, gk⟩ K hK
          have HK0 := Lib.hid hK
          clear hK
          clear hL
          clear hk
          go_wp2
          exact HK0.out _ _ ⟨_, _, _, _, _, _, _, _, _, _, rfl, Lib.hid (fun h => hf0.out (by simpa [upd] using h)), Lib.hid (fun h => hf1.out (by simpa [upd] using h)), Lib.hid (fun h => hf2.out (by simpa [upd] using h)), Lib.hid (fun _ => rfl), Lib.hid (fun h => hf4.out (by simpa [upd] using h)), Lib.hid (fun h => hf5.out (by simpa [upd] using h)), Lib.hid (fun h => hf6.out (by simpa [upd] using h)), Lib.hid (fun h => hf7.out (by simpa [upd] using h)), Lib.hid (fun h => hf8.out (by simpa [upd] using h)), Lib.hid (fun h => hf9.out (by simpa [upd] using h)), gr, gq, gp, gm, Lib.hid (fun h => gl.out (by simpa [upd] using h)), Lib.hid (fun h => gl2.out (by simpa [upd] using h)), Lib.hid (fun h => by have := gord.out (by simpa [upd] using h); first | (simp [upd]; done) | (simp [upd]; simp [this])), gk⟩
        · rintro L a u hL hk ⟨x34, x35, x36, x37, x38, x39, x40, x41, x42, x43, rfl, hf0, hf1, hf2, hf3, hf4, hf5, hf6, hf7, hf8, hf9, gr, gq, gp, gm, gl, gl2, gord, gk⟩ K hK
          have HK0 := Lib.hid hK
          clear hK
          obtain rfl := hf3.out (after_on hL 3 rfl)
          clear hL
          clear hk
          have c10 := gr.out.cell 10 (R.a10 hR.ok.s6)
          rw [hA.e] at c10
          go_wp2
          exact HK0.out _ _ ⟨_, _, _, _, _, _, _, _, _, _, rfl, Lib.hid (fun h => hf0.out (by simpa [upd] using h)), Lib.hid (fun h => hf1.out (by simpa [upd] using h)), Lib.hid (fun h => hf2.out (by simpa [upd] using h)), Lib.hid (fun _ => rfl), Lib.hid (fun _ => rfl), Lib.hid (fun h => hf5.out (by simpa [upd] using h)), Lib.hid (fun h => hf6.out (by simpa [upd] using h)), Lib.hid (fun h => hf7.out (by simpa [upd] using h)), Lib.hid (fun h => hf8.out (by simpa [upd] using h)), Lib.hid (fun h => hf9.out (by simpa [upd] using h)), gr, gq, gp, gm, Lib.hid (fun h => gl.out (by simpa [upd] using h)), Lib.hid (fun h => gl2.out (by simpa [upd] using h)), Lib.hid (fun h => by have := gord.out (by simpa [upd] using h); first | (simp [upd]; done) | (simp [upd]; simp [this])), gk⟩
        · rintro L a u hL hk ⟨x34, x35, x36, x37, x38, x39, x40, x41, x42, x43, rfl, hf0, hf1, hf2, hf3, hf4, hf5, hf6, hf7, hf8, hf9, gr, gq, gp, gm, gl, gl2, gord, gk⟩ K hK
          have HK0 := Lib.hid hK
          clear hK
          clear hL
          clear hk
          refine wp_load_row 80 _ rfl _ rfl 80 _ (0, 0) _ gp.out Try.underlying80 rfl (by kernel_rfl) ?_
          exact HK0.out _ _ ⟨_, _, _, _, _, _, _, _, _, _, rfl, Lib.hid (fun h => hf0.out (by simpa [upd] using h)), Lib.hid (fun h => hf1.out (by simpa [upd] using h)), Lib.hid (fun h => hf2.out (by simpa [upd] using h)), Lib.hid (fun h => hf3.out (by simpa [upd] using h)), Lib.hid (fun h => hf4.out (by simpa [upd] using h)), Lib.hid (fun _ => rfl), Lib.hid (fun h => hf6.out (by simpa [upd] using h)), Lib.hid (fun h => hf7.out (by simpa [upd] using h)), Lib.hid (fun h => hf8.out (by simpa [upd] using h)), Lib.hid (fun h => hf9.out (by simpa [upd] using h)), gr, gq, gp, gm, Lib.hid (fun h => gl.out (by simpa [upd] using h)), Lib.hid (fun h => gl2.out (by simpa [upd] using h)), Lib.hid (fun h => by have := gord.out (by simpa [upd] using h); first | (simp [upd]; done) | (simp [upd]; simp [this])), gk⟩
        · rintro L a u hL hk ⟨x34, x35, x36, x37, x38, x39, x40, x41, x42, x43, rfl, hf0, hf1, hf2, hf3, hf4, hf5, hf6, hf7, hf8, hf9, gr, gq, gp, gm, gl, gl2, gord, gk⟩ K hK
          have HK0 := Lib.hid hK
          clear hK
          obtain rfl := hf4.out (after_on hL 4 rfl)
          obtain rfl := hf5.out (after_on hL 5 rfl)
          clear hL
          clear hk
          refine wp_lookup' _ _ _ rfl mb _ rfl rfl _ (gm.out.look HIA.out HIT.out HTR.out) ?_
          exact HK0.out _ _ ⟨_, _, _, _, _, _, _, _, _, _, rfl, Lib.hid (fun h => hf0.out (by simpa [upd] using h)), Lib.hid (fun h => hf1.out (by simpa [upd] using h)), Lib.hid (fun h => hf2.out (by simpa [upd] using h)), Lib.hid (fun h => hf3.out (by simpa [upd] using h)), Lib.hid (fun _ => rfl), Lib.hid (fun _ => rfl), Lib.hid (fun _ => rfl), Lib.hid (fun h => hf7.out (by simpa [upd] using h)), Lib.hid (fun h => hf8.out (by simpa [upd] using h)), Lib.hid (fun h => hf9.out (by simpa [upd] using h)), gr, gq, gp, gm, Lib.hid (fun h => gl.out (by simpa [upd] using h)), Lib.hid (fun h => gl2.out (by simpa [upd] using h)), Lib.hid (fun h => by have := gord.out (by simpa [upd] using h); first | (simp [upd]; done) | (simp [upd]; simp [this])), gk⟩
        · rintro L a u hL hk ⟨x34, x35, x36, x37, x38, x39, x40, x41, x42, x43, rfl, hf0, hf1, hf2, hf3, hf4, hf5, hf6, hf7, hf8, hf9, gr, gq, gp, gm, gl, gl2, gord, gk⟩ K hK
          have HK0 := Lib.hid hK
          clear hK
          obtain rfl := hf2.out (after_on hL 2 rfl)
          obtain rfl := hf6.out (after_on hL 6 rfl)
          clear hL
          clear hk
          go_wp2_with fail
          refine (with_any (reachD long (ks.eraseIdx k)) (trailD long qa qt.toNat) (reachD_length _ _) (trailL_length _ _ _ _) _).mono ?_
          rintro e w6 ⟨rfl, hb6⟩
          exact HK0.out _ _ ⟨_, _, _, _, _, _, _, _, _, _, rfl, Lib.hid (fun h => hf0.out (by simpa [upd] using h)), Lib.hid (fun h => hf1.out (by simpa [upd] using h)), Lib.hid (fun _ => rfl), Lib.hid (fun h => hf3.out (by simpa [upd] using h)), Lib.hid (fun h => hf4.out (by simpa [upd] using h)), Lib.hid (fun h => hf5.out (by simpa [upd] using h)), Lib.hid (fun _ => rfl), Lib.hid (fun _ => rfl), Lib.hid (fun h => hf8.out (by simpa [upd] using h)), Lib.hid (fun h => hf9.out (by simpa [upd] using h)), Lib.hid (gr.out.below hb6 gr.out.lt), Lib.hid (gq.out.below hb6 gq.out.lt), Lib.hid (gp.out.below hb6 gp.out.lt), Lib.hid (gm.out.of_same (hb6.block _ gm.out.lt)), Lib.hid (fun h => (gl.out (by simpa [upd] using h)).below hb6 (gl.out (by simpa [upd] using h)).lt), Lib.hid (fun h => (gl2.out (by simpa [upd] using h)).below hb6 (gl2.out (by simpa [upd] using h)).lt), Lib.hid (fun h => by have := gord.out (by simpa [upd] using h); first | (simp [upd]; done) | (simp [upd]; simp [this])), Lib.hid (gk.out.after hb6)⟩
        · rintro L a u hL hk ⟨x34, x35, x36, x37, x38, x39, x40, x41, x42, x43, rfl, hf0, hf1, hf2, hf3, hf4, hf5, hf6, hf7, hf8, hf9, gr, gq, gp, gm, gl, gl2, gord, gk⟩ K hK
          have HK0 := Lib.hid hK
          clear hK
          obtain rfl := hf1.out (after_on hL 1 rfl)
          obtain rfl := hf7.out (after_on hL 7 rfl)
          clear hL
          clear hk
          go_wp2_with fail
          refine (pieces_of hR hok _ (orL_length (reachD_length _ _) (trailL_length _ _ _ _)) _).mono ?_
          rintro e w6 ⟨rfl, hb6⟩
          exact HK0.out _ _ ⟨_, _, _, _, _, _, _, _, _, _, rfl, Lib.hid (fun h => hf0.out (by simpa [upd] using h)), Lib.hid (fun _ => rfl), Lib.hid (fun h => hf2.out (by simpa [upd] using h)), Lib.hid (fun h => hf3.out (by simpa [upd] using h)), Lib.hid (fun h => hf4.out (by simpa [upd] using h)), Lib.hid (fun h => hf5.out (by simpa [upd] using h)), Lib.hid (fun h => hf6.out (by simpa [upd] using h)), Lib.hid (fun _ => rfl), Lib.hid (fun _ => rfl), Lib.hid (fun h => hf9.out (by simpa [upd] using h)), Lib.hid (gr.out.below hb6 gr.out.lt), Lib.hid (gq.out.below hb6 gq.out.lt), Lib.hid (gp.out.below hb6 gp.out.lt), Lib.hid (gm.out.of_same (hb6.block _ gm.out.lt)), Lib.hid (fun h => (gl.out (by simpa [upd] using h)).below hb6 (gl.out (by simpa [upd] using h)).lt), Lib.hid (fun h => (gl2.out (by simpa [upd] using h)).below hb6 (gl2.out (by simpa [upd] using h)).lt), Lib.hid (fun h => by have := gord.out (by simpa [upd] using h); first | (simp [upd]; done) | (simp [upd]; simp [this])), Lib.hid (gk.out.after hb6)⟩
        · rintro L a u hL hk ⟨x34, x35, x36, x37, x38, x39, x40, x41, x42, x43, rfl, hf0, hf1, hf2, hf3, hf4, hf5, hf6, hf7, hf8, hf9, gr, gq, gp, gm, gl, gl2, gord, gk⟩ K hK
          have HK0 := Lib.hid hK
          clear hK
          obtain rfl := hf0.out (after_on hL 0 rfl)
          obtain rfl := hf8.out (after_on hL 8 rfl)
          clear hL
          clear hk
          go_wp2
          all_goals exact HK0.out _ _ ⟨_, _, _, _, _, _, _, _, _, _, rfl, Lib.hid (fun _ => rfl), Lib.hid (fun h => hf1.out (by simpa [upd] using h)), Lib.hid (fun h => hf2.out (by simpa [upd] using h)), Lib.hid (fun h => hf3.out (by simpa [upd] using h)), Lib.hid (fun h => hf4.out (by simpa [upd] using h)), Lib.hid (fun h => hf5.out (by simpa [upd] using h)), Lib.hid (fun h => hf6.out (by simpa [upd] using h)), Lib.hid (fun h => hf7.out (by simpa [upd] using h)), Lib.hid (fun _ => rfl), Lib.hid (fun _ => by congr 1; omega), gr, gq, gp, gm, Lib.hid (fun h => gl.out (by simpa [upd] using h)), Lib.hid (fun h => gl2.out (by simpa [upd] using h)), Lib.hid (fun h => by have := gord.out (by simpa [upd] using h); first | (simp [upd]; done) | (simp [upd]; simp [this])), gk⟩
        · rintro L a u hL hk ⟨x34, x35, x36, x37, x38, x39, x40, x41, x42, x43, rfl, hf0, hf1, hf2, hf3, hf4, hf5, hf6, hf7, hf8, hf9, gr, gq, gp, gm, gl, gl2, gord, gk⟩ K hK
          have HK0 := Lib.hid hK
          clear hK
          obtain rfl := hf9.out (after_on hL 9 rfl)
          have hrl := gl.out hk
          have f0 := hrl.free 0
          have c0 := hrl.cell 0 (v := .int .i64 le) rfl
          have HLL := Lib.hid hL
          clear hL hk
          go_wp2
          exact HK0.out _ _ ⟨_, _, _, _, _, _, _, _, _, _, rfl, Lib.hid (fun h => hf0.out (by simpa [upd] using h)), Lib.hid (fun h => hf1.out (by simpa [upd] using h)), Lib.hid (fun h => hf2.out (by simpa [upd] using h)), Lib.hid (fun h => hf3.out (by simpa [upd] using h)), Lib.hid (fun h => hf4.out (by simpa [upd] using h)), Lib.hid (fun h => hf5.out (by simpa [upd] using h)), Lib.hid (fun h => hf6.out (by simpa [upd] using h)), Lib.hid (fun h => hf7.out (by simpa [upd] using h)), Lib.hid (fun h => hf8.out (by simpa [upd] using h)), Lib.hid (fun _ => rfl), Lib.hid (gr.out.set_other _ _ (by have := HVZ.out; dsimp only; omega)), Lib.hid (gq.out.set_other _ _ (by have := HVZ.out; dsimp only; omega)), Lib.hid (gp.out.set_other _ _ (by have := HAS.out; dsimp only; omega)), Lib.hid (gm.out.of_same (Below.heap_setCell _ _ _ _ (by have := HMB.out; dsimp only; omega))), Lib.hid (fun h => by simp [upd] at h), Lib.hid (fun _ => hrl.set 0 _), Lib.hid (fun _ => by rw [upd_other _ (by decide)]; exact after_on HLL.out 0 rfl), Lib.hid (gk.out.setCell (.inl rfl) _)⟩
    
    case done =>
      intro W3 hI hkeep hsz hD
      have hI : Row W3 v.heap.size #[.int .i64 (((placesL kk).take ((placesL kk).map fun q => #[placeV q.1 q.2]).length).foldl (fun m q => min m ((cutD long sz (orL (reachD long (ks.eraseIdx k)) (trailD long q.1 q.2.toNat))).length : Int)) (psum long long.length))] 3 := hI
      rw [List.length_map, List.take_length, ← HWD.out] at hI
      have hmarks := (show Marks w0.heap.size [] w5 from trivial).push hkeep (fun m oo hm h => by subst hm; unfold Row at rM; rw [rM] at h; cases h) (by have := HS5.out; have := HVZ.out; omega) hD
      have HM := Lib.hid hmarks
      have HB6 := Lib.hid (HB5.out.trans (hkeep.below (n := w0.heap.size) (by have := HS5.out; have := HVZ.out; omega) (fun m hm => by have := HVZ.out; omega)))
      have cM := hI.cell 0 (v := .int .i64 (worstD long sz ks k)) rfl
      clear hkeep hD hmarks hI rM rK
      go_wp2
      refine marks_leave HM.out (fun B2 hB2 => ⟨_, results_tmp rfl _ _ _, ?_⟩)
      exact ⟨rfl, HB6.out.trans hB2.below⟩
    case stop => intro c W3 h; exact h.elim
  case steps =>
    refine ⟨?_, ?_, ?_, ?_, ?_, ?_, ?_, ?_, ?_, ?_, ?_, ?_, ?_, ?_, ?_, ?_, ?_, trivial⟩
    · rintro L a v hL hk ⟨x5, x8, x9, x10, x11, x12, x13, x14, x15, x16, x17, x18, x19, x20, x21, x22, rfl, hf0, hf1, hf2, hf3, hf4, hf5, hf6, hf7, hf8, hf9, hf10, hf11, hf14, hr0, ha, hp, hp2, hx, hs, hord, hbe, hsz⟩ K hK
      have HK0 := Lib.hid hK
      clear hK
      clear hL
      clear hk
      refine wp_load_row 76 _ rfl _ rfl 76 _ (0, 0) _ hr0.out Try.underlying76 rfl (size76 hR.ok.s6) ?_
      exact HK0.out _ _ ⟨_, _, _, _, _, _, _, _, _, _, _, _, _, _, _, _, rfl, Lib.hid (fun _ => rfl), Lib.hid (fun h => hf1.out (by simpa [upd] using h)), Lib.hid (fun h => hf2.out (by simpa [upd] using h)), Lib.hid (fun h => hf3.out (by simpa [upd] using h)), Lib.hid (fun h => hf4.out (by simpa [upd] using h)), Lib.hid (fun h => hf5.out (by simpa [upd] using h)), Lib.hid (fun h => hf6.out (by simpa [upd] using h)), Lib.hid (fun h => hf7.out (by simpa [upd] using h)), Lib.hid (fun h => hf8.out (by simpa [upd] using h)), Lib.hid (fun h => hf9.out (by simpa [upd] using h)), Lib.hid (fun h => hf10.out (by simpa [upd] using h)), Lib.hid (fun h => hf11.out (by simpa [upd] using h)), Lib.hid (fun h => hf14.out (by simpa [upd] using h)), hr0, ha, Lib.hid (fun h h5 => hp.out (by simpa [upd] using h) (by simpa [upd] using h5)), Lib.hid (fun h => hp2.out (by simpa [upd] using h)), Lib.hid (fun h h5 => hx.out (by simpa [upd] using h) (by simpa [upd] using h5)), Lib.hid (fun h => hs.out (by simpa [upd] using h)), Lib.hid (fun h => by have := hord.out (by simpa [upd] using h); first | (simp [upd]; done) | (simp [upd]; simp [this])), hbe, hsz⟩
    · rintro L a v hL hk ⟨x5, x8, x9, x10, x11, x12, x13, x14, x15, x16, x17, x18, x19, x20, x21, x22, rfl, hf0, hf1, hf2, hf3, hf4, hf5, hf6, hf7, hf8, hf9, hf10, hf11, hf14, hr0, ha, hp, hp2, hx, hs, hord, hbe, hsz⟩ K hK
      have HK0 := Lib.hid hK
      clear hK
      clear hL
      clear hk
      go_wp2
      exact HK0.out _ _ ⟨_, _, _, _, _, _, _, _, _, _, _, _, _, _, _, _, rfl, Lib.hid (fun h => hf0.out (by simpa [upd] using h)), Lib.hid (fun _ => rfl), Lib.hid (fun h => hf2.out (by simpa [upd] using h)), Lib.hid (fun h => hf3.out (by simpa [upd] using h)), Lib.hid (fun h => hf4.out (by simpa [upd] using h)), Lib.hid (fun h => hf5.out (by simpa [upd] using h)), Lib.hid (fun h => hf6.out (by simpa [upd] using h)), Lib.hid (fun h => hf7.out (by simpa [upd] using h)), Lib.hid (fun h => hf8.out (by simpa [upd] using h)), Lib.hid (fun h => hf9.out (by simpa [upd] using h)), Lib.hid (fun h => hf10.out (by simpa [upd] using h)), Lib.hid (fun h => hf11.out (by simpa [upd] using h)), Lib.hid (fun h => hf14.out (by simpa [upd] using h)), hr0, ha, Lib.hid (fun h h5 => hp.out (by simpa [upd] using h) (by simpa [upd] using h5)), Lib.hid (fun h => hp2.out (by simpa [upd] using h)), Lib.hid (fun h h5 => hx.out (by simpa [upd] using h) (by simpa [upd] using h5)), Lib.hid (fun h => hs.out (by simpa [upd] using h)), Lib.hid (fun h => by have := hord.out (by simpa [upd] using h); first | (simp [upd]; done) | (simp [upd]; simp [this])), hbe, hsz⟩
    · rintro L a v hL hk ⟨x5, x8, x9, x10, x11, x12, x13, x14, x15, x16, x17, x18, x19, x20, x21, x22, rfl, hf0, hf1, hf2, hf3, hf4, hf5, hf6, hf7, hf8, hf9, hf10, hf11, hf14, hr0, ha, hp, hp2, hx, hs, hord, hbe, hsz⟩ K hK
      have HK0 := Lib.hid hK
      clear hK
      obtain rfl := hf1.out (after_on hL 1 rfl)
      clear hL
      clear hk
      go_wp2
      exact HK0.out _ _ ⟨_, _, _, _, _, _, _, _, _, _, _, _, _, _, _, _, rfl, Lib.hid (fun h => hf0.out (by simpa [upd] using h)), Lib.hid (fun _ => rfl), Lib.hid (fun _ => rfl), Lib.hid (fun h => hf3.out (by simpa [upd] using h)), Lib.hid (fun h => hf4.out (by simpa [upd] using h)), Lib.hid (fun h => hf5.out (by simpa [upd] using h)), Lib.hid (fun h => hf6.out (by simpa [upd] using h)), Lib.hid (fun h => hf7.out (by simpa [upd] using h)), Lib.hid (fun h => hf8.out (by simpa [upd] using h)), Lib.hid (fun h => hf9.out (by simpa [upd] using h)), Lib.hid (fun h => hf10.out (by simpa [upd] using h)), Lib.hid (fun h => hf11.out (by simpa [upd] using h)), Lib.hid (fun h => hf14.out (by simpa [upd] using h)), hr0, ha, Lib.hid (fun h h5 => hp.out (by simpa [upd] using h) (by simpa [upd] using h5)), Lib.hid (fun h => hp2.out (by simpa [upd] using h)), Lib.hid (fun h h5 => hx.out (by simpa [upd] using h) (by simpa [upd] using h5)), Lib.hid (fun h => hs.out (by simpa [upd] using h)), Lib.hid (fun h => by have := hord.out (by simpa [upd] using h); first | (simp [upd]; done) | (simp [upd]; simp [this])), hbe, hsz⟩
    · rintro L a v hL hk ⟨x5, x8, x9, x10, x11, x12, x13, x14, x15, x16, x17, x18, x19, x20, x21, x22, rfl, hf0, hf1, hf2, hf3, hf4, hf5, hf6, hf7, hf8, hf9, hf10, hf11, hf14, hr0, ha, hp, hp2, hx, hs, hord, hbe, hsz⟩ K hK
      have HK0 := Lib.hid hK
      clear hK
      obtain rfl := hf2.out (after_on hL 2 rfl)
      clear hL
      clear hk
      have c2 := hr0.out.cell 2 R.a2
      rw [hR.p2, hR.n2, hR.c2] at c2
      go_wp2
      exact HK0.out _ _ ⟨_, _, _, _, _, _, _, _, _, _, _, _, _, _, _, _, rfl, Lib.hid (fun h => hf0.out (by simpa [upd] using h)), Lib.hid (fun h => hf1.out (by simpa [upd] using h)), Lib.hid (fun _ => rfl), Lib.hid (fun _ => rfl), Lib.hid (fun h => hf4.out (by simpa [upd] using h)), Lib.hid (fun h => hf5.out (by simpa [upd] using h)), Lib.hid (fun h => hf6.out (by simpa [upd] using h)), Lib.hid (fun h => hf7.out (by simpa [upd] using h)), Lib.hid (fun h => hf8.out (by simpa [upd] using h)), Lib.hid (fun h => hf9.out (by simpa [upd] using h)), Lib.hid (fun h => hf10.out (by simpa [upd] using h)), Lib.hid (fun h => hf11.out (by simpa [upd] using h)), Lib.hid (fun h => hf14.out (by simpa [upd] using h)), hr0, ha, Lib.hid (fun h h5 => hp.out (by simpa [upd] using h) (by simpa [upd] using h5)), Lib.hid (fun h => hp2.out (by simpa [upd] using h)), Lib.hid (fun h h5 => hx.out (by simpa [upd] using h) (by simpa [upd] using h5)), Lib.hid (fun h => hs.out (by simpa [upd] using h)), Lib.hid (fun h => by have := hord.out (by simpa [upd] using h); first | (simp [upd]; done) | (simp [upd]; simp [this])), hbe, hsz⟩
    · rintro L a v hL hk ⟨x5, x8, x9, x10, x11, x12, x13, x14, x15, x16, x17, x18, x19, x20, x21, x22, rfl, hf0, hf1, hf2, hf3, hf4, hf5, hf6, hf7, hf8, hf9, hf10, hf11, hf14, hr0, ha, hp, hp2, hx, hs, hord, hbe, hsz⟩ K hK
      have HK0 := Lib.hid hK
      clear hK
      clear hL
      clear hk
      go_wp2
      exact HK0.out _ _ ⟨_, _, _, _, _, _, _, _, _, _, _, _, _, _, _, _, rfl, Lib.hid (fun h => hf0.out (by simpa [upd] using h)), Lib.hid (fun h => hf1.out (by simpa [upd] using h)), Lib.hid (fun h => hf2.out (by simpa [upd] using h)), Lib.hid (fun h => hf3.out (by simpa [upd] using h)), Lib.hid (fun _ => rfl), Lib.hid (fun h => hf5.out (by simpa [upd] using h)), Lib.hid (fun h => hf6.out (by simpa [upd] using h)), Lib.hid (fun h => hf7.out (by simpa [upd] using h)), Lib.hid (fun h => hf8.out (by simpa [upd] using h)), Lib.hid (fun h => hf9.out (by simpa [upd] using h)), Lib.hid (fun h => hf10.out (by simpa [upd] using h)), Lib.hid (fun h => hf11.out (by simpa [upd] using h)), Lib.hid (fun h => hf14.out (by simpa [upd] using h)), hr0, ha, Lib.hid (fun h h5 => hp.out (by simpa [upd] using h) (by simpa [upd] using h5)), Lib.hid (fun h => hp2.out (by simpa [upd] using h)), Lib.hid (fun h h5 => hx.out (by simpa [upd] using h) (by simpa [upd] using h5)), Lib.hid (fun h => hs.out (by simpa [upd] using h)), Lib.hid (fun h => by have := hord.out (by simpa [upd] using h); first | (simp [upd]; done) | (simp [upd]; simp [this])), hbe, hsz⟩
    · rintro L a v hL hk ⟨x5, x8, x9, x10, x11, x12, x13, x14, x15, x16, x17, x18, x19, x20, x21, x22, rfl, hf0, hf1, hf2, hf3, hf4, hf5, hf6, hf7, hf8, hf9, hf10, hf11, hf14, hr0, ha, hp, hp2, hx, hs, hord, hbe, hsz⟩ K hK
      have HK0 := Lib.hid hK
      clear hK
      clear hL
      clear hk
      go_wp2
      exact HK0.out _ _ ⟨_, _, _, _, _, _, _, _, _, _, _, _, _, _, _, _, rfl, Lib.hid (fun h => hf0.out (by simpa [upd] using h)), Lib.hid (fun h => hf1.out (by simpa [upd] using h)), Lib.hid (fun h => hf2.out (by simpa [upd] using h)), Lib.hid (fun h => hf3.out (by simpa [upd] using h)), Lib.hid (fun h => hf4.out (by simpa [upd] using h)), Lib.hid (fun _ => rfl), Lib.hid (fun h => hf6.out (by simpa [upd] using h)), Lib.hid (fun h => hf7.out (by simpa [upd] using h)), Lib.hid (fun h => hf8.out (by simpa [upd] using h)), Lib.hid (fun h => hf9.out (by simpa [upd] using h)), Lib.hid (fun h => hf10.out (by simpa [upd] using h)), Lib.hid (fun h => hf11.out (by simpa [upd] using h)), Lib.hid (fun h => hf14.out (by simpa [upd] using h)), hr0, ha, Lib.hid (fun h h5 => hp.out (by simpa [upd] using h) (by simpa [upd] using h5)), Lib.hid (fun h => hp2.out (by simpa [upd] using h)), Lib.hid (fun h h5 => hx.out (by simpa [upd] using h) (by simpa [upd] using h5)), Lib.hid (fun h => hs.out (by simpa [upd] using h)), Lib.hid (fun h => by have := hord.out (by simpa [upd] using h); first | (simp [upd]; done) | (simp [upd]; simp [this])), hbe, hsz⟩
    · rintro L a v hL hk ⟨x5, x8, x9, x10, x11, x12, x13, x14, x15, x16, x17, x18, x19, x20, x21, x22, rfl, hf0, hf1, hf2, hf3, hf4, hf5, hf6, hf7, hf8, hf9, hf10, hf11, hf14, hr0, ha, hp, hp2, hx, hs, hord, hbe, hsz⟩ K hK
      have HK0 := Lib.hid hK
      clear hK
      obtain rfl := hf3.out (after_on hL 3 rfl)
      obtain rfl := hf4.out (after_on hL 4 rfl)
      obtain rfl := hf5.out (after_on hL 5 rfl)
      clear hL
      clear hk
      go_wp2
      exact HK0.out _ _ ⟨_, _, _, _, _, _, _, _, _, _, _, _, _, _, _, _, rfl, Lib.hid (fun h => hf0.out (by simpa [upd] using h)), Lib.hid (fun h => hf1.out (by simpa [upd] using h)), Lib.hid (fun h => hf2.out (by simpa [upd] using h)), Lib.hid (fun _ => rfl), Lib.hid (fun _ => rfl), Lib.hid (fun _ => rfl), Lib.hid (fun _ => rfl), Lib.hid (fun h => hf7.out (by simpa [upd] using h)), Lib.hid (fun h => hf8.out (by simpa [upd] using h)), Lib.hid (fun h => hf9.out (by simpa [upd] using h)), Lib.hid (fun h => hf10.out (by simpa [upd] using h)), Lib.hid (fun h => hf11.out (by simpa [upd] using h)), Lib.hid (fun h => hf14.out (by simpa [upd] using h)), hr0, ha, Lib.hid (fun h h5 => hp.out (by simpa [upd] using h) (by simpa [upd] using h5)), Lib.hid (fun h => hp2.out (by simpa [upd] using h)), Lib.hid (fun h h5 => hx.out (by simpa [upd] using h) (by simpa [upd] using h5)), Lib.hid (fun h => hs.out (by simpa [upd] using h)), Lib.hid (fun h => by have := hord.out (by simpa [upd] using h); first | (simp [upd]; done) | (simp [upd]; simp [this])), hbe, hsz⟩
    · rintro L a v hL hk ⟨x5, x8, x9, x10, x11, x12, x13, x14, x15, x16, x17, x18, x19, x20, x21, x22, rfl, hf0, hf1, hf2, hf3, hf4, hf5, hf6, hf7, hf8, hf9, hf10, hf11, hf14, hr0, ha, hp, hp2, hx, hs, hord, hbe, hsz⟩ K hK
      have HK0 := Lib.hid hK
      clear hK
      clear hL
      clear hk
      go_wp2
      exact HK0.out _ _ ⟨_, _, _, _, _, _, _, _, _, _, _, _, _, _, _, _, rfl, Lib.hid (fun h => hf0.out (by simpa [upd] using h)), Lib.hid (fun h => hf1.out (by simpa [upd] using h)), Lib.hid (fun h => hf2.out (by simpa [upd] using h)), Lib.hid (fun h => hf3.out (by simpa [upd] using h)), Lib.hid (fun h => hf4.out (by simpa [upd] using h)), Lib.hid (fun h => hf5.out (by simpa [upd] using h)), Lib.hid (fun h => hf6.out (by simpa [upd] using h)), Lib.hid (fun _ => rfl), Lib.hid (fun h => hf8.out (by simpa [upd] using h)), Lib.hid (fun h => hf9.out (by simpa [upd] using h)), Lib.hid (fun h => hf10.out (by simpa [upd] using h)), Lib.hid (fun h => hf11.out (by simpa [upd] using h)), Lib.hid (fun h => hf14.out (by simpa [upd] using h)), hr0, ha, Lib.hid (fun h h5 => hp.out (by simpa [upd] using h) (by simpa [upd] using h5)), Lib.hid (fun h => hp2.out (by simpa [upd] using h)), Lib.hid (fun h h5 => hx.out (by simpa [upd] using h) (by simpa [upd] using h5)), Lib.hid (fun h => hs.out (by simpa [upd] using h)), Lib.hid (fun h => by have := hord.out (by simpa [upd] using h); first | (simp [upd]; done) | (simp [upd]; simp [this])), hbe, hsz⟩
    · rintro L a v hL hk ⟨x5, x8, x9, x10, x11, x12, x13, x14, x15, x16, x17, x18, x19, x20, x21, x22, rfl, hf0, hf1, hf2, hf3, hf4, hf5, hf6, hf7, hf8, hf9, hf10, hf11, hf14, hr0, ha, hp, hp2, hx, hs, hord, hbe, hsz⟩ K hK
      have HK0 := Lib.hid hK
      clear hK
      obtain rfl := hf7.out (after_on hL 7 rfl)
      clear hL
      clear hk
      go_wp2
      exact HK0.out _ _ ⟨_, _, _, _, _, _, _, _, _, _, _, _, _, _, _, _, rfl, Lib.hid (fun h => hf0.out (by simpa [upd] using h)), Lib.hid (fun h => hf1.out (by simpa [upd] using h)), Lib.hid (fun h => hf2.out (by simpa [upd] using h)), Lib.hid (fun h => hf3.out (by simpa [upd] using h)), Lib.hid (fun h => hf4.out (by simpa [upd] using h)), Lib.hid (fun h => hf5.out (by simpa [upd] using h)), Lib.hid (fun h => hf6.out (by simpa [upd] using h)), Lib.hid (fun _ => rfl), Lib.hid (fun _ => rfl), Lib.hid (fun h => hf9.out (by simpa [upd] using h)), Lib.hid (fun h => hf10.out (by simpa [upd] using h)), Lib.hid (fun h => hf11.out (by simpa [upd] using h)), Lib.hid (fun h => hf14.out (by simpa [upd] using h)), hr0, ha, Lib.hid (fun h h5 => hp.out (by simpa [upd] using h) (by simpa [upd] using h5)), Lib.hid (fun h => hp2.out (by simpa [upd] using h)), Lib.hid (fun h h5 => hx.out (by simpa [upd] using h) (by simpa [upd] using h5)), Lib.hid (fun h => hs.out (by simpa [upd] using h)), Lib.hid (fun h => by have := hord.out (by simpa [upd] using h); first | (simp [upd]; done) | (simp [upd]; simp [this])), hbe, hsz⟩
    · rintro L a v hL hk ⟨x5, x8, x9, x10, x11, x12, x13, x14, x15, x16, x17, x18, x19, x20, x21, x22, rfl, hf0, hf1, hf2, hf3, hf4, hf5, hf6, hf7, hf8, hf9, hf10, hf11, hf14, hr0, ha, hp, hp2, hx, hs, hord, hbe, hsz⟩ K hK
      have HK0 := Lib.hid hK
      clear hK
      obtain rfl := hf8.out (after_on hL 8 rfl)
      clear hL
      clear hk
      have c2 := hr0.out.cell 2 R.a2
      rw [hR.p2, hR.n2, hR.c2] at c2
      go_wp2
      exact HK0.out _ _ ⟨_, _, _, _, _, _, _, _, _, _, _, _, _, _, _, _, rfl, Lib.hid (fun h => hf0.out (by simpa [upd] using h)), Lib.hid (fun h => hf1.out (by simpa [upd] using h)), Lib.hid (fun h => hf2.out (by simpa [upd] using h)), Lib.hid (fun h => hf3.out (by simpa [upd] using h)), Lib.hid (fun h => hf4.out (by simpa [upd] using h)), Lib.hid (fun h => hf5.out (by simpa [upd] using h)), Lib.hid (fun h => hf6.out (by simpa [upd] using h)), Lib.hid (fun h => hf7.out (by simpa [upd] using h)), Lib.hid (fun _ => rfl), Lib.hid (fun _ => rfl), Lib.hid (fun h => hf10.out (by simpa [upd] using h)), Lib.hid (fun h => hf11.out (by simpa [upd] using h)), Lib.hid (fun h => hf14.out (by simpa [upd] using h)), hr0, ha, Lib.hid (fun h h5 => hp.out (by simpa [upd] using h) (by simpa [upd] using h5)), Lib.hid (fun h => hp2.out (by simpa [upd] using h)), Lib.hid (fun h h5 => hx.out (by simpa [upd] using h) (by simpa [upd] using h5)), Lib.hid (fun h => hs.out (by simpa [upd] using h)), Lib.hid (fun h => by have := hord.out (by simpa [upd] using h); first | (simp [upd]; done) | (simp [upd]; simp [this])), hbe, hsz⟩
    · rintro L a v hL hk ⟨x5, x8, x9, x10, x11, x12, x13, x14, x15, x16, x17, x18, x19, x20, x21, x22, rfl, hf0, hf1, hf2, hf3, hf4, hf5, hf6, hf7, hf8, hf9, hf10, hf11, hf14, hr0, ha, hp, hp2, hx, hs, hord, hbe, hsz⟩ K hK
      have HK0 := Lib.hid hK
      clear hK
      clear hL
      clear hk
      go_wp2
      exact HK0.out _ _ ⟨_, _, _, _, _, _, _, _, _, _, _, _, _, _, _, _, rfl, Lib.hid (fun h => hf0.out (by simpa [upd] using h)), Lib.hid (fun h => hf1.out (by simpa [upd] using h)), Lib.hid (fun h => hf2.out (by simpa [upd] using h)), Lib.hid (fun h => hf3.out (by simpa [upd] using h)), Lib.hid (fun h => hf4.out (by simpa [upd] using h)), Lib.hid (fun h => hf5.out (by simpa [upd] using h)), Lib.hid (fun h => hf6.out (by simpa [upd] using h)), Lib.hid (fun h => hf7.out (by simpa [upd] using h)), Lib.hid (fun h => hf8.out (by simpa [upd] using h)), Lib.hid (fun h => hf9.out (by simpa [upd] using h)), Lib.hid (fun _ => rfl), Lib.hid (fun h => hf11.out (by simpa [upd] using h)), Lib.hid (fun h => hf14.out (by simpa [upd] using h)), hr0, ha, Lib.hid (fun h h5 => hp.out (by simpa [upd] using h) (by simpa [upd] using h5)), Lib.hid (fun h => hp2.out (by simpa [upd] using h)), Lib.hid (fun h h5 => hx.out (by simpa [upd] using h) (by simpa [upd] using h5)), Lib.hid (fun h => hs.out (by simpa [upd] using h)), Lib.hid (fun h => by have := hord.out (by simpa [upd] using h); first | (simp [upd]; done) | (simp [upd]; simp [this])), hbe, hsz⟩
    · rintro L a v hL hk ⟨x5, x8, x9, x10, x11, x12, x13, x14, x15, x16, x17, x18, x19, x20, x21, x22, rfl, hf0, hf1, hf2, hf3, hf4, hf5, hf6, hf7, hf8, hf9, hf10, hf11, hf14, hr0, ha, hp, hp2, hx, hs, hord, hbe, hsz⟩ K hK
      have HK0 := Lib.hid hK
      clear hK
      obtain rfl := hf10.out (after_on hL 10 rfl)
      clear hL
      clear hk
      go_wp2
      exact HK0.out _ _ ⟨_, _, _, _, _, _, _, _, _, _, _, _, _, _, _, _, rfl, Lib.hid (fun h => hf0.out (by simpa [upd] using h)), Lib.hid (fun h => hf1.out (by simpa [upd] using h)), Lib.hid (fun h => hf2.out (by simpa [upd] using h)), Lib.hid (fun h => hf3.out (by simpa [upd] using h)), Lib.hid (fun h => hf4.out (by simpa [upd] using h)), Lib.hid (fun h => hf5.out (by simpa [upd] using h)), Lib.hid (fun h => hf6.out (by simpa [upd] using h)), Lib.hid (fun h => hf7.out (by simpa [upd] using h)), Lib.hid (fun h => hf8.out (by simpa [upd] using h)), Lib.hid (fun h => hf9.out (by simpa [upd] using h)), Lib.hid (fun _ => rfl), Lib.hid (fun _ => rfl), Lib.hid (fun h => hf14.out (by simpa [upd] using h)), hr0, ha, Lib.hid (fun h h5 => hp.out (by simpa [upd] using h) (by simpa [upd] using h5)), Lib.hid (fun h => hp2.out (by simpa [upd] using h)), Lib.hid (fun h h5 => hx.out (by simpa [upd] using h) (by simpa [upd] using h5)), Lib.hid (fun h => hs.out (by simpa [upd] using h)), Lib.hid (fun h => by have := hord.out (by simpa [upd] using h); first | (simp [upd]; done) | (simp [upd]; simp [this])), hbe, hsz⟩
    · rintro L a v hL hk ⟨x5, x8, x9, x10, x11, x12, x13, x14, x15, x16, x17, x18, x19, x20, x21, x22, rfl, hf0, hf1, hf2, hf3, hf4, hf5, hf6, hf7, hf8, hf9, hf10, hf11, hf14, hr0, ha, hp, hp2, hx, hs, hord, hbe, hsz⟩ K hK
      have HK0 := Lib.hid hK
      clear hK
      obtain rfl := hf9.out (after_on hL 9 rfl)
      obtain rfl := hf11.out (after_on hL 11 rfl)
      clear hL
      clear hk
      rcases Nat.eq_or_lt_of_le (show k + 1 ≤ c2 by omega) with rfl | hzz
      all_goals go_wp2
      all_goals exact HK0.out _ _ ⟨_, _, _, _, _, _, _, _, _, _, _, _, _, _, _, _, rfl, Lib.hid (fun h => hf0.out (by simpa [upd] using h)), Lib.hid (fun h => hf1.out (by simpa [upd] using h)), Lib.hid (fun h => hf2.out (by simpa [upd] using h)), Lib.hid (fun h => hf3.out (by simpa [upd] using h)), Lib.hid (fun h => hf4.out (by simpa [upd] using h)), Lib.hid (fun h => hf5.out (by simpa [upd] using h)), Lib.hid (fun h => hf6.out (by simpa [upd] using h)), Lib.hid (fun h => hf7.out (by simpa [upd] using h)), Lib.hid (fun h => hf8.out (by simpa [upd] using h)), Lib.hid (fun _ => rfl), Lib.hid (fun h => hf10.out (by simpa [upd] using h)), Lib.hid (fun _ => rfl), Lib.hid (fun h => hf14.out (by simpa [upd] using h)), hr0, ha, Lib.hid (fun h h5 => hp.out (by simpa [upd] using h) (by simpa [upd] using h5)), Lib.hid (fun h => hp2.out (by simpa [upd] using h)), Lib.hid (fun h h5 => hx.out (by simpa [upd] using h) (by simpa [upd] using h5)), Lib.hid (fun _ => by first | exact ⟨_, _, rfl, .inl rfl⟩ | exact ⟨some ⟨b, o, none⟩, 0, by rw [show ks.length - (k + 1) = 0 by omega], .inr (List.drop_eq_nil_of_le (by omega))⟩), Lib.hid (fun h => by have := hord.out (by simpa [upd] using h); first | (simp [upd]; done) | (simp [upd]; simp [this])), hbe, hsz⟩
    · rintro L a v hL hk ⟨x5, x8, x9, x10, x11, x12, x13, x14, x15, x16, x17, x18, x19, x20, x21, x22, rfl, hf0, hf1, hf2, hf3, hf4, hf5, hf6, hf7, hf8, hf9, hf10, hf11, hf14, hr0, ha, hp, hp2, hx, hs, hord, hbe, hsz⟩ K hK
      have HK0 := Lib.hid hK
      clear hK
      obtain rfl := hf6.out (after_on hL 6 rfl)
      clear hk
      obtain ⟨q', c', rfl, hq'⟩ := hs.out (after_on hL 12 rfl)
      clear hL
      have hkv : KnotsAt v (some ⟨b, o, none⟩) ks := by have := ha.out.k; rw [hR.p2] at this; exact this
      have hqk : KnotsAt v q' (ks.drop (k + 1)) := by rcases hq' with rfl | he; exact KnotsAt.drop hkv (k + 1); rw [he]; intro i hi; simp at hi
      obtain ⟨p, c, w6, hrun, hkn, hb6⟩ := append_knots v ks (some ⟨b, o, none⟩) k hk hkv hk3 23 q' c' hqk
      refine wp_append_run _ _ _ _ rfl _ _ _ rfl rfl hrun ?_
      exact HK0.out _ _ ⟨_, _, _, _, _, _, _, _, _, _, _, _, _, _, _, _, rfl, Lib.hid (fun h => hf0.out (by simpa [upd] using h)), Lib.hid (fun h => hf1.out (by simpa [upd] using h)), Lib.hid (fun h => hf2.out (by simpa [upd] using h)), Lib.hid (fun h => hf3.out (by simpa [upd] using h)), Lib.hid (fun h => hf4.out (by simpa [upd] using h)), Lib.hid (fun h => hf5.out (by simpa [upd] using h)), Lib.hid (fun _ => rfl), Lib.hid (fun h => hf7.out (by simpa [upd] using h)), Lib.hid (fun h => hf8.out (by simpa [upd] using h)), Lib.hid (fun h => hf9.out (by simpa [upd] using h)), Lib.hid (fun h => hf10.out (by simpa [upd] using h)), Lib.hid (fun h => hf11.out (by simpa [upd] using h)), Lib.hid (fun h => hf14.out (by simpa [upd] using h)), Lib.hid (hr0.out.below hb6 hr0.out.lt), Lib.hid (ha.out.below hb6), Lib.hid (fun h h6 => (hp.out (by simpa [upd] using h) (by simpa [upd] using h6)).below hb6), Lib.hid (fun h => (hp2.out (by simpa [upd] using h)).below hb6), Lib.hid (fun _ _ => ⟨p, c, rfl, hkn⟩), Lib.hid (fun _ => ⟨q', c', rfl, hq'⟩), Lib.hid (fun h => by have := hord.out (by simpa [upd] using h); first | (simp [upd]; done) | (simp [upd]; simp [this])), Lib.hid (hbe.out.trans (hb6.mono (by have := hsz.out; omega))), Lib.hid (Nat.le_trans hsz.out hb6.size)⟩
    · rintro L a v hL hk ⟨x5, x8, x9, x10, x11, x12, x13, x14, x15, x16, x17, x18, x19, x20, x21, x22, rfl, hf0, hf1, hf2, hf3, hf4, hf5, hf6, hf7, hf8, hf9, hf10, hf11, hf14, hr0, ha, hp, hp2, hx, hs, hord, hbe, hsz⟩ K hK
      have HK0 := Lib.hid hK
      clear hK
      obtain rfl := hf0.out (after_on hL 0 rfl)
      obtain ⟨p, c, rfl, hkn⟩ := hx.out (after_on hL 13 rfl) hk
      clear hL hk
      go_wp2_with fail
      refine (reach_sub hR hok k _ ha.out p c hkn).mono ?_
      rintro e w6 ⟨rfl, hb6⟩
      exact HK0.out _ _ ⟨_, _, _, _, _, _, _, _, _, _, _, _, _, _, _, _, rfl, Lib.hid (fun _ => rfl), Lib.hid (fun h => hf1.out (by simpa [upd] using h)), Lib.hid (fun h => hf2.out (by simpa [upd] using h)), Lib.hid (fun h => hf3.out (by simpa [upd] using h)), Lib.hid (fun h => hf4.out (by simpa [upd] using h)), Lib.hid (fun h => hf5.out (by simpa [upd] using h)), Lib.hid (fun h => hf6.out (by simpa [upd] using h)), Lib.hid (fun h => hf7.out (by simpa [upd] using h)), Lib.hid (fun h => hf8.out (by simpa [upd] using h)), Lib.hid (fun h => hf9.out (by simpa [upd] using h)), Lib.hid (fun h => hf10.out (by simpa [upd] using h)), Lib.hid (fun h => hf11.out (by simpa [upd] using h)), Lib.hid (fun _ => rfl), Lib.hid (hr0.out.below hb6 hr0.out.lt), Lib.hid (ha.out.below hb6), Lib.hid (fun h h6 => (hp.out (by simpa [upd] using h) (by simpa [upd] using h6)).below hb6), Lib.hid (fun h => (hp2.out (by simpa [upd] using h)).below hb6), Lib.hid (fun _ h => by simp [upd] at h), Lib.hid (fun h => hs.out (by simpa [upd] using h)), Lib.hid (fun h => by have := hord.out (by simpa [upd] using h); first | (simp [upd]; done) | (simp [upd]; simp [this])), Lib.hid (hbe.out.trans (hb6.mono (by have := hsz.out; omega))), Lib.hid (Nat.le_trans hsz.out hb6.size)⟩
    · rintro L a v hL hk ⟨x5, x8, x9, x10, x11, x12, x13, x14, x15, x16, x17, x18, x19, x20, x21, x22, rfl, hf0, hf1, hf2, hf3, hf4, hf5, hf6, hf7, hf8, hf9, hf10, hf11, hf14, hr0, ha, hp, hp2, hx, hs, hord, hbe, hsz⟩ K hK
      have HK0 := Lib.hid hK
      clear hK
      clear hL
      go_wp2
      exact HK0.out _ _ ⟨_, _, _, _, _, _, _, _, _, _, _, _, _, _, _, _, rfl, Lib.hid (fun h => hf0.out (by simpa [upd] using h)), Lib.hid (fun h => hf1.out (by simpa [upd] using h)), Lib.hid (fun h => hf2.out (by simpa [upd] using h)), Lib.hid (fun h => hf3.out (by simpa [upd] using h)), Lib.hid (fun h => hf4.out (by simpa [upd] using h)), Lib.hid (fun h => hf5.out (by simpa [upd] using h)), Lib.hid (fun h => hf6.out (by simpa [upd] using h)), Lib.hid (fun h => hf7.out (by simpa [upd] using h)), Lib.hid (fun h => hf8.out (by simpa [upd] using h)), Lib.hid (fun h => hf9.out (by simpa [upd] using h)), Lib.hid (fun h => hf10.out (by simpa [upd] using h)), Lib.hid (fun h => hf11.out (by simpa [upd] using h)), Lib.hid (fun h => hf14.out (by simpa [upd] using h)), Lib.hid (hr0.out.below (below_alloc v _) hr0.out.lt), Lib.hid (ha.out.below (below_alloc v _)), Lib.hid (fun _ _ => PtrTo.new hsz.out _ _), Lib.hid (fun h => by have h15 := hord.out (by simpa [upd] using h); rw [hk] at h15; cases h15), Lib.hid (fun h h9 => (hx.out (by simpa [upd] using h) (by simpa [upd] using h9)).imp fun p h => h.imp fun c h => ⟨h.1, h.2.below (below_alloc v _)⟩), Lib.hid (fun h => hs.out (by simpa [upd] using h)), Lib.hid (fun h => by have := hord.out (by simpa [upd] using h); first | (simp [upd]; done) | (simp [upd]; simp [this])), Lib.hid (hbe.out.trans ((below_alloc v _).mono (by have := hsz.out; omega))), Lib.hid (Nat.le_trans hsz.out (below_alloc v _).size)⟩
    · rintro L a v hL hk ⟨x5, x8, x9, x10, x11, x12, x13, x14, x15, x16, x17, x18, x19, x20, x21, x22, rfl, hf0, hf1, hf2, hf3, hf4, hf5, hf6, hf7, hf8, hf9, hf10, hf11, hf14, hr0, ha, hp, hp2, hx, hs, hord, hbe, hsz⟩ K hK
      have HK0 := Lib.hid hK
      clear hK
      obtain rfl := hf14.out (after_on hL 14 rfl)
      obtain ⟨q, rfl, hq, hrz⟩ := hp.out (after_on hL 15 rfl) hk
      have HLL := Lib.hid hL
      clear hL hk
      refine wp_store_row' 88 _ _ rfl _ (boolsA (reachD long (ks.eraseIdx k))) _ _ rfl rfl hrz (size88 (reachD_length _ _)) (by rw [zero88, boolsA_size, boolsA_size, reachD_length, List.length_replicate]) (boolsA_one _) ?_
      exact HK0.out _ _ ⟨_, _, _, _, _, _, _, _, _, _, _, _, _, _, _, _, rfl, Lib.hid (fun h => hf0.out (by simpa [upd] using h)), Lib.hid (fun h => hf1.out (by simpa [upd] using h)), Lib.hid (fun h => hf2.out (by simpa [upd] using h)), Lib.hid (fun h => hf3.out (by simpa [upd] using h)), Lib.hid (fun h => hf4.out (by simpa [upd] using h)), Lib.hid (fun h => hf5.out (by simpa [upd] using h)), Lib.hid (fun h => hf6.out (by simpa [upd] using h)), Lib.hid (fun h => hf7.out (by simpa [upd] using h)), Lib.hid (fun h => hf8.out (by simpa [upd] using h)), Lib.hid (fun h => hf9.out (by simpa [upd] using h)), Lib.hid (fun h => hf10.out (by simpa [upd] using h)), Lib.hid (fun h => hf11.out (by simpa [upd] using h)), Lib.hid (fun _ => rfl), Lib.hid (hr0.out.setRow_other _ (by omega)), Lib.hid (⟨hA.e, ha.out.m.of_same (_root_.Go.setRow_other _ _ _ _ (ha.out.m.ne hrz)), hA.t, hA.k.below (below_setRow hbe.out (by omega) _), hA.l.below (below_setRow hbe.out (by omega) _)⟩), Lib.hid (fun _ h => by simp [upd] at h), Lib.hid (fun _ => ⟨q, rfl, hq, hrz.setRow _⟩), Lib.hid (fun _ h5 => absurd (after_on HLL.out 14 rfl) (by have h9 : L 14 = false := (by simpa [upd] using h5); simp [h9])), Lib.hid (fun h => hs.out (by simpa [upd] using h)), Lib.hid (fun _ => by rw [upd_other _ (by decide)]; exact after_on HLL.out 15 rfl), Lib.hid (below_setRow hbe.out (by omega) _), Lib.hid (by simpa using hsz.out)⟩

end Go.Proofs.Ytnnlbbmimdohoaa
