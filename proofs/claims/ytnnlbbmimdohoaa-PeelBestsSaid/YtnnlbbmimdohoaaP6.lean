/- The walks of layer 1: which columns the knots can have. -/
import Derived.Test.YtnnlbbmimdohoaaQ
namespace Go.Proofs.Ytnnlbbmimdohoaa
open Go.RowKit Go.Maps
attribute [local go_sem] Oper.semAt_some

/-- The cells behind a slice read as knots. -/
def KnotsAt (w : World) (p : Option Addr) (ks : List K4) : Prop :=
  ∀ i (h : i < ks.length), ∃ b o, p = some ⟨b, o, none⟩ ∧ w.cell? ⟨b, o + i * 4, none⟩ = some (.int .i64 ks[i].al) ∧ w.cell? ⟨b, o + i * 4 + 1, none⟩ = some (.int .i64 ks[i].ah) ∧
    w.cell? ⟨b, o + i * 4 + 2, none⟩ = some (.int .i64 ks[i].fl) ∧ w.cell? ⟨b, o + i * 4 + 3, none⟩ = some (.int .i64 ks[i].fh)
theorem KnotsAt.below {w w' : World} {p : Option Addr} {ks : List K4} (h : KnotsAt w p ks) (hb : Below w.heap.size w w') : KnotsAt w' p ks := by
  intro i hi
  obtain ⟨b, o, hp, h0, h1, h2, h3⟩ := h i hi
  have hlt : b < w.heap.size := cell_block h0
  exact ⟨b, o, hp, by rw [(bcell hb).1 b _ hlt]; exact h0, by rw [(bcell hb).1 b _ hlt]; exact h1, by rw [(bcell hb).1 b _ hlt]; exact h2, by rw [(bcell hb).1 b _ hlt]; exact h3⟩

/-- The columns that some knots can have. -/
def reachK (R : Rib) (long : List Int) (acc : List Bool) (k : K4) : List Bool := (placesL k).foldl (fun c p => orL c (trailL R long p.1 p.2.toNat)) acc
def reachL (R : Rib) (long : List Int) (ks : List K4) : List Bool := ks.foldl (reachK R long) (List.replicate 72 false)
theorem trailL_length (R : Rib) (long : List Int) (a : Int) (t : Nat) : (trailL R long a t).length = 72 := trailTo_length _ _ _ _ _
theorem foldOr_length (R : Rib) (long : List Int) : ∀ (l : List (Int × Int)) (acc : List Bool), acc.length = 72 → (l.foldl (fun c p => orL c (trailL R long p.1 p.2.toNat)) acc).length = 72
  | [], _, h => h
  | _ :: l, _, h => foldOr_length R long l _ (orL_length h (trailL_length _ _ _ _))
theorem reachK_length (R : Rib) (long : List Int) {acc : List Bool} (k : K4) (h : acc.length = 72) : (reachK R long acc k).length = 72 := foldOr_length R long _ _ h
theorem reachF_length (R : Rib) (long : List Int) : ∀ (ks : List K4) (acc : List Bool), acc.length = 72 → (ks.foldl (reachK R long) acc).length = 72
  | [], _, h => h
  | k :: ks, _, h => reachF_length R long ks _ (reachK_length R long k h)

/-- A map that holds the trails of all places of some knots. -/
def Trails (R : Rib) (long : List Int) (ks : List K4) (f : Int → Int → Option (List Bool)) : Prop :=
  ∀ k ∈ ks, ∀ p ∈ placesL k, f p.1 p.2 = some (trailL R long p.1 p.2.toNat)

set_option maxRecDepth 10000 in
set_option maxHeartbeats 1600000 in
theorem reach_any (R : Rib) (long : List Int) (hs : R.s.length = 6) (p : Option Addr) (c : Nat) (ks : List K4) (w : World) (hks : KnotsAt w p ks) (hko : ∀ k ∈ ks, K4Ok k) (h3 : ks.length ≤ 3)
    (mb n : Nat) (f : Int → Int → Option (List Bool)) (hmb : R.mb = some mb) (hm : MapIs w mb n f) (ht : Trails R long ks f) :
    Calls Try.prog 68 #[.agg R.A, .slice p ks.length c] w fun e w' => e = .returned (cols (reachL R long ks)) ∧ Below w.heap.size w w' := by
  refine calls_marks Try.func68 rfl ?_
  simp only [Try.ntmps68, List.size_toArray, List.length_cons, List.length_nil, Nat.reduceAdd, Nat.reduceSub, Array.replicate_succ, Array.replicate_zero, List.push_toArray, List.append_toArray, List.nil_append, List.cons_append]
  go_wp2_with fail
  have HMB := Lib.hid hmb
  have HM := Lib.hid hm
  have HT := Lib.hid ht
  have HKS := Lib.hid hks
  have HS := Lib.hid (size76 hs)
  have hmlt := hm.lt
  clear hmb hm ht hks
  refine wp_loop (fun a wr => ∃ (i : Nat) (u7 u8 u12 u13 u14 u15 u16 u17 u18 u19 u20 u21 u22 u23 u24 u25 u26 : Value) (ds : List Deferred), a = { tmps := #[.agg R.A, .slice p ks.length c, .pointer (some ⟨w.heap.size, 0, none⟩), undef, .pointer (some ⟨w.heap.size + 1, 0, none⟩), .pointer (some ⟨w.heap.size + 1 + 1, 0, none⟩), undef, u7, u8, .slice p ks.length c, .int .i64 ks.length, .int .i64 i, u12, u13, u14, u15, u16, u17, u18, u19, u20, u21, u22, u23, u24, u25, u26], defers := ds } ∧
      i ≤ ks.length ∧ Row wr w.heap.size R.A 76 ∧ Row wr (w.heap.size + 1) Try.zeroCells88 88 ∧ Row wr (w.heap.size + 1 + 1) (boolsA ((ks.take i).foldl (reachK R long) (List.replicate 72 false))) 88 ∧ Marks w.heap.size ds wr ∧ Below w.heap.size w wr)
    (fun a _ => ks.length - (intOf (a.tmps.getD 11 undef)).toNat) ?_ ?_
  · exact ⟨0, _, _, _, _, _, _, _, _, _, _, _, _, _, _, _, _, _, [], rfl, by omega, ((Row.new _ _ _).alloc _).alloc _, (Row.new' (by simp) _ _).alloc _, by rw [List.take_zero, List.foldl_nil, ← zero88]; exact Row.new' (by simp) _ _, trivial, ((below_alloc _ _).alloc (by simp) _).alloc (by simp; omega) _⟩
  · rintro a wr ⟨i, u7, u8, u12, u13, u14, u15, u16, u17, u18, u19, u20, u21, u22, u23, u24, u25, u26, ds, rfl, hi, r0, r1, r2, hmk, hb⟩
    have R0 := Lib.hid r0
    have R1 := Lib.hid r1
    have R2 := Lib.hid r2
    have HMK := Lib.hid hmk
    have HB := Lib.hid hb
    have hz := r2.lt
    clear r0 r1 r2 hmk hb
    have hlen := reachF_length R long (ks.take i) _ (by simp : (List.replicate 72 false).length = 72)
    generalize hacc : (ks.take i).foldl (reachK R long) (List.replicate 72 false) = acc at *
    have HACC := Lib.hid hacc
    clear hacc
    by_cases hlt : i < ks.length
    · obtain ⟨b, o, rfl, k0, k1, k2, k3⟩ := (HKS.out.below HB.out) i hlt
      have hko' := hko ks[i] (List.getElem_mem _)
      generalize hkk : ks[i] = k at *
      have HKK := Lib.hid hkk
      clear hkk
      have hbl := cell_block k0
      dsimp only at hbl
      go_wp2_with fail
      refine (places_any k _).mono ?_
      rintro e w1 ⟨rfl, rfl⟩
      clear k0 k1 k2 k3
      go_wp2_with fail
      generalize hW2 : (wr.alloc (Obj.cells #[Value.int IntKind.i64 k.al, Value.int IntKind.i64 k.ah, Value.int IntKind.i64 k.fl, Value.int IntKind.i64 k.fh] 61)).alloc (Obj.cells k.A 113) = w2
      have hB2 : Below wr.heap.size wr w2 := by rw [← hW2]; exact (below_alloc _ _).alloc (by simp) _
      have hs2 : wr.heap.size + 2 ≤ w2.heap.size := by rw [← hW2]; simp
      have hs3 : w2.heap.size ≤ wr.heap.size + 2 := by rw [← hW2]; simp
      have rK : Row w2 (wr.heap.size + 1) k.A 113 := by rw [← hW2]; exact Row.new' (by simp) _ _
      have Q0 := Lib.hid (R0.out.below hB2 (by omega))
      have Q1 := Lib.hid (R1.out.below hB2 (by omega))
      have Q2 := Lib.hid (R2.out.below hB2 (by omega))
      have QMK := Lib.hid (HMK.out.keeps (KeepsBut.of_below (M := fun _ => False) hB2) (fun _ _ h => h.elim))
      have QB := Lib.hid (HB.out.trans (hB2.mono (by omega)))
      clear hW2
      refine range_law 93 #[.pointer (some ⟨wr.heap.size + 1, 0, none⟩)] (fun m => m = wr.heap.size + 1) ((placesL k).map fun q => #[placeV q.1 q.2]) rfl (fun args w => Try.call93 args w)
        (fun W1 hb _ => places1_iter k hko' _ W1 (rK.below hb (by omega))) (by intro x hx; simp at hx; obtain ⟨_, _, _, rfl⟩ := hx; rfl) (fun m => m = w.heap.size + 1 + 1) (by rintro m rfl; exact ⟨by omega, by omega⟩) (by omega)
        (fun j A => Row A (w.heap.size + 1 + 1) (boolsA (((placesL k).take j).foldl (fun (c : List Bool) (p : Int × Int) => orL c (trailL R long p.1 p.2.toNat)) acc)) 88) (fun _ _ => False) (fun j A B h hb => by exact Row.below h hb (by omega)) (fun _ _ _ h _ => h) Q2.out ?body ?done ?stop
      case body =>
        rintro l j x A rfl hx hI hkeep hlA
        obtain ⟨⟨qa, qt⟩, hq, rfl⟩ : ∃ q : Int × Int, (placesL k)[j]? = some q ∧ x = #[placeV q.1 q.2] := by
          rw [List.getElem?_map] at hx
          cases hq : (placesL k)[j]? with
          | none => rw [hq] at hx; cases hx
          | some q => rw [hq] at hx; cases hx; exact ⟨q, rfl, rfl⟩
        have hmem : (qa, qt) ∈ placesL k := List.mem_of_getElem? hq
        have hrng := placesL_range hko' hmem
        have HTR := Lib.hid (HT.out k (by rw [← HKK.out]; exact List.getElem_mem _) _ hmem)
        have HIA := Lib.hid (show I64 qa from ⟨by omega, by omega⟩)
        have HIT := Lib.hid (show I64 qt from ⟨by omega, by omega⟩)
        have HQJ := Lib.hid hq
        have HI := Lib.hid hI
        have HKP := Lib.hid hkeep
        have hL2 := foldOr_length R long ((placesL k).take j) acc hlen
        generalize hacc2 : ((placesL k).take j).foldl (fun (c : List Bool) (p : Int × Int) => orL c (trailL R long p.1 p.2.toNat)) acc = acc2 at *
        have HACC2 := Lib.hid hacc2
        have HL2 := Lib.hid hL2
        clear hx hq hI hkeep hacc2 hL2 hmem
        unfold placeV
        gi_wp2
        refine ⟨(KeepsBut.refl _ _).alloc _, fun oo => ?_⟩
        have hAz : w2.heap.size + 1 < A.heap.size := hlA
        generalize hA2 : (A.alloc (Obj.cells #[Value.int IntKind.i64 qa, Value.int IntKind.i64 qt] 80)).putObj (w2.heap.size + 1) oo = A2
        have hsame : ∀ m, m ≠ w2.heap.size + 1 → A2.heap[m]? = (A.alloc (Obj.cells #[Value.int IntKind.i64 qa, Value.int IntKind.i64 qt] 80)).heap[m]? := fun m hm => by rw [← hA2]; exact World.putObj_heap_other hm
        have rb0 : Row A2 w.heap.size R.A 76 := by unfold Row; rw [hsame _ (by omega)]; exact ((Q0.out.keeps HKP.out (by omega)).alloc _)
        have rba : Row A2 A.heap.size #[.int .i64 qa, .int .i64 qt] 80 := by unfold Row; rw [hsame _ (by omega)]; exact Row.new _ _ _
        have rbm : MapIs A2 mb n f := (((HM.out.of_same (QB.out.block mb hmlt)).of_same (HKP.out.block mb (by omega) (by omega))).of_same (Below.heap_alloc A _ mb (by omega))).of_same (hsame _ (by omega))
        have rbc : Row A2 (w.heap.size + 1 + 1) (boolsA acc2) 88 := by unfold Row; rw [hsame _ (by omega)]; exact HI.out.alloc _
        clear hsame hA2
        gi_wp2_with fail
        have e2 : ((placesL k).take (j + 1)).foldl (fun (c : List Bool) (p : Int × Int) => orL c (trailL R long p.1 p.2.toNat)) acc = orL acc2 (trailL R long qa qt.toNat) := by
          rw [List.take_add_one, HQJ.out, List.foldl_append, HACC2.out]; rfl
        have HE2 := Lib.hid e2
        clear e2
        refine region_invIn rfl (by kernel_rfl) (by kernel_rfl) (fun L a v => ∃ x19 x20 x21 x22 x23 x24 : Value, a = { tmps := #[.agg R.A, .slice (some ⟨b, o, none⟩) ks.length c, .pointer (some ⟨w.heap.size, 0, none⟩), undef, .pointer (some ⟨w.heap.size + 1, 0, none⟩), .pointer (some ⟨w.heap.size + 1 + 1, 0, none⟩), undef, .pointer (some ⟨wr.heap.size, 0, none⟩), .pointer (some ⟨A.heap.size, 0, none⟩), .slice (some ⟨b, o, none⟩) ks.length c, .int .i64 ks.length, .int .i64 i, .bool true, .pointer (some ⟨b, o + i * 4, none⟩), .agg #[.int .i64 k.al, .int .i64 k.ah, .int .i64 k.fl, .int .i64 k.fh], .agg #[.int .i64 k.al, .int .i64 k.ah, .int .i64 k.fl, .int .i64 k.fh], .agg #[.int .i64 k.al, .int .i64 k.ah, .int .i64 k.fl, .int .i64 k.fh], .func (.func 93) #[] #[.pointer (some ⟨wr.heap.size + 1, 0, none⟩)], placeV qa qt, x19, x20, x21, x22, x23, x24, u25, u26], defers := [] } ∧ Hid (L 0 = true → x19 = .agg (boolsA acc2)) ∧ Hid (L 1 = true → x20 = .pointer (some ⟨w.heap.size, 10, none⟩)) ∧ Hid (L 2 = true → x21 = .map (some mb)) ∧ Hid (L 3 = true → x22 = placeV qa qt) ∧ Hid (L 4 = true → x23 = cols (trailL R long qa qt.toNat)) ∧ Hid (L 5 = true → x24 = cols (orL acc2 (trailL R long qa qt.toNat))) ∧ Hid (Row v w.heap.size R.A 76) ∧ Hid (Row v A.heap.size #[.int .i64 qa, .int .i64 qt] 80) ∧ Hid (MapIs v mb n f) ∧ Hid (L 6 = false → Row v (w.heap.size + 1 + 1) (boolsA acc2) 88) ∧ Hid (L 6 = true → Row v (w.heap.size + 1 + 1) (boolsA (orL acc2 (trailL R long qa qt.toNat))) 88) ∧ Hid (L 6 = true → L 0 = true) ∧ Hid (KeepsBut (fun m => m = w.heap.size + 1 + 1) A2 v)) ?h0 ?steps ?hd
        case h0 => exact ⟨_, _, _, _, _, _, rfl, Lib.hid nofun, Lib.hid nofun, Lib.hid nofun, Lib.hid nofun, Lib.hid nofun, Lib.hid nofun, Lib.hid (rb0), Lib.hid (rba), Lib.hid (rbm), Lib.hid (fun _ => rbc), Lib.hid (nofun), Lib.hid (nofun), Lib.hid ((KeepsBut.refl _ _).drew)⟩
        case hd =>
          rintro L a v hL ⟨x19, x20, x21, x22, x23, x24, rfl, hf0, hf1, hf2, hf3, hf4, hf5, hr0, hra, hm, hrc, hrc2, hord, hk2⟩
          obtain rfl := hf0.out (hL 0 (by decide))
          obtain rfl := hf1.out (hL 1 (by decide))
          obtain rfl := hf2.out (hL 2 (by decide))
          obtain rfl := hf3.out (hL 3 (by decide))
          obtain rfl := hf4.out (hL 4 (by decide))
          obtain rfl := hf5.out (hL 5 (by decide))
          clear hf0
          clear hf1
          clear hf2
          clear hf3
          clear hf4
          clear hf5
          exact (show KeepsBut _ A2 v ∧ Row v (w.heap.size + 1 + 1) (boolsA (((placesL k).take (j + 1)).foldl (fun (c : List Bool) (p : Int × Int) => orL c (trailL R long p.1 p.2.toNat)) acc)) 88 from ⟨hk2.out, by rw [HE2.out]; exact hrc2.out (hL 6 (by decide))⟩)
        case steps =>
          refine ⟨?_, ?_, ?_, ?_, ?_, ?_, ?_, trivial⟩
          · rintro L a v hL hk ⟨x19, x20, x21, x22, x23, x24, rfl, hf0, hf1, hf2, hf3, hf4, hf5, hr0, hra, hm, hrc, hrc2, hord, hk2⟩ K hK
            have HK0 := Lib.hid hK
            clear hK
            have h6 : L 6 = false := by cases h7 : L 6; rfl; exact absurd (hord.out h7) (by simp [hk])
            refine wp_load_row 88 _ rfl _ rfl 88 _ (0, 0) _ (hrc.out h6) Try.underlying88 rfl (size88 HL2.out) ?_
            exact HK0.out _ _ ⟨_, _, _, _, _, _, rfl, Lib.hid (fun _ => rfl), Lib.hid (fun h => hf1.out (by simpa [upd] using h)), Lib.hid (fun h => hf2.out (by simpa [upd] using h)), Lib.hid (fun h => hf3.out (by simpa [upd] using h)), Lib.hid (fun h => hf4.out (by simpa [upd] using h)), Lib.hid (fun h => hf5.out (by simpa [upd] using h)), hr0, hra, hm, Lib.hid (fun h => hrc.out (by simpa [upd] using h)), Lib.hid (fun h => hrc2.out (by simpa [upd] using h)), Lib.hid (fun h => by have := hord.out (by simpa [upd] using h); simp [upd]; try exact this), hk2⟩
          · rintro L a v hL hk ⟨x19, x20, x21, x22, x23, x24, rfl, hf0, hf1, hf2, hf3, hf4, hf5, hr0, hra, hm, hrc, hrc2, hord, hk2⟩ K hK
            have HK0 := Lib.hid hK
            clear hK
            clear hL
            clear hk
            go_wp2
            exact HK0.out _ _ ⟨_, _, _, _, _, _, rfl, Lib.hid (fun h => hf0.out (by simpa [upd] using h)), Lib.hid (fun _ => rfl), Lib.hid (fun h => hf2.out (by simpa [upd] using h)), Lib.hid (fun h => hf3.out (by simpa [upd] using h)), Lib.hid (fun h => hf4.out (by simpa [upd] using h)), Lib.hid (fun h => hf5.out (by simpa [upd] using h)), hr0, hra, hm, Lib.hid (fun h => hrc.out (by simpa [upd] using h)), Lib.hid (fun h => hrc2.out (by simpa [upd] using h)), Lib.hid (fun h => by have := hord.out (by simpa [upd] using h); simp [upd]; try exact this), hk2⟩
          · rintro L a v hL hk ⟨x19, x20, x21, x22, x23, x24, rfl, hf0, hf1, hf2, hf3, hf4, hf5, hr0, hra, hm, hrc, hrc2, hord, hk2⟩ K hK
            have HK0 := Lib.hid hK
            clear hK
            obtain rfl := hf1.out (after_on hL 1 rfl)
            clear hL
            clear hk
            have c10 := hr0.out.cell 10 (R.a10 hs)
            rw [HMB.out] at c10
            go_wp2
            exact HK0.out _ _ ⟨_, _, _, _, _, _, rfl, Lib.hid (fun h => hf0.out (by simpa [upd] using h)), Lib.hid (fun _ => rfl), Lib.hid (fun _ => rfl), Lib.hid (fun h => hf3.out (by simpa [upd] using h)), Lib.hid (fun h => hf4.out (by simpa [upd] using h)), Lib.hid (fun h => hf5.out (by simpa [upd] using h)), hr0, hra, hm, Lib.hid (fun h => hrc.out (by simpa [upd] using h)), Lib.hid (fun h => hrc2.out (by simpa [upd] using h)), Lib.hid (fun h => by have := hord.out (by simpa [upd] using h); simp [upd]; try exact this), hk2⟩
          · rintro L a v hL hk ⟨x19, x20, x21, x22, x23, x24, rfl, hf0, hf1, hf2, hf3, hf4, hf5, hr0, hra, hm, hrc, hrc2, hord, hk2⟩ K hK
            have HK0 := Lib.hid hK
            clear hK
            clear hL
            clear hk
            refine wp_load_row 80 _ rfl _ rfl 80 _ (0, 0) _ hra.out Try.underlying80 rfl (by kernel_rfl) ?_
            exact HK0.out _ _ ⟨_, _, _, _, _, _, rfl, Lib.hid (fun h => hf0.out (by simpa [upd] using h)), Lib.hid (fun h => hf1.out (by simpa [upd] using h)), Lib.hid (fun h => hf2.out (by simpa [upd] using h)), Lib.hid (fun _ => rfl), Lib.hid (fun h => hf4.out (by simpa [upd] using h)), Lib.hid (fun h => hf5.out (by simpa [upd] using h)), hr0, hra, hm, Lib.hid (fun h => hrc.out (by simpa [upd] using h)), Lib.hid (fun h => hrc2.out (by simpa [upd] using h)), Lib.hid (fun h => by have := hord.out (by simpa [upd] using h); simp [upd]; try exact this), hk2⟩
          · rintro L a v hL hk ⟨x19, x20, x21, x22, x23, x24, rfl, hf0, hf1, hf2, hf3, hf4, hf5, hr0, hra, hm, hrc, hrc2, hord, hk2⟩ K hK
            have HK0 := Lib.hid hK
            clear hK
            obtain rfl := hf2.out (after_on hL 2 rfl)
            obtain rfl := hf3.out (after_on hL 3 rfl)
            clear hL
            clear hk
            refine wp_lookup' _ _ _ rfl mb _ rfl rfl _ (hm.out.look HIA.out HIT.out HTR.out) ?_
            exact HK0.out _ _ ⟨_, _, _, _, _, _, rfl, Lib.hid (fun h => hf0.out (by simpa [upd] using h)), Lib.hid (fun h => hf1.out (by simpa [upd] using h)), Lib.hid (fun _ => rfl), Lib.hid (fun _ => rfl), Lib.hid (fun _ => rfl), Lib.hid (fun h => hf5.out (by simpa [upd] using h)), hr0, hra, hm, Lib.hid (fun h => hrc.out (by simpa [upd] using h)), Lib.hid (fun h => hrc2.out (by simpa [upd] using h)), Lib.hid (fun h => by have := hord.out (by simpa [upd] using h); simp [upd]; try exact this), hk2⟩
          · rintro L a v hL hk ⟨x19, x20, x21, x22, x23, x24, rfl, hf0, hf1, hf2, hf3, hf4, hf5, hr0, hra, hm, hrc, hrc2, hord, hk2⟩ K hK
            have HK0 := Lib.hid hK
            clear hK
            obtain rfl := hf0.out (after_on hL 0 rfl)
            obtain rfl := hf4.out (after_on hL 4 rfl)
            clear hL
            clear hk
            go_wp2_with fail
            refine (with_any acc2 _ HL2.out (trailL_length _ _ _ _) _).mono ?_
            rintro e w1 ⟨rfl, hb1⟩
            exact HK0.out _ _ ⟨_, _, _, _, _, _, rfl, Lib.hid (fun _ => rfl), Lib.hid (fun h => hf1.out (by simpa [upd] using h)), Lib.hid (fun h => hf2.out (by simpa [upd] using h)), Lib.hid (fun h => hf3.out (by simpa [upd] using h)), Lib.hid (fun _ => rfl), Lib.hid (fun _ => rfl), Lib.hid (hr0.out.below hb1 hr0.out.lt), Lib.hid (hra.out.below hb1 hra.out.lt), Lib.hid (hm.out.of_same (hb1.block _ hm.out.lt)), Lib.hid (fun h => (hrc.out (by simpa [upd] using h)).below hb1 (hrc.out (by simpa [upd] using h)).lt), Lib.hid (fun h => (hrc2.out (by simpa [upd] using h)).below hb1 (hrc2.out (by simpa [upd] using h)).lt), Lib.hid (fun h => by have := hord.out (by simpa [upd] using h); simp [upd]; try exact this), Lib.hid (hk2.out.after hb1)⟩
          · rintro L a v hL hk ⟨x19, x20, x21, x22, x23, x24, rfl, hf0, hf1, hf2, hf3, hf4, hf5, hr0, hra, hm, hrc, hrc2, hord, hk2⟩ K hK
            have HK0 := Lib.hid hK
            clear hK
            obtain rfl := hf5.out (after_on hL 5 rfl)
            have hrz := hrc.out hk
            refine wp_store_row' 88 _ _ rfl _ _ _ _ rfl rfl hrz (size88 (orL_length HL2.out (trailL_length _ _ _ _))) (show (boolsA acc2).size = (boolsA (orL acc2 (trailL R long qa qt.toNat))).size by rw [boolsA_size, boolsA_size, HL2.out, orL_length HL2.out (trailL_length _ _ _ _)]) (boolsA_one _) ?_
            exact HK0.out _ _ ⟨_, _, _, _, _, _, rfl, Lib.hid (fun h => hf0.out (by simpa [upd] using h)), Lib.hid (fun h => hf1.out (by simpa [upd] using h)), Lib.hid (fun h => hf2.out (by simpa [upd] using h)), Lib.hid (fun h => hf3.out (by simpa [upd] using h)), Lib.hid (fun h => hf4.out (by simpa [upd] using h)), Lib.hid (fun _ => rfl), Lib.hid (hr0.out.setRow_other _ (by omega)), Lib.hid (hra.out.setRow_other _ (by have := hAz; omega)), Lib.hid (hm.out.of_same (_root_.Go.setRow_other _ _ _ _ (by omega))), Lib.hid (fun h => by simp [upd] at h), Lib.hid (fun _ => hrz.setRow _), Lib.hid (fun _ => by rw [upd_other _ (by decide)]; exact after_on hL 0 rfl), Lib.hid (hk2.out.setRow (.inl rfl) _)⟩
      case done =>
        intro W3 hI hkeep hsz hD
        have hI : Row W3 (w.heap.size + 1 + 1) (boolsA (((placesL k).take ((placesL k).map fun q => #[placeV q.1 q.2]).length).foldl (fun (c : List Bool) (p : Int × Int) => orL c (trailL R long p.1 p.2.toNat)) acc)) 88 := hI
        rw [List.length_map, List.take_length] at hI
        have hmarks := QMK.out.push hkeep (fun m oo hm h => by subst hm; have := Q2.out; unfold Row at this; rw [this] at h; cases h) (by omega) hD
        have H0 := Lib.hid (Q0.out.keeps hkeep (by omega))
        have H1 := Lib.hid (Q1.out.keeps hkeep (by omega))
        have H2 := Lib.hid hI
        have H3 := Lib.hid hmarks
        have H4 := Lib.hid (QB.out.trans (hkeep.below (by omega) (fun m hm => by omega)))
        clear hI hkeep hD hmarks
        go_wp2
        refine ⟨⟨i + 1, _, _, _, _, _, _, _, _, _, _, _, _, _, _, _, _, _, _, by rw [show ((i + 1 : Nat) : Int) = (i : Int) + 1 by omega], by omega, H0.out, H1.out, ?_, H3.out, H4.out⟩, ?_⟩
        · rw [List.take_succ_eq_append_getElem hlt, List.foldl_append, HACC.out, HKK.out]; exact H2.out
        · simp [intOf]; omega
      case stop => intro c W3 h; exact h.elim
    · have e : i = ks.length := by omega
      have HE := Lib.hid (show reachL R long ks = acc by rw [← HACC.out, e, List.take_length]; rfl)
      have HZ := Lib.hid (show Try.zeroCells88.size = (boolsA acc).size by rw [zero88, boolsA_size, boolsA_size, hlen, List.length_replicate])
      clear e
      go_wp2_with (first | (refine load_row rfl 88 _ rfl _ rfl 88 _ _ R2.out Try.underlying88 rfl (size88 hlen) ?_) | (refine store_row rfl 88 _ _ rfl _ _ _ _ rfl rfl R1.out (size88 hlen) HZ.out (boolsA_one _) ?_))
      have hr2 := R1.out.setRow (boolsA acc)
      have hmk := HMK.out.same (B := wr.setRow (w.heap.size + 1) (boolsA acc)) (fun m o h => _root_.Go.setRow_other _ _ _ _ (fun e => by subst e; have := R1.out; unfold Row at this; rw [this] at h; cases h))
      have hbb := below_setRow HB.out (show w.heap.size ≤ w.heap.size + 1 by omega) (boolsA acc)
      refine marks_leave hmk (fun B2 hB2 => ?_)
      have hr3 : Row B2 (w.heap.size + 1) (boolsA acc) 88 := by unfold Row; rw [hB2.rest _ (fun o h => by unfold Row at hr2; rw [hr2] at h; cases h)]; exact hr2
      refine ⟨_, results_cell_row Try.results68 _ _ _ _ _ _ _ rfl hr3 Try.underlying88 rfl (size88 hlen), ?_⟩
      exact ⟨by rw [cols_def, HE.out], hbb.trans hB2.below⟩

end Go.Proofs.Ytnnlbbmimdohoaa
