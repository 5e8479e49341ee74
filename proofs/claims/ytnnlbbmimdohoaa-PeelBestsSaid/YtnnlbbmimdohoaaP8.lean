/- The walks of layer 1: all truths of a ribbon, one by one. -/
import Derived.Test.YtnnlbbmimdohoaaP7
namespace Go.Proofs.Ytnnlbbmimdohoaa
open Go.RowKit Go.Maps
attribute [local go_sem] Oper.semAt_some

/-- The truths: for each the columns that have a knot, knot by knot. -/
def truthsL (R : Rib) (long : List Int) : List K4 → List Bool → List (List Bool)
  | [], kn => [kn]
  | k :: ks, kn => (placesL k).flatMap fun p => truthsL R long ks (orL kn (trailL R long p.1 p.2.toNat))
/-- What of memory the search for truths reads. -/
structure Env (R : Rib) (ks : List K4) (M : Nat → Prop) (W : World) (l rb yb pb mb nn : Nat) (f : Int → Int → Option (List Bool)) (A : World) : Prop where
  r : Row A rb R.A 76
  y : Row A yb #[.func (.yield l) #[] #[]] 118
  p : Row A pb #[.func (.func 86) #[] #[.pointer (some ⟨rb, 0, none⟩), .pointer (some ⟨yb, 0, none⟩), .pointer (some ⟨pb, 0, none⟩)]] 119
  m : MapIs A mb nn f
  k : KnotsAt A R.p2 ks
  keep : KeepsBut M W A
/-- What the rounds may change is none of it. -/
structure Off (R : Rib) (ks : List K4) (M : Nat → Prop) (W : World) (rb yb pb mb : Nat) : Prop where
  lt : ∀ m, M m → m < W.heap.size
  r : ¬ M rb
  m : ¬ M mb
  k : ks ≠ [] → ∀ b o, R.p2 = some ⟨b, o, none⟩ → ¬ M b
  y : W.heap.size ≤ yb
  p : W.heap.size ≤ pb
theorem KnotsAt.keeps {M : Nat → Prop} {A B : World} {p : Option Addr} {ks : List K4} (h : KnotsAt A p ks) (hk : KeepsBut M A B) (hM : ks ≠ [] → ∀ b o, p = some ⟨b, o, none⟩ → ¬ M b) : KnotsAt B p ks := by
  intro i hi
  obtain ⟨b, o, hp, h0, h1, h2, h3⟩ := h i hi
  have hs : B.heap[b]? = A.heap[b]? := hk.block b (cell_block h0) (hM (by rintro rfl; simp at hi) b o hp)
  exact ⟨b, o, hp, (World.cell?_of_block (a := ⟨b, _, none⟩) hs).trans h0, (World.cell?_of_block (a := ⟨b, _, none⟩) hs).trans h1, (World.cell?_of_block (a := ⟨b, _, none⟩) hs).trans h2, (World.cell?_of_block (a := ⟨b, _, none⟩) hs).trans h3⟩
theorem Env.keeps {R : Rib} {ks : List K4} {M : Nat → Prop} {W A B : World} {l rb yb pb mb nn : Nat} {f : Int → Int → Option (List Bool)} (h : Env R ks M W l rb yb pb mb nn f A) (ho : Off R ks M W rb yb pb mb) (hk : KeepsBut M A B) : Env R ks M W l rb yb pb mb nn f B :=
  ⟨h.r.keeps hk ho.r, h.y.keeps hk (fun e => by have := ho.lt _ e; have := ho.y; omega), h.p.keeps hk (fun e => by have := ho.lt _ e; have := ho.p; omega), h.m.of_same (hk.block _ h.m.lt ho.m), h.k.keeps hk ho.k, h.keep.trans hk⟩
theorem Env.below {R : Rib} {ks : List K4} {M : Nat → Prop} {W A B : World} {l rb yb pb mb nn : Nat} {f : Int → Int → Option (List Bool)} (h : Env R ks M W l rb yb pb mb nn f A) (hb : Below A.heap.size A B) : Env R ks M W l rb yb pb mb nn f B :=
  ⟨h.r.below hb h.r.lt, h.y.below hb h.y.lt, h.p.below hb h.p.lt, h.m.of_same (hb.block _ h.m.lt), h.k.below hb, h.keep.after hb⟩
theorem Stable.mono {n n' : Nat} {J : World → Prop} (h : Stable n J) (hn : n ≤ n') : Stable n' J := fun A B hA hb => h A B hA (hb.mono hn)

theorem flat_at {α β : Type} (g : α → List β) {l : List α} {j : Nat} {q : α} (h : l[j]? = some q) (t : Nat) (ht : t < (g q).length) : (l.flatMap g)[((l.take j).flatMap g).length + t]? = (g q)[t]? := by
  obtain ⟨hj, rfl⟩ := List.getElem?_eq_some_iff.1 h
  have e : l.flatMap g = (l.take j).flatMap g ++ (g l[j] ++ (l.drop (j + 1)).flatMap g) := by
    rw [← List.flatMap_cons, ← List.drop_eq_getElem_cons hj, ← List.flatMap_append, List.take_append_drop]
  rw [e, List.getElem?_append_right (by omega), Nat.add_sub_cancel_left, List.getElem?_append_left ht]
theorem take_flat {α β : Type} (g : α → List β) {l : List α} {j : Nat} {q : α} (h : l[j]? = some q) : ((l.take (j + 1)).flatMap g).length = ((l.take j).flatMap g).length + (g q).length := by
  rw [List.take_add_one, h]; simp [List.flatMap_append]
theorem Env.keepsT {R : Rib} {ks : List K4} {M : Nat → Prop} {W A w2 B : World} {l rb yb pb mb nn t : Nat} {f : Int → Int → Option (List Bool)} (h : Env R ks M W l rb yb pb mb nn f A) (ho : Off R ks M W rb yb pb mb) (ht : A.heap.size ≤ t) (hb : Below A.heap.size A w2) (hk : KeepsBut (fun m => M m ∨ m = t) w2 B) : Env R ks M W l rb yb pb mb nn f B := by
  have hAB : KeepsBut (fun m => M m ∨ m = t) A B := (KeepsBut.of_below hb).trans hk
  have hl := h.keep.size
  refine ⟨h.r.keeps hAB ?_, h.y.keeps hAB ?_, h.p.keeps hAB ?_, h.m.of_same (hAB.block _ h.m.lt ?_), ?_, ?_⟩
  · rintro (e | e); exact ho.r e; have := h.r.lt; omega
  · rintro (e | e); (have := ho.lt _ e; have := ho.y; omega); have := h.y.lt; omega
  · rintro (e | e); (have := ho.lt _ e; have := ho.p; omega); have := h.p.lt; omega
  · rintro (e | e); exact ho.m e; have := h.m.lt; omega
  · intro i hi
    obtain ⟨b, o, hp, h0, h1, h2, h3⟩ := h.k i hi
    have hlt : b < A.heap.size := cell_block h0
    have hs : B.heap[b]? = A.heap[b]? := hAB.block b hlt (by rintro (e | e); exact ho.k (by rintro rfl; simp at hi) b o hp e; omega)
    exact ⟨b, o, hp, (World.cell?_of_block (a := ⟨b, _, none⟩) hs).trans h0, (World.cell?_of_block (a := ⟨b, _, none⟩) hs).trans h1, (World.cell?_of_block (a := ⟨b, _, none⟩) hs).trans h2, (World.cell?_of_block (a := ⟨b, _, none⟩) hs).trans h3⟩
  · refine ⟨hAB.os.trans h.keep.os, hAB.tape.trans h.keep.tape, hAB.output.trans h.keep.output, by have := hAB.size; omega, fun m hm hn => ?_⟩
    rw [hAB.block m (by omega) (by rintro (e | e); exact hn e; omega), h.keep.block m hm hn]

theorem KeepsBut.tail {M : Nat → Prop} {A w2 B : World} {t : Nat} (hb : Below A.heap.size A w2) (hk : KeepsBut (fun m => M m ∨ m = t) w2 B) (ht : A.heap.size ≤ t) : KeepsBut M A B :=
  ⟨hk.os.trans hb.os, hk.tape.trans hb.tape, hk.output.trans hb.output, Nat.le_trans hb.size hk.size, fun k hk' hn => (hk.block k (Nat.lt_of_lt_of_le hk' hb.size) (by rintro (e | e); exact hn e; omega)).trans (hb.block k hk')⟩
theorem KeepsBut.after' {M : Nat → Prop} {A B C : World} (h : KeepsBut M A B) (k : Below A.heap.size B C) : KeepsBut M A C :=
  ⟨k.os.trans h.os, k.tape.trans h.tape, k.output.trans h.output, Nat.le_trans h.size k.size, fun i hi hm => (k.block i hi).trans (h.block i hi hm)⟩
/-- How many truths the first places of a knot give. -/
def offL (R : Rib) (long : List Int) (ks : List K4) (kn : List Bool) (l : List (Int × Int)) (j : Nat) : Nat := ((l.take j).flatMap fun (q : Int × Int) => truthsL R long ks (orL kn (trailL R long q.1 q.2.toNat))).length
/-- What a call of the search comes to. -/
def PutPost (M : Nat → Prop) (J : Nat → World → Prop) (Jx : World → Prop) (A : World) (n : Nat) (e : Ending) (B : World) : Prop :=
  KeepsBut M A B ∧ ((e = .returned (.bool true) ∧ J n B) ∨ (e = .returned (.bool false) ∧ Jx B))

set_option maxRecDepth 10000 in
set_option maxHeartbeats 1600000 in
theorem put_any (R : Rib) (long : List Int) (ks : List K4) (hs : R.s.length = 6) (hn2 : R.n2 = ks.length) (h3 : ks.length ≤ 3) (hko : ∀ k ∈ ks, K4Ok k) (M : Nat → Prop) (W : World) (l rb yb pb mb nn : Nat) (f : Int → Int → Option (List Bool))
    (ho : Off R ks M W rb yb pb mb) (hmb : R.mb = some mb) (ht : Trails R long ks f) (J : Nat → World → Prop) (Jx : World → Prop) (hJ : ∀ k, Stable W.heap.size (J k)) (hJx : Stable W.heap.size Jx)
    (xs : List (Array Value)) (hY : ∀ k x A, xs[k]? = some x → J k A → KeepsBut M W A → YieldAt Fence.wide 0 Try.prog l x A fun e B => PutPost M J Jx A (k + 1) e B) :
    ∀ (ks' : List K4) (i n : Nat) (kn : List Bool) (A : World), ks = ks.take i ++ ks' → i + ks'.length = ks.length → kn.length = 72 → (∀ j, j < (truthsL R long ks' kn).length → xs[n + j]? = some #[cols ((truthsL R long ks' kn).getD j [])]) →
      Env R ks M W l rb yb pb mb nn f A → J n A →
      Calls Try.prog 86 #[.int .i64 i, cols kn, .pointer (some ⟨rb, 0, none⟩), .pointer (some ⟨yb, 0, none⟩), .pointer (some ⟨pb, 0, none⟩)] A (PutPost M J Jx A (n + (truthsL R long ks' kn).length)) := by
  intro ks'
  induction ks' with
  | nil =>
    intro i n kn A hk hi hkn hxs hE hJn
    simp only [List.length_nil, Nat.add_zero] at hi
    have hx := hxs 0 (by simp [truthsL])
    rw [Nat.add_zero] at hx
    obtain ⟨fn, tmps, assign, body, hy, hR⟩ := hY n _ ((((A.alloc (.cells #[.int .i64 i] 3)).alloc (.cells (boolsA kn) 88)).alloc (.cells #[.bool false] 4))) hx (hJ n _ _ hJn ((((Below.refl _ _).alloc (by have := hE.keep.size; omega) _).alloc (by have := hE.keep.size; simp; omega) _).alloc (by have := hE.keep.size; simp; omega) _)) (hE.keep.after (((below_alloc _ _).alloc (by simp) _).alloc (by simp; omega) _))
    have hy : (Instr.yield l #[cols kn]).run Try.prog _ = _ := hy
    have HR := Lib.hid hR
    have hE2 := hE.below (((below_alloc A (.cells #[.int .i64 i] 3)).alloc (by simp) (.cells (boolsA kn) 88)).alloc (by simp; omega) (.cells #[.bool false] 4))
    have r2 := hE2.r.cell 2 R.a2
    rw [hn2] at r2
    have y0 := hE2.y.cell 0 (v := .func (.yield l) #[] #[]) rfl
    have HE := Lib.hid hE2
    have HJN := Lib.hid hJn
    have hie : ((i : Int) == (ks.length : Int)) = true := by simp; omega
    have HSA := Lib.hid hE.keep.size
    have hlt1 := hE.r.lt
    have hlt2 := hE.y.lt
    rw [cols_def] at *
    clear hE hE2 hR hxs hx hJn hi hk hn2
    go_enter Try.func86, Try.ntmps86
    go_upto_region 2 with (fail)
    refine (wpIn_wide (n := 1)).1 ?_
    gi_wp2_with (first | (refine load_rowIn rfl 88 _ rfl _ rfl 88 _ _ ((Row.new' (by simp) _ _).alloc _) Try.underlying88 rfl (size88 hkn) ?_))
    have hsz := HE.out.keep.size
    simp only [World.size_alloc] at hsz
    have hszA := HSA.out
    refine HR.out.mono ?_
    have rr := Row.new (((A.alloc (.cells #[.int .i64 i] 3)).alloc (.cells (boolsA kn) 88))) #[.bool false] 4
    simp only [World.size_alloc] at rr
    have hk0 := Lib.hid (KeepsBut.of_below (M := M) (((below_alloc A (.cells #[.int .i64 i] 3)).alloc (by simp) (.cells (boolsA kn) 88)).alloc (by simp; omega) (.cells #[.bool false] 4)))
    rintro e B ⟨hkB, (⟨rfl, hJ1⟩ | ⟨rfl, hJx1⟩)⟩
    · have rB := rr.keeps hkB (fun e => by have := ho.lt _ e; omega)
      have c0 := rB.cell 0 (v := .bool false) rfl
      have f0 := rB.free 0
      have hres := (rB.set 0 (.bool true)).cell 0 (v := .bool true) rfl
      have HKB := Lib.hid (hk0.out.trans hkB)
      have HJ1 := Lib.hid hJ1
      clear hkB hJ1 hy rr rB
      gi_wp2
      go_wp2
      refine bodyPost_ret (v := .bool true) (by simp [results, Try.results86, go_sem, hres]) rfl ⟨HKB.out.setCell (.inr (by dsimp only; omega)) _, .inl ⟨rfl, ?_⟩⟩
      exact hJ _ _ _ HJ1.out ((Below.refl _ _).setCell (by dsimp only; omega) _)
    · have rB := rr.keeps hkB (fun e => by have := ho.lt _ e; omega)
      have c0 := rB.cell 0 (v := .bool false) rfl
      have f0 := rB.free 0
      have hres := (rB.set 0 (.bool false)).cell 0 (v := .bool false) rfl
      have HKB := Lib.hid (hk0.out.trans hkB)
      have HJ1 := Lib.hid hJx1
      clear hkB hJx1 hy rr rB
      gi_wp2
      go_wp2
      refine bodyPost_ret (v := .bool false) (by simp [results, Try.results86, go_sem, hres]) rfl ⟨HKB.out.setCell (.inr (by dsimp only; omega)) _, .inr ⟨rfl, ?_⟩⟩
      exact hJx _ _ HJ1.out ((Below.refl _ _).setCell (by dsimp only; omega) _)
  | cons k ks' ih =>
    intro i n kn A hk hi hkn hxs hE hJn
    simp only [List.length_cons] at hi
    have hlt : i < ks.length := by omega
    have hki : ks[i] = k := by
      have h : ks[i]? = (ks.take i ++ k :: ks')[i]? := by rw [← hk]
      rw [List.getElem?_append_right (by rw [List.length_take]; omega), List.length_take, Nat.min_eq_left (by omega), Nat.sub_self, List.getElem?_eq_getElem hlt] at h
      simpa using h
    have hko' := hko k (by rw [← hki]; exact List.getElem_mem _)
    have HT1 := Lib.hid (show ks = ks.take (i + 1) ++ ks' by rw [List.take_succ_eq_append_getElem hlt, hki, List.append_assoc]; exact hk)
    have HT2 := Lib.hid (show i + 1 + ks'.length = ks.length by omega)
    have HKI := Lib.hid hki
    have HXS := Lib.hid hxs
    have HMB := Lib.hid hmb
    have HSA := Lib.hid hE.keep.size
    have hbA := (((below_alloc A (.cells #[.int .i64 i] 3)).alloc (by simp) (.cells (boolsA kn) 88)).alloc (by simp; omega) (.cells #[.bool false] 4))
    have hE2 := hE.below hbA
    have r2 := hE2.r.cell 2 R.a2
    rw [hn2] at r2
    obtain ⟨b, o, hpe, k0, k1, k2, k3⟩ := hE2.k i hlt
    rw [hki] at k0 k1 k2 k3
    rw [hpe] at r2
    have HPE := Lib.hid hpe
    have hie : ((i : Int) == (ks.length : Int)) = false := by simp; omega
    have HE := Lib.hid hE
    have HJN := Lib.hid hJn
    have hlt1 := hE.r.lt
    have hbl := cell_block k0
    simp only [World.size_alloc] at hbl
    have hblA : b < A.heap.size := by
      obtain ⟨b', o', e', c', _⟩ := hE.k i hlt
      rw [hpe] at e'; cases e'; exact cell_block c'
    rw [cols_def] at *
    clear hE hE2 hxs hJn hk hi hmb hki hpe
    refine calls_marks Try.func86 rfl ?_
    simp only [Try.ntmps86, List.size_toArray, List.length_cons, List.length_nil, Nat.reduceAdd, Nat.reduceSub, Array.replicate_succ, Array.replicate_zero, List.push_toArray, List.append_toArray, List.nil_append, List.cons_append]
    go_wp2_with fail
    refine (places_any k _).mono ?_
    rintro e w1 ⟨rfl, rfl⟩
    clear k0 k1 k2 k3 r2
    go_wp2_with fail
    generalize hW2 : ((((A.alloc (.cells #[.int .i64 i] 3)).alloc (.cells (boolsA kn) 88)).alloc (.cells #[.bool false] 4))).alloc (.cells k.A 113) = w2
    have hB2 : Below A.heap.size A w2 := by rw [← hW2]; exact hbA.alloc (by simp; omega) _
    have hs2 : A.heap.size + 4 ≤ w2.heap.size := by rw [← hW2]; simp
    have rK : Row w2 (A.heap.size + 1 + 1 + 1) k.A 113 := by rw [← hW2]; exact Row.new' (by simp) _ _
    have Q5 : Row w2 A.heap.size #[.int .i64 i] 3 := by rw [← hW2]; exact (((Row.new _ _ _).alloc _).alloc _).alloc _
    have Q6 : Row w2 (A.heap.size + 1) (boolsA kn) 88 := by rw [← hW2]; exact ((Row.new' (by simp) _ _).alloc _).alloc _
    have Q7 : Row w2 (A.heap.size + 1 + 1) #[.bool false] 4 := by rw [← hW2]; exact (Row.new' (by simp) _ _).alloc _
    clear hW2 hbA
    refine range_law 93 #[.pointer (some ⟨A.heap.size + 1 + 1 + 1, 0, none⟩)] (fun m => m = A.heap.size + 1 + 1 + 1) ((placesL k).map fun q => #[placeV q.1 q.2]) rfl (fun args w => Try.call93 args w)
      (fun W1 hb _ => places1_iter k hko' _ W1 (rK.below hb (by omega))) (by intro x hx; simp at hx; obtain ⟨_, _, _, rfl⟩ := hx; rfl) (fun m => M m ∨ m = A.heap.size + 1 + 1) (by have := HSA.out; rintro m (hm | rfl); (have := ho.lt _ hm; exact ⟨by omega, by omega⟩); exact ⟨by omega, by omega⟩) (by omega)
      (fun j B => J (n + (offL R long ks' kn (placesL k) j)) B ∧ Row B (A.heap.size + 1 + 1) #[.bool false] 4) (fun c B => c = .ret ∧ Jx B ∧ Row B (A.heap.size + 1 + 1) #[.bool false] 4) (fun j B C h hb => ⟨hJ _ _ _ h.1 (hb.mono (by have := HSA.out; omega)), h.2.below hb (by omega)⟩) (fun c B C h hb => ⟨h.1, hJx _ _ h.2.1 (hb.mono (by have := HSA.out; omega)), h.2.2.below hb (by omega)⟩) ⟨hJ _ _ _ HJN.out (hB2.mono HSA.out), Q7⟩ ?body ?done ?stop
    case body =>
      rintro l' j x D rfl hx hI hkeep hlA
      obtain ⟨⟨qa, qt⟩, hq, rfl⟩ : ∃ q : Int × Int, (placesL k)[j]? = some q ∧ x = #[placeV q.1 q.2] := by
        rw [List.getElem?_map] at hx
        cases hq : (placesL k)[j]? with
        | none => rw [hq] at hx; cases hx
        | some q => rw [hq] at hx; cases hx; exact ⟨q, rfl, rfl⟩
      have hmem : (qa, qt) ∈ placesL k := List.mem_of_getElem? hq
      have hrng := placesL_range hko' hmem
      have HTR := Lib.hid (ht k (by rw [← HKI.out]; exact List.getElem_mem _) _ hmem)
      have HIA := Lib.hid (show I64 qa from ⟨by omega, by omega⟩)
      have HIT := Lib.hid (show I64 qt from ⟨by omega, by omega⟩)
      have HE2 : Hid ((offL R long ks' kn (placesL k) (j + 1)) = (offL R long ks' kn (placesL k) j) + (truthsL R long ks' (orL kn (trailL R long qa qt.toNat))).length) := Lib.hid (take_flat (fun (q : Int × Int) => truthsL R long ks' (orL kn (trailL R long q.1 q.2.toNat))) hq)
      have hflat : ∀ t, t < (truthsL R long ks' (orL kn (trailL R long qa qt.toNat))).length → (truthsL R long (k :: ks') kn)[(offL R long ks' kn (placesL k) j) + t]? = (truthsL R long ks' (orL kn (trailL R long qa qt.toNat)))[t]? := fun t ht => flat_at (fun (q : Int × Int) => truthsL R long ks' (orL kn (trailL R long q.1 q.2.toNat))) hq t ht
      have HT3 : Hid (∀ t, t < (truthsL R long ks' (orL kn (trailL R long qa qt.toNat))).length → xs[n + (offL R long ks' kn (placesL k) j) + t]? = some #[cols ((truthsL R long ks' (orL kn (trailL R long qa qt.toNat))).getD t [])]) := by
        refine Lib.hid fun t ht' => ?_
        have h1 := hflat t ht'
        obtain ⟨h2, h3⟩ := List.getElem?_eq_some_iff.1 (h1.trans (List.getElem?_eq_getElem ht'))
        have h4 := HXS.out _ h2
        rw [Nat.add_assoc, h4]
        have h5 : ((truthsL R long (k :: ks') kn).getD ((offL R long ks' kn (placesL k) j) + t) []) = (truthsL R long ks' (orL kn (trailL R long qa qt.toNat))).getD t [] := by
          rw [List.getD_eq_getElem?_getD, List.getD_eq_getElem?_getD]
          exact congrArg (fun o => o.getD []) h1
        rw [h5]
      generalize (offL R long ks' kn (placesL k) j) = off0 at hI HE2 HT3
      have HI := Lib.hid hI
      have HKP := Lib.hid hkeep
      clear hx hq hI hkeep hmem hflat
      unfold placeV
      gi_wp2
      refine ⟨(KeepsBut.refl _ _).alloc _, fun oo => ?_⟩
      have hAz : w2.heap.size + 1 < D.heap.size := hlA
      have HDA := Lib.hid (show A.heap.size ≤ D.heap.size by omega)
      generalize hA2 : (D.alloc (Obj.cells #[Value.int IntKind.i64 qa, Value.int IntKind.i64 qt] 80)).putObj (w2.heap.size + 1) oo = A2
      have hsame : ∀ m, m ≠ w2.heap.size + 1 → A2.heap[m]? = (D.alloc (Obj.cells #[Value.int IntKind.i64 qa, Value.int IntKind.i64 qt] 80)).heap[m]? := fun m hm => by rw [← hA2]; exact World.putObj_heap_other hm
      have hk2A : KeepsBut (fun m => M m ∨ m = A.heap.size + 1 + 1) w2 A2 := by rw [← hA2]; exact (HKP.out.alloc _).putObj (.inr (by omega)) _
      have hDA2 : Below W.heap.size D A2 := by rw [← hA2]; exact ((below_alloc D _).mono (by have := HSA.out; omega)).trans (below_putObj _ _ _ (by have := HSA.out; omega))
      have rbe := HE.out.keepsT ho (show A.heap.size ≤ A.heap.size + 1 + 1 by omega) hB2 hk2A
      have rb5 : Row A2 A.heap.size #[.int .i64 i] 3 := Q5.keeps hk2A (by have := HSA.out; rintro (e | e); (have := ho.lt _ e; omega); omega)
      have rb6 : Row A2 (A.heap.size + 1) (boolsA kn) 88 := Q6.keeps hk2A (by have := HSA.out; rintro (e | e); (have := ho.lt _ e; omega); omega)
      have rb7 : Row A2 (A.heap.size + 1 + 1) #[.bool false] 4 := by unfold Row; rw [hsame _ (by omega)]; exact HI.out.2.alloc _
      have rba : Row A2 D.heap.size #[.int .i64 qa, .int .i64 qt] 80 := by unfold Row; rw [hsame _ (by omega)]; exact Row.new _ _ _
      have rbJ := hJ _ _ _ HI.out.1 hDA2
      have rbsz : W.heap.size ≤ A2.drew.heap.size := by have := HSA.out; have := hk2A.size; show W.heap.size ≤ A2.heap.size; omega
      clear hsame hA2 hk2A hDA2 HKP HI HKI HXS HJN HE Q5 Q6 Q7 rK
      gi_wp2_with fail
      refine region_invIn rfl (by kernel_rfl) (by kernel_rfl) (fun L a v => ∃ x27 x28 x29 x30 x31 x32 x33 x34 x35 x36 x37 : Value, a = { tmps := #[.int .i64 i, .agg (boolsA kn), .pointer (some ⟨rb, 0, none⟩), .pointer (some ⟨yb, 0, none⟩), .pointer (some ⟨pb, 0, none⟩), .pointer (some ⟨A.heap.size, 0, none⟩), .pointer (some ⟨A.heap.size + 1, 0, none⟩), .pointer (some ⟨A.heap.size + 1 + 1, 0, none⟩), .pointer (some ⟨D.heap.size, 0, none⟩), .int .i64 i, .pointer (some ⟨rb, 0, none⟩), .pointer (some ⟨rb, 2, none⟩), .slice (some ⟨b, o, none⟩) ks.length R.c2, .int .i64 ks.length, .bool false, undef, undef, undef, .pointer (some ⟨rb, 0, none⟩), .pointer (some ⟨rb, 2, none⟩), .slice (some ⟨b, o, none⟩) ks.length R.c2, .int .i64 i, .pointer (some ⟨b, o + i * 4, none⟩), .agg #[.int .i64 k.al, .int .i64 k.ah, .int .i64 k.fl, .int .i64 k.fh], .agg #[.int .i64 k.al, .int .i64 k.ah, .int .i64 k.fl, .int .i64 k.fh], .func (.func 93) #[] #[.pointer (some ⟨A.heap.size + 1 + 1 + 1, 0, none⟩)], placeV qa qt, x27, x28, x29, x30, x31, x32, x33, x34, x35, x36, x37], defers := [] } ∧ Hid (L 0 = true → x27 = .func (.func 86) #[] #[.pointer (some ⟨rb, 0, none⟩), .pointer (some ⟨yb, 0, none⟩), .pointer (some ⟨pb, 0, none⟩)]) ∧ Hid (L 1 = true → x28 = .int .i64 i) ∧ Hid (L 2 = true → x29 = .int .i64 ((i : Int) + 1)) ∧ Hid (L 3 = true → x30 = .agg (boolsA kn)) ∧ Hid (L 4 = true → x31 = .pointer (some ⟨rb, 10, none⟩)) ∧ Hid (L 5 = true → x32 = .map (some mb)) ∧ Hid (L 6 = true → x33 = placeV qa qt) ∧ Hid (L 7 = true → x34 = cols (trailL R long qa qt.toNat)) ∧ Hid (L 8 = true → x35 = cols (orL kn (trailL R long qa qt.toNat))) ∧ Hid (L 9 = false → Env R ks M W l rb yb pb mb nn f v) ∧ Hid (Row v A.heap.size #[.int .i64 i] 3) ∧ Hid (Row v (A.heap.size + 1) (boolsA kn) 88) ∧ Hid (Row v (A.heap.size + 1 + 1) #[.bool false] 4) ∧ Hid (Row v D.heap.size #[.int .i64 qa, .int .i64 qt] 80) ∧ Hid (L 9 = false → J (n + off0) v) ∧ Hid (L 9 = true → ((x36 = .bool true ∧ J ((n + off0) + (truthsL R long ks' (orL kn (trailL R long qa qt.toNat))).length) v) ∨ (x36 = .bool false ∧ Jx v))) ∧ Hid (L 10 = true → L 9 = true ∧ ∃ b : Bool, x36 = .bool b ∧ x37 = .bool (!b)) ∧ Hid (L 9 = true → L 0 = true ∧ L 5 = true ∧ L 7 = true) ∧ Hid (L 7 = true → L 5 = true) ∧ Hid (L 8 = true → L 7 = true) ∧ Hid (KeepsBut M A2 v) ∧ Hid (W.heap.size ≤ v.heap.size)) ?h0 ?steps ?hd
      case h0 => exact ⟨_, _, _, _, _, _, _, _, _, _, _, rfl, Lib.hid nofun, Lib.hid nofun, Lib.hid nofun, Lib.hid nofun, Lib.hid nofun, Lib.hid nofun, Lib.hid nofun, Lib.hid nofun, Lib.hid nofun, Lib.hid (fun _ => rbe.below (Below.refl _ _).drew), Lib.hid (rb5), Lib.hid (rb6), Lib.hid (rb7), Lib.hid (rba), Lib.hid (fun _ => hJ _ _ _ rbJ (Below.refl _ _).drew), Lib.hid (nofun), Lib.hid (nofun), Lib.hid (nofun), Lib.hid (nofun), Lib.hid (nofun), Lib.hid ((KeepsBut.refl _ _).drew), Lib.hid (rbsz)⟩
      case hd =>
        rintro L a v hL ⟨x27, x28, x29, x30, x31, x32, x33, x34, x35, x36, x37, rfl, hf0, hf1, hf2, hf3, hf4, hf5, hf6, hf7, hf8, he, h5, h6, h7, hra, hj, h36, h37, hord, ho7, ho8, hk2, hsz⟩
        obtain rfl := hf0.out (hL 0 (by decide))
        obtain rfl := hf1.out (hL 1 (by decide))
        obtain rfl := hf2.out (hL 2 (by decide))
        obtain rfl := hf3.out (hL 3 (by decide))
        obtain rfl := hf4.out (hL 4 (by decide))
        obtain rfl := hf5.out (hL 5 (by decide))
        obtain rfl := hf6.out (hL 6 (by decide))
        obtain rfl := hf7.out (hL 7 (by decide))
        obtain rfl := hf8.out (hL 8 (by decide))
        clear hf0
        clear hf1
        clear hf2
        clear hf3
        clear hf4
        clear hf5
        clear hf6
        clear hf7
        clear hf8
        obtain ⟨_, bv, hb36, hb37⟩ := h37.out (hL 10 (by decide))
        have hor := h36.out (hL 9 (by decide))
        subst hb37
        clear h37 hord hj he hL
        cases bv
        · rcases hor with ⟨h1, _⟩ | ⟨_, hjx⟩
          · rw [hb36] at h1; cases h1
          · have HJX := Lib.hid hjx
            have c7 := h7.out.cell 0 (v := .bool false) rfl
            have f7 := h7.out.free 0
            clear hjx hb36 h36
            gi_wp2
            have hrow := h7.out.set 0 (.bool false)
            exact (show KeepsBut _ A2 _ ∧ (Code.ret = Code.ret ∧ Jx _ ∧ Row _ (A.heap.size + 1 + 1) #[.bool false] 4) from ⟨(hk2.out.mono (fun _ _ h => .inl h)).setCell (.inl (.inr rfl)) _, rfl, hJx _ _ HJX.out ((Below.refl _ _).setCell (by have := HSA.out; dsimp only; omega) _), hrow⟩)
        · rcases hor with ⟨_, hjt⟩ | ⟨h1, _⟩
          · have HJT := Lib.hid hjt
            clear hjt hb36 h36
            gi_wp2
            exact (show KeepsBut _ A2 v ∧ (J (n + (offL R long ks' kn (placesL k) (j + 1))) v ∧ Row v (A.heap.size + 1 + 1) #[.bool false] 4) from ⟨hk2.out.mono (fun _ _ h => .inl h), by rw [HE2.out, ← Nat.add_assoc]; exact HJT.out, h7.out⟩)
          · rw [hb36] at h1; cases h1
      case steps =>
        refine ⟨?_, ?_, ?_, ?_, ?_, ?_, ?_, ?_, ?_, ?_, ?_, trivial⟩
        · rintro L a v hL hk ⟨x27, x28, x29, x30, x31, x32, x33, x34, x35, x36, x37, rfl, hf0, hf1, hf2, hf3, hf4, hf5, hf6, hf7, hf8, he, h5, h6, h7, hra, hj, h36, h37, hord, ho7, ho8, hk2, hsz⟩ K hK
          have HK0 := Lib.hid hK
          clear hK
          have hl9 : L 9 = false := by cases h9 : L 9; rfl; exact absurd (hord.out h9).1 (by simp [hk])
          have cp := (he.out hl9).p.cell 0 (v := .func (.func 86) #[] #[.pointer (some ⟨rb, 0, none⟩), .pointer (some ⟨yb, 0, none⟩), .pointer (some ⟨pb, 0, none⟩)]) rfl
          clear hk hl9 hL
          go_wp2
          exact HK0.out _ _ ⟨_, _, _, _, _, _, _, _, _, _, _, rfl, Lib.hid (fun _ => rfl), Lib.hid (fun h => hf1.out (by simpa [upd] using h)), Lib.hid (fun h => hf2.out (by simpa [upd] using h)), Lib.hid (fun h => hf3.out (by simpa [upd] using h)), Lib.hid (fun h => hf4.out (by simpa [upd] using h)), Lib.hid (fun h => hf5.out (by simpa [upd] using h)), Lib.hid (fun h => hf6.out (by simpa [upd] using h)), Lib.hid (fun h => hf7.out (by simpa [upd] using h)), Lib.hid (fun h => hf8.out (by simpa [upd] using h)), Lib.hid (fun h => he.out (by simpa [upd] using h)), h5, h6, h7, hra, Lib.hid (fun h => hj.out (by simpa [upd] using h)), Lib.hid (fun h => h36.out (by simpa [upd] using h)), Lib.hid (fun h => by have := h37.out (by simpa [upd] using h); exact ⟨by simp [upd, this.1], this.2⟩), Lib.hid (fun h => by have := hord.out (by simpa [upd] using h); first | (simp [upd]; done) | (simp [upd]; simp [this])), Lib.hid (fun h => by have := ho7.out (by simpa [upd] using h); first | (simp [upd]; done) | (simp [upd]; simp [this])), Lib.hid (fun h => by have := ho8.out (by simpa [upd] using h); first | (simp [upd]; done) | (simp [upd]; simp [this])), hk2, hsz⟩
        · rintro L a v hL hk ⟨x27, x28, x29, x30, x31, x32, x33, x34, x35, x36, x37, rfl, hf0, hf1, hf2, hf3, hf4, hf5, hf6, hf7, hf8, he, h5, h6, h7, hra, hj, h36, h37, hord, ho7, ho8, hk2, hsz⟩ K hK
          have HK0 := Lib.hid hK
          clear hK
          clear hL
          clear hk
          have c5 := h5.out.cell 0 (v := .int .i64 i) rfl
          go_wp2
          exact HK0.out _ _ ⟨_, _, _, _, _, _, _, _, _, _, _, rfl, Lib.hid (fun h => hf0.out (by simpa [upd] using h)), Lib.hid (fun _ => rfl), Lib.hid (fun h => hf2.out (by simpa [upd] using h)), Lib.hid (fun h => hf3.out (by simpa [upd] using h)), Lib.hid (fun h => hf4.out (by simpa [upd] using h)), Lib.hid (fun h => hf5.out (by simpa [upd] using h)), Lib.hid (fun h => hf6.out (by simpa [upd] using h)), Lib.hid (fun h => hf7.out (by simpa [upd] using h)), Lib.hid (fun h => hf8.out (by simpa [upd] using h)), Lib.hid (fun h => he.out (by simpa [upd] using h)), h5, h6, h7, hra, Lib.hid (fun h => hj.out (by simpa [upd] using h)), Lib.hid (fun h => h36.out (by simpa [upd] using h)), Lib.hid (fun h => by have := h37.out (by simpa [upd] using h); exact ⟨by simp [upd, this.1], this.2⟩), Lib.hid (fun h => by have := hord.out (by simpa [upd] using h); first | (simp [upd]; done) | (simp [upd]; simp [this])), Lib.hid (fun h => by have := ho7.out (by simpa [upd] using h); first | (simp [upd]; done) | (simp [upd]; simp [this])), Lib.hid (fun h => by have := ho8.out (by simpa [upd] using h); first | (simp [upd]; done) | (simp [upd]; simp [this])), hk2, hsz⟩
        · rintro L a v hL hk ⟨x27, x28, x29, x30, x31, x32, x33, x34, x35, x36, x37, rfl, hf0, hf1, hf2, hf3, hf4, hf5, hf6, hf7, hf8, he, h5, h6, h7, hra, hj, h36, h37, hord, ho7, ho8, hk2, hsz⟩ K hK
          have HK0 := Lib.hid hK
          clear hK
          obtain rfl := hf1.out (after_on hL 1 rfl)
          clear hL
          clear hk
          go_wp2
          exact HK0.out _ _ ⟨_, _, _, _, _, _, _, _, _, _, _, rfl, Lib.hid (fun h => hf0.out (by simpa [upd] using h)), Lib.hid (fun _ => rfl), Lib.hid (fun _ => rfl), Lib.hid (fun h => hf3.out (by simpa [upd] using h)), Lib.hid (fun h => hf4.out (by simpa [upd] using h)), Lib.hid (fun h => hf5.out (by simpa [upd] using h)), Lib.hid (fun h => hf6.out (by simpa [upd] using h)), Lib.hid (fun h => hf7.out (by simpa [upd] using h)), Lib.hid (fun h => hf8.out (by simpa [upd] using h)), Lib.hid (fun h => he.out (by simpa [upd] using h)), h5, h6, h7, hra, Lib.hid (fun h => hj.out (by simpa [upd] using h)), Lib.hid (fun h => h36.out (by simpa [upd] using h)), Lib.hid (fun h => by have := h37.out (by simpa [upd] using h); exact ⟨by simp [upd, this.1], this.2⟩), Lib.hid (fun h => by have := hord.out (by simpa [upd] using h); first | (simp [upd]; done) | (simp [upd]; simp [this])), Lib.hid (fun h => by have := ho7.out (by simpa [upd] using h); first | (simp [upd]; done) | (simp [upd]; simp [this])), Lib.hid (fun h => by have := ho8.out (by simpa [upd] using h); first | (simp [upd]; done) | (simp [upd]; simp [this])), hk2, hsz⟩
        · rintro L a v hL hk ⟨x27, x28, x29, x30, x31, x32, x33, x34, x35, x36, x37, rfl, hf0, hf1, hf2, hf3, hf4, hf5, hf6, hf7, hf8, he, h5, h6, h7, hra, hj, h36, h37, hord, ho7, ho8, hk2, hsz⟩ K hK
          have HK0 := Lib.hid hK
          clear hK
          clear hL
          clear hk
          refine wp_load_row 88 _ rfl _ rfl 88 _ (0, 0) _ h6.out Try.underlying88 rfl (size88 hkn) ?_
          exact HK0.out _ _ ⟨_, _, _, _, _, _, _, _, _, _, _, rfl, Lib.hid (fun h => hf0.out (by simpa [upd] using h)), Lib.hid (fun h => hf1.out (by simpa [upd] using h)), Lib.hid (fun h => hf2.out (by simpa [upd] using h)), Lib.hid (fun _ => rfl), Lib.hid (fun h => hf4.out (by simpa [upd] using h)), Lib.hid (fun h => hf5.out (by simpa [upd] using h)), Lib.hid (fun h => hf6.out (by simpa [upd] using h)), Lib.hid (fun h => hf7.out (by simpa [upd] using h)), Lib.hid (fun h => hf8.out (by simpa [upd] using h)), Lib.hid (fun h => he.out (by simpa [upd] using h)), h5, h6, h7, hra, Lib.hid (fun h => hj.out (by simpa [upd] using h)), Lib.hid (fun h => h36.out (by simpa [upd] using h)), Lib.hid (fun h => by have := h37.out (by simpa [upd] using h); exact ⟨by simp [upd, this.1], this.2⟩), Lib.hid (fun h => by have := hord.out (by simpa [upd] using h); first | (simp [upd]; done) | (simp [upd]; simp [this])), Lib.hid (fun h => by have := ho7.out (by simpa [upd] using h); first | (simp [upd]; done) | (simp [upd]; simp [this])), Lib.hid (fun h => by have := ho8.out (by simpa [upd] using h); first | (simp [upd]; done) | (simp [upd]; simp [this])), hk2, hsz⟩
        · rintro L a v hL hk ⟨x27, x28, x29, x30, x31, x32, x33, x34, x35, x36, x37, rfl, hf0, hf1, hf2, hf3, hf4, hf5, hf6, hf7, hf8, he, h5, h6, h7, hra, hj, h36, h37, hord, ho7, ho8, hk2, hsz⟩ K hK
          have HK0 := Lib.hid hK
          clear hK
          clear hL
          clear hk
          go_wp2
          exact HK0.out _ _ ⟨_, _, _, _, _, _, _, _, _, _, _, rfl, Lib.hid (fun h => hf0.out (by simpa [upd] using h)), Lib.hid (fun h => hf1.out (by simpa [upd] using h)), Lib.hid (fun h => hf2.out (by simpa [upd] using h)), Lib.hid (fun h => hf3.out (by simpa [upd] using h)), Lib.hid (fun _ => rfl), Lib.hid (fun h => hf5.out (by simpa [upd] using h)), Lib.hid (fun h => hf6.out (by simpa [upd] using h)), Lib.hid (fun h => hf7.out (by simpa [upd] using h)), Lib.hid (fun h => hf8.out (by simpa [upd] using h)), Lib.hid (fun h => he.out (by simpa [upd] using h)), h5, h6, h7, hra, Lib.hid (fun h => hj.out (by simpa [upd] using h)), Lib.hid (fun h => h36.out (by simpa [upd] using h)), Lib.hid (fun h => by have := h37.out (by simpa [upd] using h); exact ⟨by simp [upd, this.1], this.2⟩), Lib.hid (fun h => by have := hord.out (by simpa [upd] using h); first | (simp [upd]; done) | (simp [upd]; simp [this])), Lib.hid (fun h => by have := ho7.out (by simpa [upd] using h); first | (simp [upd]; done) | (simp [upd]; simp [this])), Lib.hid (fun h => by have := ho8.out (by simpa [upd] using h); first | (simp [upd]; done) | (simp [upd]; simp [this])), hk2, hsz⟩
        · rintro L a v hL hk ⟨x27, x28, x29, x30, x31, x32, x33, x34, x35, x36, x37, rfl, hf0, hf1, hf2, hf3, hf4, hf5, hf6, hf7, hf8, he, h5, h6, h7, hra, hj, h36, h37, hord, ho7, ho8, hk2, hsz⟩ K hK
          have HK0 := Lib.hid hK
          clear hK
          obtain rfl := hf4.out (after_on hL 4 rfl)
          have hl9 : L 9 = false := by cases h9 : L 9; rfl; exact absurd (hord.out h9).2.1 (by simp [hk])
          have c10 := (he.out hl9).r.cell 10 (R.a10 hs)
          rw [HMB.out] at c10
          clear hk hl9 hL
          go_wp2
          exact HK0.out _ _ ⟨_, _, _, _, _, _, _, _, _, _, _, rfl, Lib.hid (fun h => hf0.out (by simpa [upd] using h)), Lib.hid (fun h => hf1.out (by simpa [upd] using h)), Lib.hid (fun h => hf2.out (by simpa [upd] using h)), Lib.hid (fun h => hf3.out (by simpa [upd] using h)), Lib.hid (fun _ => rfl), Lib.hid (fun _ => rfl), Lib.hid (fun h => hf6.out (by simpa [upd] using h)), Lib.hid (fun h => hf7.out (by simpa [upd] using h)), Lib.hid (fun h => hf8.out (by simpa [upd] using h)), Lib.hid (fun h => he.out (by simpa [upd] using h)), h5, h6, h7, hra, Lib.hid (fun h => hj.out (by simpa [upd] using h)), Lib.hid (fun h => h36.out (by simpa [upd] using h)), Lib.hid (fun h => by have := h37.out (by simpa [upd] using h); exact ⟨by simp [upd, this.1], this.2⟩), Lib.hid (fun h => by have := hord.out (by simpa [upd] using h); first | (simp [upd]; done) | (simp [upd]; simp [this])), Lib.hid (fun h => by have := ho7.out (by simpa [upd] using h); first | (simp [upd]; done) | (simp [upd]; simp [this])), Lib.hid (fun h => by have := ho8.out (by simpa [upd] using h); first | (simp [upd]; done) | (simp [upd]; simp [this])), hk2, hsz⟩
        · rintro L a v hL hk ⟨x27, x28, x29, x30, x31, x32, x33, x34, x35, x36, x37, rfl, hf0, hf1, hf2, hf3, hf4, hf5, hf6, hf7, hf8, he, h5, h6, h7, hra, hj, h36, h37, hord, ho7, ho8, hk2, hsz⟩ K hK
          have HK0 := Lib.hid hK
          clear hK
          clear hL
          clear hk
          refine wp_load_row 80 _ rfl _ rfl 80 _ (0, 0) _ hra.out Try.underlying80 rfl (by kernel_rfl) ?_
          exact HK0.out _ _ ⟨_, _, _, _, _, _, _, _, _, _, _, rfl, Lib.hid (fun h => hf0.out (by simpa [upd] using h)), Lib.hid (fun h => hf1.out (by simpa [upd] using h)), Lib.hid (fun h => hf2.out (by simpa [upd] using h)), Lib.hid (fun h => hf3.out (by simpa [upd] using h)), Lib.hid (fun h => hf4.out (by simpa [upd] using h)), Lib.hid (fun h => hf5.out (by simpa [upd] using h)), Lib.hid (fun _ => rfl), Lib.hid (fun h => hf7.out (by simpa [upd] using h)), Lib.hid (fun h => hf8.out (by simpa [upd] using h)), Lib.hid (fun h => he.out (by simpa [upd] using h)), h5, h6, h7, hra, Lib.hid (fun h => hj.out (by simpa [upd] using h)), Lib.hid (fun h => h36.out (by simpa [upd] using h)), Lib.hid (fun h => by have := h37.out (by simpa [upd] using h); exact ⟨by simp [upd, this.1], this.2⟩), Lib.hid (fun h => by have := hord.out (by simpa [upd] using h); first | (simp [upd]; done) | (simp [upd]; simp [this])), Lib.hid (fun h => by have := ho7.out (by simpa [upd] using h); first | (simp [upd]; done) | (simp [upd]; simp [this])), Lib.hid (fun h => by have := ho8.out (by simpa [upd] using h); first | (simp [upd]; done) | (simp [upd]; simp [this])), hk2, hsz⟩
        · rintro L a v hL hk ⟨x27, x28, x29, x30, x31, x32, x33, x34, x35, x36, x37, rfl, hf0, hf1, hf2, hf3, hf4, hf5, hf6, hf7, hf8, he, h5, h6, h7, hra, hj, h36, h37, hord, ho7, ho8, hk2, hsz⟩ K hK
          have HK0 := Lib.hid hK
          clear hK
          obtain rfl := hf5.out (after_on hL 5 rfl)
          obtain rfl := hf6.out (after_on hL 6 rfl)
          have HL7 := Lib.hid hL
          have hl9 : L 9 = false := by cases h9 : L 9; rfl; exact absurd (hord.out h9).2.2 (by simp [hk])
          clear hL
          refine wp_lookup' _ _ _ rfl mb _ rfl rfl _ ((he.out hl9).m.look HIA.out HIT.out HTR.out) ?_
          exact HK0.out _ _ ⟨_, _, _, _, _, _, _, _, _, _, _, rfl, Lib.hid (fun h => hf0.out (by simpa [upd] using h)), Lib.hid (fun h => hf1.out (by simpa [upd] using h)), Lib.hid (fun h => hf2.out (by simpa [upd] using h)), Lib.hid (fun h => hf3.out (by simpa [upd] using h)), Lib.hid (fun h => hf4.out (by simpa [upd] using h)), Lib.hid (fun _ => rfl), Lib.hid (fun _ => rfl), Lib.hid (fun _ => rfl), Lib.hid (fun h => hf8.out (by simpa [upd] using h)), Lib.hid (fun h => he.out (by simpa [upd] using h)), h5, h6, h7, hra, Lib.hid (fun h => hj.out (by simpa [upd] using h)), Lib.hid (fun h => h36.out (by simpa [upd] using h)), Lib.hid (fun h => by have := h37.out (by simpa [upd] using h); exact ⟨by simp [upd, this.1], this.2⟩), Lib.hid (fun h => by have := hord.out (by simpa [upd] using h); first | (simp [upd]; done) | (simp [upd]; simp [this])), Lib.hid (fun _ => by rw [upd_other _ (by decide)]; exact after_on HL7.out 5 rfl), Lib.hid (fun h => by have := ho8.out (by simpa [upd] using h); first | (simp [upd]; done) | (simp [upd]; simp [this])), hk2, hsz⟩
        · rintro L a v hL hk ⟨x27, x28, x29, x30, x31, x32, x33, x34, x35, x36, x37, rfl, hf0, hf1, hf2, hf3, hf4, hf5, hf6, hf7, hf8, he, h5, h6, h7, hra, hj, h36, h37, hord, ho7, ho8, hk2, hsz⟩ K hK
          have HK0 := Lib.hid hK
          clear hK
          obtain rfl := hf3.out (after_on hL 3 rfl)
          obtain rfl := hf7.out (after_on hL 7 rfl)
          clear hk
          have HL8 := Lib.hid hL
          clear hL
          go_wp2_with fail
          refine (with_any kn _ hkn (trailL_length _ _ _ _) _).mono ?_
          rintro e w1 ⟨rfl, hb1⟩
          exact HK0.out _ _ ⟨_, _, _, _, _, _, _, _, _, _, _, rfl, Lib.hid (fun h => hf0.out (by simpa [upd] using h)), Lib.hid (fun h => hf1.out (by simpa [upd] using h)), Lib.hid (fun h => hf2.out (by simpa [upd] using h)), Lib.hid (fun _ => rfl), Lib.hid (fun h => hf4.out (by simpa [upd] using h)), Lib.hid (fun h => hf5.out (by simpa [upd] using h)), Lib.hid (fun h => hf6.out (by simpa [upd] using h)), Lib.hid (fun _ => rfl), Lib.hid (fun _ => rfl), Lib.hid (fun h => (he.out (by simpa [upd] using h)).below hb1), Lib.hid (h5.out.below hb1 h5.out.lt), Lib.hid (h6.out.below hb1 h6.out.lt), Lib.hid (h7.out.below hb1 h7.out.lt), Lib.hid (hra.out.below hb1 hra.out.lt), Lib.hid (fun h => hJ _ _ _ (hj.out (by simpa [upd] using h)) (hb1.mono hsz.out)), Lib.hid (fun h => by have := h36.out (by simpa [upd] using h); exact this.imp (fun h => ⟨h.1, hJ _ _ _ h.2 (hb1.mono hsz.out)⟩) (fun h => ⟨h.1, hJx _ _ h.2 (hb1.mono hsz.out)⟩)), Lib.hid (fun h => by have := h37.out (by simpa [upd] using h); exact ⟨by simp [upd, this.1], this.2⟩), Lib.hid (fun h => by have := hord.out (by simpa [upd] using h); first | (simp [upd]; done) | (simp [upd]; simp [this])), Lib.hid (fun h => by have := ho7.out (by simpa [upd] using h); first | (simp [upd]; done) | (simp [upd]; simp [this])), Lib.hid (fun _ => by rw [upd_other _ (by decide)]; exact after_on HL8.out 7 rfl), Lib.hid (hk2.out.after hb1), Lib.hid (Nat.le_trans hsz.out hb1.size)⟩
        · rintro L a v hL hk ⟨x27, x28, x29, x30, x31, x32, x33, x34, x35, x36, x37, rfl, hf0, hf1, hf2, hf3, hf4, hf5, hf6, hf7, hf8, he, h5, h6, h7, hra, hj, h36, h37, hord, ho7, ho8, hk2, hsz⟩ K hK
          have HK0 := Lib.hid hK
          clear hK
          obtain rfl := hf0.out (after_on hL 0 rfl)
          obtain rfl := hf2.out (after_on hL 2 rfl)
          obtain rfl := hf8.out (after_on hL 8 rfl)
          have hcall := ih (i + 1) (n + off0) (orL kn (trailL R long qa qt.toNat)) v HT1.out HT2.out (orL_length hkn (trailL_length _ _ _ _)) HT3.out (he.out hk) (hj.out hk)
          rw [show ((i + 1 : Nat) : Int) = (i : Int) + 1 by omega] at hcall
          have HCALL := Lib.hid hcall
          have HLL := Lib.hid hL
          have HLK := Lib.hid hk
          clear hcall hk hL
          go_wp2_with fail
          refine HCALL.out.mono ?_
          rintro e w1 ⟨hkM, (⟨rfl, hjj⟩ | ⟨rfl, hjj⟩)⟩
          all_goals exact HK0.out _ _ ⟨_, _, _, _, _, _, _, _, _, _, _, rfl, Lib.hid (fun _ => rfl), Lib.hid (fun h => hf1.out (by simpa [upd] using h)), Lib.hid (fun _ => rfl), Lib.hid (fun h => hf3.out (by simpa [upd] using h)), Lib.hid (fun h => hf4.out (by simpa [upd] using h)), Lib.hid (fun h => hf5.out (by simpa [upd] using h)), Lib.hid (fun h => hf6.out (by simpa [upd] using h)), Lib.hid (fun h => hf7.out (by simpa [upd] using h)), Lib.hid (fun _ => rfl), Lib.hid (fun h => by simp [upd] at h), Lib.hid (h5.out.keeps hkM (fun e => by have := ho.lt _ e; have := HSA.out; omega)), Lib.hid (h6.out.keeps hkM (fun e => by have := ho.lt _ e; have := HSA.out; omega)), Lib.hid (h7.out.keeps hkM (fun e => by have := ho.lt _ e; have := HSA.out; omega)), Lib.hid (hra.out.keeps hkM (fun e => by have := ho.lt _ e; have := HSA.out; have := HDA.out; omega)), Lib.hid (fun h => by simp [upd] at h), Lib.hid (fun _ => by first | exact .inl ⟨rfl, hjj⟩ | exact .inr ⟨rfl, hjj⟩), Lib.hid (fun h => absurd (h37.out (by simpa [upd] using h)).1 (by simp [HLK.out])), Lib.hid (fun _ => by rw [upd_other _ (by decide), upd_other _ (by decide), upd_other _ (by decide)]; have h8 := ho8.out (after_on HLL.out 8 rfl); exact ⟨after_on HLL.out 0 rfl, ho7.out h8, h8⟩), Lib.hid (fun h => by have := ho7.out (by simpa [upd] using h); first | (simp [upd]; done) | (simp [upd]; simp [this])), Lib.hid (fun h => by have := ho8.out (by simpa [upd] using h); first | (simp [upd]; done) | (simp [upd]; simp [this])), Lib.hid (hk2.out.trans hkM), Lib.hid (Nat.le_trans hsz.out hkM.size)⟩
        · rintro L a v hL hk ⟨x27, x28, x29, x30, x31, x32, x33, x34, x35, x36, x37, rfl, hf0, hf1, hf2, hf3, hf4, hf5, hf6, hf7, hf8, he, h5, h6, h7, hra, hj, h36, h37, hord, ho7, ho8, hk2, hsz⟩ K hK
          have HK0 := Lib.hid hK
          clear hK
          have h9 := after_on hL 9 rfl
          clear hL hk
          rcases h36.out h9 with ⟨rfl, hjj⟩ | ⟨rfl, hjj⟩
          all_goals have HJJ := Lib.hid hjj
          all_goals clear hjj
          all_goals go_wp2
          all_goals exact HK0.out _ _ ⟨_, _, _, _, _, _, _, _, _, _, _, rfl, Lib.hid (fun h => hf0.out (by simpa [upd] using h)), Lib.hid (fun h => hf1.out (by simpa [upd] using h)), Lib.hid (fun h => hf2.out (by simpa [upd] using h)), Lib.hid (fun h => hf3.out (by simpa [upd] using h)), Lib.hid (fun h => hf4.out (by simpa [upd] using h)), Lib.hid (fun h => hf5.out (by simpa [upd] using h)), Lib.hid (fun h => hf6.out (by simpa [upd] using h)), Lib.hid (fun h => hf7.out (by simpa [upd] using h)), Lib.hid (fun h => hf8.out (by simpa [upd] using h)), Lib.hid (fun h => he.out (by simpa [upd] using h)), h5, h6, h7, hra, Lib.hid (fun h => hj.out (by simpa [upd] using h)), Lib.hid (fun _ => by first | exact .inl ⟨rfl, HJJ.out⟩ | exact .inr ⟨rfl, HJJ.out⟩), Lib.hid (fun _ => ⟨by rw [upd_other _ (by decide)]; exact h9, _, rfl, rfl⟩), Lib.hid (fun h => by have := hord.out (by simpa [upd] using h); first | (simp [upd]; done) | (simp [upd]; simp [this])), Lib.hid (fun h => by have := ho7.out (by simpa [upd] using h); first | (simp [upd]; done) | (simp [upd]; simp [this])), Lib.hid (fun h => by have := ho8.out (by simpa [upd] using h); first | (simp [upd]; done) | (simp [upd]; simp [this])), hk2, hsz⟩
    case done =>
      intro B hI hkeep hsz hD
      have hI : J (n + (offL R long ks' kn (placesL k) ((placesL k).map fun q => #[placeV q.1 q.2]).length)) B ∧ Row B (A.heap.size + 1 + 1) #[.bool false] 4 := hI
      have e0 : offL R long ks' kn (placesL k) (placesL k).length = (truthsL R long (k :: ks') kn).length := by unfold offL; rw [List.take_length]; rfl
      rw [List.length_map, e0] at hI
      have HB2 := Lib.hid hI.1
      have HK := Lib.hid ((KeepsBut.tail hB2 hkeep (show A.heap.size ≤ A.heap.size + 1 + 1 by omega)))
      have rB := hI.2
      have c0 := rB.cell 0 (v := .bool false) rfl
      have f0 := rB.free 0
      have hrow := rB.set 0 (.bool true)
      have HDD := Lib.hid hD
      have HSZ := Lib.hid hsz
      clear hI hkeep hD hsz rB
      go_wp2
      refine marks_leave (n := A.heap.size) (show Marks A.heap.size _ _ from ⟨⟨_, rfl, by omega, (Below.heap_setCell _ _ _ _ (by dsimp only; omega)).trans HDD.out, by simp⟩, trivial⟩) (fun B2 hS => ?_)
      have hr3 : Row B2 (A.heap.size + 1 + 1) #[.bool true] 4 := by unfold Row; rw [hS.rest _ (fun o h => by unfold Row at hrow; rw [hrow] at h; cases h)]; exact hrow
      have hres := hr3.cell 0 (v := .bool true) rfl
      refine ⟨.bool true, by simp [results, Try.results86, go_sem, hres], ?_⟩
      exact ⟨(HK.out.setCell (.inr (by dsimp only; omega)) _).after' hS.below, .inl ⟨rfl, hJ _ _ _ HB2.out (((Below.refl _ _).setCell (by have := HSA.out; dsimp only; omega) _).trans (hS.below.mono HSA.out))⟩⟩
    case stop =>
      rintro c B ⟨rfl, hjx, hrow⟩ hkeep hsz hD
      have HB2 := Lib.hid hjx
      have HK := Lib.hid ((KeepsBut.tail hB2 hkeep (show A.heap.size ≤ A.heap.size + 1 + 1 by omega)))
      clear hjx hkeep
      refine wp_ret ?_
      refine marks_leave (n := A.heap.size) (show Marks A.heap.size _ _ from ⟨⟨_, rfl, by omega, hD, by simp⟩, trivial⟩) (fun B2 hS => ?_)
      have hr3 : Row B2 (A.heap.size + 1 + 1) #[.bool false] 4 := by unfold Row; rw [hS.rest _ (fun o h => by unfold Row at hrow; rw [hrow] at h; cases h)]; exact hrow
      have hres := hr3.cell 0 (v := .bool false) rfl
      refine ⟨.bool false, by simp [results, Try.results86, go_sem, hres], ?_⟩
      exact ⟨HK.out.after' hS.below, .inr ⟨rfl, hJx _ _ HB2.out (hS.below.mono HSA.out)⟩⟩

end Go.Proofs.Ytnnlbbmimdohoaa
