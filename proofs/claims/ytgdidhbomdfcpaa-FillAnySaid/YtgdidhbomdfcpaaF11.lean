/- The walks of layer 5: is it a plan? -/
import Derived.Test.YtgdidhbomdfcpaaF10
import Derived.Test.YtgdidhbomdfcpaaF8
import Derived.Laws.EntriesVeiled
namespace Go.Proofs.Ytgdidhbomdfcpaa
open Go.RowKit Go.Maps
attribute [local go_sem] Oper.semAt_some

theorem below_keep {w W A : World} {n : Nat} {M : Nat → Prop} (hb : Below n w W) (k : KeepsBut M W A) (hn : n ≤ W.heap.size) (hM : ∀ m, M m → n ≤ m) : Below n w A :=
  ⟨k.os.trans hb.os, k.tape.trans hb.tape, k.output.trans hb.output, Nat.le_trans hb.size k.size, fun j hj => by rw [k.block j (by omega) (fun h => by have := hM j h; omega), hb.block j hj]⟩
theorem results_cell_bool {fn : Func} {p : Tmp} (h : fn.results = #[.cell p 4]) (tmps : Array Value) (w : World) (g : Nat) (v : Value) (hp : tmps.getD p undef = .pointer (some ⟨g, 0, none⟩)) (hc : w.cell? ⟨g, 0, none⟩ = some v) :
    (results fn tmps).run Try.prog w = .ok v w := by
  have hp' : tmps[p]?.getD undef = .pointer (some ⟨g, 0, none⟩) := by simpa using hp
  simp [results, h, hp', asAddr, go_sem, Try.underlying4, hc]
theorem inRound_of {P : Program} {f : FuncId} {args : Array Value} {w : World} {R Q : Ending → World → Prop} {l n : Nat} (h : Calls P f args w R) (hq : ∀ e w', R e w' → Q e w') : Fence.wide.fn f ∧ Fence.wide.depth = none ∧ CallsIn (Fence.wide.inRound l) n P f args w Q :=
  ⟨trivial, rfl, CallsIn.inRound l (callsIn_wide.2 (h.mono hq))⟩
set_option maxRecDepth 10000 in
set_option maxHeartbeats 1600000 in
theorem isPlan_any (b : Bf) (p : Option Addr) (c mb : Nat) (q : Option Addr) (cq : Nat) (l : List Int) (w : World) (hB : BkF w p c mb b) (hl : IntsAt w q l) (hn : l.length < 2 ^ 62) (h64 : ∀ i, i < l.length → I64 (at0 l i)) :
    Calls Try.prog 74 #[.agg (bkA b p c mb), .slice q l.length cq] w fun e w' => e = .returned (.bool (planB b l)) ∧ Below w.heap.size w w' := by
  have HB := Lib.hid hB
  have hn8 := HB.out.ok.n8
  have HL := Lib.hid hl
  have H64 := Lib.hid h64
  clear hB hl h64
  refine calls_marks Try.func74 rfl ?_
  simp only [Try.ntmps74, List.size_toArray, List.length_cons, List.length_nil, Nat.reduceAdd, Nat.reduceSub, Array.replicate_succ, Array.replicate_zero, List.push_toArray, List.append_toArray, List.nil_append, List.cons_append]
  go_wp2_with (first | (go_at_call 97; (refine (boxes_any _ _ _ _).mono ?_); rintro e w' ⟨rfl, rfl⟩))
  have hb4 : Below w.heap.size w ((((w.alloc (.cells (bkA b p c mb) 79)).alloc (.cells #[.bool false] 4)).alloc (.cells #[.int .i64 0] 3)).alloc (.cells #[.slice q l.length cq] 38)) := ((below_alloc2 w _ _).alloc (by simp; omega) _).alloc (by simp; omega) _
  have rB := (((Row.new w (bkA b p c mb) 79).alloc (.cells #[.bool false] 4)).alloc (.cells #[.int .i64 0] 3)).alloc (.cells #[.slice q l.length cq] 38)
  have rD := ((Row.new1 w (.cells (bkA b p c mb) 79) #[.bool false] 4).alloc (.cells #[.int .i64 0] 3)).alloc (.cells #[.slice q l.length cq] 38)
  have rE := (Row.new2 w (.cells (bkA b p c mb) 79) (.cells #[.bool false] 4) #[.int .i64 0] 3).alloc (.cells #[.slice q l.length cq] 38)
  have rN := Row.new' (w := (((w.alloc (.cells (bkA b p c mb) 79)).alloc (.cells #[.bool false] 4)).alloc (.cells #[.int .i64 0] 3))) (n := w.heap.size + 1 + 1 + 1) (by simp) #[.slice q l.length cq] 38
  have hs4 : ((((w.alloc (.cells (bkA b p c mb) 79)).alloc (.cells #[.bool false] 4)).alloc (.cells #[.int .i64 0] 3)).alloc (.cells #[.slice q l.length cq] 38)).heap.size = w.heap.size + 4 := by simp
  change Code.wp _ _ _ _ ((((w.alloc (.cells (bkA b p c mb) 79)).alloc (.cells #[.bool false] 4)).alloc (.cells #[.int .i64 0] 3)).alloc (.cells #[.slice q l.length cq] 38))
  generalize ((((w.alloc (.cells (bkA b p c mb) 79)).alloc (.cells #[.bool false] 4)).alloc (.cells #[.int .i64 0] 3)).alloc (.cells #[.slice q l.length cq] 38)) = w4 at *
  have HB4 := Lib.hid hb4
  have RB := Lib.hid rB
  have HSP := Lib.hid (fun k => planTo_succ b l k)
  have HPN := Lib.hid (fun k h hk => plan_nums (b := b) (l := l) (k := k) h hk)
  have HL4 := Lib.hid (HL.out.below hb4)
  have hqlt : ∀ m o, 0 < l.length → q = some ⟨m, o, none⟩ → m < w.heap.size := fun m o h0 e => by
    obtain ⟨b', o', e', hc⟩ := HL.out 0 h0
    rw [e] at e'
    cases e'
    exact cell_block hc
  have HPB := Lib.hid (show planB b l = (planTo b l l.length && decide (bgn l l.length = b.hs.length)) from rfl)
  clear hb4 rB
  refine range_lawO 108 #[.pointer (some ⟨w.heap.size + 1 + 1 + 1, 0, none⟩)] (fun m => m = w.heap.size + 1 + 1 + 1 ∨ (0 < l.length ∧ ∃ o, q = some ⟨m, o, none⟩)) l.length (fun k x O A => x = #[.int .i64 k, .agg #[.int .i64 (bgn l k), .int .i64 (at0 l k)]]) rfl (fun args w => Try.call108 args w)
    (fun W1 hb _ => boxes_iter q cq l _ hn W1 (rN.below hb rN.lt) (HL4.out.below hb)) (fun k x O A h => by rw [h]; rfl) (fun m => m = w.heap.size + 1 ∨ m = w.heap.size + 1 + 1)
    (by
      rintro m hm
      refine ⟨by omega, ?_⟩
      rintro (h | ⟨h0, o, e⟩)
      · omega
      · have := hqlt m o h0 e
        omega)
    (by
      rintro (h | ⟨h0, o, e⟩)
      · omega
      · have := hqlt _ o h0 e
        omega)
    (fun k O A => planTo b l k = true ∧ ¬ O (w.heap.size + 1) ∧ ¬ O (w.heap.size + 1 + 1) ∧ Row A (w.heap.size + 1) #[.bool false] 4 ∧ Row A (w.heap.size + 1 + 1) #[.int .i64 (bgn l k)] 3)
    (fun cc O A => cc = .ret ∧ planB b l = false ∧ ¬ O (w.heap.size + 1) ∧ Row A (w.heap.size + 1) #[.bool false] 4)
    (fun k O O' A B h hb _ hO => ⟨h.1, fun x => (hO _ x).elim h.2.1 (fun y => by have := h.2.2.2.1.lt; omega), fun x => (hO _ x).elim h.2.2.1 (fun y => by have := h.2.2.2.2.lt; omega), h.2.2.2.1.keeps hb h.2.1, h.2.2.2.2.keeps hb h.2.2.1⟩)
    (fun _ O O' A B h hb _ hO => ⟨h.1, h.2.1, fun x => (hO _ x).elim h.2.2.1 (fun y => by have := h.2.2.2.lt; omega), h.2.2.2.keeps hb h.2.2.1⟩)
    ⟨rfl, fun h => h.elim, fun h => h.elim, rD, rE⟩ ?body ?done ?stop
  case body =>
    rintro li k x O O' A rfl hk hx hOO hO hOw hOl ⟨hp, hn1, hn2, hD, hE⟩ hkeep hlA
    obtain rfl := hx
    have HPT := Lib.hid hp
    have RBA := Lib.hid (RB.out.keeps hkeep (by rintro (h | h) <;> omega))
    have HK := Lib.hid hkeep
    have HDD := Lib.hid hD
    have HEE := Lib.hid hE
    have hnum := HPN.out k hp (by omega)
    have hszA := hE.lt
    have H64k := Lib.hid (H64.out k hk)
    clear hp hkeep hD hE hOO hO
    gi_wp2_with fail
    refine ⟨(KeepsBut.refl _ _).alloc _, fun oo => ?_⟩
    have hk2 : KeepsBut (fun m => m = w4.heap.size + 1) A ((A.alloc (.cells #[.int .i64 (bgn l k), .int .i64 (at0 l k)] 72)).putObj (w4.heap.size + 1) oo) := ((KeepsBut.refl (fun m => m = w4.heap.size + 1) A).alloc (.cells #[.int .i64 (bgn l k), .int .i64 (at0 l k)] 72)).putObj (l := w4.heap.size + 1) (.inl rfl) oo
    have hk5 := (HK.out.alloc (.cells #[.int .i64 (bgn l k), .int .i64 (at0 l k)] 72)).putObj (l := w4.heap.size + 1) (.inr (by omega)) oo
    have RS := Lib.hid ((Row.new A #[.int .i64 (bgn l k), .int .i64 (at0 l k)] 72).keeps ((KeepsBut.refl (fun m => m = w4.heap.size + 1) _).putObj (l := w4.heap.size + 1) (.inl rfl) oo) (by omega))
    have RB2 := Lib.hid (RBA.out.keeps hk2 (by omega))
    have RD2 := Lib.hid (HDD.out.keeps hk2 (by omega))
    have RE2 := Lib.hid (HEE.out.keeps hk2 (by omega))
    have HB2 := Lib.hid (HB.out.below (below_keep HB4.out hk5 (by omega) (fun m hm => by rcases hm with rfl | rfl <;> omega)))
    have hszB : A.heap.size < ((A.alloc (.cells #[.int .i64 (bgn l k), .int .i64 (at0 l k)] 72)).putObj (w4.heap.size + 1) oo).heap.size := RS.out.lt
    change Code.wpIn _ _ _ _ _ _ ((A.alloc (.cells #[.int .i64 (bgn l k), .int .i64 (at0 l k)] 72)).putObj (w4.heap.size + 1) oo)
    generalize (A.alloc (.cells #[.int .i64 (bgn l k), .int .i64 (at0 l k)] 72)).putObj (w4.heap.size + 1) oo = A2 at *
    have b0 := RB2.out.cell 0 (v := .int .i64 b.pr) rfl
    have b1 := RB2.out.cell 1 (v := .int .i64 b.le) rfl
    have b2 := RB2.out.cell 2 (v := .int .i64 b.mo) rfl
    have b3 := RB2.out.cell 3 (v := .int .i64 b.gr) rfl
    have b4 := RB2.out.cell 4 (v := .slice p b.hs.length c) rfl
    have b5 := RB2.out.cell 5 (v := .map (some mb)) rfl
    have s0 := RS.out.cell 0 (v := .int .i64 (bgn l k)) rfl
    have s1 := RS.out.cell 1 (v := .int .i64 (at0 l k)) rfl
    clear hk2 hk5 RBA HK HDD HEE
    gi_wp2_with fail
    refine inRound_of (isBox_any b p c mb _ _ (I64_of (by omega) (by omega)) H64k.out A2 HB2.out) ?_
    rintro e A3 ⟨rfl, hb3⟩
    have RS3 := Lib.hid (RS.out.below hb3 RS.out.lt)
    have RD3 := Lib.hid (RD2.out.below hb3 RD2.out.lt)
    have RE3 := Lib.hid (RE2.out.below hb3 RE2.out.lt)
    have HK3 := Lib.hid (KeepsBut.of_below (M := fun m => m = w.heap.size + 1 ∨ m = w.heap.size + 1 + 1) hb3)
    clear hb3 b0 b1 b2 b3 b4 b5 s0 s1
    cases hbx : boxB b (bgn l k) (at0 l k)
    · have d0 := RD3.out.cell 0 (v := .bool false) rfl
      have d1 := RD3.out.free 0
      have HPF := Lib.hid (show planB b l = false by
        rw [HPB.out]
        cases h : planTo b l l.length
        · rfl
        · have := planTo_all h hk
          unfold boxI at this
          rw [hbx] at this
          cases this)
      clear hbx
      gi_wp2_with fail
      exact ⟨HK3.out.setCell (.inl (.inl rfl)) _, rfl, HPF.out, hn1, RD3.out.set 0 _⟩
    · have e0 := RE3.out.cell 0 (v := .int .i64 (bgn l k)) rfl
      have e1 := RE3.out.free 0
      have s1 := RS3.out.cell 1 (v := .int .i64 (at0 l k)) rfl
      have HPT2 := Lib.hid (show planTo b l (k + 1) = true by rw [HSP.out, HPT.out]; unfold boxI; rw [hbx]; rfl)
      clear hbx
      gi_wp2_with fail
      exact ⟨HK3.out.setCell (.inl (.inr rfl)) _, HPT2.out, hn1, hn2, RD3.out.set_other _ _ (by dsimp only; omega), by rw [bgn_succ]; exact RE3.out.set 0 _⟩
  case done =>
    rintro O B ⟨hp, hn1, hn2, hD, hE⟩ hO hkeep hsz hDef
    have RBB := Lib.hid (RB.out.keeps hkeep (by rintro (h | h) <;> omega))
    have HKE := Lib.hid hkeep
    have HDF := Lib.hid hDef
    have RD := Lib.hid hD
    have b4 := RBB.out.cell 4 (v := .slice p b.hs.length c) rfl
    have e0 := hE.cell 0 (v := .int .i64 (bgn l l.length)) rfl
    have d0 := RD.out.cell 0 (v := .bool false) rfl
    have d1 := RD.out.free 0
    have HPV := Lib.hid (show planB b l = (bgn l l.length == (b.hs.length : Int)) by rw [HPB.out, hp, Bool.true_and]; exact Bool.eq_iff_iff.2 (by simp))
    have hzB := RD.out.lt
    clear hkeep hDef hD hE hp
    go_wp2
    have q0 := RD.out.set 0 (.bool (bgn l l.length == (b.hs.length : Int)))
    have k0 : KeepsBut (fun m => m = w.heap.size + 1) B (B.setCell ⟨w.heap.size + 1, 0, none⟩ (.bool (bgn l l.length == (b.hs.length : Int)))) := by
      refine KeepsBut.setCell (KeepsBut.refl _ _) ?_ _
      exact .inl rfl
    have hDC := (k0.block w4.heap.size (by omega) (by omega)).trans HDF.out
    have hmk : Marks w.heap.size [{ target := .collected w4.heap.size, args := #[] }] _ := ⟨⟨_, rfl, by omega, hDC, by simp⟩, trivial⟩
    refine marks_leave hmk (fun B2 hB2 => ?_)
    have q1 : Row B2 (w.heap.size + 1) #[.bool (bgn l l.length == (b.hs.length : Int))] 4 := by
      unfold Row
      rw [hB2.rest _ (fun o h => by unfold Row at q0; rw [q0] at h; cases h)]
      exact q0
    refine ⟨_, results_cell_bool Try.results74 _ _ _ _ rfl (q1.cell 0 rfl), ?_⟩
    refine ⟨by rw [HPV.out]; rfl, ?_⟩
    exact (below_keep (below_keep HB4.out HKE.out (by omega) (fun m hm => by rcases hm with rfl | rfl <;> omega)) k0 (by omega) (fun m hm => by omega)).trans hB2.below
  case stop =>
    rintro cc O B ⟨rfl, hpf, hn1, hD⟩ hO hkeep hsz hDef
    have HKE := Lib.hid hkeep
    have HDF := Lib.hid hDef
    have RD := Lib.hid hD
    have HPF := Lib.hid hpf
    clear hkeep hDef hD hpf
    go_wp2_with fail
    have hmk : Marks w.heap.size [{ target := .collected w4.heap.size, args := #[] }] B := ⟨⟨_, rfl, by omega, HDF.out, by simp⟩, trivial⟩
    refine marks_leave hmk (fun B2 hB2 => ?_)
    have q1 : Row B2 (w.heap.size + 1) #[.bool false] 4 := by
      have q0 := RD.out
      unfold Row
      rw [hB2.rest _ (fun o h => by unfold Row at q0; rw [q0] at h; cases h)]
      exact q0
    refine ⟨_, results_cell_bool Try.results74 _ _ _ _ rfl (q1.cell 0 rfl), ?_⟩
    exact ⟨by rw [HPF.out]; rfl, (below_keep HB4.out HKE.out (by omega) (fun m hm => by rcases hm with rfl | rfl <;> omega)).trans hB2.below⟩
end Go.Proofs.Ytgdidhbomdfcpaa
