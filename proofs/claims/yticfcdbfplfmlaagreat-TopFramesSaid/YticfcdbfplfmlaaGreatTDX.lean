/- Arrays of numbers, compared. -/
import Derived.Test.YticfcdbfplfmlaaGreatTuUI
import Derived.LoopIn
namespace Go.Proofs.YticfcdbfplfmlaaGreat.Tu
open Go.RowKit Go.Maps
attribute [local go_sem] Oper.semAt_some

theorem all_range_ints : ∀ (xs ys : List Int), xs.length = ys.length → ((List.range xs.length).all fun i => xs.getD i 0 == ys.getD i 0) = (xs == ys)
  | [], [], _ => rfl
  | x :: xs, y :: ys, h => by
    have ih := all_range_ints xs ys (by simpa using h)
    rw [List.length_cons, List.range_succ_eq_map, List.all_cons, List.all_map]
    simp only [Function.comp_def, List.getD_cons_succ, List.getD_cons_zero]
    rw [ih]
    rfl
  | [], _ :: _, h => by simp at h
  | _ :: _, [], h => by simp at h
/-- Two arrays of numbers, compared. -/
theorem eq_ints {P : Program} (d : Nat) (t e : TypeId) (n : Nat) (ht : P.underlying t = some (.array n e)) (he : P.underlying e = some (.int .i64)) (hsz : ∀ w, (sizeOf e).run P w = .ok 1 w)
    (xs ys : List Int) (hx : xs.length = n) (hy : ys.length = n) (w : World) :
    (Op.equalIn (d + 2) t (.agg (intsA xs)) (.agg (intsA ys))).run P w = .ok (xs == ys) w := by
  rw [← all_range_ints xs ys (hx.trans hy.symm), hx, List.range_eq_range', Op.equalIn]
  simp only [Sem.run_bind, run_underlying ht, Result.andThen_ok, hsz, Std.Legacy.Range.forIn_eq_forIn_range', Std.Legacy.Range.size, Nat.sub_zero, Nat.add_sub_cancel, Nat.div_one]
  have hl : ∀ i ∈ List.range' 0 n 1, i < n := fun i hi => by simpa using (List.mem_range'_1.1 hi).2
  generalize List.range' 0 n 1 = l at hl ⊢
  induction l with
  | nil => simp
  | cons i l ih =>
    have hi : i < n := hl i (by simp)
    have px : (part e (intsA xs) (i * 1)).run P w = .ok (.int .i64 (xs.getD i 0)) w := by
      simp [part, isAgg, run_underlying he, intsA, List.getD, List.getElem?_eq_getElem (show i < xs.length by omega)]
    have py : (part e (intsA ys) (i * 1)).run P w = .ok (.int .i64 (ys.getD i 0)) w := by
      simp [part, isAgg, run_underlying he, intsA, List.getD, List.getElem?_eq_getElem (show i < ys.length by omega)]
    have pe : (Op.equalIn (d + 1) e (.int .i64 (xs.getD i 0)) (.int .i64 (ys.getD i 0))).run P w = .ok (xs.getD i 0 == ys.getD i 0) w := by
      simp [Op.equalIn, run_underlying he, Result.andThen]
    simp only [List.forIn_cons, Sem.run_bind, px, py, pe, Result.andThen_ok, List.all_cons]
    cases hb : (xs.getD i 0 == ys.getD i 0)
    · simp
    · simp only [Bool.not_true, Bool.false_eq_true, if_false, Sem.run_pure, Result.andThen_ok, Bool.true_and]
      exact ih fun j hj => hl j (by simp [hj])
def zerosB (s : List Int) : Bool := [at0 s 0, at0 s 1, at0 s 2, at0 s 3] == [0, 0, 0, 0]
theorem eqSet (s : List Int) (w : World) : (binOp .eql 75 (.agg #[.int .i64 (at0 s 0), .int .i64 (at0 s 1), .int .i64 (at0 s 2), .int .i64 (at0 s 3)]) (.agg #[.int .i64 0, .int .i64 0, .int .i64 0, .int .i64 0])).run Tryz.prog w = .ok (.bool (zerosB s)) w := by
  have h := eq_ints (P := Tryz.prog) 9998 75 3 4 (by kernel_rfl) (by kernel_rfl) (fun w => by simp [go_sem]) [at0 s 0, at0 s 1, at0 s 2, at0 s 3] [0, 0, 0, 0] rfl rfl w
  have e := run_eql_struct (P := Tryz.prog) (t := 75)
  rw [run_eql_struct]
  exact (congrArg (fun r => r.andThen fun a w' => Result.ok (Value.bool a) w') h)
end Go.Proofs.YticfcdbfplfmlaaGreat.Tu
/- The walks of layer 3: the coolest setting by which some frames are dry in time. -/
namespace Go.Proofs.YticfcdbfplfmlaaGreat.Tu
open Go.RowKit Go.Maps
attribute [local go_sem] Oper.semAt_some

theorem heat_zero {ps : List Pt} (hok : ∀ p ∈ ps, PtOk p) {t y : List Int} (ht : ∀ i, at0 t i = 0) (hy : SetOk y) : ∀ n, n ≤ ps.length → heatTo ps t n ≤ heatTo ps y n
  | 0, _ => by simp [heatTo]
  | n + 1, h => by
    have ih := heat_zero hok ht hy n (by omega)
    have h1 := Pt.h_mono (hok ps[n] (List.getElem_mem _)) (hy.at n).1 (Int.le_refl 0)
    rw [heatTo_succ (by omega), heatTo_succ (by omega), ht n]
    omega
theorem zeros_all {t : List Int} (hl : t.length ≤ 4) (h : zerosB t = true) (i : Nat) : at0 t i = 0 := by
  simp [zerosB] at h
  by_cases hi : i < 4
  · obtain rfl | rfl | rfl | rfl : i = 0 ∨ i = 1 ∨ i = 2 ∨ i = 3 := by omega
    · exact h.1
    · exact h.2.1
    · exact h.2.2.1
    · exact h.2.2.2
  · simp [at0, List.getD, List.getElem?_eq_none (by omega : t.length ≤ i)]
theorem cool_stop {ps : List Pt} {P : List Int → Bool} (hok : ∀ p ∈ ps, PtOk p) (h4 : ps.length ≤ 4) {j : Nat} {t : List Int} (h : bestOf (heatD ps) (((setsL ps.length).take j).filter P) = some t) (hz : zerosB t = true) : bestOf (heatD ps) ((setsL ps.length).filter P) = some t := by
  have hmem := best_mem h
  rw [List.mem_filter] at hmem
  have ht := zeros_all (by have := (mem_setsL.1 (List.mem_of_mem_take hmem.1)).1; omega) hz
  obtain ⟨m1, m2, e, a, b⟩ := best_some h
  refine best_unique (m1 := m1) (m2 := m2 ++ ((setsL ps.length).drop j).filter P) ?_ a ?_
  · rw [show m1 ++ t :: (m2 ++ ((setsL ps.length).drop j).filter P) = (m1 ++ t :: m2) ++ ((setsL ps.length).drop j).filter P by simp, ← e, ← List.filter_append, List.take_append_drop]
  · intro z hz2
    rcases List.mem_append.1 hz2 with hz2 | hz2
    · exact b z hz2
    · exact heat_zero hok ht (set_ok (List.mem_of_mem_drop (List.mem_filter.1 hz2).1) h4) ps.length (Nat.le_refl _)

/-- What an offer leaves. -/
def OfferedTo (ps : List Pt) (ms : List FrM) (xs : List (List Int)) (cb lo : Nat) (A : World) (e : Ending) (B : World) : Prop :=
  (∃ v, e = .returned v) ∧ FromB cb A B ∧ ∃ t p c, bestOf (heatD ps) xs = some t ∧ Row B cb (choA t (heatD ps t) p (goodD ps (frsM ms) t).length c true 61) 133 ∧ IntsAt B p (goodD ps (frsM ms) t) ∧ ∀ b o, p = some ⟨b, o, none⟩ → lo ≤ b
theorem offer_step (ps : List Pt) (ms : List FrM) (xs : List (List Int)) (cb lo : Nat) (A : World) (h : ChoAt (heatD ps) ps ms xs 61 cb lo A) (hlo : cb < lo) (s : List Int) (p : Option Addr) (c : Nat) (hi : IntsAt A p (goodD ps (frsM ms) s)) (hf : ∀ b o, p = some ⟨b, o, none⟩ → lo ≤ b) :
    Calls Tryz.prog 64 #[.pointer (some ⟨cb, 0, none⟩), .agg (outA s (heatD ps s) p (goodD ps (frsM ms) s).length c)] A (OfferedTo ps ms (xs ++ [s]) cb lo A) := by
  rcases h with ⟨e0, hrow⟩ | ⟨t, p', c', e0, hrow, hit, hft⟩
  · refine (offer_first _ _ _ _ _ _ s _ p _ c _ A hrow).mono ?_
    rintro e B ⟨hv, hrB, hfB⟩
    exact ⟨hv, hfB, s, p, c, by rw [bestOf_snoc, e0]; rfl, hrB, ints_keeps hi hfB.k (fun b o v e _ => by have := hf b o e; omega), hf⟩
  · generalize hb : decide (heatD ps s < heatD ps t) = bb
    refine (offer_cool _ _ _ _ _ _ s _ p _ c A hrow bb hb).mono ?_
    rintro e B ⟨hv, hrB, hfB⟩
    cases bb
    · refine ⟨hv, hfB, t, p', c', ?_, hrB, ints_keeps hit hfB.k (fun b o v e _ => by have := hft b o e; omega), hft⟩
      rw [bestOf_snoc, e0, better, if_neg (by simpa using hb)]
    · refine ⟨hv, hfB, s, p, c, ?_, hrB, ints_keeps hi hfB.k (fun b o v e _ => by have := hf b o e; omega), hf⟩
      rw [bestOf_snoc, e0, better, if_pos (by simpa using hb)]
/-- Some frames of a book, in memory. -/
structure FrsL (w : World) (q : Option Addr) (l : List Nat) (n : Nat) : Prop where
  i : IntsAt w q (l.map fun (i : Nat) => (i : Int))
  n5 : l.length ≤ 5
  lt : ∀ i ∈ l, i < n
def GaveCool (ps : List Pt) (ms : List FrM) (l : List Nat) (mb m : Nat) (w : World) (e : Ending) (w' : World) : Prop :=
  e = .returned (.tuple #[.agg (setA ((coolD ps (frsM ms) l).getD [])), .bool (coolD ps (frsM ms) l).isSome]) ∧ Run w w' mb m ps.length (dryI ps (frsM ms))

set_option maxRecDepth 10000 in
set_option maxHeartbeats 1600000 in
theorem coolest_any (pp : Option Addr) (cp : Nat) (pf : Option Addr) (cf mb n : Nat) (ps : List Pt) (ms : List FrM) (q : Option Addr) (cq : Nat) (l : List Nat) (w : World) (hB : BkD w pp pf ps ms mb n) (hl : FrsL w q l ms.length) (hn : n < 10000000) :
    Calls Tryz.prog 33 #[.agg (bookA pp ps.length cp pf ms.length cf mb), .slice q l.length cq] w (GaveCool ps ms l mb (n + 10 * 4 ^ ps.length) w) := by
  have hms := hB.b.n5
  have hmb := hB.d.lt
  have h4 := hB.b.n4
  have hl5 := hl.n5
  refine calls_marks Tryz.func33 rfl ?_
  simp only [Tryz.ntmps33, List.size_toArray, List.length_cons, List.length_nil, Nat.reduceAdd, Nat.reduceSub, Array.replicate_succ, Array.replicate_zero, List.push_toArray, List.append_toArray, List.nil_append, List.cons_append]
  have HBK := Lib.hid hB
  have HLL := Lib.hid hl
  clear hB hl
  go_wp2_with fail
  go_step3
  go_wp2_with fail
  go_step3
  go_wp2_with (first | ((with_reducible refine (settings_any _ _).mono ?_); rintro e w1 ⟨rfl, rfl⟩))
  have hb5 := ((below_alloc3 w (.cells (bookA pp ps.length cp pf ms.length cf mb) 70) (.cells #[.slice q l.length cq] 29) (.cells #[.int .i64 0, .int .i64 0, .int .i64 0, .int .i64 0] 75)).alloc (by simp; omega) (.cells (choA [] 0 none 0 0 false 61) 133)).alloc (by simp; omega) (.cells #[.int .i64 ps.length] 3)
  have rB := ((((Row.new w (bookA pp ps.length cp pf ms.length cf mb) 70).alloc (.cells #[.slice q l.length cq] 29)).alloc (.cells #[.int .i64 0, .int .i64 0, .int .i64 0, .int .i64 0] 75)).alloc (.cells (choA [] 0 none 0 0 false 61) 133)).alloc (.cells #[.int .i64 ps.length] 3)
  have rL := (((Row.new1 w (.cells (bookA pp ps.length cp pf ms.length cf mb) 70) #[.slice q l.length cq] 29).alloc (.cells #[.int .i64 0, .int .i64 0, .int .i64 0, .int .i64 0] 75)).alloc (.cells (choA [] 0 none 0 0 false 61) 133)).alloc (.cells #[.int .i64 ps.length] 3)
  have rO := ((Row.new2 w (.cells (bookA pp ps.length cp pf ms.length cf mb) 70) (.cells #[.slice q l.length cq] 29) #[.int .i64 0, .int .i64 0, .int .i64 0, .int .i64 0] 75).alloc (.cells (choA [] 0 none 0 0 false 61) 133)).alloc (.cells #[.int .i64 ps.length] 3)
  have rC := (Row.new' (w := (((w.alloc (.cells (bookA pp ps.length cp pf ms.length cf mb) 70)).alloc (.cells #[.slice q l.length cq] 29)).alloc (.cells #[.int .i64 0, .int .i64 0, .int .i64 0, .int .i64 0] 75))) (n := w.heap.size + 1 + 1 + 1) (by simp) (choA [] 0 none 0 0 false 61) 133).alloc (.cells #[.int .i64 ps.length] 3)
  have rN := Row.new' (w := ((((w.alloc (.cells (bookA pp ps.length cp pf ms.length cf mb) 70)).alloc (.cells #[.slice q l.length cq] 29)).alloc (.cells #[.int .i64 0, .int .i64 0, .int .i64 0, .int .i64 0] 75)).alloc (.cells (choA [] 0 none 0 0 false 61) 133))) (n := w.heap.size + 1 + 1 + 1 + 1) (by simp) #[.int .i64 ps.length] 3
  have hs5 : w.heap.size + 1 + 1 + 1 + 1 + 1 = (((((w.alloc (.cells (bookA pp ps.length cp pf ms.length cf mb) 70)).alloc (.cells #[.slice q l.length cq] 29)).alloc (.cells #[.int .i64 0, .int .i64 0, .int .i64 0, .int .i64 0] 75)).alloc (.cells (choA [] 0 none 0 0 false 61) 133)).alloc (.cells #[.int .i64 ps.length] 3)).heap.size := by simp
  change Code.wp _ _ _ _ (((((w.alloc (.cells (bookA pp ps.length cp pf ms.length cf mb) 70)).alloc (.cells #[.slice q l.length cq] 29)).alloc (.cells #[.int .i64 0, .int .i64 0, .int .i64 0, .int .i64 0] 75)).alloc (.cells (choA [] 0 none 0 0 false 61) 133)).alloc (.cells #[.int .i64 ps.length] 3))
  generalize (((((w.alloc (.cells (bookA pp ps.length cp pf ms.length cf mb) 70)).alloc (.cells #[.slice q l.length cq] 29)).alloc (.cells #[.int .i64 0, .int .i64 0, .int .i64 0, .int .i64 0] 75)).alloc (.cells (choA [] 0 none 0 0 false 61) 133)).alloc (.cells #[.int .i64 ps.length] 3)) = w5 at *
  have HB5 := Lib.hid hb5
  have HS5 := Lib.hid hs5
  have RB := Lib.hid rB
  have RL := Lib.hid rL
  have RO := Lib.hid rO
  have hd5 : DriedAt w5 mb (n + 10 * 0) ps.length (dryI ps (frsM ms)) := by rw [Nat.mul_zero, Nat.add_zero]; exact HBK.out.d.below hb5
  have hsz5 : w.heap.size + 5 ≤ w5.heap.size := by omega
  have hsz6 : w5.heap.size ≤ w.heap.size + 5 := by omega
  clear hb5 rB rO hs5 rL
  refine range_lawW (KW := 3) 85 #[.pointer (some ⟨w.heap.size + 1 + 1 + 1 + 1, 0, none⟩)] (fun m => m = w.heap.size + 1 + 1 + 1 + 1) ((setsL ps.length).map fun s => #[.agg (setA s)]) rfl (fun args w => Tryz.call85 args w)
    (fun W1 hb _ => settings_iter ps.length _ h4 W1 (rN.below hb (by omega))) (by intro x hx; simp at hx; obtain ⟨_, _, rfl⟩ := hx; rfl) (fun m => m = mb ∨ m = w.heap.size + 1 + 1 + 1) (by rintro m (rfl | rfl) <;> exact ⟨by omega, by omega⟩) (by omega)
    (fun (j : Nat) (A : World) => ChoAt (heatD ps) ps ms (((setsL ps.length).take j).filter fun s => l.all (dryI ps (frsM ms) s)) 61 (w.heap.size + 1 + 1 + 1) (w5.heap.size + 5) A ∧ DriedAt A mb (n + 10 * j) ps.length (dryI ps (frsM ms)))
    (fun c A => c = .exit 0 ∧ ∃ t p c, coolD ps (frsM ms) l = some t ∧ Row A (w.heap.size + 1 + 1 + 1) (choA t (heatD ps t) p (goodD ps (frsM ms) t).length c true 61) 133 ∧ DriedAt A mb (n + 10 * 4 ^ ps.length) ps.length (dryI ps (frsM ms)))
    (fun j A B h hb => ⟨h.1.keeps hb (by omega) (fun b _ _ _ hl => by omega), h.2.of_same (hb.block _ h.2.lt (by omega))⟩) (fun c A B h hb => by obtain ⟨e, t, p, c, h1, h2, h3⟩ := h; exact ⟨e, t, p, c, h1, h2.keeps hb (by omega), h3.of_same (hb.block _ h3.lt (by omega))⟩) ⟨.inl ⟨rfl, rC⟩, hd5⟩ ?body ?done ?stop
  case body =>
    rintro l0 j x A rfl hx ⟨hI, hD⟩ hkeep hlA
    obtain ⟨s, hq, rfl⟩ : ∃ s, (setsL ps.length)[j]? = some s ∧ x = #[.agg (setA s)] := by
      rw [List.getElem?_map] at hx
      cases hq : (setsL ps.length)[j]? with
      | none => rw [hq] at hx; cases hx
      | some q => rw [hq] at hx; cases hx; exact ⟨q, rfl, rfl⟩
    have hmem := List.mem_of_getElem? hq
    have hso := set_ok hmem h4
    have HSL := Lib.hid (mem_setsL.1 hmem).1
    have HSO := Lib.hid hso
    have HTK := Lib.hid (show (setsL ps.length).take (j + 1) = (setsL ps.length).take j ++ [s] by rw [List.take_add_one, hq]; rfl)
    have hjl : j < 4 ^ ps.length := by rw [← setsL_length]; exact (List.getElem?_eq_some_iff.1 hq).1
    have hp4 : 4 ^ ps.length ≤ 4 ^ 4 := Nat.pow_le_pow_right (by decide) h4
    have hFA := FromB.of2 HB5.out hkeep (fun m hm => by rcases hm with rfl | rfl; exact .inl rfl; right; omega)
    have HBA := Lib.hid (show BkD A pp pf ps ms mb (n + 10 * j) from ⟨HBK.out.b.fromB hFA HBK.out.d, hD⟩)
    have RBA := Lib.hid (RB.out.keeps hkeep (by rintro (h | h) <;> omega))
    have RLA := Lib.hid (RL.out.keeps hkeep (by rintro (h | h) <;> omega))
    have HK := Lib.hid hkeep
    have HI := Lib.hid hI
    have hszA : w.heap.size + 1 + 1 + 1 < A.heap.size := by omega
    clear hx hq hI hD hkeep hmem hso hFA
    gi_wp2_with fail
    refine ⟨(KeepsBut.refl _ _).alloc _, fun oo => ?_⟩
    have hk2 : KeepsBut (fun m => m = w5.heap.size + 1) A ((A.alloc (.cells (setA s) 75)).putObj (w5.heap.size + 1) oo) := ((KeepsBut.refl (fun m => m = w5.heap.size + 1) A).alloc (.cells (setA s) 75)).putObj (l := w5.heap.size + 1) (.inl rfl) oo
    have hk5 := (HK.out.alloc (.cells (setA s) 75)).putObj (l := w5.heap.size + 1) (.inr (by omega)) oo
    have RS := Lib.hid ((Row.new A (setA s) 75).keeps ((KeepsBut.refl (fun m => m = w5.heap.size + 1) _).putObj (l := w5.heap.size + 1) (.inl rfl) oo) (by omega))
    have RB2 := Lib.hid (RBA.out.keeps hk2 (by omega))
    have RL2 := Lib.hid (RLA.out.keeps hk2 (by omega))
    have HI2 := Lib.hid (HI.out.keeps hk2 (by omega) (fun b _ _ _ hl => by omega))
    have hf2 := FromB.of2 (mb := mb) HB5.out hk5 (fun m hm => by rcases hm with rfl | rfl; exact .inl rfl; right; omega)
    have HB2 := Lib.hid (show BkD ((A.alloc (.cells (setA s) 75)).putObj (w5.heap.size + 1) oo) pp pf ps ms mb (n + 10 * j) from ⟨HBK.out.b.fromB hf2 HBK.out.d, HBA.out.d.of_same (hk2.block _ HBA.out.d.lt (by omega))⟩)
    have HL2 := Lib.hid (hf2.ints HLL.out.i (fun c o e hp => by obtain ⟨c', o', e', hc⟩ := HLL.out.i 0 hp; rw [e] at e'; cases e'; exact dried_ne HBK.out.d hc))
    have hszB : A.heap.size < ((A.alloc (.cells (setA s) 75)).putObj (w5.heap.size + 1) oo).heap.size := RS.out.lt
    change Code.wpIn _ _ _ _ _ _ ((A.alloc (.cells (setA s) 75)).putObj (w5.heap.size + 1) oo)
    generalize (A.alloc (.cells (setA s) 75)).putObj (w5.heap.size + 1) oo = A2 at *
    have b0 := RB2.out.cell 0 (v := .slice pp ps.length cp) rfl
    have b1 := RB2.out.cell 1 (v := .slice pf ms.length cf) rfl
    have b2 := RB2.out.cell 2 (v := .map (some mb)) rfl
    have s0 := RS.out.cell 0 (v := .int .i64 (at0 s 0)) rfl
    have s1 := RS.out.cell 1 (v := .int .i64 (at0 s 1)) rfl
    have s2 := RS.out.cell 2 (v := .int .i64 (at0 s 2)) rfl
    have s3 := RS.out.cell 3 (v := .int .i64 (at0 s 3)) rfl
    clear hk2 hk5 HI RBA RLA HBA HK hf2
    gi_wp2_with fail
    refine inRound_of (by_any pp ps.length cp pf ms.length cf mb s A2) ?_
    rintro e A3 ⟨rfl, hb3⟩
    have hE3 := hb3.trans ((below_alloc A3 (.cells (pasA pp ps.length cp pf ms.length cf mb s) 83)).mono hb3.size)
    have RP := Lib.hid (Row.new A3 (pasA pp ps.length cp pf ms.length cf mb s) 83)
    have HB3 := Lib.hid (HB2.out.below hE3)
    have RL3 := Lib.hid (RL2.out.below hE3 RL2.out.lt)
    have HL3 := Lib.hid (HL2.out.below hE3)
    have HI3 := Lib.hid (HI2.out.keeps (.of_below (M := fun _ => False) hE3) (fun h => h) (fun _ _ _ _ _ h => h))
    have HK3 := Lib.hid (KeepsBut.of_below (M := fun m => m = mb ∨ m = w.heap.size + 1 + 1 + 1) hE3)
    have hsz3 := hb3.size
    clear hb3 b0 b1 b2 s0 s1 s2 s3 RS RB2 HI2 HB2 HL2
    have l0' := RL3.out.cell 0 (v := .slice q l.length cq) rfl
    gi_wp2_with fail
    have hzA3 : A3.heap.size < (A3.alloc (.cells (pasA pp ps.length cp pf ms.length cf mb s) 83)).heap.size := RP.out.lt
    change Code.wpIn _ _ _ _ _ _ (A3.alloc (.cells (pasA pp ps.length cp pf ms.length cf mb s) 83))
    generalize A3.alloc (.cells (pasA pp ps.length cp pf ms.length cf mb s) 83) = A4 at *
    have HLT := Lib.hid HLL.out.lt
    clear l0' hE3
    gi_loopw [23] (fun i wr => ∃ k : Nat, k ≤ l.length ∧ i = .int .i64 k ∧ (∀ i (h : i < l.length), i < k → dryI ps (frsM ms) s l[i] = true) ∧ Run A4 wr mb (n + 10 * j + k) ps.length (dryI ps (frsM ms))) (fun i _ => l.length - (intOf i).toNat)
    case atStart => exact ⟨0, by omega, rfl, fun i _ h => by omega, Run.refl HB3.out.d⟩
    case round =>
      obtain ⟨k, hk, rfl, hok, hrun⟩ := hrel
      have HOK := Lib.hid hok
      have HR := Lib.hid hrun
      have hszr := hrun.size
      obtain ⟨p0, p1, p2, p3, p4, p5, p6⟩ := (hrun.row HB3.out.d RP.out).pas
      clear hok hrun
      by_cases hlt : k < l.length
      · obtain ⟨bq, oq, hqe, hqc⟩ := (HR.out.ints HB3.out.d HL3.out) k (by simpa using hlt)
        subst hqe
        rw [at0_lt (by simpa using hlt), List.getElem_map] at hqc
        have hlk := HLT.out l[k] (List.getElem_mem _)
        have HD := Lib.hid (dry_run pp cp pf cf mb (n + 10 * j + k) s ps ms wr (HR.out.bkd HB3.out) (by omega) HSL.out HSO.out l[k] hlk)
        cases hv : dryI ps (frsM ms) s l[k]
        · have HV := Lib.hid hv
          clear hv
          gi_wp2_with fail
          refine inRound_of HD.out ?_
          rw [HV.out]
          rintro e B ⟨rfl, hr1⟩
          have HR1 := Lib.hid (HR.out.trans hr1)
          clear hr1 p0 p1 p2 p3 p4 p5 p6 hqc
          gi_wp2_with fail
          have hno : (l.all (dryI ps (frsM ms) s)) = false := by
            rw [List.all_eq_false]
            exact ⟨l[k], List.getElem_mem _, by rw [HV.out]; simp⟩
          refine ⟨HK3.out.trans (HR1.out.f.k.mono fun _ _ h => .inl h), ?_, (HR1.out.d).mono (by omega)⟩
          rw [HTK.out, List.filter_append, List.filter_cons, if_neg (by rw [hno]; simp), List.filter_nil, List.append_nil]
          exact HI3.out.keeps (B := B) HR1.out.f.k (by omega) (fun b o v hc _ => dried_ne HB3.out.d hc)
        · have HV := Lib.hid hv
          clear hv
          gi_wp2_with fail
          refine inRound_of HD.out ?_
          rw [HV.out]
          rintro e B ⟨rfl, hr1⟩
          have HR1 := Lib.hid (HR.out.trans hr1)
          clear hr1 p0 p1 p2 p3 p4 p5 p6 hqc
          gi_wp2_with fail
          go_roundw
          case rel => exact ⟨k + 1, by omega, by go_num, fun i h h2 => by
            by_cases e : i = k
            · subst e; exact HV.out
            · exact HOK.out i h (by omega), HR1.out⟩
          case measure => simp [intOf]; omega
      · obtain rfl : k = l.length := by omega
        have HALL := Lib.hid (show (l.all (dryI ps (frsM ms) s)) = true from List.all_eq_true.2 (fun x hx => by obtain ⟨i, hi, rfl⟩ := List.mem_iff_getElem.1 hx; exact HOK.out i hi hi))
        gi_wp2_with fail
        refine inRound_of (outcome_any pp cp pf cf mb (n + 10 * j + l.length) s ps ms wr (HR.out.bkd HB3.out) (by omega) HSL.out HSO.out) ?_
        rintro e A5 ⟨p, c, rfl, hip, hfp, hr5⟩
        have HR5 := Lib.hid (HR.out.trans hr5)
        have HI5 := Lib.hid (HI3.out.keeps (B := A5) HR5.out.f.k (by omega) (fun b o v hc _ => dried_ne HB3.out.d hc))
        have HIP := Lib.hid hip
        have HFP := Lib.hid (fun b o e => Nat.le_trans hszr (hfp b o e) : ∀ b o, p = some ⟨b, o, none⟩ → A4.heap.size ≤ b)
        clear hip hfp hr5 p0 p1 p2 p3 p4 p5 p6
        gi_wp2_with fail
        refine inRound_of (offer_step ps ms _ _ _ A5 HI5.out (by omega) s p c HIP.out (fun b o e => by have := HFP.out b o e; omega)) ?_
        rintro e B ⟨⟨v, rfl⟩, hfB, t, p', c', hbt, hrB, hit, hft⟩
        have HRB := Lib.hid hrB
        have HFB := Lib.hid hfB
        have HIT := Lib.hid hit
        have HFT := Lib.hid hft
        have HBT := Lib.hid (show bestOf (heatD ps) (((setsL ps.length).take (j + 1)).filter fun s => l.all (dryI ps (frsM ms) s)) = some t by rw [HTK.out, List.filter_append, List.filter_cons, if_pos HALL.out, List.filter_nil]; exact hbt)
        have HKB := Lib.hid (show KeepsBut (fun m => m = mb ∨ m = w.heap.size + 1 + 1 + 1) A2 B from (HK3.out.trans (HR5.out.f.k.mono fun _ _ h => .inl h)).trans (HFB.out.k.mono fun _ _ h => .inr h))
        have HDB := Lib.hid ((HR5.out.d.of_same (HFB.out.k.block _ HR5.out.d.lt (by omega))).mono (show n + 10 * j + l.length + 5 ≤ n + 10 * (j + 1) by omega))
        obtain ⟨c0, c1, c2, c3, c4, c5, c6, _⟩ := hrB.cho
        have heq := eqSet t
        have HST := Lib.hid (cool_stop (P := fun s => l.all (dryI ps (frsM ms) s)) HB3.out.b.ok.p h4 HBT.out)
        clear hfB hbt hrB hit hft
        cases hz : zerosB t
        · rw [hz] at heq
          gi_wp2_with fail
          clear heq
          exact ⟨HKB.out, .inr ⟨t, p', c', HBT.out, HRB.out, HIT.out, HFT.out⟩, HDB.out⟩
        · rw [hz] at heq
          gi_wp2_with fail
          clear heq
          exact ⟨HKB.out, rfl, t, p', c', HST.out hz, HRB.out, HDB.out.mono (by omega)⟩
  case done =>
    rintro B ⟨hI, hD⟩ hkeep hsz hDef
    rw [List.length_map, List.take_length] at hI
    rw [List.length_map, setsL_length] at hD
    have HRO := Lib.hid (RO.out.keeps hkeep (by rintro (h | h) <;> omega))
    have HKE := Lib.hid hkeep
    have HDF := Lib.hid hDef
    have HDD := Lib.hid hD
    have hzB := HRO.out.lt
    rcases hI with ⟨e0, hrow⟩ | ⟨s, p, c, e0, hrow, _, _⟩
    · have HROW := Lib.hid hrow
      have HE0 := Lib.hid (show coolD ps (frsM ms) l = none from e0)
      clear hkeep hDef hD e0 hrow
      obtain ⟨c0, c1, c2, c3, _, _, c6, _⟩ := HROW.out.cho
      have o0 := HRO.out.cell 0 (v := .int .i64 0) rfl
      have o1 := HRO.out.cell 1 (v := .int .i64 0) rfl
      have o2 := HRO.out.cell 2 (v := .int .i64 0) rfl
      have o3 := HRO.out.cell 3 (v := .int .i64 0) rfl
      have f0 := HRO.out.free 0
      have f1 := HRO.out.free 1
      have f2 := HRO.out.free 2
      have f3 := HRO.out.free 3
      go_wp2_with fail
      go_region
      all_goals
        go_wp2_with fail
        rw [Exit.noGoto_ret]
        clear c0 c1 c2 c3 c6 o0 o1 o2 o3 f0 f1 f2 f3
        have q0 := ((((HRO.out.set 0 (.int .i64 (at0 [] 0))).set 1 (.int .i64 (at0 [] 1))).set 2 (.int .i64 (at0 [] 2))).set 3 (.int .i64 (at0 [] 3))).drew
        have fb := (((((FromB.refl (w.heap.size + 1 + 1) B).set 0 (.int .i64 (at0 [] 0))).set 1 (.int .i64 (at0 [] 1))).set 2 (.int .i64 (at0 [] 2))).set 3 (.int .i64 (at0 [] 3))).drew
        have hzB2 := HKE.out.size
        have hDC := (fb.k.block w5.heap.size (by omega) (by omega)).trans HDF.out
        have hmk : Marks w.heap.size [{ target := .collected w5.heap.size, args := #[] }] _ := ⟨⟨_, rfl, by omega, hDC, by simp⟩, trivial⟩
        refine marks_leave hmk (fun B2 hB2 => ?_)
        have q1 : Row B2 (w.heap.size + 1 + 1) (setA []) 75 := by
          unfold Row
          rw [hB2.rest _ (fun o h => by unfold Row at q0; rw [q0] at h; cases h)]
          exact q0
        have d0 := q1.cell 0 (v := .int .i64 (at0 [] 0)) rfl
        have d1 := q1.cell 1 (v := .int .i64 (at0 [] 1)) rfl
        have d2 := q1.cell 2 (v := .int .i64 (at0 [] 2)) rfl
        have d3 := q1.cell 3 (v := .int .i64 (at0 [] 3)) rfl
        refine ⟨.tuple #[.agg (setA []), .bool false], by simp [results, Tryz.results33, go_sem, d0, d1, d2, d3], ?_⟩
        refine ⟨by rw [HE0.out]; rfl, ?_, ?_⟩
        · exact ((FromB.of2 HB5.out HKE.out (fun m hm => by rcases hm with rfl | rfl; exact .inl rfl; right; omega)).low (fb.k.below (n := w.heap.size) (by omega) (fun k hk e => by omega)) (Nat.le_refl _)).low hB2.below (Nat.le_refl _)
        · exact (HDD.out.of_same (fb.k.block _ HDD.out.lt (by omega))).of_same (hB2.below.block _ hmb)
    · have HROW := Lib.hid hrow
      have HE0 := Lib.hid (show coolD ps (frsM ms) l = some s from e0)
      clear hkeep hDef hD e0 hrow
      obtain ⟨c0, c1, c2, c3, _, _, c6, _⟩ := HROW.out.cho
      have o0 := HRO.out.cell 0 (v := .int .i64 0) rfl
      have o1 := HRO.out.cell 1 (v := .int .i64 0) rfl
      have o2 := HRO.out.cell 2 (v := .int .i64 0) rfl
      have o3 := HRO.out.cell 3 (v := .int .i64 0) rfl
      have f0 := HRO.out.free 0
      have f1 := HRO.out.free 1
      have f2 := HRO.out.free 2
      have f3 := HRO.out.free 3
      go_wp2_with fail
      go_region
      all_goals
        go_wp2_with fail
        rw [Exit.noGoto_ret]
        clear c0 c1 c2 c3 c6 o0 o1 o2 o3 f0 f1 f2 f3
        have q0 := ((((HRO.out.set 0 (.int .i64 (at0 s 0))).set 1 (.int .i64 (at0 s 1))).set 2 (.int .i64 (at0 s 2))).set 3 (.int .i64 (at0 s 3))).drew
        have fb := (((((FromB.refl (w.heap.size + 1 + 1) B).set 0 (.int .i64 (at0 s 0))).set 1 (.int .i64 (at0 s 1))).set 2 (.int .i64 (at0 s 2))).set 3 (.int .i64 (at0 s 3))).drew
        have hzB2 := HKE.out.size
        have hDC := (fb.k.block w5.heap.size (by omega) (by omega)).trans HDF.out
        have hmk : Marks w.heap.size [{ target := .collected w5.heap.size, args := #[] }] _ := ⟨⟨_, rfl, by omega, hDC, by simp⟩, trivial⟩
        refine marks_leave hmk (fun B2 hB2 => ?_)
        have q1 : Row B2 (w.heap.size + 1 + 1) (setA s) 75 := by
          unfold Row
          rw [hB2.rest _ (fun o h => by unfold Row at q0; rw [q0] at h; cases h)]
          exact q0
        have d0 := q1.cell 0 (v := .int .i64 (at0 s 0)) rfl
        have d1 := q1.cell 1 (v := .int .i64 (at0 s 1)) rfl
        have d2 := q1.cell 2 (v := .int .i64 (at0 s 2)) rfl
        have d3 := q1.cell 3 (v := .int .i64 (at0 s 3)) rfl
        refine ⟨.tuple #[.agg (setA s), .bool true], by simp [results, Tryz.results33, go_sem, d0, d1, d2, d3], ?_⟩
        refine ⟨by rw [HE0.out]; rfl, ?_, ?_⟩
        · exact ((FromB.of2 HB5.out HKE.out (fun m hm => by rcases hm with rfl | rfl; exact .inl rfl; right; omega)).low (fb.k.below (n := w.heap.size) (by omega) (fun k hk e => by omega)) (Nat.le_refl _)).low hB2.below (Nat.le_refl _)
        · exact (HDD.out.of_same (fb.k.block _ HDD.out.lt (by omega))).of_same (hB2.below.block _ hmb)
  case stop =>
    rintro co B ⟨rfl, s, p, c, e0, hrow, hD⟩ hkeep hsz hDef
    have HRO := Lib.hid (RO.out.keeps hkeep (by rintro (h | h) <;> omega))
    have HKE := Lib.hid hkeep
    have HDF := Lib.hid hDef
    have HDD := Lib.hid hD
    have hzB := HRO.out.lt
    have HROW := Lib.hid hrow
    have HE0 := Lib.hid e0
    clear hkeep hDef hD e0 hrow
    obtain ⟨c0, c1, c2, c3, _, _, c6, _⟩ := HROW.out.cho
    have o0 := HRO.out.cell 0 (v := .int .i64 0) rfl
    have o1 := HRO.out.cell 1 (v := .int .i64 0) rfl
    have o2 := HRO.out.cell 2 (v := .int .i64 0) rfl
    have o3 := HRO.out.cell 3 (v := .int .i64 0) rfl
    have f0 := HRO.out.free 0
    have f1 := HRO.out.free 1
    have f2 := HRO.out.free 2
    have f3 := HRO.out.free 3
    go_wp2_with fail
    go_region
    all_goals
      go_wp2_with fail
      rw [Exit.noGoto_ret]
      clear c0 c1 c2 c3 c6 o0 o1 o2 o3 f0 f1 f2 f3
      have q0 := ((((HRO.out.set 0 (.int .i64 (at0 s 0))).set 1 (.int .i64 (at0 s 1))).set 2 (.int .i64 (at0 s 2))).set 3 (.int .i64 (at0 s 3))).drew
      have fb := (((((FromB.refl (w.heap.size + 1 + 1) B).set 0 (.int .i64 (at0 s 0))).set 1 (.int .i64 (at0 s 1))).set 2 (.int .i64 (at0 s 2))).set 3 (.int .i64 (at0 s 3))).drew
      have hzB2 := HKE.out.size
      have hDC := (fb.k.block w5.heap.size (by omega) (by omega)).trans HDF.out
      have hmk : Marks w.heap.size [{ target := .collected w5.heap.size, args := #[] }] _ := ⟨⟨_, rfl, by omega, hDC, by simp⟩, trivial⟩
      refine marks_leave hmk (fun B2 hB2 => ?_)
      have q1 : Row B2 (w.heap.size + 1 + 1) (setA s) 75 := by
        unfold Row
        rw [hB2.rest _ (fun o h => by unfold Row at q0; rw [q0] at h; cases h)]
        exact q0
      have d0 := q1.cell 0 (v := .int .i64 (at0 s 0)) rfl
      have d1 := q1.cell 1 (v := .int .i64 (at0 s 1)) rfl
      have d2 := q1.cell 2 (v := .int .i64 (at0 s 2)) rfl
      have d3 := q1.cell 3 (v := .int .i64 (at0 s 3)) rfl
      refine ⟨.tuple #[.agg (setA s), .bool true], by simp [results, Tryz.results33, go_sem, d0, d1, d2, d3], ?_⟩
      refine ⟨by rw [HE0.out]; rfl, ?_, ?_⟩
      · exact ((FromB.of2 HB5.out HKE.out (fun m hm => by rcases hm with rfl | rfl; exact .inl rfl; right; omega)).low (fb.k.below (n := w.heap.size) (by omega) (fun k hk e => by omega)) (Nat.le_refl _)).low hB2.below (Nat.le_refl _)
      · exact (HDD.out.of_same (fb.k.block _ HDD.out.lt (by omega))).of_same (hB2.below.block _ hmb)

end Go.Proofs.YticfcdbfplfmlaaGreat.Tu
/- The walks of layer 3: which frames are lost. -/
namespace Go.Proofs.YticfcdbfplfmlaaGreat.Tu
open Go.RowKit Go.Maps
attribute [local go_sem] Oper.semAt_some

def lostI (ps : List Pt) (fs : List Fr) (i : Nat) : Bool := (coolD ps fs [i]).isNone

end Go.Proofs.YticfcdbfplfmlaaGreat.Tu
