/- The walks of layer 3: the setting of the most frames. -/
import Derived.Test.YticfcdbfplfmlaaTuUH
namespace Go.Proofs.Yticfcdbfplfmlaa.Tu
open Go.RowKit Go.Maps
attribute [local go_sem] Oper.semAt_some

theorem inRound_of {P : Program} {f : FuncId} {args : Array Value} {w : World} {R Q : Ending → World → Prop} {l n : Nat} (h : Calls P f args w R) (hq : ∀ e w', R e w' → Q e w') : Fence.wide.fn f ∧ Fence.wide.depth = none ∧ CallsIn (Fence.wide.inRound l) n P f args w Q :=
  ⟨trivial, rfl, CallsIn.inRound l (callsIn_wide.2 (h.mono hq))⟩
theorem ints_same {A B : World} {n : Nat} {p : Option Addr} {xs : List Int} (h : IntsAt A p xs) (k : SameBut n A B) : IntsAt B p xs := by
  intro i hl
  obtain ⟨b, o, hb, hc⟩ := h i hl
  refine ⟨b, o, hb, ?_⟩
  rw [World.cell?_of_block (k.rest b (fun o' e => by unfold World.cell? at hc; rw [e] at hc; simp at hc))]
  exact hc
/-- The rank of an outcome. -/
theorem rank_eq (ps : List Pt) (fs : List Fr) (s t : List Int) : decide (rankD ps fs s < rankD ps fs t) = decide (heatD ps s - 1000 * ((goodD ps fs s).length : Int) < heatD ps t - 1000 * ((goodD ps fs t).length : Int)) := rfl
theorem good_le (ps : List Pt) (ms : List FrM) (s : List Int) : (goodD ps (frsM ms) s).length ≤ ms.length := by rw [← good_eq]; exact pickL_length _ _
/-- The choice so far, of the first settings. -/
def ChoAt (rk : List Int → Int) (ps : List Pt) (ms : List FrM) (xs : List (List Int)) (f cb lo : Nat) (A : World) : Prop :=
  (bestOf rk xs = none ∧ Row A cb (choA [] 0 none 0 0 false f) 192) ∨
  ∃ s p c, bestOf rk xs = some s ∧ Row A cb (choA s (heatD ps s) p (goodD ps (frsM ms) s).length c true f) 192 ∧ IntsAt A p (goodD ps (frsM ms) s) ∧ ∀ b o, p = some ⟨b, o, none⟩ → lo ≤ b
theorem ints_keeps {A B : World} {M : Nat → Prop} {p : Option Addr} {xs : List Int} (h : IntsAt A p xs) (k : KeepsBut M A B) (h2 : ∀ b o v, p = some ⟨b, o, none⟩ → A.cell? ⟨b, o + 0, none⟩ = some v → ¬ M b) : IntsAt B p xs := by
  intro i hl
  obtain ⟨b, o, hb, hc⟩ := h i hl
  obtain ⟨b', o', hb', hc'⟩ := h 0 (by omega)
  rw [hb] at hb'
  cases hb'
  exact ⟨b, o, hb, by rw [World.cell?_of_block (k.block b (cell_block hc) (h2 b o _ hb hc'))]; exact hc⟩
theorem ChoAt.keeps {rk : List Int → Int} {ps : List Pt} {ms : List FrM} {xs : List (List Int)} {f cb lo : Nat} {A B : World} {M : Nat → Prop} (h : ChoAt rk ps ms xs f cb lo A) (k : KeepsBut M A B) (h1 : ¬ M cb) (h2 : ∀ b o v, A.cell? ⟨b, o, none⟩ = some v → lo ≤ b → ¬ M b) : ChoAt rk ps ms xs f cb lo B := by
  rcases h with ⟨e, h⟩ | ⟨s, p, c, e, h, hi, hp⟩
  · exact .inl ⟨e, h.keeps k h1⟩
  · exact .inr ⟨s, p, c, e, h.keeps k h1, ints_keeps hi k (fun b o v e hc => h2 b _ v hc (hp b o e)), hp⟩
theorem FromB.of2 {w W A : World} {mb : Nat} {M : Nat → Prop} (hb : Below w.heap.size w W) (k : KeepsBut M W A) (hM : ∀ m, M m → m = mb ∨ w.heap.size ≤ m) : FromB mb w A := by
  refine ⟨⟨k.os.trans hb.os, k.tape.trans hb.tape, k.output.trans hb.output, Nat.le_trans hb.size k.size, fun i hi hm => ?_⟩⟩
  have := hb.size
  rw [k.block i (by omega) (fun h => by rcases hM _ h with h | h <;> omega)]; exact hb.block i hi
/-- The call returned an outcome, that of a setting. -/
def GaveMost (ps : List Pt) (ms : List FrM) (mb m : Nat) (w : World) (e : Ending) (w' : World) : Prop := GaveOut ps ms (mostD ps (frsM ms)) mb m w e w'

set_option maxRecDepth 10000 in
set_option maxHeartbeats 1600000 in
theorem most_any (pp : Option Addr) (cp : Nat) (pf : Option Addr) (cf mb n : Nat) (ps : List Pt) (ms : List FrM) (w : World) (hB : BkD w pp pf ps ms mb n) (hn : n < 10000000) :
    Calls Try.prog 87 #[.agg (bookA pp ps.length cp pf ms.length cf mb)] w (GaveMost ps ms mb (n + 5 * 4 ^ ps.length) w) := by
  have hms := hB.b.n5
  have hmb := hB.d.lt
  have h4 := hB.b.n4
  refine calls_marks Try.func87 rfl ?_
  simp only [Try.ntmps87, List.size_toArray, List.length_cons, List.length_nil, Nat.reduceAdd, Nat.reduceSub, Array.replicate_succ, Array.replicate_zero, List.push_toArray, List.append_toArray, List.nil_append, List.cons_append]
  have HBK := Lib.hid hB
  clear hB
  go_wp2_with (first | ((with_reducible refine (settings_any _ _).mono ?_); rintro e w1 ⟨rfl, rfl⟩))
  have hb5 := (below_alloc3 w (.cells (bookA pp ps.length cp pf ms.length cf mb) 127) (.cells #[.int .i64 0, .int .i64 0, .int .i64 0, .int .i64 0, .int .i64 0, .slice none 0 0] 141) (.cells (choA [] 0 none 0 0 false 128) 192)).alloc (by simp; omega) (.cells #[.int .i64 ps.length] 3)
  have rB := (((Row.new w (bookA pp ps.length cp pf ms.length cf mb) 127).alloc (.cells #[.int .i64 0, .int .i64 0, .int .i64 0, .int .i64 0, .int .i64 0, .slice none 0 0] 141)).alloc (.cells (choA [] 0 none 0 0 false 128) 192)).alloc (.cells #[.int .i64 ps.length] 3)
  have rO := ((Row.new1 w (.cells (bookA pp ps.length cp pf ms.length cf mb) 127) #[.int .i64 0, .int .i64 0, .int .i64 0, .int .i64 0, .int .i64 0, .slice none 0 0] 141).alloc (.cells (choA [] 0 none 0 0 false 128) 192)).alloc (.cells #[.int .i64 ps.length] 3)
  have rC := (Row.new2 w (.cells (bookA pp ps.length cp pf ms.length cf mb) 127) (.cells #[.int .i64 0, .int .i64 0, .int .i64 0, .int .i64 0, .int .i64 0, .slice none 0 0] 141) (choA [] 0 none 0 0 false 128) 192).alloc (.cells #[.int .i64 ps.length] 3)
  have rN := Row.new' (w := ((w.alloc (.cells (bookA pp ps.length cp pf ms.length cf mb) 127)).alloc (.cells #[.int .i64 0, .int .i64 0, .int .i64 0, .int .i64 0, .int .i64 0, .slice none 0 0] 141)).alloc (.cells (choA [] 0 none 0 0 false 128) 192)) (n := w.heap.size + 1 + 1 + 1) (by simp) #[.int .i64 ps.length] 3
  have hs5 : w.heap.size + 1 + 1 + 1 + 1 = ((((w.alloc (.cells (bookA pp ps.length cp pf ms.length cf mb) 127)).alloc (.cells #[.int .i64 0, .int .i64 0, .int .i64 0, .int .i64 0, .int .i64 0, .slice none 0 0] 141)).alloc (.cells (choA [] 0 none 0 0 false 128) 192)).alloc (.cells #[.int .i64 ps.length] 3)).heap.size := by simp
  change Code.wp _ _ _ _ ((((w.alloc (.cells (bookA pp ps.length cp pf ms.length cf mb) 127)).alloc (.cells #[.int .i64 0, .int .i64 0, .int .i64 0, .int .i64 0, .int .i64 0, .slice none 0 0] 141)).alloc (.cells (choA [] 0 none 0 0 false 128) 192)).alloc (.cells #[.int .i64 ps.length] 3))
  generalize ((((w.alloc (.cells (bookA pp ps.length cp pf ms.length cf mb) 127)).alloc (.cells #[.int .i64 0, .int .i64 0, .int .i64 0, .int .i64 0, .int .i64 0, .slice none 0 0] 141)).alloc (.cells (choA [] 0 none 0 0 false 128) 192)).alloc (.cells #[.int .i64 ps.length] 3)) = w5 at *
  have HB5 := Lib.hid hb5
  have HS5 := Lib.hid hs5
  have RB := Lib.hid rB
  have RO := Lib.hid rO
  have hd5 : DriedAt w5 mb (n + 5 * 0) ps.length (dryI ps (frsM ms)) := by rw [Nat.mul_zero, Nat.add_zero]; exact HBK.out.d.below hb5
  have hsz5 : w.heap.size + 4 ≤ w5.heap.size := by omega
  have hsz6 : w5.heap.size ≤ w.heap.size + 4 := by omega
  clear hb5 rB rO hs5
  refine range_lawW (KW := 3) 156 #[.pointer (some ⟨w.heap.size + 1 + 1 + 1, 0, none⟩)] (fun m => m = w.heap.size + 1 + 1 + 1) ((setsL ps.length).map fun s => #[.agg (setA s)]) rfl (fun args w => Try.call156 args w)
    (fun W1 hb _ => settings_iter ps.length _ h4 W1 (rN.below hb (by omega))) (by intro x hx; simp at hx; obtain ⟨_, _, rfl⟩ := hx; rfl) (fun m => m = mb ∨ m = w.heap.size + 1 + 1) (by rintro m (rfl | rfl) <;> exact ⟨by omega, by omega⟩) (by omega)
    (fun (j : Nat) (A : World) => ChoAt (rankD ps (frsM ms)) ps ms ((setsL ps.length).take j) 128 (w.heap.size + 1 + 1) (w5.heap.size + 5) A ∧ DriedAt A mb (n + 5 * j) ps.length (dryI ps (frsM ms))) (fun _ _ => False)
    (fun j A B h hb => ⟨h.1.keeps hb (by omega) (fun b _ _ _ hl => by omega), h.2.of_same (hb.block _ h.2.lt (by omega))⟩) (fun _ _ _ h _ => h) ⟨.inl ⟨rfl, rC⟩, hd5⟩ ?body ?done ?stop
  case body =>
    rintro l j x A rfl hx ⟨hI, hD⟩ hkeep hlA
    obtain ⟨s, hq, rfl⟩ : ∃ s, (setsL ps.length)[j]? = some s ∧ x = #[.agg (setA s)] := by
      rw [List.getElem?_map] at hx
      cases hq : (setsL ps.length)[j]? with
      | none => rw [hq] at hx; cases hx
      | some q => rw [hq] at hx; cases hx; exact ⟨q, rfl, rfl⟩
    have hmem := List.mem_of_getElem? hq
    have hso := set_ok hmem h4
    have HSL := Lib.hid (mem_setsL.1 hmem).1
    have HSO := Lib.hid hso
    have HTK := Lib.hid (show (setsL ps.length).take (j + 1) = (setsL ps.length).take j ++ [s] by rw [List.take_add_one, hq]; rfl)
    have hjl : j < 4 ^ ps.length := by rw [← setsL_length]; exact (List.getElem?_eq_some_iff.1 hq).1
    have hp4 : 4 ^ ps.length ≤ 4 ^ 4 := Nat.pow_le_pow_right (by decide) h4
    have hFA := FromB.of2 HB5.out hkeep (fun m hm => by rcases hm with rfl | rfl; exact .inl rfl; right; omega)
    have HBA := Lib.hid (show BkD A pp pf ps ms mb (n + 5 * j) from ⟨HBK.out.b.fromB hFA HBK.out.d, hD⟩)
    have RBA := Lib.hid (RB.out.keeps hkeep (by rintro (h | h) <;> omega))
    have HK := Lib.hid hkeep
    have HI := Lib.hid hI
    have hszA : w.heap.size + 1 + 1 < A.heap.size := by omega
    clear hx hq hI hD hkeep hmem hso hFA
    gi_wp2_with fail
    refine ⟨(KeepsBut.refl _ _).alloc _, fun oo => ?_⟩
    have hk2 : KeepsBut (fun m => m = w5.heap.size + 1) A ((A.alloc (.cells (setA s) 128)).putObj (w5.heap.size + 1) oo) := ((KeepsBut.refl (fun m => m = w5.heap.size + 1) A).alloc (.cells (setA s) 128)).putObj (l := w5.heap.size + 1) (.inl rfl) oo
    have hk5 := (HK.out.alloc (.cells (setA s) 128)).putObj (l := w5.heap.size + 1) (.inr (by omega)) oo
    have RS := Lib.hid ((Row.new A (setA s) 128).keeps ((KeepsBut.refl (fun m => m = w5.heap.size + 1) _).putObj (l := w5.heap.size + 1) (.inl rfl) oo) (by omega))
    have RB2 := Lib.hid (RBA.out.keeps hk2 (by omega))
    have HI2 := Lib.hid (HI.out.keeps hk2 (by omega) (fun b _ _ _ hl => by omega))
    have HB2 := Lib.hid (show BkD ((A.alloc (.cells (setA s) 128)).putObj (w5.heap.size + 1) oo) pp pf ps ms mb (n + 5 * j) from ⟨HBK.out.b.fromB (FromB.of2 HB5.out hk5 (fun m hm => by rcases hm with rfl | rfl; exact .inl rfl; right; omega)) HBK.out.d, HBA.out.d.of_same (hk2.block _ HBA.out.d.lt (by omega))⟩)
    have hszB : A.heap.size < ((A.alloc (.cells (setA s) 128)).putObj (w5.heap.size + 1) oo).heap.size := RS.out.lt
    change Code.wpIn _ _ _ _ _ _ ((A.alloc (.cells (setA s) 128)).putObj (w5.heap.size + 1) oo)
    generalize (A.alloc (.cells (setA s) 128)).putObj (w5.heap.size + 1) oo = A2 at *
    have b0 := RB2.out.cell 0 (v := .slice pp ps.length cp) rfl
    have b1 := RB2.out.cell 1 (v := .slice pf ms.length cf) rfl
    have b2 := RB2.out.cell 2 (v := .map (some mb)) rfl
    have s0 := RS.out.cell 0 (v := .int .i64 (at0 s 0)) rfl
    have s1 := RS.out.cell 1 (v := .int .i64 (at0 s 1)) rfl
    have s2 := RS.out.cell 2 (v := .int .i64 (at0 s 2)) rfl
    have s3 := RS.out.cell 3 (v := .int .i64 (at0 s 3)) rfl
    clear hk2 hk5 HI RBA HBA HK
    gi_wp2_with fail
    refine inRound_of (by_any pp ps.length cp pf ms.length cf mb s A2) ?_
    rintro e A3 ⟨rfl, hb3⟩
    have HB3 := Lib.hid (HB2.out.below hb3)
    have HI3 := Lib.hid (HI2.out.keeps (.of_below (M := fun _ => False) hb3) (fun h => h) (fun _ _ _ _ _ h => h))
    have HK3 := Lib.hid (KeepsBut.of_below (M := fun m => m = mb ∨ m = w.heap.size + 1 + 1) hb3)
    have hsz3 := hb3.size
    clear hb3 b0 b1 b2 s0 s1 s2 s3 RS RB2
    gi_wp2_with fail
    refine inRound_of (outcome_any pp cp pf cf mb (n + 5 * j) s ps ms A3 HB3.out (by omega) HSL.out HSO.out) ?_
    rintro e A4 ⟨p, c, rfl, hip, hfp, hr4⟩
    have HI4 := Lib.hid (HI3.out.keeps (B := A4) hr4.f.k (by omega) (fun b o v hc _ => dried_ne HB3.out.d hc))
    have HK4 := Lib.hid (HK3.out.trans (hr4.f.k.mono fun _ _ h => .inl h))
    have HD4 := Lib.hid hr4.d
    have HIP := Lib.hid hip
    have HFP := Lib.hid hfp
    have hsz4 := hr4.size
    have hh := heatTo_range (s := s) HB3.out.b.ok.p ps.length (Nat.le_refl _)
    have hgl := good_le ps ms s
    clear hip hfp hr4 HI3 HK3 HI2
    gi_wp2_with fail
    rcases HI4.out with ⟨e0, hrow⟩ | ⟨t, p', c', e0, hrow, hit, hft⟩
    · refine inRound_of (offer_first _ _ _ _ _ _ s _ p _ c _ A4 hrow) ?_
      rintro e B ⟨⟨v, rfl⟩, hrB, hfB⟩
      have HRB := Lib.hid hrB
      have HFB := Lib.hid hfB
      have HE0 := Lib.hid e0
      clear hrB hfB e0 hrow
      gi_wp2_with fail
      have HB5' := Lib.hid (show KeepsBut (fun m => m = mb ∨ m = w.heap.size + 1 + 1) A2 B from HK4.out.trans (HFB.out.k.mono fun _ _ h => .inr h))
      refine ⟨HB5'.out, .inr ⟨s, p, c, by rw [HTK.out, bestOf_snoc, HE0.out]; rfl, HRB.out, ints_keeps HIP.out HFB.out.k (fun b o v e _ => by have := HFP.out b o e; omega), fun b o e => by have := HFP.out b o e; omega⟩, (HD4.out.of_same (HFB.out.k.block _ HD4.out.lt (by omega))).mono (by omega)⟩
    · have hh2 := heatTo_range (s := t) HB3.out.b.ok.p ps.length (Nat.le_refl _)
      have hgl2 := good_le ps ms t
      have HEB := Lib.hid (bestOf_snoc (rankD ps (frsM ms)) ((setsL ps.length).take j) s)
      generalize hb : decide (heatD ps s - 1000 * ((goodD ps (frsM ms) s).length : Int) < heatD ps t - 1000 * ((goodD ps (frsM ms) t).length : Int)) = bb at *
      refine inRound_of (offer_dry _ _ _ _ _ _ s _ p _ c A4 hrow (by omega) (by omega) (by unfold heatD; omega) (by unfold heatD; omega) (by unfold heatD; omega) (by unfold heatD; omega) bb hb) ?_
      rintro e B ⟨⟨v, rfl⟩, hrB, hfB⟩
      have HRB := Lib.hid hrB
      have HFB := Lib.hid hfB
      have HE0 := Lib.hid e0
      have HIT := Lib.hid hit
      have HFT := Lib.hid hft
      have HBB := Lib.hid hb
      clear hrB hfB e0 hrow hit hft hb
      gi_wp2_with fail
      have HB5' := Lib.hid (show KeepsBut (fun m => m = mb ∨ m = w.heap.size + 1 + 1) A2 B from HK4.out.trans (HFB.out.k.mono fun _ _ h => .inr h))
      cases bb
      · refine ⟨HB5'.out, .inr ⟨t, p', c', ?_, HRB.out, ints_keeps HIT.out HFB.out.k (fun b o v e _ => by have := HFT.out b o e; omega), HFT.out⟩, (HD4.out.of_same (HFB.out.k.block _ HD4.out.lt (by omega))).mono (by omega)⟩
        rw [HTK.out, HEB.out, HE0.out, better, if_neg (by have := HBB.out; simpa [rankD] using this)]
      · refine ⟨HB5'.out, .inr ⟨s, p, c, ?_, HRB.out, ints_keeps HIP.out HFB.out.k (fun b o v e _ => by have := HFP.out b o e; omega), fun b o e => by have := HFP.out b o e; omega⟩, (HD4.out.of_same (HFB.out.k.block _ HD4.out.lt (by omega))).mono (by omega)⟩
        rw [HTK.out, HEB.out, HE0.out, better, if_pos (by have := HBB.out; simpa [rankD] using this)]
  case done =>
    rintro B ⟨hI, hD⟩ hkeep hsz hDef
    rw [List.length_map, ← List.length_map (f := fun s : List Int => s), List.map_id', List.take_length] at hI
    rw [List.length_map, setsL_length] at hD
    have HRO := Lib.hid (RO.out.keeps hkeep (by rintro (h | h) <;> omega))
    have HKE := Lib.hid hkeep
    have HDF := Lib.hid hDef
    have HDD := Lib.hid hD
    have hme := most_eq ps (frsM ms)
    have hzB := HRO.out.lt
    rcases hI with ⟨e0, _⟩ | ⟨s, p, c, e0, hrow, hip, hfp⟩
    · rw [e0] at hme; cases hme
    · rw [e0] at hme
      obtain rfl : s = mostD ps (frsM ms) := by simpa using hme
      have HROW := Lib.hid hrow
      have HIP := Lib.hid hip
      have HFP := Lib.hid hfp
      obtain ⟨c0, c1, c2, c3, c4, c5, _, _⟩ := hrow.cho
      have o0 := HRO.out.cell 0 (v := .int .i64 0) rfl
      have o1 := HRO.out.cell 1 (v := .int .i64 0) rfl
      have o2 := HRO.out.cell 2 (v := .int .i64 0) rfl
      have o3 := HRO.out.cell 3 (v := .int .i64 0) rfl
      have o4 := HRO.out.cell 4 (v := .int .i64 0) rfl
      have o5 := HRO.out.cell 5 (v := .slice none 0 0) rfl
      have f0 := HRO.out.free 0
      have f1 := HRO.out.free 1
      have f2 := HRO.out.free 2
      have f3 := HRO.out.free 3
      have f4 := HRO.out.free 4
      have f5 := HRO.out.free 5
      clear hkeep hDef hD hme e0 hrow hip hfp
      go_wp2_with fail
      have q0 := ((((((HRO.out.set 0 (.int .i64 (at0 (mostD ps (frsM ms)) 0))).set 1 (.int .i64 (at0 (mostD ps (frsM ms)) 1))).set 2 (.int .i64 (at0 (mostD ps (frsM ms)) 2))).set 3 (.int .i64 (at0 (mostD ps (frsM ms)) 3))).set 4 (.int .i64 (heatD ps (mostD ps (frsM ms))))).set 5 (.slice p (goodD ps (frsM ms) (mostD ps (frsM ms))).length c))
      have fb := (((((((FromB.refl (w.heap.size + 1) B).set 0 (.int .i64 (at0 (mostD ps (frsM ms)) 0))).set 1 (.int .i64 (at0 (mostD ps (frsM ms)) 1))).set 2 (.int .i64 (at0 (mostD ps (frsM ms)) 2))).set 3 (.int .i64 (at0 (mostD ps (frsM ms)) 3))).set 4 (.int .i64 (heatD ps (mostD ps (frsM ms))))).set 5 (.slice p (goodD ps (frsM ms) (mostD ps (frsM ms))).length c))
      have hzB2 := HKE.out.size
      have hDC := (fb.k.block w5.heap.size (by omega) (by omega)).trans HDF.out
      have hmk : Marks w.heap.size [{ target := .collected w5.heap.size, args := #[] }] _ := ⟨⟨_, rfl, by omega, hDC, by simp⟩, trivial⟩
      refine marks_leave hmk (fun B2 hB2 => ?_)
      have q1 : Row B2 (w.heap.size + 1) (outA (mostD ps (frsM ms)) (heatD ps (mostD ps (frsM ms))) p (goodD ps (frsM ms) (mostD ps (frsM ms))).length c) 141 := by
        unfold Row
        rw [hB2.rest _ (fun o h => by unfold Row at q0; rw [q0] at h; cases h)]
        exact q0
      refine ⟨_, results_cell_row Try.results87 _ _ _ _ _ _ _ rfl q1 Try.underlying141 rfl (by kernel_rfl), ?_⟩
      have hI2 := ints_keeps HIP.out fb.k (fun b o v e _ => by have := HFP.out b o e; omega)
      refine ⟨p, c, rfl, ints_same hI2 hB2, fun b o e => by have := HFP.out b o e; omega, ?_, ?_⟩
      · exact ((FromB.of2 HB5.out HKE.out (fun m hm => by rcases hm with rfl | rfl; exact .inl rfl; right; omega)).low (fb.k.below (n := w.heap.size) (by omega) (fun k hk e => by omega)) (Nat.le_refl _)).low hB2.below (Nat.le_refl _)
      · exact (HDD.out.of_same (fb.k.block _ HDD.out.lt (by omega))).of_same (hB2.below.block _ hmb)
  case stop => intro c W3 h; exact h.elim
end Go.Proofs.Yticfcdbfplfmlaa.Tu
