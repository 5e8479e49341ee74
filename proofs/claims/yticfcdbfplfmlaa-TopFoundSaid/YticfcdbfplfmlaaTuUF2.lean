/- The walks of layer 3: all frames of which something is so. -/
import Derived.Test.YticfcdbfplfmlaaTBX
namespace Go.Proofs.Yticfcdbfplfmlaa.Tu
open Go.RowKit Go.Maps
attribute [local go_sem] Oper.semAt_some

/-- All that was there in a world is as it was, but for the map, which holds what is so. -/
structure Run (w0 w : World) (mb m np : Nat) (F : List Int → Nat → Bool) : Prop where
  f : FromB mb w0 w
  d : DriedAt w mb m np F
section
variable {w0 w w' : World} {mb m np : Nat} {F : List Int → Nat → Bool}
theorem FromB.trans {b : Nat} (h : FromB b w0 w) (k : FromB b w w') : FromB b w0 w' := ⟨h.k.trans k.k⟩
theorem FromB.low {b n : Nat} (h : FromB b w0 w) (hb : Below n w w') (hn : w0.heap.size ≤ n) : FromB b w0 w' := by
  refine ⟨⟨hb.os.trans h.k.os, hb.tape.trans h.k.tape, hb.output.trans h.k.output, Nat.le_trans h.k.size hb.size, fun k hk hm => ?_⟩⟩
  rw [hb.block k (by omega)]; exact h.k.block k hk hm
theorem Run.refl (h : DriedAt w mb m np F) : Run w w mb m np F := ⟨FromB.refl _ _, h⟩
theorem Run.below (h : Run w0 w mb m np F) (hb : Below w.heap.size w w') : Run w0 w' mb m np F := ⟨h.f.below hb, h.d.below hb⟩
theorem Run.drew (h : Run w0 w mb m np F) : Run w0 w.drew mb m np F := ⟨h.f.drew, h.d⟩
theorem Run.low (h : Run w0 w mb m np F) {n : Nat} (hb : Below n w w') (hn : w0.heap.size ≤ n) (hm : mb < n) : Run w0 w' mb m np F := ⟨h.f.low hb hn, h.d.of_same (hb.block _ hm)⟩
theorem Run.mono (h : Run w0 w mb m np F) {n' : Nat} (hn : m ≤ n') : Run w0 w mb n' np F := ⟨h.f, h.d.mono hn⟩
theorem Run.trans {m' : Nat} (h : Run w0 w mb m np F) (k : Run w w' mb m' np F) : Run w0 w' mb m' np F := ⟨h.f.trans k.f, k.d⟩
theorem Run.row (h : Run w0 w mb m np F) {b : Nat} {cs : Array Value} {t : TypeId} {n' : Nat} (hd : DriedAt w0 mb n' np F) (hr : Row w0 b cs t) : Row w b cs t := h.f.row hr (dried_row_ne hd hr)
theorem Run.bkd {pp pf : Option Addr} {ps : List Pt} {ms : List FrM} {n0 : Nat} (h : Run w0 w mb m ps.length (dryI ps (frsM ms))) (hB : BkD w0 pp pf ps ms mb n0) : BkD w pp pf ps ms mb m := ⟨hB.b.fromB h.f hB.d, h.d⟩
theorem Run.size (h : Run w0 w mb m np F) : w0.heap.size ≤ w.heap.size := h.f.k.size
theorem Run.ints {n' : Nat} (h : Run w0 w mb m np F) (hd : DriedAt w0 mb n' np F) {p : Option Addr} {xs : List Int} (hi : IntsAt w0 p xs) : IntsAt w p xs := by
  intro i hl
  obtain ⟨c, o, hp, hc⟩ := hi i hl
  exact ⟨c, o, hp, h.f.cell hc (dried_ne hd hc)⟩
theorem Run.set (h : Run w0 w mb m np F) {b : Nat} (hb : w0.heap.size ≤ b) (hne : b ≠ mb) (i : Nat) (v : Value) : Run w0 (w.setCell ⟨b, i, none⟩ v) mb m np F :=
  ⟨⟨h.f.k.setCell (.inr hb) v⟩, h.d.of_same (Below.heap_setCell _ _ _ _ (fun e => hne e.symm))⟩
theorem Run.base (h : Run w0 w mb m np F) {n : Nat} {v : World} (h0 : Below n v w0) (hn : n ≤ mb) (hz : n ≤ w0.heap.size) : Below n v w := h.f.base h0 hn hz
theorem owns_run {n' base e size n : Nat} {v : Value} {xs : List Value} (h : w0.ownsRow base e size v n xs) (hf : Run w0 w mb m np F) (hd : DriedAt w0 mb n' np F) : w.ownsRow base e size v n xs := by
  refine ⟨h.1, ?_⟩
  rcases h.2 with h2 | ⟨g, cap, cur, hv, hg, hh, r⟩
  · exact .inl h2
  · have hne : g ≠ mb := by
      rintro rfl
      obtain ⟨D, ⟨es, clock, hb, _⟩, _⟩ := hd
      rw [hh] at hb; cases hb
    exact .inr ⟨g, cap, cur, hv, hg, by rw [hf.f.k.block g (Array.getElem?_eq_some_iff.1 hh).1 hne]; exact hh, r⟩
end
/-- The call returned a list of numbers; of what was there the map alone has turned. -/
def GaveRun (xs : List Int) (mb m np : Nat) (F : List Int → Nat → Bool) (w : World) (e : Ending) (w' : World) : Prop := ∃ p c, e = .returned (.slice p xs.length c) ∧ IntsAt w' p xs ∧ (∀ b o, p = some ⟨b, o, none⟩ → w.heap.size ≤ b) ∧ Run w w' mb m np F
theorem ints_of_owns2 {w : World} {base e : Nat} {v : Value} {xs : List Int} (h : w.ownsRow base e 1 v xs.length (xs.map (Value.int .i64))) :
    ∃ p c, v = .slice p xs.length c ∧ IntsAt w p xs ∧ xs.length ≤ c ∧ c ≤ maxLen ∧ (p = none ∨ ∃ g, p = some ⟨g, 0, none⟩ ∧ base ≤ g) := by
  obtain ⟨p, c, hv, h1, h2, h3, h4⟩ := ints_of_owns h
  refine ⟨p, c, hv, h1, h2, h3, ?_⟩
  rcases h4 with h4 | ⟨g, rfl⟩
  · exact .inl h4
  · refine .inr ⟨g, rfl, ?_⟩
    rcases h.2 with ⟨hv2, _⟩ | ⟨g2, _, _, hv2, hg, _⟩
    · rw [hv] at hv2; simp at hv2
    · rw [hv] at hv2; simp at hv2; omega

theorem dry_run (pp : Option Addr) (cp : Nat) (pf : Option Addr) (cf mb n : Nat) (s : List Int) (ps : List Pt) (ms : List FrM) (w : World) (hB : BkD w pp pf ps ms mb n) (hn : n < 1000000000) (hl : s.length = ps.length) (hs : SetOk s) (f : Nat) (hf : f < ms.length) :
    Calls Try.prog 82 #[.agg (pasA pp ps.length cp pf ms.length cf mb s), .int .i64 f] w fun e w' => e = .returned (.bool (dryI ps (frsM ms) s f)) ∧ Run w w' mb (n + 1) ps.length (dryI ps (frsM ms)) :=
  (dry_any pp cp pf cf mb n s ps ms w hB hn hl hs f hf).mono fun _ _ ⟨he, hb, hf⟩ => ⟨he, hf, hb.d⟩
def allI (_ : Nat) : Bool := true
theorem true_any (f : Nat) (w : World) : Calls Try.prog 84 #[.int .i64 f] w fun e w' => e = .returned (.bool (allI f)) ∧ w = w' := by
  go_enter Try.func84, Try.ntmps84
  go_wp2
  go_ret
  exact ⟨rfl, rfl⟩
theorem true_run {mb n np : Nat} {F : List Int → Nat → Bool} (f : Nat) (w : World) (h : DriedAt w mb n np F) : Calls Try.prog 84 #[.int .i64 f] w fun e w' => e = .returned (.bool (allI f)) ∧ Run w w' mb (n + 0) np F :=
  (true_any f w).mono fun _ _ ⟨he, hw⟩ => ⟨he, by subst hw; exact Run.refl h⟩

set_option maxRecDepth 10000 in
set_option maxHeartbeats 800000 in
theorem frames_dry (pp : Option Addr) (cp : Nat) (pf : Option Addr) (cf mb n : Nat) (s : List Int) (hs : SetOk s) (ps : List Pt) (ms : List FrM) (w : World) (hB : BkD w pp pf ps ms mb n) (hn : n < 100000000) (hl : s.length = ps.length) :
    Calls Try.prog 81 #[.agg (bookA pp ps.length cp pf ms.length cf mb), .func (.func 82) #[.agg (pasA pp ps.length cp pf ms.length cf mb s)] #[]] w (GaveRun (pickL (dryI ps (frsM ms) s) ms.length) mb (n + 1 * ms.length) ps.length (dryI ps (frsM ms)) w) := by
  obtain ⟨i0, hi, hi0, hi1, hi2⟩ := info_parts Try.infoInt
  have hms := hB.b.n5
  have HL := Lib.hid hl
  clear hl
  have hmb := hB.d.lt
  have HBK := Lib.hid hB
  have hba := below_alloc w (.cells (bookA pp ps.length cp pf ms.length cf mb) 127)
  have HR0 := Lib.hid ((Run.refl hB.d).below hba)
  have HW0 := Lib.hid (Row.new w (bookA pp ps.length cp pf ms.length cf mb) 127)
  clear hB hba
  go_enter Try.func81, Try.ntmps81
  go_wp2
  go_loopw [5, 11] (fun ls i wr => ∃ k : Nat, k ≤ ms.length ∧ i = .int .i64 k ∧ wr.ownsRow (w.heap.size + 1) 3 1 ls (pickL (dryI ps (frsM ms) s) k).length ((pickL (dryI ps (frsM ms) s) k).map (Value.int .i64)) ∧ Row wr w.heap.size (bookA pp ps.length cp pf ms.length cf mb) 127 ∧ Run w wr mb (n + 1 * k) ps.length (dryI ps (frsM ms))) (fun _ i _ => ms.length - (intOf i).toNat)
  case atStart => exact ⟨0, by omega, rfl, World.ownsRow_nil _ _ _ _, HW0.out, by rw [Nat.mul_zero, Nat.add_zero]; exact HR0.out⟩
  case round =>
    clear HR0 HW0
    obtain ⟨k, hk, rfl, hown, hrow, hrun⟩ := hrel
    have HO := Lib.hid hown
    have HW := Lib.hid hrow
    have HR := Lib.hid hrun
    have hsz := hrun.size
    have hz := hrow.lt
    have hpl := pickL_length (dryI ps (frsM ms) s) k
    clear hown hrow hrun
    by_cases hlt : k < ms.length
    · have HS := Lib.hid (pickL_succ (dryI ps (frsM ms) s) k)
      have hmul : 1 * (k + 1) = 1 * k + 1 := Nat.mul_succ _ _
      have hmul2 : 1 * k ≤ 1 * 5 := Nat.mul_le_mul_left _ (by omega)
      have HM := Lib.hid hmul
      clear hmul
      cases hF : (dryI ps (frsM ms) s) k
      · have HF := Lib.hid hF
        clear hF
        go_wp2_with fail
        refine (dry_run pp cp pf cf mb _ s ps ms _ (HR.out.bkd HBK.out) (by omega) HL.out hs k hlt).mono ?_
        rintro e w1 ⟨rfl, hr1⟩
        rw [HF.out]
        have HO := Lib.hid (owns_run HO.out hr1 HR.out.d)
        have HW := Lib.hid (hr1.row HR.out.d HW.out)
        have HR := Lib.hid (HR.out.trans hr1)
        clear hr1
        go_wp2
        go_roundw
        case rel => exact ⟨k + 1, by omega, by go_num, by rw [HS.out, HF.out]; exact HO.out, HW.out, by rw [HM.out, ← Nat.add_assoc]; exact HR.out⟩
        case measure => simp [intOf]; omega
      · have HF := Lib.hid hF
        clear hF
        go_wp2_with fail
        refine (dry_run pp cp pf cf mb _ s ps ms _ (HR.out.bkd HBK.out) (by omega) HL.out hs k hlt).mono ?_
        rintro e w1 ⟨rfl, hr1⟩
        rw [HF.out]
        have HO1 := Lib.hid (owns_run HO.out hr1 HR.out.d)
        have HW := Lib.hid (hr1.row HR.out.d HW.out)
        have hz1 := hr1.size
        have HR := Lib.hid (HR.out.trans hr1)
        clear hr1
        go_wp2_with (first | (at_builtin; (refine wpList_append_own _ rfl _ _ 22 rfl (w.heap.size + 1) 3 i0 (.int .i64 0) 1 8 Try.underlying22 hi hi0 hi1 hi2 rfl (by decide) _ _ _ rfl (HO1.out.alloc _) ⟨w1.heap.size, 0, none⟩ 1 1 [.int .i64 k] rfl rfl (cell_one_new _ _ _) (by simp [Value.oneCell']) (by unfold maxLen; omega) (by omega) (by simp; omega) ?_); intro v' w2 hown' hgrow _; have HO := Lib.hid hown'; have hg2 : Below (w.heap.size + 1) w1 w2 := ((Below.refl _ _).alloc (by omega) _).grown hgrow (by simp; omega) (fun k hk => (HO1.out.lt k hk).1); have HW := Lib.hid (HW.out.below hg2 (by omega)); have HR := Lib.hid (HR.out.low hg2 (by omega) (by omega)); clear hg2 hown' hgrow))
        go_roundw
        case rel => exact ⟨k + 1, by omega, by go_num, by rw [HS.out, HF.out]; simpa using HO.out, HW.out, by rw [HM.out, ← Nat.add_assoc]; exact HR.out⟩
        case measure => simp [intOf]; omega
    · obtain rfl : k = ms.length := by omega
      obtain ⟨p, c, rfl, hints, hle, hcm, hp⟩ := ints_of_owns2 HO.out
      have HI := Lib.hid hints
      clear hints
      unfold maxLen at hcm
      rcases hp with rfl | ⟨g, rfl, hg⟩
      · go_wp2
        go_ret
        exact ⟨_, _, rfl, HI.out, nofun, HR.out⟩
      · go_wp2
        go_ret
        exact ⟨_, _, rfl, HI.out, fun _ _ e => by cases e; omega, HR.out⟩

set_option maxRecDepth 10000 in
set_option maxHeartbeats 800000 in
theorem frames_all (pp : Option Addr) (cp : Nat) (pf : Option Addr) (cf mb n : Nat)  (ps : List Pt) (ms : List FrM) (w : World) (hB : BkD w pp pf ps ms mb n) (_hn : n < 100000000) :
    Calls Try.prog 81 #[.agg (bookA pp ps.length cp pf ms.length cf mb), .func (.func 84) #[] #[]] w (GaveRun (pickL (allI) ms.length) mb (n + 0 * ms.length) ps.length (dryI ps (frsM ms)) w) := by
  obtain ⟨i0, hi, hi0, hi1, hi2⟩ := info_parts Try.infoInt
  have hms := hB.b.n5
  have hmb := hB.d.lt
  have HBK := Lib.hid hB
  have hba := below_alloc w (.cells (bookA pp ps.length cp pf ms.length cf mb) 127)
  have HR0 := Lib.hid ((Run.refl hB.d).below hba)
  have HW0 := Lib.hid (Row.new w (bookA pp ps.length cp pf ms.length cf mb) 127)
  clear hB hba
  go_enter Try.func81, Try.ntmps81
  go_wp2
  go_loopw [5, 11] (fun ls i wr => ∃ k : Nat, k ≤ ms.length ∧ i = .int .i64 k ∧ wr.ownsRow (w.heap.size + 1) 3 1 ls (pickL (allI) k).length ((pickL (allI) k).map (Value.int .i64)) ∧ Row wr w.heap.size (bookA pp ps.length cp pf ms.length cf mb) 127 ∧ Run w wr mb (n + 0 * k) ps.length (dryI ps (frsM ms))) (fun _ i _ => ms.length - (intOf i).toNat)
  case atStart => exact ⟨0, by omega, rfl, World.ownsRow_nil _ _ _ _, HW0.out, by rw [Nat.mul_zero, Nat.add_zero]; exact HR0.out⟩
  case round =>
    clear HR0 HW0
    obtain ⟨k, hk, rfl, hown, hrow, hrun⟩ := hrel
    have HO := Lib.hid hown
    have HW := Lib.hid hrow
    have HR := Lib.hid hrun
    have hsz := hrun.size
    have hz := hrow.lt
    have hpl := pickL_length (allI) k
    clear hown hrow hrun
    by_cases hlt : k < ms.length
    · have HS := Lib.hid (pickL_succ (allI) k)
      have hmul : 0 * (k + 1) = 0 * k + 0 := Nat.mul_succ _ _
      have hmul2 : 0 * k ≤ 0 * 5 := Nat.mul_le_mul_left _ (by omega)
      have HM := Lib.hid hmul
      clear hmul
      cases hF : (allI) k
      · exact absurd hF (by simp [allI])
      · have HF := Lib.hid hF
        clear hF
        go_wp2_with fail
        refine (true_run k _ HR.out.d).mono ?_
        rintro e w1 ⟨rfl, hr1⟩
        rw [HF.out]
        have HO1 := Lib.hid (owns_run HO.out hr1 HR.out.d)
        have HW := Lib.hid (hr1.row HR.out.d HW.out)
        have hz1 := hr1.size
        have HR := Lib.hid (HR.out.trans hr1)
        clear hr1
        go_wp2_with (first | (at_builtin; (refine wpList_append_own _ rfl _ _ 22 rfl (w.heap.size + 1) 3 i0 (.int .i64 0) 1 8 Try.underlying22 hi hi0 hi1 hi2 rfl (by decide) _ _ _ rfl (HO1.out.alloc _) ⟨w1.heap.size, 0, none⟩ 1 1 [.int .i64 k] rfl rfl (cell_one_new _ _ _) (by simp [Value.oneCell']) (by unfold maxLen; omega) (by omega) (by simp; omega) ?_); intro v' w2 hown' hgrow _; have HO := Lib.hid hown'; have hg2 : Below (w.heap.size + 1) w1 w2 := ((Below.refl _ _).alloc (by omega) _).grown hgrow (by simp; omega) (fun k hk => (HO1.out.lt k hk).1); have HW := Lib.hid (HW.out.below hg2 (by omega)); have HR := Lib.hid (HR.out.low hg2 (by omega) (by omega)); clear hg2 hown' hgrow))
        go_roundw
        case rel => exact ⟨k + 1, by omega, by go_num, by rw [HS.out, HF.out]; simpa using HO.out, HW.out, by rw [HM.out, ← Nat.add_assoc]; exact HR.out⟩
        case measure => simp [intOf]; omega
    · obtain rfl : k = ms.length := by omega
      obtain ⟨p, c, rfl, hints, hle, hcm, hp⟩ := ints_of_owns2 HO.out
      have HI := Lib.hid hints
      clear hints
      unfold maxLen at hcm
      rcases hp with rfl | ⟨g, rfl, hg⟩
      · go_wp2
        go_ret
        exact ⟨_, _, rfl, HI.out, nofun, HR.out⟩
      · go_wp2
        go_ret
        exact ⟨_, _, rfl, HI.out, fun _ _ e => by cases e; omega, HR.out⟩

end Go.Proofs.Yticfcdbfplfmlaa.Tu
