/- The walks of layer 3: how much longer a frame can stay; the worst of a part. -/
import Derived.Test.YticfcdbfplfmlaaGreatTuUM
namespace Go.Proofs.YticfcdbfplfmlaaGreat.Tu
open Go.RowKit Go.Maps
attribute [local go_sem] Oper.semAt_some

theorem open_n (pp : Option Addr) (cp : Nat) (pf : Option Addr) (cf : Nat) (ps : List Pt) (ms : List FrM) (w : World) (nf : Nat) (hn : ms.length = nf) (hB : Bk w pp pf ps ms) :
    Calls Tryz.prog 30 #[.agg #[.slice pp ps.length cp, .slice pf nf cf]] w (GaveBook pp ps.length cp pf nf cf ps ms w) := by
  subst hn; exact open_any pp cp pf cf ps ms w hB
theorem dry_n (pp : Option Addr) (cp : Nat) (pf : Option Addr) (cf mb n : Nat) (s : List Int) (ps : List Pt) (ms : List FrM) (w : World) (nf : Nat) (hnf : ms.length = nf) (hB : BkD w pp pf ps ms mb n) (hn : n < 1000000000) (hl : s.length = ps.length) (hs : SetOk s) (f : Nat) (hf : f < nf) :
    Calls Tryz.prog 54 #[.agg (pasA pp ps.length cp pf nf cf mb s), .int .i64 f] w fun e w' => e = .returned (.bool (dryI ps (frsM ms) s f)) ∧ Run w w' mb (n + 1) ps.length (dryI ps (frsM ms)) := by
  subst hnf; exact dry_run pp cp pf cf mb n s ps ms w hB hn hl hs f hf
theorem From.run {W w w' : World} (h : From W w) {mb m np : Nat} {F : List Int → Nat → Bool} (hr : Run w w' mb m np F) (hm : W.heap.size ≤ mb) : From W w' := ⟨hr.base h.b hm h.b.size⟩
/-- A frame that stays longer, in plain data. -/
def longFr (f : Fr) (k : Nat) (more : Int) : Fr := { f with stay := f.stay.set k (at0 f.stay k + more) }
def longB (ps : List Pt) (s : List Int) (f : Fr) (k : Nat) (m : Nat) : Bool := decide (kindD ps s (longFr f k m) = 0)
def longN (B : Nat → Bool) : Nat → Nat
  | 0 => 0
  | n + 1 => if B (n + 1) then n + 1 else longN B n
theorem longN_pos (B : Nat → Bool) {m : Nat} (h : 1 ≤ m) : longN B m = if B m then m else longN B (m - 1) := by
  obtain ⟨n, rfl⟩ : ∃ n, m = n + 1 := ⟨m - 1, by omega⟩
  rfl
theorem frsM_long (ms : List FrM) (f g c k : Nat) (more : Int) (hf : f < ms.length) : frsM (ms.set f (longF ms[f] g c k more)) = (frsM ms).set f (longFr ms[f].f k more) := by
  simp [frsM, List.map_set, longF, longFr]
theorem long_dry {ps : List Pt} {ms : List FrM} {s : List Int} {f k m : Nat} (hf : f < ms.length) (g c : Nat) : dryI ps (frsM (ms.set f (longF ms[f] g c k m))) s f = longB ps s ms[f].f k m := by
  rw [frsM_long _ _ _ _ _ _ hf]
  simp [dryI, longB, frsM, hf]
theorem long_ok {ps : List Pt} {fs : List Fr} (h : BookOk ps fs) {f : Nat} (hf : f < fs.length) {k : Nat} {more : Int} (h0 : 0 ≤ more) (hk : k < ps.length) (h1 : at0 fs[f].stay k + more ≤ 20) : BookOk ps (fs.set f (longFr fs[f] k more)) := by
  refine ⟨h.p1, h.p4, by simpa using h.f5, h.p, fun x hx => ?_⟩
  rcases List.mem_or_eq_of_mem_set hx with hx | rfl
  · exact h.f x hx
  · have hfo := h.f fs[f] (List.getElem_mem _)
    refine ⟨fun y hy => ?_, by simp [longFr]; exact hfo.n, hfo.l0, hfo.l1, hfo.l2⟩
    simp only [longFr] at hy
    rcases List.mem_or_eq_of_mem_set hy with hy | rfl
    · exact hfo.s y hy
    · have := hfo.s _ (at0_mem (l := fs[f].stay) (i := k) (by rw [hfo.n]; exact hk))
      omega

/-- The fewest frames by one setting, once the damp of a part is known, of the first so many numbers. -/
def knownN (ps : List Pt) (fs : List Fr) (k : Nat) (d : Int) : Int := ((goodD (dampP ps k d d) fs (mostD (dampP ps k d d) fs)).length : Int)
def worstTo (ps : List Pt) (fs : List Fr) (k : Nat) (lo : Int) : Nat → Int
  | 0 => fs.length
  | j + 1 => min (worstTo ps fs k lo j) (knownN ps fs k (lo + (j : Int)))
def worstD (ps : List Pt) (fs : List Fr) (k : Nat) : Int := match ps[k]? with
  | some p => worstTo ps fs k p.lo (p.hi - p.lo + 1).toNat
  | none => 0
theorem damp_ok {ps : List Pt} {fs : List Fr} (h : BookOk ps fs) {k : Nat} (hk : k < ps.length) {d e : Int} (h0 : ps[k].lo ≤ d) (h1 : e ≤ ps[k].hi) (h2 : d ≤ e) : BookOk (dampP ps k d e) fs := by
  have hl := dampP_length ps k d e
  have hp := h.p ps[k] (List.getElem_mem _)
  refine ⟨by rw [hl]; exact h.p1, by rw [hl]; exact h.p4, h.f5, fun x hx => ?_, fun x hx => by rw [hl]; exact h.f x hx⟩
  rw [dampP_at hk] at hx
  rcases List.mem_or_eq_of_mem_set hx with hx | rfl
  · exact h.p x hx
  · obtain ⟨a0, a1, a2, a3, a4, l0, l1, l2, l3⟩ := hp
    exact ⟨a0, a1, a2, a3, a4, by simp only; omega, h2, by simp only; omega, by simp only; omega⟩
theorem knownN_range (ps : List Pt) (ms : List FrM) (k : Nat) (d : Int) : 0 ≤ knownN ps (frsM ms) k d ∧ knownN ps (frsM ms) k d ≤ ms.length := by
  have := good_le (dampP ps k d d) ms (mostD (dampP ps k d d) (frsM ms))
  unfold knownN; omega
theorem worstTo_range (ps : List Pt) (ms : List FrM) (k : Nat) (lo : Int) : ∀ j, 0 ≤ worstTo ps (frsM ms) k lo j ∧ worstTo ps (frsM ms) k lo j ≤ ms.length
  | 0 => by simp [worstTo, frsM]
  | j + 1 => by
    have := worstTo_range ps ms k lo j
    have := knownN_range ps ms k (lo + j)
    simp only [worstTo]; omega
theorem open_m (pp : Option Addr) (np cp : Nat) (pf : Option Addr) (cf : Nat) (ps : List Pt) (ms : List FrM) (w : World) (hnp : ps.length = np) (hB : Bk w pp pf ps ms) :
    Calls Tryz.prog 30 #[.agg #[.slice pp np cp, .slice pf ms.length cf]] w (GaveBook pp np cp pf ms.length cf ps ms w) := by
  subst hnp; exact open_any pp cp pf cf ps ms w hB

theorem field_dry (s : List Int) (h : Int) (p : Option Addr) (n c : Nat) (w : World) : (Instr.field 131 (.agg (outA s h p n c)) 2).run Tryz.prog w = .ok (.slice p n c) w := by
  simp [Instr.field, go_sem, asAgg]
end Go.Proofs.YticfcdbfplfmlaaGreat.Tu
/- The walks of layer 3: settings that come in; what a setting does. -/
namespace Go.Proofs.YticfcdbfplfmlaaGreat.Tu
open Go.RowKit Go.Maps
attribute [local go_sem] Oper.semAt_some

def setB (l : List Int) : Bool := l.all fun s => decide (0 ≤ s ∧ s ≤ 3)
def isSetB (np : Nat) (l : List Int) : Bool := decide (l.length = np) && setB l
def readS (np : Nat) (l : List Int) : List Int := if isSetB np l then l else []
theorem setB_at {l : List Int} (h : setB l = true) {i : Nat} (hi : i < l.length) : 0 ≤ at0 l i ∧ at0 l i ≤ 3 := by
  have := List.all_eq_true.1 h _ (at0_mem hi)
  simpa using this
theorem setB_take {l : List Int} {k : Nat} (hk : k < l.length) (h : setB (l.take k) = true) (h0 : 0 ≤ at0 l k) (h1 : at0 l k ≤ 3) : setB (l.take (k + 1)) = true := by
  rw [take_snoc hk, setB, List.all_append]
  simp only [setB] at h
  rw [h]
  simp [h0, h1]
theorem isSet_ok {np : Nat} {l : List Int} (h : isSetB np l = true) (h4 : np ≤ 4) : l.length = np ∧ SetOk l ∧ l ∈ setsL np := by
  simp only [isSetB, Bool.and_eq_true, decide_eq_true_eq, setB, List.all_eq_true] at h
  exact ⟨h.1, ⟨by omega, h.2⟩, mem_setsL.2 h⟩
theorem setA_first {l : List Int} (_h : l.length ≤ 4) : intsA (firstL (at0 l) l.length) = setA l := by
  have key : ∀ j, (if j < l.length then at0 l j else 0) = at0 l j := by
    intro j
    by_cases hj : j < l.length
    · rw [if_pos hj]
    · rw [if_neg hj]; simp [at0, List.getD, List.getElem?_eq_none (by omega : l.length ≤ j)]
  simp [firstL, intsA, key, List.range_succ]
theorem isSet_no {np : Nat} {l : List Int} {i : Nat} (hi : i < l.length) (h : ¬ (0 ≤ at0 l i ∧ at0 l i ≤ 3)) : isSetB np l = false := by
  cases hv : isSetB np l
  · rfl
  · exfalso
    simp only [isSetB, Bool.and_eq_true] at hv
    exact h (setB_at hv.2 hi)

set_option maxRecDepth 10000 in
set_option maxHeartbeats 1600000 in
theorem read_any (q : Option Addr) (c : Nat) (l : List Int) (np : Nat) (w : World) (hl : IntsAt w q l) (h4 : np ≤ 4) (hn : l.length < 2 ^ 62) :
    Calls Tryz.prog 76 #[.slice q l.length c, .int .i64 np] w fun e w' => e = .returned (.tuple #[.agg (setA (readS np l)), .bool (isSetB np l)]) ∧ Below w.heap.size w w' := by
  have hE := below_alloc2 w (.cells #[.int .i64 0, .int .i64 0, .int .i64 0, .int .i64 0] 75) (.cells #[.int .i64 0, .int .i64 0, .int .i64 0, .int .i64 0] 75)
  have HL := Lib.hid (hl.below hE)
  have HI0 := Lib.hid hl
  have r0 := (Row.new w #[.int .i64 0, .int .i64 0, .int .i64 0, .int .i64 0] 75).alloc (.cells #[.int .i64 0, .int .i64 0, .int .i64 0, .int .i64 0] 75)
  have r1 := Row.new1 w (.cells #[.int .i64 0, .int .i64 0, .int .i64 0, .int .i64 0] 75) #[.int .i64 0, .int .i64 0, .int .i64 0, .int .i64 0] 75
  have HR0 := Lib.hid r0
  have HR1 := Lib.hid r1
  have HE := Lib.hid hE
  clear hl hE
  by_cases he : l.length = np
  · have he' : ((l.length : Int) != (np : Int)) = false := by rw [he]; simp
    have HEQ := Lib.hid he
    clear he r0 r1
    go_enter Tryz.func76, Tryz.ntmps76
    go_wp2
    clear he'
    go_loopw [16] (fun i wr => ∃ k : Nat, k ≤ l.length ∧ i = .int .i64 k ∧ Hid (setB (l.take k) = true) ∧ Row wr w.heap.size #[.int .i64 0, .int .i64 0, .int .i64 0, .int .i64 0] 75 ∧ Row wr (w.heap.size + 1) (intsA (firstL (at0 l) k)) 75 ∧ Below w.heap.size w wr) (fun i _ => l.length - (intOf i).toNat)
    case atStart => exact ⟨0, by omega, rfl, Lib.hid rfl, HR0.out, by rw [firstL_zero]; exact HR1.out, HE.out⟩
    case round =>
      clear HR0 HR1 HL HE
      obtain ⟨k, hk, rfl, HOK, r0, r1, hb⟩ := hrel
      have HR0 := Lib.hid r0
      have HR1 := Lib.hid r1
      have HB := Lib.hid hb
      by_cases hlt : k < l.length
      · obtain ⟨b, o, rfl, hc⟩ := (HI0.out.below hb) k hlt
        have c0 := r0.cell 0 (v := .int .i64 0) rfl
        have c1 := r0.cell 1 (v := .int .i64 0) rfl
        have c2 := r0.cell 2 (v := .int .i64 0) rfl
        have c3 := r0.cell 3 (v := .int .i64 0) rfl
        have f0 := r0.free 0
        have f1 := r0.free 1
        have f2 := r0.free 2
        have f3 := r0.free 3
        have d0 := r1.cell k (intsA_at4 (firstL_length _ _) (by have := HEQ.out; omega))
        have d1 := r1.free k
        have i1 : (0 : Int) ≤ (k : Int) := by omega
        have i2 : (k : Int) < 4 := by have := HEQ.out; omega
        have hz := r1.lt
        clear r0 r1 hb
        by_cases hg : 0 ≤ at0 l k ∧ at0 l k ≤ 3
        · obtain ⟨hg0, hg1⟩ := hg
          go_wp2_with fail
          go_roundw
          case rel =>
            refine ⟨k + 1, by omega, by go_num, Lib.hid (setB_take hlt HOK.out hg0 hg1), HR0.out.set_other _ _ (by dsimp only; omega), ?_, HB.out.setCell (by dsimp only; omega) _⟩
            have h := HR1.out.set k (.int .i64 (at0 l k))
            rw [intsA_set, firstL_set _ (by have := HEQ.out; omega)] at h
            exact h
          case measure => simp [intOf]; omega
        · have HNO := Lib.hid (isSet_no (np := np) hlt hg)
          have hg2 : at0 l k < 0 ∨ 3 < at0 l k := by omega
          clear hg
          rcases hg2 with hg2 | hg2
          all_goals
            go_wp2_with fail
            clear c0 c1 c2 c3 f0 f1 f2 f3 d0 d1
            have q := (((HR0.out.set 0 (.int .i64 0)).set 1 (.int .i64 0)).set 2 (.int .i64 0)).set 3 (.int .i64 0)
            have e0 := q.cell 0 (v := .int .i64 0) rfl
            have e1 := q.cell 1 (v := .int .i64 0) rfl
            have e2 := q.cell 2 (v := .int .i64 0) rfl
            have e3 := q.cell 3 (v := .int .i64 0) rfl
            exact bodyPost_ret (v := .tuple #[.agg #[.int .i64 0, .int .i64 0, .int .i64 0, .int .i64 0], .bool false]) (by simp [results, Tryz.results76, go_sem, e0, e1, e2, e3]) rfl
              ⟨by rw [readS, HNO.out]; rfl, (((HB.out.setCell (by dsimp only; omega) _).setCell (by dsimp only; omega) _).setCell (by dsimp only; omega) _).setCell (by dsimp only; omega) _⟩
      · obtain rfl : k = l.length := by omega
        have HY := Lib.hid (show isSetB np l = true by simp only [isSetB, Bool.and_eq_true, decide_eq_true_eq]; exact ⟨HEQ.out, by have := HOK.out; rwa [List.take_of_length_le (Nat.le_refl _)] at this⟩)
        rw [setA_first (by have := HEQ.out; omega)] at r1
        have c0 := r0.cell 0 (v := .int .i64 0) rfl
        have c1 := r0.cell 1 (v := .int .i64 0) rfl
        have c2 := r0.cell 2 (v := .int .i64 0) rfl
        have c3 := r0.cell 3 (v := .int .i64 0) rfl
        have f0 := r0.free 0
        have f1 := r0.free 1
        have f2 := r0.free 2
        have f3 := r0.free 3
        have d0 := r1.cell 0 (v := .int .i64 (at0 l 0)) rfl
        have d1 := r1.cell 1 (v := .int .i64 (at0 l 1)) rfl
        have d2 := r1.cell 2 (v := .int .i64 (at0 l 2)) rfl
        have d3 := r1.cell 3 (v := .int .i64 (at0 l 3)) rfl
        have hz := r1.lt
        clear r0 r1 hb HR1
        go_wp2_with fail
        clear c0 c1 c2 c3 f0 f1 f2 f3 d0 d1 d2 d3
        have q := (((HR0.out.set 0 (.int .i64 (at0 l 0))).set 1 (.int .i64 (at0 l 1))).set 2 (.int .i64 (at0 l 2))).set 3 (.int .i64 (at0 l 3))
        have e0 := q.cell 0 (v := .int .i64 (at0 l 0)) rfl
        have e1 := q.cell 1 (v := .int .i64 (at0 l 1)) rfl
        have e2 := q.cell 2 (v := .int .i64 (at0 l 2)) rfl
        have e3 := q.cell 3 (v := .int .i64 (at0 l 3)) rfl
        exact bodyPost_ret (v := .tuple #[.agg (setA l), .bool true]) (by simp [results, Tryz.results76, go_sem, e0, e1, e2, e3]) rfl
          ⟨by rw [readS, HY.out]; rfl, (((HB.out.setCell (by dsimp only; omega) _).setCell (by dsimp only; omega) _).setCell (by dsimp only; omega) _).setCell (by dsimp only; omega) _⟩
  · have he' : ((l.length : Int) != (np : Int)) = true := by rw [bne_iff_ne]; omega
    have HNO := Lib.hid (show isSetB np l = false by simp [isSetB, he])
    have c0 := r0.cell 0 (v := .int .i64 0) rfl
    have c1 := r0.cell 1 (v := .int .i64 0) rfl
    have c2 := r0.cell 2 (v := .int .i64 0) rfl
    have c3 := r0.cell 3 (v := .int .i64 0) rfl
    have f0 := r0.free 0
    have f1 := r0.free 1
    have f2 := r0.free 2
    have f3 := r0.free 3
    clear r0 r1
    go_enter Tryz.func76, Tryz.ntmps76
    go_wp2_with fail
    clear f0 f1 f2 f3
    exact bodyPost_ret (v := .tuple #[.agg #[.int .i64 0, .int .i64 0, .int .i64 0, .int .i64 0], .bool false]) (by simp [results, Tryz.results76, go_sem, c0, c1, c2, c3]) rfl
      ⟨by rw [readS, HNO.out]; rfl, HE.out⟩
end Go.Proofs.YticfcdbfplfmlaaGreat.Tu
/- The walks of layer 3: what a setting does, if the book and the setting are right. -/
namespace Go.Proofs.YticfcdbfplfmlaaGreat.Tu
open Go.RowKit Go.Maps
attribute [local go_sem] Oper.semAt_some

/-- The error of a book and a setting; of a frame, too. -/
def setE (ps : List Pt) (fs : List Fr) (l : List Int) : Int := if bookB ps fs then (if isSetB ps.length l then 0 else 31) else 30
def frameE (ps : List Pt) (fs : List Fr) (l : List Int) (f : Int) : Int := if setE ps fs l = 0 then (if 0 ≤ f ∧ f < fs.length then 0 else 31) else setE ps fs l
abbrev noPas : Array Value := #[.slice none 0 0, .slice none 0 0, .map none, .int .i64 0, .int .i64 0, .int .i64 0, .int .i64 0]
theorem bk_of {w : World} {pp pf : Option Addr} {ps : List Pt} {ms : List FrM} (h : BkAt w pp pf ps ms) (hb : bookB ps (frsM ms) = true) : Bk w pp pf ps ms := ⟨h.p, h.f, bookB_iff.1 hb⟩
theorem frsM_len {_ps : List Pt} {ms : List FrM} : (frsM ms).length = ms.length := frsM_length ms
/-- The call returned a passage, with a new map. -/
def GavePas (pp : Option Addr) (cp : Nat) (pf : Option Addr) (cf : Nat) (ps : List Pt) (ms : List FrM) (s : List Int) (w : World) (e : Ending) (w' : World) : Prop :=
  ∃ mb, e = .returned (.tuple #[.agg (pasA pp ps.length cp pf ms.length cf mb s), .int .i64 0]) ∧ w.heap.size ≤ mb ∧ BkD w' pp pf ps ms mb 0 ∧ Below w.heap.size w w'

theorem pas_sets {W : World} {b : Nat} {t : TypeId} {pp : Option Addr} {np cp : Nat} {pf : Option Addr} {nf cf mb : Nat} {l : List Int} (h : Row W b noPas t) (A : Array Value) (hA : A = pasA pp np cp pf nf cf mb l) :
    Row (((((((W.setCell ⟨b, 0, none⟩ (.slice pp np cp)).setCell ⟨b, 1, none⟩ (.slice pf nf cf)).setCell ⟨b, 2, none⟩ (.map (some mb))).setCell ⟨b, 3, none⟩ (.int .i64 (at0 l 0))).setCell ⟨b, 4, none⟩ (.int .i64 (at0 l 1))).setCell ⟨b, 5, none⟩ (.int .i64 (at0 l 2))).setCell ⟨b, 6, none⟩ (.int .i64 (at0 l 3))) b A t := by
  subst hA
  have e := ((((((h.set 0 (.slice pp np cp)).set 1 (.slice pf nf cf)).set 2 (.map (some mb))).set 3 (.int .i64 (at0 l 0))).set 4 (.int .i64 (at0 l 1))).set 5 (.int .i64 (at0 l 2))).set 6 (.int .i64 (at0 l 3))
  simpa using e
theorem bkd_fromB {w w' : World} {pp pf : Option Addr} {ps : List Pt} {ms : List FrM} {mb n b : Nat} {w0 : World} (h0 : Bk w0 pp pf ps ms) (hd : DriedAt w mb n ps.length (dryI ps (frsM ms))) (hb : Below w0.heap.size w0 w') (k : FromB b w w') (hne : mb ≠ b) : BkD w' pp pf ps ms mb n :=
  ⟨h0.below hb, hd.of_same (k.k.block _ hd.lt hne)⟩
set_option maxRecDepth 10000 in
set_option maxHeartbeats 1600000 in
theorem enter_bad (pp : Option Addr) (cp : Nat) (pf : Option Addr) (cf : Nat) (ps : List Pt) (ms : List FrM) (q : Option Addr) (c : Nat) (l : List Int) (w : World) (hB : BkAt w pp pf ps ms) (hb : bookB ps (frsM ms) = false) :
    Calls Tryz.prog 53 #[.agg #[.slice pp ps.length cp, .slice pf ms.length cf], .slice q l.length c] w fun e w' => e = .returned (.tuple #[.agg noPas, .int .i64 30]) ∧ Below w.heap.size w w' := by
  have hE := below_alloc2 w (.cells #[.slice pp ps.length cp, .slice pf ms.length cf] 25) (.cells noPas 83)
  have HB := Lib.hid (hB.below hE)
  have HB0 := Lib.hid hB
  have HE := Lib.hid hE
  have HR := Lib.hid ((Row.new w #[.slice pp ps.length cp, .slice pf ms.length cf] 25).alloc (.cells noPas 83))
  have HQ := Lib.hid (Row.new1 w (.cells #[.slice pp ps.length cp, .slice pf ms.length cf] 25) noPas 83)
  have HV := Lib.hid (show bookE ps (frsM ms) = 30 by simp [bookE, hb])
  clear hE hB hb
  go_enter Tryz.func53, Tryz.ntmps53
  go_wp2_with fail
  refine (Check_any pp cp pf cf ps ms _ HB.out).mono ?_
  rintro e w1 ⟨rfl, hb1⟩
  rw [HV.out]
  have hz0 := HE.out.size
  have HE := Lib.hid (HE.out.trans (hb1.mono hz0))
  have HR := Lib.hid (HR.out.below hb1 HR.out.lt)
  have HQ := Lib.hid (HQ.out.below hb1 HQ.out.lt)
  have hzq := HQ.out.lt
  clear hb1
  have c0 := HQ.out.cell 0 (v := .slice none 0 0) rfl
  have c1 := HQ.out.cell 1 (v := .slice none 0 0) rfl
  have c2 := HQ.out.cell 2 (v := .map none) rfl
  have c3 := HQ.out.cell 3 (v := .int .i64 0) rfl
  have c4 := HQ.out.cell 4 (v := .int .i64 0) rfl
  have c5 := HQ.out.cell 5 (v := .int .i64 0) rfl
  have c6 := HQ.out.cell 6 (v := .int .i64 0) rfl
  have f0 := HQ.out.free 0
  have f1 := HQ.out.free 1
  have f2 := HQ.out.free 2
  have f3 := HQ.out.free 3
  have f4 := HQ.out.free 4
  have f5 := HQ.out.free 5
  have f6 := HQ.out.free 6
  go_wp2_with fail
  clear c0 c1 c2 c3 c4 c5 c6 f0 f1 f2 f3 f4 f5 f6
  have q := (((((((HQ.out.set 0 (.slice none 0 0)).set 1 (.slice none 0 0)).set 2 (.map none)).set 3 (.int .i64 0)).set 4 (.int .i64 0)).set 5 (.int .i64 0)).set 6 (.int .i64 0))
  have e0 := q.cell 0 (v := .slice none 0 0) rfl
  have e1 := q.cell 1 (v := .slice none 0 0) rfl
  have e2 := q.cell 2 (v := .map none) rfl
  have e3 := q.cell 3 (v := .int .i64 0) rfl
  have e4 := q.cell 4 (v := .int .i64 0) rfl
  have e5 := q.cell 5 (v := .int .i64 0) rfl
  have e6 := q.cell 6 (v := .int .i64 0) rfl
  exact bodyPost_ret (v := .tuple #[.agg noPas, .int .i64 30]) (by simp [results, Tryz.results53, go_sem, e0, e1, e2, e3, e4, e5, e6]) rfl
    ⟨rfl, (((((((HE.out.setCell (by dsimp only; omega) _).setCell (by dsimp only; omega) _).setCell (by dsimp only; omega) _).setCell (by dsimp only; omega) _).setCell (by dsimp only; omega) _).setCell (by dsimp only; omega) _).setCell (by dsimp only; omega) _)⟩

set_option maxRecDepth 10000 in
set_option maxHeartbeats 1600000 in
theorem enter_no (pp : Option Addr) (cp : Nat) (pf : Option Addr) (cf : Nat) (ps : List Pt) (ms : List FrM) (q : Option Addr) (c : Nat) (l : List Int) (w : World) (hB : BkAt w pp pf ps ms) (hb : bookB ps (frsM ms) = true) (hl : IntsAt w q l) (hn : l.length < 2 ^ 62) (hs : isSetB ps.length l = false) :
    Calls Tryz.prog 53 #[.agg #[.slice pp ps.length cp, .slice pf ms.length cf], .slice q l.length c] w fun e w' => e = .returned (.tuple #[.agg noPas, .int .i64 31]) ∧ Below w.heap.size w w' := by
  have hE := below_alloc2 w (.cells #[.slice pp ps.length cp, .slice pf ms.length cf] 25) (.cells noPas 83)
  have HB := Lib.hid (hB.below hE)
  have HB0 := Lib.hid hB
  have HE := Lib.hid hE
  have HR := Lib.hid ((Row.new w #[.slice pp ps.length cp, .slice pf ms.length cf] 25).alloc (.cells noPas 83))
  have HQ := Lib.hid (Row.new1 w (.cells #[.slice pp ps.length cp, .slice pf ms.length cf] 25) noPas 83)
  have h4 := (bookB_iff.1 hb).p4
  have HV := Lib.hid (show bookE ps (frsM ms) = 0 by simp [bookE, hb])
  have HS := Lib.hid hs
  have HL := Lib.hid hl
  clear hE hB hb hs hl
  go_enter Tryz.func53, Tryz.ntmps53
  go_wp2_with fail
  refine (Check_any pp cp pf cf ps ms _ HB.out).mono ?_
  rintro e w1 ⟨rfl, hb1⟩
  rw [HV.out]
  have hz0 := HE.out.size
  have HE := Lib.hid (HE.out.trans (hb1.mono hz0))
  have HR := Lib.hid (HR.out.below hb1 HR.out.lt)
  have HQ := Lib.hid (HQ.out.below hb1 HQ.out.lt)
  have hzq := HQ.out.lt
  clear hb1
  have r0 := HR.out.cell 0 (v := .slice pp ps.length cp) rfl
  go_wp2_with fail
  refine (read_any q c l ps.length w1 (HL.out.below HE.out) h4 hn).mono ?_
  rintro e w2 ⟨rfl, hb2⟩
  rw [HS.out, readS, HS.out]
  have HE := Lib.hid (HE.out.trans (hb2.mono HE.out.size))
  have HR := Lib.hid (HR.out.below hb2 HR.out.lt)
  have HQ := Lib.hid (HQ.out.below hb2 HQ.out.lt)
  have hzq := HQ.out.lt
  clear hb2 r0
  have c0 := HQ.out.cell 0 (v := .slice none 0 0) rfl
  have c1 := HQ.out.cell 1 (v := .slice none 0 0) rfl
  have c2 := HQ.out.cell 2 (v := .map none) rfl
  have c3 := HQ.out.cell 3 (v := .int .i64 0) rfl
  have c4 := HQ.out.cell 4 (v := .int .i64 0) rfl
  have c5 := HQ.out.cell 5 (v := .int .i64 0) rfl
  have c6 := HQ.out.cell 6 (v := .int .i64 0) rfl
  have f0 := HQ.out.free 0
  have f1 := HQ.out.free 1
  have f2 := HQ.out.free 2
  have f3 := HQ.out.free 3
  have f4 := HQ.out.free 4
  have f5 := HQ.out.free 5
  have f6 := HQ.out.free 6
  go_wp2_with fail
  clear c0 c1 c2 c3 c4 c5 c6 f0 f1 f2 f3 f4 f5 f6
  have q := (((((((HQ.out.set 0 (.slice none 0 0)).set 1 (.slice none 0 0)).set 2 (.map none)).set 3 (.int .i64 0)).set 4 (.int .i64 0)).set 5 (.int .i64 0)).set 6 (.int .i64 0)).alloc (.cells (setA []) 75)
  have e0 := q.cell 0 (v := .slice none 0 0) rfl
  have e1 := q.cell 1 (v := .slice none 0 0) rfl
  have e2 := q.cell 2 (v := .map none) rfl
  have e3 := q.cell 3 (v := .int .i64 0) rfl
  have e4 := q.cell 4 (v := .int .i64 0) rfl
  have e5 := q.cell 5 (v := .int .i64 0) rfl
  have e6 := q.cell 6 (v := .int .i64 0) rfl
  exact bodyPost_ret (v := .tuple #[.agg noPas, .int .i64 31]) (by simp [results, Tryz.results53, go_sem, e0, e1, e2, e3, e4, e5, e6]) rfl
    ⟨rfl, (((((((HE.out.setCell (by dsimp only; omega) _).setCell (by dsimp only; omega) _).setCell (by dsimp only; omega) _).setCell (by dsimp only; omega) _).setCell (by dsimp only; omega) _).setCell (by dsimp only; omega) _).setCell (by dsimp only; omega) _).alloc (by have := HE.out.size; simp; omega) _⟩
set_option maxRecDepth 10000 in
set_option maxHeartbeats 1600000 in
theorem enter_yes (pp : Option Addr) (cp : Nat) (pf : Option Addr) (cf : Nat) (ps : List Pt) (ms : List FrM) (q : Option Addr) (c : Nat) (l : List Int) (w : World) (hB : BkAt w pp pf ps ms) (hb : bookB ps (frsM ms) = true) (hl : IntsAt w q l) (hn : l.length < 2 ^ 62) (hs : isSetB ps.length l = true) :
    Calls Tryz.prog 53 #[.agg #[.slice pp ps.length cp, .slice pf ms.length cf], .slice q l.length c] w (GavePas pp cp pf cf ps ms l w) := by
  have hE := below_alloc2 w (.cells #[.slice pp ps.length cp, .slice pf ms.length cf] 25) (.cells noPas 83)
  have HB := Lib.hid (hB.below hE)
  have HB0 := Lib.hid hB
  have HE := Lib.hid hE
  have HR := Lib.hid ((Row.new w #[.slice pp ps.length cp, .slice pf ms.length cf] 25).alloc (.cells noPas 83))
  have HQ := Lib.hid (Row.new1 w (.cells #[.slice pp ps.length cp, .slice pf ms.length cf] 25) noPas 83)
  have h4 := (bookB_iff.1 hb).p4
  have HV := Lib.hid (show bookE ps (frsM ms) = 0 by simp [bookE, hb])
  have HBK := Lib.hid (bk_of hB hb)
  have HS := Lib.hid hs
  have HL := Lib.hid hl
  clear hE hB hb hs hl
  go_enter Tryz.func53, Tryz.ntmps53
  go_wp2_with fail
  refine (Check_any pp cp pf cf ps ms _ HB.out).mono ?_
  rintro e w1 ⟨rfl, hb1⟩
  rw [HV.out]
  have hz0 := HE.out.size
  have HE := Lib.hid (HE.out.trans (hb1.mono hz0))
  have HR := Lib.hid (HR.out.below hb1 HR.out.lt)
  have HQ := Lib.hid (HQ.out.below hb1 HQ.out.lt)
  have hzq := HQ.out.lt
  clear hb1
  have r0 := HR.out.cell 0 (v := .slice pp ps.length cp) rfl
  go_wp2_with fail
  refine (read_any q c l ps.length w1 (HL.out.below HE.out) h4 hn).mono ?_
  rintro e w2 ⟨rfl, hb2⟩
  rw [HS.out, readS, HS.out]
  have HE := Lib.hid (HE.out.trans (hb2.mono HE.out.size))
  have HR := Lib.hid (HR.out.below hb2 HR.out.lt)
  have HQ := Lib.hid (HQ.out.below hb2 HQ.out.lt)
  have hzq := HQ.out.lt
  clear hb2 r0
  have HA := Lib.hid (Row.new w2 (setA l) 75)
  have hA := below_alloc w2 (.cells (setA l) 75)
  have HE := Lib.hid (HE.out.trans (hA.mono HE.out.size))
  have HR := Lib.hid (HR.out.below hA HR.out.lt)
  have HQ := Lib.hid (HQ.out.below hA HQ.out.lt)
  clear hA
  go_wp2_with fail
  change Code.wp _ _ _ _ (w2.alloc (.cells (setA l) 75))
  generalize w2.alloc (.cells (setA l) 75) = W1 at *
  have hS : ∀ w', FromB (w.heap.size + 1) W1 w' → (w'.cell? ⟨w.heap.size, 0, none⟩ = some (.slice pp ps.length cp) ∧ w'.cell? ⟨w.heap.size, 1, none⟩ = some (.slice pf ms.length cf) ∧ w'.cell? ⟨w2.heap.size, 0, none⟩ = some (.int .i64 (at0 l 0)) ∧ w'.cell? ⟨w2.heap.size, 1, none⟩ = some (.int .i64 (at0 l 1)) ∧ w'.cell? ⟨w2.heap.size, 2, none⟩ = some (.int .i64 (at0 l 2)) ∧ w'.cell? ⟨w2.heap.size, 3, none⟩ = some (.int .i64 (at0 l 3))) :=
    fun w' k => ⟨(k.row HR.out (by omega)).cell 0 rfl, (k.row HR.out (by omega)).cell 1 rfl, (k.row HA.out (by omega)).cell 0 rfl, (k.row HA.out (by omega)).cell 1 rfl, (k.row HA.out (by omega)).cell 2 rfl, (k.row HA.out (by omega)).cell 3 rfl⟩
  have HSS := Lib.hid hS
  have hzW := HQ.out.lt
  have KI := Lib.hid (From.refl W1)
  have KB := Lib.hid (FromB.refl (w.heap.size + 1) W1)
  have HBW := Lib.hid (HBK.out.below HE.out)
  clear hS
  go_region_held3 (fun w' => w'.cell? ⟨w.heap.size, 0, none⟩ = some (.slice pp ps.length cp) ∧ w'.cell? ⟨w.heap.size, 1, none⟩ = some (.slice pf ms.length cf) ∧ w'.cell? ⟨w2.heap.size, 0, none⟩ = some (.int .i64 (at0 l 0)) ∧ w'.cell? ⟨w2.heap.size, 1, none⟩ = some (.int .i64 (at0 l 1)) ∧ w'.cell? ⟨w2.heap.size, 2, none⟩ = some (.int .i64 (at0 l 2)) ∧ w'.cell? ⟨w2.heap.size, 3, none⟩ = some (.int .i64 (at0 l 3))) (first | with_reducible exact HSS.out _ KB.out | with_reducible exact HSS.out _ KB.out.drew | with_reducible exact HSS.out _ (((((((KB.out.set _ _).set _ _).set _ _).set _ _).set _ _).set _ _).set _ _))
    (first
      | (go_at_call 30; (with_reducible refine (open_any _ _ _ _ _ _ _ (by first | with_reducible exact KI.out.bk HBW.out | with_reducible exact KI.out.drew.bk HBW.out)).mono ?_); rintro e u ⟨mb, rfl, hmb, hbk, hbu⟩; have HMB := Lib.hid (Nat.le_trans KI.out.b.size hmb); have BK := Lib.hid hbk; have KI := Lib.hid (by first | with_reducible exact KI.out.drew.below hbu | with_reducible exact KI.out.below hbu); have KB := Lib.hid (by first | with_reducible exact KB.out.drew.below hbu | with_reducible exact KB.out.below hbu); clear hbu hbk hmb)
      | (go_at_call 63; (with_reducible refine (by_any _ _ _ _ _ _ _ _ _).mono ?_); rintro e u ⟨rfl, hbu⟩; have BK := Lib.hid (BK.out.below hbu); have KI := Lib.hid (by first | with_reducible exact KI.out.drew.below hbu | with_reducible exact KI.out.below hbu); have KB := Lib.hid (by first | with_reducible exact KB.out.drew.below hbu | with_reducible exact KB.out.below hbu); have HQK := Lib.hid (KI.out.row HQ.out); have c0 := HQK.out.cell 0 (v := .slice none 0 0) rfl; have c1 := HQK.out.cell 1 (v := .slice none 0 0) rfl; have c2 := HQK.out.cell 2 (v := .map none) rfl; have c3 := HQK.out.cell 3 (v := .int .i64 0) rfl; have c4 := HQK.out.cell 4 (v := .int .i64 0) rfl; have c5 := HQK.out.cell 5 (v := .int .i64 0) rfl; have c6 := HQK.out.cell 6 (v := .int .i64 0) rfl; have f0 := HQK.out.free 0; have f1 := HQK.out.free 1; have f2 := HQK.out.free 2; have f3 := HQK.out.free 3; have f4 := HQK.out.free 4; have f5 := HQK.out.free 5; have f6 := HQK.out.free 6; clear hbu))
  all_goals
    clear c0 c1 c2 c3 c4 c5 c6 f0 f1 f2 f3 f4 f5 f6
    have hmb := HMB.out
    have hsz := HE.out.size
    go_wp2_with fail
    have q := pas_sets HQK.out (pasA pp ps.length cp pf ms.length cf mb l) rfl
    have e0 := q.cell 0 (v := .slice pp ps.length cp) rfl
    have e1 := q.cell 1 (v := .slice pf ms.length cf) rfl
    have e2 := q.cell 2 (v := .map (some mb)) rfl
    have e3 := q.cell 3 (v := .int .i64 (at0 l 0)) rfl
    have e4 := q.cell 4 (v := .int .i64 (at0 l 1)) rfl
    have e5 := q.cell 5 (v := .int .i64 (at0 l 2)) rfl
    have e6 := q.cell 6 (v := .int .i64 (at0 l 3)) rfl
    have fb := ((((((((FromB.refl (w.heap.size + 1) u).set 0 (.slice pp ps.length cp)).set 1 (.slice pf ms.length cf)).set 2 (.map (some mb))).set 3 (.int .i64 (at0 l 0))).set 4 (.int .i64 (at0 l 1))).set 5 (.int .i64 (at0 l 2))).set 6 (.int .i64 (at0 l 3)))
    have bb := fb.k.below (n := w.heap.size) (by have := KI.out.b.size; omega) (fun k hk e => by omega)
    have hbel := (HE.out.trans (KI.out.b.mono HE.out.size)).trans bb
    have hbk := bkd_fromB HBK.out BK.out.d hbel fb (by omega)
    refine bodyPost_ret (v := .tuple #[.agg (pasA pp ps.length cp pf ms.length cf mb l), .int .i64 0]) (by simp [results, Tryz.results53, go_sem, e0, e1, e2, e3, e4, e5, e6]) rfl ?_
    exact ⟨mb, rfl, by omega, hbk, hbel⟩
end Go.Proofs.YticfcdbfplfmlaaGreat.Tu
/- The walks of layer 3: what a setting does to a frame. -/
namespace Go.Proofs.YticfcdbfplfmlaaGreat.Tu
open Go.RowKit Go.Maps
attribute [local go_sem] Oper.semAt_some

set_option maxRecDepth 10000 in
set_option maxHeartbeats 1600000 in
theorem follow_bad (pp : Option Addr) (cp : Nat) (pf : Option Addr) (cf : Nat) (ps : List Pt) (ms : List FrM) (q : Option Addr) (c : Nat) (l : List Int) (f : Int) (w : World) (hB : BkAt w pp pf ps ms) (hl : IntsAt w q l) (_hn : l.length < 2 ^ 62) (hb : bookB ps (frsM ms) = false) :
    Calls Tryz.prog 36 #[.agg #[.slice pp ps.length cp, .slice pf ms.length cf], .slice q l.length c, .int .i64 f] w fun e w' => e = .returned (.tuple #[.agg noPas, .int .i64 30]) ∧ Below w.heap.size w w' := by
  have hE := below_alloc2 w (.cells #[.slice pp ps.length cp, .slice pf ms.length cf] 25) (.cells noPas 83)
  have HB := Lib.hid (hB.below hE)
  have HLI := Lib.hid (hl.below hE)
  have HE := Lib.hid hE
  have HR := Lib.hid ((Row.new w #[.slice pp ps.length cp, .slice pf ms.length cf] 25).alloc (.cells noPas 83))
  have HQ := Lib.hid (Row.new1 w (.cells #[.slice pp ps.length cp, .slice pf ms.length cf] 25) noPas 83)
  clear hE hB hl
  go_enter Tryz.func36, Tryz.ntmps36
  go_wp2_with fail
  refine (enter_bad pp cp pf cf ps ms q c l _ HB.out hb).mono ?_
  rintro e w1 ⟨rfl, hb1⟩
  have HE := Lib.hid (HE.out.trans (hb1.mono HE.out.size))
  have HR := Lib.hid (HR.out.below hb1 HR.out.lt)
  have HQ := Lib.hid (HQ.out.below hb1 HQ.out.lt)
  have hzq := HQ.out.lt
  clear hb1
  have c0 := HQ.out.cell 0 (v := .slice none 0 0) rfl
  have c1 := HQ.out.cell 1 (v := .slice none 0 0) rfl
  have c2 := HQ.out.cell 2 (v := .map none) rfl
  have c3 := HQ.out.cell 3 (v := .int .i64 0) rfl
  have c4 := HQ.out.cell 4 (v := .int .i64 0) rfl
  have c5 := HQ.out.cell 5 (v := .int .i64 0) rfl
  have c6 := HQ.out.cell 6 (v := .int .i64 0) rfl
  have f0 := HQ.out.free 0
  have f1 := HQ.out.free 1
  have f2 := HQ.out.free 2
  have f3 := HQ.out.free 3
  have f4 := HQ.out.free 4
  have f5 := HQ.out.free 5
  have f6 := HQ.out.free 6
  go_wp2_with fail
  clear c0 c1 c2 c3 c4 c5 c6 f0 f1 f2 f3 f4 f5 f6
  have q := (((((((HQ.out.set 0 (.slice none 0 0)).set 1 (.slice none 0 0)).set 2 (.map none)).set 3 (.int .i64 0)).set 4 (.int .i64 0)).set 5 (.int .i64 0)).set 6 (.int .i64 0)).alloc (.cells noPas 83)
  have e0 := q.cell 0 (v := .slice none 0 0) rfl
  have e1 := q.cell 1 (v := .slice none 0 0) rfl
  have e2 := q.cell 2 (v := .map none) rfl
  have e3 := q.cell 3 (v := .int .i64 0) rfl
  have e4 := q.cell 4 (v := .int .i64 0) rfl
  have e5 := q.cell 5 (v := .int .i64 0) rfl
  have e6 := q.cell 6 (v := .int .i64 0) rfl
  exact bodyPost_ret (v := .tuple #[.agg noPas, .int .i64 30]) (by simp [results, Tryz.results36, go_sem, e0, e1, e2, e3, e4, e5, e6]) rfl
    ⟨rfl, (((((((HE.out.setCell (by dsimp only; omega) _).setCell (by dsimp only; omega) _).setCell (by dsimp only; omega) _).setCell (by dsimp only; omega) _).setCell (by dsimp only; omega) _).setCell (by dsimp only; omega) _).setCell (by dsimp only; omega) _).alloc (by have := HE.out.size; simp; omega) _⟩

set_option maxRecDepth 10000 in
set_option maxHeartbeats 1600000 in
theorem follow_no (pp : Option Addr) (cp : Nat) (pf : Option Addr) (cf : Nat) (ps : List Pt) (ms : List FrM) (q : Option Addr) (c : Nat) (l : List Int) (f : Int) (w : World) (hB : BkAt w pp pf ps ms) (hl : IntsAt w q l) (hn : l.length < 2 ^ 62) (hb : bookB ps (frsM ms) = true) (hs : isSetB ps.length l = false) :
    Calls Tryz.prog 36 #[.agg #[.slice pp ps.length cp, .slice pf ms.length cf], .slice q l.length c, .int .i64 f] w fun e w' => e = .returned (.tuple #[.agg noPas, .int .i64 31]) ∧ Below w.heap.size w w' := by
  have hE := below_alloc2 w (.cells #[.slice pp ps.length cp, .slice pf ms.length cf] 25) (.cells noPas 83)
  have HB := Lib.hid (hB.below hE)
  have HLI := Lib.hid (hl.below hE)
  have HE := Lib.hid hE
  have HR := Lib.hid ((Row.new w #[.slice pp ps.length cp, .slice pf ms.length cf] 25).alloc (.cells noPas 83))
  have HQ := Lib.hid (Row.new1 w (.cells #[.slice pp ps.length cp, .slice pf ms.length cf] 25) noPas 83)
  clear hE hB hl
  go_enter Tryz.func36, Tryz.ntmps36
  go_wp2_with fail
  refine (enter_no pp cp pf cf ps ms q c l _ HB.out hb HLI.out hn hs).mono ?_
  rintro e w1 ⟨rfl, hb1⟩
  have HE := Lib.hid (HE.out.trans (hb1.mono HE.out.size))
  have HR := Lib.hid (HR.out.below hb1 HR.out.lt)
  have HQ := Lib.hid (HQ.out.below hb1 HQ.out.lt)
  have hzq := HQ.out.lt
  clear hb1
  have c0 := HQ.out.cell 0 (v := .slice none 0 0) rfl
  have c1 := HQ.out.cell 1 (v := .slice none 0 0) rfl
  have c2 := HQ.out.cell 2 (v := .map none) rfl
  have c3 := HQ.out.cell 3 (v := .int .i64 0) rfl
  have c4 := HQ.out.cell 4 (v := .int .i64 0) rfl
  have c5 := HQ.out.cell 5 (v := .int .i64 0) rfl
  have c6 := HQ.out.cell 6 (v := .int .i64 0) rfl
  have f0 := HQ.out.free 0
  have f1 := HQ.out.free 1
  have f2 := HQ.out.free 2
  have f3 := HQ.out.free 3
  have f4 := HQ.out.free 4
  have f5 := HQ.out.free 5
  have f6 := HQ.out.free 6
  go_wp2_with fail
  clear c0 c1 c2 c3 c4 c5 c6 f0 f1 f2 f3 f4 f5 f6
  have q := (((((((HQ.out.set 0 (.slice none 0 0)).set 1 (.slice none 0 0)).set 2 (.map none)).set 3 (.int .i64 0)).set 4 (.int .i64 0)).set 5 (.int .i64 0)).set 6 (.int .i64 0)).alloc (.cells noPas 83)
  have e0 := q.cell 0 (v := .slice none 0 0) rfl
  have e1 := q.cell 1 (v := .slice none 0 0) rfl
  have e2 := q.cell 2 (v := .map none) rfl
  have e3 := q.cell 3 (v := .int .i64 0) rfl
  have e4 := q.cell 4 (v := .int .i64 0) rfl
  have e5 := q.cell 5 (v := .int .i64 0) rfl
  have e6 := q.cell 6 (v := .int .i64 0) rfl
  exact bodyPost_ret (v := .tuple #[.agg noPas, .int .i64 31]) (by simp [results, Tryz.results36, go_sem, e0, e1, e2, e3, e4, e5, e6]) rfl
    ⟨rfl, (((((((HE.out.setCell (by dsimp only; omega) _).setCell (by dsimp only; omega) _).setCell (by dsimp only; omega) _).setCell (by dsimp only; omega) _).setCell (by dsimp only; omega) _).setCell (by dsimp only; omega) _).setCell (by dsimp only; omega) _).alloc (by have := HE.out.size; simp; omega) _⟩

set_option maxRecDepth 10000 in
set_option maxHeartbeats 1600000 in
theorem follow_frame (pp : Option Addr) (cp : Nat) (pf : Option Addr) (cf : Nat) (ps : List Pt) (ms : List FrM) (q : Option Addr) (c : Nat) (l : List Int) (f : Int) (w : World) (hB : BkAt w pp pf ps ms) (hl : IntsAt w q l) (hn : l.length < 2 ^ 62) (hb : bookB ps (frsM ms) = true) (hs : isSetB ps.length l = true) (hf : ¬ (0 ≤ f ∧ f < ms.length)) :
    Calls Tryz.prog 36 #[.agg #[.slice pp ps.length cp, .slice pf ms.length cf], .slice q l.length c, .int .i64 f] w fun e w' => e = .returned (.tuple #[.agg noPas, .int .i64 31]) ∧ Below w.heap.size w w' := by
  have hE := below_alloc2 w (.cells #[.slice pp ps.length cp, .slice pf ms.length cf] 25) (.cells noPas 83)
  have HB := Lib.hid (hB.below hE)
  have HLI := Lib.hid (hl.below hE)
  have HE := Lib.hid hE
  have HR := Lib.hid ((Row.new w #[.slice pp ps.length cp, .slice pf ms.length cf] 25).alloc (.cells noPas 83))
  have HQ := Lib.hid (Row.new1 w (.cells #[.slice pp ps.length cp, .slice pf ms.length cf] 25) noPas 83)
  have hf2 : f < 0 ∨ (0 ≤ f ∧ (ms.length : Int) ≤ f) := by omega
  clear hE hB hl hf
  rcases hf2 with hf2 | ⟨hf1, hf2⟩
  all_goals
    go_enter Tryz.func36, Tryz.ntmps36
    go_wp2_with fail
    refine (enter_yes pp cp pf cf ps ms q c l _ HB.out hb HLI.out hn hs).mono ?_
    rintro e w1 ⟨mb, rfl, _, _, hb1⟩
    have HE := Lib.hid (HE.out.trans (hb1.mono HE.out.size))
    have HR := Lib.hid (HR.out.below hb1 HR.out.lt)
    have HQ := Lib.hid (HQ.out.below hb1 HQ.out.lt)
    have hzq := HQ.out.lt
    clear hb1
    have c0 := HQ.out.cell 0 (v := .slice none 0 0) rfl
    have c1 := HQ.out.cell 1 (v := .slice none 0 0) rfl
    have c2 := HQ.out.cell 2 (v := .map none) rfl
    have c3 := HQ.out.cell 3 (v := .int .i64 0) rfl
    have c4 := HQ.out.cell 4 (v := .int .i64 0) rfl
    have c5 := HQ.out.cell 5 (v := .int .i64 0) rfl
    have c6 := HQ.out.cell 6 (v := .int .i64 0) rfl
    have f0 := HQ.out.free 0
    have f1 := HQ.out.free 1
    have f2 := HQ.out.free 2
    have f3 := HQ.out.free 3
    have f4 := HQ.out.free 4
    have f5 := HQ.out.free 5
    have f6 := HQ.out.free 6
    have g1 := HR.out.cell 1 (v := .slice pf ms.length cf) rfl
    have hzr := HR.out.lt
    go_wp2_with fail
    clear c0 c1 c2 c3 c4 c5 c6 f0 f1 f2 f3 f4 f5 f6
    have q := (((((((HQ.out.set 0 (.slice none 0 0)).set 1 (.slice none 0 0)).set 2 (.map none)).set 3 (.int .i64 0)).set 4 (.int .i64 0)).set 5 (.int .i64 0)).set 6 (.int .i64 0)).alloc (.cells (pasA pp ps.length cp pf ms.length cf mb l) 83)
    have e0 := q.cell 0 (v := .slice none 0 0) rfl
    have e1 := q.cell 1 (v := .slice none 0 0) rfl
    have e2 := q.cell 2 (v := .map none) rfl
    have e3 := q.cell 3 (v := .int .i64 0) rfl
    have e4 := q.cell 4 (v := .int .i64 0) rfl
    have e5 := q.cell 5 (v := .int .i64 0) rfl
    have e6 := q.cell 6 (v := .int .i64 0) rfl
    exact bodyPost_ret (v := .tuple #[.agg noPas, .int .i64 31]) (by simp [results, Tryz.results36, go_sem, e0, e1, e2, e3, e4, e5, e6]) rfl
      ⟨rfl, (((((((HE.out.setCell (by dsimp only; omega) _).setCell (by dsimp only; omega) _).setCell (by dsimp only; omega) _).setCell (by dsimp only; omega) _).setCell (by dsimp only; omega) _).setCell (by dsimp only; omega) _).setCell (by dsimp only; omega) _).alloc (by have := HE.out.size; simp; omega) _⟩

set_option maxRecDepth 10000 in
set_option maxHeartbeats 1600000 in
theorem follow_yes (pp : Option Addr) (cp : Nat) (pf : Option Addr) (cf : Nat) (ps : List Pt) (ms : List FrM) (q : Option Addr) (c : Nat) (l : List Int) (f : Int) (w : World) (hB : BkAt w pp pf ps ms) (hl : IntsAt w q l) (hn : l.length < 2 ^ 62) (hb : bookB ps (frsM ms) = true) (hs : isSetB ps.length l = true) (hf0 : 0 ≤ f) (hf1 : f < ms.length) :
    Calls Tryz.prog 36 #[.agg #[.slice pp ps.length cp, .slice pf ms.length cf], .slice q l.length c, .int .i64 f] w (GavePas pp cp pf cf ps ms l w) := by
  have hE := below_alloc2 w (.cells #[.slice pp ps.length cp, .slice pf ms.length cf] 25) (.cells noPas 83)
  have HB := Lib.hid (hB.below hE)
  have HLI := Lib.hid (hl.below hE)
  have HE := Lib.hid hE
  have HR := Lib.hid ((Row.new w #[.slice pp ps.length cp, .slice pf ms.length cf] 25).alloc (.cells noPas 83))
  have HQ := Lib.hid (Row.new1 w (.cells #[.slice pp ps.length cp, .slice pf ms.length cf] 25) noPas 83)
  have HBK := Lib.hid (bk_of hB hb)
  clear hE hB hl
  go_enter Tryz.func36, Tryz.ntmps36
  go_wp2_with fail
  refine (enter_yes pp cp pf cf ps ms q c l _ HB.out hb HLI.out hn hs).mono ?_
  rintro e w1 ⟨mb, rfl, hmb, hbk, hb1⟩
  have HBD := Lib.hid hbk
  have hzw := HQ.out.lt
  clear hbk
  have HE := Lib.hid (HE.out.trans (hb1.mono HE.out.size))
  have HR := Lib.hid (HR.out.below hb1 HR.out.lt)
  have HQ := Lib.hid (HQ.out.below hb1 HQ.out.lt)
  have hzq := HQ.out.lt
  clear hb1
  have c0 := HQ.out.cell 0 (v := .slice none 0 0) rfl
  have c1 := HQ.out.cell 1 (v := .slice none 0 0) rfl
  have c2 := HQ.out.cell 2 (v := .map none) rfl
  have c3 := HQ.out.cell 3 (v := .int .i64 0) rfl
  have c4 := HQ.out.cell 4 (v := .int .i64 0) rfl
  have c5 := HQ.out.cell 5 (v := .int .i64 0) rfl
  have c6 := HQ.out.cell 6 (v := .int .i64 0) rfl
  have f0 := HQ.out.free 0
  have f1 := HQ.out.free 1
  have f2 := HQ.out.free 2
  have f3 := HQ.out.free 3
  have f4 := HQ.out.free 4
  have f5 := HQ.out.free 5
  have f6 := HQ.out.free 6
  have g1 := HR.out.cell 1 (v := .slice pf ms.length cf) rfl
  have hzr := HR.out.lt
  go_wp2_with fail
  clear c0 c1 c2 c3 c4 c5 c6 f0 f1 f2 f3 f4 f5 f6 g1
  have q := (pas_sets HQ.out (pasA pp ps.length cp pf ms.length cf mb l) rfl).alloc (.cells (pasA pp ps.length cp pf ms.length cf mb l) 83)
  have e0 := q.cell 0 (v := .slice pp ps.length cp) rfl
  have e1 := q.cell 1 (v := .slice pf ms.length cf) rfl
  have e2 := q.cell 2 (v := .map (some mb)) rfl
  have e3 := q.cell 3 (v := .int .i64 (at0 l 0)) rfl
  have e4 := q.cell 4 (v := .int .i64 (at0 l 1)) rfl
  have e5 := q.cell 5 (v := .int .i64 (at0 l 2)) rfl
  have e6 := q.cell 6 (v := .int .i64 (at0 l 3)) rfl
  have fb := ((((((((FromB.refl (w.heap.size + 1) w1).set 0 (.slice pp ps.length cp)).set 1 (.slice pf ms.length cf)).set 2 (.map (some mb))).set 3 (.int .i64 (at0 l 0))).set 4 (.int .i64 (at0 l 1))).set 5 (.int .i64 (at0 l 2))).set 6 (.int .i64 (at0 l 3))).alloc (.cells (pasA pp ps.length cp pf ms.length cf mb l) 83)
  have bb := fb.k.below (n := w.heap.size) (by omega) (fun k hk e => by omega)
  have hbel := HE.out.trans bb
  have hbk := bkd_fromB HBK.out HBD.out.d hbel fb (by omega)
  refine bodyPost_ret (v := .tuple #[.agg (pasA pp ps.length cp pf ms.length cf mb l), .int .i64 0]) (by simp [results, Tryz.results36, go_sem, e0, e1, e2, e3, e4, e5, e6]) rfl ?_
  exact ⟨mb, rfl, by omega, hbk, hbel⟩

end Go.Proofs.YticfcdbfplfmlaaGreat.Tu
/- The walks of layer 3: the calls of the package. -/
namespace Go.Proofs.YticfcdbfplfmlaaGreat.Tu
open Go.RowKit Go.Maps
attribute [local go_sem] Oper.semAt_some

theorem setE_bad {ps : List Pt} {fs : List Fr} (h : bookB ps fs = false) (l : List Int) : setE ps fs l = 30 := by simp [setE, h]
theorem setE_no {ps : List Pt} {fs : List Fr} (h : bookB ps fs = true) {l : List Int} (hs : isSetB ps.length l = false) : setE ps fs l = 31 := by simp [setE, h, hs]
theorem setE_yes {ps : List Pt} {fs : List Fr} (h : bookB ps fs = true) {l : List Int} (hs : isSetB ps.length l = true) : setE ps fs l = 0 := by simp [setE, h, hs]
theorem frameE_bad {ps : List Pt} {fs : List Fr} (h : bookB ps fs = false) (l : List Int) (f : Int) : frameE ps fs l f = 30 := by simp [frameE, setE, h]
theorem frameE_no {ps : List Pt} {fs : List Fr} (h : bookB ps fs = true) {l : List Int} (hs : isSetB ps.length l = false) (f : Int) : frameE ps fs l f = 31 := by simp [frameE, setE, h, hs]
theorem frameE_fr {ps : List Pt} {ms : List FrM} (h : bookB ps (frsM ms) = true) {l : List Int} (hs : isSetB ps.length l = true) {f : Int} (hf : ¬ (0 ≤ f ∧ f < ms.length)) : frameE ps (frsM ms) l f = 31 := by
  simp only [frameE, setE_yes h hs, if_true, frsM_length, if_neg hf]
theorem frameE_yes {ps : List Pt} {ms : List FrM} (h : bookB ps (frsM ms) = true) {l : List Int} (hs : isSetB ps.length l = true) {f : Int} (h0 : 0 ≤ f) (h1 : f < ms.length) : frameE ps (frsM ms) l f = 0 := by
  simp only [frameE, setE_yes h hs, if_true, frsM_length, if_pos (And.intro h0 h1)]
/-- What the calls return, in plain data. -/
def heatV (ps : List Pt) (fs : List Fr) (l : List Int) : Int := if setE ps fs l = 0 then heatD ps l else 0
def goodV (ps : List Pt) (fs : List Fr) (l : List Int) : List Int := if setE ps fs l = 0 then goodD ps fs l else []
def stayF (fs : List Fr) (f : Int) : Fr := fs.getD f.toNat ⟨[], 0, 0⟩
def loV (ps : List Pt) (fs : List Fr) (l : List Int) (f : Int) : Int := if frameE ps fs l f = 0 then dryD Pt.hi ps l (stayF fs f).stay else 0
def hiV (ps : List Pt) (fs : List Fr) (l : List Int) (f : Int) : Int := if frameE ps fs l f = 0 then dryD Pt.lo ps l (stayF fs f).stay else 0
def kindV (ps : List Pt) (fs : List Fr) (l : List Int) (f : Int) : Int := if frameE ps fs l f = 0 then kindD ps l (stayF fs f) else 0
theorem stayF_at {ms : List FrM} {n : Nat} (h : n < ms.length) : stayF (frsM ms) (n : Int) = ms[n].f := by simp [stayF, frsM, h]
/-- The call returned a list, and an error. -/
def GaveListE (xs : List Int) (er : Int) (w : World) (e : Ending) (w' : World) : Prop := ∃ p c, e = .returned (.tuple #[.slice p xs.length c, .int .i64 er]) ∧ IntsAt w' p xs ∧ Below w.heap.size w w'
theorem nil_list (er : Int) (w w' : World) (hb : Below w.heap.size w w') : GaveListE [] er w (.returned (.tuple #[.slice none 0 0, .int .i64 er])) w' := ⟨none, 0, rfl, fun i hi => by simp at hi, hb⟩

set_option maxRecDepth 10000 in
set_option maxHeartbeats 1600000 in
theorem Good_any (pp : Option Addr) (cp : Nat) (pf : Option Addr) (cf : Nat) (ps : List Pt) (ms : List FrM) (w : World) (hB : BkAt w pp pf ps ms) (q : Option Addr) (c : Nat) (l : List Int) (hl : IntsAt w q l) (hn : l.length < 2 ^ 62) : Calls Tryz.prog 25 #[.agg #[.slice pp ps.length cp, .slice pf ms.length cf], .slice q l.length c] w (GaveListE (goodV ps (frsM ms) l) (setE ps (frsM ms) l) w) := by
  have hE := below_alloc w (.cells #[.slice pp ps.length cp, .slice pf ms.length cf] 25)
  have HB := Lib.hid (hB.below hE)
  have HE := Lib.hid hE
  have HR := Lib.hid (Row.new w #[.slice pp ps.length cp, .slice pf ms.length cf] 25)
  have HL := Lib.hid (hl.below hE)
  clear hE hl
  cases hb : bookB ps (frsM ms)
  · rw [goodV, setE_bad hb, if_neg (by decide)]
    go_enter Tryz.func25, Tryz.ntmps25
    go_wp2_with fail
    refine (enter_bad pp cp pf cf ps ms q c l _ HB.out hb).mono ?_
    rintro e w1 ⟨rfl, hb1⟩
    have HE := Lib.hid (HE.out.trans (hb1.mono HE.out.size))
    have HR := Lib.hid (HR.out.below hb1 HR.out.lt)
    clear hb1
    go_wp2_with fail
    go_ret2
    exact nil_list _ _ _ (HE.out.alloc HE.out.size _)
  · cases hs : isSetB ps.length l
    · rw [goodV, setE_no hb hs, if_neg (by decide)]
      go_enter Tryz.func25, Tryz.ntmps25
      go_wp2_with fail
      refine (enter_no pp cp pf cf ps ms q c l _ HB.out hb HL.out hn hs).mono ?_
      rintro e w1 ⟨rfl, hb1⟩
      have HE := Lib.hid (HE.out.trans (hb1.mono HE.out.size))
      have HR := Lib.hid (HR.out.below hb1 HR.out.lt)
      clear hb1
      go_wp2_with fail
      go_ret2
      exact nil_list _ _ _ (HE.out.alloc HE.out.size _)
    · rw [goodV, setE_yes hb hs, if_pos rfl]
      have hok := (isSet_ok hs (bookB_iff.1 hb).p4).2.1
      have HSL := Lib.hid (isSet_ok hs (bookB_iff.1 hb).p4).1
      have HGE := Lib.hid (good_eq ps ms l)
      go_enter Tryz.func25, Tryz.ntmps25
      go_wp2_with fail
      refine (enter_yes pp cp pf cf ps ms q c l _ HB.out hb HL.out hn hs).mono ?_
      rintro e w1 ⟨mb, rfl, hmb, hbk, hb1⟩
      have HE := Lib.hid (HE.out.trans (hb1.mono HE.out.size))
      have HR := Lib.hid (HR.out.below hb1 HR.out.lt)
      clear hb1
      have BK := Lib.hid (hbk.below (below_alloc w1 (.cells (pasA pp ps.length cp pf ms.length cf mb l) 83)))
      have HEA := Lib.hid (HE.out.alloc HE.out.size (.cells (pasA pp ps.length cp pf ms.length cf mb l) 83))
      have HRA := Lib.hid (HR.out.alloc (.cells (pasA pp ps.length cp pf ms.length cf mb l) 83))
      clear hbk
      go_wp2_with fail
      refine (frames_dry pp cp pf cf mb 0 l hok ps ms _ BK.out (by omega) HSL.out).mono ?_
      rintro e w2 ⟨p, cc, rfl, hi, _, hr2⟩
      have HI := Lib.hid hi
      have hzz := HE.out.size
      have hz0 : w.heap.size < (w.alloc (.cells #[.slice pp ps.length cp, .slice pf ms.length cf] 25)).heap.size := by simp
      have HEB := Lib.hid (hr2.base HEA.out (by omega) HEA.out.size)
      clear hr2 hi
      rw [HGE.out] at *
      go_wp2_with fail
      go_ret2
      exact ⟨p, cc, rfl, HI.out, HEB.out⟩

set_option maxRecDepth 10000 in
set_option maxHeartbeats 1600000 in
theorem Kind_any (pp : Option Addr) (cp : Nat) (pf : Option Addr) (cf : Nat) (ps : List Pt) (ms : List FrM) (w : World) (hB : BkAt w pp pf ps ms) (q : Option Addr) (c : Nat) (l : List Int) (hl : IntsAt w q l) (hn : l.length < 2 ^ 62) (f : Int) : Calls Tryz.prog 12 #[.agg #[.slice pp ps.length cp, .slice pf ms.length cf], .slice q l.length c, .int .i64 f] w fun e w' => e = .returned (.tuple #[.int .i64 (kindV ps (frsM ms) l f), .int .i64 (frameE ps (frsM ms) l f)]) ∧ Below w.heap.size w w' := by
  have hE := below_alloc w (.cells #[.slice pp ps.length cp, .slice pf ms.length cf] 25)
  have HB := Lib.hid (hB.below hE)
  have HE := Lib.hid hE
  have HR := Lib.hid (Row.new w #[.slice pp ps.length cp, .slice pf ms.length cf] 25)
  have HL := Lib.hid (hl.below hE)
  clear hE hl
  cases hb : bookB ps (frsM ms)
  · simp only [kindV, frameE_bad hb l f, if_neg (show ¬ ((30 : Int) = 0) by decide)]
    go_enter Tryz.func12, Tryz.ntmps12
    go_wp2_with fail
    refine (follow_bad pp cp pf cf ps ms q c l f _ HB.out HL.out hn hb).mono ?_
    rintro e w1 ⟨rfl, hb1⟩
    have HE := Lib.hid (HE.out.trans (hb1.mono HE.out.size))
    have HR := Lib.hid (HR.out.below hb1 HR.out.lt)
    clear hb1
    go_wp2_with fail
    go_ret2
    exact ⟨rfl, HE.out.alloc HE.out.size _⟩
  · cases hs : isSetB ps.length l
    · simp only [kindV, frameE_no hb hs f, if_neg (show ¬ ((31 : Int) = 0) by decide)]
      go_enter Tryz.func12, Tryz.ntmps12
      go_wp2_with fail
      refine (follow_no pp cp pf cf ps ms q c l f _ HB.out HL.out hn hb hs).mono ?_
      rintro e w1 ⟨rfl, hb1⟩
      have HE := Lib.hid (HE.out.trans (hb1.mono HE.out.size))
      have HR := Lib.hid (HR.out.below hb1 HR.out.lt)
      clear hb1
      go_wp2_with fail
      go_ret2
      exact ⟨rfl, HE.out.alloc HE.out.size _⟩
    · by_cases hf : 0 ≤ f ∧ f < ms.length
      · obtain ⟨hf0, hf1⟩ := hf
        simp only [kindV, frameE_yes hb hs hf0 hf1, if_true]
        obtain ⟨n, rfl⟩ := Int.eq_ofNat_of_zero_le hf0
        have hn2 : n < ms.length := by omega
        simp only [stayF_at hn2]
        have hok := (isSet_ok hs (bookB_iff.1 hb).p4).2.1
        go_enter Tryz.func12, Tryz.ntmps12
        go_wp2_with fail
        refine (follow_yes pp cp pf cf ps ms q c l n _ HB.out HL.out hn hb hs (by omega) (by omega)).mono ?_
        rintro e w1 ⟨mb, rfl, hmb, hbk, hb1⟩
        have HE := Lib.hid (HE.out.trans (hb1.mono HE.out.size))
        have HR := Lib.hid (HR.out.below hb1 HR.out.lt)
        clear hb1
        have BK := Lib.hid (hbk.below (below_alloc w1 (.cells (pasA pp ps.length cp pf ms.length cf mb l) 83)))
        have HEA := Lib.hid (HE.out.alloc HE.out.size (.cells (pasA pp ps.length cp pf ms.length cf mb l) 83))
        have HRA := Lib.hid (HR.out.alloc (.cells (pasA pp ps.length cp pf ms.length cf mb l) 83))
        clear hbk
        go_wp2_with fail
        refine (kind_any _ _ _ _ _ _ _ _ _ BK.out.b hok n hn2).mono ?_
        rintro e w2 ⟨rfl, hb2⟩
        have HEA := Lib.hid (HEA.out.trans (hb2.mono HEA.out.size))
        clear hb2
        go_wp2_with fail
        go_ret2
        exact ⟨rfl, HEA.out⟩
      · simp only [kindV, frameE_fr hb hs hf, if_neg (show ¬ ((31 : Int) = 0) by decide)]
        go_enter Tryz.func12, Tryz.ntmps12
        go_wp2_with fail
        refine (follow_frame pp cp pf cf ps ms q c l f _ HB.out HL.out hn hb hs hf).mono ?_
        rintro e w1 ⟨rfl, hb1⟩
        have HE := Lib.hid (HE.out.trans (hb1.mono HE.out.size))
        have HR := Lib.hid (HR.out.below hb1 HR.out.lt)
        clear hb1
        go_wp2_with fail
        go_ret2
        exact ⟨rfl, HE.out.alloc HE.out.size _⟩

end Go.Proofs.YticfcdbfplfmlaaGreat.Tu
/- The walks of layer 3: more calls of the package. -/
namespace Go.Proofs.YticfcdbfplfmlaaGreat.Tu
open Go.RowKit Go.Maps
attribute [local go_sem] Oper.semAt_some

/-- The error of a question how much longer a frame can stay; the answer. -/
def longE (ps : List Pt) (fs : List Fr) (l : List Int) (f k : Int) : Int := if frameE ps fs l f = 0 then (if 0 ≤ k ∧ k < ps.length then (if kindD ps l (stayF fs f) = 0 then 0 else 4) else 31) else frameE ps fs l f
def longV (ps : List Pt) (fs : List Fr) (l : List Int) (f k : Int) : Int := if longE ps fs l f k = 0 then (longN (longB ps l (stayF fs f) k.toNat) (20 - at0 (stayF fs f).stay k.toNat).toNat : Int) else 0
/-- The best setting. -/
def bestE (ps : List Pt) (fs : List Fr) : Int := if bookB ps fs then (if (coolD ps fs (List.range fs.length)).isSome then 0 else 4) else 30
def bestL (ps : List Pt) (fs : List Fr) : List Int := if bookB ps fs then (coolD ps fs (List.range fs.length)).getD [] else []
theorem all_range (n : Nat) : pickL allI n = (List.range n).map fun (i : Nat) => (i : Int) := by
  simp [pickL, show List.filter allI (List.range n) = List.range n from List.filter_eq_self.2 (fun _ _ => rfl)]

set_option maxRecDepth 10000 in
set_option maxHeartbeats 1600000 in
theorem Dries_any (pp : Option Addr) (cp : Nat) (pf : Option Addr) (cf : Nat) (ps : List Pt) (ms : List FrM) (w : World) (hB : BkAt w pp pf ps ms) (q : Option Addr) (c : Nat) (l : List Int) (hl : IntsAt w q l) (hn : l.length < 2 ^ 62) (f : Int) : Calls Tryz.prog 13 #[.agg #[.slice pp ps.length cp, .slice pf ms.length cf], .slice q l.length c, .int .i64 f] w fun e w' => e = .returned (.tuple #[.agg #[.int .i64 (loV ps (frsM ms) l f), .int .i64 (hiV ps (frsM ms) l f)], .int .i64 (frameE ps (frsM ms) l f)]) ∧ Below w.heap.size w w' := by
  have hE := below_alloc2 w (.cells #[.slice pp ps.length cp, .slice pf ms.length cf] 25) (.cells #[.int .i64 0, .int .i64 0] 43)
  have HB := Lib.hid (hB.below hE)
  have HE := Lib.hid hE
  have HR := Lib.hid ((Row.new w #[.slice pp ps.length cp, .slice pf ms.length cf] 25).alloc (.cells #[.int .i64 0, .int .i64 0] 43))
  have HQ := Lib.hid (Row.new1 w (.cells #[.slice pp ps.length cp, .slice pf ms.length cf] 25) #[.int .i64 0, .int .i64 0] 43)
  have HL := Lib.hid (hl.below hE)
  clear hE hl
  cases hb : bookB ps (frsM ms)
  · simp only [loV, hiV, frameE_bad hb l f, if_neg (show ¬ ((30 : Int) = 0) by decide)]
    go_enter Tryz.func13, Tryz.ntmps13
    go_wp2_with fail
    refine (follow_bad pp cp pf cf ps ms q c l f _ HB.out HL.out hn hb).mono ?_
    rintro e w1 ⟨rfl, hb1⟩
    have HE := Lib.hid (HE.out.trans (hb1.mono HE.out.size))
    have HQ := Lib.hid (HQ.out.below hb1 HQ.out.lt)
    have hzq := HQ.out.lt
    clear hb1
    have c0 := HQ.out.cell 0 (v := .int .i64 0) rfl
    have c1 := HQ.out.cell 1 (v := .int .i64 0) rfl
    have f0 := HQ.out.free 0
    have f1 := HQ.out.free 1
    go_wp2_with fail
    clear c0 c1 f0 f1
    have q := ((HQ.out.set 0 (.int .i64 0)).set 1 (.int .i64 0)).alloc (.cells noPas 83)
    have e0 := q.cell 0 (v := .int .i64 0) rfl
    have e1 := q.cell 1 (v := .int .i64 0) rfl
    exact bodyPost_ret (v := .tuple #[.agg #[.int .i64 0, .int .i64 0], .int .i64 30]) (by simp [results, Tryz.results13, go_sem, e0, e1]) rfl
      ⟨rfl, ((HE.out.setCell (by dsimp only; omega) _).setCell (by dsimp only; omega) _).alloc (by have := HE.out.size; simp; omega) _⟩
  · cases hs : isSetB ps.length l
    · simp only [loV, hiV, frameE_no hb hs f, if_neg (show ¬ ((31 : Int) = 0) by decide)]
      go_enter Tryz.func13, Tryz.ntmps13
      go_wp2_with fail
      refine (follow_no pp cp pf cf ps ms q c l f _ HB.out HL.out hn hb hs).mono ?_
      rintro e w1 ⟨rfl, hb1⟩
      have HE := Lib.hid (HE.out.trans (hb1.mono HE.out.size))
      have HQ := Lib.hid (HQ.out.below hb1 HQ.out.lt)
      have hzq := HQ.out.lt
      clear hb1
      have c0 := HQ.out.cell 0 (v := .int .i64 0) rfl
      have c1 := HQ.out.cell 1 (v := .int .i64 0) rfl
      have f0 := HQ.out.free 0
      have f1 := HQ.out.free 1
      go_wp2_with fail
      clear c0 c1 f0 f1
      have q := ((HQ.out.set 0 (.int .i64 0)).set 1 (.int .i64 0)).alloc (.cells noPas 83)
      have e0 := q.cell 0 (v := .int .i64 0) rfl
      have e1 := q.cell 1 (v := .int .i64 0) rfl
      exact bodyPost_ret (v := .tuple #[.agg #[.int .i64 0, .int .i64 0], .int .i64 31]) (by simp [results, Tryz.results13, go_sem, e0, e1]) rfl
        ⟨rfl, ((HE.out.setCell (by dsimp only; omega) _).setCell (by dsimp only; omega) _).alloc (by have := HE.out.size; simp; omega) _⟩
    · by_cases hf : 0 ≤ f ∧ f < ms.length
      · obtain ⟨hf0, hf1⟩ := hf
        simp only [loV, hiV, frameE_yes hb hs hf0 hf1, if_true]
        obtain ⟨n, rfl⟩ := Int.eq_ofNat_of_zero_le hf0
        have hn2 : n < ms.length := by omega
        simp only [stayF_at hn2]
        have hok := (isSet_ok hs (bookB_iff.1 hb).p4).2.1
        go_enter Tryz.func13, Tryz.ntmps13
        go_wp2_with fail
        refine (follow_yes pp cp pf cf ps ms q c l n _ HB.out HL.out hn hb hs (by omega) (by omega)).mono ?_
        rintro e w1 ⟨mb, rfl, hmb, hbk, hb1⟩
        have HE := Lib.hid (HE.out.trans (hb1.mono HE.out.size))
        have HQ := Lib.hid (HQ.out.below hb1 HQ.out.lt)
        have hzq := HQ.out.lt
        clear hb1
        have BK := Lib.hid (hbk.below (below_alloc w1 (.cells (pasA pp ps.length cp pf ms.length cf mb l) 83)))
        have HEA := Lib.hid (HE.out.alloc HE.out.size (.cells (pasA pp ps.length cp pf ms.length cf mb l) 83))
        have HQA := Lib.hid (HQ.out.alloc (.cells (pasA pp ps.length cp pf ms.length cf mb l) 83))
        clear hbk
        go_wp2_with fail
        refine (dryness_any _ _ _ _ _ _ _ _ _ BK.out.b hok n hn2).mono ?_
        rintro e w2 ⟨rfl, hb2⟩
        have HEA := Lib.hid (HEA.out.trans (hb2.mono HEA.out.size))
        have HQA := Lib.hid (HQA.out.below hb2 HQA.out.lt)
        clear hb2
        have c0 := HQA.out.cell 0 (v := .int .i64 0) rfl
        have c1 := HQA.out.cell 1 (v := .int .i64 0) rfl
        have f0 := HQA.out.free 0
        have f1 := HQA.out.free 1
        go_wp2_with fail
        clear c0 c1 f0 f1
        have q := ((HQA.out.set 0 (.int .i64 (dryD Pt.hi ps l ms[n].f.stay))).set 1 (.int .i64 (dryD Pt.lo ps l ms[n].f.stay)))
        have e0 := q.cell 0 (v := .int .i64 (dryD Pt.hi ps l ms[n].f.stay)) rfl
        have e1 := q.cell 1 (v := .int .i64 (dryD Pt.lo ps l ms[n].f.stay)) rfl
        exact bodyPost_ret (v := .tuple #[.agg #[.int .i64 (dryD Pt.hi ps l ms[n].f.stay), .int .i64 (dryD Pt.lo ps l ms[n].f.stay)], .int .i64 0]) (by simp [results, Tryz.results13, go_sem, e0, e1]) rfl
          ⟨rfl, ((HEA.out.setCell (by dsimp only; omega) _).setCell (by dsimp only; omega) _)⟩
      · simp only [loV, hiV, frameE_fr hb hs hf, if_neg (show ¬ ((31 : Int) = 0) by decide)]
        go_enter Tryz.func13, Tryz.ntmps13
        go_wp2_with fail
        refine (follow_frame pp cp pf cf ps ms q c l f _ HB.out HL.out hn hb hs hf).mono ?_
        rintro e w1 ⟨rfl, hb1⟩
        have HE := Lib.hid (HE.out.trans (hb1.mono HE.out.size))
        have HQ := Lib.hid (HQ.out.below hb1 HQ.out.lt)
        have hzq := HQ.out.lt
        clear hb1
        have c0 := HQ.out.cell 0 (v := .int .i64 0) rfl
        have c1 := HQ.out.cell 1 (v := .int .i64 0) rfl
        have f0 := HQ.out.free 0
        have f1 := HQ.out.free 1
        go_wp2_with fail
        clear c0 c1 f0 f1
        have q := ((HQ.out.set 0 (.int .i64 0)).set 1 (.int .i64 0)).alloc (.cells noPas 83)
        have e0 := q.cell 0 (v := .int .i64 0) rfl
        have e1 := q.cell 1 (v := .int .i64 0) rfl
        exact bodyPost_ret (v := .tuple #[.agg #[.int .i64 0, .int .i64 0], .int .i64 31]) (by simp [results, Tryz.results13, go_sem, e0, e1]) rfl
          ⟨rfl, ((HE.out.setCell (by dsimp only; omega) _).setCell (by dsimp only; omega) _).alloc (by have := HE.out.size; simp; omega) _⟩

end Go.Proofs.YticfcdbfplfmlaaGreat.Tu
/- The walks of layer 3: the calls that choose. -/
namespace Go.Proofs.YticfcdbfplfmlaaGreat.Tu
open Go.RowKit Go.Maps
attribute [local go_sem] Oper.semAt_some

theorem bookE_bad {ps : List Pt} {fs : List Fr} (h : bookB ps fs = false) : bookE ps fs = 30 := by simp [bookE, h]
theorem bookE_ok {ps : List Pt} {fs : List Fr} (h : bookB ps fs = true) : bookE ps fs = 0 := by simp [bookE, h]
theorem cool_mem {ps : List Pt} {fs : List Fr} {l : List Nat} {t : List Int} (h : coolD ps fs l = some t) : t ∈ setsL ps.length := (List.mem_filter.1 (best_mem h)).1
/-- What Most and Lost return. -/
def mostL (ps : List Pt) (fs : List Fr) : List Int := if bookB ps fs then mostD ps fs else []
def mostF (ps : List Pt) (fs : List Fr) : List Int := if bookB ps fs then goodD ps fs (mostD ps fs) else []
def lostL (ps : List Pt) (fs : List Fr) : List Int := if bookB ps fs then pickL (lostI ps fs) fs.length else []
/-- The call returned two lists, and an error. -/
def GaveLists (xs ys : List Int) (er : Int) (w : World) (e : Ending) (w' : World) : Prop := ∃ p c q d, e = .returned (.tuple #[.slice p xs.length c, .slice q ys.length d, .int .i64 er]) ∧ IntsAt w' p xs ∧ IntsAt w' q ys ∧ Below w.heap.size w w'

set_option maxRecDepth 10000 in
set_option maxHeartbeats 1600000 in
theorem Best_any (pp : Option Addr) (cp : Nat) (pf : Option Addr) (cf : Nat) (ps : List Pt) (ms : List FrM) (w : World) (hB : BkAt w pp pf ps ms) : Calls Tryz.prog 10 #[.agg #[.slice pp ps.length cp, .slice pf ms.length cf]] w (GaveListE (bestL ps (frsM ms)) (bestE ps (frsM ms)) w) := by
  have hE := below_alloc w (.cells #[.slice pp ps.length cp, .slice pf ms.length cf] 25)
  have HB := Lib.hid (hB.below hE)
  have HE := Lib.hid hE
  have HR := Lib.hid (Row.new w #[.slice pp ps.length cp, .slice pf ms.length cf] 25)
  clear hE
  cases hb : bookB ps (frsM ms)
  · have HV := Lib.hid (bookE_bad hb)
    simp only [bestL, bestE, hb, Bool.false_eq_true, if_false]
    clear hb
    go_enter Tryz.func10, Tryz.ntmps10
    go_wp2_with fail
    refine (Check_any pp cp pf cf ps ms _ HB.out).mono ?_
    rintro e w1 ⟨rfl, hb1⟩
    rw [HV.out]
    have HE := Lib.hid (HE.out.trans (hb1.mono HE.out.size))
    have HR := Lib.hid (HR.out.below hb1 HR.out.lt)
    clear hb1
    go_wp2_with fail
    go_ret2
    exact nil_list _ _ _ HE.out
  · have HV := Lib.hid (bookE_ok hb)
    have HBK := Lib.hid (bk_of hB hb)
    have hn4 := HBK.out.n4
    have hn5 := HBK.out.n5
    simp only [bestL, bestE, hb, if_true, frsM_length]
    obtain ⟨L, hL'⟩ : ∃ L, L = List.range ms.length := ⟨_, rfl⟩
    rw [← hL']
    have hL := Lib.hid hL'
    clear hL'
    cases hc : coolD ps (frsM ms) L with
    | none =>
      have HC := Lib.hid hc
      clear hc hb
      simp only [Option.getD_none, Option.isSome_none, Bool.false_eq_true, if_false]
      go_enter Tryz.func10, Tryz.ntmps10
      go_wp2_with fail
      refine (Check_any pp cp pf cf ps ms _ HB.out).mono ?_
      rintro e w1 ⟨rfl, hb1⟩
      rw [HV.out]
      have HE := Lib.hid (HE.out.trans (hb1.mono HE.out.size))
      have HR := Lib.hid (HR.out.below hb1 HR.out.lt)
      clear hb1
      have g0 := HR.out.cell 0 (v := .slice pp ps.length cp) rfl
      have g1 := HR.out.cell 1 (v := .slice pf ms.length cf) rfl
      go_wp2_with fail
      refine (open_any pp cp pf cf ps ms w1 (HBK.out.below HE.out)).mono ?_
      rintro e w2 ⟨mb, rfl, hmb, hbk, hb2⟩
      have hz1 := HE.out.size
      have HE := Lib.hid (HE.out.trans (hb2.mono HE.out.size))
      have HR := Lib.hid (HR.out.below hb2 HR.out.lt)
      clear hb2 g0 g1
      have hA := below_alloc w2 (.cells (bookA pp ps.length cp pf ms.length cf mb) 70)
      have RK := Lib.hid (Row.new w2 (bookA pp ps.length cp pf ms.length cf mb) 70)
      have BK := Lib.hid (hbk.below hA)
      have HE := Lib.hid (HE.out.trans (hA.mono HE.out.size))
      have HR := Lib.hid (HR.out.below hA HR.out.lt)
      have hzw : w.heap.size ≤ mb := by omega
      clear hA hbk hmb
      go_wp2_with fail
      refine (frames_all pp cp pf cf mb 0 ps ms _ BK.out (by omega)).mono ?_
      rintro e w4 ⟨p, c, rfl, hi, _, hr4⟩
      rw [show (pickL allI ms.length).length = L.length by rw [all_range, hL.out]; simp]
      have hq : FrsL w4 p L ms.length := ⟨by rw [hL.out, ← all_range]; exact hi, by rw [hL.out]; simpa using hn5, fun i hi => by rw [hL.out] at hi; simpa using hi⟩
      have HQ := Lib.hid hq
      have RK := Lib.hid (hr4.row BK.out.d RK.out)
      have HR := Lib.hid (hr4.row BK.out.d HR.out)
      have HE := Lib.hid (hr4.base HE.out hzw HE.out.size)
      have BK := Lib.hid (hr4.bkd BK.out)
      clear hr4 hi hq
      have k0 := RK.out.cell 0 (v := .slice pp ps.length cp) rfl
      have k1 := RK.out.cell 1 (v := .slice pf ms.length cf) rfl
      have k2 := RK.out.cell 2 (v := .map (some mb)) rfl
      go_wp2_with fail
      refine (coolest_any pp cp pf cf mb (0 + 0 * ms.length) ps ms p c L w4 BK.out HQ.out (by omega)).mono ?_
      rintro e w5 ⟨rfl, hr5⟩
      rw [HC.out]
      have HR := Lib.hid (hr5.row BK.out.d HR.out)
      have HE := Lib.hid (hr5.base HE.out hzw HE.out.size)
      clear hr5 k0 k1 k2
      go_wp2_with fail
      go_ret2
      exact nil_list _ _ _ (HE.out.alloc HE.out.size _)
    | some t =>
      have HC := Lib.hid hc
      have HTL := Lib.hid (mem_setsL.1 (cool_mem hc)).1
      clear hc hb
      simp only [Option.getD_some, Option.isSome_some, if_true]
      go_enter Tryz.func10, Tryz.ntmps10
      go_wp2_with fail
      refine (Check_any pp cp pf cf ps ms _ HB.out).mono ?_
      rintro e w1 ⟨rfl, hb1⟩
      rw [HV.out]
      have HE := Lib.hid (HE.out.trans (hb1.mono HE.out.size))
      have HR := Lib.hid (HR.out.below hb1 HR.out.lt)
      clear hb1
      have g0 := HR.out.cell 0 (v := .slice pp ps.length cp) rfl
      have g1 := HR.out.cell 1 (v := .slice pf ms.length cf) rfl
      go_wp2_with fail
      refine (open_any pp cp pf cf ps ms w1 (HBK.out.below HE.out)).mono ?_
      rintro e w2 ⟨mb, rfl, hmb, hbk, hb2⟩
      have hz1 := HE.out.size
      have HE := Lib.hid (HE.out.trans (hb2.mono HE.out.size))
      have HR := Lib.hid (HR.out.below hb2 HR.out.lt)
      clear hb2 g0 g1
      have hA := below_alloc w2 (.cells (bookA pp ps.length cp pf ms.length cf mb) 70)
      have RK := Lib.hid (Row.new w2 (bookA pp ps.length cp pf ms.length cf mb) 70)
      have BK := Lib.hid (hbk.below hA)
      have HE := Lib.hid (HE.out.trans (hA.mono HE.out.size))
      have HR := Lib.hid (HR.out.below hA HR.out.lt)
      have hzw : w.heap.size ≤ mb := by omega
      clear hA hbk hmb
      go_wp2_with fail
      refine (frames_all pp cp pf cf mb 0 ps ms _ BK.out (by omega)).mono ?_
      rintro e w4 ⟨p, c, rfl, hi, _, hr4⟩
      rw [show (pickL allI ms.length).length = L.length by rw [all_range, hL.out]; simp]
      have hq : FrsL w4 p L ms.length := ⟨by rw [hL.out, ← all_range]; exact hi, by rw [hL.out]; simpa using hn5, fun i hi => by rw [hL.out] at hi; simpa using hi⟩
      have HQ := Lib.hid hq
      have RK := Lib.hid (hr4.row BK.out.d RK.out)
      have HR := Lib.hid (hr4.row BK.out.d HR.out)
      have HE := Lib.hid (hr4.base HE.out hzw HE.out.size)
      have BK := Lib.hid (hr4.bkd BK.out)
      clear hr4 hi hq
      have k0 := RK.out.cell 0 (v := .slice pp ps.length cp) rfl
      have k1 := RK.out.cell 1 (v := .slice pf ms.length cf) rfl
      have k2 := RK.out.cell 2 (v := .map (some mb)) rfl
      go_wp2_with fail
      refine (coolest_any pp cp pf cf mb (0 + 0 * ms.length) ps ms p c L w4 BK.out HQ.out (by omega)).mono ?_
      rintro e w5 ⟨rfl, hr5⟩
      rw [HC.out]
      have HR := Lib.hid (hr5.row BK.out.d HR.out)
      have HE := Lib.hid (hr5.base HE.out hzw HE.out.size)
      clear hr5 k0 k1 k2
      have HR := Lib.hid (HR.out.alloc (.cells (setA t) 75))
      have HE := Lib.hid (HE.out.alloc HE.out.size (.cells (setA t) 75))
      have g0 := HR.out.cell 0 (v := .slice pp ps.length cp) rfl
      simp only [Option.getD_some, Option.isSome_some]
      go_wp2_with fail
      refine (list_any t ps.length HTL.out hn4 _).mono ?_
      rintro e w6 ⟨p6, c6, rfl, hi6, hb6⟩
      have HI := Lib.hid hi6
      have HE := Lib.hid (HE.out.trans (hb6.mono HE.out.size))
      clear hb6 hi6 g0
      go_wp2_with fail
      go_ret2
      exact ⟨p6, c6, by rw [HTL.out]; rfl, HI.out, HE.out⟩

end Go.Proofs.YticfcdbfplfmlaaGreat.Tu
