/- The walks of layer 3: what is asked for. -/
import Derived.Test.YticfcdbfplfmlaaGreatTEX
namespace Go.Proofs.YticfcdbfplfmlaaGreat.Tu
open Go.RowKit Go.Maps
attribute [local go_sem] Oper.semAt_some

/-- The greatest of the first numbers of a list. -/
def maxN (l : List Int) : Nat → Int
  | 0 => at0 l 0
  | k + 1 => max (maxN l k) (at0 l k)
theorem maxN_one (l : List Int) : maxN l 1 = at0 l 0 := by simp [maxN]
/-- The first place of a number in a list; -1 if there is none. -/
def idxN (l : List Int) (x : Int) : Int := match (List.range l.length).find? (fun i => decide (x = at0 l i)) with
  | some i => (i : Int)
  | none => -1
theorem find_first {n k : Nat} {f : Nat → Bool} (hk : k < n) (hf : f k = true) (h : ∀ i, i < k → f i = false) : (List.range n).find? f = some k := by
  rw [List.find?_range_eq_some]
  exact ⟨hf, by simpa using hk, fun j hj => by simp [h j hj]⟩
theorem find_none {n : Nat} {f : Nat → Bool} (h : ∀ i, i < n → f i = false) : (List.range n).find? f = none := by
  rw [List.find?_range_eq_none]
  exact fun i hi => by simp [h i hi]
theorem idx_some {l : List Int} {x : Int} {k : Nat} (hk : k < l.length) (hx : x = at0 l k) (h : ∀ i, i < k → x ≠ at0 l i) : idxN l x = k := by
  unfold idxN
  rw [find_first hk (by simpa using hx) (fun i hi => by simpa using h i hi)]
theorem idx_none {l : List Int} {x : Int} (h : ∀ i, i < l.length → x ≠ at0 l i) : idxN l x = -1 := by
  unfold idxN
  rw [find_none (fun i hi => by simpa using h i hi)]

/-- What each part is worth, of the first ones. -/
def asksN (ps : List Pt) (fs : List Fr) (k : Nat) : List Int := (List.range ps.length).map fun i => if i < k then worstD ps fs i else 0
theorem asksN_length (ps : List Pt) (fs : List Fr) (k : Nat) : (asksN ps fs k).length = ps.length := by simp [asksN]
theorem asksN_zero (ps : List Pt) (fs : List Fr) : List.replicate ps.length (0 : Int) = asksN ps fs 0 := by
  apply List.ext_getElem
  · simp [asksN]
  · intro i h1 h2; simp [asksN]
theorem asksN_set (ps : List Pt) (fs : List Fr) {k : Nat} (_hk : k < ps.length) : (asksN ps fs k).set k (worstD ps fs k) = asksN ps fs (k + 1) := by
  apply List.ext_getElem
  · simp [asksN]
  · intro i h1 h2
    rw [List.getElem_set]
    by_cases e : k = i
    · subst e; simp [asksN]
    · simp only [asksN, e, if_false, List.getElem_map, List.getElem_range]
      by_cases h : i < k
      · rw [if_pos h, if_pos (by omega)]
      · rw [if_neg h, if_neg (by omega)]
/-- What Ask returns. -/
def askV (ps : List Pt) (fs : List Fr) : Int := if bookB ps fs then idxN (asksN ps fs ps.length) (maxN (asksN ps fs ps.length) ps.length) else 0

end Go.Proofs.YticfcdbfplfmlaaGreat.Tu
/- The walks of layer 3: Clash. -/
namespace Go.Proofs.YticfcdbfplfmlaaGreat.Tu
open Go.RowKit Go.Maps
attribute [local go_sem] Oper.semAt_some

/-- The first frame after one with which it cannot be dry in time. -/
def clashO (ps : List Pt) (fs : List Fr) (a : Nat) : Option Nat := (List.range fs.length).find? fun o => decide (a < o) && (coolD ps fs [a, o]).isNone
/-- The first frame that has one. -/
def clashF (ps : List Pt) (fs : List Fr) : Option Nat := (List.range fs.length).find? fun a => (clashO ps fs a).isSome
/-- What Clash returns. -/
def clashV (ps : List Pt) (fs : List Fr) : Int × Int × Int := if bookB ps fs then if (pickL (lostI ps fs) fs.length).length = 0 then (match clashF ps fs with
    | some a => ((a : Int), (((clashO ps fs a).getD 0 : Nat) : Int), 0)
    | none => (0, 0, 4)) else (0, 0, 32) else (0, 0, 30)
theorem clash_yes {ps : List Pt} {fs : List Fr} (hb : bookB ps fs = true) (hl : (pickL (lostI ps fs) fs.length).length = 0) {a o : Nat} (ha : a < fs.length) (ho : o < fs.length) (hao : a < o) (h : coolD ps fs [a, o] = none)
    (h1 : ∀ i, i < a → clashO ps fs i = none) (h2 : ∀ i, i < o → (decide (a < i) && (coolD ps fs [a, i]).isNone) = false) : clashV ps fs = ((a : Int), (o : Int), 0) := by
  have e : clashO ps fs a = some o := find_first ho (by simp [hao, h]) h2
  have e2 : clashF ps fs = some a := find_first ha (by simp [e]) (fun i hi => by simp [h1 i hi])
  simp [clashV, hb, hl, e2, e]
theorem clash_no {ps : List Pt} {fs : List Fr} (hb : bookB ps fs = true) (hl : (pickL (lostI ps fs) fs.length).length = 0) (h1 : ∀ i, i < fs.length → clashO ps fs i = none) : clashV ps fs = (0, 0, 4) := by
  have e2 : clashF ps fs = none := find_none (fun i hi => by simp [h1 i hi])
  simp [clashV, hb, hl, e2]
theorem clash_row {ps : List Pt} {fs : List Fr} {a : Nat} (h2 : ∀ i, i < fs.length → (decide (a < i) && (coolD ps fs [a, i]).isNone) = false) : clashO ps fs a = none := find_none h2
def Trip (v : Int × Int × Int) : Value := .tuple #[.int .i64 v.1, .int .i64 v.2.1, .int .i64 v.2.2]
theorem two_new (w : World) (a b : Nat) (t : TypeId) (n : Nat) (ha : a < n) (hb : b < n) : FrsL (w.alloc (.cells #[.int .i64 a, .int .i64 b] t)) (some ⟨w.heap.size, 0, none⟩) [a, b] n := by
  have hr := Row.new w #[.int .i64 (a : Int), .int .i64 (b : Int)] t
  refine ⟨fun i hi => ?_, by simp, fun i hi => by simp at hi; omega⟩
  have hi2 : i < 2 := by simpa using hi
  obtain rfl | rfl : i = 0 ∨ i = 1 := by omega
  · exact ⟨w.heap.size, 0, rfl, hr.cell 0 rfl⟩
  · exact ⟨w.heap.size, 0, rfl, hr.cell 1 rfl⟩

end Go.Proofs.YticfcdbfplfmlaaGreat.Tu
/- The law's own helpers of layer 3: parts, frames, the chapter's books. -/
namespace Go.Proofs.YticfcdbfplfmlaaGreat.Tu
open Go.RowKit Go.Maps
attribute [local go_sem] Oper.semAt_some

/-- The call returned a frame that stays so long in two parts. -/
def GaveFr (s t lo hi : Int) (w : World) (e : Ending) (w' : World) : Prop := ∃ g, e = .returned (.agg #[.slice (some ⟨g, 0, none⟩) 2 2, .int .i64 lo, .int .i64 hi]) ∧ IntsAt w' (some ⟨g, 0, none⟩) [s, t] ∧ w.heap.size ≤ g ∧ Below w.heap.size w w'
theorem ints_setRow {w : World} {b g : Nat} {l : List Int} (h : IntsAt w (some ⟨b, 0, none⟩) l) (ds : Array Value) (hne : b ≠ g) : IntsAt (w.setRow g ds) (some ⟨b, 0, none⟩) l := by
  intro i hi
  obtain ⟨b', o, e, hc⟩ := h i hi
  cases e
  refine ⟨b, 0, rfl, ?_⟩
  rw [← hc]
  simp only [World.cell?]
  rw [_root_.Go.setRow_other w g b ds hne]
theorem ints_lt {w : World} {g : Nat} {l : List Int} (h : IntsAt w (some ⟨g, 0, none⟩) l) (hl : 0 < l.length) : g < w.heap.size := by
  obtain ⟨b, o, e, hc⟩ := h 0 hl
  cases e
  exact cell_block hc
def exPA : Array Value := #[.int .i64 1, .int .i64 3, .int .i64 5, .int .i64 8, .int .i64 0, .int .i64 1, .int .i64 0, .int .i64 2, .int .i64 6, .int .i64 9, .int .i64 1, .int .i64 2]
def exFA (a b c : Nat) (lo hi : Int) : Array Value := #[.slice (some ⟨a, 0, none⟩) 2 2, .int .i64 20, .int .i64 45, .slice (some ⟨b, 0, none⟩) 2 2, .int .i64 lo, .int .i64 hi, .slice (some ⟨c, 0, none⟩) 2 2, .int .i64 30, .int .i64 60]
def GaveEx (w : World) (e : Ending) (w' : World) : Prop := ∃ gp gf a b c, e = .returned (.agg #[.slice (some ⟨gp, 0, none⟩) 2 2, .slice (some ⟨gf, 0, none⟩) 3 3]) ∧ Row w' gp exPA 81 ∧ Row w' gf (exFA a b c 18 50) 50 ∧
  IntsAt w' (some ⟨a, 0, none⟩) [5, 4] ∧ IntsAt w' (some ⟨b, 0, none⟩) [3, 6] ∧ IntsAt w' (some ⟨c, 0, none⟩) [10, 2] ∧ w.heap.size ≤ gf ∧ (w.heap.size ≤ gp ∧ w.heap.size ≤ a ∧ w.heap.size ≤ b ∧ w.heap.size ≤ c) ∧ gp ≠ gf ∧ a ≠ gf ∧ b ≠ gf ∧ c ≠ gf ∧ Below w.heap.size w w'
end Go.Proofs.YticfcdbfplfmlaaGreat.Tu
/- The law's own helpers of layer 3: the chapter's books. -/
namespace Go.Proofs.YticfcdbfplfmlaaGreat.Tu
open Go.RowKit Go.Maps
attribute [local go_sem] Oper.semAt_some

/-- The call returned such a book. -/
def GaveBk (ps : List Pt) (fs : List Fr) (w : World) (e : Ending) (w' : World) : Prop := ∃ pp cp pf cf ms, e = .returned (.agg #[.slice pp ps.length cp, .slice pf ms.length cf]) ∧ frsM ms = fs ∧ BkAt w' pp pf ps ms ∧ Below w.heap.size w w'
def exP : List Pt := [⟨1, 3, 5, 8, 0, 1⟩, ⟨0, 2, 6, 9, 1, 2⟩]
def exM (a b c : Nat) (lo hi : Int) : List FrM := [⟨some ⟨a, 0, none⟩, 2, ⟨[5, 4], 20, 45⟩⟩, ⟨some ⟨b, 0, none⟩, 2, ⟨[3, 6], lo, hi⟩⟩, ⟨some ⟨c, 0, none⟩, 2, ⟨[10, 2], 30, 60⟩⟩]
def exF (lo hi : Int) : List Fr := [⟨[5, 4], 20, 45⟩, ⟨[3, 6], lo, hi⟩, ⟨[10, 2], 30, 60⟩]
def smP : List Pt := [⟨0, 1, 2, 3, 0, 0⟩, ⟨0, 1, 2, 3, 0, 1⟩]
def smF : List Fr := [⟨[1, 10], 10, 10⟩]
theorem ex_pts {w : World} {g : Nat} {t : TypeId} (h : Row w g exPA t) : PtsAt w (some ⟨g, 0, none⟩) exP := by
  intro i hi
  have hi2 : i < 2 := hi
  obtain rfl | rfl : i = 0 ∨ i = 1 := by omega
  · exact ⟨g, 0, rfl, h.cell 0 rfl, h.cell 1 rfl, h.cell 2 rfl, h.cell 3 rfl, h.cell 4 rfl, h.cell 5 rfl⟩
  · exact ⟨g, 0, rfl, h.cell 6 rfl, h.cell 7 rfl, h.cell 8 rfl, h.cell 9 rfl, h.cell 10 rfl, h.cell 11 rfl⟩
theorem ex_frs {w : World} {g a b c : Nat} {lo hi : Int} {t : TypeId} (h : Row w g (exFA a b c lo hi) t) (ha : IntsAt w (some ⟨a, 0, none⟩) [5, 4]) (hb : IntsAt w (some ⟨b, 0, none⟩) [3, 6]) (hc : IntsAt w (some ⟨c, 0, none⟩) [10, 2]) : FrsAt w (some ⟨g, 0, none⟩) (exM a b c lo hi) := by
  intro i hi
  have hi2 : i < 3 := hi
  obtain rfl | rfl | rfl : i = 0 ∨ i = 1 ∨ i = 2 := by omega
  · exact ⟨g, 0, rfl, h.cell 0 rfl, h.cell 1 rfl, h.cell 2 rfl, ha⟩
  · exact ⟨g, 0, rfl, h.cell 3 rfl, h.cell 4 rfl, h.cell 5 rfl, hb⟩
  · exact ⟨g, 0, rfl, h.cell 6 rfl, h.cell 7 rfl, h.cell 8 rfl, hc⟩
theorem ex_bk {w : World} {gp gf a b c : Nat} {lo hi : Int} {t u : TypeId} (hp : Row w gp exPA t) (h : Row w gf (exFA a b c lo hi) u) (ha : IntsAt w (some ⟨a, 0, none⟩) [5, 4]) (hb : IntsAt w (some ⟨b, 0, none⟩) [3, 6]) (hc : IntsAt w (some ⟨c, 0, none⟩) [10, 2]) : BkAt w (some ⟨gp, 0, none⟩) (some ⟨gf, 0, none⟩) exP (exM a b c lo hi) :=
  ⟨ex_pts hp, ex_frs h ha hb hc, by decide, by simp [exM], fun m hm => by simp [exM] at hm; rcases hm with rfl | rfl | rfl <;> simp⟩
end Go.Proofs.YticfcdbfplfmlaaGreat.Tu
/- The law's own helpers of layer 3: the chapter's book with a frame that is lost. -/
namespace Go.Proofs.YticfcdbfplfmlaaGreat.Tu
open Go.RowKit Go.Maps
attribute [local go_sem] Oper.semAt_some

/-- 'append' of frames to frames, where there is no room: a block of its own. -/
theorem join_frames (w : World) (ms ns : List FrM) (b o b2 o2 c c2 : Nat) (h : FrsAt w (some ⟨b, o, none⟩) ms) (k : FrsAt w (some ⟨b2, o2, none⟩) ns) (hc : c < ms.length + ns.length) (h3 : ms.length + ns.length ≤ 10) (ty : TypeId) :
    ∃ v g cap cur w', (Builtin.append_ #[23, 23] ty #[.slice (some ⟨b, o, none⟩) ms.length c, .slice (some ⟨b2, o2, none⟩) ns.length c2]).run Tryz.prog w = .ok v w' ∧ Copied (ms.length + ns.length) v g cap cur 50 w w' ∧ HoldsF (cur[·]?) (ms ++ ns) := by
  obtain ⟨i0, hi, hi0, hi1, hi2⟩ := info_parts Tryz.infoFrame
  obtain ⟨v', w', hr, hown, hg⟩ := run_append_arg_grows (P := Tryz.prog) w 23 ty 50 i0 _ 3 40 Tryz.underlying23 hi hi0 hi1 hi2 rfl (by decide) ⟨b, o, none⟩ ms.length c (frVals ms) (frVals_length ms) (fun j u hj => by rw [Addr.add_lit]; exact h.cells j u hj)
      ⟨b2, o2, none⟩ ns.length c2 (frVals ns) (frVals_length ns) (fun j u hj => by rw [Addr.add_lit]; exact k.cells j u hj) hc (by unfold maxLen; omega) (by omega)
  rcases hown.2 with ⟨_, hn⟩ | ⟨g, cap, cur, hv, hg0, hh, h1, h2, h3, h4⟩
  · omega
  · refine ⟨v', g, cap, cur, w', hr, ⟨hv, hh, hg0, h1, ⟨hg.os, hg.tape, hg.output, hg.size, fun k hk => hg.block k hk (by simp)⟩⟩, fun i hi => ?_⟩
    rw [show frVals ms ++ frVals ns = frVals (ms ++ ns) by simp [frVals]] at h4
    obtain ⟨a0, a1, a2⟩ := frVals_at (ms ++ ns) i hi
    exact ⟨cur_of_take h4 a0, cur_of_take h4 a1, cur_of_take h4 a2⟩
def exM4 (a b c d : Nat) : List FrM := exM a b c 18 50 ++ [⟨some ⟨d, 0, none⟩, 2, ⟨[20, 20], 0, 5⟩⟩]
def exF4 : List Fr := exF 18 50 ++ [⟨[20, 20], 0, 5⟩]
theorem ex_bk4 {w : World} {gp gf a b c d : Nat} {cur : Array Value} {t u : TypeId} (hp : Row w gp exPA t) (h : Row w gf cur u) (hh : HoldsF (cur[·]?) (exM4 a b c d)) (ha : IntsAt w (some ⟨a, 0, none⟩) [5, 4]) (hb : IntsAt w (some ⟨b, 0, none⟩) [3, 6]) (hc : IntsAt w (some ⟨c, 0, none⟩) [10, 2]) (hd : IntsAt w (some ⟨d, 0, none⟩) [20, 20]) : BkAt w (some ⟨gp, 0, none⟩) (some ⟨gf, 0, none⟩) exP (exM4 a b c d) :=
  ⟨ex_pts hp, frs_row h hh (fun i hi => by
    have hi2 : i < 4 := hi
    obtain rfl | rfl | rfl | rfl : i = 0 ∨ i = 1 ∨ i = 2 ∨ i = 3 := by omega
    · exact ha
    · exact hb
    · exact hc
    · exact hd), by decide, by simp [exM4, exM], fun m hm => by simp [exM4, exM] at hm; rcases hm with rfl | rfl | rfl | rfl <;> simp⟩
theorem one_frame (w : World) (d : Nat) (lo hi : Int) (xs : List Int) (hx : xs.length = 2) (t : TypeId) (h : IntsAt w (some ⟨d, 0, none⟩) xs) : FrsAt (w.alloc (.cells #[.slice (some ⟨d, 0, none⟩) 2 2, .int .i64 lo, .int .i64 hi] t)) (some ⟨w.heap.size, 0, none⟩) [⟨some ⟨d, 0, none⟩, 2, ⟨xs, lo, hi⟩⟩] := by
  have hr := Row.new w #[.slice (some ⟨d, 0, none⟩) 2 2, .int .i64 lo, .int .i64 hi] t
  intro i hi
  have hi2 : i < 1 := hi
  obtain rfl : i = 0 := by omega
  exact ⟨_, 0, rfl, by simp only [List.getElem_cons_zero, hx]; exact hr.cell 0 rfl, hr.cell 1 rfl, hr.cell 2 rfl, h.below (below_alloc _ _)⟩

end Go.Proofs.YticfcdbfplfmlaaGreat.Tu
/- The law's own helpers of layer 3: what the calls return of the chapter's books. -/
namespace Go.Proofs.YticfcdbfplfmlaaGreat.Tu
open Go.RowKit Go.Maps

theorem exDries (w : World) (pp : Option Addr) (cp : Nat) (pf : Option Addr) (cf : Nat) (ms : List FrM) (hB : BkAt w pp pf exP ms) (hf : frsM ms = (exF 18 50)) (q : Option Addr) (c : Nat) (hl : IntsAt w q [2, 2]) : Calls Tryz.prog 13 #[.agg #[.slice pp exP.length cp, .slice pf ms.length cf], .slice q 2 c, .int .i64 2] w fun e w' => e = .returned (.tuple #[.agg #[.int .i64 48, .int .i64 60], .int .i64 0]) ∧ Below w.heap.size w w' := by
  have h := Dries_any pp cp pf cf exP ms w hB q c [2, 2] hl (by decide) 2
  rw [hf, show loV exP (exF 18 50) [2, 2] 2 = 48 by kernel_rfl, show hiV exP (exF 18 50) [2, 2] 2 = 60 by kernel_rfl, show frameE exP (exF 18 50) [2, 2] 2 = 0 by kernel_rfl] at h
  exact h
theorem exBest (w : World) (pp : Option Addr) (cp : Nat) (pf : Option Addr) (cf : Nat) (ms : List FrM) (hB : BkAt w pp pf exP ms) (hf : frsM ms = (exF 18 50)) : Calls Tryz.prog 10 #[.agg #[.slice pp exP.length cp, .slice pf ms.length cf]] w (GaveListE [2, 2] 0 w) := by
  have h := Best_any pp cp pf cf exP ms w hB
  rw [hf, show bestL exP (exF 18 50) = [2, 2] by kernel_rfl, show bestE exP (exF 18 50) = 0 by kernel_rfl] at h
  exact h
theorem exKind (w : World) (pp : Option Addr) (cp : Nat) (pf : Option Addr) (cf : Nat) (ms : List FrM) (hB : BkAt w pp pf exP ms) (hf : frsM ms = (exF 18 50)) (q : Option Addr) (c : Nat) (hl : IntsAt w q [1, 3]) : Calls Tryz.prog 12 #[.agg #[.slice pp exP.length cp, .slice pf ms.length cf], .slice q 2 c, .int .i64 0] w fun e w' => e = .returned (.tuple #[.int .i64 2, .int .i64 0]) ∧ Below w.heap.size w w' := by
  have h := Kind_any pp cp pf cf exP ms w hB q c [1, 3] hl (by decide) 0
  rw [hf, show kindV exP (exF 18 50) [1, 3] 0 = 2 by kernel_rfl, show frameE exP (exF 18 50) [1, 3] 0 = 0 by kernel_rfl] at h
  exact h
theorem exGood (w : World) (pp : Option Addr) (cp : Nat) (pf : Option Addr) (cf : Nat) (ms : List FrM) (hB : BkAt w pp pf exP ms) (hf : frsM ms = (exF 18 50)) (q : Option Addr) (c : Nat) (hl : IntsAt w q [3, 0]) : Calls Tryz.prog 25 #[.agg #[.slice pp exP.length cp, .slice pf ms.length cf], .slice q 2 c] w (GaveListE [0, 1] 0 w) := by
  have h := Good_any pp cp pf cf exP ms w hB q c [3, 0] hl (by decide)
  rw [hf, show goodV exP (exF 18 50) [3, 0] = [0, 1] by kernel_rfl, show setE exP (exF 18 50) [3, 0] = 0 by kernel_rfl] at h
  exact h
end Go.Proofs.YticfcdbfplfmlaaGreat.Tu
/- The law's own helper of layer 3: the chapter's examples. -/
namespace Go.Proofs.YticfcdbfplfmlaaGreat.Tu
open Go.RowKit Go.Maps
attribute [local go_sem] Oper.semAt_some

theorem ints_new (w : World) (l : List Int) (t : TypeId) : IntsAt (w.alloc (.cells (intsA l) t)) (some ⟨w.heap.size, 0, none⟩) l := ints_row (Row.new w (intsA l) t)
theorem new22 (w : World) (t : TypeId) : IntsAt (w.alloc (.cells #[.int .i64 2, .int .i64 2] t)) (some ⟨w.heap.size, 0, none⟩) [2, 2] := ints_new w [2, 2] t
theorem new3 (w : World) (t : TypeId) : IntsAt (w.alloc (.cells #[.int .i64 3] t)) (some ⟨w.heap.size, 0, none⟩) [3] := ints_new w [3] t
theorem al22 (p q : Option Addr) (c d : Nat) (w : World) (hc : IntsAt w p [2, 2]) (hd : IntsAt w q [2, 2]) : Calls Tryz.prog 18 #[.slice p 2 c, .slice q 2 d] w fun e w' => e = .returned (.bool true) ∧ Below w.heap.size w w' := by
  have h := Alike_any p q c d [2, 2] [2, 2] w (by decide) hc hd
  rw [show decide (([2, 2] : List Int) = [2, 2]) = true by decide] at h
  exact h
theorem al3 (p q : Option Addr) (c d : Nat) (w : World) (hc : IntsAt w p [3]) (hd : IntsAt w q [3]) : Calls Tryz.prog 18 #[.slice p 1 c, .slice q 1 d] w fun e w' => e = .returned (.bool true) ∧ Below w.heap.size w w' := by
  have h := Alike_any p q c d [3] [3] w (by decide) hc hd
  rw [show decide (([3] : List Int) = [3]) = true by decide] at h
  exact h
end Go.Proofs.YticfcdbfplfmlaaGreat.Tu
/- The law's own helpers of layer 3: is there a book? -/
namespace Go.Proofs.YticfcdbfplfmlaaGreat.Tu
open Go.RowKit Go.Maps
attribute [local go_sem] Oper.semAt_some

theorem fits_yes {n lo hi : Int} (h : lo ≤ n ∧ n ≤ hi) : fits n lo hi = true := by simp [fits, h.1, h.2]
end Go.Proofs.YticfcdbfplfmlaaGreat.Tu
