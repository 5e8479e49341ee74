/- The law's own helpers of layer 3: the chapter's books. -/
import Derived.Test.YtfppcmechfjpoaaUZ
namespace Go.Proofs.Ytfppcmechfjpoaa
open Go.RowKit Go.Maps
attribute [local go_sem] Oper.semAt_some

/-- The call returned such a book. -/
def GaveBk (ps : List Pt) (fs : List Fr) (w : World) (e : Ending) (w' : World) : Prop := ∃ pp cp pf cf ms, e = .returned (.agg #[.slice pp ps.length cp, .slice pf ms.length cf]) ∧ frsM ms = fs ∧ BkAt w' pp pf ps ms ∧ Below w.heap.size w w'
def exP : List Pt := [⟨1, 3, 5, 8, 0, 1⟩, ⟨0, 2, 6, 9, 1, 2⟩]
def exM (a b c : Nat) (lo hi : Int) : List FrM := [⟨some ⟨a, 0, none⟩, 2, ⟨[5, 4], 20, 45⟩⟩, ⟨some ⟨b, 0, none⟩, 2, ⟨[3, 6], lo, hi⟩⟩, ⟨some ⟨c, 0, none⟩, 2, ⟨[10, 2], 30, 60⟩⟩]
def exF (lo hi : Int) : List Fr := [⟨[5, 4], 20, 45⟩, ⟨[3, 6], lo, hi⟩, ⟨[10, 2], 30, 60⟩]
def smP : List Pt := [⟨0, 1, 2, 3, 0, 0⟩, ⟨0, 1, 2, 3, 0, 1⟩]
def smF : List Fr := [⟨[1, 10], 10, 10⟩]
theorem ex_pts {w : World} {g : Nat} {t : TypeId} (h : Row w g exPA t) : PtsAt w (some ⟨g, 0, none⟩) exP := by
  intro i hi
  have hi2 : i < 2 := hi
  obtain rfl | rfl : i = 0 ∨ i = 1 := by omega
  · exact ⟨g, 0, rfl, h.cell 0 rfl, h.cell 1 rfl, h.cell 2 rfl, h.cell 3 rfl, h.cell 4 rfl, h.cell 5 rfl⟩
  · exact ⟨g, 0, rfl, h.cell 6 rfl, h.cell 7 rfl, h.cell 8 rfl, h.cell 9 rfl, h.cell 10 rfl, h.cell 11 rfl⟩
theorem ex_frs {w : World} {g a b c : Nat} {lo hi : Int} {t : TypeId} (h : Row w g (exFA a b c lo hi) t) (ha : IntsAt w (some ⟨a, 0, none⟩) [5, 4]) (hb : IntsAt w (some ⟨b, 0, none⟩) [3, 6]) (hc : IntsAt w (some ⟨c, 0, none⟩) [10, 2]) : FrsAt w (some ⟨g, 0, none⟩) (exM a b c lo hi) := by
  intro i hi
  have hi2 : i < 3 := hi
  obtain rfl | rfl | rfl : i = 0 ∨ i = 1 ∨ i = 2 := by omega
  · exact ⟨g, 0, rfl, h.cell 0 rfl, h.cell 1 rfl, h.cell 2 rfl, ha⟩
  · exact ⟨g, 0, rfl, h.cell 3 rfl, h.cell 4 rfl, h.cell 5 rfl, hb⟩
  · exact ⟨g, 0, rfl, h.cell 6 rfl, h.cell 7 rfl, h.cell 8 rfl, hc⟩
theorem ex_bk {w : World} {gp gf a b c : Nat} {lo hi : Int} {t u : TypeId} (hp : Row w gp exPA t) (h : Row w gf (exFA a b c lo hi) u) (ha : IntsAt w (some ⟨a, 0, none⟩) [5, 4]) (hb : IntsAt w (some ⟨b, 0, none⟩) [3, 6]) (hc : IntsAt w (some ⟨c, 0, none⟩) [10, 2]) : BkAt w (some ⟨gp, 0, none⟩) (some ⟨gf, 0, none⟩) exP (exM a b c lo hi) :=
  ⟨ex_pts hp, ex_frs h ha hb hc, by decide, by simp [exM], fun m hm => by simp [exM] at hm; rcases hm with rfl | rfl | rfl <;> simp⟩
theorem book_gave (w : World) : Calls Try.prog 54 #[] w (GaveBk exP (exF 18 50) w) :=
  (book_any w).mono fun _e _w' ⟨_gp, _gf, a, b, c, he, hp, hf, ha, hb, hc, _, _, _, _, _, _, hE⟩ => ⟨_, 2, _, 3, exM a b c 18 50, he, rfl, ex_bk hp hf ha hb hc, hE⟩
set_option maxRecDepth 10000 in
set_option maxHeartbeats 1600000 in
theorem small_any (w : World) : Calls Try.prog 72 #[] w (GaveBk smP smF w) := by
  have HE := Lib.hid (below_alloc w (.cells #[.slice none 0 0, .slice none 0 0] 25))
  have HR := Lib.hid (Row.new w #[.slice none 0 0, .slice none 0 0] 25)
  go_enter Try.func72, Try.ntmps72
  go_wp2_with fail
  refine (part_any 0 1 2 3 0 0 _).mono ?_
  rintro r w1 ⟨rfl, hb⟩
  have HR := Lib.hid (HR.out.below hb HR.out.lt)
  have HE := Lib.hid (HE.out.trans (hb.mono HE.out.size))
  clear hb
  go_wp2_with fail
  refine (part_any 0 1 2 3 0 1 _).mono ?_
  rintro r w2 ⟨rfl, hb⟩
  have HR := Lib.hid (HR.out.below hb HR.out.lt)
  have HE := Lib.hid (HE.out.trans (hb.mono HE.out.size))
  clear hb
  go_wp2_with fail
  have hba := below_alloc w2 (.cells #[.int .i64 0, .int .i64 1, .int .i64 2, .int .i64 3, .int .i64 0, .int .i64 0, .int .i64 0, .int .i64 1, .int .i64 2, .int .i64 3, .int .i64 0, .int .i64 1] 64)
  have HP := Lib.hid (Row.new w2 #[.int .i64 0, .int .i64 1, .int .i64 2, .int .i64 3, .int .i64 0, .int .i64 0, .int .i64 0, .int .i64 1, .int .i64 2, .int .i64 3, .int .i64 0, .int .i64 1] 64)
  have hb := hba
  have hgp := HR.out.lt
  have hgp3 := HP.out.lt
  have HR := Lib.hid (HR.out.below hb HR.out.lt)
  have HE := Lib.hid (HE.out.trans (hb.mono HE.out.size))
  clear hb hba
  have hgp2 := HR.out.lt
  refine (frame_any 1 10 10 10 _).mono ?_
  rintro r w3 ⟨g3, rfl, hs, hg3, hb⟩
  have hz3 := HE.out.size
  have HR := Lib.hid (HR.out.below hb HR.out.lt)
  have HP := Lib.hid (HP.out.below hb HP.out.lt)
  have HE := Lib.hid (HE.out.trans (hb.mono HE.out.size))
  have HI3 := Lib.hid hs
  have HLT3 := Lib.hid (ints_lt HI3.out (by decide))
  clear hb hs
  have hzp := HP.out.lt
  have hzr := HR.out.lt
  go_wp2_with (first | (refine store_row rfl 25 _ _ rfl _ #[.slice (some ⟨w2.heap.size, 0, none⟩) 2 2, .slice (some ⟨w3.heap.size, 0, none⟩) 1 1] _ _ rfl rfl (HR.out.alloc (.cells #[.slice (some ⟨g3, 0, none⟩) 2 2, .int .i64 10, .int .i64 10] 55)) (by kernel_rfl) rfl (by simp [Value.oneCell']) ?_))
  have q0 := (HR.out.alloc (.cells #[.slice (some ⟨g3, 0, none⟩) 2 2, .int .i64 10, .int .i64 10] 55)).setRow #[.slice (some ⟨w2.heap.size, 0, none⟩) 2 2, .slice (some ⟨w3.heap.size, 0, none⟩) 1 1]
  have q1 := (HP.out.alloc (.cells #[.slice (some ⟨g3, 0, none⟩) 2 2, .int .i64 10, .int .i64 10] 55)).setRow_other (g := w.heap.size) #[.slice (some ⟨w2.heap.size, 0, none⟩) 2 2, .slice (some ⟨w3.heap.size, 0, none⟩) 1 1] (by omega)
  have q2 := (Row.new w3 #[.slice (some ⟨g3, 0, none⟩) 2 2, .int .i64 10, .int .i64 10] 55).setRow_other (g := w.heap.size) #[.slice (some ⟨w2.heap.size, 0, none⟩) 2 2, .slice (some ⟨w3.heap.size, 0, none⟩) 1 1] (by omega)
  have s0 := ints_setRow (HI3.out.below (below_alloc _ (.cells #[.slice (some ⟨g3, 0, none⟩) 2 2, .int .i64 10, .int .i64 10] 55))) (g := w.heap.size) #[.slice (some ⟨w2.heap.size, 0, none⟩) 2 2, .slice (some ⟨w3.heap.size, 0, none⟩) 1 1] (by omega)
  have l0 := HLT3.out
  exact bodyPost_ret (v := .agg #[.slice (some ⟨w2.heap.size, 0, none⟩) 2 2, .slice (some ⟨w3.heap.size, 0, none⟩) 1 1]) (results_cell_row Try.results72 _ _ _ _ _ _ _ rfl q0 Try.underlying25 rfl (by kernel_rfl)) rfl
    ⟨_, 2, _, 1, [⟨some ⟨g3, 0, none⟩, 2, ⟨[1, 10], 10, 10⟩⟩], rfl, rfl, ⟨by
      intro i hi
      have hi2 : i < 2 := hi
      obtain rfl | rfl : i = 0 ∨ i = 1 := by omega
      · exact ⟨_, 0, rfl, q1.cell 0 rfl, q1.cell 1 rfl, q1.cell 2 rfl, q1.cell 3 rfl, q1.cell 4 rfl, q1.cell 5 rfl⟩
      · exact ⟨_, 0, rfl, q1.cell 6 rfl, q1.cell 7 rfl, q1.cell 8 rfl, q1.cell 9 rfl, q1.cell 10 rfl, q1.cell 11 rfl⟩, by
      intro i hi
      have hi2 : i < 1 := hi
      obtain rfl : i = 0 := by omega
      exact ⟨_, 0, rfl, q2.cell 0 rfl, q2.cell 1 rfl, q2.cell 2 rfl, s0⟩, by decide, by simp, fun m hm => by simp at hm; subst hm; simp⟩, below_setRow (HE.out.alloc HE.out.size _) (Nat.le_refl _) _⟩
set_option maxRecDepth 10000 in
set_option maxHeartbeats 1600000 in
theorem torn_any (w : World) : Calls Try.prog 55 #[] w (GaveBk exP (exF 18 25) w) := by
  have hE := below_alloc w (.cells #[.slice none 0 0, .slice none 0 0] 25)
  have HE := Lib.hid hE
  have HR := Lib.hid (Row.new w #[.slice none 0 0, .slice none 0 0] 25)
  clear hE
  go_enter Try.func55, Try.ntmps55
  go_wp2_with fail
  refine (book_any _).mono ?_
  rintro e w1 ⟨gp, gf, a, b, c, rfl, hp, hf, ha, hb, hc, n0, ⟨np, na, nb, nc⟩, n1, n2, n3, n4, hb1⟩
  have HE := Lib.hid (HE.out.trans (hb1.mono HE.out.size))
  rw [show (w.alloc (.cells #[.slice none 0 0, .slice none 0 0] 25)).heap.size = w.heap.size + 1 by simp] at np na nb nc n0
  have hlt := HR.out.lt
  have hgf := hf.lt
  have HR := Lib.hid (HR.out.below hb1 HR.out.lt)
  have hA := below_alloc w1 (.cells #[.slice (some ⟨gp, 0, none⟩) 2 2, .slice (some ⟨gf, 0, none⟩) 3 3] 25)
  have HK := Lib.hid (Row.new w1 #[.slice (some ⟨gp, 0, none⟩) 2 2, .slice (some ⟨gf, 0, none⟩) 3 3] 25)
  have HE := Lib.hid (HE.out.trans (hA.mono HE.out.size))
  have HR := Lib.hid (HR.out.below hA HR.out.lt)
  have HP := Lib.hid (hp.below hA hp.lt)
  have HF := Lib.hid (hf.below hA hf.lt)
  have HA := Lib.hid (ha.below hA)
  have HB := Lib.hid (hb.below hA)
  have HC := Lib.hid (hc.below hA)
  clear hA hb1 hp hf ha hb hc
  go_wp2_with fail
  generalize w1.alloc (.cells #[.slice (some ⟨gp, 0, none⟩) 2 2, .slice (some ⟨gf, 0, none⟩) 3 3] 25) = W1 at *
  have hne : w1.heap.size ≠ gf := by omega
  have hS : ∀ w', From W1 w' → (w'.cell? ⟨w1.heap.size, 0, none⟩ = some (.slice (some ⟨gp, 0, none⟩) 2 2) ∧ w'.cell? ⟨w1.heap.size, 1, none⟩ = some (.slice (some ⟨gf, 0, none⟩) 3 3)) := fun w' k => ⟨(k.row HK.out).cell 0 rfl, (k.row HK.out).cell 1 rfl⟩
  have hS2 : ∀ w', From W1 w' → (((w'.setCell ⟨gf, 4, none⟩ (.int .i64 18)).setCell ⟨gf, 5, none⟩ (.int .i64 25)).cell? ⟨w1.heap.size, 0, none⟩ = some (.slice (some ⟨gp, 0, none⟩) 2 2) ∧ ((w'.setCell ⟨gf, 4, none⟩ (.int .i64 18)).setCell ⟨gf, 5, none⟩ (.int .i64 25)).cell? ⟨w1.heap.size, 1, none⟩ = some (.slice (some ⟨gf, 0, none⟩) 3 3)) := fun w' k => ⟨(((k.row HK.out).set_other ⟨gf, 4, none⟩ _ hne).set_other ⟨gf, 5, none⟩ _ hne).cell 0 rfl, (((k.row HK.out).set_other ⟨gf, 4, none⟩ _ hne).set_other ⟨gf, 5, none⟩ _ hne).cell 1 rfl⟩
  have HS := Lib.hid hS
  have HS2 := Lib.hid hS2
  have KI := Lib.hid (From.refl W1)
  clear hS hS2
  go_region_held3 (fun w' => w'.cell? ⟨w1.heap.size, 0, none⟩ = some (.slice (some ⟨gp, 0, none⟩) 2 2) ∧ w'.cell? ⟨w1.heap.size, 1, none⟩ = some (.slice (some ⟨gf, 0, none⟩) 3 3)) (first | with_reducible exact HS.out _ KI.out | with_reducible exact HS.out _ KI.out.drew | with_reducible exact HS2.out _ KI.out)
    ((go_at_call 49; (with_reducible refine (Sp_any _ _ _).mono ?_); rintro e u ⟨rfl, hbu⟩; have KI := Lib.hid (by first | with_reducible exact KI.out.drew.below hbu | with_reducible exact KI.out.below hbu); clear hbu; have c4 := (KI.out.row HF.out).cell 4 (v := .int .i64 18) rfl; have c5 := (KI.out.row HF.out).cell 5 (v := .int .i64 50) rfl; have f4 := KI.out.free HF.out 4; have f5 := KI.out.free HF.out 5))
  all_goals
    have q0 := (((KI.out.row HR.out).set_other ⟨gf, 4, none⟩ (.int .i64 18) (by dsimp only; omega)).set_other ⟨gf, 5, none⟩ (.int .i64 25) (by dsimp only; omega))
    have q1 := (((KI.out.row HK.out).set_other ⟨gf, 4, none⟩ (.int .i64 18) hne).set_other ⟨gf, 5, none⟩ (.int .i64 25) hne)
    have q2 := (((KI.out.row HP.out).set_other ⟨gf, 4, none⟩ (.int .i64 18) n1).set_other ⟨gf, 5, none⟩ (.int .i64 25) n1)
    have q3 : Row _ gf (exFA a b c 18 25) _ := ((KI.out.row HF.out).set 4 (.int .i64 18)).set 5 (.int .i64 25)
    have s0 := ints_set (ints_set (KI.out.ints HA.out) (b := gf) (fun b o e => by cases e; exact n2) 4 (.int .i64 18)) (b := gf) (fun b o e => by cases e; exact n2) 5 (.int .i64 25)
    have s1 := ints_set (ints_set (KI.out.ints HB.out) (b := gf) (fun b o e => by cases e; exact n3) 4 (.int .i64 18)) (b := gf) (fun b o e => by cases e; exact n3) 5 (.int .i64 25)
    have s2 := ints_set (ints_set (KI.out.ints HC.out) (b := gf) (fun b o e => by cases e; exact n4) 4 (.int .i64 18)) (b := gf) (fun b o e => by cases e; exact n4) 5 (.int .i64 25)
    have hE2 := ((HE.out.trans (KI.out.b.mono HE.out.size)).setCell (p := ⟨gf, 4, none⟩) (by dsimp only; omega) (.int .i64 18)).setCell (p := ⟨gf, 5, none⟩) (by dsimp only; omega) (.int .i64 25)
    clear c4 c5 f4 f5
    generalize (u.setCell ⟨gf, 4, none⟩ (.int .i64 18)).setCell ⟨gf, 5, none⟩ (.int .i64 25) = W2 at *
    have k0 := q1.cell 0 (v := .slice (some ⟨gp, 0, none⟩) 2 2) rfl
    have k1 := q1.cell 1 (v := .slice (some ⟨gf, 0, none⟩) 3 3) rfl
    have z0 := q2.lt
    have z1 := q3.lt
    have Q0 := Lib.hid q0
    have Q2 := Lib.hid q2
    have Q3 := Lib.hid q3
    have S0 := Lib.hid s0
    have S1 := Lib.hid s1
    have S2 := Lib.hid s2
    have HE2 := Lib.hid hE2
    clear q0 q1 q2 q3 s0 s1 s2 hE2
    go_wp2_with (first | (refine store_row rfl 25 _ _ rfl _ #[.slice (some ⟨gp, 0, none⟩) 2 2, .slice (some ⟨gf, 0, none⟩) 3 3] _ _ rfl rfl Q0.out (by kernel_rfl) rfl (by simp [Value.oneCell']) ?_))
    exact bodyPost_ret (v := .agg #[.slice (some ⟨gp, 0, none⟩) 2 2, .slice (some ⟨gf, 0, none⟩) 3 3]) (results_cell_row Try.results55 _ _ _ _ _ _ _ rfl (Q0.out.setRow #[.slice (some ⟨gp, 0, none⟩) 2 2, .slice (some ⟨gf, 0, none⟩) 3 3]) Try.underlying25 rfl (by kernel_rfl)) rfl
      ⟨_, 2, _, 3, exM a b c 18 25, rfl, rfl, ex_bk (Q2.out.setRow_other _ (by omega)) (Q3.out.setRow_other _ (by omega)) (ints_setRow S0.out _ (by omega)) (ints_setRow S1.out _ (by omega)) (ints_setRow S2.out _ (by omega)), below_setRow HE2.out (Nat.le_refl _) _⟩
end Go.Proofs.Ytfppcmechfjpoaa
/- The law's own helpers of layer 3: the chapter's book with a frame that is lost. -/
namespace Go.Proofs.Ytfppcmechfjpoaa
open Go.RowKit Go.Maps
attribute [local go_sem] Oper.semAt_some

/-- 'append' of frames to frames, where there is no room: a block of its own. -/
theorem join_frames (w : World) (ms ns : List FrM) (b o b2 o2 c c2 : Nat) (h : FrsAt w (some ⟨b, o, none⟩) ms) (k : FrsAt w (some ⟨b2, o2, none⟩) ns) (hc : c < ms.length + ns.length) (h3 : ms.length + ns.length ≤ 10) (ty : TypeId) :
    ∃ v g cap cur w', (Builtin.append_ #[23, 23] ty #[.slice (some ⟨b, o, none⟩) ms.length c, .slice (some ⟨b2, o2, none⟩) ns.length c2]).run Try.prog w = .ok v w' ∧ Copied (ms.length + ns.length) v g cap cur 55 w w' ∧ HoldsF (cur[·]?) (ms ++ ns) := by
  obtain ⟨i0, hi, hi0, hi1, hi2⟩ := info_parts Try.infoFrame
  obtain ⟨v', w', hr, hown, hg⟩ := run_append_arg_grows (P := Try.prog) w 23 ty 55 i0 _ 3 40 Try.underlying23 hi hi0 hi1 hi2 rfl (by decide) ⟨b, o, none⟩ ms.length c (frVals ms) (frVals_length ms) (fun j u hj => by rw [Addr.add_lit]; exact h.cells j u hj)
      ⟨b2, o2, none⟩ ns.length c2 (frVals ns) (frVals_length ns) (fun j u hj => by rw [Addr.add_lit]; exact k.cells j u hj) hc (by unfold maxLen; omega) (by omega)
  rcases hown.2 with ⟨_, hn⟩ | ⟨g, cap, cur, hv, hg0, hh, h1, h2, h3, h4⟩
  · omega
  · refine ⟨v', g, cap, cur, w', hr, ⟨hv, hh, hg0, h1, ⟨hg.os, hg.tape, hg.output, hg.size, fun k hk => hg.block k hk (by simp)⟩⟩, fun i hi => ?_⟩
    rw [show frVals ms ++ frVals ns = frVals (ms ++ ns) by simp [frVals]] at h4
    obtain ⟨a0, a1, a2⟩ := frVals_at (ms ++ ns) i hi
    exact ⟨cur_of_take h4 a0, cur_of_take h4 a1, cur_of_take h4 a2⟩
def exM4 (a b c d : Nat) : List FrM := exM a b c 18 50 ++ [⟨some ⟨d, 0, none⟩, 2, ⟨[20, 20], 0, 5⟩⟩]
def exF4 : List Fr := exF 18 50 ++ [⟨[20, 20], 0, 5⟩]
theorem ex_bk4 {w : World} {gp gf a b c d : Nat} {cur : Array Value} {t u : TypeId} (hp : Row w gp exPA t) (h : Row w gf cur u) (hh : HoldsF (cur[·]?) (exM4 a b c d)) (ha : IntsAt w (some ⟨a, 0, none⟩) [5, 4]) (hb : IntsAt w (some ⟨b, 0, none⟩) [3, 6]) (hc : IntsAt w (some ⟨c, 0, none⟩) [10, 2]) (hd : IntsAt w (some ⟨d, 0, none⟩) [20, 20]) : BkAt w (some ⟨gp, 0, none⟩) (some ⟨gf, 0, none⟩) exP (exM4 a b c d) :=
  ⟨ex_pts hp, frs_row h hh (fun i hi => by
    have hi2 : i < 4 := hi
    obtain rfl | rfl | rfl | rfl : i = 0 ∨ i = 1 ∨ i = 2 ∨ i = 3 := by omega
    · exact ha
    · exact hb
    · exact hc
    · exact hd), by decide, by simp [exM4, exM], fun m hm => by simp [exM4, exM] at hm; rcases hm with rfl | rfl | rfl | rfl <;> simp⟩
theorem one_frame (w : World) (d : Nat) (lo hi : Int) (xs : List Int) (hx : xs.length = 2) (t : TypeId) (h : IntsAt w (some ⟨d, 0, none⟩) xs) : FrsAt (w.alloc (.cells #[.slice (some ⟨d, 0, none⟩) 2 2, .int .i64 lo, .int .i64 hi] t)) (some ⟨w.heap.size, 0, none⟩) [⟨some ⟨d, 0, none⟩, 2, ⟨xs, lo, hi⟩⟩] := by
  have hr := Row.new w #[.slice (some ⟨d, 0, none⟩) 2 2, .int .i64 lo, .int .i64 hi] t
  intro i hi
  have hi2 : i < 1 := hi
  obtain rfl : i = 0 := by omega
  exact ⟨_, 0, rfl, by simp only [List.getElem_cons_zero, hx]; exact hr.cell 0 rfl, hr.cell 1 rfl, hr.cell 2 rfl, h.below (below_alloc _ _)⟩

set_option maxRecDepth 10000 in
set_option maxHeartbeats 1600000 in
theorem lost_any (w : World) : Calls Try.prog 56 #[] w (GaveBk exP exF4 w) := by
  have hE := below_alloc w (.cells #[.slice none 0 0, .slice none 0 0] 25)
  have HE := Lib.hid hE
  have HR := Lib.hid (Row.new w #[.slice none 0 0, .slice none 0 0] 25)
  clear hE
  go_enter Try.func56, Try.ntmps56
  go_wp2_with fail
  refine (book_any _).mono ?_
  rintro e w1 ⟨gp, gf, a, b, c, rfl, hp, hf, ha, hb, hc, n0, ⟨np, na, nb, nc⟩, n1, n2, n3, n4, hb1⟩
  rw [show (w.alloc (.cells #[.slice none 0 0, .slice none 0 0] 25)).heap.size = w.heap.size + 1 by simp] at np na nb nc n0
  have HE := Lib.hid (HE.out.trans (hb1.mono HE.out.size))
  have hlt := HR.out.lt
  have hgf := hf.lt
  have xp := hp.lt
  have xa := ints_lt ha (by decide)
  have xb := ints_lt hb (by decide)
  have xc := ints_lt hc (by decide)
  have HR := Lib.hid (HR.out.below hb1 HR.out.lt)
  have hA := below_alloc w1 (.cells #[.slice (some ⟨gp, 0, none⟩) 2 2, .slice (some ⟨gf, 0, none⟩) 3 3] 25)
  have HK := Lib.hid (Row.new w1 #[.slice (some ⟨gp, 0, none⟩) 2 2, .slice (some ⟨gf, 0, none⟩) 3 3] 25)
  have HE := Lib.hid (HE.out.trans (hA.mono HE.out.size))
  have HR := Lib.hid (HR.out.below hA HR.out.lt)
  have HP := Lib.hid (hp.below hA hp.lt)
  have HF := Lib.hid (hf.below hA hf.lt)
  have HA := Lib.hid (ha.below hA)
  have HB := Lib.hid (hb.below hA)
  have HC := Lib.hid (hc.below hA)
  clear hA hb1 hp hf ha hb hc
  go_wp2_with fail
  generalize w1.alloc (.cells #[.slice (some ⟨gp, 0, none⟩) 2 2, .slice (some ⟨gf, 0, none⟩) 3 3] 25) = W1 at *
  have k1 : W1.drew.cell? ⟨w1.heap.size, 1, none⟩ = some (.slice (some ⟨gf, 0, none⟩) 3 3) := HK.out.drew.cell 1 rfl
  refine wp_region_any (by kernel_rfl) ?_
  (try (change wpAny _ _ _ _ _ _ _ (World.drew _)))
  refine wpAny_take (i := 0) (v := ?_) rfl (by kernel_rfl) (by kernel_rfl) (by kernel_rfl) (fun _ _ _ h => h) (Or.inl ⟨by rfl, ?_⟩) ?_
  rotate_left
  · intro w; go_simp; try with_reducible rfl
  refine wpAny_ready (rs := [1, 2]) (by kernel_rfl) (by simp) ?_
  refine AllReady.cons rfl (fun K hK => ?_) ?_
  · go_simp
    refine hK _ _ ?_
    clear hK K
    refine wpAny_ready (rs := [2]) (by kernel_rfl) (by simp) ?_
    refine AllReady.cons rfl (fun K hK => ?_) ?_
    · go_simp
      with_reducible refine (frame_any _ _ _ _ _).mono ?_
      rintro e u ⟨d, rfl, hs, hd, hbu⟩
      have KI := Lib.hid ((From.refl W1).drew.below hbu)
      have HS := Lib.hid hs
      have hku := (KI.out.row HK.out).lt
      have c1 := (KI.out.row HK.out).cell 1 (v := .slice (some ⟨gf, 0, none⟩) 3 3) rfl
      obtain ⟨v, g, cap, cur, u2, hr, hcop, hold⟩ := join_frames (u.alloc (.cells #[.slice (some ⟨d, 0, none⟩) 2 2, .int .i64 0, .int .i64 5] 55)) (exM a b c 18 50) [⟨some ⟨d, 0, none⟩, 2, ⟨[20, 20], 0, 5⟩⟩] gf 0 u.heap.size 0 3 1 (ex_frs ((KI.out.row HF.out).alloc _) ((KI.out.ints HA.out).below (below_alloc _ _)) ((KI.out.ints HB.out).below (below_alloc _ _)) ((KI.out.ints HC.out).below (below_alloc _ _))) (one_frame _ _ _ _ _ rfl _ HS.out) (by simp [exM]) (by simp [exM]) 23
      have HO := Lib.hid hold
      obtain ⟨hv, hrow, hge, hcap, hb2⟩ := hcop
      rw [show (exM a b c 18 50).length + [(⟨some ⟨d, 0, none⟩, 2, ⟨[20, 20], 0, 5⟩⟩ : FrM)].length = 4 by simp [exM]] at hv
      subst hv
      have HRW := Lib.hid hrow
      have HRR := Lib.hid hr
      have KI2 := Lib.hid ((KI.out.below (below_alloc _ (.cells #[.slice (some ⟨d, 0, none⟩) 2 2, .int .i64 0, .int .i64 5] 55))).below hb2)
      have e1 := (KI2.out.row HK.out).cell 1 (v := .slice (some ⟨gf, 0, none⟩) 3 3) rfl
      have e2 := KI2.out.free HK.out 1
      have HIS := Lib.hid ((HS.out.below (below_alloc _ (.cells #[.slice (some ⟨d, 0, none⟩) 2 2, .int .i64 0, .int .i64 5] 55))).below hb2)
      have hgk : w1.heap.size < g := by simp at hge; omega
      have hdk : W1.heap.size ≤ d := by simpa using hd
      have hdu := hrow.lt
      clear hb2 hrow hold hr hs hbu hge hcap hd
      go_wp2_with fail
      refine wpAny_ready (rs := [3]) (by kernel_rfl) (by simp) ?_
      refine AllReady.cons rfl (fun K hK => ?_) ?_
      · go_simp
        refine hK _ _ ?_
        clear hK K
        refine wpAny_ready (rs := [4]) (by kernel_rfl) (by simp) ?_
        refine AllReady.cons rfl (fun K hK => ?_) ?_
        · refine wp_append_run _ _ _ _ rfl (.slice (some ⟨gf, 0, none⟩) 3 3) (.slice (some ⟨u.heap.size, 0, none⟩) 1 1) _ rfl rfl HRR.out ?_
          refine hK _ _ ?_
          clear hK K
          refine wpAny_ready (rs := [5]) (by kernel_rfl) (by simp) ?_
          refine AllReady.cons rfl (fun K hK => ?_) ?_
          · go_simp
            refine hK _ _ ?_
            clear hK K
            refine wpAny_ready (rs := [6]) (by kernel_rfl) (by simp) ?_
            refine AllReady.cons rfl (fun K hK => ?_) ?_
            · go_simp
              refine hK _ _ ?_
              clear hK K
              refine wpAny_done (by kernel_rfl) ?_ _
              clear e1 e2 c1 k1
              have hkl := HK.out.lt
              have q0 := ((KI2.out.row HR.out).set_other ⟨w1.heap.size, 1, none⟩ (.slice (some ⟨g, 0, none⟩) 4 cap) (by dsimp only; omega))
              have q1 := (KI2.out.row HK.out).set 1 (.slice (some ⟨g, 0, none⟩) 4 cap)
              have q2 := ((KI2.out.row HP.out).set_other ⟨w1.heap.size, 1, none⟩ (.slice (some ⟨g, 0, none⟩) 4 cap) (by dsimp only; omega))
              have q3 := (HRW.out.set_other ⟨w1.heap.size, 1, none⟩ (.slice (some ⟨g, 0, none⟩) 4 cap) (by dsimp only; omega))
              have s0 := ints_set (KI2.out.ints HA.out) (b := w1.heap.size) (fun b o e => by cases e; omega) 1 (.slice (some ⟨g, 0, none⟩) 4 cap)
              have s1 := ints_set (KI2.out.ints HB.out) (b := w1.heap.size) (fun b o e => by cases e; omega) 1 (.slice (some ⟨g, 0, none⟩) 4 cap)
              have s2 := ints_set (KI2.out.ints HC.out) (b := w1.heap.size) (fun b o e => by cases e; omega) 1 (.slice (some ⟨g, 0, none⟩) 4 cap)
              have s3 := ints_set HIS.out (b := w1.heap.size) (fun b o e => by cases e; omega) 1 (.slice (some ⟨g, 0, none⟩) 4 cap)
              have hE2 := (HE.out.trans (KI2.out.b.mono HE.out.size)).setCell (p := ⟨w1.heap.size, 1, none⟩) (by dsimp only; omega) (.slice (some ⟨g, 0, none⟩) 4 cap)
              generalize u2.setCell ⟨w1.heap.size, 1, none⟩ (.slice (some ⟨g, 0, none⟩) 4 cap) = W2 at *
              have k0 := q1.cell 0 (v := .slice (some ⟨gp, 0, none⟩) 2 2) rfl
              have k1 := q1.cell 1 (v := .slice (some ⟨g, 0, none⟩) 4 cap) rfl
              have Q0 := Lib.hid q0
              have Q2 := Lib.hid q2
              have Q3 := Lib.hid q3
              have S0 := Lib.hid s0
              have S1 := Lib.hid s1
              have S2 := Lib.hid s2
              have S3 := Lib.hid s3
              have HE2 := Lib.hid hE2
              clear q0 q1 q2 q3 s0 s1 s2 s3 hE2
              go_wp2_with (first | (refine store_row rfl 25 _ _ rfl _ #[.slice (some ⟨gp, 0, none⟩) 2 2, .slice (some ⟨g, 0, none⟩) 4 cap] _ _ rfl rfl Q0.out (by kernel_rfl) rfl (by simp [Value.oneCell']) ?_))
              exact bodyPost_ret (v := .agg #[.slice (some ⟨gp, 0, none⟩) 2 2, .slice (some ⟨g, 0, none⟩) 4 cap]) (results_cell_row Try.results56 _ _ _ _ _ _ _ rfl (Q0.out.setRow #[.slice (some ⟨gp, 0, none⟩) 2 2, .slice (some ⟨g, 0, none⟩) 4 cap]) Try.underlying25 rfl (by kernel_rfl)) rfl
                ⟨_, 2, _, cap, exM4 a b c d, rfl, rfl, ex_bk4 (Q2.out.setRow_other _ (by omega)) (Q3.out.setRow_other _ (by omega)) HO.out (ints_setRow S0.out _ (by omega)) (ints_setRow S1.out _ (by omega)) (ints_setRow S2.out _ (by omega)) (ints_setRow S3.out _ (by omega)), below_setRow HE2.out (Nat.le_refl _) _⟩
            exact AllReady.nil
          exact AllReady.nil
        exact AllReady.nil
      exact AllReady.nil
    exact AllReady.nil
  refine AllReady.cons rfl (fun K hK => ?_) ?_
  · go_simp
    with_reducible refine (frame_any _ _ _ _ _).mono ?_
    rintro e u ⟨d, rfl, hs, hd, hbu⟩
    have KI := Lib.hid ((From.refl W1).drew.below hbu)
    have HS := Lib.hid hs
    have hku := (KI.out.row HK.out).lt
    have c1 := (KI.out.row HK.out).cell 1 (v := .slice (some ⟨gf, 0, none⟩) 3 3) rfl
    obtain ⟨v, g, cap, cur, u2, hr, hcop, hold⟩ := join_frames (u.alloc (.cells #[.slice (some ⟨d, 0, none⟩) 2 2, .int .i64 0, .int .i64 5] 55)) (exM a b c 18 50) [⟨some ⟨d, 0, none⟩, 2, ⟨[20, 20], 0, 5⟩⟩] gf 0 u.heap.size 0 3 1 (ex_frs ((KI.out.row HF.out).alloc _) ((KI.out.ints HA.out).below (below_alloc _ _)) ((KI.out.ints HB.out).below (below_alloc _ _)) ((KI.out.ints HC.out).below (below_alloc _ _))) (one_frame _ _ _ _ _ rfl _ HS.out) (by simp [exM]) (by simp [exM]) 23
    have HO := Lib.hid hold
    obtain ⟨hv, hrow, hge, hcap, hb2⟩ := hcop
    rw [show (exM a b c 18 50).length + [(⟨some ⟨d, 0, none⟩, 2, ⟨[20, 20], 0, 5⟩⟩ : FrM)].length = 4 by simp [exM]] at hv
    subst hv
    have HRW := Lib.hid hrow
    have HRR := Lib.hid hr
    have KI2 := Lib.hid ((KI.out.below (below_alloc _ (.cells #[.slice (some ⟨d, 0, none⟩) 2 2, .int .i64 0, .int .i64 5] 55))).below hb2)
    have e1 := (KI2.out.row HK.out).cell 1 (v := .slice (some ⟨gf, 0, none⟩) 3 3) rfl
    have e2 := KI2.out.free HK.out 1
    have HIS := Lib.hid ((HS.out.below (below_alloc _ (.cells #[.slice (some ⟨d, 0, none⟩) 2 2, .int .i64 0, .int .i64 5] 55))).below hb2)
    have hgk : w1.heap.size < g := by simp at hge; omega
    have hdk : W1.heap.size ≤ d := by simpa using hd
    have hdu := hrow.lt
    clear hb2 hrow hold hr hs hbu hge hcap hd
    go_wp2_with fail
    refine wpAny_ready (rs := [1, 3]) (by kernel_rfl) (by simp) ?_
    refine AllReady.cons rfl (fun K hK => ?_) ?_
    · go_simp
      refine hK _ _ ?_
      clear hK K
      refine wpAny_ready (rs := [3]) (by kernel_rfl) (by simp) ?_
      refine AllReady.cons rfl (fun K hK => ?_) ?_
      · go_simp
        refine hK _ _ ?_
        clear hK K
        refine wpAny_ready (rs := [4]) (by kernel_rfl) (by simp) ?_
        refine AllReady.cons rfl (fun K hK => ?_) ?_
        · refine wp_append_run _ _ _ _ rfl (.slice (some ⟨gf, 0, none⟩) 3 3) (.slice (some ⟨u.heap.size, 0, none⟩) 1 1) _ rfl rfl HRR.out ?_
          refine hK _ _ ?_
          clear hK K
          refine wpAny_ready (rs := [5]) (by kernel_rfl) (by simp) ?_
          refine AllReady.cons rfl (fun K hK => ?_) ?_
          · go_simp
            refine hK _ _ ?_
            clear hK K
            refine wpAny_ready (rs := [6]) (by kernel_rfl) (by simp) ?_
            refine AllReady.cons rfl (fun K hK => ?_) ?_
            · go_simp
              refine hK _ _ ?_
              clear hK K
              refine wpAny_done (by kernel_rfl) ?_ _
              clear e1 e2 c1 k1
              have hkl := HK.out.lt
              have q0 := ((KI2.out.row HR.out).set_other ⟨w1.heap.size, 1, none⟩ (.slice (some ⟨g, 0, none⟩) 4 cap) (by dsimp only; omega))
              have q1 := (KI2.out.row HK.out).set 1 (.slice (some ⟨g, 0, none⟩) 4 cap)
              have q2 := ((KI2.out.row HP.out).set_other ⟨w1.heap.size, 1, none⟩ (.slice (some ⟨g, 0, none⟩) 4 cap) (by dsimp only; omega))
              have q3 := (HRW.out.set_other ⟨w1.heap.size, 1, none⟩ (.slice (some ⟨g, 0, none⟩) 4 cap) (by dsimp only; omega))
              have s0 := ints_set (KI2.out.ints HA.out) (b := w1.heap.size) (fun b o e => by cases e; omega) 1 (.slice (some ⟨g, 0, none⟩) 4 cap)
              have s1 := ints_set (KI2.out.ints HB.out) (b := w1.heap.size) (fun b o e => by cases e; omega) 1 (.slice (some ⟨g, 0, none⟩) 4 cap)
              have s2 := ints_set (KI2.out.ints HC.out) (b := w1.heap.size) (fun b o e => by cases e; omega) 1 (.slice (some ⟨g, 0, none⟩) 4 cap)
              have s3 := ints_set HIS.out (b := w1.heap.size) (fun b o e => by cases e; omega) 1 (.slice (some ⟨g, 0, none⟩) 4 cap)
              have hE2 := (HE.out.trans (KI2.out.b.mono HE.out.size)).setCell (p := ⟨w1.heap.size, 1, none⟩) (by dsimp only; omega) (.slice (some ⟨g, 0, none⟩) 4 cap)
              generalize u2.setCell ⟨w1.heap.size, 1, none⟩ (.slice (some ⟨g, 0, none⟩) 4 cap) = W2 at *
              have k0 := q1.cell 0 (v := .slice (some ⟨gp, 0, none⟩) 2 2) rfl
              have k1 := q1.cell 1 (v := .slice (some ⟨g, 0, none⟩) 4 cap) rfl
              have Q0 := Lib.hid q0
              have Q2 := Lib.hid q2
              have Q3 := Lib.hid q3
              have S0 := Lib.hid s0
              have S1 := Lib.hid s1
              have S2 := Lib.hid s2
              have S3 := Lib.hid s3
              have HE2 := Lib.hid hE2
              clear q0 q1 q2 q3 s0 s1 s2 s3 hE2
              go_wp2_with (first | (refine store_row rfl 25 _ _ rfl _ #[.slice (some ⟨gp, 0, none⟩) 2 2, .slice (some ⟨g, 0, none⟩) 4 cap] _ _ rfl rfl Q0.out (by kernel_rfl) rfl (by simp [Value.oneCell']) ?_))
              exact bodyPost_ret (v := .agg #[.slice (some ⟨gp, 0, none⟩) 2 2, .slice (some ⟨g, 0, none⟩) 4 cap]) (results_cell_row Try.results56 _ _ _ _ _ _ _ rfl (Q0.out.setRow #[.slice (some ⟨gp, 0, none⟩) 2 2, .slice (some ⟨g, 0, none⟩) 4 cap]) Try.underlying25 rfl (by kernel_rfl)) rfl
                ⟨_, 2, _, cap, exM4 a b c d, rfl, rfl, ex_bk4 (Q2.out.setRow_other _ (by omega)) (Q3.out.setRow_other _ (by omega)) HO.out (ints_setRow S0.out _ (by omega)) (ints_setRow S1.out _ (by omega)) (ints_setRow S2.out _ (by omega)) (ints_setRow S3.out _ (by omega)), below_setRow HE2.out (Nat.le_refl _) _⟩
            exact AllReady.nil
          exact AllReady.nil
        exact AllReady.nil
      exact AllReady.nil
    refine AllReady.cons rfl (fun K hK => ?_) ?_
    · go_simp
      refine hK _ _ ?_
      clear hK K
      refine wpAny_ready (rs := [1]) (by kernel_rfl) (by simp) ?_
      refine AllReady.cons rfl (fun K hK => ?_) ?_
      · go_simp
        refine hK _ _ ?_
        clear hK K
        refine wpAny_ready (rs := [4]) (by kernel_rfl) (by simp) ?_
        refine AllReady.cons rfl (fun K hK => ?_) ?_
        · refine wp_append_run _ _ _ _ rfl (.slice (some ⟨gf, 0, none⟩) 3 3) (.slice (some ⟨u.heap.size, 0, none⟩) 1 1) _ rfl rfl HRR.out ?_
          refine hK _ _ ?_
          clear hK K
          refine wpAny_ready (rs := [5]) (by kernel_rfl) (by simp) ?_
          refine AllReady.cons rfl (fun K hK => ?_) ?_
          · go_simp
            refine hK _ _ ?_
            clear hK K
            refine wpAny_ready (rs := [6]) (by kernel_rfl) (by simp) ?_
            refine AllReady.cons rfl (fun K hK => ?_) ?_
            · go_simp
              refine hK _ _ ?_
              clear hK K
              refine wpAny_done (by kernel_rfl) ?_ _
              clear e1 e2 c1 k1
              have hkl := HK.out.lt
              have q0 := ((KI2.out.row HR.out).set_other ⟨w1.heap.size, 1, none⟩ (.slice (some ⟨g, 0, none⟩) 4 cap) (by dsimp only; omega))
              have q1 := (KI2.out.row HK.out).set 1 (.slice (some ⟨g, 0, none⟩) 4 cap)
              have q2 := ((KI2.out.row HP.out).set_other ⟨w1.heap.size, 1, none⟩ (.slice (some ⟨g, 0, none⟩) 4 cap) (by dsimp only; omega))
              have q3 := (HRW.out.set_other ⟨w1.heap.size, 1, none⟩ (.slice (some ⟨g, 0, none⟩) 4 cap) (by dsimp only; omega))
              have s0 := ints_set (KI2.out.ints HA.out) (b := w1.heap.size) (fun b o e => by cases e; omega) 1 (.slice (some ⟨g, 0, none⟩) 4 cap)
              have s1 := ints_set (KI2.out.ints HB.out) (b := w1.heap.size) (fun b o e => by cases e; omega) 1 (.slice (some ⟨g, 0, none⟩) 4 cap)
              have s2 := ints_set (KI2.out.ints HC.out) (b := w1.heap.size) (fun b o e => by cases e; omega) 1 (.slice (some ⟨g, 0, none⟩) 4 cap)
              have s3 := ints_set HIS.out (b := w1.heap.size) (fun b o e => by cases e; omega) 1 (.slice (some ⟨g, 0, none⟩) 4 cap)
              have hE2 := (HE.out.trans (KI2.out.b.mono HE.out.size)).setCell (p := ⟨w1.heap.size, 1, none⟩) (by dsimp only; omega) (.slice (some ⟨g, 0, none⟩) 4 cap)
              generalize u2.setCell ⟨w1.heap.size, 1, none⟩ (.slice (some ⟨g, 0, none⟩) 4 cap) = W2 at *
              have k0 := q1.cell 0 (v := .slice (some ⟨gp, 0, none⟩) 2 2) rfl
              have k1 := q1.cell 1 (v := .slice (some ⟨g, 0, none⟩) 4 cap) rfl
              have Q0 := Lib.hid q0
              have Q2 := Lib.hid q2
              have Q3 := Lib.hid q3
              have S0 := Lib.hid s0
              have S1 := Lib.hid s1
              have S2 := Lib.hid s2
              have S3 := Lib.hid s3
              have HE2 := Lib.hid hE2
              clear q0 q1 q2 q3 s0 s1 s2 s3 hE2
              go_wp2_with (first | (refine store_row rfl 25 _ _ rfl _ #[.slice (some ⟨gp, 0, none⟩) 2 2, .slice (some ⟨g, 0, none⟩) 4 cap] _ _ rfl rfl Q0.out (by kernel_rfl) rfl (by simp [Value.oneCell']) ?_))
              exact bodyPost_ret (v := .agg #[.slice (some ⟨gp, 0, none⟩) 2 2, .slice (some ⟨g, 0, none⟩) 4 cap]) (results_cell_row Try.results56 _ _ _ _ _ _ _ rfl (Q0.out.setRow #[.slice (some ⟨gp, 0, none⟩) 2 2, .slice (some ⟨g, 0, none⟩) 4 cap]) Try.underlying25 rfl (by kernel_rfl)) rfl
                ⟨_, 2, _, cap, exM4 a b c d, rfl, rfl, ex_bk4 (Q2.out.setRow_other _ (by omega)) (Q3.out.setRow_other _ (by omega)) HO.out (ints_setRow S0.out _ (by omega)) (ints_setRow S1.out _ (by omega)) (ints_setRow S2.out _ (by omega)) (ints_setRow S3.out _ (by omega)), below_setRow HE2.out (Nat.le_refl _) _⟩
            exact AllReady.nil
          exact AllReady.nil
        exact AllReady.nil
      exact AllReady.nil
    exact AllReady.nil
  exact AllReady.nil
end Go.Proofs.Ytfppcmechfjpoaa
