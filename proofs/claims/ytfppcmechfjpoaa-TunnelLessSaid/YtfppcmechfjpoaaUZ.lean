/- The law's own helpers of layer 3: parts, frames, the chapter's books. -/
import Derived.Test.YtfppcmechfjpoaaUY
namespace Go.Proofs.Ytfppcmechfjpoaa
open Go.RowKit Go.Maps
attribute [local go_sem] Oper.semAt_some

set_option maxRecDepth 10000 in
set_option maxHeartbeats 800000 in
theorem part_any (a c d e lo hi : Int) (w : World) : Calls Try.prog 91 #[.int .i64 a, .int .i64 c, .int .i64 d, .int .i64 e, .int .i64 lo, .int .i64 hi] w fun r w' => r = .returned (.agg #[.int .i64 a, .int .i64 c, .int .i64 d, .int .i64 e, .int .i64 lo, .int .i64 hi]) ∧ Below w.heap.size w w' := by
  have hE := below_alloc w (.cells #[.int .i64 0, .int .i64 0, .int .i64 0, .int .i64 0, .int .i64 0, .int .i64 0] 64)
  have HE := Lib.hid hE
  have HR := Lib.hid (Row.new w #[.int .i64 0, .int .i64 0, .int .i64 0, .int .i64 0, .int .i64 0, .int .i64 0] 64)
  clear hE
  go_enter Try.func91, Try.ntmps91
  go_wp2_with fail
  refine (Sp_any _ _ _).mono ?_
  rintro r w1 ⟨rfl, hb1⟩
  have HE := Lib.hid (HE.out.trans (hb1.mono HE.out.size))
  have HR := Lib.hid (HR.out.below hb1 HR.out.lt)
  clear hb1
  go_wp2_with (first | (refine store_row rfl 64 _ _ rfl _ #[.int .i64 a, .int .i64 c, .int .i64 d, .int .i64 e, .int .i64 lo, .int .i64 hi] _ _ rfl rfl HR.out (by kernel_rfl) rfl (by simp [Value.oneCell']) ?_))
  have q0 := HR.out.setRow #[.int .i64 a, .int .i64 c, .int .i64 d, .int .i64 e, .int .i64 lo, .int .i64 hi]
  exact bodyPost_ret (v := .agg #[.int .i64 a, .int .i64 c, .int .i64 d, .int .i64 e, .int .i64 lo, .int .i64 hi]) (results_cell_row Try.results91 _ _ _ _ _ _ _ rfl q0 Try.underlying64 rfl (by kernel_rfl)) rfl
    ⟨rfl, below_setRow HE.out (Nat.le_refl _) _⟩

/-- The call returned a frame that stays so long in two parts. -/
def GaveFr (s t lo hi : Int) (w : World) (e : Ending) (w' : World) : Prop := ∃ g, e = .returned (.agg #[.slice (some ⟨g, 0, none⟩) 2 2, .int .i64 lo, .int .i64 hi]) ∧ IntsAt w' (some ⟨g, 0, none⟩) [s, t] ∧ w.heap.size ≤ g ∧ Below w.heap.size w w'
set_option maxRecDepth 10000 in
set_option maxHeartbeats 800000 in
theorem frame_any (s t lo hi : Int) (w : World) : Calls Try.prog 92 #[.int .i64 s, .int .i64 t, .int .i64 lo, .int .i64 hi] w (GaveFr s t lo hi w) := by
  have hE := below_alloc w (.cells #[.slice none 0 0, .int .i64 0, .int .i64 0] 55)
  have hE2 := hE.alloc (by simp) (.cells #[.int .i64 s, .int .i64 t] 3)
  have HE := Lib.hid hE2
  have HR := Lib.hid ((Row.new w #[.slice none 0 0, .int .i64 0, .int .i64 0] 55).alloc (.cells #[.int .i64 s, .int .i64 t] 3))
  have HS := Lib.hid (Row.new1 w (.cells #[.slice none 0 0, .int .i64 0, .int .i64 0] 55) #[.int .i64 s, .int .i64 t] 3)
  clear hE hE2
  go_enter Try.func92, Try.ntmps92
  go_wp2_with fail
  refine (Sp_any _ _ _).mono ?_
  rintro r w1 ⟨rfl, hb1⟩
  have HE := Lib.hid (HE.out.trans (hb1.mono HE.out.size))
  have HR := Lib.hid (HR.out.below hb1 HR.out.lt)
  have HS := Lib.hid (HS.out.below hb1 HS.out.lt)
  clear hb1
  go_wp2_with (first | (refine store_row rfl 55 _ _ rfl _ #[.slice (some ⟨w.heap.size + 1, 0, none⟩) 2 2, .int .i64 lo, .int .i64 hi] _ _ rfl rfl HR.out (by kernel_rfl) rfl (by simp [Value.oneCell']) ?_))
  have q0 := HR.out.setRow #[.slice (some ⟨w.heap.size + 1, 0, none⟩) 2 2, .int .i64 lo, .int .i64 hi]
  have q1 := HS.out.setRow_other (g := w.heap.size) #[.slice (some ⟨w.heap.size + 1, 0, none⟩) 2 2, .int .i64 lo, .int .i64 hi] (by omega)
  exact bodyPost_ret (v := .agg #[.slice (some ⟨w.heap.size + 1, 0, none⟩) 2 2, .int .i64 lo, .int .i64 hi]) (results_cell_row Try.results92 _ _ _ _ _ _ _ rfl q0 Try.underlying55 rfl (by kernel_rfl)) rfl
    ⟨_, rfl, ints_row (l := [s, t]) q1, by omega, below_setRow HE.out (Nat.le_refl _) _⟩

theorem ints_setRow {w : World} {b g : Nat} {l : List Int} (h : IntsAt w (some ⟨b, 0, none⟩) l) (ds : Array Value) (hne : b ≠ g) : IntsAt (w.setRow g ds) (some ⟨b, 0, none⟩) l := by
  intro i hi
  obtain ⟨b', o, e, hc⟩ := h i hi
  cases e
  refine ⟨b, 0, rfl, ?_⟩
  rw [← hc]
  simp only [World.cell?]
  rw [_root_.Go.setRow_other w g b ds hne]
theorem ints_lt {w : World} {g : Nat} {l : List Int} (h : IntsAt w (some ⟨g, 0, none⟩) l) (hl : 0 < l.length) : g < w.heap.size := by
  obtain ⟨b, o, e, hc⟩ := h 0 hl
  cases e
  exact cell_block hc
def exPA : Array Value := #[.int .i64 1, .int .i64 3, .int .i64 5, .int .i64 8, .int .i64 0, .int .i64 1, .int .i64 0, .int .i64 2, .int .i64 6, .int .i64 9, .int .i64 1, .int .i64 2]
def exFA (a b c : Nat) (lo hi : Int) : Array Value := #[.slice (some ⟨a, 0, none⟩) 2 2, .int .i64 20, .int .i64 45, .slice (some ⟨b, 0, none⟩) 2 2, .int .i64 lo, .int .i64 hi, .slice (some ⟨c, 0, none⟩) 2 2, .int .i64 30, .int .i64 60]
def GaveEx (w : World) (e : Ending) (w' : World) : Prop := ∃ gp gf a b c, e = .returned (.agg #[.slice (some ⟨gp, 0, none⟩) 2 2, .slice (some ⟨gf, 0, none⟩) 3 3]) ∧ Row w' gp exPA 64 ∧ Row w' gf (exFA a b c 18 50) 55 ∧
  IntsAt w' (some ⟨a, 0, none⟩) [5, 4] ∧ IntsAt w' (some ⟨b, 0, none⟩) [3, 6] ∧ IntsAt w' (some ⟨c, 0, none⟩) [10, 2] ∧ w.heap.size ≤ gf ∧ (w.heap.size ≤ gp ∧ w.heap.size ≤ a ∧ w.heap.size ≤ b ∧ w.heap.size ≤ c) ∧ gp ≠ gf ∧ a ≠ gf ∧ b ≠ gf ∧ c ≠ gf ∧ Below w.heap.size w w'
set_option maxRecDepth 10000 in
set_option maxHeartbeats 1600000 in
theorem book_any (w : World) : Calls Try.prog 54 #[] w (GaveEx w) := by
  have HE := Lib.hid (below_alloc w (.cells #[.slice none 0 0, .slice none 0 0] 25))
  have HR := Lib.hid (Row.new w #[.slice none 0 0, .slice none 0 0] 25)
  go_enter Try.func54, Try.ntmps54
  go_wp2_with fail
  refine (part_any 1 3 5 8 0 1 _).mono ?_
  rintro r w1 ⟨rfl, hb⟩
  have HR := Lib.hid (HR.out.below hb HR.out.lt)
  have HE := Lib.hid (HE.out.trans (hb.mono HE.out.size))
  clear hb
  go_wp2_with fail
  refine (part_any 0 2 6 9 1 2 _).mono ?_
  rintro r w2 ⟨rfl, hb⟩
  have HR := Lib.hid (HR.out.below hb HR.out.lt)
  have HE := Lib.hid (HE.out.trans (hb.mono HE.out.size))
  clear hb
  go_wp2_with fail
  have hba := below_alloc w2 (.cells #[.int .i64 1, .int .i64 3, .int .i64 5, .int .i64 8, .int .i64 0, .int .i64 1, .int .i64 0, .int .i64 2, .int .i64 6, .int .i64 9, .int .i64 1, .int .i64 2] 64)
  have HP := Lib.hid (Row.new w2 #[.int .i64 1, .int .i64 3, .int .i64 5, .int .i64 8, .int .i64 0, .int .i64 1, .int .i64 0, .int .i64 2, .int .i64 6, .int .i64 9, .int .i64 1, .int .i64 2] 64)
  have hb := hba
  have hgp := HR.out.lt
  have hgp3 := HP.out.lt
  have HR := Lib.hid (HR.out.below hb HR.out.lt)
  have HE := Lib.hid (HE.out.trans (hb.mono HE.out.size))
  clear hb hba
  have hgp2 := HR.out.lt
  refine (frame_any 5 4 20 45 _).mono ?_
  rintro r w3 ⟨g3, rfl, hs, hg3, hb⟩
  have hz3 := HE.out.size
  have HR := Lib.hid (HR.out.below hb HR.out.lt)
  have HP := Lib.hid (HP.out.below hb HP.out.lt)
  have HE := Lib.hid (HE.out.trans (hb.mono HE.out.size))
  have HI3 := Lib.hid hs
  have HLT3 := Lib.hid (ints_lt HI3.out (by decide))
  clear hb hs
  go_wp2_with fail
  refine (frame_any 3 6 18 50 _).mono ?_
  rintro r w4 ⟨g4, rfl, hs, hg4, hb⟩
  have hz4 := HE.out.size
  have HR := Lib.hid (HR.out.below hb HR.out.lt)
  have HP := Lib.hid (HP.out.below hb HP.out.lt)
  have HI3 := Lib.hid (HI3.out.below hb)
  have HE := Lib.hid (HE.out.trans (hb.mono HE.out.size))
  have HI4 := Lib.hid hs
  have HLT4 := Lib.hid (ints_lt HI4.out (by decide))
  clear hb hs
  go_wp2_with fail
  refine (frame_any 10 2 30 60 _).mono ?_
  rintro r w5 ⟨g5, rfl, hs, hg5, hb⟩
  have hz5 := HE.out.size
  have HR := Lib.hid (HR.out.below hb HR.out.lt)
  have HP := Lib.hid (HP.out.below hb HP.out.lt)
  have HI3 := Lib.hid (HI3.out.below hb)
  have HI4 := Lib.hid (HI4.out.below hb)
  have HE := Lib.hid (HE.out.trans (hb.mono HE.out.size))
  have HI5 := Lib.hid hs
  have HLT5 := Lib.hid (ints_lt HI5.out (by decide))
  clear hb hs
  have hzp := HP.out.lt
  have hzr := HR.out.lt
  go_wp2_with (first | (refine store_row rfl 25 _ _ rfl _ #[.slice (some ⟨w2.heap.size, 0, none⟩) 2 2, .slice (some ⟨w5.heap.size, 0, none⟩) 3 3] _ _ rfl rfl (HR.out.alloc (.cells #[.slice (some ⟨g3, 0, none⟩) 2 2, .int .i64 20, .int .i64 45, .slice (some ⟨g4, 0, none⟩) 2 2, .int .i64 18, .int .i64 50, .slice (some ⟨g5, 0, none⟩) 2 2, .int .i64 30, .int .i64 60] 55)) (by kernel_rfl) rfl (by simp [Value.oneCell']) ?_))
  have q0 := (HR.out.alloc (.cells #[.slice (some ⟨g3, 0, none⟩) 2 2, .int .i64 20, .int .i64 45, .slice (some ⟨g4, 0, none⟩) 2 2, .int .i64 18, .int .i64 50, .slice (some ⟨g5, 0, none⟩) 2 2, .int .i64 30, .int .i64 60] 55)).setRow #[.slice (some ⟨w2.heap.size, 0, none⟩) 2 2, .slice (some ⟨w5.heap.size, 0, none⟩) 3 3]
  have q1 := (HP.out.alloc (.cells #[.slice (some ⟨g3, 0, none⟩) 2 2, .int .i64 20, .int .i64 45, .slice (some ⟨g4, 0, none⟩) 2 2, .int .i64 18, .int .i64 50, .slice (some ⟨g5, 0, none⟩) 2 2, .int .i64 30, .int .i64 60] 55)).setRow_other (g := w.heap.size) #[.slice (some ⟨w2.heap.size, 0, none⟩) 2 2, .slice (some ⟨w5.heap.size, 0, none⟩) 3 3] (by omega)
  have q2 := (Row.new w5 #[.slice (some ⟨g3, 0, none⟩) 2 2, .int .i64 20, .int .i64 45, .slice (some ⟨g4, 0, none⟩) 2 2, .int .i64 18, .int .i64 50, .slice (some ⟨g5, 0, none⟩) 2 2, .int .i64 30, .int .i64 60] 55).setRow_other (g := w.heap.size) #[.slice (some ⟨w2.heap.size, 0, none⟩) 2 2, .slice (some ⟨w5.heap.size, 0, none⟩) 3 3] (by omega)
  have s0 := ints_setRow (HI3.out.below (below_alloc _ (.cells #[.slice (some ⟨g3, 0, none⟩) 2 2, .int .i64 20, .int .i64 45, .slice (some ⟨g4, 0, none⟩) 2 2, .int .i64 18, .int .i64 50, .slice (some ⟨g5, 0, none⟩) 2 2, .int .i64 30, .int .i64 60] 55))) (g := w.heap.size) #[.slice (some ⟨w2.heap.size, 0, none⟩) 2 2, .slice (some ⟨w5.heap.size, 0, none⟩) 3 3] (by omega)
  have l0 := HLT3.out
  have s1 := ints_setRow (HI4.out.below (below_alloc _ (.cells #[.slice (some ⟨g3, 0, none⟩) 2 2, .int .i64 20, .int .i64 45, .slice (some ⟨g4, 0, none⟩) 2 2, .int .i64 18, .int .i64 50, .slice (some ⟨g5, 0, none⟩) 2 2, .int .i64 30, .int .i64 60] 55))) (g := w.heap.size) #[.slice (some ⟨w2.heap.size, 0, none⟩) 2 2, .slice (some ⟨w5.heap.size, 0, none⟩) 3 3] (by omega)
  have l1 := HLT4.out
  have s2 := ints_setRow (HI5.out.below (below_alloc _ (.cells #[.slice (some ⟨g3, 0, none⟩) 2 2, .int .i64 20, .int .i64 45, .slice (some ⟨g4, 0, none⟩) 2 2, .int .i64 18, .int .i64 50, .slice (some ⟨g5, 0, none⟩) 2 2, .int .i64 30, .int .i64 60] 55))) (g := w.heap.size) #[.slice (some ⟨w2.heap.size, 0, none⟩) 2 2, .slice (some ⟨w5.heap.size, 0, none⟩) 3 3] (by omega)
  have l2 := HLT5.out
  exact bodyPost_ret (v := .agg #[.slice (some ⟨w2.heap.size, 0, none⟩) 2 2, .slice (some ⟨w5.heap.size, 0, none⟩) 3 3]) (results_cell_row Try.results54 _ _ _ _ _ _ _ rfl q0 Try.underlying25 rfl (by kernel_rfl)) rfl
    ⟨_, _, _, _, _, rfl, q1, q2, s0, s1, s2, by omega, ⟨by omega, by omega, by omega, by omega⟩, by omega, by omega, by omega, by omega, below_setRow (HE.out.alloc HE.out.size _) (Nat.le_refl _) _⟩
end Go.Proofs.Ytfppcmechfjpoaa
