/- The law's own helper of layer 6: sound. -/
import Derived.Test.YtajkgfeockcbpaaY31
namespace Go.Proofs.Ytajkgfeockcbpaa
open Go.RowKit Go.Maps
attribute [local go_sem] Oper.semAt_some

set_option maxRecDepth 100000 in
set_option maxHeartbeats 3200000 in
theorem sound_no (b : Yb) (P : Yp) (w : World) (hB : YbAt w P b) (hb : yardB b = false) :
    Calls Try.prog 37 #[.agg (ybA b P)] w fun e w' => e = .returned (.bool false) ∧ Below w.heap.size w w' := by
  obtain ⟨pl, cl, pd, cd, pb, cb, ps, cs⟩ := P
  obtain ⟨W0, hW0⟩ : ∃ W, W = w.alloc (.cells (ybA b ⟨pl, cl, pd, cd, pb, cb, ps, cs⟩) 25) := ⟨_, rfl⟩
  have HW0 := Lib.hid hW0
  have HE := Lib.hid (show Below w.heap.size w W0 by rw [hW0]; exact below_alloc _ _)
  have HR := Lib.hid (show Row W0 w.heap.size (ybA b ⟨pl, cl, pd, cd, pb, cb, ps, cs⟩) 25 by rw [hW0]; exact Row.new w _ _)
  have HC := Lib.hid (by have h := Check_any b ⟨pl, cl, pd, cd, pb, cb, ps, cs⟩ W0 (hB.below HE.out); rw [yardE_bad hb] at h; exact h)
  clear hW0 hB hb
  go_enter Try.func37, Try.ntmps37
  go_upto_region 1 with (fail)
  rw [← HW0.out]
  go_wp2_with (first
    | (refine load_row rfl 25 _ rfl w.heap.size rfl 25 (ybA b ⟨pl, cl, pd, cd, pb, cb, ps, cs⟩) _ HR.out Try.underlying25 rfl (by kernel_rfl) ?_)
    | (go_at_call 16; (with_reducible refine HC.out.mono ?_); rintro e u ⟨rfl, hbu⟩; obtain ⟨z, hz⟩ := later_of hbu; subst hz; clear hbu))
  go_loopw [3, 4] (fun ok i wr => ok = .bool false ∧ i = .int .i64 0 ∧ wr = z.w) (fun _ _ _ => 0)
  case atStart => exact ⟨rfl, rfl, rfl⟩
  case round =>
    obtain ⟨rfl, rfl, rfl⟩ := hrel
    go_wp2_with fail
    go_ret
    exact ⟨rfl, z.base HE.out⟩
set_option maxRecDepth 100000 in
set_option maxHeartbeats 3200000 in
theorem sound_yes (b : Yb) (P : Yp) (w : World) (hB : YbAt w P b) (hb : yardB b = true) :
    Calls Try.prog 37 #[.agg (ybA b P)] w fun e w' => e = .returned (.bool true) ∧ Below w.heap.size w w' := by
  obtain ⟨pl, cl, pd, cd, pb, cb, ps, cs⟩ := P
  obtain ⟨W0, hW0⟩ : ∃ W, W = w.alloc (.cells (ybA b ⟨pl, cl, pd, cd, pb, cb, ps, cs⟩) 25) := ⟨_, rfl⟩
  have HW0 := Lib.hid hW0
  have HE := Lib.hid (show Below w.heap.size w W0 by rw [hW0]; exact below_alloc _ _)
  have HR := Lib.hid (show Row W0 w.heap.size (ybA b ⟨pl, cl, pd, cd, pb, cb, ps, cs⟩) 25 by rw [hW0]; exact Row.new w _ _)
  have HB := Lib.hid (hB.below HE.out)
  have HC := Lib.hid (by have h := Check_any b ⟨pl, cl, pd, cd, pb, cb, ps, cs⟩ W0 HB.out; rw [yardE_ok hb] at h; exact h)
  have HOK := Lib.hid (yardB_ok hb)
  have hok := HOK.out
  have hb3 := (yardB_iff.1 hb).2
  have n1 : (1 : Int) ≤ b.lots.length := by have := hok.n1; omega
  have n2 : (b.lots.length : Int) ≤ 7 := by have := hok.n7; omega
  have n3 := hok.d3
  have n4 := hok.s3
  have a0 := hok.a0
  have a1 := hok.a1
  have o0 := hok.o0
  have o1 := hok.o1
  have u0 := hok.u0
  have u1 := hok.u1
  have e0 := hok.e0
  have e1 := hok.e1
  have HSD := Lib.hid (fun w' (h : Below W0.heap.size W0 w') => spots_yes pd cd b.doors w' (HB.out.d.below h) n3 hok.sd)
  have HSU := Lib.hid (fun w' (h : Below W0.heap.size W0 w') => spots_yes pb cb b.buckets w' (HB.out.u.below h) hb3 hok.sb)
  have HSS := Lib.hid (fun w' (h : Below W0.heap.size W0 w') => spots_yes ps cs b.spare w' (HB.out.s.below h) n4 hok.ss)
  have g0 := HR.out.cell 0 (v := .slice pl b.lots.length cl) rfl
  have g1 := HR.out.cell 1 (v := .slice pd b.doors.length cd) rfl
  have g2 := HR.out.cell 2 (v := .slice pb b.buckets.length cb) rfl
  have g3 := HR.out.cell 3 (v := .slice ps b.spare.length cs) rfl
  have g4 := HR.out.cell 4 (v := .int .i64 b.apart) rfl
  have g5 := HR.out.cell 5 (v := .int .i64 b.door) rfl
  have g6 := HR.out.cell 6 (v := .int .i64 b.bucket) rfl
  have g7 := HR.out.cell 7 (v := .int .i64 b.err) rfl
  clear hW0 hB hb hok n3 n4 hb3
  go_enter Try.func37, Try.ntmps37
  go_upto_region 1 with (fail)
  rw [← HW0.out]
  go_wp2_with (first
    | (go_at_call 16; (with_reducible refine HC.out.mono ?_); rintro e u ⟨rfl, hbu⟩; obtain ⟨z, hz⟩ := later_of hbu; subst hz; clear hbu)
    | (go_at_call 52; (with_reducible refine (HSD.out _ z.b).mono ?_); rintro e u ⟨rfl, rfl⟩)
    | (go_at_call 52; (with_reducible refine (HSU.out _ z.b).mono ?_); rintro e u ⟨rfl, rfl⟩)
    | (go_at_call 52; (with_reducible refine (HSS.out _ z.b).mono ?_); rintro e u ⟨rfl, rfl⟩)
    | (go_at_call 43; (with_reducible refine (Fits_yes _ _ _ _ (by omega) (by omega)).mono ?_); rintro e u ⟨rfl, rfl⟩))
  go_loopw [3, 4] (fun ok i wr => ok = .bool true ∧ ∃ (k : Nat) (x : Later W0), k ≤ b.lots.length ∧ i = .int .i64 k ∧ wr = x.w) (fun _ i _ => b.lots.length - (intOf i).toNat)
  case atStart => exact ⟨rfl, 0, z, by omega, rfl, rfl⟩
  case round =>
    obtain ⟨rfl, k, x, hk, rfl, rfl⟩ := hrel
    by_cases hlt : k < b.lots.length
    · obtain ⟨bq, oq, hp, q0, q1, q2, q3⟩ := HB.out.l k hlt
      dsimp only at hp
      have hl := lotB_iff.1 (HOK.out.l _ (List.getElem_mem hlt))
      obtain ⟨lt, hlot⟩ : ∃ l, b.lots[k] = l := ⟨_, rfl⟩
      rw [hlot] at q0 q1 q2 q3 hl
      obtain ⟨⟨s0, s1⟩, lo, hi⟩ := lt
      subst hp
      have HRT := Lib.hid (fun w' => (by have h := Right_any lo hi 0 99 w'; rw [show (decide ((0 : Int) ≤ lo) && decide (lo ≤ hi) && decide (hi ≤ 99)) = true by have h2 := hl.2; dsimp only at h2; simp; omega] at h; exact h))
      have hb1 := below_alloc x.w (.cells #[.int .i64 s0, .int .i64 s1] 62)
      have HSP := Lib.hid (spots_yes (some ⟨x.w.heap.size, 0, none⟩) 1 [(s0, s1)] _ (spot_one (Row.new x.w #[.int .i64 s0, .int .i64 s1] 62)) (by simp) (by intro s hs; rw [List.mem_singleton.1 hs]; exact hl.1))
      rw [show [(s0, s1)].length = 1 from rfl] at HSP
      have i1 : (0 : Int) ≤ (k : Int) := by omega
      have i2 : (k : Int) < (b.lots.length : Int) := by omega
      obtain ⟨x1, hx1⟩ := x.on hb1
      rw [hx1] at HSP
      clear hl hlot hb1 g1 g2 g3 g4 g5 g6 g7
      go_wp2_with (first
        | (go_at_call 52; (with_reducible refine HSP.out.mono ?_); rintro e u ⟨rfl, rfl⟩)
        | (go_at_call 64; (with_reducible refine (HRT.out _).mono ?_); rintro e u ⟨rfl, hbu⟩; obtain ⟨x2, hx2⟩ := x1.on hbu; subst hx2; clear hbu))
      go_roundw
      case rel => exact ⟨rfl, k + 1, x2, by omega, by go_num, rfl⟩
      case measure => simp [intOf]; omega
    · obtain rfl : k = b.lots.length := by omega
      go_wp2_with fail
      go_ret
      exact ⟨rfl, x.base HE.out⟩
end Go.Proofs.Ytajkgfeockcbpaa
