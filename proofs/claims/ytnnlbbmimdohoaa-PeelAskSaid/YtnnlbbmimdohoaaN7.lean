/- The knot that is asked for: the law returns true, whatever the log and the number. -/
import Derived.Test.YtnnlbbmimdohoaaT8
namespace Go.Proofs.Ytnnlbbmimdohoaa
open Go.RowKit Go.Maps
attribute [local go_sem] Oper.semAt_some

/-- What the region of the two calls keeps. -/
structure AInv (p1 : Option Addr) (c1 : Nat) (p2 : Option Addr) (c2 : Nat) (long : List Int) (sz : Int) (ks : List K4) (l : Nat) (w0 w : World) : Prop where
  rl : Row w l #[.slice p1 long.length c1, .int .i64 sz, .slice p2 ks.length c2] 25
  hl : LogAt w p1 p2 long ks
  hb : Below w0.heap.size w0 w
section
variable {p1 : Option Addr} {c1 : Nat} {p2 : Option Addr} {c2 : Nat} {long : List Int} {sz : Int} {ks : List K4} {l : Nat} {w0 w w' : World}
theorem AInv.below (h : AInv p1 c1 p2 c2 long sz ks l w0 w) (hb : Below w.heap.size w w') : AInv p1 c1 p2 c2 long sz ks l w0 w' := ⟨h.rl.below hb h.rl.lt, h.hl.below hb, h.hb.trans (hb.mono h.hb.size)⟩
theorem AInv.drew (h : AInv p1 c1 p2 c2 long sz ks l w0 w) : AInv p1 c1 p2 c2 long sz ks l w0 w.drew := ⟨h.rl.drew, ⟨h.hl.l, h.hl.k, h.hl.b1, h.hl.b2⟩, h.hb.drew⟩
theorem AInv.s (h : AInv p1 c1 p2 c2 long sz ks l w0 w) : w.cell? ⟨l, 0, none⟩ = some (.slice p1 long.length c1) ∧ w.cell? ⟨l, 1, none⟩ = some (.int .i64 sz) ∧ w.cell? ⟨l, 2, none⟩ = some (.slice p2 ks.length c2) := ⟨h.rl.cell 0 rfl, h.rl.cell 1 rfl, h.rl.cell 2 rfl⟩
end

set_option maxRecDepth 10000 in
set_option maxHeartbeats 1600000 in
theorem PeelAsk_any (p1 : Option Addr) (c1 : Nat) (p2 : Option Addr) (c2 : Nat) (long : List Int) (sz : Int) (ks : List K4) (w0 : World) (h : LogAt w0 p1 p2 long ks) (hcap : ks.length ≤ c2) (n : Int) :
    Calls Try.prog 13 #[.agg #[.slice p1 long.length c1, .int .i64 sz, .slice p2 ks.length c2], .int .i64 n] w0 fun e w' => e = .returned (.bool true) ∧ Below w0.heap.size w0 w' := by
  go_enter Try.func13, Try.ntmps13
  have hba := below_alloc w0 (.cells #[.slice p1 long.length c1, .int .i64 sz, .slice p2 ks.length c2] 25)
  have r0 := Row.new w0 #[.slice p1 long.length c1, .int .i64 sz, .slice p2 ks.length c2] 25
  have HH := Lib.hid (h.below hba)
  clear h
  cases hb : validB long sz ks
  · go_wp2_with (first | (refine (sound_no p1 c1 p2 c2 long sz ks _ HH.out hb).mono ?_; rintro e w1 ⟨rfl, hb1⟩; have HB := Lib.hid (hba.trans (hb1.mono (by simp <;> omega))); clear hb1) | (refine (peeled_any _).mono ?_; rintro e w2 ⟨rfl, hb2⟩))
    go_ret
    exact ⟨rfl, HB.out.trans (hb2.mono HB.out.size)⟩
  · have hok := valid_ok hb
    have hk3 := hok.k3
    by_cases h0 : ks.length = 0
    · have hk2 : decide ((ks.length : Int) = 0) = true := by simp; simpa using h0
      have hk2' : ((ks.length : Int) == 0) = true := by rw [h0]; rfl
      have HK0 := Lib.hid h0
      clear h0
      go_wp2_with fail
      refine (sound_yes p1 c1 p2 c2 long sz ks _ HH.out hb).mono ?_
      rintro e w1 ⟨rfl, hb1⟩
      have hs1' := hb1.size
      simp at hs1'
      have R1 := Lib.hid (r0.below hb1 (by simp))
      have B1 := Lib.hid (hba.trans (hb1.mono (by simp)))
      clear hb1 hba r0 HH
      have k2 := R1.out.cell 2 (v := .slice p2 ks.length c2) rfl
      go_wp2_with (first | (refine (peeled_any _).mono ?_; rintro e w2 ⟨rfl, hb2⟩))
      all_goals first | (go_ret; exact ⟨rfl, B1.out.trans (hb2.mono B1.out.size)⟩) | (exfalso; have := HK0.out; omega)
    · have hk2 : ((ks.length : Int) == 0) = false := by simp; simpa using h0
      obtain ⟨a, hask, hal, hamax, hafirst⟩ := ask_ok (long := long) (sz := sz) (ks := ks) (by omega)
      have HASK := Lib.hid hask
      have hsp := spin_range n ks.length (by omega)
      obtain ⟨k, hkk⟩ : ∃ k : Nat, spin n ks.length = k := ⟨(spin n ks.length).toNat, by omega⟩
      have hkl : k < ks.length := by omega
      have HSP := Lib.hid hkk
      have hbw := best_worst hok hal
      have hm1 := hamax k hkl
      have hm2 : k < a → worstD long sz ks k < worstD long sz ks a := hafirst k
      have HWA := Lib.hid (fun w hl => by have h := lawworst_any p1 c1 p2 c2 long sz ks w hl hb a hal; rw [leastI_worst hok hal] at h; exact h : ∀ w, LogAt w p1 p2 long ks → Calls Try.prog 51 #[.agg #[.slice p1 long.length c1, .int .i64 sz, .slice p2 ks.length c2], .int .i64 a] w fun e w' => e = .returned (.int .i64 (worstD long sz ks a)) ∧ Below w.heap.size w w')
      have HWK := Lib.hid (fun w hl => by have h := lawworst_any p1 c1 p2 c2 long sz ks w hl hb k hkl; rw [leastI_worst hok hkl] at h; exact h : ∀ w, LogAt w p1 p2 long ks → Calls Try.prog 51 #[.agg #[.slice p1 long.length c1, .int .i64 sz, .slice p2 ks.length c2], .int .i64 k] w fun e w' => e = .returned (.int .i64 (worstD long sz ks k)) ∧ Below w.heap.size w w')
      have HAG := Lib.hid (fun w hl => by have h := Ask_good p1 c1 p2 c2 long sz ks w hl hb (by omega) hcap; rw [hask] at h; exact h : ∀ w, LogAt w p1 p2 long ks → Calls Try.prog 37 #[.agg #[.slice p1 long.length c1, .int .i64 sz, .slice p2 ks.length c2]] w fun e w' => e = .returned (.tuple #[.int .i64 (a : Int), .int .i64 0]) ∧ Below w.heap.size w w')
      clear hask hkk hamax hafirst hsp
      generalize worstD long sz ks a = x at *
      generalize worstD long sz ks k = y at *
      go_wp2_with fail
      refine (sound_yes p1 c1 p2 c2 long sz ks _ HH.out hb).mono ?_
      rintro e w1 ⟨rfl, hb1⟩
      have hs1' := hb1.size
      simp at hs1'
      have A1 := Lib.hid (AInv.mk (r0.below hb1 (by simp)) (HH.out.below hb1) (hba.trans (hb1.mono (by simp))))
      clear hb1 hba r0 HH
      have k2 := A1.out.rl.cell 2 (v := .slice p2 ks.length c2) rfl
      go_wp2_with (first | (refine load_row rfl 25 _ rfl _ rfl 25 _ _ A1.out.rl Try.underlying25 rfl (by kernel_rfl) ?_))
      refine (HAG.out _ A1.out.hl).mono ?_
      rintro e w2 ⟨rfl, hb2⟩
      have A2 := Lib.hid (A1.out.below hb2)
      clear hb2 k2 A1
      go_wp2_with (first | (refine load_row rfl 25 _ rfl _ rfl 25 _ _ A2.out.rl Try.underlying25 rfl (by kernel_rfl) ?_))
      refine (Best_good p1 c1 p2 c2 long sz ks _ A2.out.hl hb).mono ?_
      generalize bestD long sz ks = best at *
      rintro e w3 ⟨pb, cb, rfl, _, hb3⟩
      have A3 := Lib.hid (A2.out.below hb3)
      clear hb3 A2
      have k2 := A3.out.rl.cell 2 (v := .slice p2 ks.length c2) rfl
      have HSPN := Lib.hid (show Calls Try.prog 49 #[.int .i64 n, .int .i64 (ks.length : Int)] w3 fun e w' => e = .returned (.int .i64 (k : Int)) ∧ w3 = w' from by have h := Spin_any n ks.length w3 ⟨by omega, by omega⟩; rw [HSP.out] at h; exact h)
      go_wp2_with (first | (refine (Fits_yes _ _ _ _ (by omega) (by omega)).mono ?_; rintro e u ⟨rfl, rfl⟩) | (refine HSPN.out.mono ?_; rintro e u ⟨rfl, rfl⟩))
      have A4 := Lib.hid A3.out.drew
      have hs0 := A3.out.s
      clear k2 HSPN A3
      go_cut [10, 11] from 12 to 79 (fun s10 s11 wx => s10 = .int .i64 x ∧ s11 = .int .i64 y ∧ Below w0.heap.size w0 wx)
      case first =>
        go_region_held3 (fun w' => w'.cell? ⟨w0.heap.size, 0, none⟩ = some (.slice p1 long.length c1) ∧ w'.cell? ⟨w0.heap.size, 1, none⟩ = some (.int .i64 sz) ∧ w'.cell? ⟨w0.heap.size, 2, none⟩ = some (.slice p2 ks.length c2)) (first | exact hs0 | exact A4.out.s)
          (first | (with_reducible refine (HWA.out _ A4.out.hl).mono ?_; rintro e u ⟨rfl, hbu⟩; have A4 := Lib.hid (A4.out.below hbu)) | (with_reducible refine (HWK.out _ A4.out.hl).mono ?_; rintro e u ⟨rfl, hbu⟩; have A4 := Lib.hid (A4.out.below hbu)))
        all_goals
          go_wp2_with fail
          go_meet
          exact ⟨rfl, rfl, A4.out.hb⟩
      case rest =>
        obtain ⟨rfl, rfl, cb⟩ := hcut
        have CB := Lib.hid cb
        clear cb A4 hs0
        by_cases hxy : y < x
        · clear hm1 hm2
          go_wp2_with (first | (refine (peeled_any _).mono ?_; rintro e w8 ⟨rfl, hb8⟩))
          go_ret
          exact ⟨rfl, CB.out.trans (hb8.mono CB.out.size)⟩
        · have hak : a ≤ k := by
            rcases Nat.lt_or_ge k a with h | h
            · exact absurd (hm2 h) hxy
            · exact h
          obtain rfl : x = y := by omega
          clear hm1 hm2
          go_wp2_with (first | (refine (peeled_any _).mono ?_; rintro e w8 ⟨rfl, hb8⟩))
          go_ret
          exact ⟨rfl, CB.out.trans (hb8.mono CB.out.size)⟩
end Go.Proofs.Ytnnlbbmimdohoaa
