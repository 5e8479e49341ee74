/- The walks of layer 6: one lot more, all lots, those of which something is so. -/
import Derived.Test.YtajkgfeockcbpaaY8
namespace Go.Proofs.Ytajkgfeockcbpaa
open Go.RowKit Go.Maps
attribute [local go_sem] Oper.semAt_some

theorem below_setRow' {n : Nat} {w W : World} (h : Below n w W) {g : Nat} (hg : n ≤ g) (cs : Array Value) : Below n w (W.setRow g cs) := below_setRow h hg cs
theorem one_lotF (c : Nat → Bool) : (lotF c).all (·.oneCell') = true := by simp [lotF, Value.oneCell']
theorem withF_eq (c : Nat → Bool) (k : Nat) : withF c k = fun i => if i = k then true else c i := rfl
set_option maxRecDepth 10000 in
set_option maxHeartbeats 1600000 in
theorem with_any (c : Nat → Bool) (k : Nat) (hk : k < 7) (w : World) : Calls Try.prog 113 #[.agg (lotF c), .int .i64 (k : Int)] w fun e w' => e = .returned (.agg (lotF (withF c k))) ∧ Below w.heap.size w w' := by
  obtain ⟨W0, hW0⟩ : ∃ W, W = (w.alloc (.cells (lotF c) 99)).alloc (.cells noneA 99) := ⟨_, rfl⟩
  have HW0 := Lib.hid hW0
  have HE := Lib.hid (show Below w.heap.size w W0 by rw [hW0]; exact below_alloc2 _ _ _)
  have HC := Lib.hid (show Row W0 w.heap.size (lotF c) 99 by rw [hW0]; exact (Row.new _ _ _).alloc _)
  have HZ := Lib.hid (show Row W0 (w.heap.size + 1) noneA 99 by rw [hW0]; exact Row.new1 _ _ _ _)
  clear hW0
  have a0 := HC.out.cell k (lotF_at _ hk)
  have a1 := HC.out.free k
  have i1 : (0 : Int) ≤ (k : Int) := by omega
  have i2 : (k : Int) < 7 := by omega
  have HC2 := Lib.hid (by have h := HC.out.set k (.bool true); rw [lotF_set c hk] at h; exact h : Row (W0.setCell ⟨w.heap.size, k, none⟩ (.bool true)) w.heap.size (lotF (withF c k)) 99)
  have HZ2 := Lib.hid (HZ.out.set_other ⟨w.heap.size, k, none⟩ (.bool true) (by dsimp only; omega))
  have HE2 := Lib.hid (show Below w.heap.size w (W0.setCell ⟨w.heap.size, k, none⟩ (.bool true)) from HE.out.setCell (by dsimp only; omega) _)
  go_enter Try.func113, Try.ntmps113
  go_upto_region 1 with (fail)
  rw [← HW0.out]
  go_upto_region 2 with (fail)
  change Code.wp _ _ _ _ (W0.setCell ⟨w.heap.size, k, none⟩ (.bool true))
  generalize W0.setCell ⟨w.heap.size, k, none⟩ (.bool true) = W1 at *
  obtain ⟨ck, hck⟩ : ∃ x, withF c k = x := ⟨_, rfl⟩
  have HAG := Lib.hid hck
  rw [hck] at HC2
  clear hck
  clear a0 a1
  go_wp2_with (first
    | (refine load_row rfl 99 _ rfl w.heap.size rfl 99 (lotF ck) _ HC2.out Try.underlying99 rfl (by kernel_rfl) ?_)
    | (refine store_row rfl 99 _ _ rfl (w.heap.size + 1) (lotF ck) noneA 99 rfl rfl HZ2.out (by kernel_rfl) rfl (one_lotF _) ?_))
  exact bodyPost_ret (v := .agg (lotF ck)) (results_cell_row Try.results113 _ _ _ _ _ _ _ rfl (HZ2.out.setRow (lotF ck)) Try.underlying99 rfl (by kernel_rfl)) rfl ⟨by rw [HAG.out], below_setRow' HE2.out (by omega) _⟩
theorem all_succ {k : Nat} (_n : Nat) : (fun i => if i = k then true else decide (i < k)) = fun i => decide (i < k + 1) := by
  funext i
  by_cases h : i = k
  · simp [h]
  · simp only [if_neg h]
    exact decide_eq_decide.2 (by omega)
set_option maxRecDepth 10000 in
set_option maxHeartbeats 1600000 in
theorem all_any (b : Yb) (P : Yp) (mb : Nat) (hn : b.lots.length ≤ 7) (w : World) : Calls Try.prog 105 #[.agg (ykA b P mb)] w fun e w' => e = .returned (.agg (lotF (allF b))) ∧ Below w.heap.size w w' := by
  obtain ⟨W0, hW0⟩ : ∃ W, W = ((w.alloc (.cells (ykA b P mb) 83)).alloc (.cells noneA 99)).alloc (.cells noneA 99) := ⟨_, rfl⟩
  have HW0 := Lib.hid hW0
  have HE := Lib.hid (show Below w.heap.size w W0 by rw [hW0]; exact below_alloc3 _ _ _ _)
  have HZ := Lib.hid (show Row W0 (w.heap.size + 1) noneA 99 by rw [hW0]; exact (Row.new1 _ _ _ _).alloc _)
  have HA := Lib.hid (show Row W0 (w.heap.size + 1 + 1) (lotF fun i => decide (i < 0)) 99 by rw [hW0]; exact Row.new2 _ _ _ _ _)
  have c0 := (show Row W0 w.heap.size (ykA b P mb) 83 by rw [hW0]; exact ((Row.new _ _ _).alloc _).alloc _).cell 0 (v := .slice P.pl b.lots.length P.cl) rfl
  clear hW0
  have HAF := Lib.hid (show (fun i => decide (i < b.lots.length)) = allF b from rfl)
  go_enter Try.func105, Try.ntmps105
  go_upto_region 2 with (fail)
  rw [← HW0.out]
  go_wp2_with fail
  clear c0
  go_loopw [9] (fun ix wr => ∃ k : Nat, k ≤ b.lots.length ∧ ix = .int .i64 k ∧ Row wr (w.heap.size + 1 + 1) (lotF fun i => decide (i < k)) 99 ∧ Row wr (w.heap.size + 1) noneA 99 ∧ Below w.heap.size w wr) (fun ix _ => b.lots.length - (intOf ix).toNat)
  case atStart => exact ⟨0, by omega, rfl, HA.out, HZ.out, HE.out⟩
  case round =>
    obtain ⟨k, hk, rfl, ha, hd, he⟩ := hrel
    by_cases hlt : k < b.lots.length
    · have a0 := ha.cell k (lotF_at _ (by omega))
      have a1 := ha.free k
      have i1 : (0 : Int) ≤ (k : Int) := by omega
      have i2 : (k : Int) < 7 := by omega
      have HA2 := Lib.hid (by have h := ha.set k (.bool true); rw [lotF_set _ (by omega), all_succ k] at h; exact h : Row (wr.setCell ⟨w.heap.size + 1 + 1, k, none⟩ (.bool true)) (w.heap.size + 1 + 1) (lotF fun i => decide (i < k + 1)) 99)
      have HD2 := Lib.hid (hd.set_other ⟨w.heap.size + 1 + 1, k, none⟩ (.bool true) (by dsimp only; omega))
      have HE2 := Lib.hid (show Below w.heap.size w (wr.setCell ⟨w.heap.size + 1 + 1, k, none⟩ (.bool true)) from he.setCell (by dsimp only; omega) _)
      clear ha hd he
      go_wp2_with fail
      go_roundw
      case rel => exact ⟨k + 1, by omega, by go_num, HA2.out, HD2.out, HE2.out⟩
      case measure => simp [intOf]; omega
    · obtain rfl : k = b.lots.length := by omega
      have HA2 := Lib.hid ha
      have HD2 := Lib.hid hd
      have HE2 := Lib.hid he
      clear ha hd he
      rw [HAF.out] at HA2
      obtain ⟨af, haf⟩ : ∃ x, allF b = x := ⟨_, rfl⟩
      have HAG := Lib.hid haf
      rw [haf] at HA2
      clear haf
      go_wp2_with (first
        | (refine load_row rfl 99 _ rfl (w.heap.size + 1 + 1) rfl 99 (lotF af) _ HA2.out Try.underlying99 rfl (by kernel_rfl) ?_)
        | (refine store_row rfl 99 _ _ rfl (w.heap.size + 1) (lotF af) noneA 99 rfl rfl HD2.out (by kernel_rfl) rfl (one_lotF _) ?_))
      exact bodyPost_ret (v := .agg (lotF af)) (results_cell_row Try.results105 _ _ _ _ _ _ _ rfl (HD2.out.setRow (lotF af)) Try.underlying99 rfl (by kernel_rfl)) rfl ⟨by rw [HAG.out], below_setRow' HE2.out (by omega) _⟩
/-- The lots of which something was asked so far, and the others as they were. -/
def mixF (c f : Nat → Bool) (k : Nat) : Nat → Bool := fun i => if i < k then c i && f i else c i
theorem mixF_zero (c f : Nat → Bool) : mixF c f 0 = c := by funext i; simp [mixF]
theorem mixF_all (c f : Nat → Bool) : lotF (mixF c f 7) = lotF (fun i => c i && f i) := lotF_congr fun i hi => by simp [mixF, hi]
theorem mixF_set (c f : Nat → Bool) {k : Nat} (hk : k < 7) : (lotF (mixF c f k)).setIfInBounds k (.bool (c k && f k)) = lotF (mixF c f (k + 1)) := by
  rw [lotF_set _ hk]
  refine lotF_congr fun i _ => ?_
  unfold mixF
  by_cases h : i = k
  · subst h; simp
  · by_cases h2 : i < k
    · simp [h, h2, show i < k + 1 by omega]
    · simp [h, h2, show ¬ i < k + 1 by omega]
set_option maxRecDepth 10000 in
set_option maxHeartbeats 1600000 in
theorem only_unserved (b : Yb) (P : Yp) (mb : Nat) (k : Bool) (c f : Nat → Bool) (w : World) (hc : ∀ i, i < 7 → c i = true → ∀ w', Below w.heap.size w w' → Calls Try.prog 115 #[.agg (trA b P mb k), .int .i64 (i : Int)] w' fun e w'' => e = .returned (.bool (f i)) ∧ Below w'.heap.size w' w'') :
    Calls Try.prog 111 #[.agg (lotF c), .func (.func 115) #[.agg (trA b P mb k)] #[]] w fun e w' => e = .returned (.agg (lotF (fun i => c i && f i))) ∧ Below w.heap.size w w' := by
  obtain ⟨W0, hW0⟩ : ∃ W, W = (w.alloc (.cells (lotF c) 99)).alloc (.cells noneA 99) := ⟨_, rfl⟩
  have HW0 := Lib.hid hW0
  have HE := Lib.hid (show Below w.heap.size w W0 by rw [hW0]; exact below_alloc2 _ _ _)
  have HA := Lib.hid (show Row W0 w.heap.size (lotF c) 99 by rw [hW0]; exact (Row.new _ _ _).alloc _)
  have HZ := Lib.hid (show Row W0 (w.heap.size + 1) noneA 99 by rw [hW0]; exact Row.new1 _ _ _ _)
  clear hW0
  have HC := Lib.hid hc
  clear hc
  go_enter Try.func111, Try.ntmps111
  go_upto_region 1 with (fail)
  rw [← HW0.out]
  go_wp2_with (first
    | (refine load_row rfl 99 _ rfl w.heap.size rfl 99 (lotF c) _ HA.out Try.underlying99 rfl (by kernel_rfl) ?_))
  go_loopw [8] (fun ix wr => ∃ k : Nat, k ≤ 7 ∧ ix = .int .i64 k ∧ Row wr w.heap.size (lotF (mixF c f k)) 99 ∧ Row wr (w.heap.size + 1) noneA 99 ∧ Below w.heap.size w wr) (fun ix _ => 7 - (intOf ix).toNat)
  case atStart => exact ⟨0, by omega, rfl, by rw [mixF_zero]; exact HA.out, HZ.out, HE.out⟩
  case round =>
    obtain ⟨n, hn, rfl, ha, hd, he⟩ := hrel
    by_cases hlt : n < 7
    · have HI := Lib.hid (fun w' => lots_index c hlt w')
      have i1 : (0 : Int) ≤ (n : Int) := by omega
      have i2 : (n : Int) < 7 := by omega
      have HS := Lib.hid (mixF_set c f hlt)
      have HAT := Lib.hid (lotF_at (mixF c f n) hlt)
      have HA1 := Lib.hid ha
      have HD1 := Lib.hid hd
      have HE1 := Lib.hid he
      have HCC := Lib.hid (HC.out n hlt)
      clear ha hd he
      cases hd : c n
      · rw [hd] at HI HS
        rw [Bool.false_and] at HS
        have a0 := HA1.out.cell n HAT.out
        have a1 := HA1.out.free n
        have HA2 := Lib.hid (by have h := HA1.out.set n (.bool false); rw [HS.out] at h; exact h : Row (wr.setCell ⟨w.heap.size, n, none⟩ (.bool false)) w.heap.size (lotF (mixF c f (n + 1))) 99)
        have HD2 := Lib.hid (HD1.out.set_other ⟨w.heap.size, n, none⟩ (.bool false) (by dsimp only; omega))
        have HE2 := Lib.hid (show Below w.heap.size w (wr.setCell ⟨w.heap.size, n, none⟩ (.bool false)) from HE1.out.setCell (by dsimp only; omega) _)
        clear hd
        go_wp2_with (first | (refine index_op rfl 99 _ _ rfl (lotF c) _ rfl rfl _ (HI.out _) ?_))
        go_roundw
        case rel => exact ⟨n + 1, by omega, by go_num, HA2.out, HD2.out, HE2.out⟩
        case measure => simp [intOf]; omega
      · rw [hd] at HI HS
        rw [Bool.true_and] at HS
        have HCW := Lib.hid (HCC.out hd wr HE1.out)
        clear hd
        go_wp2_with (first | (refine index_op rfl 99 _ _ rfl (lotF c) _ rfl rfl _ (HI.out _) ?_))
        refine HCW.out.mono ?_
        rintro e u ⟨rfl, hbu⟩
        have HA3 := Lib.hid (HA1.out.below hbu HA1.out.lt)
        have HD3 := Lib.hid (HD1.out.below hbu HD1.out.lt)
        have HE3 := Lib.hid (HE1.out.trans (hbu.mono HE1.out.size))
        clear hbu
        have a0 := HA3.out.cell n HAT.out
        have a1 := HA3.out.free n
        have HA2 := Lib.hid (by have h := HA3.out.set n (.bool (f n)); rw [HS.out] at h; exact h : Row (u.setCell ⟨w.heap.size, n, none⟩ (.bool (f n))) w.heap.size (lotF (mixF c f (n + 1))) 99)
        have HD2 := Lib.hid (HD3.out.set_other ⟨w.heap.size, n, none⟩ (.bool (f n)) (by dsimp only; omega))
        have HE2 := Lib.hid (show Below w.heap.size w (u.setCell ⟨w.heap.size, n, none⟩ (.bool (f n))) from HE3.out.setCell (by dsimp only; omega) _)
        generalize f n = fn at *
        go_wp2_with fail
        go_roundw
        case rel => exact ⟨n + 1, by omega, by go_num, HA2.out, HD2.out, HE2.out⟩
        case measure => simp [intOf]; omega
    · obtain rfl : n = 7 := by omega
      have HA2 := Lib.hid ha
      have HD2 := Lib.hid hd
      have HE2 := Lib.hid he
      clear ha hd he
      rw [mixF_all] at HA2
      obtain ⟨cf, hcf⟩ : ∃ x, (fun i => c i && f i) = x := ⟨_, rfl⟩
      have HAG := Lib.hid hcf
      rw [hcf] at HA2
      clear hcf
      go_wp2_with (first
        | (refine load_row rfl 99 _ rfl w.heap.size rfl 99 (lotF cf) _ HA2.out Try.underlying99 rfl (by kernel_rfl) ?_)
        | (refine store_row rfl 99 _ _ rfl (w.heap.size + 1) (lotF cf) noneA 99 rfl rfl HD2.out (by kernel_rfl) rfl (one_lotF _) ?_))
      exact bodyPost_ret (v := .agg (lotF cf)) (results_cell_row Try.results111 _ _ _ _ _ _ _ rfl (HD2.out.setRow (lotF cf)) Try.underlying99 rfl (by kernel_rfl)) rfl ⟨by rw [HAG.out], below_setRow' HE2.out (by omega) _⟩
set_option maxRecDepth 10000 in
set_option maxHeartbeats 1600000 in
theorem only_served (b : Yb) (P : Yp) (mb : Nat) (k : Bool) (c f : Nat → Bool) (w : World) (hc : ∀ i, i < 7 → c i = true → ∀ w', Below w.heap.size w w' → Calls Try.prog 66 #[.agg (trA b P mb k), .int .i64 (i : Int)] w' fun e w'' => e = .returned (.bool (f i)) ∧ Below w'.heap.size w' w'') :
    Calls Try.prog 111 #[.agg (lotF c), .func (.func 66) #[.agg (trA b P mb k)] #[]] w fun e w' => e = .returned (.agg (lotF (fun i => c i && f i))) ∧ Below w.heap.size w w' := by
  obtain ⟨W0, hW0⟩ : ∃ W, W = (w.alloc (.cells (lotF c) 99)).alloc (.cells noneA 99) := ⟨_, rfl⟩
  have HW0 := Lib.hid hW0
  have HE := Lib.hid (show Below w.heap.size w W0 by rw [hW0]; exact below_alloc2 _ _ _)
  have HA := Lib.hid (show Row W0 w.heap.size (lotF c) 99 by rw [hW0]; exact (Row.new _ _ _).alloc _)
  have HZ := Lib.hid (show Row W0 (w.heap.size + 1) noneA 99 by rw [hW0]; exact Row.new1 _ _ _ _)
  clear hW0
  have HC := Lib.hid hc
  clear hc
  go_enter Try.func111, Try.ntmps111
  go_upto_region 1 with (fail)
  rw [← HW0.out]
  go_wp2_with (first
    | (refine load_row rfl 99 _ rfl w.heap.size rfl 99 (lotF c) _ HA.out Try.underlying99 rfl (by kernel_rfl) ?_))
  go_loopw [8] (fun ix wr => ∃ k : Nat, k ≤ 7 ∧ ix = .int .i64 k ∧ Row wr w.heap.size (lotF (mixF c f k)) 99 ∧ Row wr (w.heap.size + 1) noneA 99 ∧ Below w.heap.size w wr) (fun ix _ => 7 - (intOf ix).toNat)
  case atStart => exact ⟨0, by omega, rfl, by rw [mixF_zero]; exact HA.out, HZ.out, HE.out⟩
  case round =>
    obtain ⟨n, hn, rfl, ha, hd, he⟩ := hrel
    by_cases hlt : n < 7
    · have HI := Lib.hid (fun w' => lots_index c hlt w')
      have i1 : (0 : Int) ≤ (n : Int) := by omega
      have i2 : (n : Int) < 7 := by omega
      have HS := Lib.hid (mixF_set c f hlt)
      have HAT := Lib.hid (lotF_at (mixF c f n) hlt)
      have HA1 := Lib.hid ha
      have HD1 := Lib.hid hd
      have HE1 := Lib.hid he
      have HCC := Lib.hid (HC.out n hlt)
      clear ha hd he
      cases hd : c n
      · rw [hd] at HI HS
        rw [Bool.false_and] at HS
        have a0 := HA1.out.cell n HAT.out
        have a1 := HA1.out.free n
        have HA2 := Lib.hid (by have h := HA1.out.set n (.bool false); rw [HS.out] at h; exact h : Row (wr.setCell ⟨w.heap.size, n, none⟩ (.bool false)) w.heap.size (lotF (mixF c f (n + 1))) 99)
        have HD2 := Lib.hid (HD1.out.set_other ⟨w.heap.size, n, none⟩ (.bool false) (by dsimp only; omega))
        have HE2 := Lib.hid (show Below w.heap.size w (wr.setCell ⟨w.heap.size, n, none⟩ (.bool false)) from HE1.out.setCell (by dsimp only; omega) _)
        clear hd
        go_wp2_with (first | (refine index_op rfl 99 _ _ rfl (lotF c) _ rfl rfl _ (HI.out _) ?_))
        go_roundw
        case rel => exact ⟨n + 1, by omega, by go_num, HA2.out, HD2.out, HE2.out⟩
        case measure => simp [intOf]; omega
      · rw [hd] at HI HS
        rw [Bool.true_and] at HS
        have HCW := Lib.hid (HCC.out hd wr HE1.out)
        clear hd
        go_wp2_with (first | (refine index_op rfl 99 _ _ rfl (lotF c) _ rfl rfl _ (HI.out _) ?_))
        refine HCW.out.mono ?_
        rintro e u ⟨rfl, hbu⟩
        have HA3 := Lib.hid (HA1.out.below hbu HA1.out.lt)
        have HD3 := Lib.hid (HD1.out.below hbu HD1.out.lt)
        have HE3 := Lib.hid (HE1.out.trans (hbu.mono HE1.out.size))
        clear hbu
        have a0 := HA3.out.cell n HAT.out
        have a1 := HA3.out.free n
        have HA2 := Lib.hid (by have h := HA3.out.set n (.bool (f n)); rw [HS.out] at h; exact h : Row (u.setCell ⟨w.heap.size, n, none⟩ (.bool (f n))) w.heap.size (lotF (mixF c f (n + 1))) 99)
        have HD2 := Lib.hid (HD3.out.set_other ⟨w.heap.size, n, none⟩ (.bool (f n)) (by dsimp only; omega))
        have HE2 := Lib.hid (show Below w.heap.size w (u.setCell ⟨w.heap.size, n, none⟩ (.bool (f n))) from HE3.out.setCell (by dsimp only; omega) _)
        generalize f n = fn at *
        go_wp2_with fail
        go_roundw
        case rel => exact ⟨n + 1, by omega, by go_num, HA2.out, HD2.out, HE2.out⟩
        case measure => simp [intOf]; omega
    · obtain rfl : n = 7 := by omega
      have HA2 := Lib.hid ha
      have HD2 := Lib.hid hd
      have HE2 := Lib.hid he
      clear ha hd he
      rw [mixF_all] at HA2
      obtain ⟨cf, hcf⟩ : ∃ x, (fun i => c i && f i) = x := ⟨_, rfl⟩
      have HAG := Lib.hid hcf
      rw [hcf] at HA2
      clear hcf
      go_wp2_with (first
        | (refine load_row rfl 99 _ rfl w.heap.size rfl 99 (lotF cf) _ HA2.out Try.underlying99 rfl (by kernel_rfl) ?_)
        | (refine store_row rfl 99 _ _ rfl (w.heap.size + 1) (lotF cf) noneA 99 rfl rfl HD2.out (by kernel_rfl) rfl (one_lotF _) ?_))
      exact bodyPost_ret (v := .agg (lotF cf)) (results_cell_row Try.results111 _ _ _ _ _ _ _ rfl (HD2.out.setRow (lotF cf)) Try.underlying99 rfl (by kernel_rfl)) rfl ⟨by rw [HAG.out], below_setRow' HE2.out (by omega) _⟩
set_option maxRecDepth 10000 in
set_option maxHeartbeats 1600000 in
theorem only_more (p1 p2 : Nat) (c f : Nat → Bool) (w : World) (hc : ∀ i, i < 7 → c i = true → ∀ w', Below w.heap.size w w' → Calls Try.prog 112 #[.int .i64 (i : Int), .pointer (some ⟨p1, 0, none⟩), .pointer (some ⟨p2, 0, none⟩)] w' fun e w'' => e = .returned (.bool (f i)) ∧ Below w'.heap.size w' w'') :
    Calls Try.prog 111 #[.agg (lotF c), .func (.func 112) #[] #[.pointer (some ⟨p1, 0, none⟩), .pointer (some ⟨p2, 0, none⟩)]] w fun e w' => e = .returned (.agg (lotF (fun i => c i && f i))) ∧ Below w.heap.size w w' := by
  obtain ⟨W0, hW0⟩ : ∃ W, W = (w.alloc (.cells (lotF c) 99)).alloc (.cells noneA 99) := ⟨_, rfl⟩
  have HW0 := Lib.hid hW0
  have HE := Lib.hid (show Below w.heap.size w W0 by rw [hW0]; exact below_alloc2 _ _ _)
  have HA := Lib.hid (show Row W0 w.heap.size (lotF c) 99 by rw [hW0]; exact (Row.new _ _ _).alloc _)
  have HZ := Lib.hid (show Row W0 (w.heap.size + 1) noneA 99 by rw [hW0]; exact Row.new1 _ _ _ _)
  clear hW0
  have HC := Lib.hid hc
  clear hc
  go_enter Try.func111, Try.ntmps111
  go_upto_region 1 with (fail)
  rw [← HW0.out]
  go_wp2_with (first
    | (refine load_row rfl 99 _ rfl w.heap.size rfl 99 (lotF c) _ HA.out Try.underlying99 rfl (by kernel_rfl) ?_))
  go_loopw [8] (fun ix wr => ∃ k : Nat, k ≤ 7 ∧ ix = .int .i64 k ∧ Row wr w.heap.size (lotF (mixF c f k)) 99 ∧ Row wr (w.heap.size + 1) noneA 99 ∧ Below w.heap.size w wr) (fun ix _ => 7 - (intOf ix).toNat)
  case atStart => exact ⟨0, by omega, rfl, by rw [mixF_zero]; exact HA.out, HZ.out, HE.out⟩
  case round =>
    obtain ⟨n, hn, rfl, ha, hd, he⟩ := hrel
    by_cases hlt : n < 7
    · have HI := Lib.hid (fun w' => lots_index c hlt w')
      have i1 : (0 : Int) ≤ (n : Int) := by omega
      have i2 : (n : Int) < 7 := by omega
      have HS := Lib.hid (mixF_set c f hlt)
      have HAT := Lib.hid (lotF_at (mixF c f n) hlt)
      have HA1 := Lib.hid ha
      have HD1 := Lib.hid hd
      have HE1 := Lib.hid he
      have HCC := Lib.hid (HC.out n hlt)
      clear ha hd he
      cases hd : c n
      · rw [hd] at HI HS
        rw [Bool.false_and] at HS
        have a0 := HA1.out.cell n HAT.out
        have a1 := HA1.out.free n
        have HA2 := Lib.hid (by have h := HA1.out.set n (.bool false); rw [HS.out] at h; exact h : Row (wr.setCell ⟨w.heap.size, n, none⟩ (.bool false)) w.heap.size (lotF (mixF c f (n + 1))) 99)
        have HD2 := Lib.hid (HD1.out.set_other ⟨w.heap.size, n, none⟩ (.bool false) (by dsimp only; omega))
        have HE2 := Lib.hid (show Below w.heap.size w (wr.setCell ⟨w.heap.size, n, none⟩ (.bool false)) from HE1.out.setCell (by dsimp only; omega) _)
        clear hd
        go_wp2_with (first | (refine index_op rfl 99 _ _ rfl (lotF c) _ rfl rfl _ (HI.out _) ?_))
        go_roundw
        case rel => exact ⟨n + 1, by omega, by go_num, HA2.out, HD2.out, HE2.out⟩
        case measure => simp [intOf]; omega
      · rw [hd] at HI HS
        rw [Bool.true_and] at HS
        have HCW := Lib.hid (HCC.out hd wr HE1.out)
        clear hd
        go_wp2_with (first | (refine index_op rfl 99 _ _ rfl (lotF c) _ rfl rfl _ (HI.out _) ?_))
        refine HCW.out.mono ?_
        rintro e u ⟨rfl, hbu⟩
        have HA3 := Lib.hid (HA1.out.below hbu HA1.out.lt)
        have HD3 := Lib.hid (HD1.out.below hbu HD1.out.lt)
        have HE3 := Lib.hid (HE1.out.trans (hbu.mono HE1.out.size))
        clear hbu
        have a0 := HA3.out.cell n HAT.out
        have a1 := HA3.out.free n
        have HA2 := Lib.hid (by have h := HA3.out.set n (.bool (f n)); rw [HS.out] at h; exact h : Row (u.setCell ⟨w.heap.size, n, none⟩ (.bool (f n))) w.heap.size (lotF (mixF c f (n + 1))) 99)
        have HD2 := Lib.hid (HD3.out.set_other ⟨w.heap.size, n, none⟩ (.bool (f n)) (by dsimp only; omega))
        have HE2 := Lib.hid (show Below w.heap.size w (u.setCell ⟨w.heap.size, n, none⟩ (.bool (f n))) from HE3.out.setCell (by dsimp only; omega) _)
        generalize f n = fn at *
        go_wp2_with fail
        go_roundw
        case rel => exact ⟨n + 1, by omega, by go_num, HA2.out, HD2.out, HE2.out⟩
        case measure => simp [intOf]; omega
    · obtain rfl : n = 7 := by omega
      have HA2 := Lib.hid ha
      have HD2 := Lib.hid hd
      have HE2 := Lib.hid he
      clear ha hd he
      rw [mixF_all] at HA2
      obtain ⟨cf, hcf⟩ : ∃ x, (fun i => c i && f i) = x := ⟨_, rfl⟩
      have HAG := Lib.hid hcf
      rw [hcf] at HA2
      clear hcf
      go_wp2_with (first
        | (refine load_row rfl 99 _ rfl w.heap.size rfl 99 (lotF cf) _ HA2.out Try.underlying99 rfl (by kernel_rfl) ?_)
        | (refine store_row rfl 99 _ _ rfl (w.heap.size + 1) (lotF cf) noneA 99 rfl rfl HD2.out (by kernel_rfl) rfl (one_lotF _) ?_))
      exact bodyPost_ret (v := .agg (lotF cf)) (results_cell_row Try.results111 _ _ _ _ _ _ _ rfl (HD2.out.setRow (lotF cf)) Try.underlying99 rfl (by kernel_rfl)) rfl ⟨by rw [HAG.out], below_setRow' HE2.out (by omega) _⟩
set_option maxRecDepth 10000 in
set_option maxHeartbeats 1600000 in
theorem only_clear (p1 : Nat) (c f : Nat → Bool) (w : World) (hc : ∀ i, i < 7 → c i = true → ∀ w', Below w.heap.size w w' → Calls Try.prog 116 #[.int .i64 (i : Int), .pointer (some ⟨p1, 0, none⟩)] w' fun e w'' => e = .returned (.bool (f i)) ∧ Below w'.heap.size w' w'') :
    Calls Try.prog 111 #[.agg (lotF c), .func (.func 116) #[] #[.pointer (some ⟨p1, 0, none⟩)]] w fun e w' => e = .returned (.agg (lotF (fun i => c i && f i))) ∧ Below w.heap.size w w' := by
  obtain ⟨W0, hW0⟩ : ∃ W, W = (w.alloc (.cells (lotF c) 99)).alloc (.cells noneA 99) := ⟨_, rfl⟩
  have HW0 := Lib.hid hW0
  have HE := Lib.hid (show Below w.heap.size w W0 by rw [hW0]; exact below_alloc2 _ _ _)
  have HA := Lib.hid (show Row W0 w.heap.size (lotF c) 99 by rw [hW0]; exact (Row.new _ _ _).alloc _)
  have HZ := Lib.hid (show Row W0 (w.heap.size + 1) noneA 99 by rw [hW0]; exact Row.new1 _ _ _ _)
  clear hW0
  have HC := Lib.hid hc
  clear hc
  go_enter Try.func111, Try.ntmps111
  go_upto_region 1 with (fail)
  rw [← HW0.out]
  go_wp2_with (first
    | (refine load_row rfl 99 _ rfl w.heap.size rfl 99 (lotF c) _ HA.out Try.underlying99 rfl (by kernel_rfl) ?_))
  go_loopw [8] (fun ix wr => ∃ k : Nat, k ≤ 7 ∧ ix = .int .i64 k ∧ Row wr w.heap.size (lotF (mixF c f k)) 99 ∧ Row wr (w.heap.size + 1) noneA 99 ∧ Below w.heap.size w wr) (fun ix _ => 7 - (intOf ix).toNat)
  case atStart => exact ⟨0, by omega, rfl, by rw [mixF_zero]; exact HA.out, HZ.out, HE.out⟩
  case round =>
    obtain ⟨n, hn, rfl, ha, hd, he⟩ := hrel
    by_cases hlt : n < 7
    · have HI := Lib.hid (fun w' => lots_index c hlt w')
      have i1 : (0 : Int) ≤ (n : Int) := by omega
      have i2 : (n : Int) < 7 := by omega
      have HS := Lib.hid (mixF_set c f hlt)
      have HAT := Lib.hid (lotF_at (mixF c f n) hlt)
      have HA1 := Lib.hid ha
      have HD1 := Lib.hid hd
      have HE1 := Lib.hid he
      have HCC := Lib.hid (HC.out n hlt)
      clear ha hd he
      cases hd : c n
      · rw [hd] at HI HS
        rw [Bool.false_and] at HS
        have a0 := HA1.out.cell n HAT.out
        have a1 := HA1.out.free n
        have HA2 := Lib.hid (by have h := HA1.out.set n (.bool false); rw [HS.out] at h; exact h : Row (wr.setCell ⟨w.heap.size, n, none⟩ (.bool false)) w.heap.size (lotF (mixF c f (n + 1))) 99)
        have HD2 := Lib.hid (HD1.out.set_other ⟨w.heap.size, n, none⟩ (.bool false) (by dsimp only; omega))
        have HE2 := Lib.hid (show Below w.heap.size w (wr.setCell ⟨w.heap.size, n, none⟩ (.bool false)) from HE1.out.setCell (by dsimp only; omega) _)
        clear hd
        go_wp2_with (first | (refine index_op rfl 99 _ _ rfl (lotF c) _ rfl rfl _ (HI.out _) ?_))
        go_roundw
        case rel => exact ⟨n + 1, by omega, by go_num, HA2.out, HD2.out, HE2.out⟩
        case measure => simp [intOf]; omega
      · rw [hd] at HI HS
        rw [Bool.true_and] at HS
        have HCW := Lib.hid (HCC.out hd wr HE1.out)
        clear hd
        go_wp2_with (first | (refine index_op rfl 99 _ _ rfl (lotF c) _ rfl rfl _ (HI.out _) ?_))
        refine HCW.out.mono ?_
        rintro e u ⟨rfl, hbu⟩
        have HA3 := Lib.hid (HA1.out.below hbu HA1.out.lt)
        have HD3 := Lib.hid (HD1.out.below hbu HD1.out.lt)
        have HE3 := Lib.hid (HE1.out.trans (hbu.mono HE1.out.size))
        clear hbu
        have a0 := HA3.out.cell n HAT.out
        have a1 := HA3.out.free n
        have HA2 := Lib.hid (by have h := HA3.out.set n (.bool (f n)); rw [HS.out] at h; exact h : Row (u.setCell ⟨w.heap.size, n, none⟩ (.bool (f n))) w.heap.size (lotF (mixF c f (n + 1))) 99)
        have HD2 := Lib.hid (HD3.out.set_other ⟨w.heap.size, n, none⟩ (.bool (f n)) (by dsimp only; omega))
        have HE2 := Lib.hid (show Below w.heap.size w (u.setCell ⟨w.heap.size, n, none⟩ (.bool (f n))) from HE3.out.setCell (by dsimp only; omega) _)
        generalize f n = fn at *
        go_wp2_with fail
        go_roundw
        case rel => exact ⟨n + 1, by omega, by go_num, HA2.out, HD2.out, HE2.out⟩
        case measure => simp [intOf]; omega
    · obtain rfl : n = 7 := by omega
      have HA2 := Lib.hid ha
      have HD2 := Lib.hid hd
      have HE2 := Lib.hid he
      clear ha hd he
      rw [mixF_all] at HA2
      obtain ⟨cf, hcf⟩ : ∃ x, (fun i => c i && f i) = x := ⟨_, rfl⟩
      have HAG := Lib.hid hcf
      rw [hcf] at HA2
      clear hcf
      go_wp2_with (first
        | (refine load_row rfl 99 _ rfl w.heap.size rfl 99 (lotF cf) _ HA2.out Try.underlying99 rfl (by kernel_rfl) ?_)
        | (refine store_row rfl 99 _ _ rfl (w.heap.size + 1) (lotF cf) noneA 99 rfl rfl HD2.out (by kernel_rfl) rfl (one_lotF _) ?_))
      exact bodyPost_ret (v := .agg (lotF cf)) (results_cell_row Try.results111 _ _ _ _ _ _ _ rfl (HD2.out.setRow (lotF cf)) Try.underlying99 rfl (by kernel_rfl)) rfl ⟨by rw [HAG.out], below_setRow' HE2.out (by omega) _⟩
end Go.Proofs.Ytajkgfeockcbpaa
