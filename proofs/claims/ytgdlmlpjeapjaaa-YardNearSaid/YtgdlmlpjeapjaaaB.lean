/- The walks of the shared package: each call returns what the plain function of the same name says; no memory that was there changes. -/
import Derived.Test.YtgdlmlpjeapjaaaK
namespace Go.Proofs.Ytgdlmlpjeapjaaa
open Go.RowKit

set_option maxHeartbeats 400000 in
theorem Fits_any (n lo hi : Int) (w : World) :
    Calls Try.prog 43 #[.int .i64 n, .int .i64 lo, .int .i64 hi] w fun e w' => e = .returned (.bool (fits n lo hi)) ∧ w = w' := by
  unfold fits
  by_cases h1 : lo ≤ n
  · go_enter Try.func43, Try.ntmps43
    go_wp2
    go_ret
    exact ⟨ret_bool (by simp [h1]), rfl⟩
  · have h1' : decide (lo ≤ n) = false := by simpa using h1
    go_enter Try.func43, Try.ntmps43
    go_wp2
    go_ret
    exact ⟨ret_bool (by simp), rfl⟩

set_option maxHeartbeats 400000 in
theorem Sp_any (a b : Int) (w : World) :
    Calls Try.prog 54 #[.int .i64 a, .int .i64 b] w fun e w' => e = .returned (.agg #[.int .i64 a, .int .i64 b]) ∧ Below w.heap.size w w' := by
  go_enter Try.func54, Try.ntmps54
  go_wp2
  exact bodyPost_ret (v := .agg #[.int .i64 a, .int .i64 b]) (by simp [results, Try.results54, go_sem]) rfl ⟨rfl, below_alloc _ _⟩

set_option maxHeartbeats 400000 in
theorem Only_any (a : Int) (w : World) :
    Calls Try.prog 92 #[.int .i64 a] w fun e w' => e = .returned (.agg #[.int .i64 a, .int .i64 a]) ∧ Below w.heap.size w w' := by
  go_enter Try.func92, Try.ntmps92
  go_wp2_with fail
  refine (Sp_any _ _ _).mono ?_
  rintro e w' ⟨rfl, hb⟩
  obtain ⟨hc, hf⟩ := bcell hb
  have hb' := hb.size
  simp at hb'
  have hz : w.heap.size < w'.heap.size := by omega
  clear hb'
  have H := Lib.hid hb
  clear hb
  go_wp2
  exact bodyPost_ret (v := .agg #[.int .i64 a, .int .i64 a]) (by simp [results, Try.results92, go_sem, hc]) rfl ⟨rfl, (((below_alloc _ _).trans (H.out.mono (by simp))).setCell (by simp) _).setCell (by simp) _⟩

set_option maxHeartbeats 400000 in
theorem Spin_any (n m : Int) (w : World) (hm : I64 m) :
    Calls Try.prog 44 #[.int .i64 n, .int .i64 m] w fun e w' => e = .returned (.int .i64 (spin n m)) ∧ w = w' := by
  unfold I64 at hm
  by_cases h1 : m < 1
  · go_enter Try.func44, Try.ntmps44
    go_wp2
    go_ret
    exact ⟨ret_int (by rw [spin, if_pos h1]), rfl⟩
  · have hb := tmod_bound n m (by omega)
    have hf := tmod_fix n m (by omega)
    have HF := Lib.hid hf
    clear hf
    by_cases h2 : n.tmod m < 0
    · go_enter Try.func44, Try.ntmps44
      go_wp2
      go_ret
      exact ⟨ret_int (by have := HF.out; rw [if_pos (by omega)] at this; rw [spin, if_neg (by omega), ← this]), rfl⟩
    · go_enter Try.func44, Try.ntmps44
      go_wp2
      go_ret
      exact ⟨ret_int (by have := HF.out; rw [if_neg (by omega)] at this; rw [spin, if_neg (by omega), ← this]), rfl⟩

set_option maxHeartbeats 400000 in
theorem Item_any (p : Option Addr) (c : Nat) (xs : List Int) (n : Int) (w : World) (hn : xs.length ≤ maxLen) (hc : IntsAt w p xs) :
    Calls Try.prog 90 #[.slice p xs.length c, .int .i64 n] w fun e w' => e = .returned (.int .i64 (item xs n)) ∧ w = w' := by
  unfold maxLen at hn
  by_cases h0 : xs.length = 0
  · have h0' : xs = [] := List.length_eq_zero_iff.1 h0
    subst h0'
    clear h0 hc
    go_enter Try.func90, Try.ntmps90
    go_wp2
    go_ret
    exact ⟨ret_int (by simp [item]), rfl⟩
  · have hr := spin_range n xs.length (by omega)
    obtain ⟨b, o, rfl, hcell⟩ := hc (spin n xs.length).toNat (by omega)
    clear hc
    have h0b : ((xs.length : Int) == 0) = false := by simp; intro h; apply h0; simp [h]
    go_enter Try.func90, Try.ntmps90
    go_wp2_with (go_at_call 44; refine (Spin_any _ _ _ ⟨by omega, by omega⟩).mono ?_; rintro e w' ⟨rfl, rfl⟩)
    go_ret
    exact ⟨ret_int (by rw [item, if_neg h0]), rfl⟩

set_option maxHeartbeats 400000 in
theorem Right_any (a b lo hi : Int) (w : World) :
    Calls Try.prog 64 #[.agg #[.int .i64 a, .int .i64 b], .int .i64 lo, .int .i64 hi] w fun e w' => e = .returned (.bool (decide (lo ≤ a) && decide (a ≤ b) && decide (b ≤ hi))) ∧ Below w.heap.size w w' := by
  by_cases h1 : lo ≤ a
  · by_cases h2 : a ≤ b
    · go_enter Try.func64, Try.ntmps64
      go_wp2
      go_ret
      exact ⟨ret_bool (by simp [h1, h2]), below_alloc _ _⟩
    · have h2' : decide (a ≤ b) = false := by simpa using h2
      go_enter Try.func64, Try.ntmps64
      go_wp2
      go_ret
      exact ⟨ret_bool (by simp), below_alloc _ _⟩
  · have h1' : decide (lo ≤ a) = false := by simpa using h1
    go_enter Try.func64, Try.ntmps64
    go_wp2
    go_ret
    exact ⟨ret_bool (by simp), below_alloc _ _⟩

set_option maxHeartbeats 400000 in
theorem Drawn_any (a b n : Int) (w : World) (h1 : -1000000000 ≤ a) (h2 : a ≤ b) (h3 : b ≤ 1000000000) :
    Calls Try.prog 89 #[.agg #[.int .i64 a, .int .i64 b], .int .i64 n] w fun e w' => e = .returned (.int .i64 (drawn a b n)) ∧ Below w.heap.size w w' := by
  have hs := spin_range n (b - a + 1) (by omega)
  have hI : I64 (b - a + 1) := ⟨by omega, by omega⟩
  have hd : drawn a b n = a + spin n (b - a + 1) := by
    rw [drawn, IntWalk.wrap64_in (b - a) (by omega), IntWalk.wrap64_in (b - a + 1) (by omega), IntWalk.wrap64_in _ (by omega)]
  have HD := Lib.hid hd
  clear hd
  obtain ⟨e1, e2, e3⟩ : IntKind.i64.wrap (b - a) = b - a ∧ IntKind.i64.wrap (b - a + 1) = b - a + 1 ∧ IntKind.i64.wrap (a + spin n (b - a + 1)) = a + spin n (b - a + 1) :=
    ⟨IntWalk.i64_in _ (by omega), IntWalk.i64_in _ (by omega), IntWalk.i64_in _ (by omega)⟩
  go_enter Try.func89, Try.ntmps89
  go_wp2
  go_quiet ((go_at_call 44; exact quiet_eq (Spin_any _ _ _ hI)))
  clear e1 e2 e3
  go_wp2
  go_ret
  exact ⟨ret_int HD.out.symm, by exact below_drewN (below_alloc _ _) _⟩

set_option maxHeartbeats 400000 in
theorem Alike_any (p q : Option Addr) (c d : Nat) (xs ys : List Int) (w : World) (hn : xs.length ≤ maxLen) (hc : IntsAt w p xs) (hd : IntsAt w q ys) :
    Calls Try.prog 25 #[.slice p xs.length c, .slice q ys.length d] w fun e w' => e = .returned (.bool (decide (xs = ys))) ∧ Below w.heap.size w w' := by
  unfold maxLen at hn
  by_cases he : xs.length = ys.length
  · have he' : ((xs.length : Int) != (ys.length : Int)) = false := by rw [he]; simp
    have HE := Lib.hid he
    go_enter Try.func25, Try.ntmps25
    clear he
    go_wp2
    clear he'
    go_loopw [5] (fun i wr => ∃ k : Nat, k ≤ xs.length ∧ i = .int .i64 k ∧ xs.take k = ys.take k ∧ ∃ n, wr = w.drewN n) (fun i _ => xs.length - (intOf i).toNat)
    case atStart => exact ⟨0, Nat.zero_le _, rfl, rfl, 0, rfl⟩
    case round =>
      obtain ⟨k, hk, rfl, hpre, n, rfl⟩ := hrel
      have HP := Lib.hid hpre
      clear hpre
      by_cases hlt : k < xs.length
      · have hlt2 : k < ys.length := by have := HE.out; omega
        obtain ⟨b, o, rfl, hcell⟩ := hc k hlt
        obtain ⟨b2, o2, rfl, hcell2⟩ := hd k hlt2
        clear hc hd
        by_cases hx : at0 xs k = at0 ys k
        · have hx' : (at0 xs k != at0 ys k) = false := by rw [hx]; simp
          have HX := Lib.hid hx
          clear hx
          go_wp2
          go_quiet (fail)
          go_wp2
          go_roundw
          case rel => exact ⟨k + 1, by omega, by go_num, by rw [take_snoc hlt, take_snoc hlt2, HP.out, HX.out], _, rfl⟩
          case measure => simp [intOf]; omega
        · have hx' : (at0 xs k != at0 ys k) = true := by rw [bne_iff_ne]; exact hx
          go_wp2
          go_quiet (fail)
          go_wp2
          go_ret
          exact ⟨ret_bool (by simp; intro h; exact hx (by rw [h])), by exact below_drewN (below_drewN (Below.refl _ _) _) _⟩
      · clear hc hd
        go_wp2
        go_ret
        exact ⟨ret_bool (by have h1 := HP.out; have h2 := HE.out; rw [List.take_of_length_le (by omega), List.take_of_length_le (by omega)] at h1; simp [h1]), by exact below_drewN (Below.refl _ _) _⟩
  · have he' : ((xs.length : Int) != (ys.length : Int)) = true := by rw [bne_iff_ne]; omega
    go_enter Try.func25, Try.ntmps25
    go_wp2
    go_ret
    exact ⟨ret_bool (by simp; intro h; exact he (by rw [h])), Below.refl _ _⟩

set_option maxHeartbeats 800000 in
theorem Earlier_any (p q : Option Addr) (c d : Nat) (xs ys : List Int) (w : World) (hn : xs.length ≤ maxLen) (hc : IntsAt w p xs) (hd : IntsAt w q ys) :
    Calls Try.prog 46 #[.slice p xs.length c, .slice q ys.length d] w fun e w' => e = .returned (.bool (earlier xs ys)) ∧ Below w.heap.size w w' := by
  unfold maxLen at hn
  go_enter Try.func46, Try.ntmps46
  go_wp2
  go_loopw [5] (fun i wr => ∃ k : Nat, k ≤ xs.length ∧ k ≤ ys.length ∧ i = .int .i64 k ∧ xs.take k = ys.take k ∧ ∃ n, wr = w.drewN n) (fun i _ => xs.length - (intOf i).toNat)
  case atStart => exact ⟨0, Nat.zero_le _, Nat.zero_le _, rfl, rfl, 0, rfl⟩
  case round =>
    obtain ⟨k, hk, hk2, rfl, hpre, n, rfl⟩ := hrel
    have HP := Lib.hid hpre
    clear hpre
    by_cases hlt : k < xs.length
    · by_cases hlt2 : k < ys.length
      · obtain ⟨b, o, rfl, hcell⟩ := hc k hlt
        obtain ⟨b2, o2, rfl, hcell2⟩ := hd k hlt2
        clear hc hd
        by_cases hx : at0 xs k = at0 ys k
        · have hx' : (at0 xs k != at0 ys k) = false := by rw [hx]; simp
          have HX := Lib.hid hx
          clear hx
          go_wp2
          go_quiet (fail)
          go_wp2
          go_roundw
          case rel => exact ⟨k + 1, by omega, by omega, by go_num, by rw [take_snoc hlt, take_snoc hlt2, HP.out, HX.out], _, rfl⟩
          case measure => simp [intOf]; omega
        · have hx' : (at0 xs k != at0 ys k) = true := by rw [bne_iff_ne]; exact hx
          have HX := Lib.hid hx
          clear hx
          go_wp2
          go_quiet (fail)
          go_wp2
          go_quiet (fail)
          go_wp2
          go_ret
          exact ⟨ret_bool (earlier_ne hlt hlt2 HP.out HX.out).symm, by exact below_drewN (below_drewN (below_drewN (Below.refl _ _) _) _) _⟩
      · have hl2 : decide (k < ys.length) = false := by simpa using hlt2
        clear hc hd
        go_wp2
        go_ret
        exact ⟨ret_bool (by rw [earlier_end hk hk2 HP.out (by omega)]), by exact below_drewN (Below.refl _ _) _⟩
    · have hl1 : decide (k < xs.length) = false := by simpa using hlt
      clear hc hd
      go_wp2
      go_ret
      exact ⟨ret_bool (by rw [earlier_end hk hk2 HP.out (by omega)]), by exact below_drewN (Below.refl _ _) _⟩

end Go.Proofs.Ytgdlmlpjeapjaaa
