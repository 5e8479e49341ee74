/- The law's own helper of layer 1: how many pieces of a cutting are whole, where it is known which columns hold a knot. -/
import Derived.Test.YtnnlbbmimdohoaaL4
namespace Go.Proofs.Ytnnlbbmimdohoaa
open Go.RowKit Go.Maps
attribute [local go_sem] Oper.semAt_some

/-- Such truth values lie in memory. -/
def BoolsAt (w : World) (p : Option Addr) (xs : List Bool) : Prop :=
  ∀ i, i < xs.length → ∃ b o, p = some ⟨b, o, none⟩ ∧ w.cell? ⟨b, o + i, none⟩ = some (.bool (b0 xs i))
theorem BoolsAt.below {w w' : World} {p : Option Addr} {xs : List Bool} (h : BoolsAt w p xs) (hb : Below w.heap.size w w') : BoolsAt w' p xs := by
  intro i hi
  obtain ⟨b, o, hp, h0⟩ := h i hi
  have hlt : b < w.heap.size := cell_block h0
  exact ⟨b, o, hp, by rw [(bcell hb).1 b _ hlt]; exact h0⟩
/-- How many pieces have no knot. -/
def wholeN (kn : List Bool) (sz : Nat) (cut : List Int) : Int := (cut.countP fun f => freeAt kn f.toNat sz : Nat)
theorem wholeN_take {kn : List Bool} {sz : Nat} {cut : List Int} {k : Nat} (h : k < cut.length) : wholeN kn sz (cut.take (k + 1)) = wholeN kn sz (cut.take k) + if freeAt kn (at0 cut k).toNat sz then 1 else 0 := by
  rw [take_snoc h, wholeN, wholeN, List.countP_append]
  by_cases hb : freeAt kn (at0 cut k).toNat sz <;> simp [hb]
theorem wholeN_le (kn : List Bool) (sz : Nat) (cut : List Int) : 0 ≤ wholeN kn sz cut ∧ wholeN kn sz cut ≤ cut.length := by
  unfold wholeN
  have := List.countP_le_length (p := fun f : Int => freeAt kn f.toNat sz) (l := cut)
  omega
theorem freeAt_zero (kn : List Bool) (i : Nat) : freeAt kn i 0 = true := rfl
theorem freeAt_succ (kn : List Bool) (i m : Nat) : freeAt kn i (m + 1) = (freeAt kn i m && !b0 kn (i + m)) := by
  simp [freeAt, List.range_succ, List.all_append]

set_option maxRecDepth 10000 in
set_option maxHeartbeats 1600000 in
theorem lawwhole_any (p1 : Option Addr) (c1 : Nat) (p2 : Option Addr) (c2 : Nat) (long : List Int) (sz : Int) (ks : List K4) (w0 : World) (m : Nat) (hm : sz = m) (hb : validB long sz ks = true) (pk : Option Addr) (ck : Nat) (kn : List Bool) (hk : BoolsAt w0 pk kn) (hkl : (kn.length : Int) = (psum long long.length)) (pc : Option Addr) (cc : Nat) (cut : List Int) (hc : IntsAt w0 pc cut) (hcut : cutOk sz (psum long long.length) 0 cut = true) :
    Calls Try.prog 44 #[.agg #[.slice p1 long.length c1, .int .i64 sz, .slice p2 ks.length c2], .slice pk kn.length ck, .slice pc cut.length cc] w0 fun e w' => e = .returned (.int .i64 (wholeN kn m cut)) ∧ Below w0.heap.size w0 w' := by
  have hok := valid_ok hb
  have hw := wideN_eq hok.L
  have hs1 := hok.s1
  have hs6 := hok.s6
  have hlen := cutOk_len hs1 hcut
  have HCUT := Lib.hid (fun f hf => cutOk_range (Int.le_refl 0) (by omega) hcut f hf : ∀ f ∈ cut, 0 ≤ f ∧ f + sz ≤ (psum long long.length))
  have HI := Lib.hid hc
  have HK := Lib.hid hk
  clear hcut hb hc hk
  subst hm
  go_enter Try.func44, Try.ntmps44
  have hba := below_alloc w0 (.cells #[.slice p1 long.length c1, .int .i64 (m : Int), .slice p2 ks.length c2] 25)
  have r0 := Row.new w0 #[.slice p1 long.length c1, .int .i64 (m : Int), .slice p2 ks.length c2] 25
  go_wp2
  go_loopw [7, 8] (fun n i wr => ∃ j : Nat, j ≤ cut.length ∧ i = .int .i64 j ∧ n = .int .i64 (wholeN kn m (cut.take j)) ∧ Row wr w0.heap.size #[.slice p1 long.length c1, .int .i64 (m : Int), .slice p2 ks.length c2] 25 ∧ Below w0.heap.size w0 wr) (fun _ i _ => cut.length - (intOf i).toNat)
  case atStart => exact ⟨0, by omega, rfl, rfl, r0, hba⟩
  case round =>
    obtain ⟨j, hj, rfl, rfl, g0, gb⟩ := hrel
    have GR := Lib.hid g0
    have GB := Lib.hid gb
    clear g0 gb
    by_cases hjl : j < cut.length
    · have hfc := HCUT.out (at0 cut j) (by rw [at0_lt hjl]; exact List.getElem_mem _)
      obtain ⟨b, o, rfl, hcell⟩ := (HI.out.below GB.out) j hjl
      have hst := wholeN_take (kn := kn) (sz := m) hjl
      obtain ⟨g, hg⟩ : ∃ g : Nat, at0 cut j = g := ⟨(at0 cut j).toNat, by omega⟩
      rw [hg] at hcell hst hfc
      have HST := Lib.hid hst
      have hwn := wholeN_le kn m (cut.take j)
      have htl : (cut.take j).length = j := by rw [List.length_take]; omega
      rw [htl] at hwn
      generalize wholeN kn m (cut.take j) = n at *
      have HG := Lib.hid hg
      clear hst htl hg
      go_wp2_with fail
      go_loopw [9, 10] (fun ok c wi => ∃ k : Nat, k ≤ m ∧ c = .int .i64 ((g + k : Nat) : Int) ∧ ok = .bool (freeAt kn g k) ∧ Row wi w0.heap.size #[.slice p1 long.length c1, .int .i64 (m : Int), .slice p2 ks.length c2] 25 ∧ Below w0.heap.size w0 wi) (fun _ c _ => ((g : Int) + m - intOf c).toNat)
      case atStart => exact ⟨0, by omega, by simp, by rw [freeAt_zero], GR.out, GB.out⟩
      case round =>
        obtain ⟨k, hk, rfl, rfl, g1, gb1⟩ := hrel
        have k1 := g1.cell 1 (v := .int .i64 m) rfl
        have hcj := (HI.out.below gb1) j hjl
        have G1 := Lib.hid g1
        have GB1 := Lib.hid gb1
        obtain ⟨b3, o3, e3, hc3⟩ := hcj
        obtain ⟨rfl, rfl⟩ : b = b3 ∧ o = o3 := by simpa using e3
        rw [HG.out] at hc3
        clear g1 gb1 e3
        by_cases hkm : k < m
        · obtain ⟨b2, o2, rfl, hc2⟩ := (HK.out.below GB1.out) (g + k) (by omega)
          go_wp2_with fail
          go_quiet (fail)
          have G2 := Lib.hid (G1.out.drewN nq)
          have GB2 := Lib.hid (below_drewN GB1.out nq)
          have hc4 : (wr.drewN nq).cell? _ = some _ := hc2
          have HS := Lib.hid (freeAt_succ kn g k)
          clear G1 GB1 hc2 hc3 k1 hcell
          generalize wr.drewN nq = w1 at *
          generalize b0 kn (g + k) = bb at *
          cases hfr : freeAt kn g k
          all_goals
            have HF := Lib.hid hfr
            clear hfr
            go_wp2
            go_roundw
            case rel => exact ⟨k + 1, by omega, by go_num, by rw [HS.out, HF.out]; simp, G2.out, GB2.out⟩
            case measure => simp [intOf]; omega
        · obtain rfl : k = m := by omega
          go_wp2_with fail
          go_quiet (fail)
          have G2 := Lib.hid (G1.out.drewN nq)
          have GB2 := Lib.hid (below_drewN GB1.out nq)
          clear G1 GB1 hc3 k1 hcell
          generalize wr.drewN nq = w1 at *
          cases hfr : freeAt kn g k
          all_goals
            have HF := Lib.hid hfr
            clear hfr
            go_wp2
            go_roundw
            case rel => exact ⟨j + 1, by omega, by go_num, by rw [HST.out, Int.toNat_natCast, HF.out]; simp, G2.out, GB2.out⟩
            case measure => simp [intOf]; omega
    · obtain rfl : j = cut.length := by omega
      have he : cut.take cut.length = cut := List.take_length
      rw [he]
      go_wp2
      go_ret
      exact ⟨rfl, GB.out⟩

end Go.Proofs.Ytnnlbbmimdohoaa
