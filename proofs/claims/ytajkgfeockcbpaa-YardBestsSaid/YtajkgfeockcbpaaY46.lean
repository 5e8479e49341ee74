/- The law's own helpers of layer 6: the goods of a choice; a part of a list; a list without another one. -/
import Derived.Test.YtajkgfeockcbpaaYWB
namespace Go.Proofs.Ytajkgfeockcbpaa
open Go.RowKit Go.Maps
attribute [local go_sem] Oper.semAt_some

theorem stock_zero (b : Yb) (xs : List Int) (m : List Nat) : stockV b xs (m.take 0) = 0 := rfl
theorem stock_succ (b : Yb) (xs : List Int) {m : List Nat} {k : Nat} (h : k < m.length) : stockV b xs (m.take (k + 1)) = stockV b xs (m.take k) + lotV b xs m[k] := by
  unfold stockV
  rw [List.take_succ_eq_append_getElem h, List.map_append, List.sum_append]
  simp
theorem stock_range {b : Yb} (hok : YbOk b) (xs : List Int) : ∀ {m : List Nat}, (∀ x ∈ m, x < b.lots.length) → 0 ≤ stockV b xs m ∧ stockV b xs m ≤ 99 * (m.length : Int)
  | [], _ => by simp [stockV]
  | x :: m, h => by
    have h1 := lotV_in hok xs (h x (by simp))
    have h2 := stock_range hok xs (m := m) (fun y hy => h y (by simp [hy]))
    unfold stockV at h2 ⊢
    simp only [List.map_cons, List.sum_cons, List.length_cons]
    omega
set_option maxRecDepth 10000 in
set_option maxHeartbeats 1600000 in
theorem stock_any (b : Yb) (P : Yp) (hok : YbOk b) (m : List Nat) (hm7 : m.length ≤ 7) (hml : ∀ x ∈ m, x < b.lots.length) (pm : Option Addr) (cm : Nat) (p : Option Addr) (c : Nat) (xs : List Int) (hn : xs.length ≤ maxLen) (w : World) (hB : YbAt w P b) (hM : IntsAt w pm (intsN m)) (hI : IntsAt w p xs) :
    Calls Try.prog 41 #[.agg (ybA b P), .slice pm (intsN m).length cm, .slice p xs.length c] w fun e w' => e = .returned (.int .i64 (stockV b xs m)) ∧ Below w.heap.size w w' := by
  obtain ⟨pl, cl, pd, cd, pb, cb, ps, cs⟩ := P
  obtain ⟨W0, hW0⟩ : ∃ W, W = w.alloc (.cells (ybA b ⟨pl, cl, pd, cd, pb, cb, ps, cs⟩) 25) := ⟨_, rfl⟩
  have HW0 := Lib.hid hW0
  have HE := Lib.hid (show Below w.heap.size w W0 by rw [hW0]; exact below_alloc _ _)
  have HRB := Lib.hid (show Row W0 w.heap.size (ybA b ⟨pl, cl, pd, cd, pb, cb, ps, cs⟩) 25 by rw [hW0]; exact Row.new _ _ _)
  have HB := Lib.hid (hB.below HE.out)
  have n7 := hok.n7
  have HLC := Lib.hid (fun i (hi : i < b.lots.length) => HB.out.l.at hi)
  have HLV := Lib.hid (fun i (hi : i < b.lots.length) => lotV_in hok xs hi)
  have HIT := Lib.hid (fun n w' (h : From W0 w') => Item_any p c xs n w' hn ((hI.below HE.out).below h.b))
  have HMC := Lib.hid (fun i (hi : i < m.length) => (by
    have h := (hM.below HE.out) i (by rw [intsN_len]; exact hi)
    rw [intsN_get hi] at h
    exact h : ∃ g o, pm = some ⟨g, o, none⟩ ∧ W0.cell? ⟨g, o + i, none⟩ = some (.int .i64 ((m[i] : Nat) : Int))))
  have HML := Lib.hid (fun i (hi : i < m.length) => hml _ (List.getElem_mem hi))
  have HRG := Lib.hid (fun k => stock_range hok xs (m := m.take k) (fun x hx => hml x (List.mem_of_mem_take hx)))
  have HLE := Lib.hid (fun k => (by simp; omega : (m.take k).length ≤ 7))
  have HSS := Lib.hid (fun k (hk : k < m.length) => stock_succ b xs hk)
  have g0 := HRB.out.cell 0 (v := .slice pl b.lots.length cl) rfl
  rw [intsN_len]
  have z3 : (b.lots.length : Int) ≤ 7 := by omega
  have z4 : (m.length : Int) ≤ 7 := by omega
  clear hW0 hB hM hI hml hok
  go_enter Try.func41, Try.ntmps41
  go_upto_region 1 with (fail)
  rw [← HW0.out]
  go_wp2_with fail
  go_loopw [7, 8] (fun a i wr => ∃ (k : Nat) (x : Later W0), k ≤ m.length ∧ i = .int .i64 (k : Int) ∧ a = .int .i64 (stockV b xs (m.take k)) ∧ wr = x.w) (fun _ i _ => m.length - (intOf i).toNat)
  case atStart => exact ⟨0, ⟨W0, Below.refl _ _⟩, by omega, rfl, rfl, rfl⟩
  case round =>
    obtain ⟨k, x, hk, rfl, rfl, rfl⟩ := hrel
    by_cases hlt : k < m.length
    · obtain ⟨bm, om, hpm, hmc⟩ := HMC.out k hlt
      have hvl := HML.out k hlt
      have hss := HSS.out k hlt
      have hrg := HRG.out k
      have hle := HLE.out k
      obtain ⟨v, hv⟩ : ∃ v, m[k] = v := ⟨_, rfl⟩
      rw [hv] at hmc hvl hss
      subst hpm
      obtain ⟨bl, ol, hpl, _, _, l2, l3⟩ := HLC.out v hvl
      subst hpl
      have hlv := HLV.out v hvl
      have HIV := Lib.hid (HIT.out (v : Int))
      have hdef : lotV b xs v = (lotAt b v).lo + spin (item xs v) ((lotAt b v).hi - (lotAt b v).lo + 1) := rfl
      generalize (lotAt b v).lo = lo at *
      generalize (lotAt b v).hi = hi at *
      generalize item xs (v : Int) = it at *
      have hdr : drawn lo hi it = lotV b xs v := by
        rw [drawn, IntWalk.wrap64_in (hi - lo) (by omega), IntWalk.wrap64_in (hi - lo + 1) (by omega), hdef, IntWalk.wrap64_in _ (by omega)]
      have HDR := Lib.hid (fun w' => (by have h := Drawn_any lo hi it w' (by omega) (by omega) (by omega); rw [hdr] at h; exact h))
      obtain ⟨lv, hlv2⟩ : ∃ t, lotV b xs v = t := ⟨_, rfl⟩
      rw [hlv2] at HDR hlv hss
      have HS := Lib.hid hss
      obtain ⟨sv, hsv⟩ : ∃ t, stockV b xs (m.take k) = t := ⟨_, rfl⟩
      rw [hsv] at HS hrg ⊢
      have i1 : (0 : Int) ≤ (k : Int) := by omega
      have i2 : (k : Int) < (m.length : Int) := by omega
      have j1 : (0 : Int) ≤ (v : Int) := by omega
      have j2 : (v : Int) < (b.lots.length : Int) := by omega
      have e1 : IntKind.i64.wrap (sv + lv) = sv + lv := IntWalk.i64_in _ (by omega)
      clear hv hss hdr hdef hlv2 hsv hrg hle hlv
      go_wp2_with fail
      refine wp_region_later (by kernel_rfl) (by kernel_rfl) ?_
      repeat (go_big_quiet_step (first
        | (go_at_call 90; with_reducible exact Calls.later_same (HIV.out _ (From.trans (Later.fr _) (Later.fr _))))
        | (go_at_call 89; with_reducible exact Calls.later_of (HDR.out _))))
      refine wpQuiet_nil ?_
      intro _ hw'
      obtain ⟨y, hw''⟩ := hw'
      subst hw''
      obtain ⟨x2, hx2⟩ := x.up y
      rw [hx2]
      clear hx2
      go_wp2_with fail
      go_roundw
      case rel => exact ⟨k + 1, x2, by omega, by go_num, by rw [HS.out], rfl⟩
      case measure => simp [intOf]; omega
    · obtain rfl : k = m.length := by omega
      go_wp2_with fail
      go_ret
      exact ⟨by rw [List.take_length]; rfl, x.base HE.out⟩
/-- Numbers are returned. -/
def GaveList (l : List Nat) (w : World) (e : Ending) (w' : World) : Prop := ∃ q cq, e = .returned (.slice q (intsN l).length cq) ∧ IntsAt w' q (intsN l) ∧ Below w.heap.size w w'
set_option maxRecDepth 10000 in
set_option maxHeartbeats 1600000 in
theorem part_any (m : List Nat) (hm7 : m.length ≤ 7) (pm : Option Addr) (cm : Nat) (set : Int) (s : Nat) (hs : spin set ((2 ^ m.length : Nat) : Int) = (s : Int)) (hs2 : s < 256) (w : World) (hM : IntsAt w pm (intsN m)) :
    Calls Try.prog 47 #[.slice pm (intsN m).length cm, .int .i64 set] w (GaveList (pickN s m m.length) w) := by
  obtain ⟨i0, hi, hi0, hi1, hi2⟩ := info_parts Try.infoInt
  obtain ⟨z0, hz0⟩ : ∃ z : Later w, w = z.w := ⟨⟨w, Below.refl _ _⟩, rfl⟩
  have HZ0 := Lib.hid hz0
  have HMC := Lib.hid (fun i (hi : i < m.length) => (by
    have h := hM i (by rw [intsN_len]; exact hi)
    rw [intsN_get hi] at h
    exact h : ∃ g o, pm = some ⟨g, o, none⟩ ∧ w.cell? ⟨g, o + i, none⟩ = some (.int .i64 ((m[i] : Nat) : Int))))
  obtain ⟨L, hL⟩ : ∃ L, pickN s m = L := ⟨_, rfl⟩
  have HL0 := Lib.hid (show L 0 = [] by rw [← hL]; rfl)
  have HLL := Lib.hid (fun k => (by rw [← hL]; exact pickN_length s m k : (L k).length ≤ k))
  have HLS := Lib.hid (fun k (hk : k < m.length) => (by rw [← hL]; exact pickN_succ s m k hk : L (k + 1) = if inS s k then L k ++ [m[k]] else L k))
  have HLE := Lib.hid (show L m.length = pickN s m m.length by rw [← hL])
  have hp := pow_few (n := m.length) (by omega)
  have HSP := Lib.hid (fun w' => (by have h := Spin_any set ((2 ^ m.length : Nat) : Int) w' ⟨by omega, by omega⟩; rw [hs] at h; exact h))
  obtain ⟨N, hN⟩ : ∃ n, 2 ^ m.length = n := ⟨_, rfl⟩
  rw [hN] at HSP hp
  have ex : wrap64 (2 ^ m.length) = (N : Int) := by
    rw [show ((2 : Int) ^ m.length) = (N : Int) by rw [← hN]; simp]
    exact IntWalk.wrap64_in _ (by omega)
  have HEX := Lib.hid ex
  clear hL hs hN ex
  rw [intsN_len]
  have z4 : (m.length : Int) ≤ 7 := by omega
  clear hz0 hM
  go_enter Try.func47, Try.ntmps47
  go_wp2_with fail
  go_loopw [5, 6] (fun ls i wr => ∃ (k : Nat) (x : Later w), k ≤ m.length ∧ i = .int .i64 (k : Int) ∧ wr.ownsRow w.heap.size 3 1 ls (intsN (L k)).length ((intsN (L k)).map (Value.int .i64)) ∧ wr = x.w) (fun _ i _ => m.length - (intOf i).toNat)
  case atStart => exact ⟨0, ⟨w, Below.refl _ _⟩, by omega, rfl, by rw [HL0.out]; exact World.ownsRow_nil _ _ _ _, rfl⟩
  case round =>
    obtain ⟨k, x, hk, rfl, hown, rfl⟩ := hrel
    obtain ⟨pl, cl, rfl⟩ := owns_slice hown
    have HO2 := Lib.hid hown
    clear hown
    have hzx := x.b.size
    by_cases hlt : k < m.length
    · have hll : (intsN (L k)).length ≤ 8 := by have := HLL.out k; rw [intsN_len]; omega
      have hs := HLS.out k hlt
      obtain ⟨bm, om, hpm, hmc⟩ := HMC.out k hlt
      obtain ⟨v, hv⟩ : ∃ v, m[k] = v := ⟨_, rfl⟩
      rw [hv] at hmc hs
      subst hpm
      have HS := Lib.hid hs
      have i1 : (0 : Int) ≤ (k : Int) := by omega
      have i2 : (k : Int) < (m.length : Int) := by omega
      have j1 : (0 : Int) ≤ (v : Int) := by omega
      have HIN := Lib.hid (fun w' => In8_any s k w' hs2 (by omega))
      have ex := HEX.out
      clear hv hs
      cases hin : inS s k
      · rw [hin] at HS HIN
        rw [if_neg (by simp)] at HS
        clear hin
        go_wp2_with (first
          | (go_at_call 44; (with_reducible refine (HSP.out _).mono ?_); rintro e u ⟨rfl, rfl⟩)
          | (go_at_call 85; (with_reducible refine (HIN.out _).mono ?_); rintro e u ⟨rfl, rfl⟩))
        go_roundw
        case rel => exact ⟨k + 1, x, by omega, by go_num, by rw [HS.out]; exact HO2.out, rfl⟩
        case measure => simp [intOf]; omega
      · rw [hin] at HS HIN
        rw [if_pos rfl] at HS
        clear hin
        go_wp2_with (first
          | (go_at_call 44; (with_reducible refine (HSP.out _).mono ?_); rintro e u ⟨rfl, rfl⟩)
          | (go_at_call 85; (with_reducible refine (HIN.out _).mono ?_); rintro e u ⟨rfl, rfl⟩)
          | (at_builtin; (refine wpList_append_own _ rfl _ _ 27 rfl w.heap.size 3 i0 (.int .i64 0) 1 8 Try.underlying27 hi hi0 hi1 hi2 rfl (by decide) _ _ _ rfl (HO2.out.alloc _) ⟨x.w.heap.size, 0, none⟩ 1 1 [.int .i64 (v : Int)] rfl rfl (cell_one_new _ _ _) (by simp [Value.oneCell']) (by unfold maxLen; omega) (by omega) (by simp; omega) ?_); intro v' w2 hown' hgrow _; have HO3 := Lib.hid hown'; have hg2 : Below w.heap.size x.w w2 := ((Below.refl _ _).alloc (by omega) _).grown hgrow (by simp; omega) (fun k hk => (HO2.out.lt k hk).1); obtain ⟨x3, hx3⟩ := later_of (x.b.trans hg2); clear hg2 hown' hgrow))
        subst hx3
        go_roundw
        case rel => exact ⟨k + 1, x3, by omega, by go_num, by rw [HS.out]; simpa [intsN] using HO3.out, rfl⟩
        case measure => simp [intOf]; omega
    · obtain rfl : k = m.length := by omega
      obtain ⟨p', c', hv, hints, _⟩ := ints_of_owns2 HO2.out
      cases hv
      have HIN := Lib.hid hints
      clear hints
      go_wp2_with fail
      go_ret
      exact ⟨pl, cl, by rw [HLE.out]; rfl, by rw [← HLE.out]; exact HIN.out, x.b⟩
/-- Those of a list that are not in another one, of its first ones. -/
def lackN (g m : List Nat) (k : Nat) : List Nat := (m.take k).filter fun i => !decide (i ∈ g)
theorem lackN_succ (g m : List Nat) (k : Nat) (h : k < m.length) : lackN g m (k + 1) = if !decide (m[k] ∈ g) then lackN g m k ++ [m[k]] else lackN g m k := by
  unfold lackN
  rw [List.take_succ_eq_append_getElem h, List.filter_append]
  cases hq : decide (m[k] ∈ g)
  · simp only [decide_eq_false_iff_not] at hq
    simp [hq]
  · simp only [decide_eq_true_eq] at hq
    simp [hq]
theorem lackN_length (g m : List Nat) (k : Nat) : (lackN g m k).length ≤ k := by
  unfold lackN
  exact Nat.le_trans (List.length_filter_le _ _) (by simp; omega)
theorem lackN_all (f h : Nat → Bool) : lackN (lotsL h) (lotsL f) (lotsL f).length = lotsL (restF f h) := by
  unfold lackN
  rw [List.take_length, rest_lots]
  refine List.filter_congr fun i hi => ?_
  have := (lotsL_mem.1 hi).1
  cases hh : h i <;> simp [lotsL_mem, hh, this]
theorem index_in (g : List Nat) (v : Nat) : decide (idxN (intsN g) (v : Int) < 0) = !decide (v ∈ g) := by
  have h := idx_mem (l := intsN g) (x := (v : Int))
  have h2 : (v : Int) ∈ intsN g ↔ v ∈ g := by
    unfold intsN
    rw [List.mem_map]
    constructor
    · rintro ⟨a, ha, e⟩
      obtain rfl : a = v := by omega
      exact ha
    · exact fun h => ⟨v, h, rfl⟩
  by_cases e : v ∈ g
  · have : 0 ≤ idxN (intsN g) (v : Int) := h.2 (h2.2 e)
    simp [e]
    omega
  · have : ¬ 0 ≤ idxN (intsN g) (v : Int) := fun k => e (h2.1 (h.1 k))
    simp [e]
    omega
set_option maxRecDepth 10000 in
set_option maxHeartbeats 1600000 in
theorem without_any (m g : List Nat) (hm7 : m.length ≤ 7) (hg7 : g.length ≤ 7) (pm : Option Addr) (cm : Nat) (pg : Option Addr) (cg : Nat) (w : World) (hM : IntsAt w pm (intsN m)) (hG : IntsAt w pg (intsN g)) :
    Calls Try.prog 51 #[.slice pm (intsN m).length cm, .slice pg (intsN g).length cg] w (GaveList (lackN g m m.length) w) := by
  obtain ⟨i0, hi, hi0, hi1, hi2⟩ := info_parts Try.infoInt
  obtain ⟨z0, hz0⟩ : ∃ z : Later w, w = z.w := ⟨⟨w, Below.refl _ _⟩, rfl⟩
  have HZ0 := Lib.hid hz0
  have HMC := Lib.hid (fun i (hi : i < m.length) => (by
    have h := hM i (by rw [intsN_len]; exact hi)
    rw [intsN_get hi] at h
    exact h : ∃ g o, pm = some ⟨g, o, none⟩ ∧ w.cell? ⟨g, o + i, none⟩ = some (.int .i64 ((m[i] : Nat) : Int))))
  obtain ⟨L, hL⟩ : ∃ L, lackN g m = L := ⟨_, rfl⟩
  have HL0 := Lib.hid (show L 0 = [] by rw [← hL]; rfl)
  have HLL := Lib.hid (fun k => (by rw [← hL]; exact lackN_length g m k : (L k).length ≤ k))
  have HLS := Lib.hid (fun k (hk : k < m.length) => (by rw [← hL]; exact lackN_succ g m k hk : L (k + 1) = if !decide (m[k] ∈ g) then L k ++ [m[k]] else L k))
  have HLE := Lib.hid (show L m.length = lackN g m m.length by rw [← hL])
  have HIX := Lib.hid (fun v w' (h : From w w') => Index_any pg cg (intsN g) v (by rw [intsN_len]; omega) w' (hG.below h.b))
  have HID := Lib.hid (fun v => index_in g v)
  clear hL hG
  rw [intsN_len]
  have z4 : (m.length : Int) ≤ 7 := by omega
  clear hz0 hM
  go_enter Try.func51, Try.ntmps51
  go_wp2_with fail
  go_loopw [5, 6] (fun ls i wr => ∃ (k : Nat) (x : Later w), k ≤ m.length ∧ i = .int .i64 (k : Int) ∧ wr.ownsRow w.heap.size 3 1 ls (intsN (L k)).length ((intsN (L k)).map (Value.int .i64)) ∧ wr = x.w) (fun _ i _ => m.length - (intOf i).toNat)
  case atStart => exact ⟨0, ⟨w, Below.refl _ _⟩, by omega, rfl, by rw [HL0.out]; exact World.ownsRow_nil _ _ _ _, rfl⟩
  case round =>
    obtain ⟨k, x, hk, rfl, hown, rfl⟩ := hrel
    obtain ⟨pl, cl, rfl⟩ := owns_slice hown
    have HO2 := Lib.hid hown
    clear hown
    have hzx := x.b.size
    by_cases hlt : k < m.length
    · have hll : (intsN (L k)).length ≤ 8 := by have := HLL.out k; rw [intsN_len]; omega
      have hs := HLS.out k hlt
      obtain ⟨bm, om, hpm, hmc⟩ := HMC.out k hlt
      obtain ⟨v, hv⟩ : ∃ v, m[k] = v := ⟨_, rfl⟩
      rw [hv] at hmc hs
      subst hpm
      have HS := Lib.hid hs
      have i1 : (0 : Int) ≤ (k : Int) := by omega
      have i2 : (k : Int) < (m.length : Int) := by omega
      have j1 : (0 : Int) ≤ (v : Int) := by omega
      have hid := HID.out v
      have HIN := Lib.hid (fun w' (h : From w w') => HIX.out (v : Int) w' h)
      obtain ⟨ix, hix⟩ : ∃ t, idxN (intsN g) (v : Int) = t := ⟨_, rfl⟩
      rw [hix] at hid HIN
      rw [← hid] at HS
      clear hid hix
      clear hv hs
      cases hin : decide (ix < 0)
      · rw [hin] at HS
        rw [if_neg (by simp)] at HS
        have hin2 := of_decide_eq_false hin
        clear hin
        go_wp2_with (first
          | (go_at_call 48; (with_reducible refine (HIN.out _ (Later.fr _)).mono ?_); rintro e u ⟨rfl, hu⟩; subst hu))
        go_roundw
        case rel => exact ⟨k + 1, x, by omega, by go_num, by rw [HS.out]; exact HO2.out, rfl⟩
        case measure => simp [intOf]; omega
      · rw [hin] at HS
        rw [if_pos rfl] at HS
        have hin2 := of_decide_eq_true hin
        clear hin
        go_wp2_with (first
          | (go_at_call 48; (with_reducible refine (HIN.out _ (Later.fr _)).mono ?_); rintro e u ⟨rfl, hu⟩; subst hu)
          | (at_builtin; (refine wpList_append_own _ rfl _ _ 27 rfl w.heap.size 3 i0 (.int .i64 0) 1 8 Try.underlying27 hi hi0 hi1 hi2 rfl (by decide) _ _ _ rfl (HO2.out.alloc _) ⟨x.w.heap.size, 0, none⟩ 1 1 [.int .i64 (v : Int)] rfl rfl (cell_one_new _ _ _) (by simp [Value.oneCell']) (by unfold maxLen; omega) (by omega) (by simp; omega) ?_); intro v' w2 hown' hgrow _; have HO3 := Lib.hid hown'; have hg2 : Below w.heap.size x.w w2 := ((Below.refl _ _).alloc (by omega) _).grown hgrow (by simp; omega) (fun k hk => (HO2.out.lt k hk).1); obtain ⟨x3, hx3⟩ := later_of (x.b.trans hg2); clear hg2 hown' hgrow))
        subst hx3
        go_roundw
        case rel => exact ⟨k + 1, x3, by omega, by go_num, by rw [HS.out]; simpa [intsN] using HO3.out, rfl⟩
        case measure => simp [intOf]; omega
    · obtain rfl : k = m.length := by omega
      obtain ⟨p', c', hv, hints, _⟩ := ints_of_owns2 HO2.out
      cases hv
      have HIN := Lib.hid hints
      clear hints
      go_wp2_with fail
      go_ret
      exact ⟨pl, cl, by rw [HLE.out]; rfl, by rw [← HLE.out]; exact HIN.out, x.b⟩
end Go.Proofs.Ytajkgfeockcbpaa
