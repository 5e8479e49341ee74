/- The law YardBest. -/
import Derived.Test.YtajkgfeockcbpaaY47
namespace Go.Proofs.Ytajkgfeockcbpaa
open Go.RowKit Go.Maps
attribute [local go_sem] Oper.semAt_some

def lowS (b : Yb) (l : List Nat) : Int := (l.map fun i => (lotAt b i).lo).sum
theorem low_succ (b : Yb) {l : List Nat} {k : Nat} (h : k < l.length) : lowS b (l.take (k + 1)) = lowS b (l.take k) + (lotAt b l[k]).lo := by
  unfold lowS
  rw [List.take_succ_eq_append_getElem h, List.map_append, List.sum_append]
  simp
theorem low_range {b : Yb} (hok : YbOk b) : ∀ {l : List Nat}, (∀ x ∈ l, x < b.lots.length) → 0 ≤ lowS b l ∧ lowS b l ≤ 99 * (l.length : Int)
  | [], _ => by simp [lowS]
  | x :: l, h => by
    have h1 := (lotB_iff.1 (lotAt_ok hok (h x (by simp)))).2
    have h2 := low_range hok (l := l) (fun y hy => h y (by simp [hy]))
    unfold lowS at h2 ⊢
    simp only [List.map_cons, List.sum_cons, List.length_cons]
    omega
theorem low_goods (b : Yb) (f : Nat → Bool) : goodsK b false f = lowS b (lotsL f) := rfl
theorem sum_filter (f : Nat → Int) (c : Nat → Bool) : ∀ l : List Nat, ((l.filter c).map f).sum = (l.map fun i => if c i then f i else 0).sum
  | [] => rfl
  | x :: l => by
    have ih := sum_filter f c l
    cases h : c x
    · simp [h, ih]
    · simp [h, ih]
theorem sum_with (f : Nat → Int) {c : Nat → Bool} {i : Nat} (hc : c i = false) : ∀ n, ((List.range n).map fun j => if withF c i j then f j else 0).sum = ((List.range n).map fun j => if c j then f j else 0).sum + (if i < n then f i else 0)
  | 0 => by simp
  | n + 1 => by
    have ih := sum_with f hc n
    rw [List.range_succ, List.map_append, List.map_append, List.sum_append, List.sum_append, ih]
    simp only [List.map_cons, List.map_nil, List.sum_cons, List.sum_nil]
    by_cases e : n = i
    · subst e
      simp [withF, hc]
    · have e1 : withF c i n = c n := by unfold withF; rw [if_neg e]
      rw [e1]
      generalize (if c n = true then f n else 0) = t
      generalize ((List.range n).map fun j => if c j = true then f j else 0).sum = s
      by_cases h : i < n
      · rw [if_pos h, if_pos (by omega)]; omega
      · rw [if_neg h, if_neg (by omega)]; omega
theorem goods_with {b : Yb} (k : Bool) {c : Nat → Bool} {i : Nat} (hc : c i = false) (hi : i < 7) : goodsK b k (withF c i) = goodsK b k c + roomK k (lotAt b i) := by
  unfold goodsK lotsL
  rw [sum_filter, sum_filter, sum_with (fun i => roomK k (lotAt b i)) hc, if_pos hi]
theorem more_lots {b : Yb} {c : Nat → Bool} {i : Nat} (h : moreF b c i = true) : i < b.lots.length ∧ c i = false ∧ allowK b false (withF c i) = true := by
  unfold moreF allF at h
  simp only [Bool.and_eq_true, decide_eq_true_eq, Bool.not_eq_true'] at h
  exact h
/-- What can be added to the best choice has no goods at least. -/
theorem more_low {b : Yb} (hn : b.lots.length ≤ 7) {i : Nat} (h : moreF b (bestK b false) i = true) : (lotAt b i).lo ≤ 0 := by
  obtain ⟨h1, h2, h3⟩ := more_lots h
  have h4 := (bestK_is (b := b) false hn).1.1
  have h5 := top_is false hn (c := withF (bestK b false) i) (fun j hj => by
    unfold withF at hj
    split at hj
    · omega
    · exact h4 j hj) h3
  have h6 := goods_with (b := b) false h2 (by omega)
  unfold topK at h5
  have h7 : roomK false (lotAt b i) = (lotAt b i).lo := rfl
  omega
/-- In which way another choice is no better. -/
theorem best_ways {b : Yb} (hn : b.lots.length ≤ 7) {m : Nat → Bool} (hm : ∀ i, m i = true → i < b.lots.length) :
    (kindN (fun k => allowK b k m) < 2) ∨ goodsK b false m < topK b false ∨ (goodsK b false m = topK b false ∧ (lotsL (bestK b false)).length < (lotsL m).length) ∨ (goodsK b false m = topK b false ∧ (lotsL m).length = (lotsL (bestK b false)).length ∧ earlier (intsN (lotsL m)) (intsN (lotsL (bestK b false))) = false) := by
  cases ha : allowK b false m
  · left
    rw [kindN_as (fun k => allowK b k m) false (allowK b true m) ha rfl]
    cases allowK b true m <;> simp
  · right
    have h := (bestK_is (b := b) false hn).2 m hm ha
    unfold betK betB at h
    unfold topK
    split at h
    · rename_i e
      right
      unfold befB at h
      rw [intsN_len, intsN_len] at h
      split at h
      · rename_i e2
        exact .inr ⟨e, e2, h⟩
      · rename_i e2
        simp only [decide_eq_false_iff_not] at h
        exact .inl ⟨e, by omega⟩
    · rename_i e
      simp only [decide_eq_false_iff_not] at h
      exact .inl (by omega)
def GaveMore (f : Nat → Bool) (w : World) (e : Ending) (w' : World) : Prop := ∃ q cq, e = .returned (.tuple #[.slice q (intsN (lotsL f)).length cq, .int .i64 0]) ∧ IntsAt w' q (intsN (lotsL f)) ∧ Below w.heap.size w w'
theorem more_good {b : Yb} {P : Yp} {w : World} (hb : yardB b = true) {f : Nat → Bool} (hf : ∀ i, f i = true → i < b.lots.length) (ha : allowK b false f = true) {q : Option Addr} {cq : Nat} (h : YbAt w P b) (hi : IntsAt w q (intsN (lotsL f))) :
    Calls Try.prog 30 #[.agg (ybA b P), .slice q (intsN (lotsL f)).length cq] w (GaveMore (moreF b f) w) := by
  have hl := lotsL_le f
  have hr := readL_told (yardB_ok hb).n7 f hf
  refine (more_api b P q cq (intsN (lotsL f)) (by rw [intsN_len]; omega) w h hi).mono ?_
  rintro e w' ⟨hbw, hr2⟩
  rcases hr2 with ⟨h1, _⟩ | ⟨_, h1, _⟩ | ⟨_, g, h1, h2⟩
  · rw [hb] at h1; cases h1
  · rw [hr] at h1; cases h1
  · rw [hr] at h1
    cases h1
    rcases h2 with ⟨h3, _⟩ | ⟨_, p, c, rfl, hi⟩
    · rw [ha] at h3; cases h3
    · exact ⟨p, c, rfl, hi, hbw⟩
/-- The cells of the numbers of lots. -/
theorem ints_get {w : World} {q : Option Addr} {l : List Nat} (h : IntsAt w q (intsN l)) {k : Nat} (hk : k < l.length) : ∃ g o, q = some ⟨g, o, none⟩ ∧ w.cell? ⟨g, o + k, none⟩ = some (.int .i64 ((l[k] : Nat) : Int)) := by
  have r := h k (by rw [intsN_len]; exact hk)
  rw [intsN_get hk] at r
  exact r
set_option maxRecDepth 100000 in
set_option maxHeartbeats 6400000 in
theorem YardBest_any (b : Yb) (P : Yp) (set : Int) (w : World) (hB : YbAt w P b)  :
    Calls Try.prog 8 #[.agg (ybA b P), .int .i64 set] w fun e w' => e = .returned (.bool true) ∧ Below w.heap.size w w' := by
  obtain ⟨pl, cl, pd, cd, pb, cb, ps, cs⟩ := P
  obtain ⟨W0, hW0⟩ : ∃ W, W = w.alloc (.cells (ybA b ⟨pl, cl, pd, cd, pb, cb, ps, cs⟩) 25) := ⟨_, rfl⟩
  have HW0 := Lib.hid hW0
  have HE := Lib.hid (show Below w.heap.size w W0 by rw [hW0]; exact below_alloc _ _)
  have HRx := Lib.hid (show Row W0 w.heap.size (ybA b ⟨pl, cl, pd, cd, pb, cb, ps, cs⟩) 25 by rw [hW0]; exact Row.new _ _ _)
  have HB := Lib.hid (hB.below HE.out)
  have hn61 := hB.n1
  clear hW0 hB
  cases hb : yardB b
  · have HSO := Lib.hid (sound_no b ⟨pl, cl, pd, cd, pb, cb, ps, cs⟩ W0 HB.out hb)
    clear hb
    go_enter Try.func8, Try.ntmps8
    go_upto_region 1 with (fail)
    rw [← HW0.out]
    go_wp2_with (first
      | (refine load_row rfl 25 _ rfl w.heap.size rfl 25 _ _ HRx.out Try.underlying25 rfl (by kernel_rfl) ?_)
      | (go_at_call 37; (with_reducible refine HSO.out.mono ?_); rintro e u ⟨rfl, hbu⟩; have HU := Lib.hid (HE.out.trans (hbu.mono HE.out.size)); clear hbu)
      | (go_at_call 22; (with_reducible refine (stacked_any _).mono ?_); rintro e v ⟨rfl, hbu⟩; have HV := Lib.hid (HU.out.trans (hbu.mono HU.out.size)); clear hbu))
    go_ret
    exact ⟨rfl, HV.out⟩
  have HSO := Lib.hid (sound_yes b ⟨pl, cl, pd, cd, pb, cb, ps, cs⟩ W0 HB.out hb)
  have HOK := Lib.hid (yardB_ok hb)
  have HBB := Lib.hid hb
  have hok := HOK.out
  have hL1 := hok.n1
  have hL7 := hok.n7
  have he0 := hok.e0
  have g0 := HRx.out.cell 0 (v := .slice pl b.lots.length cl) rfl
  have g1 := HRx.out.cell 1 (v := .slice pd b.doors.length cd) rfl
  have g2 := HRx.out.cell 2 (v := .slice pb b.buckets.length cb) rfl
  have g3 := HRx.out.cell 3 (v := .slice ps b.spare.length cs) rfl
  have g4 := HRx.out.cell 4 (v := .int .i64 b.apart) rfl
  have g5 := HRx.out.cell 5 (v := .int .i64 b.door) rfl
  have g6 := HRx.out.cell 6 (v := .int .i64 b.bucket) rfl
  have g7 := HRx.out.cell 7 (v := .int .i64 b.err) rfl
  have hbest := (bestK_is (b := b) false hL7).1
  have htop := top_ends hok
  have hmlt : ∀ i, drawnF b set i = true → i < b.lots.length := fun i h => drawnF_lt h
  have hways := best_ways hL7 hmlt
  have hmore : ∀ i, moreF b (bestK b false) i = true → i < b.lots.length := fun i h => (more_lots h).1
  have hmlow : ∀ i, moreF b (bestK b false) i = true → (lotAt b i).lo ≤ 0 := fun i h => more_low hL7 h
  have HBE := Lib.hid (fun w' (h : Below W0.heap.size W0 w') => best_good HBB.out (HB.out.below h))
  have HGO := Lib.hid (fun w' (h : Below W0.heap.size W0 w') => goods_good HBB.out (HB.out.below h))
  have HMO := Lib.hid (fun q cq w' (h : Below W0.heap.size W0 w') hi => more_good (q := q) (cq := cq) HBB.out hbest.1 hbest.2 (HB.out.below h) hi)
  have HDR := Lib.hid (fun w' => drawn_any b ⟨pl, cl, pd, cd, pb, cb, ps, cs⟩ hL7 set w')
  have HAL := Lib.hid (fun q cq w' (h : Below W0.heap.size W0 w') hi => allowed_good (q := q) (cq := cq) HBB.out hmlt (HB.out.below h) hi)
  have HGR := Lib.hid (fun q cq w' hi => Grows_any q cq (intsN (lotsL (bestK b false))) b.lots.length (by rw [intsN_len]; have := lotsL_le (bestK b false); omega) (by omega) w' hi (grown_lots hbest.1))
  have HGS := Lib.hid (fun q cq w' hi => Grows_any q cq (intsN (lotsL (moreF b (bestK b false)))) b.lots.length (by rw [intsN_len]; have := lotsL_le (moreF b (bestK b false)); omega) (by omega) w' hi (grown_lots hmore))
  have HEA := Lib.hid (fun p c q d w' h1 h2 => Earlier_any p q c d (intsN (lotsL (drawnF b set))) (intsN (lotsL (bestK b false))) w' (by rw [intsN_len]; have := lotsL_le (drawnF b set); unfold maxLen; omega) h1 h2)
  have hg1 : lowS b (lotsL (bestK b false)) = topK b false := rfl
  rw [low_goods] at hways
  obtain ⟨lo, hlo⟩ : ∃ v, topK b false = v := ⟨_, rfl⟩
  obtain ⟨hi, hhi⟩ : ∃ v, topK b true = v := ⟨_, rfl⟩
  rw [hlo] at HGO htop hways hg1
  rw [hhi] at HGO htop
  obtain ⟨F, hF⟩ : ∃ v, bestK b false = v := ⟨_, rfl⟩
  obtain ⟨m, hm⟩ : ∃ v, drawnF b set = v := ⟨_, rfl⟩
  rw [hF] at HBE HMO HGR HGS HEA hways hg1 hbest hmore hmlow
  rw [hm] at HDR HAL HEA hways hmlt
  obtain ⟨M, hM⟩ : ∃ v, moreF b F = v := ⟨_, rfl⟩
  rw [hM] at HMO HGS hmore hmlow
  obtain ⟨kd, hkd⟩ : ∃ v, kindN (fun k => allowK b k m) = v := ⟨_, rfl⟩
  rw [hkd] at HAL hways
  obtain ⟨ea, hea⟩ : ∃ v, earlier (intsN (lotsL m)) (intsN (lotsL F)) = v := ⟨_, rfl⟩
  rw [hea] at HEA hways
  obtain ⟨LF, hLF⟩ : ∃ v, lotsL F = v := ⟨_, rfl⟩
  obtain ⟨LM, hLM⟩ : ∃ v, lotsL m = v := ⟨_, rfl⟩
  obtain ⟨LQ, hLQ⟩ : ∃ v, lotsL M = v := ⟨_, rfl⟩
  have hF7 := lotsL_le F
  have hM7 := lotsL_le m
  have hQ7 := lotsL_le M
  have HXF := Lib.hid (fun x (hx : x ∈ lotsL F) => hbest.1 x (lotsL_mem.1 hx).2)
  have HXM := Lib.hid (fun x (hx : x ∈ lotsL m) => hmlt x (lotsL_mem.1 hx).2)
  have HXQ := Lib.hid (fun x (hx : x ∈ lotsL M) => hmore x (lotsL_mem.1 hx).2)
  have HXL := Lib.hid (fun x (hx : x ∈ lotsL M) => hmlow x (lotsL_mem.1 hx).2)
  unfold GaveBest at HBE
  unfold GaveMore at HMO
  unfold GaveSet at HDR
  rw [hLF] at HBE HMO HGR HEA hways hg1 hF7 HXF
  rw [hLM] at HDR HAL HEA hways hM7 HXM
  rw [hLQ] at HMO HGS hQ7 HXQ HXL
  have HWY := Lib.hid hways
  have HG1 := Lib.hid hg1
  clear hbest hmlt hways hmore hmlow hg1 hlo hhi hF hm hM hkd hea hLF hLM hLQ hb hok
  go_enter Try.func8, Try.ntmps8
  go_upto_region 1 with (fail)
  rw [← HW0.out]
  go_wp2_with (first
    | (go_at_call 37; (with_reducible refine HSO.out.mono ?_); rintro e u ⟨rfl, hbu⟩; obtain ⟨x0, hx0⟩ := later_of hbu; subst hx0; clear hbu)
    | (go_at_call 23; (with_reducible refine (HBE.out _ (Later.b _)).mono ?_); rintro e u ⟨q, cq, rfl, hi1, hbu⟩; have HIQ := Lib.hid hi1; obtain ⟨x1, hx1⟩ := x0.on hbu; subst hx1; clear hbu hi1)
    | (go_at_call 26; (with_reducible refine (HGO.out _ (Later.b _)).mono ?_); rintro e u ⟨rfl, hbu⟩; have HIQ := Lib.hid (HIQ.out.below hbu); obtain ⟨x2, hx2⟩ := x1.on hbu; subst hx2; clear hbu; have rS := Row.new x2.w #[.int .i64 lo, .int .i64 hi] 40; have HIQ := Lib.hid (HIQ.out.below (below_alloc x2.w (.cells #[.int .i64 lo, .int .i64 hi] 40))); obtain ⟨x3, hx3⟩ := x2.on (below_alloc x2.w (.cells #[.int .i64 lo, .int .i64 hi] 40)); rw [hx3] at rS HIQ; have HRS := Lib.hid rS; clear rS)
    | (refine store_new rfl 40 _ _ rfl #[.int .i64 lo, .int .i64 hi] #[.int .i64 0, .int .i64 0] 40 rfl rfl (by kernel_rfl) rfl (by simp [Value.oneCell']) ?_)
    | (go_at_call 30; (with_reducible refine (HMO.out _ _ _ (Later.b _) HIQ.out).mono ?_); rintro e u ⟨qr, cqr, rfl, hi1, hbu⟩; have HIQ := Lib.hid (HIQ.out.below hbu); have HIR := Lib.hid hi1; have HRS := Lib.hid (HRS.out.below hbu HRS.out.lt); obtain ⟨x4, hx4⟩ := x3.on hbu; subst hx4; clear hbu hi1)
    | (go_at_call 38; (with_reducible refine (HGR.out _ _ _ HIQ.out).mono ?_); rintro e u ⟨rfl, hbu⟩; have HIQ := Lib.hid (HIQ.out.below hbu); have HIR := Lib.hid (HIR.out.below hbu); have HRS := Lib.hid (HRS.out.below hbu HRS.out.lt); obtain ⟨x5, hx5⟩ := x4.on hbu; subst hx5; clear hbu)
    | (go_at_call 38; (with_reducible refine (HGS.out _ _ _ HIR.out).mono ?_); rintro e u ⟨rfl, hbu⟩; have HIQ := Lib.hid (HIQ.out.below hbu); have HIR := Lib.hid (HIR.out.below hbu); have HRS := Lib.hid (HRS.out.below hbu HRS.out.lt); obtain ⟨x6, hx6⟩ := x5.on hbu; subst hx6; clear hbu))
  obtain ⟨gS, hgS⟩ : ∃ n, x2.w.heap.size = n := ⟨_, rfl⟩
  rw [hgS] at HRS ⊢
  clear hgS
  obtain ⟨V, hV⟩ : ∃ V, x6.w = V := ⟨_, rfl⟩
  have KV := Lib.hid (show From W0 V by rw [← hV]; exact x6.fr)
  rw [hV] at HIQ HIR HRS ⊢
  clear hV
  have HBV := Lib.hid (HB.out.below KV.out.b)
  have g0V := KV.out.cell g0
  rw [intsN_len, intsN_len]
  have hFi : (LF.length : Int) ≤ 7 := by omega
  have hQi : (LQ.length : Int) ≤ 7 := by omega
  go_loopw [11, 12] (fun a i wr => ∃ (k : Nat) (x : Later V), k ≤ LF.length ∧ i = .int .i64 (k : Int) ∧ a = .int .i64 (lowS b (LF.take k)) ∧ wr = x.w) (fun _ i _ => LF.length - (intOf i).toNat)
  case atStart => exact ⟨0, ⟨V, Below.refl _ _⟩, by omega, rfl, rfl, rfl⟩
  case round =>
    obtain ⟨k, x, hk, rfl, rfl, rfl⟩ := hrel
    by_cases hlt : k < LF.length
    · obtain ⟨bm, om, hpm, hmc⟩ := ints_get HIQ.out hlt
      have hvl := HXF.out _ (List.getElem_mem hlt)
      have hss := low_succ b hlt
      have hrg := low_range HOK.out (l := LF.take k) (fun y hy => HXF.out y (List.mem_of_mem_take hy))
      have hle : (LF.take k).length ≤ 7 := by simp; omega
      obtain ⟨v, hv⟩ : ∃ v, LF[k] = v := ⟨_, rfl⟩
      rw [hv] at hmc hvl hss
      obtain ⟨bl, ol, hpl, _, _, l2, l3⟩ := HBV.out.l.at hvl
      have hlv := (lotB_iff.1 (lotAt_ok HOK.out hvl)).2
      dsimp only at hpl
      generalize (lotAt b v).lo = lo' at *
      generalize (lotAt b v).hi = hi' at *
      have HS := Lib.hid hss
      obtain ⟨sv, hsv⟩ : ∃ t, lowS b (LF.take k) = t := ⟨_, rfl⟩
      rw [hsv] at HS hrg ⊢
      have i1 : (0 : Int) ≤ (k : Int) := by omega
      have i2 : (k : Int) < (LF.length : Int) := by omega
      have j1 : (0 : Int) ≤ (v : Int) := by omega
      have j2 : (v : Int) < (b.lots.length : Int) := by omega
      have e1 : IntKind.i64.wrap (sv + lo') = sv + lo' := IntWalk.i64_in _ (by omega)
      subst hpm hpl
      clear hv hss hsv hrg hle hlv
      go_wp2_with fail
      refine wp_region_later (by kernel_rfl) (by kernel_rfl) ?_
      repeat (go_big_quiet_step (fail))
      refine wpQuiet_nil ?_
      intro _ hw'
      obtain ⟨y, hw''⟩ := hw'
      subst hw''
      obtain ⟨x9, hx9⟩ := x.up y
      rw [hx9]
      clear hx9
      go_wp2_with fail
      go_roundw
      case rel => exact ⟨k + 1, x9, by omega, by go_num, by rw [HS.out], rfl⟩
      case measure => simp [intOf]; omega
    · obtain rfl : k = LF.length := by omega
      rw [List.take_length]
      rw [HG1.out]
      go_wp2_with fail
      go_loopw [13] (fun i wr => ∃ (k : Nat) (x : Later V), k ≤ LQ.length ∧ i = .int .i64 (k : Int) ∧ wr = x.w) (fun i _ => LQ.length - (intOf i).toNat)
      case atStart => exact ⟨0, x, by omega, rfl, rfl⟩
      case round =>
        clear x
        obtain ⟨k, x, hk, rfl, rfl⟩ := hrel
        by_cases hlt : k < LQ.length
        · obtain ⟨bm, om, hpm, hmc⟩ := ints_get HIR.out hlt
          have hvl := HXQ.out _ (List.getElem_mem hlt)
          have hll := HXL.out _ (List.getElem_mem hlt)
          obtain ⟨v, hv⟩ : ∃ v, LQ[k] = v := ⟨_, rfl⟩
          rw [hv] at hmc hvl hll
          obtain ⟨bl, ol, hpl, _, _, l2, l3⟩ := HBV.out.l.at hvl
          dsimp only at hpl
          generalize (lotAt b v).lo = lo' at *
          have hl2 : ¬ 0 < lo' := by omega
          have hl3 := eq_false hl2
          have i1 : (0 : Int) ≤ (k : Int) := by omega
          have i2 : (k : Int) < (LQ.length : Int) := by omega
          have j1 : (0 : Int) ≤ (v : Int) := by omega
          have j2 : (v : Int) < (b.lots.length : Int) := by omega
          subst hpm hpl
          clear hv
          go_wp2_with fail
          refine wp_region_later (by kernel_rfl) (by kernel_rfl) ?_
          repeat (go_big_quiet_step (fail))
          refine wpQuiet_nil ?_
          intro _ hw'
          obtain ⟨y, hw''⟩ := hw'
          subst hw''
          obtain ⟨x9, hx9⟩ := x.up y
          rw [hx9]
          clear hx9
          go_wp2_with fail
          go_roundw
          case rel => exact ⟨k + 1, x9, by omega, by go_num, rfl⟩
          case measure => simp [intOf]; omega
        · obtain rfl : k = LQ.length := by omega
          have HIQ := Lib.hid (HIQ.out.below x.b)
          have HRS := Lib.hid (HRS.out.below x.b HRS.out.lt)
          obtain ⟨z0, hz0⟩ := later_of (W := W0) (KV.out.below x.b).b
          rw [hz0] at HIQ HRS ⊢
          clear hz0 HIR x g0V HBV KV
          go_wp2_with (first
            | (go_at_call 42; (with_reducible refine (HDR.out _).mono ?_); rintro e u ⟨qm, cqm, rfl, hi1, hbu⟩; have HIM := Lib.hid hi1; have HIQ := Lib.hid (HIQ.out.below hbu); have HRS := Lib.hid (HRS.out.below hbu HRS.out.lt); obtain ⟨z1, hz1⟩ := z0.on hbu; subst hz1; clear hbu hi1)
            | (go_at_call 20; (with_reducible refine (HAL.out _ _ _ (Later.b _) HIM.out).mono ?_); rintro e u ⟨rfl, hbu⟩; have HIQ := Lib.hid (HIQ.out.below hbu); have HIM := Lib.hid (HIM.out.below hbu); have HRS := Lib.hid (HRS.out.below hbu HRS.out.lt); obtain ⟨z2, hz2⟩ := z1.on hbu; subst hz2; clear hbu))
          obtain ⟨V2, hV⟩ : ∃ V, z2.w = V := ⟨_, rfl⟩
          have KV := Lib.hid (show From W0 V2 by rw [← hV]; exact z2.fr)
          rw [hV] at HIQ HIM HRS ⊢
          clear hV
          have HBV := Lib.hid (HB.out.below KV.out.b)
          have g0V := KV.out.cell g0
          have c0 := HRS.out.cell 0 (v := .int .i64 lo) rfl
          have c1 := HRS.out.cell 1 (v := .int .i64 hi) rfl
          rw [intsN_len]
          have hMi : (LM.length : Int) ≤ 7 := by omega
          go_loopw [17, 18] (fun a i wr => ∃ (k : Nat) (x : Later V2), k ≤ LM.length ∧ i = .int .i64 (k : Int) ∧ a = .int .i64 (lowS b (LM.take k)) ∧ wr = x.w) (fun _ i _ => LM.length - (intOf i).toNat)
          case atStart => exact ⟨0, ⟨V2, Below.refl _ _⟩, by omega, rfl, rfl, rfl⟩
          case round =>
            obtain ⟨k, x, hk, rfl, rfl, rfl⟩ := hrel
            by_cases hlt : k < LM.length
            · obtain ⟨bm, om, hpm, hmc⟩ := ints_get HIM.out hlt
              have hvl := HXM.out _ (List.getElem_mem hlt)
              have hss := low_succ b hlt
              have hrg := low_range HOK.out (l := LM.take k) (fun y hy => HXM.out y (List.mem_of_mem_take hy))
              have hle : (LM.take k).length ≤ 7 := by simp; omega
              obtain ⟨v, hv⟩ : ∃ v, LM[k] = v := ⟨_, rfl⟩
              rw [hv] at hmc hvl hss
              obtain ⟨bl, ol, hpl, _, _, l2, l3⟩ := HBV.out.l.at hvl
              have hlv := (lotB_iff.1 (lotAt_ok HOK.out hvl)).2
              dsimp only at hpl
              generalize (lotAt b v).lo = lo' at *
              generalize (lotAt b v).hi = hi' at *
              have HS := Lib.hid hss
              obtain ⟨sv, hsv⟩ : ∃ t, lowS b (LM.take k) = t := ⟨_, rfl⟩
              rw [hsv] at HS hrg ⊢
              have i1 : (0 : Int) ≤ (k : Int) := by omega
              have i2 : (k : Int) < (LM.length : Int) := by omega
              have j1 : (0 : Int) ≤ (v : Int) := by omega
              have j2 : (v : Int) < (b.lots.length : Int) := by omega
              have e1 : IntKind.i64.wrap (sv + lo') = sv + lo' := IntWalk.i64_in _ (by omega)
              subst hpm hpl
              clear hv hss hsv hrg hle hlv
              go_wp2_with fail
              refine wp_region_later (by kernel_rfl) (by kernel_rfl) ?_
              repeat (go_big_quiet_step (fail))
              refine wpQuiet_nil ?_
              intro _ hw'
              obtain ⟨y, hw''⟩ := hw'
              subst hw''
              obtain ⟨x9, hx9⟩ := x.up y
              rw [hx9]
              clear hx9
              go_wp2_with fail
              go_roundw
              case rel => exact ⟨k + 1, x9, by omega, by go_num, by rw [HS.out], rfl⟩
              case measure => simp [intOf]; omega
            · obtain rfl : k = LM.length := by omega
              rw [List.take_length]
              have hhi : ¬ hi < lo := by omega
              obtain ⟨nv, hnv⟩ : ∃ v, lowS b LM = v := ⟨_, rfl⟩
              have hw := HWY.out
              rw [hnv] at hw ⊢
              clear hnv HWY HG1
              have KX := Lib.hid (show Below w.heap.size w V2 from HE.out.trans (KV.out.b.mono HE.out.size))
              by_cases hk2 : kd < 2
              · go_wp2_with (first
                  | (go_at_call 22; (with_reducible refine (stacked_any _).mono ?_); rintro e u ⟨rfl, hbu⟩; obtain ⟨x2', hx2'⟩ := x.on hbu; subst hx2'; clear hbu))
                go_ret
                exact ⟨rfl, x2'.base KX.out⟩
              · have hk3 := eq_false hk2
                rcases hw with h | h | ⟨h1, h2⟩ | ⟨h1, h2, h3⟩
                · exact absurd h hk2
                · go_wp2_with (first
                    | (go_at_call 22; (with_reducible refine (stacked_any _).mono ?_); rintro e u ⟨rfl, hbu⟩; obtain ⟨x2', hx2'⟩ := x.on hbu; subst hx2'; clear hbu))
                  go_ret
                  exact ⟨rfl, x2'.base KX.out⟩
                · subst h1
                  have hli : (LF.length : Int) < (LM.length : Int) := by omega
                  go_wp2_with (first
                    | (go_at_call 22; (with_reducible refine (stacked_any _).mono ?_); rintro e u ⟨rfl, hbu⟩; obtain ⟨x2', hx2'⟩ := x.on hbu; subst hx2'; clear hbu))
                  go_ret
                  exact ⟨rfl, x2'.base KX.out⟩
                · subst h1 h3
                  have hl1 : ¬ (LF.length : Int) < (LM.length : Int) := by omega
                  have hl2 := eq_false hl1
                  have hl3 : ((LM.length : Int) == (LF.length : Int)) = true := by rw [h2]; simp
                  clear h2
                  simp only [intsN_len] at HEA
                  go_wp2_with (first
                    | (go_at_call 46; (with_reducible refine (HEA.out _ _ _ _ _ (HIM.out.below (Later.b _)) (HIQ.out.below (Later.b _))).mono ?_); rintro e u ⟨rfl, hbu⟩; obtain ⟨x1', hx1'⟩ := x.on hbu; subst hx1'; clear hbu)
                    | (go_at_call 22; (with_reducible refine (stacked_any _).mono ?_); rintro e u ⟨rfl, hbu⟩; obtain ⟨x2', hx2'⟩ := x1'.on hbu; subst hx2'; clear hbu))
                  go_ret
                  exact ⟨rfl, x2'.base KX.out⟩
end Go.Proofs.Ytajkgfeockcbpaa
