/- The walks of layer 6: a yard with the map of its distances. -/
import Derived.Test.YtajkgfeockcbpaaY18
namespace Go.Proofs.Ytajkgfeockcbpaa
open Go.RowKit Go.Maps
attribute [local go_sem] Oper.semAt_some

theorem keeps_grown {w w' : World} {m : Nat} (hg : w.grownBy w' (some m)) (M : Nat → Prop) (hM : M m) : KeepsBut M w w' :=
  ⟨hg.os, hg.tape, hg.output, hg.size, fun k hk hn => hg.block k hk (fun e => hn (by cases e; exact hM))⟩
/-- The distances of the first so many from all, and those of the next one from so many. -/
def farF (L E : List (Int × Int)) (k j : Nat) (s t : Int × Int) : Bool := ((L.take k).contains s && E.contains t) || (decide (L[k]? = some s) && (E.take j).contains t)
theorem farF_zero (L E : List (Int × Int)) (s t : Int × Int) (h : farF L E 0 0 s t = true) : False := by simp [farF] at h
theorem farF_step {L E : List (Int × Int)} {k j : Nat} (hk : k < L.length) (hj : j < E.length) (s t : Int × Int) (h : farF L E k (j + 1) s t = true) : (farF L E k j s t || (decide (s = L[k]) && decide (t = E[j]))) = true := by
  simp only [farF, Bool.or_eq_true, Bool.and_eq_true, decide_eq_true_eq, List.contains_iff_mem] at h ⊢
  rcases h with h | ⟨h1, h2⟩
  · exact .inl (.inl h)
  · rw [List.take_succ_eq_append_getElem hj, List.mem_append, List.mem_singleton] at h2
    rcases h2 with h2 | h2
    · exact .inl (.inr ⟨h1, h2⟩)
    · rw [List.getElem?_eq_getElem hk] at h1
      exact .inr ⟨(Option.some.inj h1).symm, h2⟩
theorem farF_next {L E : List (Int × Int)} {k : Nat} (hk : k < L.length) (s t : Int × Int) (h : farF L E (k + 1) 0 s t = true) : farF L E k E.length s t = true := by
  simp only [farF, Bool.or_eq_true, Bool.and_eq_true, decide_eq_true_eq, List.contains_iff_mem, List.take_length, List.take_zero, List.not_mem_nil, and_false, or_false] at h ⊢
  obtain ⟨h1, h2⟩ := h
  rw [List.take_succ_eq_append_getElem hk, List.mem_append, List.mem_singleton] at h1
  rcases h1 with h1 | h1
  · exact .inl ⟨h1, h2⟩
  · exact .inr ⟨by rw [List.getElem?_eq_getElem hk, h1], h2⟩
theorem farF_all (b : Yb) (s t : Int × Int) (h : keyB b s t = true) : farF (lotSp b) (endSp b) b.lots.length 0 s t = true := by
  have e : b.lots.length = (lotSp b).length := by simp [lotSp]
  unfold farF
  rw [e, List.take_length]
  unfold keyB at h
  rw [h]
  rfl
theorem cell_kept {w w' : World} {b o : Nat} {v : Value} (c : w.cell? ⟨b, o, none⟩ = some v) (h : Below w.heap.size w w') : w'.cell? ⟨b, o, none⟩ = some v := by
  rw [(bcell h).1 b _ (by have := cell_block c; exact this)]; exact c
theorem setRow_far {w : World} {g m : Nat} {cs : Array Value} (h : m ≠ g) : (w.setRow g cs).heap[m]? = w.heap[m]? := _root_.Go.setRow_other w g m cs h
/-- A yard with the map of its distances is returned. -/
def GaveYk (b : Yb) (P : Yp) (w : World) (e : Ending) (w' : World) : Prop :=
  ∃ mb, e = .returned (.agg (ykA b P mb)) ∧ FarAt w' mb 1000 (keyB b) b.err ∧ w.heap.size ≤ mb ∧ Below w.heap.size w w'
abbrev ykZ : Array Value := #[.slice none 0 0, .slice none 0 0, .slice none 0 0, .slice none 0 0, .int .i64 0, .int .i64 0, .int .i64 0, .int .i64 0, .map none]
theorem lotSp_get {b : Yb} {k : Nat} (h : k < b.lots.length) : (lotSp b).take (k + 1) = (lotSp b).take k ++ [b.lots[k].sp] := by
  rw [List.take_succ_eq_append_getElem (by simpa [lotSp] using h)]
  simp [lotSp]
theorem SpotsAt.fromB {w w' : World} {p : Option Addr} {l : List (Int × Int)} {m : Nat} (h : SpotsAt w p l) (k : FromB m w w') (hm : ∀ q o, p = some ⟨q, o, none⟩ → q ≠ m) : SpotsAt w' p l := by
  intro i hi
  obtain ⟨b, o, hp, h0, h1⟩ := h i hi
  have hn := hm b o hp
  exact ⟨b, o, hp, k.cell h0 hn, k.cell h1 hn⟩
set_option maxRecDepth 100000 in
set_option maxHeartbeats 6400000 in
theorem open_any (b : Yb) (P : Yp) (w : World) (hB : YbAt w P b) (hok : YbOk b) :
    Calls Try.prog 94 #[.agg (ybA b P)] w (GaveYk b P w) := by
  obtain ⟨pl, cl, pd, cd, pb, cb, ps, cs⟩ := P
  obtain ⟨W0, hW0⟩ : ∃ W, W = (((w.alloc (.cells (ybA b ⟨pl, cl, pd, cd, pb, cb, ps, cs⟩) 25)).alloc (.cells ykZ 83)).alloc (.map #[] 0)).alloc (.cells (ykA b ⟨pl, cl, pd, cd, pb, cb, ps, cs⟩ (w.heap.size + 1 + 1)) 83) := ⟨_, rfl⟩
  have HW0 := Lib.hid hW0
  have HE := Lib.hid (show Below w.heap.size w W0 by rw [hW0]; exact (below_alloc3 _ _ _ _).alloc (by simp; omega) _)
  have hz0 : W0.heap.size = w.heap.size + 4 := by rw [hW0]; simp
  have rB : Row W0 w.heap.size (ybA b ⟨pl, cl, pd, cd, pb, cb, ps, cs⟩) 25 := by rw [hW0]; exact (((Row.new _ _ _).alloc _).alloc _).alloc _
  have rR : Row W0 (w.heap.size + 1) ykZ 83 := by rw [hW0]; exact ((Row.new1 _ _ _ _).alloc _).alloc _
  have rK : Row W0 (w.heap.size + 1 + 1 + 1) (ykA b ⟨pl, cl, pd, cd, pb, cb, ps, cs⟩ (w.heap.size + 1 + 1)) 83 := by rw [hW0]; exact Row.new' (by simp) _ _
  have hS0 : FarAt W0 (w.heap.size + 1 + 1) 0 (fun _ _ => false) b.err := by
    rw [hW0]
    have h := (FarAt.made ((w.alloc (.cells (ybA b ⟨pl, cl, pd, cd, pb, cb, ps, cs⟩) 25)).alloc (.cells ykZ 83)) b.err).below (below_alloc _ (.cells (ykA b ⟨pl, cl, pd, cd, pb, cb, ps, cs⟩ (w.heap.size + 1 + 1)) 83))
    simp only [World.size_alloc] at h
    exact h
  have hB0 := hB.below HE.out
  obtain ⟨Wb, hWb⟩ : ∃ W, W = W0.alloc (.cells #[.slice pd b.doors.length cd, .slice pb b.buckets.length cb] 23) := ⟨_, rfl⟩
  have HWB := Lib.hid hWb
  have hbb : Below W0.heap.size W0 Wb := by rw [hWb]; exact below_alloc _ _
  have hzb : Wb.heap.size = W0.heap.size + 1 := by rw [hWb]; simp
  have rN : Row Wb W0.heap.size #[.slice pd b.doors.length cd, .slice pb b.buckets.length cb] 23 := by rw [hWb]; exact Row.new _ _ _
  have HB := Lib.hid (hB0.below hbb)
  have HCC := Lib.hid (concat_any (some ⟨w.heap.size + 4, 0, none⟩) 2 [(pd, cd, b.doors), (pb, cb, b.buckets)] Wb (by
    intro i hi
    have hi : i < 2 := hi
    obtain rfl | rfl : i = 0 ∨ i = 1 := by omega
    · exact ⟨w.heap.size + 4, 0, rfl, by rw [← hz0]; exact rN.cell 0 rfl, HB.out.d⟩
    · exact ⟨w.heap.size + 4, 0, rfl, by rw [← hz0]; exact rN.cell 1 rfl, HB.out.u⟩) (show 2 ≤ 100 by omega) (by have := hok.d3; have := hok.b4; simp [catL]; omega))
  rw [show catL [(pd, cd, b.doors), (pb, cb, b.buckets)] = b.doors ++ b.buckets by simp [catL], show [(pd, cd, b.doors), (pb, cb, b.buckets)].length = 2 from rfl] at HCC
  have HHE := Lib.hid (show Below w.heap.size w Wb from HE.out.trans (hbb.mono (by omega)))
  have RB := Lib.hid (rB.below hbb (by omega))
  have RR := Lib.hid (rR.below hbb (by omega))
  have RK := Lib.hid (rK.below hbb (by omega))
  have HS0 := Lib.hid (hS0.below hbb)
  have HOK := Lib.hid hok
  have hn7 := hok.n7
  have hl3 : (b.doors ++ b.buckets).length ≤ 7 := by have := hok.d3; have := hok.b4; simp; omega
  have HL3 := Lib.hid hl3
  have hmm := @run_makeMap Try.prog
  have HBW := Lib.hid hB
  have b1 := rB.cell 1 (v := .slice pd b.doors.length cd) rfl
  have b2 := rB.cell 2 (v := .slice pb b.buckets.length cb) rfl
  clear hB hok hW0 rB rR rK hS0 hB0 hWb hbb rN
  go_enter Try.func94, Try.ntmps94
  go_upto_region 2 with (fail)
  clear hmm
  rw [← HW0.out]
  go_wp2_with (first | (go_at_call 98; rw [← HWB.out]; (with_reducible refine HCC.out.mono ?_); rintro e u ⟨v0, rfl, hown, hbu⟩; have HO0 := Lib.hid hown; obtain ⟨x0, hx0⟩ := later_of hbu; subst hx0; have bb0 := (RB.out.below x0.b RB.out.lt).cell 0 (v := .slice pl b.lots.length cl) rfl; clear hown hbu))
  clear bb0 b1 b2 HCC
  go_loopw [4, 24] (fun ns i wr => ∃ k : Nat, k ≤ b.lots.length ∧ i = .int .i64 k ∧ OwnSp wr Wb.heap.size ns (b.doors ++ b.buckets ++ (lotSp b).take k) ∧ ∃ x : Later Wb, wr = x.w) (fun _ i _ => b.lots.length - (intOf i).toNat)
  case atStart => exact ⟨0, by omega, rfl, by simpa using HO0.out, x0, rfl⟩
  case round =>
    clear HO0 x0
    obtain ⟨k, hk, rfl, hown, x, rfl⟩ := hrel
    have HO := Lib.hid hown
    clear hown
    by_cases hlt : k < b.lots.length
    · obtain ⟨bq, oq, hp, q0, q1, q2, q3⟩ := HB.out.l k hlt
      dsimp only at hp
      have HSG := Lib.hid (lotSp_get hlt)
      obtain ⟨lt, hlot⟩ : ∃ l, b.lots[k] = l := ⟨_, rfl⟩
      rw [hlot] at q0 q1 q2 q3 HSG
      obtain ⟨⟨s0, s1⟩, lo, hi⟩ := lt
      have i1 : (0 : Int) ≤ (k : Int) := by omega
      have i2 : (k : Int) < (b.lots.length : Int) := by omega
      have HB2 := Lib.hid (below_alloc2 x.w (.cells #[.int .i64 s0, .int .i64 s1, .int .i64 lo, .int .i64 hi] 64) (.cells #[.int .i64 s0, .int .i64 s1] 62))
      have rS := Row.new1 x.w (.cells #[.int .i64 s0, .int .i64 s1, .int .i64 lo, .int .i64 hi] 64) #[.int .i64 s0, .int .i64 s1] 62
      obtain ⟨v', w9, hr, ho, hb⟩ := append_spots ((x.w.alloc (.cells #[.int .i64 s0, .int .i64 s1, .int .i64 lo, .int .i64 hi] 64)).alloc (.cells #[.int .i64 s0, .int .i64 s1] 62)) Wb.heap.size (Nat.le_trans x.b.size HB2.out.size) _ _ (owns_below HO.out HB2.out) (some ⟨x.w.heap.size + 1, 0, none⟩) 1 [(s0, s1)] (by
        intro i hi
        obtain rfl : i = 0 := by simpa using hi
        exact ⟨_, 0, rfl, rS.cell 0 rfl, rS.cell 1 rfl⟩) (by rw [List.length_append, List.length_take]; have := HL3.out; simp only [List.length_cons, List.length_nil]; omega) 23
      rw [List.append_assoc, ← HSG.out] at ho
      have HR := Lib.hid hr
      have HO9 := Lib.hid ho
      obtain ⟨x9, hx9⟩ := later_of ((x.b.trans (HB2.out.mono x.b.size)).trans hb)
      subst hx9
      subst hp
      clear hr ho hb hlot rS
      go_wp2_with (first | (at_builtin; refine wpList_append_run rfl _ _ _ _ rfl _ _ _ rfl rfl HR.out ?_))
      go_roundw
      case rel => exact ⟨k + 1, by omega, by go_num, HO9.out, x9, rfl⟩
      case measure => simp [intOf]; omega
    · obtain rfl : k = b.lots.length := by omega
      rw [show (lotSp b).take b.lots.length = lotSp b by rw [show b.lots.length = (lotSp b).length by simp [lotSp], List.take_length]] at HO
      obtain ⟨p0, c0, hv0, hsp, _, _, hpb, _⟩ := spots_of_owns HO.out
      rw [show b.doors ++ b.buckets ++ lotSp b = endSp b from rfl] at hsp hv0
      have HEL := Lib.hid (show (endSp b).length ≤ 14 by unfold endSp; rw [List.length_append]; have := HL3.out; simp [lotSp] at this ⊢; omega)
      have HSE := Lib.hid (show ∀ s ∈ endSp b, spB s = true from fun s hs => by
        simp only [endSp, lotSp, List.mem_append, List.mem_map] at hs
        rcases hs with (hs | hs) | ⟨l, hl, rfl⟩
        · exact HOK.out.sd s hs
        · exact HOK.out.sb s hs
        · exact (lotB_iff.1 (HOK.out.l l hl)).1)
      have HSL := Lib.hid (show ∀ l ∈ b.lots, spB l.sp = true from fun l hl => (lotB_iff.1 (HOK.out.l l hl)).1)
      have HLS := Lib.hid (show (lotSp b).length = b.lots.length by simp [lotSp])
      have HLG := Lib.hid (fun k (h : k < b.lots.length) (h' : k < (lotSp b).length) => (show (lotSp b)[k] = b.lots[k].sp by simp [lotSp]))
      have HFA := Lib.hid (farF_all b)
      generalize hEE : endSp b = E at *
      generalize hLL : lotSp b = L at *
      have HB2 := Lib.hid (HB.out.below x.b)
      have RB2 := Lib.hid (RB.out.below x.b RB.out.lt)
      have RR2 := Lib.hid (RR.out.below x.b RR.out.lt)
      have RK2 := Lib.hid (RK.out.below x.b RK.out.lt)
      have HS2 := Lib.hid (HS0.out.below x.b)
      have HE2 := Lib.hid (x.base HHE.out)
      have HSP := Lib.hid hsp
      have HPB := Lib.hid (show ∀ q o, p0 = some ⟨q, o, none⟩ → q ≠ w.heap.size + 1 + 1 from fun q o e => by have := (hpb q o e).1; omega)
      have hxz := x.b.size
      obtain ⟨W2, hW2⟩ : ∃ W, x.w = W := ⟨_, rfl⟩
      rw [hW2] at HB2 RB2 RR2 RK2 HS2 HE2 HSP hxz ⊢
      subst hv0
      clear hsp HO hW2 x RB RR RK HS0 HHE HB hpb HWB HW0
      have bb0 := RB2.out.cell 0 (v := .slice pl b.lots.length cl) rfl
      go_wp2_with fail
      clear bb0
      go_loopw [37] (fun i wr => ∃ k : Nat, k ≤ b.lots.length ∧ i = .int .i64 k ∧ FarAt wr (w.heap.size + 1 + 1) (14 * k) (farF L E k 0) b.err ∧ FromB (w.heap.size + 1 + 1) W2 wr) (fun i _ => b.lots.length - (intOf i).toNat)
      case atStart => exact ⟨0, by omega, rfl, HS2.out.congr (fun s t h => (farF_zero L E s t h).elim), FromB.refl _ _⟩
      case round =>
        obtain ⟨k, hk, rfl, hsu, hkb⟩ := hrel
        have HSU := Lib.hid hsu
        have HKB := Lib.hid hkb
        clear hsu hkb
        by_cases hlt : k < b.lots.length
        · obtain ⟨bq, oq, hp, q0, q1, q2, q3⟩ := HBW.out.l k hlt
          dsimp only at hp
          have HKL := Lib.hid (show k < L.length by rw [HLS.out]; exact hlt)
          have HLK := Lib.hid (HLG.out k hlt HKL.out)
          have HSK := Lib.hid (HSL.out _ (List.getElem_mem hlt))
          obtain ⟨lt, hlot⟩ : ∃ l, b.lots[k] = l := ⟨_, rfl⟩
          rw [hlot] at q0 q1 q2 q3 HLK HSK
          obtain ⟨⟨s0, s1⟩, lo, hi⟩ := lt
          have i1 : (0 : Int) ≤ (k : Int) := by omega
          have i2 : (k : Int) < (b.lots.length : Int) := by omega
          subst hp
          have hbq : bq < w.heap.size := cell_block q0
          have q0 := HKB.out.cell (cell_kept q0 HE2.out) (show bq ≠ w.heap.size + 1 + 1 by omega)
          have q1 := HKB.out.cell (cell_kept q1 HE2.out) (show bq ≠ w.heap.size + 1 + 1 by omega)
          have q2 := HKB.out.cell (cell_kept q2 HE2.out) (show bq ≠ w.heap.size + 1 + 1 by omega)
          have q3 := HKB.out.cell (cell_kept q3 HE2.out) (show bq ≠ w.heap.size + 1 + 1 by omega)
          have hszr : W2.heap.size ≤ wr.heap.size := HKB.out.k.size
          go_wp2_with fail
          have hb3 := below_alloc wr (.cells #[.int .i64 s0, .int .i64 s1, .int .i64 lo, .int .i64 hi] 64)
          have RLL := Lib.hid (Row.new wr #[.int .i64 s0, .int .i64 s1, .int .i64 lo, .int .i64 hi] 64)
          have HSU3 := Lib.hid (HSU.out.below hb3)
          have HKB3 := Lib.hid (HKB.out.below hb3)
          have hz3 := hb3.size
          clear q0 q1 q2 q3 hb3 HSU HKB
          change Code.wp _ _ _ _ (wr.alloc (.cells #[.int .i64 s0, .int .i64 s1, .int .i64 lo, .int .i64 hi] 64))
          generalize wr.alloc (.cells #[.int .i64 s0, .int .i64 s1, .int .i64 lo, .int .i64 hi] 64) = W3 at *
          generalize hbl : wr.heap.size = bl at *
          go_loopw [43] (fun i wr => ∃ j : Nat, j ≤ E.length ∧ i = .int .i64 j ∧ FarAt wr (w.heap.size + 1 + 1) (14 * k + j) (farF L E k j) b.err ∧ FromB (w.heap.size + 1 + 1) W3 wr) (fun i _ => E.length - (intOf i).toNat)
          case atStart => exact ⟨0, by omega, rfl, HSU3.out, FromB.refl _ _⟩
          case round =>
            clear HSU3
            obtain ⟨j, hj, rfl, hsu, hkb⟩ := hrel
            have HSU := Lib.hid hsu
            have HKB := Lib.hid hkb
            clear hsu hkb
            have hszj := HKB.out.k.size
            by_cases hlj : j < E.length
            · obtain ⟨bs, os, hps, e0, e1⟩ := HSP.out j hlj
              have HSJ := Lib.hid (HSE.out _ (List.getElem_mem hlj))
              have HEJ := Lib.hid (show E[j] = E[j] from rfl)
              have hbs := HPB.out bs os hps
              obtain ⟨et, het⟩ : ∃ l, E[j] = l := ⟨_, rfl⟩
              have HET := Lib.hid het
              rw [het] at e0 e1 HSJ
              obtain ⟨t0, t1⟩ := et
              subst hps
              have e0 := HKB.out.cell (HKB3.out.cell e0 hbs) hbs
              have e1 := HKB.out.cell (HKB3.out.cell e1 hbs) hbs
              have l0 := (HKB.out.row RLL.out (by omega)).cell 0 (v := .int .i64 s0) rfl
              have l1 := (HKB.out.row RLL.out (by omega)).cell 1 (v := .int .i64 s1) rfl
              have j1 : (0 : Int) ≤ (j : Int) := by omega
              have j2 : (j : Int) < (E.length : Int) := by omega
              have j3 : (E.length : Int) ≤ 14 := by have := HEL.out; omega
              clear het
              go_wp2_with fail
              have hb5 := below_alloc2 wr (.cells #[.int .i64 t0, .int .i64 t1] 62) (.cells #[.int .i64 s0, .int .i64 s1, .int .i64 t0, .int .i64 t1] 127)
              have rX := Row.new1 wr (.cells #[.int .i64 t0, .int .i64 t1] 62) #[.int .i64 s0, .int .i64 s1, .int .i64 t0, .int .i64 t1] 127
              have HSU5 := Lib.hid (HSU.out.below hb5)
              have HKB5 := Lib.hid (HKB.out.below hb5)
              clear e0 e1 l0 l1 HSU HKB
              change Code.wp _ _ _ _ ((wr.alloc (.cells #[.int .i64 t0, .int .i64 t1] 62)).alloc (.cells #[.int .i64 s0, .int .i64 s1, .int .i64 t0, .int .i64 t1] 127))
              generalize (wr.alloc (.cells #[.int .i64 t0, .int .i64 t1] 62)).alloc (.cells #[.int .i64 s0, .int .i64 s1, .int .i64 t0, .int .i64 t1] 127) = W5 at *
              generalize hbx : wr.heap.size + 1 = bx at *
              have hbx2 : bx ≠ w.heap.size + 1 + 1 := by omega
              have x0 := rX.cell 0 (v := .int .i64 s0) rfl
              have x1 := rX.cell 1 (v := .int .i64 s1) rfl
              have x2 := rX.cell 2 (v := .int .i64 t0) rfl
              have x3 := rX.cell 3 (v := .int .i64 t1) rfl
              have d7 := (HKB5.out.row (HKB3.out.row RB2.out (by omega)) (by omega)).cell 7 (v := .int .i64 b.err) rfl
              have d8 := (HKB5.out.row (HKB3.out.row RK2.out (by omega)) (by omega)).cell 8 (v := .map (some (w.heap.size + 1 + 1))) rfl
              have HSS := Lib.hid (fun w' (kk : FromB (w.heap.size + 1 + 1) W5 w') => (⟨kk.cell d8 (by omega), kk.cell x0 hbx2, kk.cell x1 hbx2, kk.cell x2 hbx2, kk.cell x3 hbx2, kk.cell d7 (by omega)⟩ : w'.cell? ⟨w.heap.size + 1 + 1 + 1, 8, none⟩ = some (.map (some (w.heap.size + 1 + 1))) ∧ w'.cell? ⟨bx, 0, none⟩ = some (.int .i64 s0) ∧ w'.cell? ⟨bx, 1, none⟩ = some (.int .i64 s1) ∧ w'.cell? ⟨bx, 2, none⟩ = some (.int .i64 t0) ∧ w'.cell? ⟨bx, 3, none⟩ = some (.int .i64 t1) ∧ w'.cell? ⟨w.heap.size, 7, none⟩ = some (.int .i64 b.err)))
              have KI := Lib.hid (From.refl W5)
              have KB := Lib.hid (FromB.refl (w.heap.size + 1 + 1) W5)
              have hok := HOK.out
              have htn := told_nn (s0, s1) (t0, t1)
              have htl := told_le HSK.out HSJ.out
              have HTO := Lib.hid (fun w' => told_any (s0, s1) (t0, t1) HSK.out HSJ.out w')
              have HAR := Lib.hid (fun w' => (show Calls Try.prog 118 #[.int .i64 (told (s0, s1) (t0, t1)), .int .i64 b.err] w' (fun x w'' => x = .returned (.agg #[.int .i64 (farLo b.err (s0, s1) (t0, t1)), .int .i64 (farHi b.err (s0, s1) (t0, t1))]) ∧ Below w'.heap.size w' w'') from around_any (told (s0, s1) (t0, t1)) b.err (by omega) (by have := hok.e0; have := hok.e1; omega) w'))
              have HPT := Lib.hid (fun w' (h : FarAt w' (w.heap.size + 1 + 1) (14 * k + j) (farF L E k j) b.err) => h.put (s := (s0, s1)) (t := (t0, t1)) (by have := HEL.out; unfold maxLen; omega) HSK.out HSJ.out)
              dsimp only at HTO HPT
              obtain ⟨tv, htv⟩ : ∃ v, told (s0, s1) (t0, t1) = v := ⟨_, rfl⟩
              obtain ⟨fl, hfl⟩ : ∃ v, farLo b.err (s0, s1) (t0, t1) = v := ⟨_, rfl⟩
              obtain ⟨fh, hfh⟩ : ∃ v, farHi b.err (s0, s1) (t0, t1) = v := ⟨_, rfl⟩
              rw [htv] at HTO HAR
              rw [hfl, hfh] at HAR HPT
              clear x0 x1 x2 x3 d7 d8 rX hb5 htv hfl hfh htn htl hok
              go_region_held3 (fun w' => w'.cell? ⟨w.heap.size + 1 + 1 + 1, 8, none⟩ = some (.map (some (w.heap.size + 1 + 1))) ∧ w'.cell? ⟨bx, 0, none⟩ = some (.int .i64 s0) ∧ w'.cell? ⟨bx, 1, none⟩ = some (.int .i64 s1) ∧ w'.cell? ⟨bx, 2, none⟩ = some (.int .i64 t0) ∧ w'.cell? ⟨bx, 3, none⟩ = some (.int .i64 t1) ∧ w'.cell? ⟨w.heap.size, 7, none⟩ = some (.int .i64 b.err)) (first | with_reducible exact HSS.out _ KB.out | with_reducible exact HSS.out _ KB.out.drew | with_reducible exact HSS.out _ KB9.out)
                (first
                  | (go_at_call 119; (with_reducible refine (HTO.out _).mono ?_); rintro e wy ⟨rfl, hbu⟩; have KB := Lib.hid (by first | with_reducible exact KB.out.drew.below hbu | with_reducible exact KB.out.below hbu); have KI := Lib.hid (by first | with_reducible exact KI.out.drew.below hbu | with_reducible exact KI.out.below hbu); clear hbu)
                  | (go_at_call 118; (with_reducible refine (HAR.out _).mono ?_); rintro e wy ⟨rfl, hbu⟩; have KB := Lib.hid (by first | with_reducible exact KB.out.drew.below hbu | with_reducible exact KB.out.below hbu); have KI := Lib.hid (by first | with_reducible exact KI.out.drew.below hbu | with_reducible exact KI.out.below hbu); obtain ⟨w9, hrun, hs9, hg9⟩ := HPT.out _ (HSU5.out.below KI.out.b); have HS9 := Lib.hid hs9; have KB9 := Lib.hid (⟨KB.out.k.trans (keeps_grown hg9 _ rfl)⟩ : FromB (w.heap.size + 1 + 1) W5 w9); clear hs9 hg9 hbu))
              all_goals
                have HKB9 := Lib.hid (show FromB (w.heap.size + 1 + 1) W3 w9 from ⟨HKB5.out.k.trans KB9.out.k⟩)
                go_wp2_with fail
                go_roundw
                case rel => exact ⟨j + 1, by omega, by go_num, HS9.out.congr (fun s t h => by
                  have h2 := farF_step HKL.out hlj s t h
                  rw [HLK.out, HET.out] at h2
                  exact h2), HKB9.out⟩
                case measure => simp [intOf]; omega
            · obtain rfl : j = E.length := by omega
              go_wp2_with fail
              go_roundw
              case rel => exact ⟨k + 1, by omega, by go_num, (HSU.out.congr (fun s t h => farF_next HKL.out s t h)).mono (by have := HEL.out; omega), ⟨HKB3.out.k.trans HKB.out.k⟩⟩
              case measure => simp [intOf]; omega
        · obtain rfl : k = b.lots.length := by omega
          have RRk := Lib.hid (HKB.out.row RR2.out (by omega))
          have RKk := Lib.hid (HKB.out.row RK2.out (by omega))
          have HS9 := Lib.hid ((HSU.out.congr (fun s t h => HFA.out s t h)).mono (n' := 1000) (by omega))
          have HBW2 := Lib.hid (HE2.out.trans (HKB.out.k.below (n := w.heap.size) (by omega) (fun q hq e => by omega)))
          go_wp2_with (first
            | (refine load_row rfl 83 _ rfl (w.heap.size + 1 + 1 + 1) rfl 83 (ykA b ⟨pl, cl, pd, cd, pb, cb, ps, cs⟩ (w.heap.size + 1 + 1)) _ RKk.out Try.underlying83 rfl (by kernel_rfl) ?_)
            | (refine store_row rfl 83 _ _ rfl (w.heap.size + 1) (ykA b ⟨pl, cl, pd, cd, pb, cb, ps, cs⟩ (w.heap.size + 1 + 1)) ykZ 83 rfl rfl RRk.out (by kernel_rfl) rfl (by simp [Value.oneCell']) ?_))
          have q := RRk.out.setRow (ykA b ⟨pl, cl, pd, cd, pb, cb, ps, cs⟩ (w.heap.size + 1 + 1))
          exact bodyPost_ret (v := .agg (ykA b ⟨pl, cl, pd, cd, pb, cb, ps, cs⟩ (w.heap.size + 1 + 1))) (results_cell_row Try.results94 _ _ _ _ _ _ _ rfl q Try.underlying83 rfl (by kernel_rfl)) rfl
            ⟨_, rfl, HS9.out.of_same (setRow_far (by omega)), by omega, below_setRow' HBW2.out (by omega) _⟩
end Go.Proofs.Ytajkgfeockcbpaa
