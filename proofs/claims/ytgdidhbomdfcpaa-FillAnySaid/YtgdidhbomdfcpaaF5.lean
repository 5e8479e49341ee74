/- The walks of layer 5: sums. -/
import Derived.Test.YtgdidhbomdfcpaaF4
namespace Go.Proofs.Ytgdidhbomdfcpaa
open Go.RowKit Go.Maps
attribute [local go_sem] Oper.semAt_some

theorem at0_mem {l : List Int} {i : Nat} (h : i < l.length) : at0 l i ∈ l := by rw [at0_lt h]; exact List.getElem_mem _
theorem sum_take_range {l : List Int} {B : Int} (hB : 0 ≤ B) (h : ∀ x ∈ l, 0 ≤ x ∧ x ≤ B) : ∀ k, k ≤ l.length → 0 ≤ (l.take k).sum ∧ (l.take k).sum ≤ k * B
  | 0, _ => by simp
  | k + 1, hk => by
    have h1 := sum_take_range hB h k (by omega)
    have h2 := h _ (at0_mem (l := l) (i := k) (by omega))
    rw [take_snoc (by omega), List.sum_append]
    simp only [List.sum_cons, List.sum_nil]
    have : ((k + 1 : Nat) : Int) * B = k * B + B := by push_cast; rw [Int.add_mul]; omega
    rw [this]
    omega
theorem sum_take_succ {l : List Int} {k : Nat} (h : k < l.length) : (l.take (k + 1)).sum = (l.take k).sum + at0 l k := by
  rw [take_snoc h, List.sum_append]; simp
theorem I64_of {n : Int} (h0 : -1000000000 ≤ n) (h1 : n ≤ 1000000000) : I64 n := by unfold I64; omega
set_option maxRecDepth 10000 in
set_option maxHeartbeats 1600000 in
theorem sum_any (p : Option Addr) (c : Nat) (xs : List Int) (w : World) (h : IntsAt w p xs) (hn : xs.length ≤ 100) (hr : ∀ x ∈ xs, 0 ≤ x ∧ x ≤ 100000) :
    Calls Try.prog 90 #[.slice p xs.length c] w fun e w' => e = .returned (.int .i64 xs.sum) ∧ w = w' := by
  have H := Lib.hid h
  have HR := Lib.hid (sum_take_range (by decide : (0 : Int) ≤ 100000) hr)
  have HX := Lib.hid hr
  clear h hr
  go_enter Try.func90, Try.ntmps90
  go_wp2
  go_loop [3, 8] (fun a i => ∃ k : Nat, k ≤ xs.length ∧ i = .int .i64 k ∧ a = .int .i64 (xs.take k).sum) (fun _ i => xs.length - (intOf i).toNat)
  case atStart => exact ⟨0, by omega, rfl, rfl⟩
  case round =>
    obtain ⟨k, hk, rfl, rfl⟩ := hrel
    by_cases hlt : k < xs.length
    · obtain ⟨b, o, hp, hc⟩ := H.out k hlt
      subst hp
      have h1 := HR.out k hk
      have h2 := HX.out _ (at0_mem hlt)
      have HS := Lib.hid (sum_take_succ hlt)
      have h3 : (k : Int) * 100000 ≤ 10000000 := by omega
      have i1 : (0 : Int) ≤ (k : Int) := by omega
      have i2 : (k : Int) < (xs.length : Int) := by omega
      generalize (xs.take k).sum = s at *
      generalize at0 xs k = v at *
      go_wp2
      go_round
      case rel => exact ⟨k + 1, by omega, by go_num, by rw [HS.out]⟩
      case measure => simp [intOf]; omega
    · obtain rfl : k = xs.length := by omega
      go_wp2
      go_ret
      exact ⟨ret_int (by simp), rfl⟩
theorem ints_of_owns2 {w : World} {base e : Nat} {v : Value} {xs : List Int} (h : w.ownsRow base e 1 v xs.length (xs.map (Value.int .i64))) :
    ∃ p c, v = .slice p xs.length c ∧ IntsAt w p xs ∧ xs.length ≤ c ∧ c ≤ maxLen ∧ (p = none ∨ ∃ g, p = some ⟨g, 0, none⟩ ∧ base ≤ g) := by
  rcases h.2 with ⟨hv, h0⟩ | ⟨g, cap, cur, hv, hg, hh, h1, h2, h3, h4⟩
  · exact ⟨none, 0, by rw [hv, h0], fun i hi => by omega, by omega, by unfold maxLen; omega, .inl rfl⟩
  · obtain ⟨p, c, e1, e2, e3, e4, e5⟩ := ints_of_owns h
    refine ⟨p, c, e1, e2, e3, e4, ?_⟩
    rw [hv] at e1
    cases e1
    exact .inr ⟨g, rfl, hg⟩
/-- The call returned a slice of its own that reads as a list; what was there is as it was. -/
def GaveNums (xs : List Int) (w : World) (e : Ending) (w' : World) : Prop := ∃ v, e = .returned v ∧ w'.ownsRow w.heap.size 3 1 v xs.length (xs.map (Value.int .i64)) ∧ Below w.heap.size w w'
theorem GaveNums.ints {xs : List Int} {w w' : World} {e : Ending} (h : GaveNums xs w e w') : GaveInts xs w e w' := by
  obtain ⟨v, he, ho, hb⟩ := h
  obtain ⟨p, c, rfl, hi, _⟩ := ints_of_owns2 ho
  exact ⟨p, c, he, hi, hb⟩
/-- The numbers at an end of several handfuls. -/
def endL (f : Hd → Int) (hs : List Hd) : List Int := hs.map f
theorem endL_length (f : Hd → Int) (hs : List Hd) : (endL f hs).length = hs.length := by simp [endL]
theorem endL_succ (f : Hd → Int) {hs : List Hd} {k : Nat} (h : k < hs.length) : endL f (hs.take (k + 1)) = endL f (hs.take k) ++ [f hs[k]] := by
  unfold endL
  rw [List.take_succ_eq_append_getElem h, List.map_append]
  rfl
set_option maxRecDepth 10000 in
set_option maxHeartbeats 1600000 in
theorem numbers_lo_own (p : Option Addr) (c : Nat) (hs : List Hd) (w : World) (h : HdsAt w p hs) (hn : hs.length ≤ 100) :
    Calls Try.prog 91 #[.slice p hs.length c, .func (.func 104) #[] #[]] w (GaveNums (endL Hd.lo hs) w) := by
  obtain ⟨i0, hi, hi0, hi1, hi2⟩ := info_parts Try.infoInt
  have H := Lib.hid h
  clear h
  go_enter Try.func91, Try.ntmps91
  go_wp2_with fail
  go_loopw [5, 10] (fun ls i wr => ∃ k : Nat, k ≤ hs.length ∧ i = .int .i64 k ∧ wr.ownsRow w.heap.size 3 1 ls (endL Hd.lo (hs.take k)).length ((endL Hd.lo (hs.take k)).map (Value.int .i64)) ∧ ∃ x : Later w, wr = x.w) (fun _ i _ => hs.length - (intOf i).toNat)
  case atStart => exact ⟨0, by omega, rfl, World.ownsRow_nil _ _ _ _, ⟨w, Below.refl _ _⟩, rfl⟩
  case round =>
    obtain ⟨k, hk, rfl, hown, x, rfl⟩ := hrel
    have HO := Lib.hid hown
    clear hown
    by_cases hlt : k < hs.length
    · have HS := Lib.hid (endL_succ Hd.lo hlt)
      have hpl : (endL Hd.lo (hs.take k)).length ≤ 100 := by rw [endL_length, List.length_take]; omega
      obtain ⟨b, o, hp, h0, h1⟩ := H.out k hlt
      subst hp
      have HF := Lib.hid (fun (w' : World) => least_any hs[k].lo hs[k].hi w')
      have i1 : (0 : Int) ≤ (k : Int) := by omega
      have i2 : (k : Int) < (hs.length : Int) := by omega
      generalize endL Hd.lo (hs.take k) = pk at *
      generalize hs[k].lo = lo at *
      generalize hs[k].hi = hi' at *
      clear hk
      go_wp2_with fail
      have hb1 := below_alloc x.w (.cells #[.int .i64 lo, .int .i64 hi'] 27)
      have HOA := Lib.hid (owns_below HO.out hb1)
      refine (HF.out _).mono ?_
      rintro e u ⟨rfl, hbu⟩
      have HO2 := Lib.hid (owns_below HOA.out hbu)
      obtain ⟨y, hy⟩ := x.on (hb1.trans (hbu.mono hb1.size))
      subst hy
      have hz2 := y.b.size
      clear hbu HO HOA hb1
      go_wp2_with (first
        | (at_builtin; (refine wpList_append_own _ rfl _ _ 38 rfl w.heap.size 3 i0 (.int .i64 0) 1 8 Try.underlying38 hi hi0 hi1 hi2 rfl (by decide) _ _ _ rfl (HO2.out.alloc _) ⟨y.w.heap.size, 0, none⟩ 1 1 [.int .i64 lo] rfl rfl (cell_one_new _ _ _) (by simp [Value.oneCell']) (by unfold maxLen; omega) (by omega) (by simp; omega) ?_); intro v' w2 hown' hgrow _; have HO := Lib.hid hown'; have hg2 : Below w.heap.size y.w w2 := ((Below.refl _ _).alloc (by omega) _).grown hgrow (by simp; omega) (fun k hk => (HO2.out.lt k hk).1); obtain ⟨z, hz⟩ := later_of (y.b.trans hg2); clear hg2 hown' hgrow))
      subst hz
      go_roundw
      case rel => exact ⟨k + 1, by omega, by go_num, by rw [HS.out]; simpa using HO.out, z, rfl⟩
      case measure => simp [intOf]; omega
    · obtain rfl : k = hs.length := by omega
      obtain ⟨p', c', rfl, hints, hle, hcm, hp⟩ := ints_of_owns2 HO.out
      have HT := Lib.hid (congrArg (endL Hd.lo) (List.take_length (l := hs)))
      rw [HT.out] at HO ⊢
      clear hints
      go_wp2
      go_ret
      exact ⟨_, rfl, HO.out, x.b⟩
theorem numbers_lo (p : Option Addr) (c : Nat) (hs : List Hd) (w : World) (h : HdsAt w p hs) (hn : hs.length ≤ 100) :
    Calls Try.prog 91 #[.slice p hs.length c, .func (.func 104) #[] #[]] w (GaveInts (endL Hd.lo hs) w) :=
  (numbers_lo_own p c hs w h hn).mono fun _ _ h => h.ints
set_option maxRecDepth 10000 in
set_option maxHeartbeats 1600000 in
theorem numbers_hi_own (p : Option Addr) (c : Nat) (hs : List Hd) (w : World) (h : HdsAt w p hs) (hn : hs.length ≤ 100) :
    Calls Try.prog 91 #[.slice p hs.length c, .func (.func 105) #[] #[]] w (GaveNums (endL Hd.hi hs) w) := by
  obtain ⟨i0, hi, hi0, hi1, hi2⟩ := info_parts Try.infoInt
  have H := Lib.hid h
  clear h
  go_enter Try.func91, Try.ntmps91
  go_wp2_with fail
  go_loopw [5, 10] (fun ls i wr => ∃ k : Nat, k ≤ hs.length ∧ i = .int .i64 k ∧ wr.ownsRow w.heap.size 3 1 ls (endL Hd.hi (hs.take k)).length ((endL Hd.hi (hs.take k)).map (Value.int .i64)) ∧ ∃ x : Later w, wr = x.w) (fun _ i _ => hs.length - (intOf i).toNat)
  case atStart => exact ⟨0, by omega, rfl, World.ownsRow_nil _ _ _ _, ⟨w, Below.refl _ _⟩, rfl⟩
  case round =>
    obtain ⟨k, hk, rfl, hown, x, rfl⟩ := hrel
    have HO := Lib.hid hown
    clear hown
    by_cases hlt : k < hs.length
    · have HS := Lib.hid (endL_succ Hd.hi hlt)
      have hpl : (endL Hd.hi (hs.take k)).length ≤ 100 := by rw [endL_length, List.length_take]; omega
      obtain ⟨b, o, hp, h0, h1⟩ := H.out k hlt
      subst hp
      have HF := Lib.hid (fun (w' : World) => most_any hs[k].lo hs[k].hi w')
      have i1 : (0 : Int) ≤ (k : Int) := by omega
      have i2 : (k : Int) < (hs.length : Int) := by omega
      generalize endL Hd.hi (hs.take k) = pk at *
      generalize hs[k].lo = lo at *
      generalize hs[k].hi = hi' at *
      clear hk
      go_wp2_with fail
      have hb1 := below_alloc x.w (.cells #[.int .i64 lo, .int .i64 hi'] 27)
      have HOA := Lib.hid (owns_below HO.out hb1)
      refine (HF.out _).mono ?_
      rintro e u ⟨rfl, hbu⟩
      have HO2 := Lib.hid (owns_below HOA.out hbu)
      obtain ⟨y, hy⟩ := x.on (hb1.trans (hbu.mono hb1.size))
      subst hy
      have hz2 := y.b.size
      clear hbu HO HOA hb1
      go_wp2_with (first
        | (at_builtin; (refine wpList_append_own _ rfl _ _ 38 rfl w.heap.size 3 i0 (.int .i64 0) 1 8 Try.underlying38 hi hi0 hi1 hi2 rfl (by decide) _ _ _ rfl (HO2.out.alloc _) ⟨y.w.heap.size, 0, none⟩ 1 1 [.int .i64 hi'] rfl rfl (cell_one_new _ _ _) (by simp [Value.oneCell']) (by unfold maxLen; omega) (by omega) (by simp; omega) ?_); intro v' w2 hown' hgrow _; have HO := Lib.hid hown'; have hg2 : Below w.heap.size y.w w2 := ((Below.refl _ _).alloc (by omega) _).grown hgrow (by simp; omega) (fun k hk => (HO2.out.lt k hk).1); obtain ⟨z, hz⟩ := later_of (y.b.trans hg2); clear hg2 hown' hgrow))
      subst hz
      go_roundw
      case rel => exact ⟨k + 1, by omega, by go_num, by rw [HS.out]; simpa using HO.out, z, rfl⟩
      case measure => simp [intOf]; omega
    · obtain rfl : k = hs.length := by omega
      obtain ⟨p', c', rfl, hints, hle, hcm, hp⟩ := ints_of_owns2 HO.out
      have HT := Lib.hid (congrArg (endL Hd.hi) (List.take_length (l := hs)))
      rw [HT.out] at HO ⊢
      clear hints
      go_wp2
      go_ret
      exact ⟨_, rfl, HO.out, x.b⟩
theorem numbers_hi (p : Option Addr) (c : Nat) (hs : List Hd) (w : World) (h : HdsAt w p hs) (hn : hs.length ≤ 100) :
    Calls Try.prog 91 #[.slice p hs.length c, .func (.func 105) #[] #[]] w (GaveInts (endL Hd.hi hs) w) :=
  (numbers_hi_own p c hs w h hn).mono fun _ _ h => h.ints
end Go.Proofs.Ytgdidhbomdfcpaa
