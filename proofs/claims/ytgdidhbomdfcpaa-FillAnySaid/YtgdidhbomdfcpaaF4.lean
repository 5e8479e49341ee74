/- The walks of layer 5: a book in memory; small calls. -/
import Derived.Test.YtgdidhbomdfcpaaF3
import Derived.Test.YtgdidhbomdfcpaaLF
namespace Go.Proofs.Ytgdidhbomdfcpaa
open Go.RowKit Go.Maps
attribute [local go_sem] Oper.semAt_some

/-- Such handfuls lie in memory. -/
def HdsAt (w : World) (p : Option Addr) (hs : List Hd) : Prop :=
  ∀ i (h : i < hs.length), ∃ b o, p = some ⟨b, o, none⟩ ∧ w.cell? ⟨b, o + i * 2, none⟩ = some (.int .i64 hs[i].lo) ∧ w.cell? ⟨b, o + i * 2 + 1, none⟩ = some (.int .i64 hs[i].hi)
theorem HdsAt.below {w w' : World} {p : Option Addr} {hs : List Hd} (h : HdsAt w p hs) (hb : Below w.heap.size w w') : HdsAt w' p hs := by
  intro i hi
  obtain ⟨b, o, hp, h0, h1⟩ := h i hi
  have hlt : b < w.heap.size := cell_block h0
  have key : ∀ k, w'.cell? ⟨b, k, none⟩ = w.cell? ⟨b, k, none⟩ := fun k => (bcell hb).1 b _ hlt
  exact ⟨b, o, hp, by rw [key]; exact h0, by rw [key]; exact h1⟩
theorem HdsAt.part {w : World} {b o : Nat} {hs : List Hd} (h : HdsAt w (some ⟨b, o, none⟩) hs) (x y : Nat) : HdsAt w (some ⟨b, o + x * 2, none⟩) (partL hs x y) := by
  intro i hi
  have hl : i < y - x ∧ x + i < hs.length := by
    unfold partL at hi
    simp only [List.length_take, List.length_drop] at hi
    omega
  obtain ⟨b', o', e, h0, h1⟩ := h (x + i) hl.2
  cases e
  have e2 : (partL hs x y)[i] = hs[x + i] := by simp [partL]
  rw [e2]
  refine ⟨b, o + x * 2, rfl, ?_, ?_⟩
  · rw [show o + x * 2 + i * 2 = o + (x + i) * 2 by omega]; exact h0
  · rw [show o + x * 2 + i * 2 + 1 = o + (x + i) * 2 + 1 by omega]; exact h1
theorem HdsAt.nil (w : World) (p : Option Addr) : HdsAt w p [] := fun i hi => by simp at hi
/-- A book as a value. -/
abbrev bfA (b : Bf) (p : Option Addr) (c : Nat) : Array Value := #[.int .i64 b.pr, .int .i64 b.le, .int .i64 b.mo, .int .i64 b.gr, .slice p b.hs.length c]
structure BfAt (w : World) (p : Option Addr) (c : Nat) (b : Bf) : Prop where
  h : HdsAt w p b.hs
  n : b.hs.length < 2 ^ 62
  c : b.hs.length ≤ c
  i1 : I64 b.pr
theorem BfAt.below {w w' : World} {p : Option Addr} {c : Nat} {b : Bf} (h : BfAt w p c b) (hb : Below w.heap.size w w') : BfAt w' p c b := ⟨h.h.below hb, h.n, h.c, h.i1⟩

set_option maxHeartbeats 400000 in
theorem within_any (n lo hi : Int) (w : World) :
    Calls Try.prog 60 #[.int .i64 n, .int .i64 lo, .int .i64 hi] w fun e w' => e = .returned (.bool (fits n lo hi)) ∧ w = w' := by
  unfold fits
  by_cases h1 : lo ≤ n
  · go_enter Try.func60, Try.ntmps60
    go_wp2
    go_ret
    exact ⟨ret_bool (by simp [h1]), rfl⟩
  · have h1' : decide (lo ≤ n) = false := by simpa using h1
    go_enter Try.func60, Try.ntmps60
    go_wp2
    go_ret
    exact ⟨ret_bool (by simp), rfl⟩
theorem least_any (lo hi : Int) (w : World) : Calls Try.prog 104 #[.agg #[.int .i64 lo, .int .i64 hi]] w fun e w' => e = .returned (.int .i64 lo) ∧ Below w.heap.size w w' := by
  go_enter Try.func104, Try.ntmps104
  go_wp2
  go_ret
  exact ⟨rfl, below_alloc _ _⟩
theorem most_any (lo hi : Int) (w : World) : Calls Try.prog 105 #[.agg #[.int .i64 lo, .int .i64 hi]] w fun e w' => e = .returned (.int .i64 hi) ∧ Below w.heap.size w w' := by
  go_enter Try.func105, Try.ntmps105
  go_wp2
  go_ret
  exact ⟨rfl, below_alloc _ _⟩
abbrev endsA : Array Value := #[.func (.func 104) #[] #[], .func (.func 105) #[] #[]]
set_option maxRecDepth 10000 in
theorem ends_any (w : World) : Calls Try.prog 89 #[] w fun e w' => e = .returned (.agg endsA) ∧ Below w.heap.size w w' := by
  go_enter Try.func89, Try.ntmps89
  go_wp2_with (first | (refine store_new rfl 99 _ _ rfl endsA #[.nilFunc, .nilFunc] 99 rfl rfl (by kernel_rfl) rfl (by simp [Value.oneCell']) ?_))
  exact bodyPost_ret (v := .agg endsA) (by simp [results, Try.results89, go_sem]) rfl ⟨rfl, below_alloc _ _⟩
set_option maxHeartbeats 800000 in
theorem hvalid_any (lo hi : Int) (w : World) : Calls Try.prog 92 #[.agg #[.int .i64 lo, .int .i64 hi]] w fun e w' => e = .returned (.bool (hdB ⟨lo, hi⟩)) ∧ Below w.heap.size w w' := by
  cases h : fits lo 0 200
  · have h2 := h
    simp only [fits, Bool.and_eq_false_iff, decide_eq_false_iff_not] at h2
    go_enter Try.func92, Try.ntmps92
    go_wp2_with (first | (go_at_call 60; (with_reducible refine (within_any _ _ _ _).mono ?_); rintro e w1 ⟨rfl, rfl⟩; rw [h]))
    go_ret
    exact ⟨ret_bool (by symm; simp only [hdB, decide_eq_false_iff_not]; omega), below_alloc _ _⟩
  · have h2 := h
    simp only [fits, Bool.and_eq_true, decide_eq_true_eq] at h2
    have H := Lib.hid h2
    have h3 : 0 ≤ lo := h2.1
    have h4 : lo ≤ 200 := h2.2
    clear h2
    go_enter Try.func92, Try.ntmps92
    go_wp2_with (first | (go_at_call 60; (with_reducible refine (within_any _ 0 200 _).mono ?_); rintro e w1 ⟨rfl, rfl⟩; rw [h]) | (go_at_call 60; (with_reducible refine (within_any _ _ _ _).mono ?_); rintro e w1 ⟨rfl, rfl⟩))
    all_goals
      go_ret
      refine ⟨ret_bool ?_, below_alloc _ _⟩
      rw [Bool.eq_iff_iff]
      simp only [fits, Bool.and_eq_true, decide_eq_true_eq, hdB]
      omega
/-- The call returned a slice that reads as handfuls; what was there is as it was. -/
def GaveHds (hs : List Hd) (w : World) (e : Ending) (w' : World) : Prop := ∃ q c, e = .returned (.slice q hs.length c) ∧ HdsAt w' q hs ∧ hs.length ≤ c ∧ Below w.heap.size w w'
set_option maxHeartbeats 800000 in
theorem of_any (p : Option Addr) (hs : List Hd) (c x y : Nat) (hx : x ≤ y) (hy : y ≤ hs.length) (hc : hs.length ≤ c) (w : World) (h : HdsAt w p hs) :
    Calls Try.prog 62 #[.agg #[.int .i64 x, .int .i64 y], .slice p hs.length c] w (GaveHds (partL hs x y) w) := by
  have hl := partL_length hx hy
  have H := Lib.hid h
  have hb := below_alloc w (.cells #[.int .i64 x, .int .i64 y] 72)
  by_cases e : x = y
  · subst e
    have HL := Lib.hid (part_self hs x)
    have i1 : (0 : Int) ≤ (x : Int) := by omega
    have i2 : (x : Int) ≤ (hs.length : Int) := by omega
    have i3 : (x : Int) ≤ (c : Int) := by omega
    have HB := Lib.hid hb
    have HH := Lib.hid hl
    rw [HL.out]
    clear h hb hl
    go_enter Try.func62, Try.ntmps62
    go_wp2
    go_ret
    exact ⟨_, _, rfl, HdsAt.nil _ _, Nat.zero_le _, HB.out⟩
  · have hn : 0 < hs.length := by omega
    obtain ⟨b, o, rfl, _⟩ := h 0 hn
    have i1 : (0 : Int) ≤ (x : Int) := by omega
    have i2 : (x : Int) ≤ (y : Int) := by omega
    have i3 : (y : Int) ≤ (hs.length : Int) := by omega
    have i4 : (y : Int) ≤ (c : Int) := by omega
    have i5 : 0 < y - x := by omega
    have HB := Lib.hid hb
    have HP := Lib.hid (H.out.part x y)
    have HL := Lib.hid hl
    clear h hb hl
    go_enter Try.func62, Try.ntmps62
    go_wp2
    go_ret
    exact ⟨some ⟨b, o + x * 2, none⟩, y - x, by rw [HL.out]; rfl, HP.out.below HB.out, by rw [HL.out]; exact Nat.le_refl _, HB.out⟩
end Go.Proofs.Ytgdidhbomdfcpaa
