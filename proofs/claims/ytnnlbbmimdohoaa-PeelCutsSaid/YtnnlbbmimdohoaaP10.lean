/- The walks of layer 1: which logs are valid. -/
import Derived.Test.YtnnlbbmimdohoaaP9
namespace Go.Proofs.Ytnnlbbmimdohoaa
open Go.RowKit Go.Maps
attribute [local go_sem] Oper.semAt_some

/-- What knots of so many turns are valid. -/
def kvalidB (k : K4) (n : Int) : Bool := showsB k.al k.fl (wrap64 (n + 1)) && showsB k.ah k.fh (wrap64 (n + 1)) && narrowB k.al k.ah 3 && narrowB k.fl k.fh 1

theorem endAt0 (w : World) : (Instr.index 127 (.agg #[.func (.func 94) #[] #[], .func (.func 95) #[] #[]]) (.int .i64 0)).run Try.prog w = .ok (.func (.func 94) #[] #[]) w := by
  simp [Instr.index, go_sem]
theorem endAt1 (w : World) : (Instr.index 127 (.agg #[.func (.func 94) #[] #[], .func (.func 95) #[] #[]]) (.int .i64 1)).run Try.prog w = .ok (.func (.func 95) #[] #[]) w := by
  simp [Instr.index, go_sem]

set_option maxRecDepth 10000 in
set_option maxHeartbeats 800000 in
theorem kvalid_any (k : K4) (n : Int) (w : World) :
    Calls Try.prog 84 #[.agg k.A, .int .i64 n] w fun e w' => e = .returned (.bool (kvalidB k n)) ∧ Below w.heap.size w w' := by
  unfold K4.A
  go_enter Try.func84, Try.ntmps84
  go_wp2_with (first | (refine (ends_any _).mono ?_; rintro e w1 ⟨rfl, hb1⟩))
  have r0 : Row w1 w.heap.size #[.int .i64 k.al, .int .i64 k.ah, .int .i64 k.fl, .int .i64 k.fh] 113 := (Row.new _ _ _).below hb1 (by simp)
  have hb0 := (below_alloc w (.cells #[.int .i64 k.al, .int .i64 k.ah, .int .i64 k.fl, .int .i64 k.fh] 113)).trans (hb1.mono (by simp))
  go_loopw [8] (fun i wr => (i = .int .i64 0 ∨ (i = .int .i64 1 ∧ showsB k.al k.fl (wrap64 (n + 1)) = true) ∨ (i = .int .i64 2 ∧ showsB k.al k.fl (wrap64 (n + 1)) = true ∧ showsB k.ah k.fh (wrap64 (n + 1)) = true)) ∧ Row wr w.heap.size #[.int .i64 k.al, .int .i64 k.ah, .int .i64 k.fl, .int .i64 k.fh] 113 ∧ Below w.heap.size w wr) (fun i _ => 2 - (intOf i).toNat)
  case atStart => exact ⟨.inl rfl, r0, hb0⟩
  case round =>
    obtain ⟨hi, hr, hb⟩ := hrel
    have HR := Lib.hid hr
    have HB := Lib.hid hb
    have hlt := hr.lt
    clear hr hb r0 hb0 hb1
    rcases hi with rfl | ⟨rfl, h1⟩ | ⟨rfl, h1, h2⟩
    · cases hs : showsB k.al k.fl (wrap64 (n + 1))
      · go_wp2_with (first | (refine index_op rfl 127 _ _ rfl _ _ rfl rfl _ (endAt0 _) ?_) | (refine load_row rfl 113 _ rfl _ rfl 113 _ _ HR.out Try.underlying113 rfl (by kernel_rfl) ?_) | (refine (low_any _ _ _ _ _).mono ?_; rintro e w2 ⟨rfl, hb2⟩) | (refine (shows_any _ _ _ _).mono ?_; rw [hs]; rintro e w3 ⟨rfl, hb3⟩))
        go_ret
        exact ⟨ret_bool (by simp [kvalidB, hs]), HB.out.trans ((hb2.mono (Nat.le_of_lt hlt)).trans (hb3.mono (by have := hb2.size; omega)))⟩
      · go_wp2_with (first | (refine index_op rfl 127 _ _ rfl _ _ rfl rfl _ (endAt0 _) ?_) | (refine load_row rfl 113 _ rfl _ rfl 113 _ _ HR.out Try.underlying113 rfl (by kernel_rfl) ?_) | (refine (low_any _ _ _ _ _).mono ?_; rintro e w2 ⟨rfl, hb2⟩) | (refine (shows_any _ _ _ _).mono ?_; rw [hs]; rintro e w3 ⟨rfl, hb3⟩))
        go_roundw
        case rel => exact ⟨.inr (.inl ⟨rfl, trivial⟩), (HR.out.below hb2 hlt).below hb3 (by have := hb2.size; omega), HB.out.trans ((hb2.mono (Nat.le_of_lt hlt)).trans (hb3.mono (by have := hb2.size; omega)))⟩
        case measure => simp [intOf]
    · cases hs : showsB k.ah k.fh (wrap64 (n + 1))
      · go_wp2_with (first | (refine index_op rfl 127 _ _ rfl _ _ rfl rfl _ (endAt1 _) ?_) | (refine load_row rfl 113 _ rfl _ rfl 113 _ _ HR.out Try.underlying113 rfl (by kernel_rfl) ?_) | (refine (high_any _ _ _ _ _).mono ?_; rintro e w2 ⟨rfl, hb2⟩) | (refine (shows_any _ _ _ _).mono ?_; rw [hs]; rintro e w3 ⟨rfl, hb3⟩))
        go_ret
        exact ⟨ret_bool (by simp [kvalidB, hs]), HB.out.trans ((hb2.mono (Nat.le_of_lt hlt)).trans (hb3.mono (by have := hb2.size; omega)))⟩
      · go_wp2_with (first | (refine index_op rfl 127 _ _ rfl _ _ rfl rfl _ (endAt1 _) ?_) | (refine load_row rfl 113 _ rfl _ rfl 113 _ _ HR.out Try.underlying113 rfl (by kernel_rfl) ?_) | (refine (high_any _ _ _ _ _).mono ?_; rintro e w2 ⟨rfl, hb2⟩) | (refine (shows_any _ _ _ _).mono ?_; rw [hs]; rintro e w3 ⟨rfl, hb3⟩))
        go_roundw
        case rel => exact ⟨.inr (.inr ⟨rfl, h1, trivial⟩), (HR.out.below hb2 hlt).below hb3 (by have := hb2.size; omega), HB.out.trans ((hb2.mono (Nat.le_of_lt hlt)).trans (hb3.mono (by have := hb2.size; omega)))⟩
        case measure => simp [intOf]
    · have c0 := HR.out.cell 0 (v := .int .i64 k.al) rfl
      have c1 := HR.out.cell 1 (v := .int .i64 k.ah) rfl
      have c2 := HR.out.cell 2 (v := .int .i64 k.fl) rfl
      have c3 := HR.out.cell 3 (v := .int .i64 k.fh) rfl
      cases hn : narrowB k.al k.ah 3
      · go_wp2_with (first | (refine (narrow_any _ _ _ _).mono ?_; rw [hn]; rintro e w2 ⟨rfl, hb2⟩))
        go_ret
        exact ⟨ret_bool (by simp [kvalidB, hn]), HB.out.trans (hb2.mono (Nat.le_of_lt hlt))⟩
      · have HN := Lib.hid hn
        have H1 := Lib.hid h1
        have H2 := Lib.hid h2
        clear hn h1 h2
        go_wp2_with (first | (refine (narrow_any _ _ _ _).mono ?_; rw [HN.out]; rintro e w2 ⟨rfl, hb2⟩; clear c0 c1 c2 c3; have q := Lib.hid (HR.out.below hb2 hlt); have c2 := q.out.cell 2 (v := .int .i64 k.fl) rfl; have c3 := q.out.cell 3 (v := .int .i64 k.fh) rfl) | (refine (narrow_any _ _ _ _).mono ?_; rintro e w3 ⟨rfl, hb3⟩))
        go_ret
        exact ⟨ret_bool (by simp [kvalidB, HN.out, H1.out, H2.out]), HB.out.trans ((hb2.mono (Nat.le_of_lt hlt)).trans (hb3.mono (by have := hb2.size; omega)))⟩

end Go.Proofs.Ytnnlbbmimdohoaa
