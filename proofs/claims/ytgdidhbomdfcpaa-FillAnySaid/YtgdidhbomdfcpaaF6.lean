/- The walks of layer 5: what several handfuls have together; a book with its boxes. -/
import Derived.Test.YtgdidhbomdfcpaaF5
import Derived.Deep.RegionHeld3
namespace Go.Proofs.Ytgdidhbomdfcpaa
open Go.RowKit Go.Maps
attribute [local go_sem] Oper.semAt_some

theorem endL_sum (f : Hd → Int) (hs : List Hd) : (endL f hs).sum = sumF f hs := rfl
theorem endL_range {f : Hd → Int} {hs : List Hd} {B : Int} (h : ∀ x ∈ hs, 0 ≤ f x ∧ f x ≤ B) : ∀ x ∈ endL f hs, 0 ≤ x ∧ x ≤ B := by
  intro x hx
  obtain ⟨y, hy, rfl⟩ := List.mem_map.1 hx
  exact h y hy
set_option maxRecDepth 10000 in
set_option maxHeartbeats 1600000 in
theorem together_any (p : Option Addr) (c : Nat) (hs : List Hd) (w : World) (h : HdsAt w p hs) (hn : hs.length ≤ 100) (hr : ∀ x ∈ hs, (0 ≤ x.lo ∧ x.lo ≤ 100000) ∧ (0 ≤ x.hi ∧ x.hi ≤ 100000)) :
    Calls Try.prog 61 #[.slice p hs.length c] w fun e w' => e = .returned (.agg #[.int .i64 (sumF Hd.lo hs), .int .i64 (sumF Hd.hi hs)]) ∧ Below w.heap.size w w' := by
  have H := Lib.hid h
  have HSL := Lib.hid (fun (q : Option Addr) (c : Nat) (w' : World) (hi : IntsAt w' q (endL Hd.lo hs)) => sum_any q c (endL Hd.lo hs) w' hi (by rw [endL_length]; exact hn) (endL_range fun x hx => (hr x hx).1))
  have HSH := Lib.hid (fun (q : Option Addr) (c : Nat) (w' : World) (hi : IntsAt w' q (endL Hd.hi hs)) => sum_any q c (endL Hd.hi hs) w' hi (by rw [endL_length]; exact hn) (endL_range fun x hx => (hr x hx).2))
  clear h hr
  go_enter Try.func61, Try.ntmps61
  go_wp2_with fail
  refine (ends_any _).mono ?_
  rintro e u ⟨rfl, hbu⟩
  have hb0 := below_alloc w (.cells #[.int .i64 0, .int .i64 0] 27)
  have rQ := (Row.new w #[.int .i64 0, .int .i64 0] 27).below hbu (by simp)
  have HB := Lib.hid (hb0.trans (hbu.mono hb0.size))
  have hzu := rQ.lt
  clear hbu hb0
  go_wp2_with (first | (refine store_new rfl 99 _ _ rfl endsA #[.nilFunc, .nilFunc] 99 rfl rfl (by kernel_rfl) rfl (by simp [Value.oneCell']) ?_))
  have hb1 := below_alloc u (.cells endsA 99)
  have rE := Row.new u endsA 99
  have RQ := Lib.hid (rQ.below hb1 hzu)
  have RQ0 := RQ
  have HB := Lib.hid (HB.out.trans (hb1.mono HB.out.size))
  change Code.wp _ _ _ _ (u.alloc (.cells endsA 99))
  generalize u.alloc (.cells endsA 99) = W1 at *
  generalize u.heap.size = b1 at *
  have c0 := rE.cell 0 (v := .func (.func 104) #[] #[]) rfl
  have c1 := rE.cell 1 (v := .func (.func 105) #[] #[]) rfl
  have hne : w.heap.size ≠ b1 := by omega
  have HSS := Lib.hid (fun w' (k : FromB w.heap.size W1 w') => (⟨k.cell c0 (by omega), k.cell c1 (by omega)⟩ : w'.cell? ⟨b1, 0, none⟩ = some (.func (.func 104) #[] #[]) ∧ w'.cell? ⟨b1, 1, none⟩ = some (.func (.func 105) #[] #[])))
  have KI := Lib.hid (From.refl W1)
  have KB := Lib.hid (FromB.refl w.heap.size W1)
  have HNL := Lib.hid (fun w' (k : From W1 w') => numbers_lo p c hs w' (H.out.below (HB.out.trans (k.b.mono HB.out.size))) hn)
  have HNH := Lib.hid (fun w' (k : From W1 w') => numbers_hi p c hs w' (H.out.below (HB.out.trans (k.b.mono HB.out.size))) hn)
  have z0 := RQ.out.cell 0 (v := .int .i64 0) rfl
  have z1 := RQ.out.cell 1 (v := .int .i64 0) rfl
  have f0 := RQ.out.free 0
  have f1 := RQ.out.free 1
  clear rQ rE hb1 c0 c1
  go_region_held3 (fun w' => w'.cell? ⟨b1, 0, none⟩ = some (.func (.func 104) #[] #[]) ∧ w'.cell? ⟨b1, 1, none⟩ = some (.func (.func 105) #[] #[])) (first | with_reducible exact HSS.out _ KB.out | with_reducible exact HSS.out _ KB.out.drew | with_reducible exact HSS.out _ ((KB.out.set _ _).set _ _))
    (first
      | (go_at_call 91; (first | with_reducible refine (HNL.out _ KI.out).mono ?_ | with_reducible refine (HNL.out _ KI.out.drew).mono ?_); rintro e wy ⟨ql, cl, rfl, hil, hbu⟩; have KI := Lib.hid (by first | with_reducible exact KI.out.drew.below hbu | with_reducible exact KI.out.below hbu); have KB := Lib.hid (by first | with_reducible exact KB.out.drew.below hbu | with_reducible exact KB.out.below hbu); have HIL := Lib.hid hil; (try have HIH := Lib.hid (HIH.out.below hbu)); have RQ := Lib.hid (KI.out.row RQ0.out); have z0 := RQ.out.cell 0 (v := .int .i64 0) rfl; have z1 := RQ.out.cell 1 (v := .int .i64 0) rfl; have f0 := RQ.out.free 0; have f1 := RQ.out.free 1; clear hil hbu)
      | (go_at_call 91; (first | with_reducible refine (HNH.out _ KI.out).mono ?_ | with_reducible refine (HNH.out _ KI.out.drew).mono ?_); rintro e wy ⟨qh, ch, rfl, hih, hbu⟩; have KI := Lib.hid (by first | with_reducible exact KI.out.drew.below hbu | with_reducible exact KI.out.below hbu); have KB := Lib.hid (by first | with_reducible exact KB.out.drew.below hbu | with_reducible exact KB.out.below hbu); have HIH := Lib.hid hih; (try have HIL := Lib.hid (HIL.out.below hbu)); have RQ := Lib.hid (KI.out.row RQ0.out); have z0 := RQ.out.cell 0 (v := .int .i64 0) rfl; have z1 := RQ.out.cell 1 (v := .int .i64 0) rfl; have f0 := RQ.out.free 0; have f1 := RQ.out.free 1; clear hih hbu)
      | (go_at_call 90; (with_reducible refine (HSL.out _ _ _ HIL.out).mono ?_); rintro e wy ⟨rfl, rfl⟩; rw [endL_sum])
      | (go_at_call 90; (with_reducible refine (HSH.out _ _ _ HIH.out).mono ?_); rintro e wy ⟨rfl, rfl⟩; rw [endL_sum]))
  all_goals
    go_wp2_with fail
    have q := (RQ.out.set 0 (.int .i64 (sumF Hd.lo hs))).set 1 (.int .i64 (sumF Hd.hi hs))
    have e0 := q.cell 0 (v := .int .i64 (sumF Hd.lo hs)) rfl
    have e1 := q.cell 1 (v := .int .i64 (sumF Hd.hi hs)) rfl
    exact bodyPost_ret (v := .agg #[.int .i64 (sumF Hd.lo hs), .int .i64 (sumF Hd.hi hs)]) (by simp [results, Try.results61, go_sem, e0, e1]) rfl
      ⟨rfl, ((HB.out.trans (KI.out.b.mono HB.out.size)).setCell (by dsimp only; omega) _).setCell (by dsimp only; omega) _⟩
end Go.Proofs.Ytgdidhbomdfcpaa
