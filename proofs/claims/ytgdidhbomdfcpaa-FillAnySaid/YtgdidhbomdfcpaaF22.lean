/- The walks of layer 5: all plans, as an iterator. -/
import Derived.Test.YtgdidhbomdfcpaaF21
import Derived.Test.YtgdidhbomdfcpaaF13
namespace Go.Proofs.Ytgdidhbomdfcpaa
open Go.RowKit Go.Maps
attribute [local go_sem] Oper.semAt_some

theorem plans_any (b : Bf) (p : Option Addr) (c mb : Nat) (w : World) : Calls Try.prog 100 #[.agg (bkA b p c mb)] w fun e w' => e = .returned (.func (.func 109) #[] #[.pointer (some ⟨w.heap.size, 0, none⟩)]) ∧ w.alloc (.cells (bkA b p c mb) 79) = w' := by
  go_enter Try.func100, Try.ntmps100
  go_wp2
  go_ret
  exact ⟨rfl, rfl⟩
/-- What the iterator of all plans returns. -/
def IterPost (M : Nat → Prop) (J : Nat → (Nat → Prop) → World → Prop) (Jx : (Nat → Prop) → World → Prop) (n : Nat) (W : World) (e : Ending) (B : World) : Prop :=
  (∃ v, e = .returned v) ∧ KeepsBut M W B ∧ ∃ O, (∀ m, O m → W.heap.size ≤ m) ∧ (J n O B ∨ Jx O B)
set_option maxRecDepth 100000 in
set_option maxHeartbeats 3200000 in
theorem plans_iter (b : Bf) (p : Option Addr) (c mb : Nat) (w0 : World) (hB : BkF w0 p c mb b) (cb nn : Nat) (W : World) (hW0 : Below w0.heap.size w0 W) (hr : Row W cb (bkA b p c mb) 79) (hnn : nn ≤ W.heap.size) :
    IterO Try.prog 109 #[.pointer (some ⟨cb, 0, none⟩)] (fun m => m < w0.heap.size ∨ m = cb) (plansB b).length (PlanX b nn) W := by
  intro li M J Jx hM hJ hJx hY h0
  show Calls _ _ #[.func (.yield li) #[] #[], .pointer (some ⟨cb, 0, none⟩)] W (IterPost M J Jx (plansB b).length W)
  have hn8 := hB.ok.n8
  have hzb := hr.lt
  have hMb : ¬ M cb := fun h => (hM _ h).2 (.inr rfl)
  have HM := Lib.hid hM
  have HJ := Lib.hid hJ
  have HB := Lib.hid hB
  obtain ⟨A0, hA0⟩ : ∃ A0, A0 = (W.alloc (.cells #[.func (.yield li) #[] #[]] 88)).alloc (.cells #[.func (.func 110) #[] #[.pointer (some ⟨W.heap.size, 0, none⟩), .pointer (some ⟨cb, 0, none⟩), .pointer (some ⟨W.heap.size + 1, 0, none⟩)]] 128) := ⟨_, rfl⟩
  have HA0 := Lib.hid hA0
  have hbA : Below W.heap.size W A0 := by rw [hA0]; exact below_alloc2 _ _ _
  have hzA := hbA.size
  have hCA : Caps W.heap.size cb (W.heap.size + 1) li b p c mb A0 := by
    rw [hA0]
    exact ⟨(Row.new _ _ _).alloc _, (hr.alloc _).alloc _, Row.new1 _ _ _ _⟩
  have HCA := Lib.hid hCA
  have HBA := Lib.hid hbA
  obtain ⟨g, hg, hgg⟩ := leftR_lit 0 b.hs.length
  have HALL := Lib.hid (fun w' => (by have h := all_any b p c mb hn8 w'; rw [leftR_all, hg] at h; exact h : Calls Try.prog 112 #[.agg (bkA b p c mb)] w' fun e w'' => e = .returned (.agg #[.bool (g 0), .bool (g 1), .bool (g 2), .bool (g 3), .bool (g 4), .bool (g 5), .bool (g 6), .bool (g 7)]) ∧ Below w'.heap.size w' w''))
  have HCUT := Lib.hid (fun (u : World) (hu : Below A0.heap.size A0 u) => (by
    have hzu := hu.size
    have hbu : Below W.heap.size W u := hbA.trans (hu.mono hzA)
    have h := cut_any b p c mb w0 W hB W.heap.size cb (W.heap.size + 1) li M J Jx hW0 hM (Nat.le_refl _) (by omega) hzb hJ hJx
      (fun k x O A h1 h2 h3 h4 h5 => hY k x O A h1 (h2.mono hnn) h3 h4 h5) (b.hs.length + 1) 0 [] none 0 0 [] [] (fun _ => False) u g (by omega) (by omega) (by simp) (by simp) (fun _ => rfl) (fun i hi => by simp at hi) (fun m o hm => by simp at hm)
      (by simp [plansB]) rfl (fun m hm => hm.elim) (hJ 0 _ _ _ _ h0 (.of_below hbu) (fun m h => h) (fun m h => .inl h)) (.of_below hbu) (hCA.keeps (KeepsBut.of_below (M := fun _ => False) hu) id id id) id id hgg
    rw [show 0 + (plansL (grN b) b.hs.length 0).length = (plansB b).length by unfold plansB; omega] at h
    exact h : Calls Try.prog 110 #[.slice none 0 0, .int .i64 0, .agg #[.bool (g 0), .bool (g 1), .bool (g 2), .bool (g 3), .bool (g 4), .bool (g 5), .bool (g 6), .bool (g 7)], .pointer (some ⟨W.heap.size, 0, none⟩), .pointer (some ⟨cb, 0, none⟩), .pointer (some ⟨W.heap.size + 1, 0, none⟩)] u (CutPost M J Jx (fun _ => False) (plansB b).length u)))
  clear hM hJ hJx hY h0 hr hB hg hgg hA0 hCA hbA
  go_enter Try.func109, Try.ntmps109
  go_upto_region 3 with (fail)
  rw [← HA0.out]
  have RC := Lib.hid (show Caps W.heap.size cb (W.heap.size + 1) li b p c mb A0.drew from ⟨HCA.out.y, HCA.out.k, HCA.out.f⟩)
  have KA := Lib.hid (show Below A0.heap.size A0 A0.drew from (Below.refl _ _).drew)
  have hMy : ¬ M W.heap.size := fun h => by have := (HM.out _ h).1; omega
  have hMc : ¬ M (W.heap.size + 1) := fun h => by have := (HM.out _ h).1; omega
  go_region_held3 (fun w' => w'.cell? ⟨cb, 0, none⟩ = some (.int .i64 b.pr) ∧ w'.cell? ⟨cb, 1, none⟩ = some (.int .i64 b.le) ∧ w'.cell? ⟨cb, 2, none⟩ = some (.int .i64 b.mo) ∧ w'.cell? ⟨cb, 3, none⟩ = some (.int .i64 b.gr) ∧ w'.cell? ⟨cb, 4, none⟩ = some (.slice p b.hs.length c) ∧ w'.cell? ⟨cb, 5, none⟩ = some (.map (some mb)) ∧ w'.cell? ⟨W.heap.size + 1, 0, none⟩ = some (.func (.func 110) #[] #[.pointer (some ⟨W.heap.size, 0, none⟩), .pointer (some ⟨cb, 0, none⟩), .pointer (some ⟨W.heap.size + 1, 0, none⟩)]))
    (exact ⟨RC.out.k.cell 0 rfl, RC.out.k.cell 1 rfl, RC.out.k.cell 2 rfl, RC.out.k.cell 3 rfl, RC.out.k.cell 4 rfl, RC.out.k.cell 5 rfl, RC.out.f.cell 0 rfl⟩)
    (first
      | (go_at_call 112; (with_reducible refine (HALL.out _).mono ?_); rintro e u ⟨rfl, hbu⟩; have KA := Lib.hid (KA.out.trans (hbu.mono KA.out.size)); have RC := Lib.hid (RC.out.keeps (KeepsBut.of_below (M := fun _ => False) hbu) id id id); clear hbu)
      | (go_at_call 110; (with_reducible refine (HCUT.out _ KA.out).mono ?_); rintro e B ⟨hkb, v, O3, rfl, h1, h2, h3, h4, h5⟩; have HKB := Lib.hid ((KeepsBut.of_below (M := M) (HBA.out.trans (KA.out.mono hzA))).trans hkb); have H2 := Lib.hid h2; have H4 := Lib.hid h4; have H5 := Lib.hid h5; have HZU := Lib.hid KA.out.size; have RC := Lib.hid (RC.out.keeps hkb hMy hMb hMc); clear hkb h1 h2 h3 h4 h5))
  all_goals
    go_wp2_with fail
    go_end0
    refine ⟨⟨_, rfl⟩, HKB.out, O3, fun m h => ?_, ?_⟩
    · rcases H2.out m h with h | h
      · exact h.elim
      · have := HZU.out; omega
    · cases v
      · exact .inr (H5.out rfl)
      · exact .inl (H4.out rfl)
end Go.Proofs.Ytgdidhbomdfcpaa
