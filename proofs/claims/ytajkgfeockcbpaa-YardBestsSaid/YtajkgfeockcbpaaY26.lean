/- The walks of layer 6: what the package answers of a choice. -/
import Derived.Test.YtajkgfeockcbpaaY25
namespace Go.Proofs.Ytajkgfeockcbpaa
open Go.RowKit Go.Maps
attribute [local go_sem] Oper.semAt_some field_list field_goods

theorem readL_lots (many : Nat) : ∀ (l : List Int) (nx : Int) (c f : Nat → Bool), 0 ≤ nx → readL many l nx c = some f → (∀ i, c i = true → i < many) → ∀ i, f i = true → i < many
  | [], _, c, f, _, h, hc, i, hi => by
    rw [readL] at h
    cases h
    exact hc i hi
  | x :: l, nx, c, f, h0, h, hc, i, hi => by
    rw [readL] at h
    split at h
    · rename_i hx
      refine readL_lots many l (x + 1) _ f (by omega) h (fun j hj => ?_) i hi
      unfold withF at hj
      split at hj
      · omega
      · exact hc j hj
    · cases h
theorem read_lots {many : Nat} {l : List Int} {f : Nat → Bool} (h : readL many l 0 noneF = some f) (i : Nat) (hi : f i = true) : i < many :=
  readL_lots many l 0 noneF f (by omega) h (fun _ h => by cases h) i hi
/-- What Allowed answers. -/
def allowA (b : Yb) (l : List Int) : Int × Int := if yardB b then (match readL b.lots.length l 0 noneF with
  | some f => (kindN (fun k => allowK b k f), 0)
  | none => (0, 61)) else (0, 60)
set_option maxRecDepth 100000 in
set_option maxHeartbeats 3200000 in
theorem allowed_api (b : Yb) (P : Yp) (p : Option Addr) (c : Nat) (l : List Int) (hl : l.length < 2 ^ 61) (w : World) (hB : YbAt w P b) (hI : IntsAt w p l) :
    Calls Try.prog 20 #[.agg (ybA b P), .slice p l.length c] w (fun e w' => e = .returned (.tuple #[.int .i64 (allowA b l).1, .int .i64 (allowA b l).2]) ∧ Below w.heap.size w w') := by
  obtain ⟨W0, hW0⟩ : ∃ W, W = w.alloc (.cells (ybA b P) 25) := ⟨_, rfl⟩
  have HW0 := Lib.hid hW0
  have HE := Lib.hid (show Below w.heap.size w W0 by rw [hW0]; exact below_alloc _ _)
  have HRB := Lib.hid (show Row W0 w.heap.size (ybA b P) 25 by rw [hW0]; exact Row.new _ _ _)
  have HCH := Lib.hid (choose_any b P p c l hl W0 (hB.below HE.out) (hI.below HE.out))
  clear hB hW0 hI
  go_enter Try.func20, Try.ntmps20
  go_upto_region 1 with (fail)
  rw [← HW0.out]
  go_wp2_with (first | (refine load_row rfl 25 _ rfl w.heap.size rfl 25 (ybA b P) _ HRB.out Try.underlying25 rfl (by kernel_rfl) ?_))
  refine HCH.out.mono ?_
  rintro e u ⟨hbu, ⟨hb, rfl⟩ | ⟨hb, hr, rfl⟩ | ⟨hb, f, hr, mb, rfl, hyk⟩⟩
  · have HV := Lib.hid (show allowA b l = (0, 60) by unfold allowA; rw [hb]; rfl)
    have hbz0 := below_alloc2 u (.cells (ykZ) 83) (.cells (noneA) 99)
    have HBZ := Lib.hid (HE.out.trans ((hbu.trans (hbz0.mono hbu.size)).mono HE.out.size))
    clear hb hbu hbz0
    try clear hr
    go_wp2_with fail
    exact bodyPost_ret (v := .tuple #[.int .i64 0, .int .i64 60]) (results_tmp2 Try.results20 _ _ _) rfl ⟨by rw [HV.out], HBZ.out⟩
  · have HV := Lib.hid (show allowA b l = (0, 61) by unfold allowA; rw [hb, hr]; rfl)
    have hbz0 := below_alloc2 u (.cells (ykZ) 83) (.cells (noneA) 99)
    have HBZ := Lib.hid (HE.out.trans ((hbu.trans (hbz0.mono hbu.size)).mono HE.out.size))
    clear hb hbu hbz0
    try clear hr
    go_wp2_with fail
    exact bodyPost_ret (v := .tuple #[.int .i64 0, .int .i64 61]) (results_tmp2 Try.results20 _ _ _) rfl ⟨by rw [HV.out], HBZ.out⟩
  · have HV := Lib.hid (show allowA b l = (kindN (fun k => allowK b k f), 0) by unfold allowA; rw [hb, hr]; rfl)
    have hbz0 := below_alloc2 u (.cells (ykA b P mb) 83) (.cells (lotF f) 99)
    have HBZ := Lib.hid (HE.out.trans ((hbu.trans (hbz0.mono hbu.size)).mono HE.out.size))
    have HRK := Lib.hid ((Row.new u (ykA b P mb) 83).alloc (.cells (lotF f) 99))
    have HRL := Lib.hid (Row.new1 u (.cells (ykA b P mb) 83) (lotF f) 99)
    have HYZ := Lib.hid (hyk.below hbz0)
    have HFL := Lib.hid (fun i h => read_lots hr i h)
    clear hb hbu hbz0 hyk hr
    go_upto_region 2 with (fail)
    change Code.wp _ _ _ _ ((u.alloc (.cells (ykA b P mb) 83)).alloc (.cells (lotF f) 99))
    generalize (u.alloc (.cells (ykA b P mb) 83)).alloc (.cells (lotF f) 99) = Z at *
    have HKN := Lib.hid (kind_allowed b P mb (fun k => allowK b k f) (u.heap.size + 1) _ (fun k w' hw => allowed1_any b P mb k f (u.heap.size + 1) (fun i _ h => HFL.out i h) w' (HYZ.out.below hw) (HRL.out.below hw HRL.out.lt)))
    generalize kindN (fun k => allowK b k f) = kn at *
    go_wp2_with (first
      | (refine load_row rfl 83 _ rfl u.heap.size rfl 83 (ykA b P mb) _ HRK.out Try.underlying83 rfl (by kernel_rfl) ?_)
      | (go_at_call 56; (with_reducible refine HKN.out.mono ?_); rintro e v ⟨rfl, hbv⟩; have HBV := Lib.hid hbv; clear hbv))
    exact bodyPost_ret (v := .tuple #[.int .i64 kn, .int .i64 0]) (results_tmp2 Try.results20 _ _ _) rfl ⟨by rw [HV.out], HBZ.out.trans (HBV.out.mono HBZ.out.size)⟩
/-- What More answers. -/
def MoreA (b : Yb) (l : List Int) (w : World) (e : Ending) (w' : World) : Prop :=
  Below w.heap.size w w' ∧ ((yardB b = false ∧ e = .returned (.tuple #[.slice none 0 0, .int .i64 60])) ∨
    (yardB b = true ∧ readL b.lots.length l 0 noneF = none ∧ e = .returned (.tuple #[.slice none 0 0, .int .i64 61])) ∨
    (yardB b = true ∧ ∃ f, readL b.lots.length l 0 noneF = some f ∧ ((allowK b false f = false ∧ e = .returned (.tuple #[.slice none 0 0, .int .i64 4])) ∨
      (allowK b false f = true ∧ ∃ p c, e = .returned (.tuple #[.slice p (intsN (lotsL (moreF b f))).length c, .int .i64 0]) ∧ IntsAt w' p (intsN (lotsL (moreF b f)))))))
set_option maxRecDepth 100000 in
set_option maxHeartbeats 3200000 in
theorem more_api (b : Yb) (P : Yp) (p : Option Addr) (c : Nat) (l : List Int) (hl : l.length < 2 ^ 61) (w : World) (hB : YbAt w P b) (hI : IntsAt w p l) :
    Calls Try.prog 30 #[.agg (ybA b P), .slice p l.length c] w (MoreA b l w) := by
  obtain ⟨W0, hW0⟩ : ∃ W, W = w.alloc (.cells (ybA b P) 25) := ⟨_, rfl⟩
  have HW0 := Lib.hid hW0
  have HE := Lib.hid (show Below w.heap.size w W0 by rw [hW0]; exact below_alloc _ _)
  have HRB := Lib.hid (show Row W0 w.heap.size (ybA b P) 25 by rw [hW0]; exact Row.new _ _ _)
  have HCH := Lib.hid (choose_any b P p c l hl W0 (hB.below HE.out) (hI.below HE.out))
  clear hB hW0 hI
  go_enter Try.func30, Try.ntmps30
  go_upto_region 1 with (fail)
  rw [← HW0.out]
  go_wp2_with (first | (refine load_row rfl 25 _ rfl w.heap.size rfl 25 (ybA b P) _ HRB.out Try.underlying25 rfl (by kernel_rfl) ?_))
  refine HCH.out.mono ?_
  rintro e u ⟨hbu, ⟨hb, rfl⟩ | ⟨hb, hr, rfl⟩ | ⟨hb, f, hr, mb, rfl, hyk⟩⟩
  · have HBB := Lib.hid hb
    have hbz0 := below_alloc2 u (.cells (ykZ) 83) (.cells (noneA) 99)
    have HBZ := Lib.hid (HE.out.trans ((hbu.trans (hbz0.mono hbu.size)).mono HE.out.size))
    clear hb hbu hbz0
    try clear hr
    go_wp2_with fail
    exact bodyPost_ret (v := .tuple #[.slice none 0 0, .int .i64 60]) (results_tmp2 Try.results30 _ _ _) rfl ⟨HBZ.out, .inl ⟨HBB.out, rfl⟩⟩
  · have HBB := Lib.hid hb
    have HRR := Lib.hid hr
    have hbz0 := below_alloc2 u (.cells (ykZ) 83) (.cells (noneA) 99)
    have HBZ := Lib.hid (HE.out.trans ((hbu.trans (hbz0.mono hbu.size)).mono HE.out.size))
    clear hb hbu hbz0
    try clear hr
    go_wp2_with fail
    exact bodyPost_ret (v := .tuple #[.slice none 0 0, .int .i64 61]) (results_tmp2 Try.results30 _ _ _) rfl ⟨HBZ.out, .inr (.inl ⟨HBB.out, HRR.out, rfl⟩)⟩
  · have HBB := Lib.hid hb
    have HRR := Lib.hid hr
    have hbz0 := below_alloc2 u (.cells (ykA b P mb) 83) (.cells (lotF f) 99)
    have HBZ := Lib.hid (HE.out.trans ((hbu.trans (hbz0.mono hbu.size)).mono HE.out.size))
    have HRK := Lib.hid ((Row.new u (ykA b P mb) 83).alloc (.cells (lotF f) 99))
    have HRL := Lib.hid (Row.new1 u (.cells (ykA b P mb) 83) (lotF f) 99)
    have HYZ := Lib.hid (hyk.below hbz0)
    have HFL := Lib.hid (fun i h => read_lots hr i h)
    clear hb hbu hbz0 hyk hr
    go_upto_region 2 with (fail)
    change Code.wp _ _ _ _ ((u.alloc (.cells (ykA b P mb) 83)).alloc (.cells (lotF f) 99))
    generalize (u.alloc (.cells (ykA b P mb) 83)).alloc (.cells (lotF f) 99) = Z at *
    have HAL := Lib.hid (fun w' (h : YkAt w' P mb b) => allowed_any b P mb false f (fun i _ h => HFL.out i h) w' h)
    have HMO := Lib.hid (fun w' (h : YkAt w' P mb b) => more_any b P mb f (fun i _ h => HFL.out i h) w' h)
    obtain ⟨d, hd⟩ : ∃ d, allowK b false f = d := ⟨_, rfl⟩
    have HD := Lib.hid hd
    rw [hd] at HAL
    clear hd
    cases d
    · go_wp2_with (first
        | (refine load_row rfl 83 _ rfl u.heap.size rfl 83 (ykA b P mb) _ HRK.out Try.underlying83 rfl (by kernel_rfl) ?_)
        | (go_at_call 73; (with_reducible refine (worst_any b P mb _).mono ?_); rintro e v ⟨rfl, hbv⟩; have hva := below_alloc v (.cells (trA b P mb false) 89); have HBV := Lib.hid (HBZ.out.trans ((hbv.trans (hva.mono hbv.size)).mono HBZ.out.size)); have HYV := Lib.hid ((HYZ.out.below hbv).below hva); have HRT := Lib.hid (Row.new v (trA b P mb false) 89); have HRLV := Lib.hid ((HRL.out.below hbv HRL.out.lt).alloc (.cells (trA b P mb false) 89)); clear hbv hva)
        | (refine store_new rfl 89 _ _ rfl (trA b P mb false) #[.slice none 0 0, .slice none 0 0, .slice none 0 0, .slice none 0 0, .int .i64 0, .int .i64 0, .int .i64 0, .int .i64 0, .map none, .nilFunc, .nilFunc, .nilFunc] 89 rfl rfl (by kernel_rfl) rfl (by simp [Value.oneCell']) ?_)
        | (refine load_row rfl 89 _ rfl v.heap.size rfl 89 (trA b P mb false) _ HRT.out Try.underlying89 rfl (by kernel_rfl) ?_)
        | (refine load_row rfl 99 _ rfl (u.heap.size + 1) rfl 99 (lotF f) _ HRLV.out Try.underlying99 rfl (by kernel_rfl) ?_)
        | (go_at_call 70; (with_reducible refine (HAL.out _ HYV.out).mono ?_); rintro e x ⟨rfl, hbx⟩; have HBX := Lib.hid (HBV.out.trans (hbx.mono HBV.out.size)); clear hbx))
      exact bodyPost_ret (v := .tuple #[.slice none 0 0, .int .i64 4]) (results_tmp2 Try.results30 _ _ _) rfl ⟨HBX.out, .inr (.inr ⟨HBB.out, f, HRR.out, .inl ⟨HD.out, rfl⟩⟩)⟩
    · go_wp2_with (first
        | (refine load_row rfl 83 _ rfl u.heap.size rfl 83 (ykA b P mb) _ HRK.out Try.underlying83 rfl (by kernel_rfl) ?_)
        | (go_at_call 73; (with_reducible refine (worst_any b P mb _).mono ?_); rintro e v ⟨rfl, hbv⟩; have hva := below_alloc v (.cells (trA b P mb false) 89); have HBV := Lib.hid (HBZ.out.trans ((hbv.trans (hva.mono hbv.size)).mono HBZ.out.size)); have HYV := Lib.hid ((HYZ.out.below hbv).below hva); have HRT := Lib.hid (Row.new v (trA b P mb false) 89); have HRLV := Lib.hid ((HRL.out.below hbv HRL.out.lt).alloc (.cells (trA b P mb false) 89)); clear hbv hva)
        | (refine store_new rfl 89 _ _ rfl (trA b P mb false) #[.slice none 0 0, .slice none 0 0, .slice none 0 0, .slice none 0 0, .int .i64 0, .int .i64 0, .int .i64 0, .int .i64 0, .map none, .nilFunc, .nilFunc, .nilFunc] 89 rfl rfl (by kernel_rfl) rfl (by simp [Value.oneCell']) ?_)
        | (refine load_row rfl 89 _ rfl v.heap.size rfl 89 (trA b P mb false) _ HRT2.out Try.underlying89 rfl (by kernel_rfl) ?_)
        | (refine load_row rfl 99 _ rfl (u.heap.size + 1) rfl 99 (lotF f) _ HRL2.out Try.underlying99 rfl (by kernel_rfl) ?_)
        | (refine load_row rfl 89 _ rfl v.heap.size rfl 89 (trA b P mb false) _ HRT.out Try.underlying89 rfl (by kernel_rfl) ?_)
        | (refine load_row rfl 99 _ rfl (u.heap.size + 1) rfl 99 (lotF f) _ HRLV.out Try.underlying99 rfl (by kernel_rfl) ?_)
        | (go_at_call 70; (with_reducible refine (HAL.out _ HYV.out).mono ?_); rintro e x ⟨rfl, hbx⟩; have HBX := Lib.hid (HBV.out.trans (hbx.mono HBV.out.size)); have HRT2 := Lib.hid (HRT.out.below hbx HRT.out.lt); have HRL2 := Lib.hid (HRLV.out.below hbx HRLV.out.lt); have HYX := Lib.hid (HYV.out.below hbx); clear hbx)
        | (go_at_call 80; (with_reducible refine (HMO.out _ HYX.out).mono ?_); rintro e y ⟨rfl, hby⟩; have HBY := Lib.hid (HBX.out.trans (hby.mono HBX.out.size)); clear hby)
        | (go_at_call 81; (with_reducible refine (list_any (moreF b f) _).mono ?_); rintro e z ⟨q, rfl, hin, -, -, hbz⟩; have HBZZ := Lib.hid (HBY.out.trans (hbz.mono HBY.out.size)); have HIN := Lib.hid hin; clear hin hbz))
      exact bodyPost_ret (v := .tuple #[.slice q (intsN (lotsL (moreF b f))).length (intsN (lotsL (moreF b f))).length, .int .i64 0]) (results_tmp2 Try.results30 _ _ _) rfl ⟨HBZZ.out, .inr (.inr ⟨HBB.out, f, HRR.out, .inr ⟨HD.out, q, _, rfl, HIN.out⟩⟩)⟩
end Go.Proofs.Ytajkgfeockcbpaa
