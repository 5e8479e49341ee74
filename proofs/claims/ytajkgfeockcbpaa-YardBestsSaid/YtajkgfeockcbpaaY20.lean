/- The walks of layer 6: a yard and numbers of lots; a choice that is read. -/
import Derived.Test.YtajkgfeockcbpaaY19
namespace Go.Proofs.Ytajkgfeockcbpaa
open Go.RowKit Go.Maps
attribute [local go_sem] Oper.semAt_some

/-- Is a number one of a lot? -/
def lotOk (b : Yb) (n : Int) : Bool := fits n 0 ((b.lots.length : Int) - 1)
theorem lotOk_iff (b : Yb) (n : Int) : lotOk b n = true ↔ 0 ≤ n ∧ n < b.lots.length := by
  simp only [lotOk, fits, Bool.and_eq_true, decide_eq_true_eq]
  omega
set_option maxRecDepth 10000 in
set_option maxHeartbeats 1600000 in
theorem isLot_any (b : Yb) (P : Yp) (n : Int) (hn : b.lots.length ≤ 1000) (w : World) :
    Calls Try.prog 93 #[.agg (ybA b P), .int .i64 n] w fun e w' => e = .returned (.bool (lotOk b n)) ∧ Below w.heap.size w w' := by
  have i1 : (b.lots.length : Int) ≤ 1000 := by omega
  have i2 : (0 : Int) ≤ (b.lots.length : Int) := by omega
  have hw : IntKind.i64.wrap ((b.lots.length : Int) - 1) = (b.lots.length : Int) - 1 := IntWalk.i64_in _ (by omega)
  unfold lotOk
  go_enter Try.func93, Try.ntmps93
  go_wp2_with (first | (go_at_call 96; (with_reducible refine (within_any _ _ _ _).mono ?_); rintro e u ⟨rfl, rfl⟩))
  go_ret
  exact ⟨rfl, below_alloc _ _⟩
/-- A yard and numbers of lots are entered. -/
def Entered (b : Yb) (P : Yp) (ns : List Int) (w : World) (e : Ending) (w' : World) : Prop :=
  Below w.heap.size w w' ∧ ((yardB b = false ∧ e = .returned (.tuple #[.agg ykZ, .int .i64 60])) ∨
    (yardB b = true ∧ ns.all (lotOk b) = false ∧ e = .returned (.tuple #[.agg ykZ, .int .i64 61])) ∨
    (yardB b = true ∧ ns.all (lotOk b) = true ∧ ∃ mb, e = .returned (.tuple #[.agg (ykA b P mb), .int .i64 0]) ∧ YkAt w' P mb b ∧ w.heap.size ≤ mb))
set_option maxRecDepth 100000 in
set_option maxHeartbeats 3200000 in
theorem enter_any (b : Yb) (P : Yp) (p : Option Addr) (c : Nat) (ns : List Int) (w : World) (hB : YbAt w P b) (hI : IntsAt w p ns) (hn : ns.length ≤ 1000) :
    Calls Try.prog 55 #[.agg (ybA b P), .slice p ns.length c] w (Entered b P ns w) := by
  obtain ⟨W0, hW0⟩ : ∃ W, W = (w.alloc (.cells (ybA b P) 25)).alloc (.cells ykZ 83) := ⟨_, rfl⟩
  have HW0 := Lib.hid hW0
  have HE := Lib.hid (show Below w.heap.size w W0 by rw [hW0]; exact below_alloc2 _ _ _)
  have HRB := Lib.hid (show Row W0 w.heap.size (ybA b P) 25 by rw [hW0]; exact (Row.new _ _ _).alloc _)
  have HRZ := Lib.hid (show Row W0 (w.heap.size + 1) ykZ 83 by rw [hW0]; exact Row.new1 _ _ _ _)
  have HB := Lib.hid (hB.below HE.out)
  have HI := Lib.hid (hI.below HE.out)
  have HCK := Lib.hid (Check_any b P W0 HB.out)
  have HBW := Lib.hid hB
  clear hB hI hW0
  cases hb : yardB b
  · rw [yardE_bad hb] at HCK
    have HBB := Lib.hid hb
    clear hb
    go_enter Try.func55, Try.ntmps55
    go_upto_region 1 with (fail)
    rw [← HW0.out]
    go_wp2_with (first
      | (refine load_row rfl 25 _ rfl w.heap.size rfl 25 (ybA b P) _ HRB.out Try.underlying25 rfl (by kernel_rfl) ?_)
      | (go_at_call 16; (with_reducible refine HCK.out.mono ?_); rintro e u ⟨rfl, hbu⟩; have HBU := Lib.hid hbu; have HRU := Lib.hid (HRZ.out.below hbu HRZ.out.lt); clear hbu)
      | (refine store_row rfl 83 _ _ rfl (w.heap.size + 1) ykZ ykZ 83 rfl rfl HRU.out (by kernel_rfl) rfl (by simp [Value.oneCell']) ?_))
    exact bodyPost_ret (v := .tuple #[.agg ykZ, .int .i64 60]) (results_cell_tmp' Try.results55 _ _ _ _ _ _ _ rfl rfl (HRU.out.setRow ykZ) Try.underlying83 rfl (by kernel_rfl)) rfl ⟨below_setRow' (HE.out.trans (HBU.out.mono HE.out.size)) (by omega) _, .inl ⟨HBB.out, rfl⟩⟩
  · rw [yardE_ok hb] at HCK
    have HBB := Lib.hid hb
    have HOK := Lib.hid (yardB_ok hb)
    have hn7 := HOK.out.n7
    clear hb
    go_enter Try.func55, Try.ntmps55
    go_upto_region 1 with (fail)
    rw [← HW0.out]
    go_wp2_with (first
      | (refine load_row rfl 25 _ rfl w.heap.size rfl 25 (ybA b P) _ HRB.out Try.underlying25 rfl (by kernel_rfl) ?_)
      | (go_at_call 16; (with_reducible refine HCK.out.mono ?_); rintro e u ⟨rfl, hbu⟩; obtain ⟨x0, hx0⟩ := later_of hbu; subst hx0; clear hbu))
    go_loopw [17] (fun i wr => ∃ k : Nat, k ≤ ns.length ∧ i = .int .i64 k ∧ (∀ n ∈ ns.take k, lotOk b n = true) ∧ ∃ x : Later W0, wr = x.w) (fun i _ => ns.length - (intOf i).toNat)
    case atStart => exact ⟨0, by omega, rfl, by simp, x0, rfl⟩
    case round =>
      obtain ⟨k, hk, rfl, hall, x, rfl⟩ := hrel
      have HA := Lib.hid hall
      clear hall x0
      have HXB := Lib.hid (HRB.out.below x.b HRB.out.lt)
      have HXZ := Lib.hid (HRZ.out.below x.b HRZ.out.lt)
      by_cases hlt : k < ns.length
      · obtain ⟨bq, oq, hp, hc⟩ := HI.out k hlt
        subst hp
        have HTK := Lib.hid (List.take_succ_eq_append_getElem hlt)
        have HMEM := Lib.hid (List.getElem_mem hlt)
        have hat : at0 ns k = ns[k] := by simp [at0, List.getD, hlt]
        rw [hat] at hc
        obtain ⟨n, hnn⟩ : ∃ n, ns[k] = n := ⟨_, rfl⟩
        rw [hnn] at hc HTK HMEM
        have i1 : (0 : Int) ≤ (k : Int) := by omega
        have i2 : (k : Int) < (ns.length : Int) := by omega
        clear hat hnn
        cases ht : lotOk b n
        · have HNO := Lib.hid (show ns.all (lotOk b) = false from List.all_eq_false.2 ⟨n, HMEM.out, by simp [ht]⟩)
          go_wp2_with (first
            | (refine load_row rfl 25 _ rfl w.heap.size rfl 25 (ybA b P) _ HXB.out Try.underlying25 rfl (by kernel_rfl) ?_)
            | (go_at_call 93; (with_reducible refine (isLot_any b P _ (by omega) _).mono ?_); rintro e u ⟨rfl, hbu⟩; rw [ht]; have HBU := Lib.hid hbu; have HRU := Lib.hid (HXZ.out.below hbu HXZ.out.lt); clear hbu)
            | (refine store_row rfl 83 _ _ rfl (w.heap.size + 1) ykZ ykZ 83 rfl rfl HRU.out (by kernel_rfl) rfl (by simp [Value.oneCell']) ?_))
          exact bodyPost_ret (v := .tuple #[.agg ykZ, .int .i64 61]) (results_cell_tmp' Try.results55 _ _ _ _ _ _ _ rfl rfl (HRU.out.setRow ykZ) Try.underlying83 rfl (by kernel_rfl)) rfl ⟨below_setRow' ((x.base HE.out).trans (HBU.out.mono (x.base HE.out).size)) (by omega) _, .inr (.inl ⟨HBB.out, HNO.out, rfl⟩)⟩
        · have HA2 := Lib.hid (show ∀ l ∈ ns.take (k + 1), lotOk b l = true from fun l hl => by
            rw [HTK.out] at hl
            rcases List.mem_append.1 hl with h | h
            · exact HA.out l h
            · rw [List.mem_singleton.1 h]; exact ht)
          go_wp2_with (first
            | (refine load_row rfl 25 _ rfl w.heap.size rfl 25 (ybA b P) _ HXB.out Try.underlying25 rfl (by kernel_rfl) ?_)
            | (go_at_call 93; (with_reducible refine (isLot_any b P _ (by omega) _).mono ?_); rintro e u ⟨rfl, hbu⟩; rw [ht]; obtain ⟨x2, hx2⟩ := x.on hbu; subst hx2; clear hbu))
          go_roundw
          case rel => exact ⟨k + 1, by omega, by go_num, HA2.out, x2, rfl⟩
          case measure => simp [intOf]; omega
      · obtain rfl : k = ns.length := by omega
        have HALL := Lib.hid (show ns.all (lotOk b) = true from List.all_eq_true.2 (fun n hn => HA.out n (by rw [List.take_length]; exact hn)))
        have HBX := Lib.hid (HB.out.below x.b)
        have HOP := Lib.hid (open_any b P x.w HBX.out HOK.out)
        go_wp2_with (first
          | (refine load_row rfl 25 _ rfl w.heap.size rfl 25 (ybA b P) _ HXB.out Try.underlying25 rfl (by kernel_rfl) ?_)
          | (go_at_call 94; (with_reducible refine HOP.out.mono ?_); rintro e u ⟨mb, rfl, hfa, hmb, hbu⟩; have HFA := Lib.hid hfa; have hzx := x.b.size; have hzw := HRZ.out.lt; have HBU := Lib.hid hbu; have HRU := Lib.hid (HXZ.out.below hbu HXZ.out.lt); clear hbu hfa)
          | (refine store_row rfl 83 _ _ rfl (w.heap.size + 1) (ykA b P mb) ykZ 83 rfl rfl HRU.out (by kernel_rfl) rfl (by simp [Value.oneCell']) ?_))
        exact bodyPost_ret (v := .tuple #[.agg (ykA b P mb), .int .i64 0]) (results_cell_tmp' Try.results55 _ _ _ _ _ _ _ rfl rfl (HRU.out.setRow (ykA b P mb)) Try.underlying83 rfl (by kernel_rfl)) rfl ⟨below_setRow' ((x.base HE.out).trans (HBU.out.mono (x.base HE.out).size)) (by omega) _, .inr (.inr ⟨HBB.out, HALL.out, mb, rfl, ⟨HBW.out.below (below_setRow' ((x.base HE.out).trans (HBU.out.mono (x.base HE.out).size)) (by omega) _), HOK.out, HFA.out.of_same (setRow_far (by omega))⟩, by omega⟩)⟩
end Go.Proofs.Ytajkgfeockcbpaa
