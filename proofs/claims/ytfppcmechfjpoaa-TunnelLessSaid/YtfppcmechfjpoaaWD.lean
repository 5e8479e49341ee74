/- The law's own helpers of layer 3: how dry a frame is in a book whose damp is known. -/
import Derived.Test.YtfppcmechfjpoaaWB
namespace Go.Proofs.Ytfppcmechfjpoaa
open Go.RowKit Go.Maps
attribute [local go_sem] Oper.semAt_some

/-- A number so many times, one after another. -/
def timesN (x : Int) : Nat → Int
  | 0 => 0
  | j + 1 => timesN x j + x
theorem timesN_eq (x : Int) : ∀ j : Nat, timesN x j = (j : Int) * x
  | 0 => by simp [timesN]
  | j + 1 => by rw [timesN, timesN_eq x j]; push_cast; rw [Int.add_mul]; omega
theorem timesN_range {x : Int} (h0 : 0 ≤ x) (h1 : x ≤ 20) : ∀ j : Nat, 0 ≤ timesN x j ∧ timesN x j ≤ 20 * j
  | 0 => by simp [timesN]
  | j + 1 => by
    have := timesN_range h0 h1 j
    rw [timesN]; push_cast; omega

set_option maxRecDepth 10000 in
set_option maxHeartbeats 3200000 in
theorem ldryness_any (pp : Option Addr) (cp : Nat) (pf : Option Addr) (nf cf : Nat) (ps : List Pt) (q : Option Addr) (c : Nat) (s : List Int) (sp : Option Addr) (sc : Nat) (st : List Int) (lo hi : Int) (w : World) (hP : PtsAt w pp ps) (hok : ∀ p ∈ ps, PtOk p) (h4 : ps.length ≤ 4) (hI : IntsAt w q s) (hl : s.length = ps.length) (hs : ∀ x ∈ s, 0 ≤ x ∧ x ≤ 3) (hJ : IntsAt w sp st) (hsl : st.length = ps.length) (hsr : ∀ x ∈ st, 0 ≤ x ∧ x ≤ 20) :
    Calls Try.prog 43 #[.agg #[.slice pp ps.length cp, .slice pf nf cf], .slice q s.length c, .agg #[.slice sp st.length sc, .int .i64 lo, .int .i64 hi]] w fun e w' => e = .returned (.int .i64 (dryD Pt.lo ps s st)) ∧ Below w.heap.size w w' := by
  have HPT := Lib.hid hP
  have HIS := Lib.hid hI
  have HJS := Lib.hid hJ
  have HOK := Lib.hid hok
  have HS := Lib.hid hs
  have HSR := Lib.hid hsr
  have HL := Lib.hid hl
  have HSL := Lib.hid hsl
  have HDR := Lib.hid (fun n (h : n ≤ ps.length) => dryTo_range (d := Pt.lo) (s := s) hok hsr hsl (fun p hp => (hok p hp).l0) n h)
  clear hP hI hJ hok hs hsr hl hsl
  go_enter Try.func43, Try.ntmps43
  go_wp2
  go_loopw [7, 8] (fun a i wr => ∃ k : Nat, k ≤ s.length ∧ i = .int .i64 k ∧ a = .int .i64 (dryTo Pt.lo ps s st k) ∧ Row wr w.heap.size #[.slice pp ps.length cp, .slice pf nf cf] 25 ∧ Row wr (w.heap.size + 1) #[.slice sp st.length sc, .int .i64 lo, .int .i64 hi] 55 ∧ Below w.heap.size w wr) (fun _ i _ => s.length - (intOf i).toNat)
  case atStart => exact ⟨0, by omega, rfl, by simp [dryTo], (Row.new _ _ _).alloc _, Row.new1 _ _ _ _, below_alloc2 _ _ _⟩
  case round =>
    obtain ⟨k, hk, rfl, rfl, r0, r1, hb⟩ := hrel
    have HB := Lib.hid hb
    have HR := Lib.hid r0
    have HF := Lib.hid r1
    have c0 := r0.cell 0 (v := .slice pp ps.length cp) rfl
    have f0 := r1.cell 0 (v := .slice sp st.length sc) rfl
    clear r0 r1 hb
    by_cases hlt : k < s.length
    · have hkp : k < ps.length := by have := HL.out; omega
      have hkt : k < st.length := by have := HSL.out; omega
      have hsk := HS.out _ (at0_mem hlt)
      obtain ⟨d, hd⟩ : ∃ d : Nat, at0 s k = d := ⟨(at0 s k).toNat, by omega⟩
      have hd3 : d ≤ 3 := by omega
      obtain ⟨b, o, rfl, hcell⟩ := (HPT.out.below HB.out).heat hkp hd3
      obtain ⟨b', o', e', _, _, _, _, hlo, _⟩ := (HPT.out.below HB.out) k hkp
      cases e'
      obtain ⟨b2, o2, rfl, hsc⟩ := (HIS.out.below HB.out) k hlt
      obtain ⟨b3, o3, rfl, hst⟩ := (HJS.out.below HB.out) k hkt
      rw [hd] at hsc
      have hokk := HOK.out ps[k] (List.getElem_mem _)
      have hr1 := Pt.h_range hokk d
      have hr2 := hokk.l0
      have hr3 := hokk.l2
      have hr4 := hokk.l1
      have hra := HDR.out k (by omega)
      have hst2 := HSR.out _ (at0_mem hkt)
      have HD := Lib.hid hd
      have i1 : (0 : Int) ≤ (k : Int) := by omega
      have i2 : (k : Int) < (ps.length : Int) := by omega
      have i3 : (k : Int) < (s.length : Int) := by omega
      have i4 : (k : Int) < (st.length : Int) := by omega
      have i5 : (0 : Int) ≤ (d : Int) := by omega
      have i6 : (d : Int) < 4 := by omega
      have HN := Lib.hid (dryTo_succ (d := Pt.lo) (ps := ps) (s := s) (stay := st) hkp)
      obtain ⟨hh, eh⟩ : ∃ x, ps[k].h d = x := ⟨_, rfl⟩
      obtain ⟨ll, el⟩ : ∃ x, ps[k].lo = x := ⟨_, rfl⟩
      obtain ⟨aa, ea⟩ : ∃ x, dryTo Pt.lo ps s (st) k = x := ⟨_, rfl⟩
      obtain ⟨tt, et⟩ : ∃ t : Nat, at0 st k = t := ⟨(at0 st k).toNat, by omega⟩
      rw [eh] at hcell hr1
      rw [el] at hlo hr2 hr4
      rw [ea] at hra
      rw [et] at hst hst2
      have HX := Lib.hid (show dryTo Pt.lo ps s st (k + 1) = aa + (tt : Int) * max 0 (hh - ll) by rw [HN.out, dryAt, ea, HD.out, eh, el, et])
      have EA := Lib.hid ea
      clear eh el ea et hd HN hokk
      have e1 : IntKind.i64.wrap (hh - ll) = hh - ll := IntWalk.i64_in _ (by omega)
      rw [EA.out]
      go_wp2_with fail
      go_quiet (fail)
      go_wp2_with fail
      by_cases hby : 0 < hh - ll
      · go_loopw [7, 10] (fun a i wr' => wr' = wr.drewN nq ∧ ∃ j : Nat, j ≤ tt ∧ i = .int .i64 j ∧ a = .int .i64 (aa + timesN (hh - ll) j)) (fun _ i _ => tt - (intOf i).toNat)
        case atStart => exact ⟨rfl, 0, by omega, rfl, by simp [timesN]⟩
        case round =>
          obtain ⟨rfl, j, hj, rfl, rfl⟩ := hrel
          have hrj := timesN_range (x := hh - ll) (by omega) (by omega) j
          by_cases hjt : j < tt
          · have HT := Lib.hid (show timesN (hh - ll) (j + 1) = timesN (hh - ll) j + (hh - ll) from rfl)
            go_wp2_with fail
            go_roundw
            case rel => exact ⟨trivial, j + 1, by omega, by go_num, by rw [HT.out]; go_num⟩
            case measure => simp [intOf]; omega
          · obtain rfl : j = tt := by omega
            have HT := Lib.hid (timesN_eq (hh - ll) j)
            go_wp2_with fail
            go_roundw
            case rel => exact ⟨k + 1, by omega, by go_num, by rw [HX.out, HT.out, show max 0 (hh - ll) = hh - ll by omega], HR.out.drewN _, HF.out.drewN _, below_drewN HB.out _⟩
            case measure => simp [intOf]; omega
      · have hby2 : decide (hh - ll > 0) = false := by simp; omega
        go_loopw [7, 10] (fun a i wr' => wr' = wr.drewN nq ∧ i = .int .i64 0 ∧ a = .int .i64 aa) (fun _ i _ => tt - (intOf i).toNat)
        case atStart => exact ⟨rfl, rfl, rfl⟩
        case round =>
          obtain ⟨rfl, rfl, rfl⟩ := hrel
          go_wp2_with fail
          go_roundw
          case rel => exact ⟨k + 1, by omega, by go_num, by rw [HX.out, show max 0 (hh - ll) = 0 by omega]; simp, HR.out.drewN _, HF.out.drewN _, below_drewN HB.out _⟩
          case measure => simp [intOf]; omega
    · obtain rfl : k = s.length := by omega
      go_wp2_with fail
      go_ret
      exact ⟨ret_int (by rw [dryD, HL.out]), HB.out⟩
end Go.Proofs.Ytfppcmechfjpoaa
