/- The walks of layer 3: which books are valid. -/
import Derived.Test.YticfcdbfplfmlaaGreatTBX
import Derived.Laws.EntriesVeiled
import Derived.Maps.AppendAt
import Derived.ArgAppend
import Derived.Test.YticfcdbfplfmlaaGreatRGX
namespace Go.Proofs.YticfcdbfplfmlaaGreat.Tu
open Go.RowKit Go.Maps
attribute [local go_sem] Oper.semAt_some

def befP (p : Pt) (k : Nat) : Int := if k = 0 then 0 else p.h (k - 1 : Int)
theorem befP_succ (p : Pt) (k : Nat) : befP p (k + 1) = p.h k := by
  unfold befP
  rw [if_neg (by omega), show ((k + 1 : Nat) : Int) - 1 = (k : Int) by omega]
theorem heatAt (p : Pt) {k : Nat} (hk : k < 4) (w : World) : (Instr.index 74 (.agg #[.int .i64 p.h0, .int .i64 p.h1, .int .i64 p.h2, .int .i64 p.h3]) (.int .i64 k)).run Tryz.prog w = .ok (.int .i64 (p.h k)) w := by
  obtain rfl | rfl | rfl | rfl : k = 0 ∨ k = 1 ∨ k = 2 ∨ k = 3 := by omega
  all_goals simp [Instr.index, go_sem, Pt.h]
theorem pt_all {p : Pt} (h : ∀ j, j < 4 → befP p j ≤ p.h j ∧ p.h j ≤ 20) : 0 ≤ p.h0 ∧ p.h0 ≤ p.h1 ∧ p.h1 ≤ p.h2 ∧ p.h2 ≤ p.h3 ∧ p.h3 ≤ 20 := by
  have h0 := h 0 (by omega)
  have h1 := h 1 (by omega)
  have h2 := h 2 (by omega)
  have h3 := h 3 (by omega)
  simp [befP, Pt.h] at h0 h1 h2 h3
  omega
theorem pt_each {p : Pt} (h : 0 ≤ p.h0 ∧ p.h0 ≤ p.h1 ∧ p.h1 ≤ p.h2 ∧ p.h2 ≤ p.h3 ∧ p.h3 ≤ 20) {j : Nat} (hj : j < 4) : befP p j ≤ p.h j ∧ p.h j ≤ 20 := by
  obtain rfl | rfl | rfl | rfl : j = 0 ∨ j = 1 ∨ j = 2 ∨ j = 3 := by omega
  all_goals
    simp [befP, Pt.h]
    omega
theorem numAt0 (a b c : Int) (w : World) : (Instr.index 162 (.agg #[.int .i64 a, .int .i64 0, .int .i64 20, .int .i64 b, .int .i64 0, .int .i64 20, .int .i64 c, .int .i64 0, .int .i64 3]) (.int .i64 0)).run Tryz.prog w = .ok (.agg #[.int .i64 a, .int .i64 0, .int .i64 20]) w := by
  simp [Instr.index, go_sem]
theorem numAt1 (a b c : Int) (w : World) : (Instr.index 162 (.agg #[.int .i64 a, .int .i64 0, .int .i64 20, .int .i64 b, .int .i64 0, .int .i64 20, .int .i64 c, .int .i64 0, .int .i64 3]) (.int .i64 1)).run Tryz.prog w = .ok (.agg #[.int .i64 b, .int .i64 0, .int .i64 20]) w := by
  simp [Instr.index, go_sem]
theorem numAt2 (a b c : Int) (w : World) : (Instr.index 162 (.agg #[.int .i64 a, .int .i64 0, .int .i64 20, .int .i64 b, .int .i64 0, .int .i64 20, .int .i64 c, .int .i64 0, .int .i64 3]) (.int .i64 2)).run Tryz.prog w = .ok (.agg #[.int .i64 c, .int .i64 0, .int .i64 3]) w := by
  simp [Instr.index, go_sem]
theorem ptB_false {p : Pt} (h : ¬ (0 ≤ p.h0 ∧ p.h0 ≤ p.h1 ∧ p.h1 ≤ p.h2 ∧ p.h2 ≤ p.h3 ∧ p.h3 ≤ 20 ∧ 0 ≤ p.lo ∧ p.lo ≤ p.hi ∧ p.hi ≤ 20 ∧ p.hi - p.lo ≤ 3)) : false = ptB p := by
  rw [ptB]; exact (decide_eq_false h).symm
theorem ptB_true {p : Pt} (h : 0 ≤ p.h0 ∧ p.h0 ≤ p.h1 ∧ p.h1 ≤ p.h2 ∧ p.h2 ≤ p.h3 ∧ p.h3 ≤ 20 ∧ 0 ≤ p.lo ∧ p.lo ≤ p.hi ∧ p.hi ≤ 20 ∧ p.hi - p.lo ≤ 3) : true = ptB p := by
  rw [ptB]; exact (decide_eq_true h).symm
abbrev numsT : TypeId := 162
abbrev numT : TypeId := 161
abbrev numsA (p : Pt) (d : Int) : Array Value := #[.int .i64 p.lo, .int .i64 0, .int .i64 20, .int .i64 p.hi, .int .i64 0, .int .i64 20, .int .i64 d, .int .i64 0, .int .i64 3]

set_option maxRecDepth 10000 in
set_option maxHeartbeats 1600000 in
theorem ptValid_any (p : Pt) (w : World) :
    Calls Tryz.prog 48 #[.agg p.A] w fun e w' => e = .returned (.bool (ptB p)) ∧ Below w.heap.size w w' := by
  unfold Pt.A
  go_enter Tryz.func48, Tryz.ntmps48
  go_wp2
  go_loop [3, 12] (fun b i => ∃ k : Nat, k ≤ 4 ∧ i = .int .i64 k ∧ b = .int .i64 (befP p k) ∧ ∀ j, j < k → befP p j ≤ p.h j ∧ p.h j ≤ 20) (fun _ i => 4 - (intOf i).toNat)
  case atStart => exact ⟨0, by omega, rfl, rfl, fun j h => by omega⟩
  case round =>
    obtain ⟨k, hk, rfl, rfl, hok⟩ := hrel
    have HOK := Lib.hid hok
    clear hok
    by_cases hlt : k < 4
    · have HE := Lib.hid (pt_each (p := p) (j := k) · hlt)
      have HBS := Lib.hid (befP_succ p k)
      go_wp2_with (first | (refine index_op rfl 74 _ _ rfl _ k rfl rfl _ (heatAt p hlt _) ?_))
      all_goals first
        | (go_ret; exact ⟨ret_bool (ptB_false (fun hh => by have := HE.out ⟨hh.1, hh.2.1, hh.2.2.1, hh.2.2.2.1, hh.2.2.2.2.1⟩; omega)), below_alloc _ _⟩)
        | (go_round
           case rel => exact ⟨k + 1, by omega, by go_num, by rw [HBS.out], fun j hj => by
             by_cases e : j = k
             · subst e; omega
             · exact HOK.out j (by omega)⟩
           case measure => simp [intOf]; omega)
    · obtain rfl : k = 4 := by omega
      have HALL := Lib.hid (pt_all HOK.out)
      clear HOK hk hlt
      go_wp2_with fail
      generalize hd : wrap64 (p.hi - p.lo) = d at *
      have HD := Lib.hid hd
      clear hd
      go_loopw [46] (fun i wr => (i = .int .i64 0 ∨ (i = .int .i64 1 ∧ 0 ≤ p.lo ∧ p.lo ≤ 20) ∨ (i = .int .i64 2 ∧ 0 ≤ p.lo ∧ p.lo ≤ 20 ∧ 0 ≤ p.hi ∧ p.hi ≤ 20) ∨ (i = .int .i64 3 ∧ 0 ≤ p.lo ∧ p.lo ≤ 20 ∧ 0 ≤ p.hi ∧ p.hi ≤ 20 ∧ 0 ≤ d ∧ d ≤ 3)) ∧ Below w.heap.size w wr) (fun i _ => 3 - (intOf i).toNat)
      case atStart => exact ⟨.inl rfl, below_alloc2 _ _ _⟩
      case round =>
        obtain ⟨hi, hb⟩ := hrel
        have HB := Lib.hid hb
        have hsz := hb.size
        clear hb
        rcases hi with rfl | ⟨rfl, h1⟩ | ⟨rfl, h1⟩ | ⟨rfl, h1⟩
        · go_wp2_with (first | (refine index_op rfl 162 _ _ rfl _ _ rfl rfl _ (numAt0 _ _ _ _) ?_))
          all_goals first
            | (go_ret; exact ⟨ret_bool (ptB_false (fun hh => by omega)), HB.out.alloc (by omega) _⟩)
            | (go_roundw
               case rel => exact ⟨.inr (.inl ⟨rfl, by omega, by omega⟩), HB.out.alloc (by omega) _⟩
               case measure => simp [intOf])
        · go_wp2_with (first | (refine index_op rfl 162 _ _ rfl _ _ rfl rfl _ (numAt1 _ _ _ _) ?_))
          all_goals first
            | (go_ret; exact ⟨ret_bool (ptB_false (fun hh => by omega)), HB.out.alloc (by omega) _⟩)
            | (go_roundw
               case rel => exact ⟨.inr (.inr (.inl ⟨rfl, h1.1, h1.2, by omega, by omega⟩)), HB.out.alloc (by omega) _⟩
               case measure => simp [intOf])
        · have HD2 := Lib.hid (show p.hi - p.lo = d by rw [← HD.out, IntWalk.wrap64_in _ (by omega)])
          go_wp2_with (first | (refine index_op rfl 162 _ _ rfl _ _ rfl rfl _ (numAt2 _ _ _ _) ?_))
          all_goals first
            | (go_ret; exact ⟨ret_bool (ptB_false (fun hh => by have := HD2.out; omega)), HB.out.alloc (by omega) _⟩)
            | (go_roundw
               case rel => exact ⟨.inr (.inr (.inr ⟨rfl, h1.1, h1.2.1, h1.2.2.1, h1.2.2.2, by omega, by omega⟩)), HB.out.alloc (by omega) _⟩
               case measure => simp [intOf])
        · have HD2 := Lib.hid (show p.hi - p.lo = d by rw [← HD.out, IntWalk.wrap64_in _ (by omega)])
          go_wp2
          go_ret
          exact ⟨ret_bool (ptB_true (by have := HD2.out; have := HALL.out; omega)), HB.out⟩
end Go.Proofs.YticfcdbfplfmlaaGreat.Tu
/- The walks of layer 3: which books are valid, all of it. -/
namespace Go.Proofs.YticfcdbfplfmlaaGreat.Tu
open Go.RowKit Go.Maps
attribute [local go_sem] Oper.semAt_some

def stayB (l : List Int) : Bool := l.all fun s => decide (0 ≤ s ∧ s ≤ 20)
theorem stayB_at {l : List Int} (h : stayB l = true) {i : Nat} (hi : i < l.length) : 0 ≤ at0 l i ∧ at0 l i ≤ 20 := by
  have := List.all_eq_true.1 h _ (at0_mem hi)
  simpa using this
theorem stayB_take {l : List Int} {k : Nat} (hk : k < l.length) (h : stayB (l.take k) = true) (h0 : 0 ≤ at0 l k) (h1 : at0 l k ≤ 20) : stayB (l.take (k + 1)) = true := by
  rw [take_snoc hk, stayB, List.all_append]
  simp only [stayB] at h
  rw [h]
  simp [h0, h1]
theorem frB_no {n : Nat} {f : Fr} (h : ¬ (stayB f.stay = true ∧ f.stay.length = n ∧ 0 ≤ f.lo ∧ f.lo ≤ f.hi ∧ f.hi ≤ 999)) : false = frB n f := by
  cases hv : frB n f
  · rfl
  · exfalso
    apply h
    simp only [frB, Bool.and_eq_true, decide_eq_true_eq] at hv
    exact ⟨hv.1.1, hv.1.2, hv.2⟩
theorem frB_yes {n : Nat} {f : Fr} (h : stayB f.stay = true ∧ f.stay.length = n ∧ 0 ≤ f.lo ∧ f.lo ≤ f.hi ∧ f.hi ≤ 999) : true = frB n f := by
  symm
  simp only [frB, Bool.and_eq_true, decide_eq_true_eq]
  exact ⟨⟨h.1, h.2.1⟩, h.2.2⟩

set_option maxRecDepth 10000 in
set_option maxHeartbeats 1600000 in
theorem frValid_any (m : FrM) (n : Nat) (w : World) (hi : IntsAt w m.p m.f.stay) (hl : m.f.stay.length < 2 ^ 62) :
    Calls Tryz.prog 49 #[.agg m.A, .int .i64 n] w fun e w' => e = .returned (.bool (frB n m.f)) ∧ Below w.heap.size w w' := by
  obtain ⟨mp, mc, mf⟩ := m
  unfold FrM.A
  dsimp only at *
  have HI := Lib.hid (hi.below (below_alloc w (.cells #[.slice mp mf.stay.length mc, .int .i64 mf.lo, .int .i64 mf.hi] 105)))
  clear hi
  go_enter Tryz.func49, Tryz.ntmps49
  go_wp2
  go_loop [11] (fun i => ∃ k : Nat, k ≤ mf.stay.length ∧ i = .int .i64 k ∧ Hid (stayB (mf.stay.take k) = true)) (fun i => mf.stay.length - (intOf i).toNat)
  case atStart => exact ⟨0, by omega, rfl, Lib.hid rfl⟩
  case round =>
    obtain ⟨k, hk, rfl, HOK⟩ := hrel
    by_cases hlt : k < mf.stay.length
    · obtain ⟨b, o, rfl, hc⟩ := HI.out k hlt
      go_wp2
      all_goals first
        | (go_ret; exact ⟨ret_bool (frB_no (fun hh => by have := stayB_at hh.1 hlt; omega)), below_alloc _ _⟩)
        | (go_round
           case rel => exact ⟨k + 1, by omega, by go_num, Lib.hid (stayB_take hlt HOK.out (by omega) (by omega))⟩
           case measure => simp [intOf]; omega)
    · have HOK2 := Lib.hid (show stayB mf.stay = true by have := HOK.out; rwa [List.take_of_length_le (by omega)] at this)
      clear HOK
      go_wp2
      all_goals
        go_ret
        first
          | exact ⟨ret_bool (frB_no (fun hh => by omega)), below_alloc _ _⟩
          | exact ⟨ret_bool (frB_yes ⟨HOK2.out, by omega, by omega, by omega, by omega⟩), below_alloc _ _⟩
          | (refine ⟨ret_bool ?_, below_alloc _ _⟩
             by_cases h9 : mf.hi ≤ 999
             · rw [decide_eq_true h9]; exact frB_yes ⟨HOK2.out, by omega, by omega, by omega, h9⟩
             · rw [decide_eq_false h9]; exact frB_no (fun hh => by omega))

theorem bookB_no {ps : List Pt} {fs : List Fr} (h : ¬ (1 ≤ ps.length ∧ ps.length ≤ 4 ∧ fs.length ≤ 5 ∧ (∀ i (h : i < ps.length), ptB ps[i] = true) ∧ ∀ i (h : i < fs.length), frB ps.length fs[i] = true)) : false = bookB ps fs := by
  cases hv : bookB ps fs
  · rfl
  · exfalso
    apply h
    simp only [bookB, Bool.and_eq_true, decide_eq_true_eq, List.all_eq_true] at hv
    exact ⟨hv.1.1.1.1, hv.1.1.1.2, hv.1.1.2, fun i hi => hv.1.2 _ (List.getElem_mem _), fun i hi => hv.2 _ (List.getElem_mem _)⟩
theorem bookB_yes {ps : List Pt} {fs : List Fr} (h1 : 1 ≤ ps.length) (h2 : ps.length ≤ 4) (h3 : fs.length ≤ 5) (h4 : ∀ i (h : i < ps.length), ptB ps[i] = true) (h5 : ∀ i (h : i < fs.length), frB ps.length fs[i] = true) : true = bookB ps fs := by
  symm
  simp only [bookB, Bool.and_eq_true, decide_eq_true_eq, List.all_eq_true]
  refine ⟨⟨⟨⟨h1, h2⟩, h3⟩, fun p hp => ?_⟩, fun f hf => ?_⟩
  · obtain ⟨i, hi, rfl⟩ := List.mem_iff_getElem.1 hp; exact h4 i hi
  · obtain ⟨i, hi, rfl⟩ := List.mem_iff_getElem.1 hf; exact h5 i hi
theorem frsM_at {ms : List FrM} {i : Nat} (h : i < (frsM ms).length) : (frsM ms)[i] = (ms[i]'(by rwa [frsM_length] at h)).f := by simp [frsM]

set_option maxRecDepth 10000 in
set_option maxHeartbeats 1600000 in
theorem valid_any (pp : Option Addr) (cp : Nat) (pf : Option Addr) (cf : Nat) (ps : List Pt) (ms : List FrM) (w : World) (hB : BkAt w pp pf ps ms) :
    Calls Tryz.prog 21 #[.agg #[.slice pp ps.length cp, .slice pf ms.length cf]] w fun e w' => e = .returned (.bool (bookB ps (frsM ms))) ∧ Below w.heap.size w w' := by
  have HBK := Lib.hid hB
  have b1 := hB.b1
  have b2 := hB.b2
  have HFL := Lib.hid (frsM_length ms)
  clear hB
  by_cases hsz : 1 ≤ ps.length ∧ ps.length ≤ 4 ∧ ms.length ≤ 5
  · obtain ⟨s1, s2, s3⟩ := hsz
    go_enter Tryz.func21, Tryz.ntmps21
    go_wp2
    go_loopw [26] (fun i wr => ∃ k : Nat, k ≤ ps.length ∧ i = .int .i64 k ∧ (∀ i (h : i < ps.length), i < k → ptB ps[i] = true) ∧ Row wr w.heap.size #[.slice pp ps.length cp, .slice pf ms.length cf] 25 ∧ Below w.heap.size w wr) (fun i _ => ps.length - (intOf i).toNat)
    case atStart => exact ⟨0, by omega, rfl, fun i _ h => by omega, Row.new _ _ _, below_alloc _ _⟩
    case round =>
      obtain ⟨k, hk, rfl, hok, r0, hb⟩ := hrel
      have HOK := Lib.hid hok
      have HR := Lib.hid r0
      have HB := Lib.hid hb
      have hz := r0.lt
      clear hok r0 hb
      by_cases hlt : k < ps.length
      · obtain ⟨b, o, rfl, q0, q1, q2, q3, q4, q5⟩ := (HBK.out.p.below HB.out) k hlt
        go_wp2_with fail
        refine (ptValid_any ps[k] _).mono ?_
        rintro e w1 ⟨rfl, hb1⟩
        have hE := (below_alloc wr (.cells ps[k].A 81)).trans (hb1.mono (by simp))
        have HR := Lib.hid (HR.out.below hE hz)
        have HB := Lib.hid (HB.out.trans (hE.mono (by omega)))
        clear q0 q1 q2 q3 q4 q5 hb1 hE
        cases hv : ptB ps[k]
        · have HV := Lib.hid hv
          clear hv
          go_wp2
          go_ret
          exact ⟨ret_bool (bookB_no (fun hh => by have := hh.2.2.2.1 k hlt; rw [HV.out] at this; cases this)), HB.out⟩
        · have HV := Lib.hid hv
          clear hv
          go_wp2
          go_roundw
          case rel => exact ⟨k + 1, by omega, by go_num, fun i h h2 => by
            by_cases e : i = k
            · subst e; exact HV.out
            · exact HOK.out i h (by omega), HR.out, HB.out⟩
          case measure => simp [intOf]; omega
      · obtain rfl : k = ps.length := by omega
        have k1 := HR.out.cell 1 (v := .slice pf ms.length cf) rfl
        go_wp2_with fail
        clear k1
        go_loopw [38] (fun i wr => ∃ k : Nat, k ≤ ms.length ∧ i = .int .i64 k ∧ (∀ i (h : i < ms.length), i < k → frB ps.length ms[i].f = true) ∧ Row wr w.heap.size #[.slice pp ps.length cp, .slice pf ms.length cf] 25 ∧ Below w.heap.size w wr) (fun i _ => ms.length - (intOf i).toNat)
        case atStart => exact ⟨0, by omega, rfl, fun i _ h => by omega, HR.out, HB.out⟩
        case round =>
          clear HR HB hz
          obtain ⟨k, hk, rfl, hok, r0, hb⟩ := hrel
          have HOK2 := Lib.hid hok
          have HR := Lib.hid r0
          have HB := Lib.hid hb
          have hz := r0.lt
          clear hok r0 hb
          by_cases hlt : k < ms.length
          · obtain ⟨b, o, rfl, q0, q1, q2, q3⟩ := (HBK.out.f.below HB.out) k hlt
            have hb3 := HBK.out.b3 ms[k] (List.getElem_mem _)
            have Q3 := Lib.hid q3
            have p0 := HR.out.cell 0 (v := .slice pp ps.length cp) rfl
            clear q3
            go_wp2_with fail
            refine (frValid_any ms[k] ps.length _ (Q3.out.below (below_alloc _ _)) hb3).mono ?_
            rintro e w1 ⟨rfl, hb1⟩
            have hE := (below_alloc wr (.cells ms[k].A 50)).trans (hb1.mono (by simp))
            have HR := Lib.hid (HR.out.below hE hz)
            have HB := Lib.hid (HB.out.trans (hE.mono (by omega)))
            clear q0 q1 q2 hb1 hE p0
            cases hv : frB ps.length ms[k].f
            · have HV := Lib.hid hv
              clear hv
              go_wp2
              go_ret
              exact ⟨ret_bool (bookB_no (fun hh => by have := hh.2.2.2.2 k (by rw [HFL.out]; exact hlt); rw [frsM_at, HV.out] at this; cases this)), HB.out⟩
            · have HV := Lib.hid hv
              clear hv
              go_wp2
              go_roundw
              case rel => exact ⟨k + 1, by omega, by go_num, fun i h h2 => by
                by_cases e : i = k
                · subst e; exact HV.out
                · exact HOK2.out i h (by omega), HR.out, HB.out⟩
              case measure => simp [intOf]; omega
          · obtain rfl : k = ms.length := by omega
            go_wp2
            go_ret
            exact ⟨ret_bool (bookB_yes s1 s2 (by rw [HFL.out]; exact s3) (fun i h => HOK.out i h h) (fun i h => by rw [frsM_at]; exact HOK2.out i (by rwa [HFL.out] at h) (by rwa [HFL.out] at h))), HB.out⟩
  · go_enter Tryz.func21, Tryz.ntmps21
    go_wp2
    all_goals first
      | (go_ret; exact ⟨ret_bool (bookB_no (fun hh => by have := hh.1; have := hh.2.1; have := hh.2.2.1; rw [HFL.out] at this; omega)), below_alloc _ _⟩)
      | skip

theorem Check_any (pp : Option Addr) (cp : Nat) (pf : Option Addr) (cf : Nat) (ps : List Pt) (ms : List FrM) (w : World) (hB : BkAt w pp pf ps ms) :
    Calls Tryz.prog 4 #[.agg #[.slice pp ps.length cp, .slice pf ms.length cf]] w fun e w' => e = .returned (.int .i64 (bookE ps (frsM ms))) ∧ Below w.heap.size w w' := by
  have HBK := Lib.hid (hB.below (below_alloc w (.cells #[.slice pp ps.length cp, .slice pf ms.length cf] 25)))
  clear hB
  unfold bookE
  cases hv : bookB ps (frsM ms)
  all_goals
    have HV := Lib.hid hv
    clear hv
    go_enter Tryz.func4, Tryz.ntmps4
    go_wp2_with fail
    refine (valid_any pp cp pf cf ps ms _ HBK.out).mono ?_
    rintro e w1 ⟨rfl, hb1⟩
    rw [HV.out]
    have HB := Lib.hid ((below_alloc w (.cells #[.slice pp ps.length cp, .slice pf ms.length cf] 25)).trans (hb1.mono (by simp)))
    clear hb1
    go_wp2
    go_ret
    exact ⟨rfl, HB.out⟩
end Go.Proofs.YticfcdbfplfmlaaGreat.Tu
/- The walks of layer 3: lists that are copied; a book with a damp that is known, a frame that stays longer. -/
namespace Go.Proofs.YticfcdbfplfmlaaGreat.Tu
open Go.RowKit Go.Maps
attribute [local go_sem] Oper.semAt_some

theorem Tryz.infoPart : (Tryz.prog.info? 81).map (fun i => (i.zero, i.size, i.bytes)) = some (some (.agg #[.int .i64 0, .int .i64 0, .int .i64 0, .int .i64 0, .int .i64 0, .int .i64 0]), 6, 48) := by kernel_rfl
theorem Tryz.infoFrame : (Tryz.prog.info? 50).map (fun i => (i.zero, i.size, i.bytes)) = some (some (.agg #[.slice none 0 0, .int .i64 0, .int .i64 0]), 3, 40) := by kernel_rfl
def ptVals (ps : List Pt) : List Value := ps.flatMap fun p => p.A.toList
def frVals (ms : List FrM) : List Value := ms.flatMap fun m => m.A.toList
theorem ptVals_length : ∀ ps : List Pt, (ptVals ps).length = ps.length * 6
  | [] => rfl
  | p :: ps => by
    have := ptVals_length ps
    rw [ptVals] at this ⊢
    rw [List.flatMap_cons, List.length_append, this]
    simp [Pt.A]; omega
theorem frVals_length : ∀ ms : List FrM, (frVals ms).length = ms.length * 3
  | [] => rfl
  | p :: ps => by
    have := frVals_length ps
    rw [frVals] at this ⊢
    rw [List.flatMap_cons, List.length_append, this]
    simp [FrM.A]; omega
/-- A block's cells hold such parts, frames, numbers. -/
def HoldsP (f : Nat → Option Value) (ps : List Pt) : Prop := ∀ i (h : i < ps.length), f (i * 6) = some (.int .i64 ps[i].h0) ∧ f (i * 6 + 1) = some (.int .i64 ps[i].h1) ∧ f (i * 6 + 2) = some (.int .i64 ps[i].h2) ∧ f (i * 6 + 3) = some (.int .i64 ps[i].h3) ∧ f (i * 6 + 4) = some (.int .i64 ps[i].lo) ∧ f (i * 6 + 5) = some (.int .i64 ps[i].hi)
def HoldsF (f : Nat → Option Value) (ms : List FrM) : Prop := ∀ i (h : i < ms.length), f (i * 3) = some (.slice ms[i].p ms[i].f.stay.length ms[i].c) ∧ f (i * 3 + 1) = some (.int .i64 ms[i].f.lo) ∧ f (i * 3 + 2) = some (.int .i64 ms[i].f.hi)
def HoldsI (f : Nat → Option Value) (xs : List Int) : Prop := ∀ i, i < xs.length → f i = some (.int .i64 (at0 xs i))
theorem ptVals_at : ∀ (ps : List Pt), HoldsP (fun j => (ptVals ps)[j]?) ps
  | [], _, h => by simp at h
  | p :: ps, 0, _ => by simp [ptVals, Pt.A]
  | p :: ps, i + 1, h => by
    have := ptVals_at ps i (by simpa using h)
    have e : (i + 1) * 6 = i * 6 + 6 := by omega
    have key : ∀ d, (ptVals (p :: ps))[(i + 1) * 6 + d]? = (ptVals ps)[i * 6 + d]? := fun d => by
      rw [ptVals, List.flatMap_cons, List.getElem?_append_right (by simp [Pt.A]; omega)]
      simp only [Pt.A, List.length_cons, List.length_nil]
      congr 1
      omega
    have k0 := key 0
    simp only [Nat.add_zero] at k0
    simp only [List.getElem_cons_succ]
    exact ⟨k0.trans this.1, (key 1).trans this.2.1, (key 2).trans this.2.2.1, (key 3).trans this.2.2.2.1, (key 4).trans this.2.2.2.2.1, (key 5).trans this.2.2.2.2.2⟩
theorem frVals_at : ∀ (ms : List FrM), HoldsF (fun j => (frVals ms)[j]?) ms
  | [], _, h => by simp at h
  | p :: ps, 0, _ => by simp [frVals, FrM.A]
  | p :: ps, i + 1, h => by
    have := frVals_at ps i (by simpa using h)
    have key : ∀ d, (frVals (p :: ps))[(i + 1) * 3 + d]? = (frVals ps)[i * 3 + d]? := fun d => by
      rw [frVals, List.flatMap_cons, List.getElem?_append_right (by simp [FrM.A]; omega)]
      simp only [FrM.A, List.length_cons, List.length_nil]
      congr 1
      omega
    have k0 := key 0
    simp only [Nat.add_zero] at k0
    simp only [List.getElem_cons_succ]
    exact ⟨k0.trans this.1, (key 1).trans this.2.1, (key 2).trans this.2.2⟩
theorem PtsAt.cells {w : World} {b o : Nat} {ps : List Pt} (h : PtsAt w (some ⟨b, o, none⟩) ps) : ∀ j u, (ptVals ps)[j]? = some u → w.cell? ⟨b, o + j, none⟩ = some u := by
  intro j u hj
  have hlt : j < ps.length * 6 := by rw [← ptVals_length]; exact (List.getElem?_eq_some_iff.1 hj).1
  have hi : j / 6 < ps.length := by omega
  have hcs : j = j / 6 * 6 ∨ j = j / 6 * 6 + 1 ∨ j = j / 6 * 6 + 2 ∨ j = j / 6 * 6 + 3 ∨ j = j / 6 * 6 + 4 ∨ j = j / 6 * 6 + 5 := by omega
  generalize j / 6 = q at *
  obtain ⟨b', o', e, h0, h1, h2, h3, h4, h5⟩ := h q hi
  cases e
  obtain ⟨a0, a1, a2, a3, a4, a5⟩ := ptVals_at ps q hi
  dsimp only at a0 a1 a2 a3 a4 a5
  rcases hcs with rfl | rfl | rfl | rfl | rfl | rfl
  · rw [a0] at hj; cases hj; exact h0
  · rw [a1] at hj; cases hj; exact h1
  · rw [a2] at hj; cases hj; exact h2
  · rw [a3] at hj; cases hj; exact h3
  · rw [a4] at hj; cases hj; exact h4
  · rw [a5] at hj; cases hj; exact h5
theorem FrsAt.cells {w : World} {b o : Nat} {ms : List FrM} (h : FrsAt w (some ⟨b, o, none⟩) ms) : ∀ j u, (frVals ms)[j]? = some u → w.cell? ⟨b, o + j, none⟩ = some u := by
  intro j u hj
  have hlt : j < ms.length * 3 := by rw [← frVals_length]; exact (List.getElem?_eq_some_iff.1 hj).1
  have hi : j / 3 < ms.length := by omega
  have hcs : j = j / 3 * 3 ∨ j = j / 3 * 3 + 1 ∨ j = j / 3 * 3 + 2 := by omega
  generalize j / 3 = q at *
  obtain ⟨b', o', e, h0, h1, h2, _⟩ := h q hi
  cases e
  obtain ⟨a0, a1, a2⟩ := frVals_at ms q hi
  dsimp only at a0 a1 a2
  rcases hcs with rfl | rfl | rfl
  · rw [a0] at hj; cases hj; exact h0
  · rw [a1] at hj; cases hj; exact h1
  · rw [a2] at hj; cases hj; exact h2
theorem pts_row {w : World} {g : Nat} {cur : Array Value} {t : TypeId} {ps : List Pt} (hr : Row w g cur t) (h : HoldsP (cur[·]?) ps) : PtsAt w (some ⟨g, 0, none⟩) ps := by
  intro i hi
  obtain ⟨h0, h1, h2, h3, h4, h5⟩ := h i hi
  refine ⟨g, 0, rfl, ?_⟩
  simp only [Nat.zero_add]
  exact ⟨hr.cell _ h0, hr.cell _ h1, hr.cell _ h2, hr.cell _ h3, hr.cell _ h4, hr.cell _ h5⟩
theorem frs_row {w : World} {g : Nat} {cur : Array Value} {t : TypeId} {ms : List FrM} (hr : Row w g cur t) (h : HoldsF (cur[·]?) ms) (hi : ∀ i (h : i < ms.length), IntsAt w ms[i].p ms[i].f.stay) : FrsAt w (some ⟨g, 0, none⟩) ms := by
  intro i hl
  obtain ⟨h0, h1, h2⟩ := h i hl
  refine ⟨g, 0, rfl, ?_⟩
  simp only [Nat.zero_add]
  exact ⟨hr.cell _ h0, hr.cell _ h1, hr.cell _ h2, hi i hl⟩
theorem ints_rowI {w : World} {g : Nat} {cur : Array Value} {t : TypeId} {xs : List Int} (hr : Row w g cur t) (h : HoldsI (cur[·]?) xs) : IntsAt w (some ⟨g, 0, none⟩) xs := fun i hi => ⟨g, 0, rfl, by rw [Nat.zero_add]; exact hr.cell i (h i hi)⟩
theorem cur_of_take {cur : Array Value} {n : Nat} {vs : List Value} (h : cur.toList.take n = vs) {j : Nat} {u : Value} (hj : vs[j]? = some u) : cur[j]? = some u := by
  subst h
  have hl : j < n := by
    have := (List.getElem?_eq_some_iff.1 hj).1
    rw [List.length_take] at this; omega
  rw [List.getElem?_take_of_lt hl] at hj
  simpa using hj
/-- What a copy leaves: a block of its own. -/
def Copied (n : Nat) (v : Value) (g : Nat) (cap : Nat) (cur : Array Value) (t : TypeId) (w w' : World) : Prop :=
  v = .slice (some ⟨g, 0, none⟩) n cap ∧ Row w' g cur t ∧ w.heap.size ≤ g ∧ n ≤ cap ∧ Below w.heap.size w w'
theorem copy_parts (w : World) (ps : List Pt) (b o c : Nat) (h : PtsAt w (some ⟨b, o, none⟩) ps) (h1 : 0 < ps.length) (h3 : ps.length ≤ 10) (ty : TypeId) (z : Nat) :
    ∃ v g cap cur w', (Builtin.append_ #[22, 22] ty #[.slice (some ⟨z, 0, none⟩) 0 0, .slice (some ⟨b, o, none⟩) ps.length c]).run Tryz.prog w = .ok v w' ∧ Copied ps.length v g cap cur 81 w w' ∧ HoldsP (cur[·]?) ps := by
  obtain ⟨i0, hi, hi0, hi1, hi2⟩ := info_parts Tryz.infoPart
  obtain ⟨v', w', hr, hown, hg⟩ := run_append_arg_grows (P := Tryz.prog) w 22 ty 81 i0 _ 6 48 Tryz.underlying22 hi hi0 hi1 hi2 rfl (by decide) ⟨z, 0, none⟩ 0 0 [] rfl (fun j u h => by simp at h)
      ⟨b, o, none⟩ ps.length c (ptVals ps) (ptVals_length ps) (fun j u hj => by rw [Addr.add_lit]; exact h.cells j u hj) (by omega) (by unfold maxLen; omega) (by omega)
  rw [List.nil_append, Nat.zero_add] at hown
  rcases hown.2 with ⟨_, hn⟩ | ⟨g, cap, cur, hv, hg0, hh, h1, h2, h3, h4⟩
  · omega
  · refine ⟨v', g, cap, cur, w', hr, ⟨hv, hh, hg0, h1, ⟨hg.os, hg.tape, hg.output, hg.size, fun k hk => hg.block k hk (by simp)⟩⟩, fun i hi => ?_⟩
    obtain ⟨a0, a1, a2, a3, a4, a5⟩ := ptVals_at ps i hi
    exact ⟨cur_of_take h4 a0, cur_of_take h4 a1, cur_of_take h4 a2, cur_of_take h4 a3, cur_of_take h4 a4, cur_of_take h4 a5⟩
theorem copy_frames (w : World) (ms : List FrM) (b o c : Nat) (h : FrsAt w (some ⟨b, o, none⟩) ms) (h1 : 0 < ms.length) (h3 : ms.length ≤ 10) (ty : TypeId) (z : Nat) :
    ∃ v g cap cur w', (Builtin.append_ #[23, 23] ty #[.slice (some ⟨z, 0, none⟩) 0 0, .slice (some ⟨b, o, none⟩) ms.length c]).run Tryz.prog w = .ok v w' ∧ Copied ms.length v g cap cur 50 w w' ∧ HoldsF (cur[·]?) ms := by
  obtain ⟨i0, hi, hi0, hi1, hi2⟩ := info_parts Tryz.infoFrame
  obtain ⟨v', w', hr, hown, hg⟩ := run_append_arg_grows (P := Tryz.prog) w 23 ty 50 i0 _ 3 40 Tryz.underlying23 hi hi0 hi1 hi2 rfl (by decide) ⟨z, 0, none⟩ 0 0 [] rfl (fun j u h => by simp at h)
      ⟨b, o, none⟩ ms.length c (frVals ms) (frVals_length ms) (fun j u hj => by rw [Addr.add_lit]; exact h.cells j u hj) (by omega) (by unfold maxLen; omega) (by omega)
  rw [List.nil_append, Nat.zero_add] at hown
  rcases hown.2 with ⟨_, hn⟩ | ⟨g, cap, cur, hv, hg0, hh, h1, h2, h3, h4⟩
  · omega
  · refine ⟨v', g, cap, cur, w', hr, ⟨hv, hh, hg0, h1, ⟨hg.os, hg.tape, hg.output, hg.size, fun k hk => hg.block k hk (by simp)⟩⟩, fun i hi => ?_⟩
    obtain ⟨a0, a1, a2⟩ := frVals_at ms i hi
    exact ⟨cur_of_take h4 a0, cur_of_take h4 a1, cur_of_take h4 a2⟩
theorem copy_ints (w : World) (xs : List Int) (b o c : Nat) (h : IntsAt w (some ⟨b, o, none⟩) xs) (h1 : 0 < xs.length) (h3 : xs.length ≤ 10) (ty : TypeId) (z : Nat) :
    ∃ v g cap cur w', (Builtin.append_ #[29, 29] ty #[.slice (some ⟨z, 0, none⟩) 0 0, .slice (some ⟨b, o, none⟩) xs.length c]).run Tryz.prog w = .ok v w' ∧ Copied xs.length v g cap cur 3 w w' ∧ HoldsI (cur[·]?) xs := by
  obtain ⟨i0, hi, hi0, hi1, hi2⟩ := info_parts Tryz.infoInt
  obtain ⟨v', w', hr, hown, hg⟩ := run_append_arg_grows (P := Tryz.prog) w 29 ty 3 i0 _ 1 8 Tryz.underlying29 hi hi0 hi1 hi2 rfl (by decide) ⟨z, 0, none⟩ 0 0 [] rfl (fun j u h => by simp at h)
      ⟨b, o, none⟩ xs.length c (xs.map (Value.int .i64)) (by simp) (fun j u hj => by
        rw [Addr.add_lit]
        have hl : j < xs.length := by have := (List.getElem?_eq_some_iff.1 hj).1; simpa using this
        obtain ⟨b', o', e, hc⟩ := h j hl
        cases e
        rw [hc]
        rw [List.getElem?_map, List.getElem?_eq_getElem hl] at hj
        rw [at0_lt hl]; simpa using hj) (by omega) (by unfold maxLen; omega) (by omega)
  rw [List.nil_append, Nat.zero_add] at hown
  rcases hown.2 with ⟨_, hn⟩ | ⟨g, cap, cur, hv, hg0, hh, h1, h2, h3, h4⟩
  · omega
  · refine ⟨v', g, cap, cur, w', hr, ⟨hv, hh, hg0, h1, ⟨hg.os, hg.tape, hg.output, hg.size, fun k hk => hg.block k hk (by simp)⟩⟩, fun i hi => ?_⟩
    rw [Nat.mul_one] at h4
    exact cur_of_take h4 (by rw [List.getElem?_map, List.getElem?_eq_getElem hi, at0_lt hi]; rfl)
end Go.Proofs.YticfcdbfplfmlaaGreat.Tu
/- The walks of layer 3: all frames of which something is so. -/
namespace Go.Proofs.YticfcdbfplfmlaaGreat.Tu
open Go.RowKit Go.Maps
attribute [local go_sem] Oper.semAt_some

/-- All that was there in a world is as it was, but for the map, which holds what is so. -/
structure Run (w0 w : World) (mb m np : Nat) (F : List Int → Nat → Bool) : Prop where
  f : FromB mb w0 w
  d : DriedAt w mb m np F
section
variable {w0 w w' : World} {mb m np : Nat} {F : List Int → Nat → Bool}
theorem FromB.trans {b : Nat} (h : FromB b w0 w) (k : FromB b w w') : FromB b w0 w' := ⟨h.k.trans k.k⟩
theorem FromB.low {b n : Nat} (h : FromB b w0 w) (hb : Below n w w') (hn : w0.heap.size ≤ n) : FromB b w0 w' := by
  refine ⟨⟨hb.os.trans h.k.os, hb.tape.trans h.k.tape, hb.output.trans h.k.output, Nat.le_trans h.k.size hb.size, fun k hk hm => ?_⟩⟩
  rw [hb.block k (by omega)]; exact h.k.block k hk hm
theorem Run.refl (h : DriedAt w mb m np F) : Run w w mb m np F := ⟨FromB.refl _ _, h⟩
theorem Run.below (h : Run w0 w mb m np F) (hb : Below w.heap.size w w') : Run w0 w' mb m np F := ⟨h.f.below hb, h.d.below hb⟩
theorem Run.drew (h : Run w0 w mb m np F) : Run w0 w.drew mb m np F := ⟨h.f.drew, h.d⟩
theorem Run.low (h : Run w0 w mb m np F) {n : Nat} (hb : Below n w w') (hn : w0.heap.size ≤ n) (hm : mb < n) : Run w0 w' mb m np F := ⟨h.f.low hb hn, h.d.of_same (hb.block _ hm)⟩
theorem Run.mono (h : Run w0 w mb m np F) {n' : Nat} (hn : m ≤ n') : Run w0 w mb n' np F := ⟨h.f, h.d.mono hn⟩
theorem Run.trans {m' : Nat} (h : Run w0 w mb m np F) (k : Run w w' mb m' np F) : Run w0 w' mb m' np F := ⟨h.f.trans k.f, k.d⟩
theorem Run.row (h : Run w0 w mb m np F) {b : Nat} {cs : Array Value} {t : TypeId} {n' : Nat} (hd : DriedAt w0 mb n' np F) (hr : Row w0 b cs t) : Row w b cs t := h.f.row hr (dried_row_ne hd hr)
theorem Run.bkd {pp pf : Option Addr} {ps : List Pt} {ms : List FrM} {n0 : Nat} (h : Run w0 w mb m ps.length (dryI ps (frsM ms))) (hB : BkD w0 pp pf ps ms mb n0) : BkD w pp pf ps ms mb m := ⟨hB.b.fromB h.f hB.d, h.d⟩
theorem Run.size (h : Run w0 w mb m np F) : w0.heap.size ≤ w.heap.size := h.f.k.size
theorem Run.ints {n' : Nat} (h : Run w0 w mb m np F) (hd : DriedAt w0 mb n' np F) {p : Option Addr} {xs : List Int} (hi : IntsAt w0 p xs) : IntsAt w p xs := by
  intro i hl
  obtain ⟨c, o, hp, hc⟩ := hi i hl
  exact ⟨c, o, hp, h.f.cell hc (dried_ne hd hc)⟩
theorem Run.set (h : Run w0 w mb m np F) {b : Nat} (hb : w0.heap.size ≤ b) (hne : b ≠ mb) (i : Nat) (v : Value) : Run w0 (w.setCell ⟨b, i, none⟩ v) mb m np F :=
  ⟨⟨h.f.k.setCell (.inr hb) v⟩, h.d.of_same (Below.heap_setCell _ _ _ _ (fun e => hne e.symm))⟩
theorem Run.base (h : Run w0 w mb m np F) {n : Nat} {v : World} (h0 : Below n v w0) (hn : n ≤ mb) (hz : n ≤ w0.heap.size) : Below n v w := h.f.base h0 hn hz
theorem owns_run {n' base e size n : Nat} {v : Value} {xs : List Value} (h : w0.ownsRow base e size v n xs) (hf : Run w0 w mb m np F) (hd : DriedAt w0 mb n' np F) : w.ownsRow base e size v n xs := by
  refine ⟨h.1, ?_⟩
  rcases h.2 with h2 | ⟨g, cap, cur, hv, hg, hh, r⟩
  · exact .inl h2
  · have hne : g ≠ mb := by
      rintro rfl
      obtain ⟨D, ⟨es, clock, hb, _⟩, _⟩ := hd
      rw [hh] at hb; cases hb
    exact .inr ⟨g, cap, cur, hv, hg, by rw [hf.f.k.block g (Array.getElem?_eq_some_iff.1 hh).1 hne]; exact hh, r⟩
end
/-- The call returned a list of numbers; of what was there the map alone has turned. -/
def GaveRun (xs : List Int) (mb m np : Nat) (F : List Int → Nat → Bool) (w : World) (e : Ending) (w' : World) : Prop := ∃ p c, e = .returned (.slice p xs.length c) ∧ IntsAt w' p xs ∧ (∀ b o, p = some ⟨b, o, none⟩ → w.heap.size ≤ b) ∧ Run w w' mb m np F
theorem ints_of_owns2 {w : World} {base e : Nat} {v : Value} {xs : List Int} (h : w.ownsRow base e 1 v xs.length (xs.map (Value.int .i64))) :
    ∃ p c, v = .slice p xs.length c ∧ IntsAt w p xs ∧ xs.length ≤ c ∧ c ≤ maxLen ∧ (p = none ∨ ∃ g, p = some ⟨g, 0, none⟩ ∧ base ≤ g) := by
  obtain ⟨p, c, hv, h1, h2, h3, h4⟩ := ints_of_owns h
  refine ⟨p, c, hv, h1, h2, h3, ?_⟩
  rcases h4 with h4 | ⟨g, rfl⟩
  · exact .inl h4
  · refine .inr ⟨g, rfl, ?_⟩
    rcases h.2 with ⟨hv2, _⟩ | ⟨g2, _, _, hv2, hg, _⟩
    · rw [hv] at hv2; simp at hv2
    · rw [hv] at hv2; simp at hv2; omega

theorem dry_run (pp : Option Addr) (cp : Nat) (pf : Option Addr) (cf mb n : Nat) (s : List Int) (ps : List Pt) (ms : List FrM) (w : World) (hB : BkD w pp pf ps ms mb n) (hn : n < 1000000000) (hl : s.length = ps.length) (hs : SetOk s) (f : Nat) (hf : f < ms.length) :
    Calls Tryz.prog 54 #[.agg (pasA pp ps.length cp pf ms.length cf mb s), .int .i64 f] w fun e w' => e = .returned (.bool (dryI ps (frsM ms) s f)) ∧ Run w w' mb (n + 1) ps.length (dryI ps (frsM ms)) :=
  (dry_any pp cp pf cf mb n s ps ms w hB hn hl hs f hf).mono fun _ _ ⟨he, hb, hf⟩ => ⟨he, hf, hb.d⟩
def allI (_ : Nat) : Bool := true
theorem true_any (f : Nat) (w : World) : Calls Tryz.prog 32 #[.int .i64 f] w fun e w' => e = .returned (.bool (allI f)) ∧ w = w' := by
  go_enter Tryz.func32, Tryz.ntmps32
  go_wp2
  go_ret
  exact ⟨rfl, rfl⟩
theorem true_run {mb n np : Nat} {F : List Int → Nat → Bool} (f : Nat) (w : World) (h : DriedAt w mb n np F) : Calls Tryz.prog 32 #[.int .i64 f] w fun e w' => e = .returned (.bool (allI f)) ∧ Run w w' mb (n + 0) np F :=
  (true_any f w).mono fun _ _ ⟨he, hw⟩ => ⟨he, by subst hw; exact Run.refl h⟩

set_option maxRecDepth 10000 in
set_option maxHeartbeats 800000 in
theorem frames_dry (pp : Option Addr) (cp : Nat) (pf : Option Addr) (cf mb n : Nat) (s : List Int) (hs : SetOk s) (ps : List Pt) (ms : List FrM) (w : World) (hB : BkD w pp pf ps ms mb n) (hn : n < 100000000) (hl : s.length = ps.length) :
    Calls Tryz.prog 31 #[.agg (bookA pp ps.length cp pf ms.length cf mb), .func (.func 54) #[.agg (pasA pp ps.length cp pf ms.length cf mb s)] #[]] w (GaveRun (pickL (dryI ps (frsM ms) s) ms.length) mb (n + 1 * ms.length) ps.length (dryI ps (frsM ms)) w) := by
  obtain ⟨i0, hi, hi0, hi1, hi2⟩ := info_parts Tryz.infoInt
  have hms := hB.b.n5
  have HL := Lib.hid hl
  clear hl
  have hmb := hB.d.lt
  have HBK := Lib.hid hB
  have hba := below_alloc w (.cells (bookA pp ps.length cp pf ms.length cf mb) 70)
  have HR0 := Lib.hid ((Run.refl hB.d).below hba)
  have HW0 := Lib.hid (Row.new w (bookA pp ps.length cp pf ms.length cf mb) 70)
  clear hB hba
  go_enter Tryz.func31, Tryz.ntmps31
  go_wp2
  go_loopw [5, 11] (fun ls i wr => ∃ k : Nat, k ≤ ms.length ∧ i = .int .i64 k ∧ wr.ownsRow (w.heap.size + 1) 3 1 ls (pickL (dryI ps (frsM ms) s) k).length ((pickL (dryI ps (frsM ms) s) k).map (Value.int .i64)) ∧ Row wr w.heap.size (bookA pp ps.length cp pf ms.length cf mb) 70 ∧ Run w wr mb (n + 1 * k) ps.length (dryI ps (frsM ms))) (fun _ i _ => ms.length - (intOf i).toNat)
  case atStart => exact ⟨0, by omega, rfl, World.ownsRow_nil _ _ _ _, HW0.out, by rw [Nat.mul_zero, Nat.add_zero]; exact HR0.out⟩
  case round =>
    clear HR0 HW0
    obtain ⟨k, hk, rfl, hown, hrow, hrun⟩ := hrel
    have HO := Lib.hid hown
    have HW := Lib.hid hrow
    have HR := Lib.hid hrun
    have hsz := hrun.size
    have hz := hrow.lt
    have hpl := pickL_length (dryI ps (frsM ms) s) k
    clear hown hrow hrun
    by_cases hlt : k < ms.length
    · have HS := Lib.hid (pickL_succ (dryI ps (frsM ms) s) k)
      have hmul : 1 * (k + 1) = 1 * k + 1 := Nat.mul_succ _ _
      have hmul2 : 1 * k ≤ 1 * 5 := Nat.mul_le_mul_left _ (by omega)
      have HM := Lib.hid hmul
      clear hmul
      cases hF : (dryI ps (frsM ms) s) k
      · have HF := Lib.hid hF
        clear hF
        go_wp2_with fail
        refine (dry_run pp cp pf cf mb _ s ps ms _ (HR.out.bkd HBK.out) (by omega) HL.out hs k hlt).mono ?_
        rintro e w1 ⟨rfl, hr1⟩
        rw [HF.out]
        have HO := Lib.hid (owns_run HO.out hr1 HR.out.d)
        have HW := Lib.hid (hr1.row HR.out.d HW.out)
        have HR := Lib.hid (HR.out.trans hr1)
        clear hr1
        go_wp2
        go_roundw
        case rel => exact ⟨k + 1, by omega, by go_num, by rw [HS.out, HF.out]; exact HO.out, HW.out, by rw [HM.out, ← Nat.add_assoc]; exact HR.out⟩
        case measure => simp [intOf]; omega
      · have HF := Lib.hid hF
        clear hF
        go_wp2_with fail
        refine (dry_run pp cp pf cf mb _ s ps ms _ (HR.out.bkd HBK.out) (by omega) HL.out hs k hlt).mono ?_
        rintro e w1 ⟨rfl, hr1⟩
        rw [HF.out]
        have HO1 := Lib.hid (owns_run HO.out hr1 HR.out.d)
        have HW := Lib.hid (hr1.row HR.out.d HW.out)
        have hz1 := hr1.size
        have HR := Lib.hid (HR.out.trans hr1)
        clear hr1
        go_wp2_with (first | (at_builtin; (refine wpList_append_own _ rfl _ _ 29 rfl (w.heap.size + 1) 3 i0 (.int .i64 0) 1 8 Tryz.underlying29 hi hi0 hi1 hi2 rfl (by decide) _ _ _ rfl (HO1.out.alloc _) ⟨w1.heap.size, 0, none⟩ 1 1 [.int .i64 k] rfl rfl (cell_one_new _ _ _) (by simp [Value.oneCell']) (by unfold maxLen; omega) (by omega) (by simp; omega) ?_); intro v' w2 hown' hgrow _; have HO := Lib.hid hown'; have hg2 : Below (w.heap.size + 1) w1 w2 := ((Below.refl _ _).alloc (by omega) _).grown hgrow (by simp; omega) (fun k hk => (HO1.out.lt k hk).1); have HW := Lib.hid (HW.out.below hg2 (by omega)); have HR := Lib.hid (HR.out.low hg2 (by omega) (by omega)); clear hg2 hown' hgrow))
        go_roundw
        case rel => exact ⟨k + 1, by omega, by go_num, by rw [HS.out, HF.out]; simpa using HO.out, HW.out, by rw [HM.out, ← Nat.add_assoc]; exact HR.out⟩
        case measure => simp [intOf]; omega
    · obtain rfl : k = ms.length := by omega
      obtain ⟨p, c, rfl, hints, hle, hcm, hp⟩ := ints_of_owns2 HO.out
      have HI := Lib.hid hints
      clear hints
      unfold maxLen at hcm
      rcases hp with rfl | ⟨g, rfl, hg⟩
      · go_wp2
        go_ret
        exact ⟨_, _, rfl, HI.out, nofun, HR.out⟩
      · go_wp2
        go_ret
        exact ⟨_, _, rfl, HI.out, fun _ _ e => by cases e; omega, HR.out⟩

set_option maxRecDepth 10000 in
set_option maxHeartbeats 800000 in
theorem frames_all (pp : Option Addr) (cp : Nat) (pf : Option Addr) (cf mb n : Nat)  (ps : List Pt) (ms : List FrM) (w : World) (hB : BkD w pp pf ps ms mb n) (_hn : n < 100000000) :
    Calls Tryz.prog 31 #[.agg (bookA pp ps.length cp pf ms.length cf mb), .func (.func 32) #[] #[]] w (GaveRun (pickL (allI) ms.length) mb (n + 0 * ms.length) ps.length (dryI ps (frsM ms)) w) := by
  obtain ⟨i0, hi, hi0, hi1, hi2⟩ := info_parts Tryz.infoInt
  have hms := hB.b.n5
  have hmb := hB.d.lt
  have HBK := Lib.hid hB
  have hba := below_alloc w (.cells (bookA pp ps.length cp pf ms.length cf mb) 70)
  have HR0 := Lib.hid ((Run.refl hB.d).below hba)
  have HW0 := Lib.hid (Row.new w (bookA pp ps.length cp pf ms.length cf mb) 70)
  clear hB hba
  go_enter Tryz.func31, Tryz.ntmps31
  go_wp2
  go_loopw [5, 11] (fun ls i wr => ∃ k : Nat, k ≤ ms.length ∧ i = .int .i64 k ∧ wr.ownsRow (w.heap.size + 1) 3 1 ls (pickL (allI) k).length ((pickL (allI) k).map (Value.int .i64)) ∧ Row wr w.heap.size (bookA pp ps.length cp pf ms.length cf mb) 70 ∧ Run w wr mb (n + 0 * k) ps.length (dryI ps (frsM ms))) (fun _ i _ => ms.length - (intOf i).toNat)
  case atStart => exact ⟨0, by omega, rfl, World.ownsRow_nil _ _ _ _, HW0.out, by rw [Nat.mul_zero, Nat.add_zero]; exact HR0.out⟩
  case round =>
    clear HR0 HW0
    obtain ⟨k, hk, rfl, hown, hrow, hrun⟩ := hrel
    have HO := Lib.hid hown
    have HW := Lib.hid hrow
    have HR := Lib.hid hrun
    have hsz := hrun.size
    have hz := hrow.lt
    have hpl := pickL_length (allI) k
    clear hown hrow hrun
    by_cases hlt : k < ms.length
    · have HS := Lib.hid (pickL_succ (allI) k)
      have hmul : 0 * (k + 1) = 0 * k + 0 := Nat.mul_succ _ _
      have hmul2 : 0 * k ≤ 0 * 5 := Nat.mul_le_mul_left _ (by omega)
      have HM := Lib.hid hmul
      clear hmul
      cases hF : (allI) k
      · exact absurd hF (by simp [allI])
      · have HF := Lib.hid hF
        clear hF
        go_wp2_with fail
        refine (true_run k _ HR.out.d).mono ?_
        rintro e w1 ⟨rfl, hr1⟩
        rw [HF.out]
        have HO1 := Lib.hid (owns_run HO.out hr1 HR.out.d)
        have HW := Lib.hid (hr1.row HR.out.d HW.out)
        have hz1 := hr1.size
        have HR := Lib.hid (HR.out.trans hr1)
        clear hr1
        go_wp2_with (first | (at_builtin; (refine wpList_append_own _ rfl _ _ 29 rfl (w.heap.size + 1) 3 i0 (.int .i64 0) 1 8 Tryz.underlying29 hi hi0 hi1 hi2 rfl (by decide) _ _ _ rfl (HO1.out.alloc _) ⟨w1.heap.size, 0, none⟩ 1 1 [.int .i64 k] rfl rfl (cell_one_new _ _ _) (by simp [Value.oneCell']) (by unfold maxLen; omega) (by omega) (by simp; omega) ?_); intro v' w2 hown' hgrow _; have HO := Lib.hid hown'; have hg2 : Below (w.heap.size + 1) w1 w2 := ((Below.refl _ _).alloc (by omega) _).grown hgrow (by simp; omega) (fun k hk => (HO1.out.lt k hk).1); have HW := Lib.hid (HW.out.below hg2 (by omega)); have HR := Lib.hid (HR.out.low hg2 (by omega) (by omega)); clear hg2 hown' hgrow))
        go_roundw
        case rel => exact ⟨k + 1, by omega, by go_num, by rw [HS.out, HF.out]; simpa using HO.out, HW.out, by rw [HM.out, ← Nat.add_assoc]; exact HR.out⟩
        case measure => simp [intOf]; omega
    · obtain rfl : k = ms.length := by omega
      obtain ⟨p, c, rfl, hints, hle, hcm, hp⟩ := ints_of_owns2 HO.out
      have HI := Lib.hid hints
      clear hints
      unfold maxLen at hcm
      rcases hp with rfl | ⟨g, rfl, hg⟩
      · go_wp2
        go_ret
        exact ⟨_, _, rfl, HI.out, nofun, HR.out⟩
      · go_wp2
        go_ret
        exact ⟨_, _, rfl, HI.out, fun _ _ e => by cases e; omega, HR.out⟩

end Go.Proofs.YticfcdbfplfmlaaGreat.Tu
/- The walks of layer 3: the iterator of all settings. -/
namespace Go.Proofs.YticfcdbfplfmlaaGreat.Tu
open Go.RowKit Go.Maps
attribute [local go_sem] Oper.semAt_some

/-- What lies in memory while settings are produced; the first dampers are set. -/
structure TEnv (np nb yb cb tb l : Nat) (M : Nat → Prop) (W : World) (pre : List Int) (A : World) : Prop where
  n : Row A nb #[.int .i64 np] 3
  y : Row A yb #[.func (.yield l) #[] #[]] 183
  t : Row A tb #[.func (.func 86) #[] #[.pointer (some ⟨nb, 0, none⟩), .pointer (some ⟨yb, 0, none⟩), .pointer (some ⟨cb, 0, none⟩), .pointer (some ⟨tb, 0, none⟩)]] 73
  c : ∃ q : List Int, q.length = 4 ∧ (∀ j, j < pre.length → at0 q j = at0 pre j) ∧ (∀ j, np ≤ j → j < 4 → at0 q j = 0) ∧ Row A cb (intsA q) 75
  keep : KeepsBut M W A
structure TOff (nb yb cb tb : Nat) (M : Nat → Prop) (W : World) : Prop where
  lt : ∀ m, M m → m < W.heap.size
  nM : ¬ M nb
  n : nb < W.heap.size
  y : W.heap.size ≤ yb
  c : W.heap.size ≤ cb
  t : W.heap.size ≤ tb
  yc : yb ≠ cb
  ct : cb ≠ tb
  cw : cb < W.heap.size + 3
  tw : tb = W.heap.size + 2
section
variable {np nb yb cb tb l : Nat} {M : Nat → Prop} {W A B : World} {pre : List Int}
theorem TEnv.keeps (h : TEnv np nb yb cb tb l M W pre A) (o : TOff nb yb cb tb M W) (k : KeepsBut M A B) : TEnv np nb yb cb tb l M W pre B := by
  obtain ⟨q, a, b, c, d⟩ := h.c
  exact ⟨h.n.keeps k o.nM, h.y.keeps k (fun e => by have := o.lt _ e; have := o.y; omega), h.t.keeps k (fun e => by have := o.lt _ e; have := o.t; omega), ⟨q, a, b, c, d.keeps k (fun e => by have := o.lt _ e; have := o.c; omega)⟩, h.keep.trans k⟩
theorem TEnv.set (h : TEnv np nb yb cb tb l M W pre A) (o : TOff nb yb cb tb M W) (hk : pre.length < np) (h4 : np ≤ 4) (v : Int) : TEnv np nb yb cb tb l M W (pre ++ [v]) (A.setCell ⟨cb, pre.length, none⟩ (.int .i64 v)) := by
  obtain ⟨q, a, b, c, d⟩ := h.c
  have hn := o.n
  have hc := o.c
  refine ⟨h.n.set_other _ _ (by dsimp only; omega), h.y.set_other _ _ (by dsimp only; exact o.yc), h.t.set_other _ _ (by dsimp only; exact fun e => o.ct e.symm), ⟨q.set pre.length v, by simpa using a, ?_, ?_, ?_⟩, h.keep.setCell (.inr hc) _⟩
  · intro j hj
    simp only [List.length_append, List.length_cons, List.length_nil] at hj
    by_cases e : j = pre.length
    · subst e
      simp [at0, List.getD, a, show pre.length < 4 by omega]
    · have hj2 : j < pre.length := by omega
      have h1 : at0 (q.set pre.length v) j = at0 q j := by simp [at0, List.getD, Ne.symm e]
      have h2 : at0 (pre ++ [v]) j = at0 pre j := by simp [at0, List.getD, List.getElem?_append_left hj2]
      rw [h1, h2]; exact b j hj2
  · intro j h1 h2
    have e : pre.length ≠ j := by omega
    have h3 : at0 (q.set pre.length v) j = at0 q j := by simp [at0, List.getD, e]
    rw [h3]; exact c j h1 h2
  · have := d.set pre.length (.int .i64 v)
    rwa [intsA_set] at this
theorem TEnv.less {v : Int} (h : TEnv np nb yb cb tb l M W (pre ++ [v]) A) : TEnv np nb yb cb tb l M W pre A := by
  obtain ⟨q, a, b, c, d⟩ := h.c
  refine ⟨h.n, h.y, h.t, ⟨q, a, fun j hj => ?_, c, d⟩, h.keep⟩
  rw [b j (by simp; omega)]
  simp [at0, List.getD, List.getElem?_append_left hj]
theorem TEnv.full (h : TEnv np nb yb cb tb l M W pre A) (hl : pre.length = np) : Row A cb (setA pre) 75 := by
  obtain ⟨q, a, b, c, d⟩ := h.c
  have key : ∀ j, j < 4 → at0 q j = at0 pre j := by
    intro j hj
    by_cases e : j < pre.length
    · exact b j e
    · rw [c j (by omega) hj]; simp [at0, List.getD, List.getElem?_eq_none (by omega : pre.length ≤ j)]
  obtain ⟨q0, q1, q2, q3, rfl⟩ : ∃ q0 q1 q2 q3, q = [q0, q1, q2, q3] := by
    match q, a with
    | [q0, q1, q2, q3], _ => exact ⟨q0, q1, q2, q3, rfl⟩
  have k0 := key 0 (by omega)
  have k1 := key 1 (by omega)
  have k2 := key 2 (by omega)
  have k3 := key 3 (by omega)
  have e : intsA [q0, q1, q2, q3] = setA pre := by
    unfold setA
    rw [← k0, ← k1, ← k2, ← k3]; rfl
  rw [← e]; exact d
end
def TurnPost (np nb yb cb tb l : Nat) (M : Nat → Prop) (J : Nat → World → Prop) (Jx : World → Prop) (W : World) (pre : List Int) (n : Nat) (e : Ending) (B : World) : Prop :=
  (e = .returned (.bool true) ∧ J n B ∧ TEnv np nb yb cb tb l M W pre B) ∨ (e = .returned (.bool false) ∧ Jx B ∧ KeepsBut M W B)

set_option maxRecDepth 10000 in
set_option maxHeartbeats 800000 in
theorem turn_any (np nb yb cb tb l : Nat) (h4 : np ≤ 4) (M : Nat → Prop) (W : World) (o : TOff nb yb cb tb M W) (J : Nat → World → Prop) (Jx : World → Prop) (hJ : ∀ k, StableW W.heap.size 3 (J k))
    (xs : List (Array Value)) (hY : ∀ k x A, xs[k]? = some x → J k A → KeepsBut M W A → W.heap.size + 3 ≤ A.heap.size → YieldAt Fence.wide 0 Tryz.prog l x A fun e B => KeepsBut M A B ∧ ((e = .returned (.bool true) ∧ J (k + 1) B) ∨ (e = .returned (.bool false) ∧ Jx B))) :
    ∀ (m k i0 : Nat) (pre : List Int) (A : World), pre.length = k → k + m = np → (∀ j x, (setsL m)[j]? = some x → xs[i0 + j]? = some #[.agg (setA (pre ++ x))]) → TEnv np nb yb cb tb l M W pre A → J i0 A →
      Calls Tryz.prog 86 #[.int .i64 k, .pointer (some ⟨nb, 0, none⟩), .pointer (some ⟨yb, 0, none⟩), .pointer (some ⟨cb, 0, none⟩), .pointer (some ⟨tb, 0, none⟩)] A (TurnPost np nb yb cb tb l M J Jx W pre (i0 + 4 ^ m)) := by
  intro m
  induction m with
  | zero =>
    intro k i0 pre A hpre hk hxs hE hJ0
    have hx := hxs 0 [] rfl
    rw [Nat.add_zero, List.append_nil] at hx
    obtain ⟨fn, tmps, assign, body, hy, hR⟩ := hY i0 _ A hx hJ0 hE.keep (by have := hE.t.lt; have := o.tw; omega)
    have hy : (Instr.yield l #[.agg (setA pre)]).run Tryz.prog _ = _ := hy
    have HR := Lib.hid hR
    have n0 := hE.n.cell 0 (v := .int .i64 np) rfl
    have y0 := hE.y.cell 0 (v := .func (.yield l) #[] #[]) rfl
    have hf := hE.full (by omega)
    have f0 := hf.cell 0 (v := .int .i64 (at0 pre 0)) rfl
    have f1 := hf.cell 1 (v := .int .i64 (at0 pre 1)) rfl
    have f2 := hf.cell 2 (v := .int .i64 (at0 pre 2)) rfl
    have f3 := hf.cell 3 (v := .int .i64 (at0 pre 3)) rfl
    have hie : ((k : Int) == (np : Int)) = true := by simp; omega
    have HE := Lib.hid hE
    clear hE hR hx hxs hJ0 hpre hk hf hY
    go_enter Tryz.func86, Tryz.ntmps86
    go_upto_region 2 with (fail)
    refine (wpIn_wide (n := 1)).1 ?_
    gi_wp2_with fail
    refine HR.out.mono ?_
    rintro e B ⟨hkB, (⟨rfl, hJ1⟩ | ⟨rfl, hJx1⟩)⟩
    · have HJ1 := Lib.hid hJ1
      have HE := Lib.hid (HE.out.keeps o hkB)
      clear hkB hJ1 hy n0 y0 f0 f1 f2 f3
      gi_wp2
      go_wp2
      go_ret
      exact .inl ⟨rfl, HJ1.out, HE.out⟩
    · have HJ1 := Lib.hid hJx1
      have HE := Lib.hid (HE.out.keep.trans hkB)
      clear hkB hJx1 hy n0 y0 f0 f1 f2 f3
      gi_wp2
      go_wp2
      go_ret
      exact .inr ⟨rfl, HJ1.out, HE.out⟩
  | succ m ih =>
    intro k i0 pre A hpre hk hxs hE hJ0
    have HXS := Lib.hid hxs
    have HPRE := Lib.hid hpre
    have HPW := Lib.hid (show 4 ^ (m + 1) = 4 * 4 ^ m by rw [Nat.pow_succ]; omega)
    have n0 := hE.n.cell 0 (v := .int .i64 np) rfl
    have hie : ((k : Int) == (np : Int)) = false := by simp; omega
    have HE := Lib.hid hE
    have hkn : k < np := by omega
    have i1 : (0 : Int) ≤ (k : Int) := by omega
    have i2 : (k : Int) < 4 := by omega
    clear hE hxs hpre
    go_enter Tryz.func86, Tryz.ntmps86
    go_wp2
    clear n0 hie
    go_loopw [14] (fun i wr => ∃ d : Nat, d ≤ 4 ∧ i = .int .i64 d ∧ J (i0 + d * 4 ^ m) wr ∧ TEnv np nb yb cb tb l M W pre wr) (fun i _ => 4 - (intOf i).toNat)
    case atStart => exact ⟨0, by omega, rfl, by rw [Nat.zero_mul, Nat.add_zero]; exact hJ0, HE.out⟩
    case round =>
      obtain ⟨d, hd, rfl, hJd, hEd⟩ := hrel
      clear hJ0 HE
      have HJD := Lib.hid hJd
      have HED := Lib.hid hEd
      clear hJd hEd
      by_cases hlt : d < 4
      · obtain ⟨q, a, _, _, hc⟩ := HED.out.c
        have c0 := hc.cell k (intsA_at4 a (by omega))
        have c1 := hc.free k
        have HS := Lib.hid (show TEnv np nb yb cb tb l M W (pre ++ [(d : Int)]) (wr.setCell ⟨cb, k, none⟩ (.int .i64 d)) from by have h := HED.out.set o (by rw [HPRE.out]; exact hkn) h4 (d : Int); rw [HPRE.out] at h; exact h)
        have HJS := Lib.hid (hJ _ _ _ HJD.out ((KeepsBut.refl _ _).setCell (.inl ⟨o.c, o.cw⟩) _ : KeepsBut _ wr (wr.setCell ⟨cb, k, none⟩ (.int .i64 d))))
        have t0 := HS.out.t.cell 0 (v := .func (.func 86) #[] #[.pointer (some ⟨nb, 0, none⟩), .pointer (some ⟨yb, 0, none⟩), .pointer (some ⟨cb, 0, none⟩), .pointer (some ⟨tb, 0, none⟩)]) rfl
        have hih := ih (k + 1) (i0 + d * 4 ^ m) (pre ++ [(d : Int)]) _ (by simp [HPRE.out]) (by omega) (fun j x hj => by have := HXS.out _ _ (setsL_at hlt hj); rw [← Nat.add_assoc] at this; rw [this]; simp) HS.out HJS.out
        rw [show ((k + 1 : Nat) : Int) = (k : Int) + 1 by omega] at hih
        have HIH := Lib.hid hih
        have HST := Lib.hid (show i0 + d * 4 ^ m + 4 ^ m = i0 + (d + 1) * 4 ^ m by rw [Nat.succ_mul]; omega)
        clear hih hc a
        go_wp2_with fail
        refine HIH.out.mono ?_
        rintro e B (⟨rfl, hJ1, hE1⟩ | ⟨rfl, hJx1, hk1⟩)
        · rw [HST.out] at hJ1
          have HJ1 := Lib.hid hJ1
          have HE1 := Lib.hid hE1.less
          clear hJ1 hE1 t0 c0 c1
          go_wp2
          go_roundw
          case rel => exact ⟨d + 1, by omega, by go_num, HJ1.out, HE1.out⟩
          case measure => simp [intOf]; omega
        · have HJ1 := Lib.hid hJx1
          have HE1 := Lib.hid hk1
          clear hJx1 hk1 t0 c0 c1
          go_wp2
          go_ret
          exact .inr ⟨rfl, HJ1.out, HE1.out⟩
      · obtain rfl : d = 4 := by omega
        go_wp2
        go_ret
        exact .inl ⟨rfl, by rw [HPW.out]; exact HJD.out, HED.out⟩

theorem zeros_at (j : Nat) (h : j < 4) : at0 [0, 0, 0, 0] j = 0 := by
  obtain rfl | rfl | rfl | rfl : j = 0 ∨ j = 1 ∨ j = 2 ∨ j = 3 := by omega
  all_goals rfl
theorem settings_any (np : Nat) (w : World) :
    Calls Tryz.prog 62 #[.int .i64 np] w fun e w' => e = .returned (.func (.func 85) #[] #[.pointer (some ⟨w.heap.size, 0, none⟩)]) ∧ w' = w.alloc (.cells #[.int .i64 np] 3) := by
  go_enter Tryz.func62, Tryz.ntmps62
  go_wp2
  go_ret
  exact ⟨rfl, rfl⟩

set_option maxRecDepth 10000 in
set_option maxHeartbeats 800000 in
theorem settings_iter (np nb : Nat) (h4 : np ≤ 4) (W : World) (hW : Row W nb #[.int .i64 np] 3) :
    IterW Tryz.prog 3 85 #[.pointer (some ⟨nb, 0, none⟩)] (fun m => m = nb) ((setsL np).map fun s => #[.agg (setA s)]) W := by
  intro l M J Jx hM hJ hJx hY h0
  show Calls _ _ #[.func (.yield l) #[] #[], .pointer (some ⟨nb, 0, none⟩)] _ _
  have hnb := hW.lt
  have HW := Lib.hid hW
  clear hW
  go_enter Tryz.func85, Tryz.ntmps85
  go_wp2_with fail
  have o : TOff nb W.heap.size (W.heap.size + 1) (W.heap.size + 1 + 1) M W := ⟨fun m h => (hM m h).1, fun h => (hM _ h).2 rfl, hnb, Nat.le_refl _, by omega, by omega, by omega, by omega, by omega, rfl⟩
  have hb0 := below_alloc3 W (.cells #[.func (.yield l) #[] #[]] 183) (.cells (intsA [0, 0, 0, 0]) 75) (.cells #[.func (.func 86) #[] #[.pointer (some ⟨nb, 0, none⟩), .pointer (some ⟨W.heap.size, 0, none⟩), .pointer (some ⟨W.heap.size + 1, 0, none⟩), .pointer (some ⟨W.heap.size + 1 + 1, 0, none⟩)]] 73)
  have HE := Lib.hid (show TEnv np nb W.heap.size (W.heap.size + 1) (W.heap.size + 1 + 1) l M W [] (((W.alloc (.cells #[.func (.yield l) #[] #[]] 183)).alloc (.cells (intsA [0, 0, 0, 0]) 75)).alloc (.cells #[.func (.func 86) #[] #[.pointer (some ⟨nb, 0, none⟩), .pointer (some ⟨W.heap.size, 0, none⟩), .pointer (some ⟨W.heap.size + 1, 0, none⟩), .pointer (some ⟨W.heap.size + 1 + 1, 0, none⟩)]] 73)) from
    ⟨HW.out.below hb0 hnb, ((Row.new W _ _).alloc _).alloc _, Row.new2 _ _ _ _ _, ⟨[0, 0, 0, 0], rfl, fun j hj => by simp at hj, fun j _ hj => zeros_at j hj, (Row.new1 W _ _ _).alloc _⟩, .of_below hb0⟩)
  have HJ := Lib.hid (hJ 0 _ _ h0 (.of_below hb0))
  have t0 := HE.out.t.cell 0 (v := .func (.func 86) #[] #[.pointer (some ⟨nb, 0, none⟩), .pointer (some ⟨W.heap.size, 0, none⟩), .pointer (some ⟨W.heap.size + 1, 0, none⟩), .pointer (some ⟨W.heap.size + 1 + 1, 0, none⟩)]) rfl
  clear hb0 h0
  go_wp2_with fail
  refine (turn_any np nb W.heap.size (W.heap.size + 1) (W.heap.size + 1 + 1) l h4 M W o J Jx hJ _ hY np 0 0 [] _ rfl (by omega) (fun j x hj => by rw [Nat.zero_add, List.getElem?_map, hj]; rfl) HE.out HJ.out).mono ?_
  rintro e B (⟨rfl, hJ1, hE1⟩ | ⟨rfl, hJx1, hk1⟩)
  · have HJ1 := Lib.hid hJ1
    have HE1 := Lib.hid hE1.keep
    clear hJ1 hE1 t0
    go_wp2
    go_end0
    exact ⟨⟨_, rfl⟩, HE1.out, .inl (by rw [List.length_map, setsL_length]; have := HJ1.out; rwa [Nat.zero_add] at this)⟩
  · have HJ1 := Lib.hid hJx1
    have HE1 := Lib.hid hk1
    clear hJx1 hk1 t0
    go_wp2
    go_end0
    exact ⟨⟨_, rfl⟩, HE1.out, .inr HJ1.out⟩
end Go.Proofs.YticfcdbfplfmlaaGreat.Tu
