/- The walks of layer 6: what to clear. -/
import Derived.Test.YtajkgfeockcbpaaY15
namespace Go.Proofs.Ytajkgfeockcbpaa
open Go.RowKit Go.Maps
attribute [local go_sem] Oper.semAt_some

/-- Numbers are returned. -/
def GaveNums (l : List Int) (w : World) (e : Ending) (w' : World) : Prop :=
  ∃ p c, e = .returned (.slice p l.length c) ∧ IntsAt w' p l ∧ Below w.heap.size w w'
def clearK (b : Yb) (k : Bool) (c : Nat → Bool) : Nat → Bool := (choK b k c).foldl (pickC c) c
set_option maxRecDepth 100000 in
set_option maxHeartbeats 3200000 in
theorem clear_any (b : Yb) (P : Yp) (mb : Nat) (k : Bool) (c : Nat → Bool) (w : World) (hK : YkAt w P mb b) (hcl : ∀ i, i < 7 → c i = true → i < b.lots.length) :
    Calls Try.prog 84 #[.agg (trA b P mb k), .agg (lotF c)] w (GaveNums (intsN (lotsL (clearK b k c))) w) := by
  have HK := Lib.hid hK
  have hn7 := hK.ok.n7
  have HN7 := Lib.hid hn7
  have HCL := Lib.hid hcl
  clear hK hcl
  obtain ⟨i0, hi, hi0, hi1, hi2⟩ := info_parts Try.infoInt
  obtain ⟨W0, hW0⟩ : ∃ W, W = (w.alloc (.cells (trA b P mb k) 89)).alloc (.cells (lotF c) 99) := ⟨_, rfl⟩
  have HW0 := Lib.hid hW0
  have HE := Lib.hid (show Below w.heap.size w W0 by rw [hW0]; exact below_alloc2 _ _ _)
  have HT := Lib.hid (show Row W0 w.heap.size (trA b P mb k) 89 by rw [hW0]; exact (Row.new _ _ _).alloc _)
  have HL := Lib.hid (show Row W0 (w.heap.size + 1) (lotF c) 99 by rw [hW0]; exact Row.new1 _ _ _ _)
  have hz0 : W0.heap.size = w.heap.size + 2 := by rw [hW0]; simp
  clear hW0
  refine calls_marks Try.func84 rfl ?_
  simp only [Try.ntmps84, List.size_toArray, List.length_cons, List.length_nil, Nat.reduceAdd, Nat.reduceSub, Array.replicate_succ, Array.replicate_zero, List.push_toArray, List.append_toArray, List.nil_append, List.cons_append]
  go_upto_region 1 with (fail)
  rw [← HW0.out]
  have hlc := numsN_le c
  go_wp2_with (first
    | (refine load_row rfl 99 _ rfl (w.heap.size + 1) rfl 99 (lotF c) _ HL.out Try.underlying99 rfl (by kernel_rfl) ?_))
  refine (list_any c _).mono ?_
  obtain ⟨lc, hlcc⟩ : ∃ n, intsN (lotsL c) = n := ⟨_, rfl⟩
  rw [hlcc] at hlc ⊢
  have HLC := Lib.hid hlcc
  rintro e u ⟨p, rfl, hin, hfr, _, hbu⟩
  have hzu := hbu.size
  have HBU := Lib.hid (show Below W0.heap.size W0 (u.alloc (.cells #[.slice p lc.length lc.length] 27)) from hbu.trans ((below_alloc u _).mono hzu))
  have HTU := Lib.hid (HT.out.below HBU.out HT.out.lt)
  have HLU := Lib.hid (HL.out.below HBU.out HL.out.lt)
  have HIU := Lib.hid (hin.below (below_alloc u (.cells #[.slice p lc.length lc.length] 27)))
  have HRU := Lib.hid (Row.new u #[.slice p lc.length lc.length] 27)
  have HFR := Lib.hid (fun m o (e : p = some ⟨m, o, none⟩) => (hfr m o e).1)
  have HFS := Lib.hid (fun m o (e : p = some ⟨m, o, none⟩) => (hfr m o e).2)
  clear hlcc hin hfr hbu
  go_wp2_with (first
    | (refine load_row rfl 89 _ rfl w.heap.size rfl 89 (trA b P mb k) _ HTU.out Try.underlying89 rfl (by kernel_rfl) ?_)
    | (refine load_row rfl 99 _ rfl (w.heap.size + 1) rfl 99 (lotF c) _ HLU.out Try.underlying99 rfl (by kernel_rfl) ?_)
    | (go_at_call 104; (with_reducible refine (choices_any b P mb k c _).mono ?_); rintro e W4 ⟨rfl, hu⟩; have HC2 := Lib.hid hu; clear hu))
  have hz4 : W4.heap.size = u.heap.size + 3 := by rw [← HC2.out]; simp
  have HTB := Lib.hid (show Row W4 (u.heap.size + 1) (trA b P mb k) 89 by rw [← HC2.out]; exact (Row.new' (by simp) _ _).alloc _)
  have HOB := Lib.hid (show Row W4 (u.heap.size + 1 + 1) (lotF c) 99 by rw [← HC2.out]; exact Row.new' (by simp) _ _)
  have hb4 : Below (u.heap.size + 1) (u.alloc (.cells #[.slice p lc.length lc.length] 27)) W4 := by rw [← HC2.out]; have := below_alloc2 (u.alloc (.cells #[.slice p lc.length lc.length] 27)) (.cells (trA b P mb k) 89) (.cells (lotF c) 99); simpa using this
  have HB4 := Lib.hid (show Row W4 u.heap.size #[.slice p lc.length lc.length] 27 from HRU.out.below hb4 (by omega))
  have HL4 := Lib.hid (HLU.out.below hb4 (by omega))
  have HI4 := Lib.hid (HIU.out.below (by simpa using hb4))
  have HK4 := Lib.hid (show Below w.heap.size w W4 from (HE.out.trans (HBU.out.mono (by omega))).trans (hb4.mono (by omega)))
  clear HC2 hb4 HT HL HE HW0 HBU HTU HLU HIU HRU
  obtain ⟨tb, htb⟩ : ∃ n, u.heap.size = n := ⟨_, rfl⟩
  rw [htb] at HTB HOB HB4 HFS hz4 hzu ⊢
  clear htb
  refine range_lawO 124 #[.pointer (some ⟨tb + 1, 0, none⟩), .pointer (some ⟨tb + 1 + 1, 0, none⟩)] (fun m => m < w.heap.size ∨ m = tb + 1 ∨ m = tb + 1 + 1) (choK b k c).length (LotX (choK b k c)) rfl (fun args w => Try.call124 args w)
    (fun W1 hb hz => choices_iter b P mb k c HCL.out w HK.out (tb + 1) (tb + 1 + 1) W1 (HK4.out.trans (hb.mono (by omega))) (HTB.out.below hb HTB.out.lt) (HOB.out.below hb HOB.out.lt)) (fun _ x _ _ h => by rw [h]; rfl) (fun m => m = tb)
    (by rintro m rfl; exact ⟨by omega, by omega⟩) (by omega)
    (fun j O A => ¬ O tb ∧ ∃ q cq, Row A tb #[.slice q (intsN (lotsL (((choK b k c).take j).foldl (pickC c) c))).length cq] 27 ∧ IntsOff (fun g => O g ∨ g = tb) A q (intsN (lotsL (((choK b k c).take j).foldl (pickC c) c))))
    (fun _ _ _ => False)
    (fun j O O' A B h hb _ hO => by
      obtain ⟨h1, q, cq, h2, h3⟩ := h
      exact ⟨fun x => (hO _ x).elim h1 (fun y => by have := h2.lt; omega), q, cq, h2.keeps hb h1, h3.keeps (hb.mono (fun m _ h => .inl h)) (fun m h => by
        rcases h with h | h
        · exact (hO m h).imp .inl id
        · exact .inl (.inr h))⟩)
    (fun _ _ _ _ _ h _ _ _ => h)
    ⟨fun h => h.elim, p, lc.length, by rw [List.take_zero, List.foldl_nil, HLC.out]; exact HB4.out, by rw [List.take_zero, List.foldl_nil, HLC.out]; exact HI4.out.off (fun g o _ e h => by
      rcases h with h | h
      · exact h
      · have := HFS.out g o e; omega)⟩ ?body ?done ?stop
  case body =>
    rintro li j x O O' A rfl hk hx hOO hO hOw hOl ⟨hn1, q, cq, hE, hqO⟩ hkeep hlA
    cases hx
    have HSU := Lib.hid (fold_succ (pickC c) c (choK b k c) noneF hk)
    obtain ⟨cc, hcc⟩ : ∃ v, (choK b k c).getD j noneF = v := ⟨_, rfl⟩
    obtain ⟨cd, hcd⟩ : ∃ v, ((choK b k c).take j).foldl (pickC c) c = v := ⟨_, rfl⟩
    rw [hcd] at hE hqO HSU
    rw [hcc] at HSU ⊢
    have HPK := Lib.hid (show pickC c cd cc = if befB (intsN (lotsL (restF c cc))) (intsN (lotsL cd)) then restF c cc else cd from rfl)
    have hlr := numsN_le (restF c cc)
    have hld := numsN_le cd
    obtain ⟨lr, hlrr⟩ : ∃ n, intsN (lotsL (restF c cc)) = n := ⟨_, rfl⟩
    obtain ⟨ld, hldd⟩ : ∃ n, intsN (lotsL cd) = n := ⟨_, rfl⟩
    rw [hlrr, hldd] at HPK
    rw [hldd] at hE hqO hld
    rw [hlrr] at hlr
    have HLR := Lib.hid hlrr
    have HLD := Lib.hid hldd
    have HEE := Lib.hid hE
    have HQO := Lib.hid hqO
    have HOW := Lib.hid hOw
    have HLA := Lib.hid (HL4.out.keeps hkeep (by omega))
    have hszA := hE.lt
    have hkS := hkeep.size
    clear hlrr hldd hkeep hE hqO hOO hO hcc hcd hk
    gi_wp2_with (first | (refine store_newIn rfl 99 _ _ rfl (lotF cc) _ 99 rfl rfl (by kernel_rfl) rfl rfl ?_))
    refine ⟨(KeepsBut.refl _ _).alloc _, fun oo => ?_⟩
    have hk2 : KeepsBut (fun m => m = W4.heap.size + 1) A ((A.alloc (.cells (lotF cc) 99)).putObj (W4.heap.size + 1) oo) := ((KeepsBut.refl (fun m => m = W4.heap.size + 1) A).alloc _).putObj (l := W4.heap.size + 1) (.inl rfl) oo
    have RC := Lib.hid (show Row ((A.alloc (.cells (lotF cc) 99)).putObj (W4.heap.size + 1) oo) A.heap.size (lotF cc) 99 from (Row.new A (lotF cc) 99).keeps ((KeepsBut.refl (fun m => m = W4.heap.size + 1) _).putObj (l := W4.heap.size + 1) (.inl rfl) oo) (by omega))
    have RL := Lib.hid (HLA.out.keeps hk2 (by omega))
    have RE := Lib.hid (HEE.out.keeps hk2 (by omega))
    have HQ := Lib.hid (HQO.out.keeps (hk2.mono (fun m _ h => by rw [h]; exact .inl hOl)) (N' := fun g => O g ∨ g = tb) (fun m h => .inl h))
    have hszB : A.heap.size + 1 ≤ ((A.alloc (.cells (lotF cc) 99)).putObj (W4.heap.size + 1) oo).heap.size := by simp [World.putObj]
    clear hk2 HEE HLA HQO
    generalize (A.alloc (.cells (lotF cc) 99)).putObj (W4.heap.size + 1) oo = A2 at *
    obtain ⟨cb2, hcb2⟩ : ∃ n, A.heap.size = n := ⟨_, rfl⟩
    rw [hcb2] at RC hszA hszB hlA hkS ⊢
    gi_wp2_with (first | (refine load_rowIn rfl 99 _ rfl (w.heap.size + 1) rfl 99 (lotF c) _ RL.out Try.underlying99 rfl (by kernel_rfl) ?_))
    refine inRound_of (only_clear cb2 c (fun i => !cc i) A2 (fun i hi _ w' hb => clear1_any cc cb2 i hi w' (RC.out.below hb RC.out.lt))) ?_
    rintro e u2 ⟨rfl, hb2⟩
    have KC := Lib.hid hb2
    clear hb2
    gi_wp2_with fail
    refine inRound_of (list_any (restF c cc) _) ?_
    rw [HLR.out]
    rintro e u3 ⟨pr, rfl, hin, hfr, _, hb3⟩
    have hpz := KC.out.size
    have KC := Lib.hid (KC.out.trans (hb3.mono KC.out.size))
    have HFZ := Lib.hid (fun m o (e : pr = some ⟨m, o, none⟩) => (show A2.heap.size ≤ m by have := (hfr m o e).1; omega))
    have HIO := Lib.hid (hin.off (N := fun g => O g ∨ g = tb) (fun m o _ e h => by
      have h1 := HFZ.out m o e
      rcases h with h | h
      · have := (HOW.out m h).2; omega
      · omega))
    have RE3 := Lib.hid (RE.out.below KC.out RE.out.lt)
    have HQ3 := Lib.hid (HQ.out.keeps (KeepsBut.of_below (M := fun g => O g ∨ g = tb) KC.out) (N' := fun g => O g ∨ g = tb) (fun m h => .inl h))
    have KZ := Lib.hid (KeepsBut.of_below (M := fun m => m = tb) KC.out)
    clear hin hfr hb3 RE HQ KC RL RC
    have e0 := RE3.out.cell 0 (v := .slice q ld.length cq) rfl
    gi_wp2_with fail
    refine inRound_of (before_any pr _ lr q _ ld hlr hld u3 HIO.out.at HQ3.out.at) ?_
    rintro e u4 ⟨rfl, rfl⟩
    have f0 := RE3.out.free 0
    cases hbt : befB lr ld
    · gi_wp2_with fail
      refine ⟨KZ.out, hn1, q, cq, ?_⟩
      rw [HSU.out, HPK.out, hbt, if_neg (by simp), HLD.out]
      exact ⟨RE3.out, HQ3.out⟩
    · gi_wp2_with fail
      refine ⟨KZ.out.trans (set_keeps _ _ _ _), hn1, pr, lr.length, ?_⟩
      rw [HSU.out, HPK.out, hbt, if_pos rfl, HLR.out]
      exact ⟨RE3.out.set 0 (.slice pr lr.length lr.length), HIO.out.keeps ((set_keeps _ _ _ _).mono (fun m _ h => by rw [h]; exact .inr rfl)) (fun m h => .inl h)⟩
  case done =>
    rintro O B ⟨hn1, q, cq, hE, hqO⟩ hO hkeep hsz hDef
    rw [List.take_length] at hE hqO
    change Row B tb #[.slice q (intsN (lotsL (clearK b k c))).length cq] 27 at hE
    change IntsOff (fun g => O g ∨ g = tb) B q (intsN (lotsL (clearK b k c))) at hqO
    obtain ⟨lb, hlb⟩ : ∃ l, intsN (lotsL (clearK b k c)) = l := ⟨_, rfl⟩
    rw [hlb] at hE hqO
    have HQO := Lib.hid hqO
    have HKE := Lib.hid hkeep
    have HDF := Lib.hid hDef
    have e0 := hE.cell 0 (v := .slice q lb.length cq) rfl
    have HLB := Lib.hid hlb
    clear hkeep hDef hE hqO hlb
    go_wp2
    have hmk : Marks w.heap.size [{ target := .collected W4.heap.size, args := #[] }] B := ⟨⟨_, rfl, by omega, HDF.out, by simp⟩, trivial⟩
    refine marks_leave hmk (fun B2 hB2 => ?_)
    refine ⟨_, results_tmp Try.results84 _ _ _, ?_⟩
    exact ⟨q, cq, by rw [HLB.out]; rfl, by rw [HLB.out]; exact HQO.out.at.same (fun g h => hB2.rest g h), (below_keep HK4.out HKE.out (by omega) (fun m hm => by omega)).trans hB2.below⟩
  case stop =>
    intro cc O B h
    exact h.elim
end Go.Proofs.Ytajkgfeockcbpaa
