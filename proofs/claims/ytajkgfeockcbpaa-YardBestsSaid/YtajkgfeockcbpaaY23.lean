/- The walks of layer 6: where one more bucket should be. -/
import Derived.Test.YtajkgfeockcbpaaY22
namespace Go.Proofs.Ytajkgfeockcbpaa
open Go.RowKit Go.Maps
attribute [local go_sem] Oper.semAt_some

theorem withB_ok {b : Yb} {s : Int × Int} (h : YbOk b) (h3 : b.buckets.length ≤ 3) (hs : spB s = true) : YbOk (withB b s) :=
  ⟨h.n1, h.n7, h.d1, h.d3, by simp [withB]; omega, h.s3, h.a0, h.a1, h.o0, h.o1, h.u0, h.u1, h.e0, h.e1, h.l, h.sd, fun t ht => by
    simp only [withB, List.mem_append, List.mem_singleton] at ht
    rcases ht with ht | rfl
    · exact h.sb t ht
    · exact hs, h.ss⟩
theorem with_at (b : Yb) (P : Yp) (s0 s1 : Int) (w : World) (hB : YbAt w P b) (hn : b.buckets.length ≤ 3) :
    Calls Try.prog 110 #[.agg (ybA b P), .agg #[.int .i64 s0, .int .i64 s1]] w fun e w' => ∃ P2, e = .returned (.agg (ybA (withB b (s0, s1)) P2)) ∧ YbAt w' P2 (withB b (s0, s1)) ∧ Below w.heap.size w w' := by
  refine (withBucket_any b P s0 s1 w hB.u hB.c3 (fun e => ?_) (by omega)).mono ?_
  · rcases hb : b.buckets with _ | ⟨x, l⟩
    · rfl
    · obtain ⟨q, o, e2, _⟩ := hB.u 0 (by rw [hb]; simp)
      rw [e] at e2
      cases e2
  · rintro e w' ⟨p, c, rfl, hs, hc, hb⟩
    have h2 := hB.below hb
    exact ⟨_, rfl, ⟨h2.l, h2.d, hs, h2.s, h2.n1, h2.n2, by simp [withB]; omega, h2.n4, h2.c1, h2.c2, by simpa [withB] using hc, h2.c4⟩, hb⟩
theorem field_list (p : Option Addr) (n c : Nat) (g : Int) (w : World) : (Instr.field 106 (.agg #[.slice p n c, .int .i64 g]) 0).run Try.prog w = .ok (.slice p n c) w := by
  simp [Instr.field, asAgg, go_sem]
theorem field_goods (p : Option Addr) (n c : Nat) (g : Int) (w : World) : (Instr.field 106 (.agg #[.slice p n c, .int .i64 g]) 1).run Try.prog w = .ok (.int .i64 g) w := by
  simp [Instr.field, asAgg, go_sem]
attribute [local go_sem] field_list field_goods
set_option maxRecDepth 100000 in
set_option maxHeartbeats 3200000 in
theorem place_any (b : Yb) (P : Yp) (mb : Nat) (w : World) (hK : YkAt w P mb b) (h3 : b.buckets.length ≤ 3) :
    Calls Try.prog 78 #[.agg (ykA b P mb)] w fun e w' => e = .returned (.tuple #[.int .i64 (placeO b).1, .bool (placeO b).2.1]) ∧ Below w.heap.size w w' := by
  obtain ⟨pl, cl, pd, cd, pb, cb, ps, cs⟩ := P
  obtain ⟨W0, hW0⟩ : ∃ W, W = w.alloc (.cells (ykA b ⟨pl, cl, pd, cd, pb, cb, ps, cs⟩ mb) 83) := ⟨_, rfl⟩
  have HW0 := Lib.hid hW0
  have HE := Lib.hid (show Below w.heap.size w W0 by rw [hW0]; exact below_alloc _ _)
  have HR := Lib.hid (show Row W0 w.heap.size (ykA b ⟨pl, cl, pd, cd, pb, cb, ps, cs⟩ mb) 83 by rw [hW0]; exact Row.new _ _ _)
  have HK := Lib.hid (hK.below HE.out)
  have HY := Lib.hid HK.out.y
  have HOK := Lib.hid HK.out.ok
  have hs3 := hK.ok.s3
  have H3 := Lib.hid h3
  have HW := Lib.hid (fun w' => worst_any b ⟨pl, cl, pd, cd, pb, cb, ps, cs⟩ mb w')
  have HBE := Lib.hid (fun w' (h : Below W0.heap.size W0 w') => best_any b ⟨pl, cl, pd, cd, pb, cb, ps, cs⟩ mb false w' (HK.out.below h))
  clear hK hW0
  obtain ⟨t0, ht0⟩ : ∃ t, topK b false = t := ⟨_, rfl⟩
  have HPO := Lib.hid (show placeO b = (List.range b.spare.length).foldl (placeS b) (0, false, t0) by rw [← ht0]; rfl)
  rw [ht0] at HBE
  generalize hlb : intsN (lotsL (bestK b false)) = lb at *
  clear hlb ht0
  go_enter Try.func78, Try.ntmps78
  go_upto_region 1 with (fail)
  rw [← HW0.out]
  go_wp2_with (first
    | (refine load_row rfl 83 _ rfl w.heap.size rfl 83 (ykA b ⟨pl, cl, pd, cd, pb, cb, ps, cs⟩ mb) _ HR.out Try.underlying83 rfl (by kernel_rfl) ?_)
    | (go_at_call 73; (with_reducible refine (HW.out _).mono ?_); rintro e u ⟨rfl, hbu⟩; have HBU := Lib.hid hbu; clear hbu)
    | (go_at_call 74; (with_reducible refine (HBE.out _ HBU.out).mono ?_); rintro e v ⟨pq, cq, rfl, -, hbv⟩; obtain ⟨x0, hx0⟩ := later_of (HBU.out.trans (hbv.mono HBU.out.size)); subst hx0; have cc3 := (HR.out.below x0.b HR.out.lt).cell 3 (v := .slice ps b.spare.length cs) rfl; clear hbv))
  clear cc3
  go_loopw [4, 5, 6, 18] (fun m p s i wr => ∃ (k : Nat) (a1 : Int) (a2 : Bool) (a3 : Int), k ≤ b.spare.length ∧ i = .int .i64 k ∧ Hid ((a1, a2, a3) = (List.range k).foldl (placeS b) (0, false, t0)) ∧ p = .int .i64 a1 ∧ s = .bool a2 ∧ m = .int .i64 a3 ∧ ∃ x : Later W0, wr = x.w) (fun _ _ _ i _ => b.spare.length - (intOf i).toNat)
  case atStart => exact ⟨0, 0, false, t0, by omega, rfl, Lib.hid rfl, rfl, rfl, rfl, x0, rfl⟩
  case round =>
    obtain ⟨k, a1, a2, a3, hk, rfl, hst, rfl, rfl, rfl, x, rfl⟩ := hrel
    have HST := hst
    clear hst
    have HXR := Lib.hid (HR.out.below x.b HR.out.lt)
    by_cases hlt : k < b.spare.length
    · obtain ⟨bq, oq, hp, q0, q1⟩ := HY.out.s k hlt
      dsimp only at hp
      have HSP := Lib.hid (HOK.out.ss _ (List.getElem_mem hlt))
      have HGD := Lib.hid (show b.spare.getD k (0, 0) = b.spare[k] by simp [List.getD, hlt])
      obtain ⟨sp, hsp⟩ : ∃ s, b.spare[k] = s := ⟨_, rfl⟩
      rw [hsp] at q0 q1 HSP HGD
      obtain ⟨s0, s1⟩ := sp
      subst hp
      have HSS := Lib.hid (show (List.range (k + 1)).foldl (placeS b) (0, false, t0) = placeS b (a1, a2, a3) k by rw [List.range_succ, List.foldl_append, ← HST.out]; rfl)
      have i1 : (0 : Int) ≤ (k : Int) := by omega
      have i2 : (k : Int) < (b.spare.length : Int) := by omega
      have i3 : (b.spare.length : Int) ≤ 3 := by omega
      clear hsp
      have k0 := HR.out.cell 0 (v := .slice pl b.lots.length cl) rfl
      have k1 := HR.out.cell 1 (v := .slice pd b.doors.length cd) rfl
      have k2 := HR.out.cell 2 (v := .slice pb b.buckets.length cb) rfl
      have k3 := HR.out.cell 3 (v := .slice (some ⟨bq, oq, none⟩) b.spare.length cs) rfl
      have k4 := HR.out.cell 4 (v := .int .i64 b.apart) rfl
      have k5 := HR.out.cell 5 (v := .int .i64 b.door) rfl
      have k6 := HR.out.cell 6 (v := .int .i64 b.bucket) rfl
      have k7 := HR.out.cell 7 (v := .int .i64 b.err) rfl
      obtain ⟨x1, hx1⟩ := x.on (below_alloc x.w (.cells #[.int .i64 s0, .int .i64 s1] 62))
      have hrs := Row.new x.w #[.int .i64 s0, .int .i64 s1] 62
      rw [hx1] at hrs
      have HCO := Lib.hid (fun w' (h : Below W0.heap.size W0 w') => contains_any pb cb b.buckets s0 s1 w' (HY.out.u.below h) (by have := H3.out; omega))
      have HWA := Lib.hid (fun w' (h : Below W0.heap.size W0 w') => with_at b ⟨pl, cl, pd, cd, pb, cb, some ⟨bq, oq, none⟩, cs⟩ s0 s1 w' (HY.out.below h) H3.out)
      have HOK2 := Lib.hid (withB_ok HOK.out H3.out HSP.out)
      have HPS := Lib.hid (show placeS b (a1, a2, a3) k = if b.buckets.contains (s0, s1) then (a1, a2, a3) else if a3 < topK (withB b (s0, s1)) false then ((k : Int), true, topK (withB b (s0, s1)) false) else (a1, a2, a3) by unfold placeS; rw [HGD.out])
      rw [HPS.out] at HSS
      obtain ⟨b2, hb2⟩ : ∃ b2, withB b (s0, s1) = b2 := ⟨_, rfl⟩
      rw [hb2] at HWA HOK2 HSS
      obtain ⟨g2, hg2⟩ : ∃ g2, topK b2 false = g2 := ⟨_, rfl⟩
      rw [hg2] at HSS
      have HG2 := Lib.hid hg2
      obtain ⟨ct, hct⟩ : ∃ ct, b.buckets.contains (s0, s1) = ct := ⟨_, rfl⟩
      rw [hct] at HCO HSS
      clear hb2 hg2 hct HPS
      go_upto_region 6 with (fail)
      obtain ⟨gs, hgs⟩ : ∃ n, x.w.heap.size = n := ⟨_, rfl⟩
      rw [hgs] at hrs ⊢
      have HRS := Lib.hid hrs
      clear hx1 hgs hrs
      have r0 := HRS.out.cell 0 (v := .int .i64 s0) rfl
      have r1 := HRS.out.cell 1 (v := .int .i64 s1) rfl
      cases ct
      · simp only [Bool.false_eq_true, if_false] at HSS
        go_wp2_with (first
          | (go_at_call 109; (with_reducible refine (HCO.out _ x1.b).mono ?_); rintro e u ⟨rfl, hbu⟩; have r0 := (HRS.out.below hbu HRS.out.lt).cell 0 (v := .int .i64 s0) rfl; have r1 := (HRS.out.below hbu HRS.out.lt).cell 1 (v := .int .i64 s1) rfl; obtain ⟨x2, hx2⟩ := x1.on hbu; subst hx2; clear hbu)
          | (go_at_call 110; (with_reducible refine (HWA.out _ x2.b).mono ?_); rintro e u ⟨P2, rfl, hy2, hbu⟩; have HY2 := Lib.hid hy2; obtain ⟨x3, hx3⟩ := x2.on hbu; subst hx3; clear hy2 hbu)
          | (go_at_call 94; (with_reducible refine (open_any b2 P2 _ HY2.out HOK2.out).mono ?_); rintro e u ⟨m2, rfl, hfa, _, hbu⟩; have HK2 := Lib.hid (show YkAt u P2 m2 b2 from ⟨HY2.out.below hbu, HOK2.out, hfa⟩); obtain ⟨x4, hx4⟩ := x3.on hbu; subst hx4; clear hbu hfa)
          | (go_at_call 73; (with_reducible refine (worst_any b2 P2 m2 _).mono ?_); rintro e u ⟨rfl, hbu⟩; have HK3 := Lib.hid (HK2.out.below hbu); obtain ⟨x5, hx5⟩ := x4.on hbu; subst hx5; clear hbu)
          | (go_at_call 74; (with_reducible refine (best_any b2 P2 m2 false _ HK3.out).mono ?_); rintro e u ⟨pq, cq, rfl, -, hbu⟩; rw [HG2.out]; obtain ⟨x6, hx6⟩ := x5.on hbu; subst hx6; clear hbu))
        · have hgt : a3 < g2 := by omega
          rw [if_pos hgt] at HSS
          go_roundw
          case rel => exact ⟨k + 1, (k : Int), true, g2, by omega, by go_num, Lib.hid HSS.out.symm, rfl, rfl, rfl, x6, rfl⟩
          case measure => simp [intOf]; omega
        · have hgt : ¬ a3 < g2 := by omega
          rw [if_neg hgt] at HSS
          go_roundw
          case rel => exact ⟨k + 1, a1, a2, a3, by omega, by go_num, Lib.hid HSS.out.symm, rfl, rfl, rfl, x6, rfl⟩
          case measure => simp [intOf]; omega
      · simp only [if_true] at HSS
        go_wp2_with (first
          | (go_at_call 109; (with_reducible refine (HCO.out _ x1.b).mono ?_); rintro e u ⟨rfl, hbu⟩; obtain ⟨x2, hx2⟩ := x1.on hbu; subst hx2; clear hbu))
        go_roundw
        case rel => exact ⟨k + 1, a1, a2, a3, by omega, by go_num, Lib.hid HSS.out.symm, rfl, rfl, rfl, x2, rfl⟩
        case measure => simp [intOf]; omega
    · obtain rfl : k = b.spare.length := by omega
      have HPP := Lib.hid (HPO.out.trans HST.out.symm)
      go_wp2_with fail
      exact bodyPost_ret (v := .tuple #[.int .i64 a1, .bool a2]) (results_tmp2 Try.results78 _ _ _) rfl ⟨congrArg (fun s : Int × Bool × Int => Ending.returned (Value.tuple #[Value.int .i64 s.1, Value.bool s.2.1])) HPP.out.symm, x.base HE.out⟩
end Go.Proofs.Ytajkgfeockcbpaa
