/- The walks of layer 3: how dry a frame is, at both ends. -/
import Derived.Test.YticfcdbfplfmlaaGreatTAX
namespace Go.Proofs.YticfcdbfplfmlaaGreat.Tu
open Go.RowKit Go.Maps
attribute [local go_sem] Oper.semAt_some

/-- All that was there in a world is as it was. -/
structure From (W w : World) : Prop where
  b : Below W.heap.size W w
section
variable {W w w' : World}
theorem From.refl (W : World) : From W W := ⟨Below.refl _ _⟩
theorem From.drew (h : From W w) : From W w.drew := ⟨h.b.drew⟩
theorem From.below (h : From W w) (hb : Below w.heap.size w w') : From W w' := ⟨h.b.trans (hb.mono h.b.size)⟩
theorem From.cell (h : From W w) {b o : Nat} {v : Value} (hc : W.cell? ⟨b, o, none⟩ = some v) : w.cell? ⟨b, o, none⟩ = some v := by
  rw [(bcell h.b).1 b o (by have := cell_block hc; exact this)]; exact hc
theorem From.row (h : From W w) {b : Nat} {cs : Array Value} {t : TypeId} (hr : Row W b cs t) : Row w b cs t := hr.below h.b hr.lt
theorem From.free (h : From W w) {b : Nat} {cs : Array Value} {t : TypeId} (hr : Row W b cs t) (o : Nat) : w.frozen? ⟨b, o, none⟩ = false := (h.row hr).free o
theorem From.ints (h : From W w) {p : Option Addr} {xs : List Int} (hi : IntsAt W p xs) : IntsAt w p xs := hi.below h.b
end
/-- All that was there in a world is as it was, but for one block. -/
structure FromB (b : Nat) (W w : World) : Prop where
  k : KeepsBut (fun m => m = b) W w
section
variable {b : Nat} {W w w' : World}
theorem FromB.refl (b : Nat) (W : World) : FromB b W W := ⟨KeepsBut.refl _ _⟩
theorem FromB.drew (h : FromB b W w) : FromB b W w.drew := ⟨h.k.drew⟩
theorem FromB.below (h : FromB b W w) (hb : Below w.heap.size w w') : FromB b W w' := ⟨h.k.after hb⟩
theorem FromB.set (h : FromB b W w) (i : Nat) (v : Value) : FromB b W (w.setCell ⟨b, i, none⟩ v) := ⟨h.k.setCell (.inl rfl) v⟩
theorem FromB.alloc (h : FromB b W w) (o : Obj) : FromB b W (w.alloc o) := ⟨h.k.alloc o⟩
theorem FromB.row (h : FromB b W w) {c : Nat} {cs : Array Value} {t : TypeId} (hr : Row W c cs t) (hne : c ≠ b) : Row w c cs t := hr.keeps h.k hne
theorem FromB.cell (h : FromB b W w) {c o : Nat} {v : Value} (hc : W.cell? ⟨c, o, none⟩ = some v) (hne : c ≠ b) : w.cell? ⟨c, o, none⟩ = some v := by
  have hl : c < W.heap.size := cell_block hc
  rw [World.cell?_of_block (h.k.block c hl hne)]; exact hc
theorem FromB.base (h : FromB b W w) {n : Nat} {w0 : World} (h0 : Below n w0 W) (hn : n ≤ b) (hz : n ≤ W.heap.size) : Below n w0 w :=
  h0.trans (h.k.below hz (fun k hk e => by omega))
end
def dryF (d : Pt → Int) (ps : List Pt) (s stay : List Int) (i : Nat) : Int := match ps[i]? with
  | some p => dryAt p (at0 s i) (at0 stay i) (d p)
  | none => 0
theorem dryF_at {d : Pt → Int} {ps : List Pt} {s stay : List Int} {i : Nat} (h : i < ps.length) : dryF d ps s stay i = dryAt ps[i] (at0 s i) (at0 stay i) (d ps[i]) := by simp [dryF, h]
theorem dryD_sum {d : Pt → Int} {ps : List Pt} (s : List Int) {stay : List Int} (hok : ∀ p ∈ ps, PtOk p) (h4 : ps.length ≤ 4) (hs : ∀ x ∈ stay, 0 ≤ x ∧ x ≤ 20) (hl : stay.length = ps.length) (hd : ∀ p ∈ ps, 0 ≤ d p) : total (firstL (dryF d ps s stay) ps.length) = dryD d ps s stay := by
  rw [firstL_total _ h4]
  · rfl
  · intro i hi
    rw [dryF_at hi]
    have hx := hs _ (at0_mem (l := stay) (i := i) (by omega))
    have := dryAt_range (hok ps[i] (List.getElem_mem _)) (s := at0 s i) hx.1 hx.2 (hd ps[i] (List.getElem_mem _))
    omega
theorem dry_val {stay h d : Int} (h0 : 0 ≤ stay) (h1 : stay ≤ 20) (h2 : 0 ≤ h) (h3 : h ≤ 20) (h4 : 0 ≤ d) : wrap64 (stay * if d < h then h - d else 0) = stay * max 0 (h - d) := by
  have e : (if d < h then h - d else 0) = max 0 (h - d) := by split <;> omega
  rw [e]
  have hm : 0 ≤ max 0 (h - d) ∧ max 0 (h - d) ≤ 20 := by omega
  have a := Int.mul_nonneg h0 hm.1
  have b : stay * max 0 (h - d) ≤ stay * 20 := Int.mul_le_mul_of_nonneg_left hm.2 h0
  exact IntWalk.wrap64_in _ (by omega)
theorem PtsAt.row {w : World} {p : Option Addr} {ps : List Pt} (h : PtsAt w p ps) {i : Nat} (hi : i < ps.length) : ∃ b o, p = some ⟨b, o, none⟩ ∧ w.cell? ⟨b, o + i * 6, none⟩ = some (.int .i64 ps[i].h0) ∧ w.cell? ⟨b, o + i * 6 + 1, none⟩ = some (.int .i64 ps[i].h1) ∧ w.cell? ⟨b, o + i * 6 + 2, none⟩ = some (.int .i64 ps[i].h2) ∧ w.cell? ⟨b, o + i * 6 + 3, none⟩ = some (.int .i64 ps[i].h3) ∧ w.cell? ⟨b, o + i * 6 + 4, none⟩ = some (.int .i64 ps[i].lo) ∧ w.cell? ⟨b, o + i * 6 + 5, none⟩ = some (.int .i64 ps[i].hi) := h i hi
theorem Pt.A_at (p : Pt) {d : Nat} (hd : d ≤ 3) : p.A[d]? = some (.int .i64 (p.h d)) := by
  obtain rfl | rfl | rfl | rfl : d = 0 ∨ d = 1 ∨ d = 2 ∨ d = 3 := by omega
  all_goals rfl

set_option maxRecDepth 10000 in
set_option maxHeartbeats 800000 in
theorem driesHi_any (pp : Option Addr) (cp : Nat) (pf : Option Addr) (cf mb : Nat) (s : List Int) (ps : List Pt) (ms : List FrM) (w : World) (hp : PtsAt w pp ps) (hf : FrsAt w pf ms) (hok : ∀ p ∈ ps, PtOk p) (h4 : ps.length ≤ 4) (hs : SetOk s) (f : Nat) (hff : f < ms.length) (hfr : FrOk ps.length ms[f].f) :
    Calls Tryz.prog 67 #[.agg (pasA pp ps.length cp pf ms.length cf mb s), .int .i64 f, .func (.func 88) #[] #[]] w fun e w' => e = .returned (.int .i64 (dryD Pt.hi ps s ms[f].f.stay)) ∧ Below w.heap.size w w' := by
  have HP := Lib.hid hp
  have HF := Lib.hid hf
  have HL := Lib.hid hfr.n
  clear hp hf
  unfold pasA
  go_enter Tryz.func67, Tryz.ntmps67
  go_wp2
  go_loopw [15] (fun i wr => ∃ k : Nat, k ≤ ps.length ∧ i = .int .i64 k ∧ Row wr w.heap.size (pasA pp ps.length cp pf ms.length cf mb s) 83 ∧ Row wr (w.heap.size + 1) (intsA (firstL (dryF Pt.hi ps s ms[f].f.stay) k)) 74 ∧ Below w.heap.size w wr) (fun i _ => ps.length - (intOf i).toNat)
  case atStart => exact ⟨0, by omega, rfl, (Row.new _ _ _).alloc _, by rw [firstL_zero]; exact Row.new1 _ _ _ _, below_alloc2 _ _ _⟩
  case round =>
    obtain ⟨k, hk, rfl, r0, r1, hb⟩ := hrel
    by_cases hlt : k < ps.length
    · obtain ⟨d, hd⟩ : ∃ d : Nat, at0 s k = d := ⟨(at0 s k).toNat, by have := hs.at k; omega⟩
      have hd3 : d ≤ 3 := by have := hs.at k; omega
      obtain ⟨b, o, rfl, q0, q1, q2, q3, q4, q5⟩ := (HP.out.below hb).row hlt
      obtain ⟨bf, of, rfl, g0, g1, g2, gi⟩ := (HF.out.below hb) f hff
      obtain ⟨bs, os, es, gs⟩ := gi k (by rw [HL.out]; exact hlt)
      rw [es] at g0
      have c0 := r0.cell 0 (v := .slice (some ⟨b, o, none⟩) ps.length cp) rfl
      have HR := Lib.hid r0
      have HQ := Lib.hid r1
      have HB := Lib.hid hb
      have HD := Lib.hid hd
      have HES := Lib.hid es
      have hz := r1.lt
      have hbf : bf < w.heap.size := by obtain ⟨_, _, e, h, _⟩ := HF.out f hff; cases e; exact cell_block h
      have hbs : bs < wr.heap.size := cell_block gs
      have hbs2 : bs < w.heap.size := by obtain ⟨_, _, _, _, _, _, h⟩ := HF.out f hff; obtain ⟨_, _, e, h2⟩ := h k (by rw [HL.out]; exact hlt); rw [es] at e; cases e; exact cell_block h2
      clear r0 r1 hb hd es gi
      go_wp2
      have hW : From wr (wr.alloc (.cells ps[k].A 103)) := ⟨below_alloc _ _⟩
      have HA := Lib.hid (Row.new wr ps[k].A 103)
      have HR := Lib.hid (hW.row HR.out)
      have HQ := Lib.hid (hW.row HQ.out)
      have HB := Lib.hid (HB.out.trans (hW.b.mono HB.out.size))
      have q0 := hW.cell g0
      have q1 := hW.cell gs
      have q2 := HR.out.cell (3 + k) (pasA_at _ _ _ _ _ _ _ s (by omega : k < 4))
      rw [HD.out] at q2
      have q3 := HA.out.cell d (Pt.A_at _ hd3)
      have q4 := HQ.out.cell k (intsA_at4 (firstL_length _ _) (by omega))
      have q5 := HQ.out.free k
      have q6 := HR.out.cell 1 (v := .slice (some ⟨bf, of, none⟩) ms.length cf) rfl
      have p0 := HA.out.cell 0 (v := .int .i64 ps[k].h0) rfl
      have p1 := HA.out.cell 1 (v := .int .i64 ps[k].h1) rfl
      have p2 := HA.out.cell 2 (v := .int .i64 ps[k].h2) rfl
      have p3 := HA.out.cell 3 (v := .int .i64 ps[k].h3) rfl
      have p4 := HA.out.cell 4 (v := .int .i64 ps[k].lo) rfl
      have p5 := HA.out.cell 5 (v := .int .i64 ps[k].hi) rfl
      change Code.wp _ _ _ _ (wr.alloc (.cells ps[k].A 103))
      generalize wr.alloc (.cells ps[k].A 103) = W1 at *
      have hS : ∀ w', FromB (w.heap.size + 1) W1 w' → (w'.cell? ⟨bf, of + f * 3, none⟩ = some (.slice (some ⟨bs, os, none⟩) ms[f].f.stay.length ms[f].c) ∧ w'.cell? ⟨bs, os + k, none⟩ = some (.int .i64 (at0 ms[f].f.stay k)) ∧ w'.cell? ⟨w.heap.size, 3 + k, none⟩ = some (.int .i64 d) ∧ w'.cell? ⟨wr.heap.size, d, none⟩ = some (.int .i64 (ps[k].h d)) ∧ w'.cell? ⟨w.heap.size, 1, none⟩ = some (.slice (some ⟨bf, of, none⟩) ms.length cf) ∧ w'.cell? ⟨wr.heap.size, 0, none⟩ = some (.int .i64 ps[k].h0) ∧ w'.cell? ⟨wr.heap.size, 1, none⟩ = some (.int .i64 ps[k].h1) ∧ w'.cell? ⟨wr.heap.size, 2, none⟩ = some (.int .i64 ps[k].h2) ∧ w'.cell? ⟨wr.heap.size, 3, none⟩ = some (.int .i64 ps[k].h3) ∧ w'.cell? ⟨wr.heap.size, 4, none⟩ = some (.int .i64 ps[k].lo) ∧ w'.cell? ⟨wr.heap.size, 5, none⟩ = some (.int .i64 ps[k].hi)) :=
        fun w' h => ⟨h.cell q0 (by omega), h.cell q1 (by omega), h.cell q2 (by omega), h.cell q3 (by omega), h.cell q6 (by omega), h.cell p0 (by omega), h.cell p1 (by omega), h.cell p2 (by omega), h.cell p3 (by omega), h.cell p4 (by omega), h.cell p5 (by omega)⟩
      have HS := Lib.hid hS
      have KI := Lib.hid (From.refl W1)
      have KB := Lib.hid (FromB.refl (w.heap.size + 1) W1)
      have hro := hfr.s _ (at0_mem (l := ms[f].f.stay) (i := k) (by have := HL.out; omega))
      have hhr := Pt.h_range (hok ps[k] (List.getElem_mem _)) d
      have i1 : (0 : Int) ≤ (f : Int) := by omega
      have i2 : (f : Int) < (ms.length : Int) := by omega
      have i3 : (0 : Int) ≤ (k : Int) := by omega
      have i4 : (k : Int) < (ms[f].f.stay.length : Int) := by have := HL.out; omega
      have i5 : (k : Int) < 4 := by omega
      have i6 : (0 : Int) ≤ (d : Int) := by omega
      have i7 : (d : Int) < 4 := by omega
      have hl0 := (hok ps[k] (List.getElem_mem _)).l0
      have hl1 := (hok ps[k] (List.getElem_mem _)).l1
      have hl2 := (hok ps[k] (List.getElem_mem _)).l2
      have e1 : IntKind.i64.wrap (ps[k].h d - ps[k].hi) = ps[k].h d - ps[k].hi := IntWalk.i64_in _ (by omega)
      clear q0 q1 q2 q3 q4 q5 q6 p0 p1 p2 p3 p4 p5 hS g0 g1 g2 gs c0 hW
      go_region_held3 (fun w' => w'.cell? ⟨bf, of + f * 3, none⟩ = some (.slice (some ⟨bs, os, none⟩) ms[f].f.stay.length ms[f].c) ∧ w'.cell? ⟨bs, os + k, none⟩ = some (.int .i64 (at0 ms[f].f.stay k)) ∧ w'.cell? ⟨w.heap.size, 3 + k, none⟩ = some (.int .i64 d) ∧ w'.cell? ⟨wr.heap.size, d, none⟩ = some (.int .i64 (ps[k].h d)) ∧ w'.cell? ⟨w.heap.size, 1, none⟩ = some (.slice (some ⟨bf, of, none⟩) ms.length cf) ∧ w'.cell? ⟨wr.heap.size, 0, none⟩ = some (.int .i64 ps[k].h0) ∧ w'.cell? ⟨wr.heap.size, 1, none⟩ = some (.int .i64 ps[k].h1) ∧ w'.cell? ⟨wr.heap.size, 2, none⟩ = some (.int .i64 ps[k].h2) ∧ w'.cell? ⟨wr.heap.size, 3, none⟩ = some (.int .i64 ps[k].h3) ∧ w'.cell? ⟨wr.heap.size, 4, none⟩ = some (.int .i64 ps[k].lo) ∧ w'.cell? ⟨wr.heap.size, 5, none⟩ = some (.int .i64 ps[k].hi)) (first | with_reducible exact HS.out _ KB.out | with_reducible exact HS.out _ KB.out.drew | with_reducible exact HS.out _ (KB.out.set _ _))
        ((go_at_call 88; refine (mostDamp_any ps[k] _).mono ?_; rintro e u ⟨rfl, hbu⟩; have KI := Lib.hid (by first | with_reducible exact KI.out.drew.below hbu | with_reducible exact KI.out.below hbu); have KB := Lib.hid (by first | with_reducible exact KB.out.drew.below hbu | with_reducible exact KB.out.below hbu); have t0 := KI.out.cell (HQ.out.cell k (intsA_at4 (firstL_length _ _) (by omega))); have t1 := KI.out.free HQ.out k; clear hbu))
      all_goals
        clear t0 t1 e1
        have HV := Lib.hid (dry_val (d := ps[k].hi) hro.1 hro.2 hhr.1 hhr.2 (by omega))
        go_wp2_with fail
        go_roundw
        case rel =>
          rw [HV.out]
          have hv : at0 ms[f].f.stay k * max 0 (ps[k].h d - ps[k].hi) = dryF Pt.hi ps s ms[f].f.stay k := by rw [dryF_at hlt, dryAt, HD.out]
          rw [hv]
          refine ⟨k + 1, by omega, by go_num, (KI.out.row HR.out).set_other _ _ (by dsimp only; omega), ?_, (HB.out.trans (KI.out.b.mono HB.out.size)).setCell (by dsimp only; omega) _⟩
          have h := (KI.out.row HQ.out).set k (.int .i64 (dryF Pt.hi ps s ms[f].f.stay k))
          rw [intsA_set, firstL_set _ (by omega)] at h
          exact h
        case measure => simp [intOf]; omega
    · have e : k = ps.length := by omega
      subst e
      have HI := Lib.hid (ints_row r1)
      have HS := Lib.hid (dryD_sum s hok h4 hfr.s hfr.n (d := Pt.hi) (fun p hp => by have h1 := (hok p hp).l0; have h2 := (hok p hp).l1; omega))
      go_wp2_with (first | (refine (sum_any _ _ _ _ _ (firstL_length _ _) (by decide) HI.out).mono ?_; rintro e w1 ⟨rfl, rfl⟩))
      go_ret
      exact ⟨ret_int HS.out, hb⟩
set_option maxRecDepth 10000 in
set_option maxHeartbeats 800000 in
theorem driesLo_any (pp : Option Addr) (cp : Nat) (pf : Option Addr) (cf mb : Nat) (s : List Int) (ps : List Pt) (ms : List FrM) (w : World) (hp : PtsAt w pp ps) (hf : FrsAt w pf ms) (hok : ∀ p ∈ ps, PtOk p) (h4 : ps.length ≤ 4) (hs : SetOk s) (f : Nat) (hff : f < ms.length) (hfr : FrOk ps.length ms[f].f) :
    Calls Tryz.prog 67 #[.agg (pasA pp ps.length cp pf ms.length cf mb s), .int .i64 f, .func (.func 90) #[] #[]] w fun e w' => e = .returned (.int .i64 (dryD Pt.lo ps s ms[f].f.stay)) ∧ Below w.heap.size w w' := by
  have HP := Lib.hid hp
  have HF := Lib.hid hf
  have HL := Lib.hid hfr.n
  clear hp hf
  unfold pasA
  go_enter Tryz.func67, Tryz.ntmps67
  go_wp2
  go_loopw [15] (fun i wr => ∃ k : Nat, k ≤ ps.length ∧ i = .int .i64 k ∧ Row wr w.heap.size (pasA pp ps.length cp pf ms.length cf mb s) 83 ∧ Row wr (w.heap.size + 1) (intsA (firstL (dryF Pt.lo ps s ms[f].f.stay) k)) 74 ∧ Below w.heap.size w wr) (fun i _ => ps.length - (intOf i).toNat)
  case atStart => exact ⟨0, by omega, rfl, (Row.new _ _ _).alloc _, by rw [firstL_zero]; exact Row.new1 _ _ _ _, below_alloc2 _ _ _⟩
  case round =>
    obtain ⟨k, hk, rfl, r0, r1, hb⟩ := hrel
    by_cases hlt : k < ps.length
    · obtain ⟨d, hd⟩ : ∃ d : Nat, at0 s k = d := ⟨(at0 s k).toNat, by have := hs.at k; omega⟩
      have hd3 : d ≤ 3 := by have := hs.at k; omega
      obtain ⟨b, o, rfl, q0, q1, q2, q3, q4, q5⟩ := (HP.out.below hb).row hlt
      obtain ⟨bf, of, rfl, g0, g1, g2, gi⟩ := (HF.out.below hb) f hff
      obtain ⟨bs, os, es, gs⟩ := gi k (by rw [HL.out]; exact hlt)
      rw [es] at g0
      have c0 := r0.cell 0 (v := .slice (some ⟨b, o, none⟩) ps.length cp) rfl
      have HR := Lib.hid r0
      have HQ := Lib.hid r1
      have HB := Lib.hid hb
      have HD := Lib.hid hd
      have HES := Lib.hid es
      have hz := r1.lt
      have hbf : bf < w.heap.size := by obtain ⟨_, _, e, h, _⟩ := HF.out f hff; cases e; exact cell_block h
      have hbs : bs < wr.heap.size := cell_block gs
      have hbs2 : bs < w.heap.size := by obtain ⟨_, _, _, _, _, _, h⟩ := HF.out f hff; obtain ⟨_, _, e, h2⟩ := h k (by rw [HL.out]; exact hlt); rw [es] at e; cases e; exact cell_block h2
      clear r0 r1 hb hd es gi
      go_wp2
      have hW : From wr (wr.alloc (.cells ps[k].A 103)) := ⟨below_alloc _ _⟩
      have HA := Lib.hid (Row.new wr ps[k].A 103)
      have HR := Lib.hid (hW.row HR.out)
      have HQ := Lib.hid (hW.row HQ.out)
      have HB := Lib.hid (HB.out.trans (hW.b.mono HB.out.size))
      have q0 := hW.cell g0
      have q1 := hW.cell gs
      have q2 := HR.out.cell (3 + k) (pasA_at _ _ _ _ _ _ _ s (by omega : k < 4))
      rw [HD.out] at q2
      have q3 := HA.out.cell d (Pt.A_at _ hd3)
      have q4 := HQ.out.cell k (intsA_at4 (firstL_length _ _) (by omega))
      have q5 := HQ.out.free k
      have q6 := HR.out.cell 1 (v := .slice (some ⟨bf, of, none⟩) ms.length cf) rfl
      have p0 := HA.out.cell 0 (v := .int .i64 ps[k].h0) rfl
      have p1 := HA.out.cell 1 (v := .int .i64 ps[k].h1) rfl
      have p2 := HA.out.cell 2 (v := .int .i64 ps[k].h2) rfl
      have p3 := HA.out.cell 3 (v := .int .i64 ps[k].h3) rfl
      have p4 := HA.out.cell 4 (v := .int .i64 ps[k].lo) rfl
      have p5 := HA.out.cell 5 (v := .int .i64 ps[k].hi) rfl
      change Code.wp _ _ _ _ (wr.alloc (.cells ps[k].A 103))
      generalize wr.alloc (.cells ps[k].A 103) = W1 at *
      have hS : ∀ w', FromB (w.heap.size + 1) W1 w' → (w'.cell? ⟨bf, of + f * 3, none⟩ = some (.slice (some ⟨bs, os, none⟩) ms[f].f.stay.length ms[f].c) ∧ w'.cell? ⟨bs, os + k, none⟩ = some (.int .i64 (at0 ms[f].f.stay k)) ∧ w'.cell? ⟨w.heap.size, 3 + k, none⟩ = some (.int .i64 d) ∧ w'.cell? ⟨wr.heap.size, d, none⟩ = some (.int .i64 (ps[k].h d)) ∧ w'.cell? ⟨w.heap.size, 1, none⟩ = some (.slice (some ⟨bf, of, none⟩) ms.length cf) ∧ w'.cell? ⟨wr.heap.size, 0, none⟩ = some (.int .i64 ps[k].h0) ∧ w'.cell? ⟨wr.heap.size, 1, none⟩ = some (.int .i64 ps[k].h1) ∧ w'.cell? ⟨wr.heap.size, 2, none⟩ = some (.int .i64 ps[k].h2) ∧ w'.cell? ⟨wr.heap.size, 3, none⟩ = some (.int .i64 ps[k].h3) ∧ w'.cell? ⟨wr.heap.size, 4, none⟩ = some (.int .i64 ps[k].lo) ∧ w'.cell? ⟨wr.heap.size, 5, none⟩ = some (.int .i64 ps[k].hi)) :=
        fun w' h => ⟨h.cell q0 (by omega), h.cell q1 (by omega), h.cell q2 (by omega), h.cell q3 (by omega), h.cell q6 (by omega), h.cell p0 (by omega), h.cell p1 (by omega), h.cell p2 (by omega), h.cell p3 (by omega), h.cell p4 (by omega), h.cell p5 (by omega)⟩
      have HS := Lib.hid hS
      have KI := Lib.hid (From.refl W1)
      have KB := Lib.hid (FromB.refl (w.heap.size + 1) W1)
      have hro := hfr.s _ (at0_mem (l := ms[f].f.stay) (i := k) (by have := HL.out; omega))
      have hhr := Pt.h_range (hok ps[k] (List.getElem_mem _)) d
      have i1 : (0 : Int) ≤ (f : Int) := by omega
      have i2 : (f : Int) < (ms.length : Int) := by omega
      have i3 : (0 : Int) ≤ (k : Int) := by omega
      have i4 : (k : Int) < (ms[f].f.stay.length : Int) := by have := HL.out; omega
      have i5 : (k : Int) < 4 := by omega
      have i6 : (0 : Int) ≤ (d : Int) := by omega
      have i7 : (d : Int) < 4 := by omega
      have hl0 := (hok ps[k] (List.getElem_mem _)).l0
      have hl1 := (hok ps[k] (List.getElem_mem _)).l1
      have hl2 := (hok ps[k] (List.getElem_mem _)).l2
      have e1 : IntKind.i64.wrap (ps[k].h d - ps[k].lo) = ps[k].h d - ps[k].lo := IntWalk.i64_in _ (by omega)
      clear q0 q1 q2 q3 q4 q5 q6 p0 p1 p2 p3 p4 p5 hS g0 g1 g2 gs c0 hW
      go_region_held3 (fun w' => w'.cell? ⟨bf, of + f * 3, none⟩ = some (.slice (some ⟨bs, os, none⟩) ms[f].f.stay.length ms[f].c) ∧ w'.cell? ⟨bs, os + k, none⟩ = some (.int .i64 (at0 ms[f].f.stay k)) ∧ w'.cell? ⟨w.heap.size, 3 + k, none⟩ = some (.int .i64 d) ∧ w'.cell? ⟨wr.heap.size, d, none⟩ = some (.int .i64 (ps[k].h d)) ∧ w'.cell? ⟨w.heap.size, 1, none⟩ = some (.slice (some ⟨bf, of, none⟩) ms.length cf) ∧ w'.cell? ⟨wr.heap.size, 0, none⟩ = some (.int .i64 ps[k].h0) ∧ w'.cell? ⟨wr.heap.size, 1, none⟩ = some (.int .i64 ps[k].h1) ∧ w'.cell? ⟨wr.heap.size, 2, none⟩ = some (.int .i64 ps[k].h2) ∧ w'.cell? ⟨wr.heap.size, 3, none⟩ = some (.int .i64 ps[k].h3) ∧ w'.cell? ⟨wr.heap.size, 4, none⟩ = some (.int .i64 ps[k].lo) ∧ w'.cell? ⟨wr.heap.size, 5, none⟩ = some (.int .i64 ps[k].hi)) (first | with_reducible exact HS.out _ KB.out | with_reducible exact HS.out _ KB.out.drew | with_reducible exact HS.out _ (KB.out.set _ _))
        ((go_at_call 90; refine (least_any ps[k] _).mono ?_; rintro e u ⟨rfl, hbu⟩; have KI := Lib.hid (by first | with_reducible exact KI.out.drew.below hbu | with_reducible exact KI.out.below hbu); have KB := Lib.hid (by first | with_reducible exact KB.out.drew.below hbu | with_reducible exact KB.out.below hbu); have t0 := KI.out.cell (HQ.out.cell k (intsA_at4 (firstL_length _ _) (by omega))); have t1 := KI.out.free HQ.out k; clear hbu))
      all_goals
        clear t0 t1 e1
        have HV := Lib.hid (dry_val (d := ps[k].lo) hro.1 hro.2 hhr.1 hhr.2 (by omega))
        go_wp2_with fail
        go_roundw
        case rel =>
          rw [HV.out]
          have hv : at0 ms[f].f.stay k * max 0 (ps[k].h d - ps[k].lo) = dryF Pt.lo ps s ms[f].f.stay k := by rw [dryF_at hlt, dryAt, HD.out]
          rw [hv]
          refine ⟨k + 1, by omega, by go_num, (KI.out.row HR.out).set_other _ _ (by dsimp only; omega), ?_, (HB.out.trans (KI.out.b.mono HB.out.size)).setCell (by dsimp only; omega) _⟩
          have h := (KI.out.row HQ.out).set k (.int .i64 (dryF Pt.lo ps s ms[f].f.stay k))
          rw [intsA_set, firstL_set _ (by omega)] at h
          exact h
        case measure => simp [intOf]; omega
    · have e : k = ps.length := by omega
      subst e
      have HI := Lib.hid (ints_row r1)
      have HS := Lib.hid (dryD_sum s hok h4 hfr.s hfr.n (d := Pt.lo) (fun p hp => by have h1 := (hok p hp).l0; have h2 := (hok p hp).l1; omega))
      go_wp2_with (first | (refine (sum_any _ _ _ _ _ (firstL_length _ _) (by decide) HI.out).mono ?_; rintro e w1 ⟨rfl, rfl⟩))
      go_ret
      exact ⟨ret_int HS.out, hb⟩
end Go.Proofs.YticfcdbfplfmlaaGreat.Tu
/- The walks of layer 3: between what lies how dry a frame is; what becomes of it. -/
namespace Go.Proofs.YticfcdbfplfmlaaGreat.Tu
open Go.RowKit Go.Maps
attribute [local go_sem] Oper.semAt_some

/-- A valid book in memory. -/
structure Bk (w : World) (pp pf : Option Addr) (ps : List Pt) (ms : List FrM) : Prop where
  p : PtsAt w pp ps
  f : FrsAt w pf ms
  ok : BookOk ps (frsM ms)
section
variable {w w' : World} {pp pf : Option Addr} {ps : List Pt} {ms : List FrM}
theorem Bk.below (h : Bk w pp pf ps ms) (hb : Below w.heap.size w w') : Bk w' pp pf ps ms := ⟨h.p.below hb, h.f.below hb, h.ok⟩
theorem Bk.drew (h : Bk w pp pf ps ms) : Bk w.drew pp pf ps ms := ⟨h.p, h.f, h.ok⟩
theorem Bk.fr (h : Bk w pp pf ps ms) {f : Nat} (hf : f < ms.length) : FrOk ps.length ms[f].f := h.ok.f _ (by rw [frsM, List.mem_map]; exact ⟨ms[f], List.getElem_mem _, rfl⟩)
theorem From.bk (h : From w w') (hB : Bk w pp pf ps ms) : Bk w' pp pf ps ms := hB.below h.b
theorem Bk.n4 (h : Bk w pp pf ps ms) : ps.length ≤ 4 := h.ok.p4
theorem Bk.n5 (h : Bk w pp pf ps ms) : ms.length ≤ 5 := by have := h.ok.f5; rwa [frsM_length] at this
theorem dHi (hB : Bk w pp pf ps ms) (cp cf mb : Nat) {s : List Int} (hs : SetOk s) {f : Nat} (hf : f < ms.length) :
    Calls Tryz.prog 67 #[.agg (pasA pp ps.length cp pf ms.length cf mb s), .int .i64 f, .func (.func 88) #[] #[]] w fun e w' => e = .returned (.int .i64 (dryD Pt.hi ps s ms[f].f.stay)) ∧ Below w.heap.size w w' :=
  driesHi_any pp cp pf cf mb s ps ms w hB.p hB.f hB.ok.p hB.n4 hs f hf (hB.fr hf)
theorem dLo (hB : Bk w pp pf ps ms) (cp cf mb : Nat) {s : List Int} (hs : SetOk s) {f : Nat} (hf : f < ms.length) :
    Calls Tryz.prog 67 #[.agg (pasA pp ps.length cp pf ms.length cf mb s), .int .i64 f, .func (.func 90) #[] #[]] w fun e w' => e = .returned (.int .i64 (dryD Pt.lo ps s ms[f].f.stay)) ∧ Below w.heap.size w w' :=
  driesLo_any pp cp pf cf mb s ps ms w hB.p hB.f hB.ok.p hB.n4 hs f hf (hB.fr hf)
end
/-- The cells of a passage. -/
abbrev PasCells (b : Nat) (pp : Option Addr) (np cp : Nat) (pf : Option Addr) (nf cf mb : Nat) (s : List Int) (w' : World) : Prop :=
  w'.cell? ⟨b, 0, none⟩ = some (.slice pp np cp) ∧ w'.cell? ⟨b, 1, none⟩ = some (.slice pf nf cf) ∧ w'.cell? ⟨b, 2, none⟩ = some (.map (some mb)) ∧ w'.cell? ⟨b, 3, none⟩ = some (.int .i64 (at0 s 0)) ∧ w'.cell? ⟨b, 4, none⟩ = some (.int .i64 (at0 s 1)) ∧ w'.cell? ⟨b, 5, none⟩ = some (.int .i64 (at0 s 2)) ∧ w'.cell? ⟨b, 6, none⟩ = some (.int .i64 (at0 s 3))
theorem _root_.Go.Proofs.YticfcdbfplfmlaaGreat.Row.pas {w : World} {b : Nat} {pp : Option Addr} {np cp : Nat} {pf : Option Addr} {nf cf mb : Nat} {s : List Int} {t : TypeId} (h : Row w b (pasA pp np cp pf nf cf mb s) t) : PasCells b pp np cp pf nf cf mb s w :=
  ⟨h.cell 0 rfl, h.cell 1 rfl, h.cell 2 rfl, h.cell 3 rfl, h.cell 4 rfl, h.cell 5 rfl, h.cell 6 rfl⟩

set_option maxRecDepth 10000 in
set_option maxHeartbeats 800000 in
theorem dryness_any (pp : Option Addr) (cp : Nat) (pf : Option Addr) (cf mb : Nat) (s : List Int) (ps : List Pt) (ms : List FrM) (w : World) (hB : Bk w pp pf ps ms) (hs : SetOk s) (f : Nat) (hf : f < ms.length) :
    Calls Tryz.prog 38 #[.agg (pasA pp ps.length cp pf ms.length cf mb s), .int .i64 f] w fun e w' => e = .returned (.agg #[.int .i64 (dryD Pt.hi ps s ms[f].f.stay), .int .i64 (dryD Pt.lo ps s ms[f].f.stay)]) ∧ Below w.heap.size w w' := by
  have HBK := Lib.hid hB
  clear hB
  unfold pasA
  go_enter Tryz.func38, Tryz.ntmps38
  go_wp2_with (first | (refine (ends_any _).mono ?_; rintro e w1 ⟨rfl, hb1⟩) | (refine store_new rfl 144 _ _ rfl endsA #[.nilFunc, .nilFunc, .int .i64 0, .nilFunc, .nilFunc, .int .i64 0] 144 rfl rfl (by kernel_rfl) rfl (by simp [endsA, Value.oneCell']) ?_))
  have hz1 := hb1.size
  simp at hz1
  have hE : From w1 (w1.alloc (.cells endsA 144)) := ⟨below_alloc _ _⟩
  have HE := Lib.hid (Row.new w1 endsA 144)
  have hbb := (below_alloc2 w (.cells (pasA pp ps.length cp pf ms.length cf mb s) 83) (.cells #[.int .i64 0, .int .i64 0] 43)).trans (hb1.mono (by simp; omega))
  have HR := Lib.hid (hE.row (((Row.new w (pasA pp ps.length cp pf ms.length cf mb s) 83).alloc (.cells #[.int .i64 0, .int .i64 0] 43)).below hb1 (by simp; omega)))
  have HQ := Lib.hid (hE.row ((Row.new1 w (.cells (pasA pp ps.length cp pf ms.length cf mb s) 83) #[.int .i64 0, .int .i64 0] 43).below hb1 (by simp)))
  have HB := Lib.hid (hbb.trans (hE.b.mono (by omega)))
  generalize w1.alloc (.cells endsA 144) = W1 at *
  have hS : ∀ w', FromB (w.heap.size + 1) W1 w' → (PasCells w.heap.size pp ps.length cp pf ms.length cf mb s w' ∧ w'.cell? ⟨w1.heap.size, 0, none⟩ = some (.func (.func 88) #[] #[]) ∧ w'.cell? ⟨w1.heap.size, 3, none⟩ = some (.func (.func 90) #[] #[])) :=
    fun w' h => ⟨(h.row HR.out (by omega)).pas, (h.row HE.out (by omega)).cell 0 rfl, (h.row HE.out (by omega)).cell 3 rfl⟩
  have HS := Lib.hid hS
  have HBW := Lib.hid (HBK.out.below HB.out)
  have KI := Lib.hid (From.refl W1)
  have KB := Lib.hid (FromB.refl (w.heap.size + 1) W1)
  have t0 := HQ.out.cell 0 (v := .int .i64 0) rfl
  have t1 := HQ.out.cell 1 (v := .int .i64 0) rfl
  have t2 := HQ.out.free 0
  have t3 := HQ.out.free 1
  clear hS hb1 hbb hE
  go_region_held3 (fun w' => PasCells w.heap.size pp ps.length cp pf ms.length cf mb s w' ∧ w'.cell? ⟨w1.heap.size, 0, none⟩ = some (.func (.func 88) #[] #[]) ∧ w'.cell? ⟨w1.heap.size, 3, none⟩ = some (.func (.func 90) #[] #[])) (first | with_reducible exact HS.out _ KB.out | with_reducible exact HS.out _ KB.out.drew | with_reducible exact HS.out _ ((KB.out.set _ _).set _ _))
    ((go_at_call 67; first
      | ((with_reducible refine (dHi (by first | with_reducible exact KI.out.bk HBW.out | with_reducible exact KI.out.drew.bk HBW.out) cp cf mb hs hf).mono ?_); rintro e u ⟨rfl, hbu⟩; have KI := Lib.hid (by first | with_reducible exact KI.out.drew.below hbu | with_reducible exact KI.out.below hbu); have KB := Lib.hid (by first | with_reducible exact KB.out.drew.below hbu | with_reducible exact KB.out.below hbu); clear t0 t1 t2 t3; have t0 := (KI.out.row HQ.out).cell 0 (v := .int .i64 0) rfl; have t1 := (KI.out.row HQ.out).cell 1 (v := .int .i64 0) rfl; have t2 := (KI.out.row HQ.out).free 0; have t3 := (KI.out.row HQ.out).free 1; clear hbu)
      | ((with_reducible refine (dLo (by first | with_reducible exact KI.out.bk HBW.out | with_reducible exact KI.out.drew.bk HBW.out) cp cf mb hs hf).mono ?_); rintro e u ⟨rfl, hbu⟩; have KI := Lib.hid (by first | with_reducible exact KI.out.drew.below hbu | with_reducible exact KI.out.below hbu); have KB := Lib.hid (by first | with_reducible exact KB.out.drew.below hbu | with_reducible exact KB.out.below hbu); clear t0 t1 t2 t3; have t0 := (KI.out.row HQ.out).cell 0 (v := .int .i64 0) rfl; have t1 := (KI.out.row HQ.out).cell 1 (v := .int .i64 0) rfl; have t2 := (KI.out.row HQ.out).free 0; have t3 := (KI.out.row HQ.out).free 1; clear hbu)))
  all_goals
    have q0 := ((KI.out.row HQ.out).set 0 (.int .i64 (dryD Pt.hi ps s ms[f].f.stay))).set 1 (.int .i64 (dryD Pt.lo ps s ms[f].f.stay))
    go_wp2_with fail
    exact bodyPost_ret (v := .agg #[.int .i64 (dryD Pt.hi ps s ms[f].f.stay), .int .i64 (dryD Pt.lo ps s ms[f].f.stay)]) (results_cell_row Tryz.results38 _ _ _ _ _ _ _ rfl q0 Tryz.underlying43 rfl (by kernel_rfl)) rfl
      ⟨rfl, ((HB.out.trans (KI.out.b.mono HB.out.size)).setCell (by dsimp only; omega) _).setCell (by dsimp only; omega) _⟩

def wetB (ps : List Pt) (s : List Int) (f : Fr) : Bool := decide (dryD Pt.hi ps s f.stay < f.lo)
def dryB (ps : List Pt) (s : List Int) (f : Fr) : Bool := decide (f.hi < dryD Pt.lo ps s f.stay)
def wetN (ps : List Pt) (s : List Int) (f : Fr) : Int := if wetB ps s f then 1 else 0
theorem wetN_range (ps : List Pt) (s : List Int) (f : Fr) : 0 ≤ wetN ps s f ∧ wetN ps s f ≤ 1 := by unfold wetN; split <;> omega
theorem kindD_eq (ps : List Pt) (s : List Int) (f : Fr) : kindD ps s f = wetN ps s f + (if dryB ps s f then 2 else 0) := by
  simp [kindD, wetN, wetB, dryB]
theorem wetR {ps : List Pt} {s : List Int} {m : FrM} {b : Bool} (h : wetB ps s m.f = b) (w : World) : Calls Tryz.prog 89 #[.agg #[.slice m.p m.f.stay.length m.c, .int .i64 m.f.lo, .int .i64 m.f.hi], .int .i64 (dryD Pt.hi ps s m.f.stay)] w fun e w' => e = .returned (.bool b) ∧ Below w.heap.size w w' := by
  subst h
  exact wet_any m _ w
theorem dryR {ps : List Pt} {s : List Int} {m : FrM} {b : Bool} (h : dryB ps s m.f = b) (w : World) : Calls Tryz.prog 91 #[.agg #[.slice m.p m.f.stay.length m.c, .int .i64 m.f.lo, .int .i64 m.f.hi], .int .i64 (dryD Pt.lo ps s m.f.stay)] w fun e w' => e = .returned (.bool b) ∧ Below w.heap.size w w' := by
  subst h
  exact dryF_any m _ w
theorem endAt0 (w : World) : (Instr.index 144 (.agg endsA) (.int .i64 0)).run Tryz.prog w = .ok (.agg #[.func (.func 88) #[] #[], .func (.func 89) #[] #[], .int .i64 1]) w := by
  simp [Instr.index, go_sem, endsA]
theorem endAt1 (w : World) : (Instr.index 144 (.agg endsA) (.int .i64 1)).run Tryz.prog w = .ok (.agg #[.func (.func 90) #[] #[], .func (.func 91) #[] #[], .int .i64 2]) w := by
  simp [Instr.index, go_sem, endsA]

set_option maxRecDepth 10000 in
set_option maxHeartbeats 800000 in
theorem kind_any (pp : Option Addr) (cp : Nat) (pf : Option Addr) (cf mb : Nat) (s : List Int) (ps : List Pt) (ms : List FrM) (w : World) (hB : Bk w pp pf ps ms) (hs : SetOk s) (f : Nat) (hf : f < ms.length) :
    Calls Tryz.prog 37 #[.agg (pasA pp ps.length cp pf ms.length cf mb s), .int .i64 f] w fun e w' => e = .returned (.int .i64 (kindD ps s ms[f].f)) ∧ Below w.heap.size w w' := by
  have HBK := Lib.hid hB
  clear hB
  unfold pasA
  go_enter Tryz.func37, Tryz.ntmps37
  go_wp2_with (first | (refine (ends_any _).mono ?_; rintro e w1 ⟨rfl, hb1⟩))
  have hz1 := hb1.size
  simp at hz1
  have hB := (below_alloc w (.cells (pasA pp ps.length cp pf ms.length cf mb s) 83)).trans (hb1.mono (by simp))
  have hR := (Row.new w (pasA pp ps.length cp pf ms.length cf mb s) 83).below hb1 (by simp)
  clear hb1
  go_loopw [5, 9] (fun kk i wr => ((i = .int .i64 0 ∧ kk = .int .i64 0) ∨ (i = .int .i64 1 ∧ kk = .int .i64 (wetN ps s ms[f].f)) ∨ (i = .int .i64 2 ∧ kk = .int .i64 (kindD ps s ms[f].f))) ∧ Row wr w.heap.size (pasA pp ps.length cp pf ms.length cf mb s) 83 ∧ Below w.heap.size w wr) (fun _ i _ => 2 - (intOf i).toNat)
  case atStart => exact ⟨.inl ⟨rfl, rfl⟩, hR, hB⟩
  case round =>
    obtain ⟨hi, r0, hb⟩ := hrel
    clear hR hB
    have hwr := wetN_range ps s ms[f].f
    rcases hi with ⟨rfl, rfl⟩ | ⟨rfl, rfl⟩ | ⟨rfl, rfl⟩
    · have HR := Lib.hid r0
      have HB := Lib.hid hb
      have hlt := r0.lt
      clear r0 hb
      obtain ⟨bf, of, rfl, g0, g1, g2, _⟩ := (HBK.out.below HB.out).f f hf
      go_wp2_with (first | (refine index_op rfl 144 _ _ rfl _ _ rfl rfl _ (endAt0 _) ?_) | (refine store_new rfl 143 _ _ rfl #[.func (.func 88) #[] #[], .func (.func 89) #[] #[], .int .i64 1] #[.nilFunc, .nilFunc, .int .i64 0] 143 rfl rfl (by kernel_rfl) rfl (by simp [Value.oneCell']) ?_))
      have hE : From wr (wr.alloc (.cells #[.func (.func 88) #[] #[], .func (.func 89) #[] #[], .int .i64 1] 143)) := ⟨below_alloc _ _⟩
      have HE := Lib.hid (Row.new wr #[.func (.func 88) #[] #[], .func (.func 89) #[] #[], .int .i64 1] 143)
      have HR := Lib.hid (hE.row HR.out)
      have HB := Lib.hid (HB.out.trans (hE.b.mono HB.out.size))
      have q0 := hE.cell g0
      have q1 := hE.cell g1
      have q2 := hE.cell g2
      generalize wr.alloc (.cells #[.func (.func 88) #[] #[], .func (.func 89) #[] #[], .int .i64 1] 143) = W1 at *
      have hS : ∀ w', From W1 w' → (PasCells w.heap.size pp ps.length cp (some ⟨bf, of, none⟩) ms.length cf mb s w' ∧ w'.cell? ⟨wr.heap.size, 0, none⟩ = some (.func (.func 88) #[] #[]) ∧ w'.cell? ⟨wr.heap.size, 1, none⟩ = some (.func (.func 89) #[] #[]) ∧ w'.cell? ⟨bf, of + f * 3, none⟩ = some (.slice ms[f].p ms[f].f.stay.length ms[f].c) ∧ w'.cell? ⟨bf, of + f * 3 + 1, none⟩ = some (.int .i64 ms[f].f.lo) ∧ w'.cell? ⟨bf, of + f * 3 + 2, none⟩ = some (.int .i64 ms[f].f.hi)) :=
        fun w' h => ⟨(h.row HR.out).pas, (h.row HE.out).cell 0 rfl, (h.row HE.out).cell 1 rfl, h.cell q0, h.cell q1, h.cell q2⟩
      have HS := Lib.hid hS
      have HBW := Lib.hid (HBK.out.below HB.out)
      have KI := Lib.hid (From.refl W1)
      have i1 : (0 : Int) ≤ (f : Int) := by omega
      have i2 : (f : Int) < (ms.length : Int) := by omega
      clear hS hE q0 q1 q2 g0 g1 g2
      cases hw : wetB ps s ms[f].f
      all_goals
        have HW := Lib.hid hw
        clear hw
        go_region_held3 (fun w' => PasCells w.heap.size pp ps.length cp (some ⟨bf, of, none⟩) ms.length cf mb s w' ∧ w'.cell? ⟨wr.heap.size, 0, none⟩ = some (.func (.func 88) #[] #[]) ∧ w'.cell? ⟨wr.heap.size, 1, none⟩ = some (.func (.func 89) #[] #[]) ∧ w'.cell? ⟨bf, of + f * 3, none⟩ = some (.slice ms[f].p ms[f].f.stay.length ms[f].c) ∧ w'.cell? ⟨bf, of + f * 3 + 1, none⟩ = some (.int .i64 ms[f].f.lo) ∧ w'.cell? ⟨bf, of + f * 3 + 2, none⟩ = some (.int .i64 ms[f].f.hi)) (first | with_reducible exact HS.out _ KI.out | with_reducible exact HS.out _ KI.out.drew)
          (first
            | (go_at_call 67; (with_reducible refine (dHi (by first | with_reducible exact KI.out.bk HBW.out | with_reducible exact KI.out.drew.bk HBW.out) cp cf mb hs hf).mono ?_); rintro e u ⟨rfl, hbu⟩; have KI := Lib.hid (by first | with_reducible exact KI.out.drew.below hbu | with_reducible exact KI.out.below hbu); clear hbu)
            | (go_at_call 89; (with_reducible refine (wetR HW.out _).mono ?_); rintro e u ⟨rfl, hbu⟩; have KI := Lib.hid (by first | with_reducible exact KI.out.drew.below hbu | with_reducible exact KI.out.below hbu); clear hbu))
        all_goals
          have k2 := (KI.out.row HE.out).cell 2 (v := .int .i64 1) rfl
          go_wp2_with fail
          go_roundw
          case rel => exact ⟨.inr (.inl ⟨rfl, by rw [wetN, HW.out]; rfl⟩), KI.out.row HR.out, HB.out.trans (KI.out.b.mono HB.out.size)⟩
          case measure => simp [intOf]
    · have HR := Lib.hid r0
      have HB := Lib.hid hb
      have hlt := r0.lt
      clear r0 hb
      obtain ⟨bf, of, rfl, g0, g1, g2, _⟩ := (HBK.out.below HB.out).f f hf
      go_wp2_with (first | (refine index_op rfl 144 _ _ rfl _ _ rfl rfl _ (endAt1 _) ?_) | (refine store_new rfl 143 _ _ rfl #[.func (.func 90) #[] #[], .func (.func 91) #[] #[], .int .i64 2] #[.nilFunc, .nilFunc, .int .i64 0] 143 rfl rfl (by kernel_rfl) rfl (by simp [Value.oneCell']) ?_))
      have hE : From wr (wr.alloc (.cells #[.func (.func 90) #[] #[], .func (.func 91) #[] #[], .int .i64 2] 143)) := ⟨below_alloc _ _⟩
      have HE := Lib.hid (Row.new wr #[.func (.func 90) #[] #[], .func (.func 91) #[] #[], .int .i64 2] 143)
      have HR := Lib.hid (hE.row HR.out)
      have HB := Lib.hid (HB.out.trans (hE.b.mono HB.out.size))
      have q0 := hE.cell g0
      have q1 := hE.cell g1
      have q2 := hE.cell g2
      generalize wr.alloc (.cells #[.func (.func 90) #[] #[], .func (.func 91) #[] #[], .int .i64 2] 143) = W1 at *
      have hS : ∀ w', From W1 w' → (PasCells w.heap.size pp ps.length cp (some ⟨bf, of, none⟩) ms.length cf mb s w' ∧ w'.cell? ⟨wr.heap.size, 0, none⟩ = some (.func (.func 90) #[] #[]) ∧ w'.cell? ⟨wr.heap.size, 1, none⟩ = some (.func (.func 91) #[] #[]) ∧ w'.cell? ⟨bf, of + f * 3, none⟩ = some (.slice ms[f].p ms[f].f.stay.length ms[f].c) ∧ w'.cell? ⟨bf, of + f * 3 + 1, none⟩ = some (.int .i64 ms[f].f.lo) ∧ w'.cell? ⟨bf, of + f * 3 + 2, none⟩ = some (.int .i64 ms[f].f.hi)) :=
        fun w' h => ⟨(h.row HR.out).pas, (h.row HE.out).cell 0 rfl, (h.row HE.out).cell 1 rfl, h.cell q0, h.cell q1, h.cell q2⟩
      have HS := Lib.hid hS
      have HBW := Lib.hid (HBK.out.below HB.out)
      have KI := Lib.hid (From.refl W1)
      have i1 : (0 : Int) ≤ (f : Int) := by omega
      have i2 : (f : Int) < (ms.length : Int) := by omega
      clear hS hE q0 q1 q2 g0 g1 g2
      cases hw : dryB ps s ms[f].f
      all_goals
        have HW := Lib.hid hw
        clear hw
        go_region_held3 (fun w' => PasCells w.heap.size pp ps.length cp (some ⟨bf, of, none⟩) ms.length cf mb s w' ∧ w'.cell? ⟨wr.heap.size, 0, none⟩ = some (.func (.func 90) #[] #[]) ∧ w'.cell? ⟨wr.heap.size, 1, none⟩ = some (.func (.func 91) #[] #[]) ∧ w'.cell? ⟨bf, of + f * 3, none⟩ = some (.slice ms[f].p ms[f].f.stay.length ms[f].c) ∧ w'.cell? ⟨bf, of + f * 3 + 1, none⟩ = some (.int .i64 ms[f].f.lo) ∧ w'.cell? ⟨bf, of + f * 3 + 2, none⟩ = some (.int .i64 ms[f].f.hi)) (first | with_reducible exact HS.out _ KI.out | with_reducible exact HS.out _ KI.out.drew)
          (first
            | (go_at_call 67; (with_reducible refine (dLo (by first | with_reducible exact KI.out.bk HBW.out | with_reducible exact KI.out.drew.bk HBW.out) cp cf mb hs hf).mono ?_); rintro e u ⟨rfl, hbu⟩; have KI := Lib.hid (by first | with_reducible exact KI.out.drew.below hbu | with_reducible exact KI.out.below hbu); clear hbu)
            | (go_at_call 91; (with_reducible refine (dryR HW.out _).mono ?_); rintro e u ⟨rfl, hbu⟩; have KI := Lib.hid (by first | with_reducible exact KI.out.drew.below hbu | with_reducible exact KI.out.below hbu); clear hbu))
        all_goals
          have k2 := (KI.out.row HE.out).cell 2 (v := .int .i64 2) rfl
          go_wp2_with fail
          go_roundw
          case rel => exact ⟨.inr (.inr ⟨rfl, by rw [kindD_eq, HW.out]; simp⟩), KI.out.row HR.out, HB.out.trans (KI.out.b.mono HB.out.size)⟩
          case measure => simp [intOf]
    · go_wp2
      go_ret
      exact ⟨rfl, hb⟩
end Go.Proofs.YticfcdbfplfmlaaGreat.Tu
/- The walks of layer 3: is a frame dry in time; a book with its map; a passage. -/
namespace Go.Proofs.YticfcdbfplfmlaaGreat.Tu
open Go.RowKit Go.Maps
attribute [local go_sem] Oper.semAt_some

section
variable {P : Program} {ops : Array Oper} {rest : List Oper} {op : Oper} {a : Act} {w w' : World} {Q : Exit → Act → World → Prop}
theorem lookup_ok_op (hgd : op.guard = none) (ty : TypeId) (x y : Operand) (ho : op.op = .lookup ty x y true) (mb : Nat) (ks : Array Value) (hx : a.eval x = .map (some mb)) (hy : a.eval y = .agg ks) (v : Value)
    (hr : (Instr.lookup ty (.map (some mb)) (.agg ks) true).run P w = .ok v w) (h : wpList P ops Q rest (a.put op.dst v) w) : wpList P ops Q (op :: rest) a w :=
  wpList_plain hgd fun _ hK => by
    unfold Oper.wp execOp
    simp only [ho, hx, hy, Sem.run_bind, Sem.run_pure, hr, Result.andThen_ok]
    exact hK _ _ h
theorem mapUpdate_op (hgd : op.guard = none) (ty : TypeId) (m x y : Operand) (ho : op.op = .mapUpdate ty m x y) (vm vx vy : Value) (hm : a.eval m = vm) (hx : a.eval x = vx) (hy : a.eval y = vy)
    (hr : (Instr.mapUpdate ty vm vx vy).run P w = .ok () w') (h : wpList P ops Q rest (a.put op.dst undef) w') : wpList P ops Q (op :: rest) a w :=
  wpList_plain hgd fun _ hK => by
    unfold Oper.wp execOp
    simp only [ho, hm, hx, hy, Sem.run_bind, Sem.run_pure, hr, Result.andThen_ok]
    exact hK _ _ h
end
theorem dryI_at {ps : List Pt} {ms : List FrM} {s : List Int} {f : Nat} (hf : f < ms.length) : dryI ps (frsM ms) s f = decide (kindD ps s ms[f].f = 0) := by simp [dryI, frsM, hf]
/-- A map holds no cells. -/
theorem dried_ne {w : World} {mb n np : Nat} {F : List Int → Nat → Bool} (h : DriedAt w mb n np F) {b o : Nat} {v : Value} (hc : w.cell? ⟨b, o, none⟩ = some v) : b ≠ mb := by
  rintro rfl
  obtain ⟨D, ⟨es, clock, hb, _⟩, _⟩ := h
  unfold World.cell? at hc
  rw [hb] at hc
  simp at hc
theorem dried_row_ne {w : World} {mb n np : Nat} {F : List Int → Nat → Bool} (h : DriedAt w mb n np F) {b : Nat} {cs : Array Value} {t : TypeId} (hc : Row w b cs t) : b ≠ mb := by
  rintro rfl
  obtain ⟨D, ⟨es, clock, hb, _⟩, _⟩ := h
  unfold Row at hc
  rw [hb] at hc
  cases hc
/-- A valid book in memory, with its map. -/
structure BkD (w : World) (pp pf : Option Addr) (ps : List Pt) (ms : List FrM) (mb n : Nat) : Prop where
  b : Bk w pp pf ps ms
  d : DriedAt w mb n ps.length (dryI ps (frsM ms))
section
variable {w w' : World} {pp pf : Option Addr} {ps : List Pt} {ms : List FrM} {mb n : Nat}
theorem BkD.below (h : BkD w pp pf ps ms mb n) (hb : Below w.heap.size w w') : BkD w' pp pf ps ms mb n := ⟨h.b.below hb, h.d.below hb⟩
theorem BkD.drew (h : BkD w pp pf ps ms mb n) : BkD w.drew pp pf ps ms mb n := ⟨h.b.drew, h.d⟩
theorem BkD.mono (h : BkD w pp pf ps ms mb n) {n' : Nat} (hn : n ≤ n') : BkD w pp pf ps ms mb n' := ⟨h.b, h.d.mono hn⟩
theorem FromB.ints {b : Nat} (h : FromB b w w') {p : Option Addr} {xs : List Int} (hi : IntsAt w p xs) (hne : ∀ c o, p = some ⟨c, o, none⟩ → 0 < xs.length → c ≠ b) : IntsAt w' p xs := by
  intro i hl
  obtain ⟨c, o, hp, hc⟩ := hi i hl
  exact ⟨c, o, hp, h.cell hc (hne c o hp (by omega))⟩
theorem Bk.fromB (hB : Bk w pp pf ps ms) (h : FromB mb w w') {n np : Nat} {F : List Int → Nat → Bool} (hd : DriedAt w mb n np F) : Bk w' pp pf ps ms := by
  refine ⟨?_, ?_, hB.ok⟩
  · intro i hi
    obtain ⟨b, o, hp, h0, h1, h2, h3, h4, h5⟩ := hB.p i hi
    have hne := dried_ne hd h0
    exact ⟨b, o, hp, h.cell h0 hne, h.cell h1 hne, h.cell h2 hne, h.cell h3 hne, h.cell h4 hne, h.cell h5 hne⟩
  · intro i hi
    obtain ⟨b, o, hp, h0, h1, h2, h3⟩ := hB.f i hi
    have hne := dried_ne hd h0
    refine ⟨b, o, hp, h.cell h0 hne, h.cell h1 hne, h.cell h2 hne, h.ints h3 ?_⟩
    intro c o' e hl
    obtain ⟨c', o'', e2, hc⟩ := h3 0 hl
    rw [e] at e2
    cases e2
    exact dried_ne hd hc
end

theorem keeps_grown {w w' : World} {m : Nat} (hg : w.grownBy w' (some m)) (M : Nat → Prop) (hM : M m) : KeepsBut M w w' :=
  ⟨hg.os, hg.tape, hg.output, hg.size, fun k hk hn => hg.block k hk (fun e => hn (by cases e; exact hM))⟩
theorem dry_put {w : World} {pp pf : Option Addr} {ps : List Pt} {ms : List FrM} {mb n : Nat} (h : BkD w pp pf ps ms mb n) (hn : n < 1000000000) {s : List Int} (hl : s.length = ps.length) (hs : SetOk s) (f : Nat) (hf : f < ms.length) :
    ∃ w', (Instr.mapUpdate 68 (.map (some mb)) (.agg (runA f s)) (.bool (kindD ps s ms[f].f == 0))).run Tryz.prog w = .ok () w' ∧ BkD w' pp pf ps ms mb (n + 1) ∧ w.grownBy w' (some mb) := by
  have h5 := h.b.n5
  have h4 := h.b.n4
  obtain ⟨w', hrun, hD, hg⟩ := h.d.put (by unfold maxLen; omega) (i := f) (s := s) (fun t ht _ e0 e1 e2 e3 => by rw [set_ext (s := t) (t := s) (by omega) (by omega) e0 e1 e2 e3]) (by omega) hs
  rw [dryI_at hf] at hrun
  exact ⟨w', hrun, ⟨h.b.fromB ⟨keeps_grown hg _ rfl⟩ h.d, hD⟩, hg⟩

set_option maxRecDepth 10000 in
set_option maxHeartbeats 800000 in
theorem dry_any (pp : Option Addr) (cp : Nat) (pf : Option Addr) (cf mb n : Nat) (s : List Int) (ps : List Pt) (ms : List FrM) (w : World) (hB : BkD w pp pf ps ms mb n) (hn : n < 1000000000) (hl : s.length = ps.length) (hs : SetOk s) (f : Nat) (hf : f < ms.length) :
    Calls Tryz.prog 54 #[.agg (pasA pp ps.length cp pf ms.length cf mb s), .int .i64 f] w fun e w' => e = .returned (.bool (dryI ps (frsM ms) s f)) ∧ BkD w' pp pf ps ms mb (n + 1) ∧ FromB mb w w' := by
  have hf5 : f ≤ 5 := by have := hB.b.n5; omega
  have hE := below_alloc2 w (.cells (pasA pp ps.length cp pf ms.length cf mb s) 83) (.cells (runA f s) 165)
  have HD := Lib.hid (hB.below hE)
  have HB0 := Lib.hid hB
  have HR := Lib.hid ((Row.new w (pasA pp ps.length cp pf ms.length cf mb s) 83).alloc (.cells (runA f s) 165))
  have HQ := Lib.hid (Row.new1 w (.cells (pasA pp ps.length cp pf ms.length cf mb s) 83) (runA f s) 165)
  have HF := Lib.hid (show FromB mb w ((w.alloc (.cells (pasA pp ps.length cp pf ms.length cf mb s) 83)).alloc (.cells (runA f s) 165)) from (FromB.refl mb w).below hE)
  have HL := Lib.hid hl
  obtain ⟨found, hr⟩ := HD.out.d.look hf5 hl hs
  clear hB hE hl
  cases found
  · simp only [Bool.false_and] at hr
    have HLK := Lib.hid hr
    clear hr
    go_enter Tryz.func54, Tryz.ntmps54
    go_wp2_with (first | (refine lookup_ok_op rfl 68 _ _ rfl mb _ rfl rfl _ HLK.out ?_) | (go_at_call 37; (with_reducible refine (kind_any _ _ _ _ _ _ _ _ _ HD.out.b hs f hf).mono ?_); rintro e w1 ⟨rfl, hb1⟩; have HR := Lib.hid (HR.out.below hb1 HR.out.lt); have HQ := Lib.hid (HQ.out.below hb1 HQ.out.lt); have HD := Lib.hid (HD.out.below hb1); have HF := Lib.hid (HF.out.below hb1); clear hb1; have k2 := HR.out.cell 2 (v := .map (some mb)) rfl; have k3 := HQ.out.cell 0 (v := .int .i64 f) rfl; have k4 := HQ.out.cell 1 (v := .int .i64 (at0 s 0)) rfl; have k5 := HQ.out.cell 2 (v := .int .i64 (at0 s 1)) rfl; have k6 := HQ.out.cell 3 (v := .int .i64 (at0 s 2)) rfl; have k7 := HQ.out.cell 4 (v := .int .i64 (at0 s 3)) rfl; obtain ⟨w2, hput, hD2, hg⟩ := dry_put HD.out hn HL.out hs f hf; have HPUT := Lib.hid hput; have HD2 := Lib.hid hD2; have HG := Lib.hid hg; clear hput hD2 hg) | (refine mapUpdate_op rfl 68 _ _ _ rfl _ _ _ rfl rfl rfl HPUT.out ?_))
    go_ret
    exact ⟨ret_bool (by rw [dryI_at hf]; rfl), HD2.out, ⟨HF.out.k.trans (keeps_grown HG.out _ rfl)⟩⟩
  · simp only [Bool.true_and] at hr
    have HLK := Lib.hid hr
    clear hr
    generalize hv : dryI ps (frsM ms) s f = v at *
    have HV := Lib.hid hv
    clear hv
    go_enter Tryz.func54, Tryz.ntmps54
    go_wp2_with (first | (refine lookup_ok_op rfl 68 _ _ rfl mb _ rfl rfl _ HLK.out ?_))
    go_ret
    exact ⟨rfl, HD.out.mono (by omega), HF.out⟩
end Go.Proofs.YticfcdbfplfmlaaGreat.Tu
/- The walks of layer 3: a book with its map; a passage; settings as lists; which outcome is the better one. -/
namespace Go.Proofs.YticfcdbfplfmlaaGreat.Tu
open Go.RowKit Go.Maps
attribute [local go_sem] Oper.semAt_some

/-- The call returned a book with a new map. -/
def GaveBook (pp : Option Addr) (np cp : Nat) (pf : Option Addr) (nf cf : Nat) (ps : List Pt) (ms : List FrM) (w : World) (e : Ending) (w' : World) : Prop :=
  ∃ mb, e = .returned (.agg (bookA pp np cp pf nf cf mb)) ∧ w.heap.size ≤ mb ∧ BkD w' pp pf ps ms mb 0 ∧ Below w.heap.size w w'

set_option maxRecDepth 10000 in
set_option maxHeartbeats 800000 in
theorem open_any (pp : Option Addr) (cp : Nat) (pf : Option Addr) (cf : Nat) (ps : List Pt) (ms : List FrM) (w : World) (hB : Bk w pp pf ps ms) :
    Calls Tryz.prog 30 #[.agg #[.slice pp ps.length cp, .slice pf ms.length cf]] w (GaveBook pp ps.length cp pf ms.length cf ps ms w) := by
  have HBK := Lib.hid hB
  clear hB
  have hmm := @run_makeMap Tryz.prog
  go_enter Tryz.func30, Tryz.ntmps30
  go_wp2_with fail
  clear hmm
  have q0 := (Row.new1 w (.cells #[.slice pp ps.length cp, .slice pf ms.length cf] 25) (bookA pp ps.length cp pf ms.length cf (w.heap.size + 1 + 1)) 70).alloc (.map #[] 0)
  have hb := below_alloc3 w (.cells #[.slice pp ps.length cp, .slice pf ms.length cf] 25) (.cells (bookA pp ps.length cp pf ms.length cf (w.heap.size + 1 + 1)) 70) (.map #[] 0)
  have hd := DriedAt.made ((w.alloc (.cells #[.slice pp ps.length cp, .slice pf ms.length cf] 25)).alloc (.cells (bookA pp ps.length cp pf ms.length cf (w.heap.size + 1 + 1)) 70)) ps.length (dryI ps (frsM ms))
  simp only [World.size_alloc] at hd
  exact bodyPost_ret (v := .agg (bookA pp ps.length cp pf ms.length cf (w.heap.size + 1 + 1))) (results_cell_row Tryz.results30 _ _ _ _ _ _ _ rfl q0 Tryz.underlying70 rfl (by kernel_rfl)) rfl
    ⟨_, rfl, by omega, ⟨HBK.out.below hb, hd⟩, hb⟩

set_option maxRecDepth 10000 in
set_option maxHeartbeats 800000 in
theorem by_any (pp : Option Addr) (np cp : Nat) (pf : Option Addr) (nf cf mb : Nat) (s : List Int) (w : World) :
    Calls Tryz.prog 63 #[.agg (bookA pp np cp pf nf cf mb), .agg (setA s)] w fun e w' => e = .returned (.agg (pasA pp np cp pf nf cf mb s)) ∧ Below w.heap.size w w' := by
  go_enter Tryz.func63, Tryz.ntmps63
  go_wp2_with fail
  have q0 := Row.new2 w (.cells (bookA pp np cp pf nf cf mb) 70) (.cells (setA s) 75) (pasA pp np cp pf nf cf mb s) 83
  exact bodyPost_ret (v := .agg (pasA pp np cp pf nf cf mb s)) (results_cell_row Tryz.results63 _ _ _ _ _ _ _ rfl q0 Tryz.underlying83 rfl (by kernel_rfl)) rfl ⟨rfl, below_alloc3 _ _ _ _⟩

/-- An outcome. -/
abbrev outA (s : List Int) (heat : Int) (p : Option Addr) (n c : Nat) : Array Value := #[.int .i64 (at0 s 0), .int .i64 (at0 s 1), .int .i64 (at0 s 2), .int .i64 (at0 s 3), .int .i64 heat, .slice p n c]
set_option maxRecDepth 10000 in
theorem cooler_any (s : List Int) (h : Int) (p : Option Addr) (n c : Nat) (s' : List Int) (h' : Int) (p' : Option Addr) (n' c' : Nat) (w : World) :
    Calls Tryz.prog 61 #[.agg (outA s h p n c), .agg (outA s' h' p' n' c')] w fun e w' => e = .returned (.bool (decide (h < h'))) ∧ Below w.heap.size w w' := by
  go_enter Tryz.func61, Tryz.ntmps61
  go_wp2
  go_ret
  exact ⟨rfl, below_alloc2 _ _ _⟩
/-- The call returned a list of so many numbers; what was there is as it was. -/
def GaveList (s : List Int) (n : Nat) (w : World) (e : Ending) (w' : World) : Prop := ∃ p c, e = .returned (.slice p n c) ∧ IntsAt w' p s ∧ Below w.heap.size w w'
set_option maxRecDepth 10000 in
set_option maxHeartbeats 800000 in
theorem list_any (s : List Int) (np : Nat) (hl : s.length = np) (h4 : np ≤ 4) (w : World) :
    Calls Tryz.prog 34 #[.agg (setA s), .int .i64 np] w (GaveList s np w) := by
  have hi : IntsAt (w.alloc (.cells (setA s) 75)) (some ⟨w.heap.size, 0, none⟩) s := by
    intro i hi
    refine ⟨_, 0, rfl, (Row.new w (setA s) 75).cell (0 + i) ?_⟩
    obtain rfl | rfl | rfl | rfl : i = 0 ∨ i = 1 ∨ i = 2 ∨ i = 3 := by omega
    all_goals rfl
  have HI := Lib.hid hi
  have i1 : (0 : Int) ≤ (np : Int) := by omega
  have i2 : (np : Int) ≤ 4 := by omega
  clear hi hl
  go_enter Tryz.func34, Tryz.ntmps34
  go_wp2
  go_ret
  exact ⟨_, np, rfl, HI.out, below_alloc _ _⟩
end Go.Proofs.YticfcdbfplfmlaaGreat.Tu
