/- The walks of layer 3: how dry a frame is, at both ends. -/
import Derived.Test.YtfppcmechfjpoaaUAB
namespace Go.Proofs.Ytfppcmechfjpoaa
open Go.RowKit Go.Maps
attribute [local go_sem] Oper.semAt_some

/-- All that was there in a world is as it was. -/
structure From (W w : World) : Prop where
  b : Below W.heap.size W w
section
variable {W w w' : World}
theorem From.refl (W : World) : From W W := ⟨Below.refl _ _⟩
theorem From.drew (h : From W w) : From W w.drew := ⟨h.b.drew⟩
theorem From.below (h : From W w) (hb : Below w.heap.size w w') : From W w' := ⟨h.b.trans (hb.mono h.b.size)⟩
theorem From.cell (h : From W w) {b o : Nat} {v : Value} (hc : W.cell? ⟨b, o, none⟩ = some v) : w.cell? ⟨b, o, none⟩ = some v := by
  rw [(bcell h.b).1 b o (by have := cell_block hc; exact this)]; exact hc
theorem From.row (h : From W w) {b : Nat} {cs : Array Value} {t : TypeId} (hr : Row W b cs t) : Row w b cs t := hr.below h.b hr.lt
theorem From.free (h : From W w) {b : Nat} {cs : Array Value} {t : TypeId} (hr : Row W b cs t) (o : Nat) : w.frozen? ⟨b, o, none⟩ = false := (h.row hr).free o
theorem From.ints (h : From W w) {p : Option Addr} {xs : List Int} (hi : IntsAt W p xs) : IntsAt w p xs := hi.below h.b
end
/-- All that was there in a world is as it was, but for one block. -/
structure FromB (b : Nat) (W w : World) : Prop where
  k : KeepsBut (fun m => m = b) W w
section
variable {b : Nat} {W w w' : World}
theorem FromB.refl (b : Nat) (W : World) : FromB b W W := ⟨KeepsBut.refl _ _⟩
theorem FromB.drew (h : FromB b W w) : FromB b W w.drew := ⟨h.k.drew⟩
theorem FromB.below (h : FromB b W w) (hb : Below w.heap.size w w') : FromB b W w' := ⟨h.k.after hb⟩
theorem FromB.set (h : FromB b W w) (i : Nat) (v : Value) : FromB b W (w.setCell ⟨b, i, none⟩ v) := ⟨h.k.setCell (.inl rfl) v⟩
theorem FromB.alloc (h : FromB b W w) (o : Obj) : FromB b W (w.alloc o) := ⟨h.k.alloc o⟩
theorem FromB.row (h : FromB b W w) {c : Nat} {cs : Array Value} {t : TypeId} (hr : Row W c cs t) (hne : c ≠ b) : Row w c cs t := hr.keeps h.k hne
theorem FromB.cell (h : FromB b W w) {c o : Nat} {v : Value} (hc : W.cell? ⟨c, o, none⟩ = some v) (hne : c ≠ b) : w.cell? ⟨c, o, none⟩ = some v := by
  have hl : c < W.heap.size := cell_block hc
  rw [World.cell?_of_block (h.k.block c hl hne)]; exact hc
theorem FromB.base (h : FromB b W w) {n : Nat} {w0 : World} (h0 : Below n w0 W) (hn : n ≤ b) (hz : n ≤ W.heap.size) : Below n w0 w :=
  h0.trans (h.k.below hz (fun k hk e => by omega))
end
def dryF (d : Pt → Int) (ps : List Pt) (s stay : List Int) (i : Nat) : Int := match ps[i]? with
  | some p => dryAt p (at0 s i) (at0 stay i) (d p)
  | none => 0
theorem dryF_at {d : Pt → Int} {ps : List Pt} {s stay : List Int} {i : Nat} (h : i < ps.length) : dryF d ps s stay i = dryAt ps[i] (at0 s i) (at0 stay i) (d ps[i]) := by simp [dryF, h]
theorem dryD_sum {d : Pt → Int} {ps : List Pt} (s : List Int) {stay : List Int} (hok : ∀ p ∈ ps, PtOk p) (h4 : ps.length ≤ 4) (hs : ∀ x ∈ stay, 0 ≤ x ∧ x ≤ 20) (hl : stay.length = ps.length) (hd : ∀ p ∈ ps, 0 ≤ d p) : total (firstL (dryF d ps s stay) ps.length) = dryD d ps s stay := by
  rw [firstL_total _ h4]
  · rfl
  · intro i hi
    rw [dryF_at hi]
    have hx := hs _ (at0_mem (l := stay) (i := i) (by omega))
    have := dryAt_range (hok ps[i] (List.getElem_mem _)) (s := at0 s i) hx.1 hx.2 (hd ps[i] (List.getElem_mem _))
    omega
theorem dry_val {stay h d : Int} (h0 : 0 ≤ stay) (h1 : stay ≤ 20) (h2 : 0 ≤ h) (h3 : h ≤ 20) (h4 : 0 ≤ d) : wrap64 (stay * if d < h then h - d else 0) = stay * max 0 (h - d) := by
  have e : (if d < h then h - d else 0) = max 0 (h - d) := by split <;> omega
  rw [e]
  have hm : 0 ≤ max 0 (h - d) ∧ max 0 (h - d) ≤ 20 := by omega
  have a := Int.mul_nonneg h0 hm.1
  have b : stay * max 0 (h - d) ≤ stay * 20 := Int.mul_le_mul_of_nonneg_left hm.2 h0
  exact IntWalk.wrap64_in _ (by omega)
theorem PtsAt.row {w : World} {p : Option Addr} {ps : List Pt} (h : PtsAt w p ps) {i : Nat} (hi : i < ps.length) : ∃ b o, p = some ⟨b, o, none⟩ ∧ w.cell? ⟨b, o + i * 6, none⟩ = some (.int .i64 ps[i].h0) ∧ w.cell? ⟨b, o + i * 6 + 1, none⟩ = some (.int .i64 ps[i].h1) ∧ w.cell? ⟨b, o + i * 6 + 2, none⟩ = some (.int .i64 ps[i].h2) ∧ w.cell? ⟨b, o + i * 6 + 3, none⟩ = some (.int .i64 ps[i].h3) ∧ w.cell? ⟨b, o + i * 6 + 4, none⟩ = some (.int .i64 ps[i].lo) ∧ w.cell? ⟨b, o + i * 6 + 5, none⟩ = some (.int .i64 ps[i].hi) := h i hi
theorem Pt.A_at (p : Pt) {d : Nat} (hd : d ≤ 3) : p.A[d]? = some (.int .i64 (p.h d)) := by
  obtain rfl | rfl | rfl | rfl : d = 0 ∨ d = 1 ∨ d = 2 ∨ d = 3 := by omega
  all_goals rfl

set_option maxRecDepth 10000 in
set_option maxHeartbeats 800000 in
theorem driesHi_any (pp : Option Addr) (cp : Nat) (pf : Option Addr) (cf mb : Nat) (s : List Int) (ps : List Pt) (ms : List FrM) (w : World) (hp : PtsAt w pp ps) (hf : FrsAt w pf ms) (hok : ∀ p ∈ ps, PtOk p) (h4 : ps.length ≤ 4) (hs : SetOk s) (f : Nat) (hff : f < ms.length) (hfr : FrOk ps.length ms[f].f) :
    Calls Try.prog 99 #[.agg (pasA pp ps.length cp pf ms.length cf mb s), .int .i64 f, .func (.func 109) #[] #[]] w fun e w' => e = .returned (.int .i64 (dryD Pt.hi ps s ms[f].f.stay)) ∧ Below w.heap.size w w' := by
  have HP := Lib.hid hp
  have HF := Lib.hid hf
  have HL := Lib.hid hfr.n
  clear hp hf
  unfold pasA
  go_enter Try.func99, Try.ntmps99
  go_wp2
  go_loopw [15] (fun i wr => ∃ k : Nat, k ≤ ps.length ∧ i = .int .i64 k ∧ Row wr w.heap.size (pasA pp ps.length cp pf ms.length cf mb s) 81 ∧ Row wr (w.heap.size + 1) (intsA (firstL (dryF Pt.hi ps s ms[f].f.stay) k)) 62 ∧ Below w.heap.size w wr) (fun i _ => ps.length - (intOf i).toNat)
  case atStart => exact ⟨0, by omega, rfl, (Row.new _ _ _).alloc _, by rw [firstL_zero]; exact Row.new1 _ _ _ _, below_alloc2 _ _ _⟩
  case round =>
    obtain ⟨k, hk, rfl, r0, r1, hb⟩ := hrel
    by_cases hlt : k < ps.length
    · obtain ⟨d, hd⟩ : ∃ d : Nat, at0 s k = d := ⟨(at0 s k).toNat, by have := hs.at k; omega⟩
      have hd3 : d ≤ 3 := by have := hs.at k; omega
      obtain ⟨b, o, rfl, q0, q1, q2, q3, q4, q5⟩ := (HP.out.below hb).row hlt
      obtain ⟨bf, of, rfl, g0, g1, g2, gi⟩ := (HF.out.below hb) f hff
      obtain ⟨bs, os, es, gs⟩ := gi k (by rw [HL.out]; exact hlt)
      rw [es] at g0
      have c0 := r0.cell 0 (v := .slice (some ⟨b, o, none⟩) ps.length cp) rfl
      have HR := Lib.hid r0
      have HQ := Lib.hid r1
      have HB := Lib.hid hb
      have HD := Lib.hid hd
      have HES := Lib.hid es
      have hz := r1.lt
      have hbf : bf < w.heap.size := by obtain ⟨_, _, e, h, _⟩ := HF.out f hff; cases e; exact cell_block h
      have hbs : bs < wr.heap.size := cell_block gs
      have hbs2 : bs < w.heap.size := by obtain ⟨_, _, _, _, _, _, h⟩ := HF.out f hff; obtain ⟨_, _, e, h2⟩ := h k (by rw [HL.out]; exact hlt); rw [es] at e; cases e; exact cell_block h2
      clear r0 r1 hb hd es gi
      go_wp2
      have hW : From wr (wr.alloc (.cells ps[k].A 112)) := ⟨below_alloc _ _⟩
      have HA := Lib.hid (Row.new wr ps[k].A 112)
      have HR := Lib.hid (hW.row HR.out)
      have HQ := Lib.hid (hW.row HQ.out)
      have HB := Lib.hid (HB.out.trans (hW.b.mono HB.out.size))
      have q0 := hW.cell g0
      have q1 := hW.cell gs
      have q2 := HR.out.cell (3 + k) (pasA_at _ _ _ _ _ _ _ s (by omega : k < 4))
      rw [HD.out] at q2
      have q3 := HA.out.cell d (Pt.A_at _ hd3)
      have q4 := HQ.out.cell k (intsA_at4 (firstL_length _ _) (by omega))
      have q5 := HQ.out.free k
      have q6 := HR.out.cell 1 (v := .slice (some ⟨bf, of, none⟩) ms.length cf) rfl
      have p0 := HA.out.cell 0 (v := .int .i64 ps[k].h0) rfl
      have p1 := HA.out.cell 1 (v := .int .i64 ps[k].h1) rfl
      have p2 := HA.out.cell 2 (v := .int .i64 ps[k].h2) rfl
      have p3 := HA.out.cell 3 (v := .int .i64 ps[k].h3) rfl
      have p4 := HA.out.cell 4 (v := .int .i64 ps[k].lo) rfl
      have p5 := HA.out.cell 5 (v := .int .i64 ps[k].hi) rfl
      change Code.wp _ _ _ _ (wr.alloc (.cells ps[k].A 112))
      generalize wr.alloc (.cells ps[k].A 112) = W1 at *
      have hS : ∀ w', FromB (w.heap.size + 1) W1 w' → (w'.cell? ⟨bf, of + f * 3, none⟩ = some (.slice (some ⟨bs, os, none⟩) ms[f].f.stay.length ms[f].c) ∧ w'.cell? ⟨bs, os + k, none⟩ = some (.int .i64 (at0 ms[f].f.stay k)) ∧ w'.cell? ⟨w.heap.size, 3 + k, none⟩ = some (.int .i64 d) ∧ w'.cell? ⟨wr.heap.size, d, none⟩ = some (.int .i64 (ps[k].h d)) ∧ w'.cell? ⟨w.heap.size, 1, none⟩ = some (.slice (some ⟨bf, of, none⟩) ms.length cf) ∧ w'.cell? ⟨wr.heap.size, 0, none⟩ = some (.int .i64 ps[k].h0) ∧ w'.cell? ⟨wr.heap.size, 1, none⟩ = some (.int .i64 ps[k].h1) ∧ w'.cell? ⟨wr.heap.size, 2, none⟩ = some (.int .i64 ps[k].h2) ∧ w'.cell? ⟨wr.heap.size, 3, none⟩ = some (.int .i64 ps[k].h3) ∧ w'.cell? ⟨wr.heap.size, 4, none⟩ = some (.int .i64 ps[k].lo) ∧ w'.cell? ⟨wr.heap.size, 5, none⟩ = some (.int .i64 ps[k].hi)) :=
        fun w' h => ⟨h.cell q0 (by omega), h.cell q1 (by omega), h.cell q2 (by omega), h.cell q3 (by omega), h.cell q6 (by omega), h.cell p0 (by omega), h.cell p1 (by omega), h.cell p2 (by omega), h.cell p3 (by omega), h.cell p4 (by omega), h.cell p5 (by omega)⟩
      have HS := Lib.hid hS
      have KI := Lib.hid (From.refl W1)
      have KB := Lib.hid (FromB.refl (w.heap.size + 1) W1)
      have hro := hfr.s _ (at0_mem (l := ms[f].f.stay) (i := k) (by have := HL.out; omega))
      have hhr := Pt.h_range (hok ps[k] (List.getElem_mem _)) d
      have i1 : (0 : Int) ≤ (f : Int) := by omega
      have i2 : (f : Int) < (ms.length : Int) := by omega
      have i3 : (0 : Int) ≤ (k : Int) := by omega
      have i4 : (k : Int) < (ms[f].f.stay.length : Int) := by have := HL.out; omega
      have i5 : (k : Int) < 4 := by omega
      have i6 : (0 : Int) ≤ (d : Int) := by omega
      have i7 : (d : Int) < 4 := by omega
      have hl0 := (hok ps[k] (List.getElem_mem _)).l0
      have hl1 := (hok ps[k] (List.getElem_mem _)).l1
      have hl2 := (hok ps[k] (List.getElem_mem _)).l2
      have e1 : IntKind.i64.wrap (ps[k].h d - ps[k].hi) = ps[k].h d - ps[k].hi := IntWalk.i64_in _ (by omega)
      clear q0 q1 q2 q3 q4 q5 q6 p0 p1 p2 p3 p4 p5 hS g0 g1 g2 gs c0 hW
      go_region_held3 (fun w' => w'.cell? ⟨bf, of + f * 3, none⟩ = some (.slice (some ⟨bs, os, none⟩) ms[f].f.stay.length ms[f].c) ∧ w'.cell? ⟨bs, os + k, none⟩ = some (.int .i64 (at0 ms[f].f.stay k)) ∧ w'.cell? ⟨w.heap.size, 3 + k, none⟩ = some (.int .i64 d) ∧ w'.cell? ⟨wr.heap.size, d, none⟩ = some (.int .i64 (ps[k].h d)) ∧ w'.cell? ⟨w.heap.size, 1, none⟩ = some (.slice (some ⟨bf, of, none⟩) ms.length cf) ∧ w'.cell? ⟨wr.heap.size, 0, none⟩ = some (.int .i64 ps[k].h0) ∧ w'.cell? ⟨wr.heap.size, 1, none⟩ = some (.int .i64 ps[k].h1) ∧ w'.cell? ⟨wr.heap.size, 2, none⟩ = some (.int .i64 ps[k].h2) ∧ w'.cell? ⟨wr.heap.size, 3, none⟩ = some (.int .i64 ps[k].h3) ∧ w'.cell? ⟨wr.heap.size, 4, none⟩ = some (.int .i64 ps[k].lo) ∧ w'.cell? ⟨wr.heap.size, 5, none⟩ = some (.int .i64 ps[k].hi)) (first | with_reducible exact HS.out _ KB.out | with_reducible exact HS.out _ KB.out.drew | with_reducible exact HS.out _ (KB.out.set _ _))
        ((go_at_call 109; refine (mostDamp_any ps[k] _).mono ?_; rintro e u ⟨rfl, hbu⟩; have KI := Lib.hid (by first | with_reducible exact KI.out.drew.below hbu | with_reducible exact KI.out.below hbu); have KB := Lib.hid (by first | with_reducible exact KB.out.drew.below hbu | with_reducible exact KB.out.below hbu); have t0 := KI.out.cell (HQ.out.cell k (intsA_at4 (firstL_length _ _) (by omega))); have t1 := KI.out.free HQ.out k; clear hbu))
      all_goals
        clear t0 t1 e1
        have HV := Lib.hid (dry_val (d := ps[k].hi) hro.1 hro.2 hhr.1 hhr.2 (by omega))
        go_wp2_with fail
        go_roundw
        case rel =>
          rw [HV.out]
          have hv : at0 ms[f].f.stay k * max 0 (ps[k].h d - ps[k].hi) = dryF Pt.hi ps s ms[f].f.stay k := by rw [dryF_at hlt, dryAt, HD.out]
          rw [hv]
          refine ⟨k + 1, by omega, by go_num, (KI.out.row HR.out).set_other _ _ (by dsimp only; omega), ?_, (HB.out.trans (KI.out.b.mono HB.out.size)).setCell (by dsimp only; omega) _⟩
          have h := (KI.out.row HQ.out).set k (.int .i64 (dryF Pt.hi ps s ms[f].f.stay k))
          rw [intsA_set, firstL_set _ (by omega)] at h
          exact h
        case measure => simp [intOf]; omega
    · have e : k = ps.length := by omega
      subst e
      have HI := Lib.hid (ints_row r1)
      have HS := Lib.hid (dryD_sum s hok h4 hfr.s hfr.n (d := Pt.hi) (fun p hp => by have h1 := (hok p hp).l0; have h2 := (hok p hp).l1; omega))
      go_wp2_with (first | (refine (sum_any _ _ _ _ _ (firstL_length _ _) (by decide) HI.out).mono ?_; rintro e w1 ⟨rfl, rfl⟩))
      go_ret
      exact ⟨ret_int HS.out, hb⟩
set_option maxRecDepth 10000 in
set_option maxHeartbeats 800000 in
theorem driesLo_any (pp : Option Addr) (cp : Nat) (pf : Option Addr) (cf mb : Nat) (s : List Int) (ps : List Pt) (ms : List FrM) (w : World) (hp : PtsAt w pp ps) (hf : FrsAt w pf ms) (hok : ∀ p ∈ ps, PtOk p) (h4 : ps.length ≤ 4) (hs : SetOk s) (f : Nat) (hff : f < ms.length) (hfr : FrOk ps.length ms[f].f) :
    Calls Try.prog 99 #[.agg (pasA pp ps.length cp pf ms.length cf mb s), .int .i64 f, .func (.func 111) #[] #[]] w fun e w' => e = .returned (.int .i64 (dryD Pt.lo ps s ms[f].f.stay)) ∧ Below w.heap.size w w' := by
  have HP := Lib.hid hp
  have HF := Lib.hid hf
  have HL := Lib.hid hfr.n
  clear hp hf
  unfold pasA
  go_enter Try.func99, Try.ntmps99
  go_wp2
  go_loopw [15] (fun i wr => ∃ k : Nat, k ≤ ps.length ∧ i = .int .i64 k ∧ Row wr w.heap.size (pasA pp ps.length cp pf ms.length cf mb s) 81 ∧ Row wr (w.heap.size + 1) (intsA (firstL (dryF Pt.lo ps s ms[f].f.stay) k)) 62 ∧ Below w.heap.size w wr) (fun i _ => ps.length - (intOf i).toNat)
  case atStart => exact ⟨0, by omega, rfl, (Row.new _ _ _).alloc _, by rw [firstL_zero]; exact Row.new1 _ _ _ _, below_alloc2 _ _ _⟩
  case round =>
    obtain ⟨k, hk, rfl, r0, r1, hb⟩ := hrel
    by_cases hlt : k < ps.length
    · obtain ⟨d, hd⟩ : ∃ d : Nat, at0 s k = d := ⟨(at0 s k).toNat, by have := hs.at k; omega⟩
      have hd3 : d ≤ 3 := by have := hs.at k; omega
      obtain ⟨b, o, rfl, q0, q1, q2, q3, q4, q5⟩ := (HP.out.below hb).row hlt
      obtain ⟨bf, of, rfl, g0, g1, g2, gi⟩ := (HF.out.below hb) f hff
      obtain ⟨bs, os, es, gs⟩ := gi k (by rw [HL.out]; exact hlt)
      rw [es] at g0
      have c0 := r0.cell 0 (v := .slice (some ⟨b, o, none⟩) ps.length cp) rfl
      have HR := Lib.hid r0
      have HQ := Lib.hid r1
      have HB := Lib.hid hb
      have HD := Lib.hid hd
      have HES := Lib.hid es
      have hz := r1.lt
      have hbf : bf < w.heap.size := by obtain ⟨_, _, e, h, _⟩ := HF.out f hff; cases e; exact cell_block h
      have hbs : bs < wr.heap.size := cell_block gs
      have hbs2 : bs < w.heap.size := by obtain ⟨_, _, _, _, _, _, h⟩ := HF.out f hff; obtain ⟨_, _, e, h2⟩ := h k (by rw [HL.out]; exact hlt); rw [es] at e; cases e; exact cell_block h2
      clear r0 r1 hb hd es gi
      go_wp2
      have hW : From wr (wr.alloc (.cells ps[k].A 112)) := ⟨below_alloc _ _⟩
      have HA := Lib.hid (Row.new wr ps[k].A 112)
      have HR := Lib.hid (hW.row HR.out)
      have HQ := Lib.hid (hW.row HQ.out)
      have HB := Lib.hid (HB.out.trans (hW.b.mono HB.out.size))
      have q0 := hW.cell g0
      have q1 := hW.cell gs
      have q2 := HR.out.cell (3 + k) (pasA_at _ _ _ _ _ _ _ s (by omega : k < 4))
      rw [HD.out] at q2
      have q3 := HA.out.cell d (Pt.A_at _ hd3)
      have q4 := HQ.out.cell k (intsA_at4 (firstL_length _ _) (by omega))
      have q5 := HQ.out.free k
      have q6 := HR.out.cell 1 (v := .slice (some ⟨bf, of, none⟩) ms.length cf) rfl
      have p0 := HA.out.cell 0 (v := .int .i64 ps[k].h0) rfl
      have p1 := HA.out.cell 1 (v := .int .i64 ps[k].h1) rfl
      have p2 := HA.out.cell 2 (v := .int .i64 ps[k].h2) rfl
      have p3 := HA.out.cell 3 (v := .int .i64 ps[k].h3) rfl
      have p4 := HA.out.cell 4 (v := .int .i64 ps[k].lo) rfl
      have p5 := HA.out.cell 5 (v := .int .i64 ps[k].hi) rfl
      change Code.wp _ _ _ _ (wr.alloc (.cells ps[k].A 112))
      generalize wr.alloc (.cells ps[k].A 112) = W1 at *
      have hS : ∀ w', FromB (w.heap.size + 1) W1 w' → (w'.cell? ⟨bf, of + f * 3, none⟩ = some (.slice (some ⟨bs, os, none⟩) ms[f].f.stay.length ms[f].c) ∧ w'.cell? ⟨bs, os + k, none⟩ = some (.int .i64 (at0 ms[f].f.stay k)) ∧ w'.cell? ⟨w.heap.size, 3 + k, none⟩ = some (.int .i64 d) ∧ w'.cell? ⟨wr.heap.size, d, none⟩ = some (.int .i64 (ps[k].h d)) ∧ w'.cell? ⟨w.heap.size, 1, none⟩ = some (.slice (some ⟨bf, of, none⟩) ms.length cf) ∧ w'.cell? ⟨wr.heap.size, 0, none⟩ = some (.int .i64 ps[k].h0) ∧ w'.cell? ⟨wr.heap.size, 1, none⟩ = some (.int .i64 ps[k].h1) ∧ w'.cell? ⟨wr.heap.size, 2, none⟩ = some (.int .i64 ps[k].h2) ∧ w'.cell? ⟨wr.heap.size, 3, none⟩ = some (.int .i64 ps[k].h3) ∧ w'.cell? ⟨wr.heap.size, 4, none⟩ = some (.int .i64 ps[k].lo) ∧ w'.cell? ⟨wr.heap.size, 5, none⟩ = some (.int .i64 ps[k].hi)) :=
        fun w' h => ⟨h.cell q0 (by omega), h.cell q1 (by omega), h.cell q2 (by omega), h.cell q3 (by omega), h.cell q6 (by omega), h.cell p0 (by omega), h.cell p1 (by omega), h.cell p2 (by omega), h.cell p3 (by omega), h.cell p4 (by omega), h.cell p5 (by omega)⟩
      have HS := Lib.hid hS
      have KI := Lib.hid (From.refl W1)
      have KB := Lib.hid (FromB.refl (w.heap.size + 1) W1)
      have hro := hfr.s _ (at0_mem (l := ms[f].f.stay) (i := k) (by have := HL.out; omega))
      have hhr := Pt.h_range (hok ps[k] (List.getElem_mem _)) d
      have i1 : (0 : Int) ≤ (f : Int) := by omega
      have i2 : (f : Int) < (ms.length : Int) := by omega
      have i3 : (0 : Int) ≤ (k : Int) := by omega
      have i4 : (k : Int) < (ms[f].f.stay.length : Int) := by have := HL.out; omega
      have i5 : (k : Int) < 4 := by omega
      have i6 : (0 : Int) ≤ (d : Int) := by omega
      have i7 : (d : Int) < 4 := by omega
      have hl0 := (hok ps[k] (List.getElem_mem _)).l0
      have hl1 := (hok ps[k] (List.getElem_mem _)).l1
      have hl2 := (hok ps[k] (List.getElem_mem _)).l2
      have e1 : IntKind.i64.wrap (ps[k].h d - ps[k].lo) = ps[k].h d - ps[k].lo := IntWalk.i64_in _ (by omega)
      clear q0 q1 q2 q3 q4 q5 q6 p0 p1 p2 p3 p4 p5 hS g0 g1 g2 gs c0 hW
      go_region_held3 (fun w' => w'.cell? ⟨bf, of + f * 3, none⟩ = some (.slice (some ⟨bs, os, none⟩) ms[f].f.stay.length ms[f].c) ∧ w'.cell? ⟨bs, os + k, none⟩ = some (.int .i64 (at0 ms[f].f.stay k)) ∧ w'.cell? ⟨w.heap.size, 3 + k, none⟩ = some (.int .i64 d) ∧ w'.cell? ⟨wr.heap.size, d, none⟩ = some (.int .i64 (ps[k].h d)) ∧ w'.cell? ⟨w.heap.size, 1, none⟩ = some (.slice (some ⟨bf, of, none⟩) ms.length cf) ∧ w'.cell? ⟨wr.heap.size, 0, none⟩ = some (.int .i64 ps[k].h0) ∧ w'.cell? ⟨wr.heap.size, 1, none⟩ = some (.int .i64 ps[k].h1) ∧ w'.cell? ⟨wr.heap.size, 2, none⟩ = some (.int .i64 ps[k].h2) ∧ w'.cell? ⟨wr.heap.size, 3, none⟩ = some (.int .i64 ps[k].h3) ∧ w'.cell? ⟨wr.heap.size, 4, none⟩ = some (.int .i64 ps[k].lo) ∧ w'.cell? ⟨wr.heap.size, 5, none⟩ = some (.int .i64 ps[k].hi)) (first | with_reducible exact HS.out _ KB.out | with_reducible exact HS.out _ KB.out.drew | with_reducible exact HS.out _ (KB.out.set _ _))
        ((go_at_call 111; refine (least_any ps[k] _).mono ?_; rintro e u ⟨rfl, hbu⟩; have KI := Lib.hid (by first | with_reducible exact KI.out.drew.below hbu | with_reducible exact KI.out.below hbu); have KB := Lib.hid (by first | with_reducible exact KB.out.drew.below hbu | with_reducible exact KB.out.below hbu); have t0 := KI.out.cell (HQ.out.cell k (intsA_at4 (firstL_length _ _) (by omega))); have t1 := KI.out.free HQ.out k; clear hbu))
      all_goals
        clear t0 t1 e1
        have HV := Lib.hid (dry_val (d := ps[k].lo) hro.1 hro.2 hhr.1 hhr.2 (by omega))
        go_wp2_with fail
        go_roundw
        case rel =>
          rw [HV.out]
          have hv : at0 ms[f].f.stay k * max 0 (ps[k].h d - ps[k].lo) = dryF Pt.lo ps s ms[f].f.stay k := by rw [dryF_at hlt, dryAt, HD.out]
          rw [hv]
          refine ⟨k + 1, by omega, by go_num, (KI.out.row HR.out).set_other _ _ (by dsimp only; omega), ?_, (HB.out.trans (KI.out.b.mono HB.out.size)).setCell (by dsimp only; omega) _⟩
          have h := (KI.out.row HQ.out).set k (.int .i64 (dryF Pt.lo ps s ms[f].f.stay k))
          rw [intsA_set, firstL_set _ (by omega)] at h
          exact h
        case measure => simp [intOf]; omega
    · have e : k = ps.length := by omega
      subst e
      have HI := Lib.hid (ints_row r1)
      have HS := Lib.hid (dryD_sum s hok h4 hfr.s hfr.n (d := Pt.lo) (fun p hp => by have h1 := (hok p hp).l0; have h2 := (hok p hp).l1; omega))
      go_wp2_with (first | (refine (sum_any _ _ _ _ _ (firstL_length _ _) (by decide) HI.out).mono ?_; rintro e w1 ⟨rfl, rfl⟩))
      go_ret
      exact ⟨ret_int HS.out, hb⟩
end Go.Proofs.Ytfppcmechfjpoaa
