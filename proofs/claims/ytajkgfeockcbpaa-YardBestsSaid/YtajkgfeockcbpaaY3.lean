/- Layer 6: a yard in memory; the map of its distances. -/
import Derived.Test.YtajkgfeockcbpaaY2
import Derived.Test.YtajkgfeockcbpaaLX
import Derived.Test.YtajkgfeockcbpaaRGX
import Derived.Maps.Keyed
import Derived.Maps.Own
import Derived.Maps.OwnOps
import Derived.Maps.OwnSet
import Derived.Maps.Views
import Derived.DeepKeys4
namespace Go.Proofs.Ytajkgfeockcbpaa
open Go.RowKit Go.Maps
attribute [local go_sem] Oper.semAt_some

theorem I64_of {n : Int} (h0 : -1000000000 ≤ n) (h1 : n ≤ 1000000000) : I64 n := by unfold I64; omega
/-- Such spots lie in memory. -/
def SpotsAt (w : World) (p : Option Addr) (l : List (Int × Int)) : Prop :=
  ∀ i (h : i < l.length), ∃ b o, p = some ⟨b, o, none⟩ ∧ w.cell? ⟨b, o + i * 2, none⟩ = some (.int .i64 l[i].1) ∧ w.cell? ⟨b, o + i * 2 + 1, none⟩ = some (.int .i64 l[i].2)
theorem SpotsAt.below {w w' : World} {p : Option Addr} {l : List (Int × Int)} (h : SpotsAt w p l) (hb : Below w.heap.size w w') : SpotsAt w' p l := by
  intro i hi
  obtain ⟨b, o, hp, h0, h1⟩ := h i hi
  have hlt : b < w.heap.size := cell_block h0
  have key : ∀ k, w'.cell? ⟨b, k, none⟩ = w.cell? ⟨b, k, none⟩ := fun k => (bcell hb).1 b _ hlt
  exact ⟨b, o, hp, by rw [key]; exact h0, by rw [key]; exact h1⟩
theorem SpotsAt.nil (w : World) (p : Option Addr) : SpotsAt w p [] := fun i hi => by simp at hi
/-- Such lots lie in memory. -/
def LotsAt (w : World) (p : Option Addr) (l : List Lot) : Prop :=
  ∀ i (h : i < l.length), ∃ b o, p = some ⟨b, o, none⟩ ∧ w.cell? ⟨b, o + i * 4, none⟩ = some (.int .i64 l[i].sp.1) ∧ w.cell? ⟨b, o + i * 4 + 1, none⟩ = some (.int .i64 l[i].sp.2) ∧ w.cell? ⟨b, o + i * 4 + 2, none⟩ = some (.int .i64 l[i].lo) ∧ w.cell? ⟨b, o + i * 4 + 3, none⟩ = some (.int .i64 l[i].hi)
theorem LotsAt.below {w w' : World} {p : Option Addr} {l : List Lot} (h : LotsAt w p l) (hb : Below w.heap.size w w') : LotsAt w' p l := by
  intro i hi
  obtain ⟨b, o, hp, h0, h1, h2, h3⟩ := h i hi
  have hlt : b < w.heap.size := cell_block h0
  have key : ∀ k, w'.cell? ⟨b, k, none⟩ = w.cell? ⟨b, k, none⟩ := fun k => (bcell hb).1 b _ hlt
  exact ⟨b, o, hp, by rw [key]; exact h0, by rw [key]; exact h1, by rw [key]; exact h2, by rw [key]; exact h3⟩
theorem LotsAt.at {w : World} {p : Option Addr} {b : Yb} (h : LotsAt w p b.lots) {i : Nat} (hi : i < b.lots.length) : ∃ q o, p = some ⟨q, o, none⟩ ∧ w.cell? ⟨q, o + i * 4, none⟩ = some (.int .i64 (lotAt b i).sp.1) ∧ w.cell? ⟨q, o + i * 4 + 1, none⟩ = some (.int .i64 (lotAt b i).sp.2) ∧ w.cell? ⟨q, o + i * 4 + 2, none⟩ = some (.int .i64 (lotAt b i).lo) ∧ w.cell? ⟨q, o + i * 4 + 3, none⟩ = some (.int .i64 (lotAt b i).hi) := by
  rw [lotAt_lt hi]
  exact h i hi
/-- Where a yard's lists lie. -/
structure Yp where
  pl : Option Addr
  cl : Nat
  pd : Option Addr
  cd : Nat
  pb : Option Addr
  cb : Nat
  ps : Option Addr
  cs : Nat
abbrev ybA (b : Yb) (P : Yp) : Array Value := #[.slice P.pl b.lots.length P.cl, .slice P.pd b.doors.length P.cd, .slice P.pb b.buckets.length P.cb, .slice P.ps b.spare.length P.cs, .int .i64 b.apart, .int .i64 b.door, .int .i64 b.bucket, .int .i64 b.err]
/-- A yard with the map of its distances. -/
abbrev ykA (b : Yb) (P : Yp) (mb : Nat) : Array Value := #[.slice P.pl b.lots.length P.cl, .slice P.pd b.doors.length P.cd, .slice P.pb b.buckets.length P.cb, .slice P.ps b.spare.length P.cs, .int .i64 b.apart, .int .i64 b.door, .int .i64 b.bucket, .int .i64 b.err, .map (some mb)]
abbrev idE (k : Bool) : Nat := match k with
  | true => 103
  | false => 102
abbrev idO (k : Bool) : Nat := match k with
  | true => 102
  | false => 103
/-- A truth at an end: the worst, or the kindest. -/
abbrev trA (b : Yb) (P : Yp) (mb : Nat) (k : Bool) : Array Value := #[.slice P.pl b.lots.length P.cl, .slice P.pd b.doors.length P.cd, .slice P.pb b.buckets.length P.cb, .slice P.ps b.spare.length P.cs, .int .i64 b.apart, .int .i64 b.door, .int .i64 b.bucket, .int .i64 b.err, .map (some mb), .func (.func (idE k)) #[] #[], .func (.func (idO k)) #[] #[], .func (.func (idE k)) #[] #[]]
structure YbAt (w : World) (P : Yp) (b : Yb) : Prop where
  l : LotsAt w P.pl b.lots
  d : SpotsAt w P.pd b.doors
  u : SpotsAt w P.pb b.buckets
  s : SpotsAt w P.ps b.spare
  n1 : b.lots.length < 2 ^ 61
  n2 : b.doors.length < 2 ^ 61
  n3 : b.buckets.length < 2 ^ 61
  n4 : b.spare.length < 2 ^ 61
  c1 : b.lots.length ≤ P.cl
  c2 : b.doors.length ≤ P.cd
  c3 : b.buckets.length ≤ P.cb
  c4 : b.spare.length ≤ P.cs
theorem YbAt.below {w w' : World} {P : Yp} {b : Yb} (h : YbAt w P b) (hb : Below w.heap.size w w') : YbAt w' P b := ⟨h.l.below hb, h.d.below hb, h.u.below hb, h.s.below hb, h.n1, h.n2, h.n3, h.n4, h.c1, h.c2, h.c3, h.c4⟩

theorem Try.laidOut' : laidOutB Try.prog = true := by kernel_rfl
theorem wayKeyed : Keyed Try.prog 127 :=
  Keyed.of_law (deep_law_laid Try.laidOut' (m := 5) (by decide) (by decide +kernel) (by kernel_rfl) (by kernel_rfl))
def klit (s t : Int × Int) : Lit := .string (keyBytes [.int .i64 s.1, .int .i64 s.2, .int .i64 t.1, .int .i64 t.2])
theorem types_some3 : ∃ m, Try.prog.types.size + 1 = m + 1 + 1 + 1 := ⟨Try.prog.types.size - 2, by
  have : 2 ≤ Try.prog.types.size := by decide +kernel
  omega⟩
theorem keyLits_int {P : Program} {t : TypeId} (hu : P.underlying t = some (.int .i64)) (d : Nat) (a : Int) (h : (Lit.int .i64 a).wf = true) : P.keyLits (d + 1) t [.int .i64 a] = some [.int .i64 a] := by
  simp [Program.keyLits, hu, h]
theorem lits_spot (m : Nat) {a b : Int} (h1 : (Lit.int .i64 a).wf = true) (h2 : (Lit.int .i64 b).wf = true) : Try.prog.keyLits (m + 1 + 1) 62 [.int .i64 a, .int .i64 b] = some [.int .i64 a, .int .i64 b] := by
  have c3 : Try.prog.cellsOf 3 = 1 := by kernel_rfl
  have c5 : Try.prog.cellsOf 62 = 2 := by kernel_rfl
  have i2 := keyLits_int Try.underlying3 m a h1
  have i3 := keyLits_int Try.underlying3 m b h2
  generalize hq : m + 1 = q
  rw [hq] at i2 i3
  simp [Program.keyLits, Try.underlying62, c3, c5, i2, i3]
theorem lits_way (m : Nat) {a b c d : Int} (h1 : (Lit.int .i64 a).wf = true) (h2 : (Lit.int .i64 b).wf = true) (h3 : (Lit.int .i64 c).wf = true) (h4 : (Lit.int .i64 d).wf = true) : Try.prog.keyLits (m + 1 + 1 + 1) 127 [.int .i64 a, .int .i64 b, .int .i64 c, .int .i64 d] = some [.int .i64 a, .int .i64 b, .int .i64 c, .int .i64 d] := by
  have c3 : Try.prog.cellsOf 62 = 2 := by kernel_rfl
  have c5 : Try.prog.cellsOf 127 = 4 := by kernel_rfl
  have i2 := lits_spot m h1 h2
  have i3 := lits_spot m h3 h4
  generalize hq : m + 1 + 1 = q
  rw [hq] at i2 i3
  simp [Program.keyLits, Try.underlying127, c3, c5, i2, i3]
theorem form_way (a b c d : Int) : Value.formed Try.prog 127 (.agg #[.int .i64 a, .int .i64 b, .int .i64 c, .int .i64 d]) = true := by
  have c : Try.prog.cellsOf 127 = 4 := by kernel_rfl
  simp [Value.formed, c, Try.underlying127]
theorem type_way : Try.prog.keyType 127 = true := by kernel_rfl
theorem wf_I64 {n : Int} (h : I64 n) : (Lit.int .i64 n).wf = true := WalkArith.wf_i64 (by unfold I64 at h; omega)
theorem spB_wf {s : Int × Int} (h : spB s = true) : (Lit.int .i64 s.1).wf = true ∧ (Lit.int .i64 s.2).wf = true := by
  rw [spB_iff] at h
  exact ⟨wf_I64 (I64_of (by omega) (by omega)), wf_I64 (I64_of (by omega) (by omega))⟩
theorem key_way {s t : Int × Int} (hs : spB s = true) (ht : spB t = true) : keyOf Try.prog 127 (.agg #[.int .i64 s.1, .int .i64 s.2, .int .i64 t.1, .int .i64 t.2]) = some (klit s t) := by
  obtain ⟨m, hm⟩ := types_some3
  unfold keyOf klit
  rw [hm]
  simp only [Try.underlying127, type_way, form_way, Bool.and_self, if_true, Value.cells, lits_way m (spB_wf hs).1 (spB_wf hs).2 (spB_wf ht).1 (spB_wf ht).2, Option.map_some]
theorem klit_inj {s t s' t' : Int × Int} (hs : spB s = true) (ht : spB t = true) (hs' : spB s' = true) (ht' : spB t' = true) (h : klit s t = klit s' t') : s = s' ∧ t = t' := by
  have := wayKeyed.inj (key_way hs ht) (by rw [h]; exact key_way hs' ht')
  simp only [Value.agg.injEq, Array.mk.injEq, List.cons.injEq, Value.int.injEq, true_and, and_true] at this
  exact ⟨Prod.ext this.1 this.2.1, Prod.ext this.2.2.1 this.2.2.2⟩
/-- What a span in a map reads as. -/
def spanR (v : Value) : Option (DataW (Int × Int) × List MemPlace) := match v with
  | .agg ⟨[.int .i64 a, .int .i64 b]⟩ => some (.held (a, b), [])
  | _ => none
theorem spanR_mk (a b : Int) : spanR (.agg #[.int .i64 a, .int .i64 b]) = some (.held (a, b), []) := rfl
theorem spanR_inv {v : Value} {a b : Int} {ps : List MemPlace} (h : spanR v = some (.held (a, b), ps)) : v = .agg #[.int .i64 a, .int .i64 b] := by
  unfold spanR at h
  split at h
  · simp only [Option.some.injEq, Prod.mk.injEq, DataW.held.injEq] at h
    obtain ⟨⟨rfl, rfl⟩, _⟩ := h
    rfl
  · cases h
/-- The map holds between what some distances lie. -/
def FarAt (w : World) (mb n : Nat) (F : Int × Int → Int × Int → Bool) (e : Int) : Prop :=
  ∃ D : DataW (Int × Int), w.ownsMap Try.prog 127 spanR mb n D ∧ IsMap D ∧ ∀ s t, spB s = true → spB t = true → F s t = true → ∀ z, D.atKey (klit s t) z = .held (farLo e s t, farHi e s t)
section
variable {w w' : World} {mb n : Nat} {F : Int × Int → Int × Int → Bool} {e : Int}
theorem FarAt.made (w : World) (e : Int) : FarAt (w.alloc (.map #[] 0)) w.heap.size 0 (fun _ _ => false) e :=
  ⟨.map [], World.ownsMap_made _ _ _ _, isMap_empty, fun _ _ _ _ h => (by cases h)⟩
theorem FarAt.lt (h : FarAt w mb n F e) : mb < w.heap.size := let ⟨_, h, _⟩ := h; h.lt
theorem FarAt.of_same (h : FarAt w mb n F e) (hs : w'.heap[mb]? = w.heap[mb]?) : FarAt w' mb n F e := by
  obtain ⟨D, ⟨es, clock, hb, F, hn, hD⟩, r⟩ := h
  exact ⟨D, ⟨es, clock, hs.trans hb, F, hn, hD⟩, r⟩
theorem FarAt.below (h : FarAt w mb n F e) (hb : Below w.heap.size w w') : FarAt w' mb n F e := h.of_same (hb.block _ h.lt)
theorem FarAt.congr {F' : Int × Int → Int × Int → Bool} (h : FarAt w mb n F e) (hF : ∀ s t, F' s t = true → F s t = true) : FarAt w mb n F' e := by
  obtain ⟨D, h1, h2, h3⟩ := h
  exact ⟨D, h1, h2, fun s t hs ht hf => h3 s t hs ht (hF s t hf)⟩
theorem FarAt.mono {n' : Nat} (h : FarAt w mb n F e) (hn : n ≤ n') : FarAt w mb n' F e := let ⟨D, h1, h2⟩ := h; ⟨D, h1.mono hn, h2⟩
theorem FarAt.look (h : FarAt w mb n F e) {s t : Int × Int} (hs : spB s = true) (ht : spB t = true) (hf : F s t = true) :
    (Instr.lookup 81 (.map (some mb)) (.agg #[.int .i64 s.1, .int .i64 s.2, .int .i64 t.1, .int .i64 t.2]) false).run Try.prog w = .ok (.agg #[.int .i64 (farLo e s t), .int .i64 (farHi e s t)]) w := by
  obtain ⟨D, hown, hm, hat⟩ := h
  have hz : (zeroValue 40).run Try.prog w = .ok (.agg #[.int .i64 0, .int .i64 0]) w := Try.zeroValue40 w
  obtain ⟨v, ps, hrun, hv⟩ := hown.lookup wayKeyed Try.underlying81 hz (spanR_mk 0 0) (key_way hs ht)
  rw [hat s t hs ht hf] at hv
  rw [spanR_inv hv] at hrun
  exact hrun
theorem FarAt.put (h : FarAt w mb n F e) (hn : n < maxLen) {s t : Int × Int} (hs : spB s = true) (ht : spB t = true) :
    ∃ w', (Instr.mapUpdate 81 (.map (some mb)) (.agg #[.int .i64 s.1, .int .i64 s.2, .int .i64 t.1, .int .i64 t.2]) (.agg #[.int .i64 (farLo e s t), .int .i64 (farHi e s t)])).run Try.prog w = .ok () w' ∧ FarAt w' mb (n + 1) (fun a c => F a c || (decide (a = s) && decide (c = t))) e ∧ w.grownBy w' (some mb) := by
  obtain ⟨D, hown, hm, hat⟩ := h
  obtain ⟨w', hrun, hown', hg⟩ := hown.update wayKeyed Try.underlying81 hn (key_way hs ht) (spanR_mk (farLo e s t) (farHi e s t))
  refine ⟨w', hrun, ⟨_, hown', hm.put _ _, ?_⟩, hg⟩
  intro a c ha hc hf z
  by_cases he : klit a c = klit s t
  · obtain ⟨rfl, rfl⟩ := klit_inj ha hc hs ht he
    exact atKey_put_same hm (wayKeyed.key (key_way ha hc)) _ _
  · have hne : (decide (a = s) && decide (c = t)) = false := by
      rw [Bool.eq_false_iff]
      intro h
      simp at h
      obtain ⟨rfl, rfl⟩ := h
      exact he rfl
    have hf : (F a c || (decide (a = s) && decide (c = t))) = true := hf
    rw [hne, Bool.or_false] at hf
    rw [atKey_put_other he]
    exact hat a c ha hc hf z
end
/-- The spots of all lots; of all that counts. -/
def lotSp (b : Yb) : List (Int × Int) := b.lots.map (·.sp)
def endSp (b : Yb) : List (Int × Int) := b.doors ++ b.buckets ++ lotSp b
def keyB (b : Yb) (s t : Int × Int) : Bool := (lotSp b).contains s && (endSp b).contains t
/-- A yard in the calculation, in memory. -/
structure YkAt (w : World) (P : Yp) (mb : Nat) (b : Yb) : Prop where
  y : YbAt w P b
  ok : YbOk b
  m : FarAt w mb 1000 (keyB b) b.err
theorem YkAt.below {w w' : World} {P : Yp} {mb : Nat} {b : Yb} (h : YkAt w P mb b) (hb : Below w.heap.size w w') : YkAt w' P mb b := ⟨h.y.below hb, h.ok, h.m.below hb⟩
theorem lotSp_at {b : Yb} {i : Nat} (h : i < b.lots.length) : (lotAt b i).sp ∈ lotSp b := List.mem_map.2 ⟨_, lotAt_mem h, rfl⟩
theorem keyB_lots {b : Yb} {i j : Nat} (hi : i < b.lots.length) (hj : j < b.lots.length) : keyB b (lotAt b i).sp (lotAt b j).sp = true := by
  simp [keyB, endSp, lotSp_at hi, lotSp_at hj]
theorem keyB_door {b : Yb} {i : Nat} {t : Int × Int} (hi : i < b.lots.length) (ht : t ∈ b.doors ∨ t ∈ b.buckets) : keyB b (lotAt b i).sp t = true := by
  rcases ht with ht | ht <;> simp [keyB, endSp, lotSp_at hi, ht]
theorem lotAt_sp {b : Yb} (hb : YbOk b) {i : Nat} (h : i < b.lots.length) : spB (lotAt b i).sp = true := (lotB_iff.1 (lotAt_ok hb h)).1
/-- A lookup within a region that only reads. -/
theorem quiet_lookup {P : Program} {o : Oper} {a : Act} {C : World → Prop} {K : Act → Prop} (ty : TypeId) (x y : Operand) (cm : Bool) (ho : o.op = .lookup ty x y cm) (mb : Nat) (ks : Array Value) (hx : a.eval x = .map (some mb)) (hy : a.eval y = .agg ks) (v : Value)
    (hr : ∀ w, C w → (Instr.lookup ty (.map (some mb)) (.agg ks) cm).run P w = .ok v w) (hk : K (a.put o.dst v)) : o.quiet P a C K :=
  ⟨v, fun w hw => by
    unfold Oper.quietAt execOp
    simp only [ho, hx, hy, Sem.run_bind, Sem.run_pure, hr w hw, Result.andThen_ok]
    exact ⟨rfl, rfl⟩, hk⟩
end Go.Proofs.Ytajkgfeockcbpaa
