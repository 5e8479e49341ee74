/- The walks of layer 5: all plans, as an iterator. -/
import Derived.Test.YticfcdbfplfmlaaGreatFCX
import Derived.Test.YticfcdbfplfmlaaGreatFBX
import Derived.Test.YticfcdbfplfmlaaGreatFAX
import Derived.IntWalk
namespace Go.Proofs.YticfcdbfplfmlaaGreat
open Go.RowKit Go.Maps
attribute [local go_sem] Oper.semAt_some

theorem plans_any (b : Bf) (p : Option Addr) (c mb : Nat) (w : World) : Calls Tryz.prog 69 #[.agg (bkA b p c mb)] w fun e w' => e = .returned (.func (.func 93) #[] #[.pointer (some ⟨w.heap.size, 0, none⟩)]) ∧ w.alloc (.cells (bkA b p c mb) 92) = w' := by
  go_enter Tryz.func69, Tryz.ntmps69
  go_wp2
  go_ret
  exact ⟨rfl, rfl⟩
/-- What the iterator of all plans returns. -/
def IterPost (M : Nat → Prop) (J : Nat → (Nat → Prop) → World → Prop) (Jx : (Nat → Prop) → World → Prop) (n : Nat) (W : World) (e : Ending) (B : World) : Prop :=
  (∃ v, e = .returned v) ∧ KeepsBut M W B ∧ ∃ O, (∀ m, O m → W.heap.size ≤ m) ∧ (J n O B ∨ Jx O B)
set_option maxRecDepth 100000 in
set_option maxHeartbeats 3200000 in
theorem plans_iter (b : Bf) (p : Option Addr) (c mb : Nat) (w0 : World) (hB : BkF w0 p c mb b) (cb nn : Nat) (W : World) (hW0 : Below w0.heap.size w0 W) (hr : Row W cb (bkA b p c mb) 92) (hnn : nn ≤ W.heap.size) :
    IterO Tryz.prog 93 #[.pointer (some ⟨cb, 0, none⟩)] (fun m => m < w0.heap.size ∨ m = cb) (plansB b).length (PlanX b nn) W := by
  intro li M J Jx hM hJ hJx hY h0
  show Calls _ _ #[.func (.yield li) #[] #[], .pointer (some ⟨cb, 0, none⟩)] W (IterPost M J Jx (plansB b).length W)
  have hn8 := hB.ok.n8
  have hzb := hr.lt
  have hMb : ¬ M cb := fun h => (hM _ h).2 (.inr rfl)
  have HM := Lib.hid hM
  have HJ := Lib.hid hJ
  have HB := Lib.hid hB
  obtain ⟨A0, hA0⟩ : ∃ A0, A0 = (W.alloc (.cells #[.func (.yield li) #[] #[]] 155)).alloc (.cells #[.func (.func 94) #[] #[.pointer (some ⟨W.heap.size, 0, none⟩), .pointer (some ⟨cb, 0, none⟩), .pointer (some ⟨W.heap.size + 1, 0, none⟩)]] 186) := ⟨_, rfl⟩
  have HA0 := Lib.hid hA0
  have hbA : Below W.heap.size W A0 := by rw [hA0]; exact below_alloc2 _ _ _
  have hzA := hbA.size
  have hCA : Caps W.heap.size cb (W.heap.size + 1) li b p c mb A0 := by
    rw [hA0]
    exact ⟨(Row.new _ _ _).alloc _, (hr.alloc _).alloc _, Row.new1 _ _ _ _⟩
  have HCA := Lib.hid hCA
  have HBA := Lib.hid hbA
  obtain ⟨g, hg, hgg⟩ := leftR_lit 0 b.hs.length
  have HALL := Lib.hid (fun w' => (by have h := all_any b p c mb hn8 w'; rw [leftR_all, hg] at h; exact h : Calls Tryz.prog 97 #[.agg (bkA b p c mb)] w' fun e w'' => e = .returned (.agg #[.bool (g 0), .bool (g 1), .bool (g 2), .bool (g 3), .bool (g 4), .bool (g 5), .bool (g 6), .bool (g 7)]) ∧ Below w'.heap.size w' w''))
  have HCUT := Lib.hid (fun (u : World) (hu : Below A0.heap.size A0 u) => (by
    have hzu := hu.size
    have hbu : Below W.heap.size W u := hbA.trans (hu.mono hzA)
    have h := cut_any b p c mb w0 W hB W.heap.size cb (W.heap.size + 1) li M J Jx hW0 hM (Nat.le_refl _) (by omega) hzb hJ hJx
      (fun k x O A h1 h2 h3 h4 h5 => hY k x O A h1 (h2.mono hnn) h3 h4 h5) (b.hs.length + 1) 0 [] none 0 0 [] [] (fun _ => False) u g (by omega) (by omega) (by simp) (by simp) (fun _ => rfl) (fun i hi => by simp at hi) (fun m o hm => by simp at hm)
      (by simp [plansB]) rfl (fun m hm => hm.elim) (hJ 0 _ _ _ _ h0 (.of_below hbu) (fun m h => h) (fun m h => .inl h)) (.of_below hbu) (hCA.keeps (KeepsBut.of_below (M := fun _ => False) hu) id id id) id id hgg
    rw [show 0 + (plansL (grN b) b.hs.length 0).length = (plansB b).length by unfold plansB; omega] at h
    exact h : Calls Tryz.prog 94 #[.slice none 0 0, .int .i64 0, .agg #[.bool (g 0), .bool (g 1), .bool (g 2), .bool (g 3), .bool (g 4), .bool (g 5), .bool (g 6), .bool (g 7)], .pointer (some ⟨W.heap.size, 0, none⟩), .pointer (some ⟨cb, 0, none⟩), .pointer (some ⟨W.heap.size + 1, 0, none⟩)] u (CutPost M J Jx (fun _ => False) (plansB b).length u)))
  clear hM hJ hJx hY h0 hr hB hg hgg hA0 hCA hbA
  go_enter Tryz.func93, Tryz.ntmps93
  go_upto_region 3 with (fail)
  rw [← HA0.out]
  have RC := Lib.hid (show Caps W.heap.size cb (W.heap.size + 1) li b p c mb A0.drew from ⟨HCA.out.y, HCA.out.k, HCA.out.f⟩)
  have KA := Lib.hid (show Below A0.heap.size A0 A0.drew from (Below.refl _ _).drew)
  have hMy : ¬ M W.heap.size := fun h => by have := (HM.out _ h).1; omega
  have hMc : ¬ M (W.heap.size + 1) := fun h => by have := (HM.out _ h).1; omega
  go_region_held3 (fun w' => w'.cell? ⟨cb, 0, none⟩ = some (.int .i64 b.pr) ∧ w'.cell? ⟨cb, 1, none⟩ = some (.int .i64 b.le) ∧ w'.cell? ⟨cb, 2, none⟩ = some (.int .i64 b.mo) ∧ w'.cell? ⟨cb, 3, none⟩ = some (.int .i64 b.gr) ∧ w'.cell? ⟨cb, 4, none⟩ = some (.slice p b.hs.length c) ∧ w'.cell? ⟨cb, 5, none⟩ = some (.map (some mb)) ∧ w'.cell? ⟨W.heap.size + 1, 0, none⟩ = some (.func (.func 94) #[] #[.pointer (some ⟨W.heap.size, 0, none⟩), .pointer (some ⟨cb, 0, none⟩), .pointer (some ⟨W.heap.size + 1, 0, none⟩)]))
    (exact ⟨RC.out.k.cell 0 rfl, RC.out.k.cell 1 rfl, RC.out.k.cell 2 rfl, RC.out.k.cell 3 rfl, RC.out.k.cell 4 rfl, RC.out.k.cell 5 rfl, RC.out.f.cell 0 rfl⟩)
    (first
      | (go_at_call 97; (with_reducible refine (HALL.out _).mono ?_); rintro e u ⟨rfl, hbu⟩; have KA := Lib.hid (KA.out.trans (hbu.mono KA.out.size)); have RC := Lib.hid (RC.out.keeps (KeepsBut.of_below (M := fun _ => False) hbu) id id id); clear hbu)
      | (go_at_call 94; (with_reducible refine (HCUT.out _ KA.out).mono ?_); rintro e B ⟨hkb, v, O3, rfl, h1, h2, h3, h4, h5⟩; have HKB := Lib.hid ((KeepsBut.of_below (M := M) (HBA.out.trans (KA.out.mono hzA))).trans hkb); have H2 := Lib.hid h2; have H4 := Lib.hid h4; have H5 := Lib.hid h5; have HZU := Lib.hid KA.out.size; have RC := Lib.hid (RC.out.keeps hkb hMy hMb hMc); clear hkb h1 h2 h3 h4 h5))
  all_goals
    go_wp2_with fail
    go_end0
    refine ⟨⟨_, rfl⟩, HKB.out, O3, fun m h => ?_, ?_⟩
    · rcases H2.out m h with h | h
      · exact h.elim
      · have := HZU.out; omega
    · cases v
      · exact .inr (H5.out rfl)
      · exact .inl (H4.out rfl)
end Go.Proofs.YticfcdbfplfmlaaGreat
/- Layer 5, in plain lists: the best plan; lists that lie apart from some blocks. -/
namespace Go.Proofs.YticfcdbfplfmlaaGreat
open Go.RowKit

/-- The better one of two plans: the later one only if it ranks lower. -/
def pick (rk : List Int → Int) (o : Option (List Int)) (l : List Int) : Option (List Int) := some (match o with
  | none => l
  | some m => if rk l < rk m then l else m)
def bestO (rk : List Int → Int) (ls : List (List Int)) : Option (List Int) := ls.foldl (pick rk) none
theorem bestO_succ (rk : List Int → Int) (ls : List (List Int)) {k : Nat} (h : k < ls.length) : bestO rk (ls.take (k + 1)) = pick rk (bestO rk (ls.take k)) (ls.getD k []) := by
  unfold bestO
  rw [List.take_succ_eq_append_getElem h, List.foldl_append]
  simp [List.getD, h]
theorem bestO_mem (rk : List Int → Int) : ∀ (ls : List (List Int)) (k : Nat), k ≤ ls.length → ∀ m, bestO rk (ls.take k) = some m → m ∈ ls
  | ls, 0, _, m, h => by simp [bestO] at h
  | ls, k + 1, hk, m, h => by
    rw [bestO_succ rk ls (by omega)] at h
    have hm : ls.getD k [] ∈ ls := by
      have e : ls.getD k [] = ls[k] := by simp [List.getD, List.getElem?_eq_getElem (show k < ls.length by omega)]
      rw [e]
      exact List.getElem_mem _
    cases e : bestO rk (ls.take k) with
    | none => rw [e] at h; simp [pick] at h; rw [← h]; exact hm
    | some m' =>
      rw [e] at h
      simp only [pick, Option.some.injEq] at h
      split at h
      · rw [← h]; exact hm
      · rw [← h]; exact bestO_mem rk ls k (by omega) m' e
def bestL (rk : List Int → Int) (ls : List (List Int)) : List Int := (bestO rk ls).getD []
/-- The best one ranks lowest, and is the first of those. -/
theorem bestO_least (rk : List Int → Int) (ls : List (List Int)) : ∀ k, k ≤ ls.length → 0 < k → ∃ j, j < k ∧ bestO rk (ls.take k) = some (ls.getD j []) ∧ (∀ i, i < k → rk (ls.getD j []) ≤ rk (ls.getD i [])) ∧ ∀ i, i < j → rk (ls.getD j []) < rk (ls.getD i [])
  | 0, _, h => by omega
  | k + 1, hk, _ => by
    rw [bestO_succ rk ls (by omega)]
    by_cases h0 : k = 0
    · subst h0
      exact ⟨0, by omega, rfl, fun i hi => by rw [show i = 0 by omega]; exact Int.le_refl _, fun i hi => by omega⟩
    · obtain ⟨j, hj, e, h1, h2⟩ := bestO_least rk ls k (by omega) (by omega)
      rw [e]
      by_cases hlt : rk (ls.getD k []) < rk (ls.getD j [])
      · refine ⟨k, by omega, by simp only [pick, if_pos hlt], fun i hi => ?_, fun i hi => ?_⟩
        · by_cases hik : i = k
          · rw [hik]; exact Int.le_refl _
          · have := h1 i (by omega); omega
        · have := h1 i (by omega); omega
      · refine ⟨j, by omega, by simp only [pick, if_neg hlt], fun i hi => ?_, h2⟩
        by_cases hik : i = k
        · rw [hik]; omega
        · exact h1 i (by omega)
/-- Is a list a plan of the handfuls from one on? -/
def planFrom (b : Bf) : Int → List Int → Bool
  | x, [] => decide (x = b.hs.length)
  | x, y :: l => boxB b x y && planFrom b y l
def bgnX (x : Int) (l : List Int) (i : Nat) : Int := if i = 0 then x else at0 l (i - 1)
theorem planFrom_eq (b : Bf) : ∀ (l : List Int) (x : Int), planFrom b x l = ((List.range l.length).all (fun i => boxB b (bgnX x l i) (at0 l i)) && decide (bgnX x l l.length = b.hs.length))
  | [], x => by simp [planFrom, bgnX]
  | y :: l, x => by
    rw [planFrom, planFrom_eq b l y, List.length_cons, List.range_succ_eq_map, List.all_cons, List.all_map, Bool.and_assoc]
    congr 2
    · congr 1
      funext i
      cases i <;> simp [bgnX, at0]
    · cases l <;> simp [bgnX, at0]
theorem planB_from (b : Bf) (l : List Int) : planB b l = planFrom b 0 l := (planFrom_eq b l 0).symm
theorem plansL_plan {b : Bf} (hg : 1 ≤ b.gr) : ∀ (f x : Nat), b.hs.length - x ≤ f → x ≤ b.hs.length → ∀ l, l ∈ plansL (grN b) b.hs.length x ↔ planFrom b x l = true
  | 0, x, hf, hx, l => by
    obtain rfl : x = b.hs.length := by omega
    rw [plansL_end]
    cases l with
    | nil => simp [planFrom]
    | cons y l =>
      simp only [List.mem_singleton, reduceCtorEq, false_iff, planFrom, boxB]
      intro h
      simp at h
      omega
  | f + 1, x, hf, hx, l => by
    by_cases e : x = b.hs.length
    · subst e
      exact plansL_plan hg 0 _ (by omega) (by omega) l
    · rw [plansL_step (by omega), List.mem_flatMap]
      have hgr : ((grN b : Nat) : Int) = b.gr := by unfold grN; omega
      constructor
      · rintro ⟨i, hi, hl⟩
        have hi := List.mem_range.1 hi
        split at hl
        · rename_i h2
          obtain ⟨l', hl', rfl⟩ := List.mem_map.1 hl
          rw [planFrom, Bool.and_eq_true]
          refine ⟨by unfold boxB; simp; omega, (plansL_plan hg f _ (by omega) h2 l').1 hl'⟩
        · simp at hl
      · intro h
        cases l with
        | nil => simp [planFrom] at h; omega
        | cons y l =>
          rw [planFrom, Bool.and_eq_true] at h
          obtain ⟨h1, h2⟩ := h
          unfold boxB at h1
          simp only [decide_eq_true_eq] at h1
          obtain ⟨i, hi⟩ : ∃ i : Nat, y = ((x + i + 1 : Nat) : Int) := ⟨(y - x - 1).toNat, by omega⟩
          refine ⟨i, List.mem_range.2 (by omega), ?_⟩
          rw [if_pos (by omega)]
          refine List.mem_map.2 ⟨l, (plansL_plan hg f _ (by omega) (by omega) l).2 (by rw [← hi]; exact h2), by rw [hi]⟩
/-- The plans are all plans. -/
theorem plansB_iff {b : Bf} (hg : 1 ≤ b.gr) (l : List Int) : l ∈ plansB b ↔ planB b l = true := by
  rw [planB_from]
  exact plansL_plan hg b.hs.length 0 (by omega) (by omega) l
theorem plan_len {b : Bf} {l : List Int} (h : planB b l = true) : l.length ≤ b.hs.length := by
  unfold planB at h
  rw [Bool.and_eq_true] at h
  have := plan_nums h.1 (Nat.le_refl _)
  omega
/-- Numbers that lie apart from some blocks. -/
def IntsOff (N : Nat → Prop) (A : World) (p : Option Addr) (xs : List Int) : Prop :=
  ∀ i, i < xs.length → ∃ g o, p = some ⟨g, o, none⟩ ∧ ¬ N g ∧ A.cell? ⟨g, o + i, none⟩ = some (.int .i64 (at0 xs i))
def HdsOff (N : Nat → Prop) (A : World) (p : Option Addr) (hs : List Hd) : Prop :=
  ∀ i (h : i < hs.length), ∃ g o, p = some ⟨g, o, none⟩ ∧ ¬ N g ∧ A.cell? ⟨g, o + i * 2, none⟩ = some (.int .i64 hs[i].lo) ∧ A.cell? ⟨g, o + i * 2 + 1, none⟩ = some (.int .i64 hs[i].hi)
section
variable {N N' : Nat → Prop} {A B : World} {p : Option Addr} {xs : List Int} {hs : List Hd}
theorem IntsOff.at (h : IntsOff N A p xs) : IntsAt A p xs := fun i hi => let ⟨g, o, e, _, c⟩ := h i hi; ⟨g, o, e, c⟩
theorem IntsOff.keeps (h : IntsOff N A p xs) (k : KeepsBut N A B) (hN : ∀ m, N' m → N m ∨ A.heap.size ≤ m) : IntsOff N' B p xs := fun i hi => by
  obtain ⟨g, o, e, hn, c⟩ := h i hi
  have hlt : g < A.heap.size := cell_block c
  exact ⟨g, o, e, fun x => (hN g x).elim hn (by omega), (World.cell?_of_block (k.block g hlt hn)).trans c⟩
theorem IntsAt.off (h : IntsAt A p xs) (hN : ∀ g o, 0 < xs.length → p = some ⟨g, o, none⟩ → ¬ N g) : IntsOff N A p xs := fun i hi => let ⟨g, o, e, c⟩ := h i hi; ⟨g, o, e, hN g o (by omega) e, c⟩
theorem HdsOff.at (h : HdsOff N A p hs) : HdsAt A p hs := fun i hi => let ⟨g, o, e, _, c⟩ := h i hi; ⟨g, o, e, c⟩
theorem HdsOff.keeps (h : HdsOff N A p hs) (k : KeepsBut N A B) (hN : ∀ m, N' m → N m ∨ A.heap.size ≤ m) : HdsOff N' B p hs := fun i hi => by
  obtain ⟨g, o, e, hn, c, d⟩ := h i hi
  have hlt : g < A.heap.size := cell_block c
  exact ⟨g, o, e, fun x => (hN g x).elim hn (by omega), (World.cell?_of_block (k.block g hlt hn)).trans c, (World.cell?_of_block (k.block g hlt hn)).trans d⟩
theorem HdsAt.off (h : HdsAt A p hs) (hN : ∀ g o, p = some ⟨g, o, none⟩ → ¬ N g) : HdsOff N A p hs := fun i hi => let ⟨g, o, e, c⟩ := h i hi; ⟨g, o, e, hN g o e, c⟩
end
theorem plan_some (b : Bf) (hg : 1 ≤ b.gr) : ∀ (f x : Nat), b.hs.length - x ≤ f → x ≤ b.hs.length → ∃ l, planFrom b x l = true
  | 0, x, hf, hx => ⟨[], by simp [planFrom]; omega⟩
  | f + 1, x, hf, hx => by
    by_cases e : x = b.hs.length
    · exact ⟨[], by simp [planFrom]; omega⟩
    · obtain ⟨l, hl⟩ := plan_some b hg f (x + 1) (by omega) (by omega)
      exact ⟨((x + 1 : Nat) : Int) :: l, by rw [planFrom, hl, Bool.and_true]; unfold boxB; simp; omega⟩
theorem plansB_pos {b : Bf} (hg : 1 ≤ b.gr) : 0 < (plansB b).length := by
  obtain ⟨l, hl⟩ := plan_some b hg b.hs.length 0 (by omega) (by omega)
  have h := (plansB_iff hg l).2 (by rw [planB_from]; exact hl)
  exact List.length_pos_of_mem h
theorem plansB_at {b : Bf} {k : Nat} (h : k < (plansB b).length) : (plansB b).getD k [] ∈ plansB b := by
  have e : (plansB b).getD k [] = (plansB b)[k] := by simp [List.getD, List.getElem?_eq_getElem h]
  rw [e]
  exact List.getElem_mem _
theorem cell_no_mark {w : World} {a : Addr} {v : Value} (h : w.cell? a = some v) (o : Option (List Deferred)) : w.heap[a.block]? ≠ some (.deferred o) := by
  intro e
  unfold World.cell? at h
  rw [e] at h
  simp at h
theorem IntsAt.same {A B : World} {p : Option Addr} {xs : List Int} (h : IntsAt A p xs) (hs : ∀ g : Nat, (∀ o, A.heap[g]? ≠ some (Obj.deferred o)) → B.heap[g]? = A.heap[g]?) : IntsAt B p xs := fun i hi => by
  obtain ⟨g, o, e, c⟩ := h i hi
  exact ⟨g, o, e, (World.cell?_of_block (hs g (cell_no_mark c))).trans c⟩
theorem HdsAt.same {A B : World} {p : Option Addr} {xs : List Hd} (h : HdsAt A p xs) (hs : ∀ g : Nat, (∀ o, A.heap[g]? ≠ some (Obj.deferred o)) → B.heap[g]? = A.heap[g]?) : HdsAt B p xs := fun i hi => by
  obtain ⟨g, o, e, c, d⟩ := h i hi
  exact ⟨g, o, e, (World.cell?_of_block (hs g (cell_no_mark c))).trans c, (World.cell?_of_block (hs g (cell_no_mark c))).trans d⟩
end Go.Proofs.YticfcdbfplfmlaaGreat
/- The walks of layer 5: the best plan. -/
namespace Go.Proofs.YticfcdbfplfmlaaGreat
open Go.RowKit Go.Maps
attribute [local go_sem] Oper.semAt_some

/-- The choice behind some plans. -/
def ChoSo (b : Bf) (rk : List Int → Int) (f : Nat) (k : Nat) (N : Nat → Prop) (A : World) (cs : Array Value) : Prop :=
  (bestO rk ((plansB b).take k) = none ∧ cs = choA none 0 0 none 0 0 none 0 0 false f) ∨
  ∃ m q cq pr cr ph ch, bestO rk ((plansB b).take k) = some m ∧ m ∈ plansB b ∧ cs = choA q m.length cq pr (rightL b m).length cr ph (handL b m).length ch true f ∧ IntsOff N A q m ∧ HdsOff N A pr (rightL b m) ∧ IntsOff N A ph (handL b m)
theorem ChoSo.keeps {b : Bf} {rk : List Int → Int} {f k : Nat} {N N' : Nat → Prop} {A B : World} {cs : Array Value} (h : ChoSo b rk f k N A cs) (hk : KeepsBut N A B) (hN : ∀ m, N' m → N m ∨ A.heap.size ≤ m) : ChoSo b rk f k N' B cs := by
  rcases h with h | ⟨m, q, cq, pr, cr, ph, ch, h1, h2, h3, h4, h5, h6⟩
  · exact .inl h
  · exact .inr ⟨m, q, cq, pr, cr, ph, ch, h1, h2, h3, h4.keeps hk hN, h5.keeps hk hN, h6.keeps hk hN⟩
/-- What an outcome that is offered makes of a choice. -/
def Offers (b : Bf) (rk : List Int → Int) (f : Nat) : Prop :=
  ∀ (Z : Nat) (m : List Int) (q : Option Addr) (cq : Nat) (pr : Option Addr) (cr : Nat) (ph : Option Addr) (ch : Nat) (l : List Int) (q' : Option Addr) (cq' : Nat) (pr' : Option Addr) (cr' : Nat) (ph' : Option Addr) (ch' : Nat) (w : World), m ∈ plansB b → l ∈ plansB b →
    Row w Z (choA q m.length cq pr (rightL b m).length cr ph (handL b m).length ch true f) 149 →
    Calls Tryz.prog 70 #[.pointer (some ⟨Z, 0, none⟩), .agg (outA q' l.length cq' pr' (rightL b l).length cr' ph' (handL b l).length ch')] w
      (Offered Z (if rk l < rk m then choA q' l.length cq' pr' (rightL b l).length cr' ph' (handL b l).length ch' true f else choA q m.length cq pr (rightL b m).length cr ph (handL b m).length ch true f) w)
theorem offers_quicker (b : Bf) (hok : BfOk b) : Offers b (rankQ b) 45 := by
  intro Z m q cq pr cr ph ch l q' cq' pr' cr' ph' ch' w hm hl hr
  have h := offer_quicker Z q m.length cq pr (rightL b m).length cr ph (handL b m).length ch q' l.length cq' pr' (rightL b l).length cr' ph' (handL b l).length ch' w hr (decide (rankQ b l < rankQ b m)) (by
    have h1 := plan_len ((plansB_iff hok.g1 m).1 hm)
    have h2 := plan_len ((plansB_iff hok.g1 l).1 hl)
    have := hok.n8
    unfold rankQ
    split
    · exact decide_eq_decide.2 (by omega)
    · exact decide_eq_decide.2 (by omega))
  simpa using h
theorem offers_surer (b : Bf) : Offers b (rankR b) 52 := by
  intro Z m q cq pr cr ph ch l q' cq' pr' cr' ph' ch' w _ _ hr
  have h := offer_surer Z q m.length cq pr (rightL b m).length cr ph (handL b m).length ch q' l.length cq' pr' (rightL b l).length cr' ph' (handL b l).length ch' w hr (decide (rankR b l < rankR b m)) (by
    unfold rankR
    exact decide_eq_decide.2 (by omega))
  simpa using h
/-- The best outcome is returned. -/
def GaveBest (b : Bf) (rk : List Int → Int) (w : World) (e : Ending) (w' : World) : Prop :=
  ∃ m q cq pr cr ph ch, bestO rk (plansB b) = some m ∧ m ∈ plansB b ∧ e = .returned (.agg (outA q m.length cq pr (rightL b m).length cr ph (handL b m).length ch)) ∧ IntsAt w' q m ∧ HdsAt w' pr (rightL b m) ∧ IntsAt w' ph (handL b m) ∧ Below w.heap.size w w'
set_option maxRecDepth 100000 in
set_option maxHeartbeats 3200000 in
theorem best_any (b : Bf) (p : Option Addr) (c mb : Nat) (f : Nat) (rk : List Int → Int) (w : World) (hB : BkF w p c mb b) (hof : Offers b rk f) :
    Calls Tryz.prog 44 #[.agg (bkA b p c mb), .func (.func f) #[] #[]] w (GaveBest b rk w) := by
  have HB := Lib.hid hB
  have hn8 := hB.ok.n8
  have HOF := Lib.hid hof
  clear hB hof
  refine calls_marks Tryz.func44 rfl ?_
  simp only [Tryz.ntmps44, List.size_toArray, List.length_cons, List.length_nil, Nat.reduceAdd, Nat.reduceSub, Array.replicate_succ, Array.replicate_zero, List.push_toArray, List.append_toArray, List.nil_append, List.cons_append]
  go_wp2_with (first | (go_at_call 69; (refine (plans_any _ _ _ _ _).mono ?_); rintro e w' ⟨rfl, rfl⟩))
  have hb4 : Below w.heap.size w ((((w.alloc (.cells (bkA b p c mb) 92)).alloc (.cells #[.slice none 0 0, .slice none 0 0, .slice none 0 0] 96)).alloc (.cells (choA none 0 0 none 0 0 none 0 0 false f) 149)).alloc (.cells (bkA b p c mb) 92)) := ((below_alloc2 w _ _).alloc (by simp; omega) _).alloc (by simp; omega) _
  have rB := (((Row.new w (bkA b p c mb) 92).alloc (.cells #[.slice none 0 0, .slice none 0 0, .slice none 0 0] 96)).alloc (.cells (choA none 0 0 none 0 0 none 0 0 false f) 149)).alloc (.cells (bkA b p c mb) 92)
  have rD := ((Row.new1 w (.cells (bkA b p c mb) 92) #[.slice none 0 0, .slice none 0 0, .slice none 0 0] 96).alloc (.cells (choA none 0 0 none 0 0 none 0 0 false f) 149)).alloc (.cells (bkA b p c mb) 92)
  have rE := (Row.new2 w (.cells (bkA b p c mb) 92) (.cells #[.slice none 0 0, .slice none 0 0, .slice none 0 0] 96) (choA none 0 0 none 0 0 none 0 0 false f) 149).alloc (.cells (bkA b p c mb) 92)
  have rN := Row.new' (w := (((w.alloc (.cells (bkA b p c mb) 92)).alloc (.cells #[.slice none 0 0, .slice none 0 0, .slice none 0 0] 96)).alloc (.cells (choA none 0 0 none 0 0 none 0 0 false f) 149))) (n := w.heap.size + 1 + 1 + 1) (by simp) (bkA b p c mb) 92
  have hs4 : ((((w.alloc (.cells (bkA b p c mb) 92)).alloc (.cells #[.slice none 0 0, .slice none 0 0, .slice none 0 0] 96)).alloc (.cells (choA none 0 0 none 0 0 none 0 0 false f) 149)).alloc (.cells (bkA b p c mb) 92)).heap.size = w.heap.size + 4 := by simp
  change Code.wp _ _ _ _ ((((w.alloc (.cells (bkA b p c mb) 92)).alloc (.cells #[.slice none 0 0, .slice none 0 0, .slice none 0 0] 96)).alloc (.cells (choA none 0 0 none 0 0 none 0 0 false f) 149)).alloc (.cells (bkA b p c mb) 92))
  generalize ((((w.alloc (.cells (bkA b p c mb) 92)).alloc (.cells #[.slice none 0 0, .slice none 0 0, .slice none 0 0] 96)).alloc (.cells (choA none 0 0 none 0 0 none 0 0 false f) 149)).alloc (.cells (bkA b p c mb) 92)) = w4 at *
  have HB4 := Lib.hid hb4
  have RB := Lib.hid rB
  have RD := Lib.hid rD
  have RN := Lib.hid rN
  have hg1 := HB.out.ok.g1
  clear hb4 rB rD rN
  refine range_lawO 93 #[.pointer (some ⟨w.heap.size + 1 + 1 + 1, 0, none⟩)] (fun m => m < w.heap.size ∨ m = w.heap.size + 1 + 1 + 1) (plansB b).length (PlanX b (w4.heap.size + 2)) rfl (fun args w => Tryz.call93 args w)
    (fun W1 hb hz => plans_iter b p c mb w HB.out _ _ W1 (HB4.out.trans (hb.mono (by omega))) (RN.out.below hb RN.out.lt) (by omega)) (fun k x O A h => by obtain ⟨q, cq, rfl, _⟩ := h; rfl) (fun m => m = w.heap.size + 1 + 1)
    (by rintro m rfl; exact ⟨by omega, by omega⟩) (by omega)
    (fun k O A => ¬ O (w.heap.size + 1 + 1) ∧ ∃ cs, Row A (w.heap.size + 1 + 1) cs 149 ∧ ChoSo b rk f k (fun g => O g ∨ g < w4.heap.size) A cs)
    (fun _ _ _ => False)
    (fun k O O' A B h hb _ hO => by
      obtain ⟨h1, cs, h2, h3⟩ := h
      exact ⟨fun x => (hO _ x).elim h1 (fun y => by have := h2.lt; omega), cs, h2.keeps hb h1, h3.keeps (hb.mono (fun m _ h => .inl h)) (fun m h => by
        rcases h with h | h
        · exact (hO m h).imp .inl id
        · exact .inl (.inr h))⟩)
    (fun _ _ _ _ _ h _ _ _ => h)
    ⟨fun h => h.elim, _, rE, .inl ⟨by simp [bestO], rfl⟩⟩ ?body ?done ?stop
  case body =>
    rintro li k x O O' A rfl hk hx hOO hO hOw hOl ⟨hn1, cs, hE, hcs⟩ hkeep hlA
    obtain ⟨q, cq, rfl, hin, hqO⟩ := hx
    have hlm := plansB_at hk
    obtain ⟨l, hl⟩ : ∃ l, l = (plansB b).getD k [] := ⟨_, rfl⟩
    rw [← hl] at hin hqO hlm ⊢
    have hpl := (plansB_iff hg1 l).1 hlm
    have hll := plan_len hpl
    have HLM := Lib.hid hlm
    have HPL := Lib.hid hpl
    have HSU := Lib.hid (bestO_succ rk (plansB b) hk)
    rw [← hl] at HSU
    have HQO := Lib.hid hqO
    have HIN := Lib.hid hin
    have HK := Lib.hid hkeep
    have HEE := Lib.hid hE
    have HCS := Lib.hid hcs
    have HOO := Lib.hid hO
    have RBA := Lib.hid (RB.out.keeps hkeep (by omega))
    have hszA := hE.lt
    clear hin hqO hlm hpl hkeep hE hcs hOO hO hl
    gi_wp2_with fail
    refine ⟨KeepsBut.refl _ _, fun oo => ?_⟩
    have hk2 : KeepsBut (fun m => m = w4.heap.size + 1) A (A.putObj (w4.heap.size + 1) oo) := (KeepsBut.refl (fun m => m = w4.heap.size + 1) A).putObj (l := w4.heap.size + 1) (.inl rfl) oo
    have RB2 := Lib.hid (RBA.out.keeps hk2 (by omega))
    have RE2 := Lib.hid (HEE.out.keeps hk2 (by omega))
    have HC2 := Lib.hid (HCS.out.keeps (hk2.mono (fun m _ h => by rw [h]; exact .inl hOl)) (N' := fun g => O g ∨ g < w4.heap.size) (fun m h => .inl h))
    have HB2 := Lib.hid (HB.out.below (below_keep (below_keep HB4.out HK.out (by omega) (fun m hm => by omega)) hk2 (by have := HK.out.size; omega) (fun m hm => by omega)))
    have HNQ := Lib.hid (show ∀ g o, 0 < l.length → q = some ⟨g, o, none⟩ → ¬ (O g ∨ g < w4.heap.size) from fun g o h1 h2 => by
      have h3 := HQO.out g o h1 h2
      rintro (h | h)
      · rcases HOO.out g h with h | h | h
        · exact h3.2 h
        · omega
        · omega
      · omega)
    have HI2 := Lib.hid ((HIN.out.off HNQ.out).keeps (hk2.mono (fun m _ h => by rw [h]; exact .inl hOl)) (N' := fun g => O g ∨ g < w4.heap.size) (fun m h => .inl h))
    have hszB : A.heap.size ≤ (A.putObj (w4.heap.size + 1) oo).heap.size := hk2.size
    clear hk2 HIN HEE RBA HCS HK
    change Code.wpIn _ _ _ _ _ _ (A.putObj (w4.heap.size + 1) oo)
    generalize A.putObj (w4.heap.size + 1) oo = A2 at *
    have b0 := RB2.out.cell 0 (v := .int .i64 b.pr) rfl
    have b1 := RB2.out.cell 1 (v := .int .i64 b.le) rfl
    have b2 := RB2.out.cell 2 (v := .int .i64 b.mo) rfl
    have b3 := RB2.out.cell 3 (v := .int .i64 b.gr) rfl
    have b4 := RB2.out.cell 4 (v := .slice p b.hs.length c) rfl
    have b5 := RB2.out.cell 5 (v := .map (some mb)) rfl
    gi_wp2_with fail
    refine inRound_of (by_any b p c mb q cq l A2 HB2.out HI2.out.at (by omega) HPL.out) ?_
    rintro e A3 ⟨pr, cr, ph, ch, rfl, hds, hih, hpr, hph, hb3⟩
    have RE3 := Lib.hid (RE2.out.below hb3 RE2.out.lt)
    have HC3 := Lib.hid (HC2.out.keeps (KeepsBut.of_below (M := fun g => O g ∨ g < w4.heap.size) hb3) (N' := fun g => O g ∨ g < w4.heap.size) (fun m h => .inl h))
    have HI3 := Lib.hid (HI2.out.keeps (KeepsBut.of_below (M := fun g => O g ∨ g < w4.heap.size) hb3) (N' := fun g => O g ∨ g < w4.heap.size) (fun m h => .inl h))
    have HD3 := Lib.hid (hds.off (N := fun g => O g ∨ g < w4.heap.size) (fun g o e h => by have h1 := hpr g o e; rcases h with h | h; (have := (hOw g h).2; omega); omega))
    have HH3 := Lib.hid (hih.off (N := fun g => O g ∨ g < w4.heap.size) (fun g o _ e h => by have h1 := hph g o e; rcases h with h | h; (have := (hOw g h).2; omega); omega))
    have HK3 := Lib.hid (KeepsBut.of_below (M := fun m => m = w.heap.size + 1 + 1) hb3)
    clear hds hih hpr hph hb3 b0 b1 b2 b3 b4 b5
    obtain ⟨cs2, hoffer, hso⟩ : ∃ cs2, Calls Tryz.prog 70 #[.pointer (some ⟨w.heap.size + 1 + 1, 0, none⟩), .agg (outA q l.length cq pr (rightL b l).length cr ph (handL b l).length ch)] A3 (Offered (w.heap.size + 1 + 1) cs2 A3) ∧ ChoSo b rk f (k + 1) (fun g => O g ∨ g < w4.heap.size) A3 cs2 := by
      rcases HC3.out with ⟨h1, h2⟩ | ⟨m, q', cq', pr', cr', ph', ch', h1, h2, h3, h4, h5, h6⟩
      · refine ⟨_, offer_first (w.heap.size + 1 + 1) none 0 0 none 0 0 none 0 0 q l.length cq pr (rightL b l).length cr ph (handL b l).length ch f A3 (by rw [← h2]; exact RE3.out), .inr ⟨l, q, cq, pr, cr, ph, ch, by rw [HSU.out, h1]; rfl, HLM.out, rfl, HI3.out, HD3.out, HH3.out⟩⟩
      · refine ⟨_, HOF.out (w.heap.size + 1 + 1) m q' cq' pr' cr' ph' ch' l q cq pr cr ph ch A3 h2 HLM.out (by rw [← h3]; exact RE3.out), ?_⟩
        by_cases hlt : rk l < rk m
        · rw [if_pos hlt]
          exact .inr ⟨l, q, cq, pr, cr, ph, ch, by rw [HSU.out, h1]; simp only [pick, if_pos hlt], HLM.out, rfl, HI3.out, HD3.out, HH3.out⟩
        · rw [if_neg hlt]
          exact .inr ⟨m, q', cq', pr', cr', ph', ch', by rw [HSU.out, h1]; simp only [pick, if_neg hlt], h2, rfl, h4, h5, h6⟩
    have HSO := Lib.hid hso
    have HOFF := Lib.hid hoffer
    clear hoffer hso
    gi_wp2_with fail
    refine inRound_of HOFF.out ?_
    rintro e A4 ⟨⟨v, rfl⟩, hrow, hfrom⟩
    have HROW := Lib.hid hrow
    have HFR := Lib.hid hfrom.k
    clear hrow hfrom
    gi_wp2_with fail
    exact ⟨HK3.out.trans HFR.out, hn1, cs2, HROW.out, HSO.out.keeps (HFR.out.mono (fun m _ h => by rw [h]; exact .inr (by omega))) (fun m h => .inl h)⟩
  case done =>
    rintro O B ⟨hn1, cs, hE, hcs⟩ hO hkeep hsz hDef
    obtain ⟨j, _, hj, _⟩ := bestO_least rk (plansB b) (plansB b).length (Nat.le_refl _) (plansB_pos hg1)
    rcases hcs with ⟨h1, _⟩ | ⟨m, q, cq, pr, cr, ph, ch, h1, h2, rfl, h4, h5, h6⟩
    · rw [h1] at hj; cases hj
    rw [List.take_length] at h1
    have H1 := Lib.hid h1
    have H2 := Lib.hid h2
    have H4 := Lib.hid h4
    have H5 := Lib.hid h5
    have H6 := Lib.hid h6
    have RBB := Lib.hid (RD.out.keeps hkeep (by omega))
    have HKE := Lib.hid hkeep
    have HDF := Lib.hid hDef
    have HEE := Lib.hid hE
    have e0 := hE.cell 0 (v := .slice q m.length cq) rfl
    have e1 := hE.cell 1 (v := .slice pr (rightL b m).length cr) rfl
    have e2 := hE.cell 2 (v := .slice ph (handL b m).length ch) rfl
    have d0 := RBB.out.cell 0 (v := .slice none 0 0) rfl
    have d1 := RBB.out.cell 1 (v := .slice none 0 0) rfl
    have d2 := RBB.out.cell 2 (v := .slice none 0 0) rfl
    have f0 := RBB.out.free 0
    have f1 := RBB.out.free 1
    have f2 := RBB.out.free 2
    have hzB := hE.lt
    clear hkeep hDef hE h1 h2 h4 h5 h6 hj
    go_wp2
    have q0 := ((RBB.out.set 0 (.slice q m.length cq)).set 1 (.slice pr (rightL b m).length cr)).set 2 (.slice ph (handL b m).length ch)
    have q0 : Row (((B.setCell ⟨w.heap.size + 1, 0, none⟩ (.slice q m.length cq)).setCell ⟨w.heap.size + 1, 1, none⟩ (.slice pr (rightL b m).length cr)).setCell ⟨w.heap.size + 1, 2, none⟩ (.slice ph (handL b m).length ch)) (w.heap.size + 1) (outA q m.length cq pr (rightL b m).length cr ph (handL b m).length ch) 96 := q0
    have k0 : KeepsBut (fun m => m = w.heap.size + 1) B (((B.setCell ⟨w.heap.size + 1, 0, none⟩ (.slice q m.length cq)).setCell ⟨w.heap.size + 1, 1, none⟩ (.slice pr (rightL b m).length cr)).setCell ⟨w.heap.size + 1, 2, none⟩ (.slice ph (handL b m).length ch)) :=
      (set_keeps _ _ _ _).trans ((set_keeps _ _ _ _).trans (set_keeps _ _ _ _))
    generalize (((B.setCell ⟨w.heap.size + 1, 0, none⟩ (.slice q m.length cq)).setCell ⟨w.heap.size + 1, 1, none⟩ (.slice pr (rightL b m).length cr)).setCell ⟨w.heap.size + 1, 2, none⟩ (.slice ph (handL b m).length ch)) = B1 at *
    have hDC := (k0.block w4.heap.size (by omega) (by omega)).trans HDF.out
    have hzk := k0.size
    have hmk : Marks w.heap.size [{ target := .collected w4.heap.size, args := #[] }] B1 := ⟨⟨_, rfl, by omega, hDC, by simp⟩, trivial⟩
    refine marks_leave hmk (fun B2 hB2 => ?_)
    have hrest : ∀ g : Nat, (∀ o, B1.heap[g]? ≠ some (Obj.deferred o)) → B2.heap[g]? = B1.heap[g]? := fun g h => hB2.rest g h
    have q1 : Row B2 (w.heap.size + 1) (outA q m.length cq pr (rightL b m).length cr ph (handL b m).length ch) 96 := by
      have := q0
      unfold Row at this ⊢
      rw [hrest _ (fun o h => by rw [h] at this; cases this)]
      exact this
    have kN : KeepsBut (fun g => O g ∨ g < w4.heap.size) B B1 := k0.mono (fun m _ h => by rw [h]; exact .inr (by omega))
    refine ⟨_, results_cell_row Tryz.results44 _ _ _ _ (outA q m.length cq pr (rightL b m).length cr ph (handL b m).length ch) _ _ rfl q1 Tryz.underlying96 rfl (by kernel_rfl), ?_⟩
    exact ⟨m, q, cq, pr, cr, ph, ch, H1.out, H2.out, rfl, (H4.out.keeps kN (N' := fun g => O g ∨ g < w4.heap.size) (fun m h => .inl h)).at.same hrest, (H5.out.keeps kN (N' := fun g => O g ∨ g < w4.heap.size) (fun m h => .inl h)).at.same hrest, (H6.out.keeps kN (N' := fun g => O g ∨ g < w4.heap.size) (fun m h => .inl h)).at.same hrest,
      (below_keep (below_keep HB4.out HKE.out (by omega) (fun m hm => by omega)) k0 (by omega) (fun m hm => by omega)).trans hB2.below⟩
  case stop =>
    intro cc O B h
    exact h.elim
end Go.Proofs.YticfcdbfplfmlaaGreat
/- The walks of layer 5: a label is entered. -/
namespace Go.Proofs.YticfcdbfplfmlaaGreat
open Go.RowKit Go.Maps
attribute [local go_sem] Oper.semAt_some

abbrev noBk : Array Value := #[.int .i64 0, .int .i64 0, .int .i64 0, .int .i64 0, .slice none 0 0, .map none]
set_option maxRecDepth 10000 in
set_option maxHeartbeats 1600000 in
theorem enter_bad (b : Bf) (p : Option Addr) (c : Nat) (w : World) (hB : BfAt w p c b) (hb : bookB b = false) :
    Calls Tryz.prog 43 #[.agg (bfA b p c)] w fun e w' => e = .returned (.tuple #[.agg noBk, .int .i64 50]) ∧ Below w.heap.size w w' := by
  obtain ⟨W0, hW0⟩ : ∃ W, W = ((w.alloc (.cells (bfA b p c) 28)).alloc (.cells noBk 92)) := ⟨_, rfl⟩
  have HW0 := Lib.hid hW0
  have HE := Lib.hid (show Below w.heap.size w W0 by rw [hW0]; exact below_alloc2 _ _ _)
  have HR := Lib.hid (show Row W0 w.heap.size (bfA b p c) 28 by rw [hW0]; exact (Row.new w _ _).alloc _)
  have HQ := Lib.hid (show Row W0 (w.heap.size + 1) noBk 92 by rw [hW0]; exact Row.new1 w _ _ _)
  have HB := Lib.hid hB
  have HC := Lib.hid (fun w' (q : From W0 w') => (by have h := Check_any b p c w' (hB.below (HE.out.trans (q.b.mono HE.out.size))); rw [bookE_bad hb] at h; exact h : Calls Tryz.prog 5 #[.agg (bfA b p c)] w' fun e w'' => e = .returned (.int .i64 50) ∧ Below w'.heap.size w' w''))
  have hzq := HQ.out.lt
  have g0 := HR.out.cell 0 (v := .int .i64 b.pr) rfl
  have g1 := HR.out.cell 1 (v := .int .i64 b.le) rfl
  have g2 := HR.out.cell 2 (v := .int .i64 b.mo) rfl
  have g3 := HR.out.cell 3 (v := .int .i64 b.gr) rfl
  have g4 := HR.out.cell 4 (v := .slice p b.hs.length c) rfl
  clear hW0 hB hb
  go_enter Tryz.func43, Tryz.ntmps43
  go_wp2_with fail
  rw [← HW0.out]
  refine (HC.out _ (From.refl W0)).mono ?_
  rintro e u ⟨rfl, hbu⟩
  obtain ⟨x, rfl⟩ := later_of hbu
  clear hbu
  have HQ := Lib.hid (x.fr.row HQ.out)
  have HE := Lib.hid (x.base HE.out)
  have c0 := HQ.out.cell 0 (v := .int .i64 0) rfl
  have c1 := HQ.out.cell 1 (v := .int .i64 0) rfl
  have c2 := HQ.out.cell 2 (v := .int .i64 0) rfl
  have c3 := HQ.out.cell 3 (v := .int .i64 0) rfl
  have c4 := HQ.out.cell 4 (v := .slice none 0 0) rfl
  have c5 := HQ.out.cell 5 (v := .map none) rfl
  have f0 := HQ.out.free 0
  have f1 := HQ.out.free 1
  have f2 := HQ.out.free 2
  have f3 := HQ.out.free 3
  have f4 := HQ.out.free 4
  have f5 := HQ.out.free 5
  go_wp2_with fail
  clear c0 f0 c1 f1 c2 f2 c3 f3 c4 f4 c5 f5
  have q := ((((((HQ.out.set 0 (.int .i64 0)).set 1 (.int .i64 0)).set 2 (.int .i64 0)).set 3 (.int .i64 0)).set 4 (.slice none 0 0)).set 5 (.map none))
  have e0 := q.cell 0 (v := .int .i64 0) rfl
  have e1 := q.cell 1 (v := .int .i64 0) rfl
  have e2 := q.cell 2 (v := .int .i64 0) rfl
  have e3 := q.cell 3 (v := .int .i64 0) rfl
  have e4 := q.cell 4 (v := .slice none 0 0) rfl
  have e5 := q.cell 5 (v := .map none) rfl
  exact bodyPost_ret (v := .tuple #[.agg noBk, .int .i64 50]) (by simp [results, Tryz.results43, go_sem, e0, e1, e2, e3, e4, e5]) rfl
    ⟨rfl, ((((((HE.out.setCell (by dsimp only; omega) _).setCell (by dsimp only; omega) _).setCell (by dsimp only; omega) _).setCell (by dsimp only; omega) _).setCell (by dsimp only; omega) _).setCell (by dsimp only; omega) _)⟩
/-- What a good label is entered as. -/
def GaveEnter (b : Bf) (p : Option Addr) (c : Nat) (w : World) (e : Ending) (w' : World) : Prop := ∃ mb, e = .returned (.tuple #[.agg (bkA b p c mb), .int .i64 0]) ∧ BkF w' p c mb b ∧ Below w.heap.size w w'
set_option maxRecDepth 10000 in
set_option maxHeartbeats 1600000 in
theorem enter_yes (b : Bf) (p : Option Addr) (c : Nat) (w : World) (hB : BfAt w p c b) (hb : bookB b = true) :
    Calls Tryz.prog 43 #[.agg (bfA b p c)] w (GaveEnter b p c w) := by
  obtain ⟨W0, hW0⟩ : ∃ W, W = ((w.alloc (.cells (bfA b p c) 28)).alloc (.cells noBk 92)) := ⟨_, rfl⟩
  have HW0 := Lib.hid hW0
  have HE := Lib.hid (show Below w.heap.size w W0 by rw [hW0]; exact below_alloc2 _ _ _)
  have HR := Lib.hid (show Row W0 w.heap.size (bfA b p c) 28 by rw [hW0]; exact (Row.new w _ _).alloc _)
  have HQ := Lib.hid (show Row W0 (w.heap.size + 1) noBk 92 by rw [hW0]; exact Row.new1 w _ _ _)
  have HB := Lib.hid hB
  have HC := Lib.hid (fun w' (q : From W0 w') => (by have h := Check_any b p c w' (hB.below (HE.out.trans (q.b.mono HE.out.size))); rw [bookE_ok hb] at h; exact h : Calls Tryz.prog 5 #[.agg (bfA b p c)] w' fun e w'' => e = .returned (.int .i64 0) ∧ Below w'.heap.size w' w''))
  have hzq := HQ.out.lt
  have g0 := HR.out.cell 0 (v := .int .i64 b.pr) rfl
  have g1 := HR.out.cell 1 (v := .int .i64 b.le) rfl
  have g2 := HR.out.cell 2 (v := .int .i64 b.mo) rfl
  have g3 := HR.out.cell 3 (v := .int .i64 b.gr) rfl
  have g4 := HR.out.cell 4 (v := .slice p b.hs.length c) rfl
  have HOK := Lib.hid (bookB_iff.1 hb)
  clear hW0 hB hb
  go_enter Tryz.func43, Tryz.ntmps43
  go_wp2_with fail
  rw [← HW0.out]
  refine (HC.out _ (From.refl W0)).mono ?_
  rintro e u ⟨rfl, hbu⟩
  obtain ⟨x, rfl⟩ := later_of hbu
  clear hbu
  go_wp2_with fail
  refine (open_any b p c x.w (HB.out.below (x.base HE.out)) HOK.out).mono ?_
  rintro e u ⟨mb, rfl, hs, hmb, hbu⟩
  have hx1 := x.b.size
  have HS := Lib.hid hs
  obtain ⟨y, hy⟩ := x.on hbu
  subst hy
  clear hbu hs
  have HQ := Lib.hid (y.fr.row HQ.out)
  have HE := Lib.hid (y.base HE.out)
  have c0 := HQ.out.cell 0 (v := .int .i64 0) rfl
  have c1 := HQ.out.cell 1 (v := .int .i64 0) rfl
  have c2 := HQ.out.cell 2 (v := .int .i64 0) rfl
  have c3 := HQ.out.cell 3 (v := .int .i64 0) rfl
  have c4 := HQ.out.cell 4 (v := .slice none 0 0) rfl
  have c5 := HQ.out.cell 5 (v := .map none) rfl
  have f0 := HQ.out.free 0
  have f1 := HQ.out.free 1
  have f2 := HQ.out.free 2
  have f3 := HQ.out.free 3
  have f4 := HQ.out.free 4
  have f5 := HQ.out.free 5
  go_wp2_with fail
  clear c0 f0 c1 f1 c2 f2 c3 f3 c4 f4 c5 f5
  have q := ((((((HQ.out.set 0 (.int .i64 b.pr)).set 1 (.int .i64 b.le)).set 2 (.int .i64 b.mo)).set 3 (.int .i64 b.gr)).set 4 (.slice p b.hs.length c)).set 5 (.map (some mb)))
  have e0 := q.cell 0 (v := .int .i64 b.pr) rfl
  have e1 := q.cell 1 (v := .int .i64 b.le) rfl
  have e2 := q.cell 2 (v := .int .i64 b.mo) rfl
  have e3 := q.cell 3 (v := .int .i64 b.gr) rfl
  have e4 := q.cell 4 (v := .slice p b.hs.length c) rfl
  have e5 := q.cell 5 (v := .map (some mb)) rfl
  have hEE : Below w.heap.size w ((((((y.w.setCell ⟨w.heap.size + 1, 0, none⟩ (.int .i64 b.pr)).setCell ⟨w.heap.size + 1, 1, none⟩ (.int .i64 b.le)).setCell ⟨w.heap.size + 1, 2, none⟩ (.int .i64 b.mo)).setCell ⟨w.heap.size + 1, 3, none⟩ (.int .i64 b.gr)).setCell ⟨w.heap.size + 1, 4, none⟩ (.slice p b.hs.length c)).setCell ⟨w.heap.size + 1, 5, none⟩ (.map (some mb))) := ((((((HE.out.setCell (by dsimp only; omega) _).setCell (by dsimp only; omega) _).setCell (by dsimp only; omega) _).setCell (by dsimp only; omega) _).setCell (by dsimp only; omega) _).setCell (by dsimp only; omega) _)
  exact bodyPost_ret (v := .tuple #[.agg (bkA b p c mb), .int .i64 0]) (by simp [results, Tryz.results43, go_sem, e0, e1, e2, e3, e4, e5]) rfl
    ⟨mb, rfl, ⟨HB.out.below hEE, HS.out.of_same (by iterate 6 rw [Below.heap_setCell _ _ _ _ (by dsimp only; omega)]), HOK.out⟩, hEE⟩
end Go.Proofs.YticfcdbfplfmlaaGreat
/- The walks of layer 5: what becomes of the boxes of a plan, asked for. -/
namespace Go.Proofs.YticfcdbfplfmlaaGreat
open Go.RowKit Go.Maps
attribute [local go_sem] Oper.semAt_some

abbrev noOut : Array Value := #[.slice none 0 0, .slice none 0 0, .slice none 0 0]
/-- What follow returns of a plan. -/
def GaveFollow (b : Bf) (q : Option Addr) (cq : Nat) (l : List Int) (w : World) (e : Ending) (w' : World) : Prop :=
  ∃ pr cr ph ch, e = .returned (.tuple #[.agg (outA q l.length cq pr (rightL b l).length cr ph (handL b l).length ch), .int .i64 0]) ∧ HdsAt w' pr (rightL b l) ∧ IntsAt w' ph (handL b l) ∧ Below w.heap.size w w'

set_option maxRecDepth 10000 in
set_option maxHeartbeats 1600000 in
theorem follow_bad (b : Bf) (p : Option Addr) (c : Nat) (q : Option Addr) (cq : Nat) (l : List Int) (w : World) (hB : BfAt w p c b) (hb : bookB b = false) :
    Calls Tryz.prog 46 #[.agg (bfA b p c), .slice q l.length cq] w fun e w' => e = .returned (.tuple #[.agg noOut, .int .i64 50]) ∧ Below w.heap.size w w' := by
  obtain ⟨W0, hW0⟩ : ∃ W, W = ((w.alloc (.cells (bfA b p c) 28)).alloc (.cells noOut 96)) := ⟨_, rfl⟩
  have HW0 := Lib.hid hW0
  have HE := Lib.hid (show Below w.heap.size w W0 by rw [hW0]; exact below_alloc2 _ _ _)
  have HR := Lib.hid (show Row W0 w.heap.size (bfA b p c) 28 by rw [hW0]; exact (Row.new w _ _).alloc _)
  have HQ := Lib.hid (show Row W0 (w.heap.size + 1) noOut 96 by rw [hW0]; exact Row.new1 w _ _ _)
  have HB := Lib.hid hB
  have HC := Lib.hid (enter_bad b p c W0 (hB.below HE.out) hb)
  have hzq := HQ.out.lt
  have g0 := HR.out.cell 0 (v := .int .i64 b.pr) rfl
  have g1 := HR.out.cell 1 (v := .int .i64 b.le) rfl
  have g2 := HR.out.cell 2 (v := .int .i64 b.mo) rfl
  have g3 := HR.out.cell 3 (v := .int .i64 b.gr) rfl
  have g4 := HR.out.cell 4 (v := .slice p b.hs.length c) rfl
  clear hW0 hB hb
  go_enter Tryz.func46, Tryz.ntmps46
  go_wp2_with fail
  rw [← HW0.out]
  refine HC.out.mono ?_
  rintro e u ⟨rfl, hbu⟩
  obtain ⟨z0, rfl⟩ := later_of hbu
  clear hbu
  obtain ⟨z, hz⟩ := z0.on (below_alloc z0.w (.cells noBk 92))
  have HZ := Lib.hid hz
  clear hz
  go_upto_region 3 with (fail)
  rw [HZ.out]
  have HQ := Lib.hid (z.fr.row HQ.out)
  have HE := Lib.hid (z.base HE.out)
  have c0 := HQ.out.cell 0 (v := .slice none 0 0) rfl
  have f0 := HQ.out.free 0
  have c1 := HQ.out.cell 1 (v := .slice none 0 0) rfl
  have f1 := HQ.out.free 1
  have c2 := HQ.out.cell 2 (v := .slice none 0 0) rfl
  have f2 := HQ.out.free 2
  go_wp2_with fail
  clear c0 f0 c1 f1 c2 f2
  have qq := (((HQ.out.set 0 (.slice none 0 0)).set 1 (.slice none 0 0)).set 2 (.slice none 0 0))
  have e0 := qq.cell 0 (v := .slice none 0 0) rfl
  have e1 := qq.cell 1 (v := .slice none 0 0) rfl
  have e2 := qq.cell 2 (v := .slice none 0 0) rfl
  have HEE := Lib.hid (show Below w.heap.size w (((z.w.setCell ⟨w.heap.size + 1, 0, none⟩ (.slice none 0 0)).setCell ⟨w.heap.size + 1, 1, none⟩ (.slice none 0 0)).setCell ⟨w.heap.size + 1, 2, none⟩ (.slice none 0 0)) from (((HE.out.setCell (by dsimp only; omega) _).setCell (by dsimp only; omega) _).setCell (by dsimp only; omega) _))
  exact bodyPost_ret (v := .tuple #[.agg #[.slice none 0 0, .slice none 0 0, .slice none 0 0], .int .i64 50]) (by simp [results, Tryz.results46, go_sem, e0, e1, e2]) rfl
    ⟨rfl, HEE.out⟩

set_option maxRecDepth 10000 in
set_option maxHeartbeats 1600000 in
theorem follow_no (b : Bf) (p : Option Addr) (c : Nat) (q : Option Addr) (cq : Nat) (l : List Int) (w : World) (hB : BfAt w p c b) (hb : bookB b = true) (hl : IntsAt w q l) (hn : l.length < 2 ^ 62) (h64 : ∀ i, i < l.length → I64 (at0 l i)) (hp : planB b l = false) :
    Calls Tryz.prog 46 #[.agg (bfA b p c), .slice q l.length cq] w fun e w' => e = .returned (.tuple #[.agg noOut, .int .i64 51]) ∧ Below w.heap.size w w' := by
  obtain ⟨W0, hW0⟩ : ∃ W, W = ((w.alloc (.cells (bfA b p c) 28)).alloc (.cells noOut 96)) := ⟨_, rfl⟩
  have HW0 := Lib.hid hW0
  have HE := Lib.hid (show Below w.heap.size w W0 by rw [hW0]; exact below_alloc2 _ _ _)
  have HR := Lib.hid (show Row W0 w.heap.size (bfA b p c) 28 by rw [hW0]; exact (Row.new w _ _).alloc _)
  have HQ := Lib.hid (show Row W0 (w.heap.size + 1) noOut 96 by rw [hW0]; exact Row.new1 w _ _ _)
  have HB := Lib.hid hB
  have HC := Lib.hid (enter_yes b p c W0 (hB.below HE.out) hb)
  have HL := Lib.hid (hl.below HE.out)
  have HP := Lib.hid (fun mb w' (hk : BkF w' p c mb b) (hi : IntsAt w' q l) => (by have h := isPlan_any b p c mb q cq l w' hk hi hn h64; rw [hp] at h; exact h : Calls Tryz.prog 72 #[.agg (bkA b p c mb), .slice q l.length cq] w' fun e w'' => e = .returned (.bool false) ∧ Below w'.heap.size w' w''))
  have hzq := HQ.out.lt
  have g0 := HR.out.cell 0 (v := .int .i64 b.pr) rfl
  have g1 := HR.out.cell 1 (v := .int .i64 b.le) rfl
  have g2 := HR.out.cell 2 (v := .int .i64 b.mo) rfl
  have g3 := HR.out.cell 3 (v := .int .i64 b.gr) rfl
  have g4 := HR.out.cell 4 (v := .slice p b.hs.length c) rfl
  clear hW0 hB hb hl h64 hp
  go_enter Tryz.func46, Tryz.ntmps46
  go_wp2_with fail
  rw [← HW0.out]
  refine HC.out.mono ?_
  rintro e u ⟨mb, rfl, hk, hbu⟩
  obtain ⟨z0, rfl⟩ := later_of hbu
  have HI := Lib.hid ((HL.out.below hbu).below (below_alloc z0.w (.cells (bkA b p c mb) 92)))
  have HK := Lib.hid (hk.below (below_alloc z0.w (.cells (bkA b p c mb) 92)))
  obtain ⟨z1, hz1⟩ := z0.on (below_alloc z0.w (.cells (bkA b p c mb) 92))
  have RK := Lib.hid (Row.new z0.w (bkA b p c mb) 92)
  have HZ1 := Lib.hid hz1
  clear hbu hk hz1
  go_upto_region 4 with (fail)
  rw [HZ1.out] at HI HK RK
  rw [HZ1.out]
  have k0 := RK.out.cell 0 (v := .int .i64 b.pr) rfl
  have k1 := RK.out.cell 1 (v := .int .i64 b.le) rfl
  have k2 := RK.out.cell 2 (v := .int .i64 b.mo) rfl
  have k3 := RK.out.cell 3 (v := .int .i64 b.gr) rfl
  have k4 := RK.out.cell 4 (v := .slice p b.hs.length c) rfl
  have k5 := RK.out.cell 5 (v := .map (some mb)) rfl
  go_wp2_with fail
  refine (HP.out mb _ HK.out HI.out).mono ?_
  rintro e u ⟨rfl, hbu⟩
  obtain ⟨z, hz⟩ := z1.on hbu
  subst hz
  clear hbu k0 k1 k2 k3 k4 k5
  have HQ := Lib.hid (z.fr.row HQ.out)
  have HE := Lib.hid (z.base HE.out)
  have c0 := HQ.out.cell 0 (v := .slice none 0 0) rfl
  have f0 := HQ.out.free 0
  have c1 := HQ.out.cell 1 (v := .slice none 0 0) rfl
  have f1 := HQ.out.free 1
  have c2 := HQ.out.cell 2 (v := .slice none 0 0) rfl
  have f2 := HQ.out.free 2
  go_wp2_with fail
  clear c0 f0 c1 f1 c2 f2
  have qq := (((HQ.out.set 0 (.slice none 0 0)).set 1 (.slice none 0 0)).set 2 (.slice none 0 0))
  have e0 := qq.cell 0 (v := .slice none 0 0) rfl
  have e1 := qq.cell 1 (v := .slice none 0 0) rfl
  have e2 := qq.cell 2 (v := .slice none 0 0) rfl
  have HEE := Lib.hid (show Below w.heap.size w (((z.w.setCell ⟨w.heap.size + 1, 0, none⟩ (.slice none 0 0)).setCell ⟨w.heap.size + 1, 1, none⟩ (.slice none 0 0)).setCell ⟨w.heap.size + 1, 2, none⟩ (.slice none 0 0)) from (((HE.out.setCell (by dsimp only; omega) _).setCell (by dsimp only; omega) _).setCell (by dsimp only; omega) _))
  exact bodyPost_ret (v := .tuple #[.agg #[.slice none 0 0, .slice none 0 0, .slice none 0 0], .int .i64 51]) (by simp [results, Tryz.results46, go_sem, e0, e1, e2]) rfl
    ⟨rfl, HEE.out⟩

set_option maxRecDepth 10000 in
set_option maxHeartbeats 1600000 in
theorem follow_yes (b : Bf) (p : Option Addr) (c : Nat) (q : Option Addr) (cq : Nat) (l : List Int) (w : World) (hB : BfAt w p c b) (hb : bookB b = true) (hl : IntsAt w q l) (hn : l.length < 2 ^ 62) (h64 : ∀ i, i < l.length → I64 (at0 l i)) (hp : planB b l = true) :
    Calls Tryz.prog 46 #[.agg (bfA b p c), .slice q l.length cq] w (GaveFollow b q cq l w) := by
  obtain ⟨W0, hW0⟩ : ∃ W, W = ((w.alloc (.cells (bfA b p c) 28)).alloc (.cells noOut 96)) := ⟨_, rfl⟩
  have HW0 := Lib.hid hW0
  have HE := Lib.hid (show Below w.heap.size w W0 by rw [hW0]; exact below_alloc2 _ _ _)
  have HR := Lib.hid (show Row W0 w.heap.size (bfA b p c) 28 by rw [hW0]; exact (Row.new w _ _).alloc _)
  have HQ := Lib.hid (show Row W0 (w.heap.size + 1) noOut 96 by rw [hW0]; exact Row.new1 w _ _ _)
  have HB := Lib.hid hB
  have HC := Lib.hid (enter_yes b p c W0 (hB.below HE.out) hb)
  have HL := Lib.hid (hl.below HE.out)
  have HP := Lib.hid (fun mb w' (hk : BkF w' p c mb b) (hi : IntsAt w' q l) => (by have h := isPlan_any b p c mb q cq l w' hk hi hn h64; rw [hp] at h; exact h : Calls Tryz.prog 72 #[.agg (bkA b p c mb), .slice q l.length cq] w' fun e w'' => e = .returned (.bool true) ∧ Below w'.heap.size w' w''))
  have HY := Lib.hid (fun mb w' (hk : BkF w' p c mb b) (hi : IntsAt w' q l) => by_any b p c mb q cq l w' hk hi hn hp)
  have hzq := HQ.out.lt
  have g0 := HR.out.cell 0 (v := .int .i64 b.pr) rfl
  have g1 := HR.out.cell 1 (v := .int .i64 b.le) rfl
  have g2 := HR.out.cell 2 (v := .int .i64 b.mo) rfl
  have g3 := HR.out.cell 3 (v := .int .i64 b.gr) rfl
  have g4 := HR.out.cell 4 (v := .slice p b.hs.length c) rfl
  clear hW0 hB hb hl h64 hp
  go_enter Tryz.func46, Tryz.ntmps46
  go_wp2_with fail
  rw [← HW0.out]
  refine HC.out.mono ?_
  rintro e u ⟨mb, rfl, hk, hbu⟩
  obtain ⟨z0, rfl⟩ := later_of hbu
  have HI := Lib.hid ((HL.out.below hbu).below (below_alloc z0.w (.cells (bkA b p c mb) 92)))
  have HK := Lib.hid (hk.below (below_alloc z0.w (.cells (bkA b p c mb) 92)))
  obtain ⟨z1, hz1⟩ := z0.on (below_alloc z0.w (.cells (bkA b p c mb) 92))
  have RK := Lib.hid (Row.new z0.w (bkA b p c mb) 92)
  have HZ1 := Lib.hid hz1
  clear hbu hk hz1
  go_upto_region 4 with (fail)
  rw [HZ1.out] at HI HK RK
  rw [HZ1.out]
  have k0 := RK.out.cell 0 (v := .int .i64 b.pr) rfl
  have k1 := RK.out.cell 1 (v := .int .i64 b.le) rfl
  have k2 := RK.out.cell 2 (v := .int .i64 b.mo) rfl
  have k3 := RK.out.cell 3 (v := .int .i64 b.gr) rfl
  have k4 := RK.out.cell 4 (v := .slice p b.hs.length c) rfl
  have k5 := RK.out.cell 5 (v := .map (some mb)) rfl
  go_wp2_with fail
  refine (HP.out mb _ HK.out HI.out).mono ?_
  rintro e u ⟨rfl, hbu⟩
  have HI := Lib.hid (HI.out.below hbu)
  have HK := Lib.hid (HK.out.below hbu)
  obtain ⟨z2, hz⟩ := z1.on hbu
  have RK2 := Lib.hid (RK.out.below hbu RK.out.lt)
  subst hz
  clear hbu k0 k1 k2 k3 k4 k5
  have k0 := RK2.out.cell 0 (v := .int .i64 b.pr) rfl
  have k1 := RK2.out.cell 1 (v := .int .i64 b.le) rfl
  have k2 := RK2.out.cell 2 (v := .int .i64 b.mo) rfl
  have k3 := RK2.out.cell 3 (v := .int .i64 b.gr) rfl
  have k4 := RK2.out.cell 4 (v := .slice p b.hs.length c) rfl
  have k5 := RK2.out.cell 5 (v := .map (some mb)) rfl
  go_wp2_with fail
  refine (HY.out mb _ HK.out HI.out).mono ?_
  rintro e u ⟨pr, cr, ph, ch, rfl, hds, hih, hpr, hph, hbu⟩
  obtain ⟨z, hz⟩ := z2.on hbu
  subst hz
  have HDS := Lib.hid hds
  have HIH := Lib.hid hih
  have HPR := Lib.hid hpr
  have HPH := Lib.hid hph
  have hzz := z2.b.size
  clear hbu k0 k1 k2 k3 k4 k5 hds hih hpr hph
  have HQ := Lib.hid (z.fr.row HQ.out)
  have HE := Lib.hid (z.base HE.out)
  have c0 := HQ.out.cell 0 (v := .slice none 0 0) rfl
  have f0 := HQ.out.free 0
  have c1 := HQ.out.cell 1 (v := .slice none 0 0) rfl
  have f1 := HQ.out.free 1
  have c2 := HQ.out.cell 2 (v := .slice none 0 0) rfl
  have f2 := HQ.out.free 2
  go_wp2_with fail
  clear c0 f0 c1 f1 c2 f2
  have qq := (((HQ.out.set 0 (.slice q l.length cq)).set 1 (.slice pr (rightL b l).length cr)).set 2 (.slice ph (handL b l).length ch))
  have e0 := qq.cell 0 (v := .slice q l.length cq) rfl
  have e1 := qq.cell 1 (v := .slice pr (rightL b l).length cr) rfl
  have e2 := qq.cell 2 (v := .slice ph (handL b l).length ch) rfl
  have KS := Lib.hid ((set_keeps z.w (w.heap.size + 1) 0 (.slice q l.length cq)).trans ((set_keeps _ (w.heap.size + 1) 1 (.slice pr (rightL b l).length cr)).trans (set_keeps _ (w.heap.size + 1) 2 (.slice ph (handL b l).length ch))))
  have HDS3 := Lib.hid ((HDS.out.off (N := fun m => m = w.heap.size + 1) (fun g o e h => by have := HPR.out g o e; omega)).keeps KS.out (N' := fun _ => False) (fun _ h => h.elim)).at
  have HIH3 := Lib.hid ((HIH.out.off (N := fun m => m = w.heap.size + 1) (fun g o _ e h => by have := HPH.out g o e; omega)).keeps KS.out (N' := fun _ => False) (fun _ h => h.elim)).at
  have HEE := Lib.hid (show Below w.heap.size w (((z.w.setCell ⟨w.heap.size + 1, 0, none⟩ (.slice q l.length cq)).setCell ⟨w.heap.size + 1, 1, none⟩ (.slice pr (rightL b l).length cr)).setCell ⟨w.heap.size + 1, 2, none⟩ (.slice ph (handL b l).length ch)) from (((HE.out.setCell (by dsimp only; omega) _).setCell (by dsimp only; omega) _).setCell (by dsimp only; omega) _))
  exact bodyPost_ret (v := .tuple #[.agg #[.slice q l.length cq, .slice pr (rightL b l).length cr, .slice ph (handL b l).length ch], .int .i64 0]) (by simp [results, Tryz.results46, go_sem, e0, e1, e2]) rfl
    ⟨pr, cr, ph, ch, rfl, HDS3.out, HIH3.out, HEE.out⟩

end Go.Proofs.YticfcdbfplfmlaaGreat
/- The walks of layer 5: the boxes by hand, the best plan, how many boxes are right. -/
namespace Go.Proofs.YticfcdbfplfmlaaGreat
open Go.RowKit Go.Maps
attribute [local go_sem] Oper.semAt_some

/-- What ByHand returns of a plan. -/
def GaveByHand (b : Bf) (l : List Int) (w : World) (e : Ending) (w' : World) : Prop :=
  ∃ ph ch, e = .returned (.tuple #[.slice ph (handL b l).length ch, .int .i64 0]) ∧ IntsAt w' ph (handL b l) ∧ Below w.heap.size w w'
def bestQ (b : Bf) : List Int := bestL (rankQ b) (plansB b)
def bestR (b : Bf) : List Int := bestL (rankR b) (plansB b)
/-- What Best returns. -/
def GavePlan (b : Bf) (w : World) (e : Ending) (w' : World) : Prop :=
  ∃ q cq, e = .returned (.tuple #[.slice q (bestQ b).length cq, .int .i64 0]) ∧ IntsAt w' q (bestQ b) ∧ Below w.heap.size w w'
theorem field_plan (q : Option Addr) (n c : Nat) (pr : Option Addr) (nr cr : Nat) (ph : Option Addr) (nh ch : Nat) (w : World) : (Instr.field 96 (.agg (outA q n c pr nr cr ph nh ch)) 0).run Tryz.prog w = .ok (.slice q n c) w := by
  unfold outA
  simp [Instr.field, asAgg, go_sem, Tryz.underlying96]
theorem field_right (q : Option Addr) (n c : Nat) (pr : Option Addr) (nr cr : Nat) (ph : Option Addr) (nh ch : Nat) (w : World) : (Instr.field 96 (.agg (outA q n c pr nr cr ph nh ch)) 1).run Tryz.prog w = .ok (.slice pr nr cr) w := by
  unfold outA
  simp [Instr.field, asAgg, go_sem, Tryz.underlying96]
theorem bestL_of {rk : List Int → Int} {ls : List (List Int)} {m : List Int} (h : bestO rk ls = some m) : bestL rk ls = m := by unfold bestL; rw [h]; rfl

set_option maxRecDepth 10000 in
set_option maxHeartbeats 1600000 in
theorem ByHand_bad (b : Bf) (p : Option Addr) (c : Nat) (q : Option Addr) (cq : Nat) (l : List Int) (w : World) (hB : BfAt w p c b) (hb : bookB b = false) :
    Calls Tryz.prog 39 #[.agg (bfA b p c), .slice q l.length cq] w fun e w' => e = .returned (.tuple #[.slice none 0 0, .int .i64 50]) ∧ Below w.heap.size w w' := by
  have hE := below_alloc w (.cells (bfA b p c) 28)
  have HB := Lib.hid (follow_bad b p c q cq l _ (hB.below hE) hb)
  have HE := Lib.hid hE
  have hz := hE.size
  clear hE hB hb
  go_enter Tryz.func39, Tryz.ntmps39
  go_wp2_with fail
  refine HB.out.mono ?_
  rintro e u ⟨rfl, hbu⟩
  have HE := Lib.hid (HE.out.trans (hbu.mono hz))
  clear hbu
  go_wp2_with fail
  go_ret2
  exact ⟨rfl, HE.out.alloc (HE.out.size) _⟩
set_option maxRecDepth 10000 in
set_option maxHeartbeats 1600000 in
theorem ByHand_no (b : Bf) (p : Option Addr) (c : Nat) (q : Option Addr) (cq : Nat) (l : List Int) (w : World) (hB : BfAt w p c b) (hb : bookB b = true) (hl : IntsAt w q l) (hn : l.length < 2 ^ 62) (h64 : ∀ i, i < l.length → I64 (at0 l i)) (hp : planB b l = false) :
    Calls Tryz.prog 39 #[.agg (bfA b p c), .slice q l.length cq] w fun e w' => e = .returned (.tuple #[.slice none 0 0, .int .i64 51]) ∧ Below w.heap.size w w' := by
  have hE := below_alloc w (.cells (bfA b p c) 28)
  have HB := Lib.hid (follow_no b p c q cq l _ (hB.below hE) hb (hl.below hE) hn h64 hp)
  have HE := Lib.hid hE
  have hz := hE.size
  clear hE hB hb hl h64 hp
  go_enter Tryz.func39, Tryz.ntmps39
  go_wp2_with fail
  refine HB.out.mono ?_
  rintro e u ⟨rfl, hbu⟩
  have HE := Lib.hid (HE.out.trans (hbu.mono hz))
  clear hbu
  go_wp2_with fail
  go_ret2
  exact ⟨rfl, HE.out.alloc (HE.out.size) _⟩
set_option maxRecDepth 10000 in
set_option maxHeartbeats 1600000 in
theorem ByHand_yes (b : Bf) (p : Option Addr) (c : Nat) (q : Option Addr) (cq : Nat) (l : List Int) (w : World) (hB : BfAt w p c b) (hb : bookB b = true) (hl : IntsAt w q l) (hn : l.length < 2 ^ 62) (h64 : ∀ i, i < l.length → I64 (at0 l i)) (hp : planB b l = true) :
    Calls Tryz.prog 39 #[.agg (bfA b p c), .slice q l.length cq] w (GaveByHand b l w) := by
  have hE := below_alloc w (.cells (bfA b p c) 28)
  have HB := Lib.hid (follow_yes b p c q cq l _ (hB.below hE) hb (hl.below hE) hn h64 hp)
  have HE := Lib.hid hE
  have hz := hE.size
  clear hE hB hb hl h64 hp
  go_enter Tryz.func39, Tryz.ntmps39
  go_wp2_with fail
  refine HB.out.mono ?_
  rintro e u ⟨pr, cr, ph, ch, rfl, hds, hih, hbu⟩
  have HE := Lib.hid (HE.out.trans (hbu.mono hz))
  have hb2 := below_alloc u (.cells (outA q l.length cq pr (rightL b l).length cr ph (handL b l).length ch) 96)
  have HIH := Lib.hid (hih.below hb2)
  clear hbu hds hih hb2
  go_wp2_with fail
  go_ret2
  exact ⟨ph, ch, rfl, HIH.out, HE.out.alloc (HE.out.size) _⟩
set_option maxRecDepth 10000 in
set_option maxHeartbeats 1600000 in
theorem Best_bad (b : Bf) (p : Option Addr) (c : Nat) (w : World) (hB : BfAt w p c b) (hb : bookB b = false) :
    Calls Tryz.prog 19 #[.agg (bfA b p c)] w fun e w' => e = .returned (.tuple #[.slice none 0 0, .int .i64 50]) ∧ Below w.heap.size w w' := by
  have hE := below_alloc w (.cells (bfA b p c) 28)
  have HB := Lib.hid (enter_bad b p c _ (hB.below hE) hb)
  have HE := Lib.hid hE
  have hz := hE.size
  clear hE hB hb
  go_enter Tryz.func19, Tryz.ntmps19
  go_wp2_with fail
  refine HB.out.mono ?_
  rintro e u ⟨rfl, hbu⟩
  have HE := Lib.hid (HE.out.trans (hbu.mono hz))
  clear hbu
  go_wp2_with fail
  go_ret2
  exact ⟨rfl, HE.out.alloc (HE.out.size) _⟩
set_option maxRecDepth 10000 in
set_option maxHeartbeats 1600000 in
theorem Best_yes (b : Bf) (p : Option Addr) (c : Nat) (w : World) (hB : BfAt w p c b) (hb : bookB b = true) :
    Calls Tryz.prog 19 #[.agg (bfA b p c)] w (GavePlan b w) := by
  have hE := below_alloc w (.cells (bfA b p c) 28)
  have hok := bookB_iff.1 hb
  have HB := Lib.hid (enter_yes b p c _ (hB.below hE) hb)
  have HO := Lib.hid (offers_quicker b hok)
  have HE := Lib.hid hE
  have hz := hE.size
  clear hE hB hb hok
  go_enter Tryz.func19, Tryz.ntmps19
  go_wp2_with fail
  refine HB.out.mono ?_
  rintro e u ⟨mb, rfl, hk, hbu⟩
  have hb2 := below_alloc u (.cells (bkA b p c mb) 92)
  have HE := Lib.hid ((HE.out.trans (hbu.mono hz)).alloc ((HE.out.trans (hbu.mono hz)).size) (.cells (bkA b p c mb) 92))
  have HK := Lib.hid (best_any b p c mb 45 (rankQ b) _ (hk.below hb2) HO.out)
  have hz2 := HE.out.size
  clear hbu hb2 hk
  go_wp2_with fail
  refine HK.out.mono ?_
  rintro e v ⟨m, qm, cm, pr, cr, ph, ch, h1, h2, rfl, h4, h5, h6, hbv⟩
  have HM := Lib.hid h1
  have HIM := Lib.hid h4
  have HBV := Lib.hid hbv
  have hfl := field_plan qm m.length cm pr (rightL b m).length cr ph (handL b m).length ch v
  clear h1 h2 h4 h5 h6 hbv
  go_wp2_with fail
  go_ret2
  exact ⟨qm, cm, by rw [show bestQ b = m from bestL_of HM.out]; rfl, by rw [show bestQ b = m from bestL_of HM.out]; exact HIM.out, HE.out.trans (HBV.out.mono hz2)⟩
set_option maxRecDepth 10000 in
set_option maxHeartbeats 1600000 in
theorem Boxes_bad (b : Bf) (p : Option Addr) (c : Nat) (w : World) (hB : BfAt w p c b) (hb : bookB b = false) :
    Calls Tryz.prog 24 #[.agg (bfA b p c)] w fun e w' => e = .returned (.tuple #[.int .i64 0, .int .i64 50]) ∧ Below w.heap.size w w' := by
  have hE := below_alloc w (.cells (bfA b p c) 28)
  have HB := Lib.hid (enter_bad b p c _ (hB.below hE) hb)
  have HE := Lib.hid hE
  have hz := hE.size
  clear hE hB hb
  go_enter Tryz.func24, Tryz.ntmps24
  go_wp2_with fail
  refine HB.out.mono ?_
  rintro e u ⟨rfl, hbu⟩
  have HE := Lib.hid (HE.out.trans (hbu.mono hz))
  clear hbu
  go_wp2_with fail
  go_ret2
  exact ⟨rfl, HE.out.alloc (HE.out.size) _⟩
set_option maxRecDepth 10000 in
set_option maxHeartbeats 1600000 in
theorem Boxes_yes (b : Bf) (p : Option Addr) (c : Nat) (w : World) (hB : BfAt w p c b) (hb : bookB b = true) :
    Calls Tryz.prog 24 #[.agg (bfA b p c)] w fun e w' => e = .returned (.tuple #[.int .i64 ((rightL b (bestR b)).length : Int), .int .i64 0]) ∧ Below w.heap.size w w' := by
  have hE := below_alloc w (.cells (bfA b p c) 28)
  have hok := bookB_iff.1 hb
  have HB := Lib.hid (enter_yes b p c _ (hB.below hE) hb)
  have HO := Lib.hid (offers_surer b)
  have HE := Lib.hid hE
  have hz := hE.size
  clear hE hB hb hok
  go_enter Tryz.func24, Tryz.ntmps24
  go_wp2_with fail
  refine HB.out.mono ?_
  rintro e u ⟨mb, rfl, hk, hbu⟩
  have hb2 := below_alloc u (.cells (bkA b p c mb) 92)
  have HE := Lib.hid ((HE.out.trans (hbu.mono hz)).alloc ((HE.out.trans (hbu.mono hz)).size) (.cells (bkA b p c mb) 92))
  have HK := Lib.hid (best_any b p c mb 52 (rankR b) _ (hk.below hb2) HO.out)
  have hz2 := HE.out.size
  clear hbu hb2 hk
  go_wp2_with fail
  refine HK.out.mono ?_
  rintro e v ⟨m, qm, cm, pr, cr, ph, ch, h1, h2, rfl, h4, h5, h6, hbv⟩
  have HM := Lib.hid h1
  have HIM := Lib.hid h4
  have HBV := Lib.hid hbv
  have hfl := field_right qm m.length cm pr (rightL b m).length cr ph (handL b m).length ch v
  clear h1 h2 h4 h5 h6 hbv
  go_wp2_with fail
  go_ret2
  exact ⟨by rw [show bestR b = m from bestL_of HM.out]; rfl, HE.out.trans (HBV.out.mono hz2)⟩
end Go.Proofs.YticfcdbfplfmlaaGreat
/- The walks of layer 5: how many splints are given more than the labels promise. -/
namespace Go.Proofs.YticfcdbfplfmlaaGreat
open Go.RowKit Go.Maps
attribute [local go_sem] Oper.semAt_some

theorem From.setN {W w : World} (h : From W w) {g : Nat} (hg : W.heap.size ≤ g) (i : Nat) (v : Value) : From W (w.setCell ⟨g, i, none⟩ v) := ⟨h.b.setCell hg v⟩
/-- How many splints are given more than the labels promise, at an end. -/
def overV (f : Hd → Int) (b : Bf) (l : List Int) : Int := sumF f (rightL b l) - b.pr * ((rightL b l).length : Int)
theorem right_mem {b : Bf} (hok : BfOk b) {l : List Int} (hp : planB b l = true) : (rightL b l).length ≤ 8 ∧ ∀ x ∈ rightL b l, (0 ≤ x.lo ∧ x.lo ≤ 100000) ∧ (0 ≤ x.hi ∧ x.hi ≤ 100000) := by
  have hl := plan_len hp
  have hc := count_to b l l.length
  refine ⟨by unfold rightL; have := hok.n8; omega, fun x hx => ?_⟩
  unfold rightL rightTo at hx
  obtain ⟨i, hi, rfl⟩ := List.mem_map.1 hx
  have key : ∀ f : Hd → Int, (∀ h ∈ b.hs, 0 ≤ f h ∧ f h ≤ 200) → ∀ x y : Nat, 0 ≤ sumF f (partL b.hs x y) ∧ sumF f (partL b.hs x y) ≤ 100000 := by
    intro f hf x y
    have h1 := sumF_range (f := f) (hs := partL b.hs x y) (B := 200) (by omega) (fun h hh => hf h (partL_mem hh))
    have h2 : (partL b.hs x y).length ≤ b.hs.length := by unfold partL; simp; omega
    have := hok.n8
    omega
  exact ⟨key Hd.lo (fun h hh => by have := hok.h h hh; have := this.l0; have := (hok.h h hh).l1; have := (hok.h h hh).l2; omega) _ _, key Hd.hi (fun h hh => by have := (hok.h h hh).l0; have := (hok.h h hh).l1; have := (hok.h h hh).l2; omega) _ _⟩

set_option maxRecDepth 10000 in
set_option maxHeartbeats 1600000 in
theorem Over_bad (b : Bf) (p : Option Addr) (c : Nat) (q : Option Addr) (cq : Nat) (l : List Int) (w : World) (hB : BfAt w p c b) (hb : bookB b = false) :
    Calls Tryz.prog 20 #[.agg (bfA b p c), .slice q l.length cq] w fun e w' => e = .returned (.tuple #[.agg #[.int .i64 0, .int .i64 0], .int .i64 50]) ∧ Below w.heap.size w w' := by
  obtain ⟨W0, hW0⟩ : ∃ W, W = ((w.alloc (.cells (bfA b p c) 28)).alloc (.cells #[.int .i64 0, .int .i64 0] 43)) := ⟨_, rfl⟩
  have HW0 := Lib.hid hW0
  have HE := Lib.hid (show Below w.heap.size w W0 by rw [hW0]; exact below_alloc2 _ _ _)
  have HR := Lib.hid (show Row W0 w.heap.size (bfA b p c) 28 by rw [hW0]; exact (Row.new w _ _).alloc _)
  have HQ := Lib.hid (show Row W0 (w.heap.size + 1) #[.int .i64 0, .int .i64 0] 43 by rw [hW0]; exact Row.new1 w _ _ _)
  have HB := Lib.hid hB
  have HC := Lib.hid (follow_bad b p c q cq l W0 (hB.below HE.out) hb)
  have hzq := HQ.out.lt
  have g0 := HR.out.cell 0 (v := .int .i64 b.pr) rfl
  have g1 := HR.out.cell 1 (v := .int .i64 b.le) rfl
  have g2 := HR.out.cell 2 (v := .int .i64 b.mo) rfl
  have g3 := HR.out.cell 3 (v := .int .i64 b.gr) rfl
  have g4 := HR.out.cell 4 (v := .slice p b.hs.length c) rfl
  clear hW0 hB hb
  go_enter Tryz.func20, Tryz.ntmps20
  go_wp2_with fail
  rw [← HW0.out]
  refine HC.out.mono ?_
  rintro e u ⟨rfl, hbu⟩
  obtain ⟨z0, rfl⟩ := later_of hbu
  clear hbu
  obtain ⟨z, hz⟩ := z0.on (below_alloc z0.w (.cells noOut 96))
  have HZ := Lib.hid hz
  clear hz
  go_upto_region 3 with (fail)
  rw [HZ.out]
  have HQ := Lib.hid (z.fr.row HQ.out)
  have HE := Lib.hid (z.base HE.out)
  have c0 := HQ.out.cell 0 (v := .int .i64 0) rfl
  have f0 := HQ.out.free 0
  have c1 := HQ.out.cell 1 (v := .int .i64 0) rfl
  have f1 := HQ.out.free 1
  go_wp2_with fail
  clear c0 f0 c1 f1
  have qq := ((HQ.out.set 0 (.int .i64 0)).set 1 (.int .i64 0))
  have e0 := qq.cell 0 (v := .int .i64 0) rfl
  have e1 := qq.cell 1 (v := .int .i64 0) rfl
  have HEE := Lib.hid (show Below w.heap.size w ((z.w.setCell ⟨w.heap.size + 1, 0, none⟩ (.int .i64 0)).setCell ⟨w.heap.size + 1, 1, none⟩ (.int .i64 0)) from ((HE.out.setCell (by dsimp only; omega) _).setCell (by dsimp only; omega) _))
  exact bodyPost_ret (v := .tuple #[.agg #[.int .i64 0, .int .i64 0], .int .i64 50]) (by simp [results, Tryz.results20, go_sem, e0, e1]) rfl
    ⟨rfl, HEE.out⟩

set_option maxRecDepth 10000 in
set_option maxHeartbeats 1600000 in
theorem Over_no (b : Bf) (p : Option Addr) (c : Nat) (q : Option Addr) (cq : Nat) (l : List Int) (w : World) (hB : BfAt w p c b) (hb : bookB b = true) (hl : IntsAt w q l) (hn : l.length < 2 ^ 62) (h64 : ∀ i, i < l.length → I64 (at0 l i)) (hp : planB b l = false) :
    Calls Tryz.prog 20 #[.agg (bfA b p c), .slice q l.length cq] w fun e w' => e = .returned (.tuple #[.agg #[.int .i64 0, .int .i64 0], .int .i64 51]) ∧ Below w.heap.size w w' := by
  obtain ⟨W0, hW0⟩ : ∃ W, W = ((w.alloc (.cells (bfA b p c) 28)).alloc (.cells #[.int .i64 0, .int .i64 0] 43)) := ⟨_, rfl⟩
  have HW0 := Lib.hid hW0
  have HE := Lib.hid (show Below w.heap.size w W0 by rw [hW0]; exact below_alloc2 _ _ _)
  have HR := Lib.hid (show Row W0 w.heap.size (bfA b p c) 28 by rw [hW0]; exact (Row.new w _ _).alloc _)
  have HQ := Lib.hid (show Row W0 (w.heap.size + 1) #[.int .i64 0, .int .i64 0] 43 by rw [hW0]; exact Row.new1 w _ _ _)
  have HB := Lib.hid hB
  have HC := Lib.hid (follow_no b p c q cq l W0 (hB.below HE.out) hb (hl.below HE.out) hn h64 hp)
  have hzq := HQ.out.lt
  have g0 := HR.out.cell 0 (v := .int .i64 b.pr) rfl
  have g1 := HR.out.cell 1 (v := .int .i64 b.le) rfl
  have g2 := HR.out.cell 2 (v := .int .i64 b.mo) rfl
  have g3 := HR.out.cell 3 (v := .int .i64 b.gr) rfl
  have g4 := HR.out.cell 4 (v := .slice p b.hs.length c) rfl
  clear hW0 hB hb hl h64 hp
  go_enter Tryz.func20, Tryz.ntmps20
  go_wp2_with fail
  rw [← HW0.out]
  refine HC.out.mono ?_
  rintro e u ⟨rfl, hbu⟩
  obtain ⟨z0, rfl⟩ := later_of hbu
  clear hbu
  obtain ⟨z, hz⟩ := z0.on (below_alloc z0.w (.cells noOut 96))
  have HZ := Lib.hid hz
  clear hz
  go_upto_region 3 with (fail)
  rw [HZ.out]
  have HQ := Lib.hid (z.fr.row HQ.out)
  have HE := Lib.hid (z.base HE.out)
  have c0 := HQ.out.cell 0 (v := .int .i64 0) rfl
  have f0 := HQ.out.free 0
  have c1 := HQ.out.cell 1 (v := .int .i64 0) rfl
  have f1 := HQ.out.free 1
  go_wp2_with fail
  clear c0 f0 c1 f1
  have qq := ((HQ.out.set 0 (.int .i64 0)).set 1 (.int .i64 0))
  have e0 := qq.cell 0 (v := .int .i64 0) rfl
  have e1 := qq.cell 1 (v := .int .i64 0) rfl
  have HEE := Lib.hid (show Below w.heap.size w ((z.w.setCell ⟨w.heap.size + 1, 0, none⟩ (.int .i64 0)).setCell ⟨w.heap.size + 1, 1, none⟩ (.int .i64 0)) from ((HE.out.setCell (by dsimp only; omega) _).setCell (by dsimp only; omega) _))
  exact bodyPost_ret (v := .tuple #[.agg #[.int .i64 0, .int .i64 0], .int .i64 51]) (by simp [results, Tryz.results20, go_sem, e0, e1]) rfl
    ⟨rfl, HEE.out⟩

set_option maxRecDepth 10000 in
set_option maxHeartbeats 1600000 in
theorem Over_yes (b : Bf) (p : Option Addr) (c : Nat) (q : Option Addr) (cq : Nat) (l : List Int) (w : World) (hB : BfAt w p c b) (hb : bookB b = true) (hl : IntsAt w q l) (hn : l.length < 2 ^ 62) (h64 : ∀ i, i < l.length → I64 (at0 l i)) (hp : planB b l = true) :
    Calls Tryz.prog 20 #[.agg (bfA b p c), .slice q l.length cq] w fun e w' => e = .returned (.tuple #[.agg #[.int .i64 (overV Hd.lo b l), .int .i64 (overV Hd.hi b l)], .int .i64 0]) ∧ Below w.heap.size w w' := by
  obtain ⟨W0, hW0⟩ : ∃ W, W = ((w.alloc (.cells (bfA b p c) 28)).alloc (.cells #[.int .i64 0, .int .i64 0] 43)) := ⟨_, rfl⟩
  have HW0 := Lib.hid hW0
  have HE := Lib.hid (show Below w.heap.size w W0 by rw [hW0]; exact below_alloc2 _ _ _)
  have HR := Lib.hid (show Row W0 w.heap.size (bfA b p c) 28 by rw [hW0]; exact (Row.new w _ _).alloc _)
  have HQ := Lib.hid (show Row W0 (w.heap.size + 1) #[.int .i64 0, .int .i64 0] 43 by rw [hW0]; exact Row.new1 w _ _ _)
  have HB := Lib.hid hB
  have hok := bookB_iff.1 hb
  have HC := Lib.hid (follow_yes b p c q cq l W0 (hB.below HE.out) hb (hl.below HE.out) hn h64 hp)
  obtain ⟨hr8, hrm⟩ := right_mem hok hp
  have HPL := Lib.hid (fun q c w' (h : HdsAt w' q (rightL b l)) => together_any q c (rightL b l) w' h (by omega) hrm)
  have hp1 := hok.p1
  have hp2 := hok.p2
  have hzq := HQ.out.lt
  have g0 := HR.out.cell 0 (v := .int .i64 b.pr) rfl
  have g1 := HR.out.cell 1 (v := .int .i64 b.le) rfl
  have g2 := HR.out.cell 2 (v := .int .i64 b.mo) rfl
  have g3 := HR.out.cell 3 (v := .int .i64 b.gr) rfl
  have g4 := HR.out.cell 4 (v := .slice p b.hs.length c) rfl
  clear hW0 hB hb hl h64 hp hok
  go_enter Tryz.func20, Tryz.ntmps20
  go_wp2_with fail
  rw [← HW0.out]
  refine HC.out.mono ?_
  rintro e u ⟨pr, cr, ph, ch, rfl, hds, hih, hbu⟩
  obtain ⟨z0, rfl⟩ := later_of hbu
  have HD := Lib.hid (hds.below (below_alloc z0.w (.cells (outA q l.length cq pr (rightL b l).length cr ph (handL b l).length ch) 96)))
  obtain ⟨z, hz⟩ := z0.on (below_alloc z0.w (.cells (outA q l.length cq pr (rightL b l).length cr ph (handL b l).length ch) 96))
  have RO := Lib.hid (Row.new z0.w (outA q l.length cq pr (rightL b l).length cr ph (handL b l).length ch) 96)
  have HZ := Lib.hid hz
  clear hbu hds hih hz
  go_upto_region 4 with (fail)
  rw [HZ.out] at HD RO
  rw [HZ.out]
  have hbz := below_alloc z.w (.cells #[.int .i64 0, .int .i64 0] 43)
  have hbd : Below z.w.heap.size z.w ((z.w.alloc (.cells #[.int .i64 0, .int .i64 0] 43)).drew) := ((Below.refl _ _).alloc (Nat.le_refl _) _).drew
  have HT1 := Lib.hid (HPL.out pr cr z.w.drew HD.out)
  have HT2 := Lib.hid (HPL.out pr cr ((z.w.alloc (.cells #[.int .i64 0, .int .i64 0] 43)).drew) (HD.out.below hbd))
  have r1 := RO.out.cell 1 (v := .slice pr (rightL b l).length cr) rfl
  have o0 := z.fr.cell g0
  have HS := Lib.hid (fun w' (k : From z.w w') => (⟨k.cell r1, k.cell o0⟩ : w'.cell? ⟨z0.w.heap.size, 1, none⟩ = some (.slice pr (rightL b l).length cr) ∧ w'.cell? ⟨w.heap.size, 0, none⟩ = some (.int .i64 b.pr)))
  have KO := Lib.hid (show From z.w z.w.drew from (From.refl z.w).drew)
  have KA := Lib.hid (show From z.w ((z.w.alloc (.cells #[.int .i64 0, .int .i64 0] 43)).drew) from ⟨hbd⟩)
  have RA := Lib.hid (Row.new z.w #[.int .i64 0, .int .i64 0] 43).drew
  have hm0 : (0 : Int) ≤ b.pr * ((rightL b l).length : Int) := Int.mul_nonneg (by omega) (by omega)
  have hm1 : b.pr * ((rightL b l).length : Int) ≤ 4000 := by
    have h := Int.mul_le_mul hp2 (show ((rightL b l).length : Int) ≤ 8 by omega) (by omega) (by omega)
    omega
  have hs0 := sumF_range (f := Hd.lo) (hs := rightL b l) (B := 100000) (by omega) (fun x hx => (hrm x hx).1)
  have hs1 := sumF_range (f := Hd.hi) (hs := rightL b l) (B := 100000) (by omega) (fun x hx => (hrm x hx).2)
  have e9 : IntKind.i64.wrap (b.pr * ((rightL b l).length : Int)) = b.pr * ((rightL b l).length : Int) := IntWalk.i64_in _ (by omega)
  have HRM := Lib.hid hrm
  clear hbz hbd g0 g1 g2 g3 g4 r1 o0 hrm
  have hx0 : (rightL b l).length * 100000 ≤ 800000 := by omega
  generalize hlo : sumF Hd.lo (rightL b l) = lo at *
  generalize hhi : sumF Hd.hi (rightL b l) = hi at *
  have HLO := Lib.hid hlo
  have HHI := Lib.hid hhi
  clear hlo hhi
  go_region_held3 (fun w' => w'.cell? ⟨z0.w.heap.size, 1, none⟩ = some (.slice pr (rightL b l).length cr) ∧ w'.cell? ⟨w.heap.size, 0, none⟩ = some (.int .i64 b.pr))
    (first | with_reducible exact HS.out _ KO.out | with_reducible exact HS.out _ KA.out | with_reducible exact HS.out _ (KO.out.below (below_alloc _ _)) | with_reducible exact HS.out _ ((KO.out.setN (Nat.le_refl _) _ _).setN (Nat.le_refl _) _ _))
    (first
      | (go_at_call 47; (with_reducible refine HT1.out.mono ?_); rintro e u ⟨rfl, hbu⟩; have KO := Lib.hid (KO.out.below hbu); clear hbu)
      | (go_at_call 47; (with_reducible refine HT2.out.mono ?_); rintro e u ⟨rfl, hbu⟩; have RA := Lib.hid (RA.out.below hbu RA.out.lt); have KO := Lib.hid (KA.out.below hbu); have a0 := RA.out.cell 0 (v := .int .i64 0) rfl; have a1 := RA.out.cell 1 (v := .int .i64 0) rfl; have a2 := RA.out.free 0; have a3 := RA.out.free 1; clear hbu))
  · have KF := Lib.hid (KO.out.below (below_alloc u (.cells #[.int .i64 lo, .int .i64 hi] 43)))
    have RF := Lib.hid (Row.new u #[.int .i64 lo, .int .i64 hi] 43)
    have hgz : w.heap.size + 1 < u.heap.size := by
      have h1 := z.b.size
      have h2 := KO.out.b.size
      omega
    have HQ2 := Lib.hid (KF.out.row (z.fr.row HQ.out))
    have x0 := RF.out.cell 0 (v := .int .i64 lo) rfl
    have x1 := RF.out.cell 1 (v := .int .i64 hi) rfl
    have c0 := HQ2.out.cell 0 (v := .int .i64 0) rfl
    have f0 := HQ2.out.free 0
    have c1 := HQ2.out.cell 1 (v := .int .i64 0) rfl
    have f1 := HQ2.out.free 1
    have HEZ := Lib.hid ((z.base HE.out).trans (KF.out.b.mono (z.base HE.out).size))
    clear e9
    change Exit.then _ _ Exit.normal _ (u.alloc (.cells #[.int .i64 lo, .int .i64 hi] 43))
    generalize u.alloc (.cells #[.int .i64 lo, .int .i64 hi] 43) = cur at *
    go_wp2_with fail
    clear x0 x1 c0 f0 c1 f1
    have qq := ((HQ2.out.set 0 (.int .i64 (lo - b.pr * ((rightL b l).length : Int)))).set 1 (.int .i64 (hi - b.pr * ((rightL b l).length : Int))))
    have e0 := qq.cell 0 (v := .int .i64 (lo - b.pr * ((rightL b l).length : Int))) rfl
    have e1 := qq.cell 1 (v := .int .i64 (hi - b.pr * ((rightL b l).length : Int))) rfl
    have HEE := Lib.hid (show Below w.heap.size w ((cur.setCell ⟨w.heap.size + 1, 0, none⟩ (.int .i64 (lo - b.pr * ((rightL b l).length : Int)))).setCell ⟨w.heap.size + 1, 1, none⟩ (.int .i64 (hi - b.pr * ((rightL b l).length : Int)))) from ((HEZ.out.setCell (by dsimp only; omega) _).setCell (by dsimp only; omega) _))
    exact bodyPost_ret (v := .tuple #[.agg #[.int .i64 (lo - b.pr * ((rightL b l).length : Int)), .int .i64 (hi - b.pr * ((rightL b l).length : Int))], .int .i64 0]) (by simp [results, Tryz.results20, go_sem, e0, e1]) rfl
      ⟨by unfold overV; rw [HLO.out, HHI.out], HEE.out⟩
  · have KF := Lib.hid ((KO.out.setN (Nat.le_refl _) 0 (.int .i64 lo)).setN (Nat.le_refl _) 1 (.int .i64 hi))
    have RF := Lib.hid ((RA.out.set 0 (.int .i64 lo)).set 1 (.int .i64 hi))
    have hgz : w.heap.size + 1 < z.w.heap.size := by
      have h1 := z.b.size
      have h2 := KO.out.b.size
      omega
    have HQ2 := Lib.hid (KF.out.row (z.fr.row HQ.out))
    have x0 := RF.out.cell 0 (v := .int .i64 lo) rfl
    have x1 := RF.out.cell 1 (v := .int .i64 hi) rfl
    have c0 := HQ2.out.cell 0 (v := .int .i64 0) rfl
    have f0 := HQ2.out.free 0
    have c1 := HQ2.out.cell 1 (v := .int .i64 0) rfl
    have f1 := HQ2.out.free 1
    have HEZ := Lib.hid ((z.base HE.out).trans (KF.out.b.mono (z.base HE.out).size))
    clear e9
    change Exit.then _ _ Exit.normal _ ((u.setCell ⟨z.w.heap.size, 0, none⟩ (.int .i64 lo)).setCell ⟨z.w.heap.size, 1, none⟩ (.int .i64 hi))
    generalize (u.setCell ⟨z.w.heap.size, 0, none⟩ (.int .i64 lo)).setCell ⟨z.w.heap.size, 1, none⟩ (.int .i64 hi) = cur at *
    go_wp2_with fail
    clear x0 x1 c0 f0 c1 f1
    have qq := ((HQ2.out.set 0 (.int .i64 (lo - b.pr * ((rightL b l).length : Int)))).set 1 (.int .i64 (hi - b.pr * ((rightL b l).length : Int))))
    have e0 := qq.cell 0 (v := .int .i64 (lo - b.pr * ((rightL b l).length : Int))) rfl
    have e1 := qq.cell 1 (v := .int .i64 (hi - b.pr * ((rightL b l).length : Int))) rfl
    have HEE := Lib.hid (show Below w.heap.size w ((cur.setCell ⟨w.heap.size + 1, 0, none⟩ (.int .i64 (lo - b.pr * ((rightL b l).length : Int)))).setCell ⟨w.heap.size + 1, 1, none⟩ (.int .i64 (hi - b.pr * ((rightL b l).length : Int)))) from ((HEZ.out.setCell (by dsimp only; omega) _).setCell (by dsimp only; omega) _))
    exact bodyPost_ret (v := .tuple #[.agg #[.int .i64 (lo - b.pr * ((rightL b l).length : Int)), .int .i64 (hi - b.pr * ((rightL b l).length : Int))], .int .i64 0]) (by simp [results, Tryz.results20, go_sem, e0, e1]) rfl
      ⟨by unfold overV; rw [HLO.out, HHI.out], HEE.out⟩

end Go.Proofs.YticfcdbfplfmlaaGreat
/- The walks of layer 5: a handful is counted. -/
namespace Go.Proofs.YticfcdbfplfmlaaGreat
open Go.RowKit Go.Maps
attribute [local go_sem] Oper.semAt_some

theorem eq_nil {P : Program} (w : World) (t e : TypeId) (a : Option Addr) (n c : Nat) (h : P.underlying t = some (.slice e)) : (binOp .eql t (.slice a n c) (.slice none 0 0)).run P w = .ok (.bool a.isNone) w := Lib.run_eql_slice_nil w t e a n c 0 0 h
/-- Such handfuls lie in these cells. -/
def HoldsH (f : Nat → Option Value) (hs : List Hd) : Prop := ∀ i (h : i < hs.length), f (i * 2) = some (.int .i64 hs[i].lo) ∧ f (i * 2 + 1) = some (.int .i64 hs[i].hi)
theorem hds_row {w : World} {g : Nat} {cur : Array Value} {t : TypeId} {hs : List Hd} (hr : Row w g cur t) (h : HoldsH (cur[·]?) hs) : HdsAt w (some ⟨g, 0, none⟩) hs := fun i hi =>
  ⟨g, 0, rfl, by rw [Nat.zero_add]; exact hr.cell _ (h i hi).1, by rw [Nat.zero_add]; exact hr.cell _ (h i hi).2⟩
theorem hdV_at : ∀ (hs : List Hd) (i : Nat) (hi : i < hs.length), (hdV hs)[i * 2]? = some (.int .i64 hs[i].lo) ∧ (hdV hs)[i * 2 + 1]? = some (.int .i64 hs[i].hi)
  | [], i, hi => by simp at hi
  | x :: hs, 0, _ => by simp [hdV]
  | x :: hs, i + 1, hi => by
    have e : hdV (x :: hs) = .int .i64 x.lo :: .int .i64 x.hi :: hdV hs := by simp [hdV]
    rw [e, show (i + 1) * 2 = i * 2 + 1 + 1 by omega]
    simpa using hdV_at hs i (by simpa using hi)
theorem hds_cells {w : World} {b o : Nat} {hs : List Hd} (h : HdsAt w (some ⟨b, o, none⟩) hs) {j : Nat} {u : Value} (hj : (hdV hs)[j]? = some u) : w.cell? ⟨b, o + j, none⟩ = some u := by
  have hl := (List.getElem?_eq_some_iff.1 hj).1
  rw [hdV_length] at hl
  obtain ⟨a1, a2⟩ := hdV_at hs (j / 2) (by omega)
  obtain ⟨b', o', e, h1, h2⟩ := h (j / 2) (by omega)
  cases e
  rcases Nat.mod_two_eq_zero_or_one j with hm | hm
  · rw [show j / 2 * 2 = j by omega] at a1 h1
    rw [a1] at hj
    rw [h1, ← hj]
  · rw [show j / 2 * 2 + 1 = j by omega] at a2
    rw [show o + j / 2 * 2 + 1 = o + j by omega] at h2
    rw [a2] at hj
    rw [h2, ← hj]
theorem cur_of_take {cur : Array Value} {n : Nat} {vs : List Value} (h : cur.toList.take n = vs) {j : Nat} {u : Value} (hj : vs[j]? = some u) : cur[j]? = some u := by
  subst h
  have hl : j < n := by
    have := (List.getElem?_eq_some_iff.1 hj).1
    rw [List.length_take] at this; omega
  rw [List.getElem?_take_of_lt hl] at hj
  simpa using hj
theorem hdV_one (hs : List Hd) : ∀ u ∈ hdV hs, u.oneCell' = true := by
  intro u hu
  unfold hdV at hu
  obtain ⟨x, _, hx⟩ := List.mem_flatMap.1 hu
  simp at hx
  rcases hx with rfl | rfl <;> rfl
theorem copy_hds (w : World) (hs : List Hd) (b o c : Nat) (h : HdsAt w (some ⟨b, o, none⟩) hs) (h1 : 0 < hs.length) (h3 : hs.length ≤ 10) (ty : TypeId) (z : Nat) :
    ∃ g cap cur w', (Builtin.append_ #[26, 26] ty #[.slice (some ⟨z, 0, none⟩) 0 0, .slice (some ⟨b, o, none⟩) hs.length c]).run Tryz.prog w = .ok (.slice (some ⟨g, 0, none⟩) hs.length cap) w' ∧ Row w' g cur 43 ∧ w.heap.size ≤ g ∧ hs.length ≤ cap ∧ Below w.heap.size w w' ∧ HoldsH (cur[·]?) hs := by
  obtain ⟨i0, hi, hi0, hi1, hi2⟩ := info_parts Tryz.infoSpan
  obtain ⟨v', w', hr, hown, hg⟩ := run_append_arg_grows (P := Tryz.prog) w 26 ty 43 i0 _ 2 16 Tryz.underlying26 hi hi0 hi1 hi2 rfl (by decide) ⟨z, 0, none⟩ 0 0 [] rfl (fun j u h => by simp at h)
      ⟨b, o, none⟩ hs.length c (hdV hs) (hdV_length hs) (fun j u hj => by rw [Addr.add_lit]; exact hds_cells h hj) (by omega) (by unfold maxLen; omega) (by omega)
  rw [List.nil_append, Nat.zero_add] at hown
  rcases hown.2 with ⟨_, hn⟩ | ⟨g, cap, cur, hv, hg0, hh, h1, h2, h3, h4⟩
  · omega
  · subst hv
    refine ⟨g, cap, cur, w', hr, hh, hg0, h1, ⟨hg.os, hg.tape, hg.output, hg.size, fun k hk => hg.block k hk (by simp)⟩, fun i hi => ?_⟩
    obtain ⟨a0, a1⟩ := hdV_at hs i hi
    exact ⟨cur_of_take h4 a0, cur_of_take h4 a1⟩
/-- The call returned a copy in a block of its own. -/
def GaveCopy (hs : List Hd) (w : World) (e : Ending) (w' : World) : Prop := ∃ g cap cur, e = .returned (.slice (some ⟨g, 0, none⟩) hs.length cap) ∧ Row w' g cur 43 ∧ w.heap.size ≤ g ∧ hs.length ≤ cap ∧ HoldsH (cur[·]?) hs ∧ Below w.heap.size w w'
/-- A book of which a handful is known. -/
def setB (b : Bf) (k : Nat) (lo hi : Int) : Bf := { b with hs := b.hs.set k ⟨lo, hi⟩ }
theorem setB_len (b : Bf) (k : Nat) (lo hi : Int) : (setB b k lo hi).hs.length = b.hs.length := by simp [setB]
theorem holds_set {cur : Array Value} {b : Bf} (h : HoldsH (cur[·]?) b.hs) {k : Nat} (hk : k < b.hs.length) (lo hi : Int) : HoldsH (((cur.setIfInBounds (k * 2) (.int .i64 lo)).setIfInBounds (k * 2 + 1) (.int .i64 hi))[·]?) (setB b k lo hi).hs := by
  intro i hl
  rw [setB_len] at hl
  obtain ⟨h0, h1⟩ := h i hl
  obtain ⟨g0, g1⟩ := h k hk
  have hs4 := (Array.getElem?_eq_some_iff.1 g0).1
  have hs5 := (Array.getElem?_eq_some_iff.1 g1).1
  have key : ∀ (j : Nat) u, cur[j]? = some u → j ≠ k * 2 → j ≠ k * 2 + 1 → ((cur.setIfInBounds (k * 2) (.int .i64 lo)).setIfInBounds (k * 2 + 1) (.int .i64 hi))[j]? = some u := by
    intro j u hj n4 n5
    rw [Array.getElem?_setIfInBounds, if_neg (fun e => n5 e.symm), Array.getElem?_setIfInBounds, if_neg (fun e => n4 e.symm)]
    exact hj
  simp only [setB]
  by_cases e : i = k
  · subst e
    simp only [List.getElem_set_self]
    refine ⟨?_, ?_⟩
    · rw [Array.getElem?_setIfInBounds, if_neg (by omega), Array.getElem?_setIfInBounds, if_pos rfl, if_pos hs4]
    · rw [Array.getElem?_setIfInBounds, if_pos rfl, if_pos (by simpa using hs5)]
  · rw [List.getElem_set_ne (fun e2 => e e2.symm)]
    exact ⟨key _ _ h0 (by omega) (by omega), key _ _ h1 (by omega) (by omega)⟩
/-- The call returned a book with another handful. -/
def GaveSet (b : Bf) (k : Nat) (lo hi : Int) (w : World) (e : Ending) (w' : World) : Prop := ∃ g cap, e = .returned (.agg (bfA (setB b k lo hi) (some ⟨g, 0, none⟩) cap)) ∧ BfAt w' (some ⟨g, 0, none⟩) cap (setB b k lo hi) ∧ w.heap.size ≤ g ∧ Below w.heap.size w w'
abbrev noBf : Array Value := #[.int .i64 0, .int .i64 0, .int .i64 0, .int .i64 0, .slice none 0 0]
end Go.Proofs.YticfcdbfplfmlaaGreat
/- The walks of layer 5: what kind a box is of. -/
namespace Go.Proofs.YticfcdbfplfmlaaGreat
open Go.RowKit Go.Maps
attribute [local go_sem] Oper.semAt_some

end Go.Proofs.YticfcdbfplfmlaaGreat
/- The walks of layer 5: the splints of a box. -/
namespace Go.Proofs.YticfcdbfplfmlaaGreat
open Go.RowKit Go.Maps
attribute [local go_sem] Oper.semAt_some

set_option maxRecDepth 10000 in
set_option maxHeartbeats 1600000 in
theorem Sum_bad (b : Bf) (p : Option Addr) (c : Nat) (x y : Int) (w : World) (hB : BfAt w p c b) (hb : bookB b = false) :
    Calls Tryz.prog 29 #[.agg (bfA b p c), .int .i64 x, .int .i64 y] w fun e w' => e = .returned (.tuple #[.agg #[.int .i64 0, .int .i64 0], .int .i64 50]) ∧ Below w.heap.size w w' := by
  obtain ⟨W0, hW0⟩ : ∃ W, W = ((w.alloc (.cells (bfA b p c) 28)).alloc (.cells #[.int .i64 0, .int .i64 0] 43)) := ⟨_, rfl⟩
  have HW0 := Lib.hid hW0
  have HE := Lib.hid (show Below w.heap.size w W0 by rw [hW0]; exact below_alloc2 _ _ _)
  have HR := Lib.hid (show Row W0 w.heap.size (bfA b p c) 28 by rw [hW0]; exact (Row.new w _ _).alloc _)
  have HQ := Lib.hid (show Row W0 (w.heap.size + 1) #[.int .i64 0, .int .i64 0] 43 by rw [hW0]; exact Row.new1 w _ _ _)
  have HB := Lib.hid hB
  have HC := Lib.hid (fun w' (q : From W0 w') => (by have h := Check_any b p c w' (hB.below (HE.out.trans (q.b.mono HE.out.size))); rw [bookE_bad hb] at h; exact h : Calls Tryz.prog 5 #[.agg (bfA b p c)] w' fun e w'' => e = .returned (.int .i64 50) ∧ Below w'.heap.size w' w''))
  have hzq := HQ.out.lt
  have g0 := HR.out.cell 0 (v := .int .i64 b.pr) rfl
  have g1 := HR.out.cell 1 (v := .int .i64 b.le) rfl
  have g2 := HR.out.cell 2 (v := .int .i64 b.mo) rfl
  have g3 := HR.out.cell 3 (v := .int .i64 b.gr) rfl
  have g4 := HR.out.cell 4 (v := .slice p b.hs.length c) rfl
  clear hW0 hB hb
  go_enter Tryz.func29, Tryz.ntmps29
  go_wp2_with fail
  rw [← HW0.out]
  refine (HC.out _ (From.refl W0)).mono ?_
  rintro e u ⟨rfl, hbu⟩
  obtain ⟨z, rfl⟩ := later_of hbu
  clear hbu
  have HQ := Lib.hid (z.fr.row HQ.out)
  have HE := Lib.hid (z.base HE.out)
  have c0 := HQ.out.cell 0 (v := .int .i64 0) rfl
  have c1 := HQ.out.cell 1 (v := .int .i64 0) rfl
  have f0 := HQ.out.free 0
  have f1 := HQ.out.free 1
  go_wp2_with fail
  clear c0 c1 f0 f1
  have q := (HQ.out.set 0 (.int .i64 0)).set 1 (.int .i64 0)
  have e0 := q.cell 0 (v := .int .i64 0) rfl
  have e1 := q.cell 1 (v := .int .i64 0) rfl
  exact bodyPost_ret (v := .tuple #[.agg #[.int .i64 0, .int .i64 0], .int .i64 50]) (by simp [results, Tryz.results29, go_sem, e0, e1]) rfl
    ⟨rfl, (HE.out.setCell (by dsimp only; omega) _).setCell (by dsimp only; omega) _⟩

set_option maxRecDepth 10000 in
set_option maxHeartbeats 1600000 in
theorem Sum_no1 (b : Bf) (p : Option Addr) (c : Nat) (x y : Int) (w : World) (hB : BfAt w p c b) (hb : bookB b = true) (hf : fits x 0 y = false) :
    Calls Tryz.prog 29 #[.agg (bfA b p c), .int .i64 x, .int .i64 y] w fun e w' => e = .returned (.tuple #[.agg #[.int .i64 0, .int .i64 0], .int .i64 51]) ∧ Below w.heap.size w w' := by
  obtain ⟨W0, hW0⟩ : ∃ W, W = ((w.alloc (.cells (bfA b p c) 28)).alloc (.cells #[.int .i64 0, .int .i64 0] 43)) := ⟨_, rfl⟩
  have HW0 := Lib.hid hW0
  have HE := Lib.hid (show Below w.heap.size w W0 by rw [hW0]; exact below_alloc2 _ _ _)
  have HR := Lib.hid (show Row W0 w.heap.size (bfA b p c) 28 by rw [hW0]; exact (Row.new w _ _).alloc _)
  have HQ := Lib.hid (show Row W0 (w.heap.size + 1) #[.int .i64 0, .int .i64 0] 43 by rw [hW0]; exact Row.new1 w _ _ _)
  have HB := Lib.hid hB
  have HC := Lib.hid (fun w' (q : From W0 w') => (by have h := Check_any b p c w' (hB.below (HE.out.trans (q.b.mono HE.out.size))); rw [bookE_ok hb] at h; exact h : Calls Tryz.prog 5 #[.agg (bfA b p c)] w' fun e w'' => e = .returned (.int .i64 0) ∧ Below w'.heap.size w' w''))
  have hzq := HQ.out.lt
  have g0 := HR.out.cell 0 (v := .int .i64 b.pr) rfl
  have g1 := HR.out.cell 1 (v := .int .i64 b.le) rfl
  have g2 := HR.out.cell 2 (v := .int .i64 b.mo) rfl
  have g3 := HR.out.cell 3 (v := .int .i64 b.gr) rfl
  have g4 := HR.out.cell 4 (v := .slice p b.hs.length c) rfl
  have HF := Lib.hid (fun w' => (by have h := within_any x 0 y w'; rw [hf] at h; exact h : Calls Tryz.prog 50 #[.int .i64 x, .int .i64 0, .int .i64 y] w' fun e w'' => e = .returned (.bool false) ∧ w' = w''))
  clear hW0 hB hb hf
  go_enter Tryz.func29, Tryz.ntmps29
  go_wp2_with fail
  rw [← HW0.out]
  refine (HC.out _ (From.refl W0)).mono ?_
  rintro e u ⟨rfl, hbu⟩
  obtain ⟨z, rfl⟩ := later_of hbu
  clear hbu
  go_wp2_with fail
  refine (HF.out _).mono ?_
  rintro e u ⟨rfl, rfl⟩
  have HQ := Lib.hid (z.fr.row HQ.out)
  have HE := Lib.hid (z.base HE.out)
  have c0 := HQ.out.cell 0 (v := .int .i64 0) rfl
  have c1 := HQ.out.cell 1 (v := .int .i64 0) rfl
  have f0 := HQ.out.free 0
  have f1 := HQ.out.free 1
  go_wp2_with fail
  clear c0 c1 f0 f1
  have q := (HQ.out.set 0 (.int .i64 0)).set 1 (.int .i64 0)
  have e0 := q.cell 0 (v := .int .i64 0) rfl
  have e1 := q.cell 1 (v := .int .i64 0) rfl
  exact bodyPost_ret (v := .tuple #[.agg #[.int .i64 0, .int .i64 0], .int .i64 51]) (by simp [results, Tryz.results29, go_sem, e0, e1]) rfl
    ⟨rfl, (HE.out.setCell (by dsimp only; omega) _).setCell (by dsimp only; omega) _⟩

set_option maxRecDepth 10000 in
set_option maxHeartbeats 1600000 in
theorem Sum_no2 (b : Bf) (p : Option Addr) (c : Nat) (x y : Int) (w : World) (hB : BfAt w p c b) (hb : bookB b = true) (hf : fits x 0 y = true) (hy : (b.hs.length : Int) < y) :
    Calls Tryz.prog 29 #[.agg (bfA b p c), .int .i64 x, .int .i64 y] w fun e w' => e = .returned (.tuple #[.agg #[.int .i64 0, .int .i64 0], .int .i64 51]) ∧ Below w.heap.size w w' := by
  obtain ⟨W0, hW0⟩ : ∃ W, W = ((w.alloc (.cells (bfA b p c) 28)).alloc (.cells #[.int .i64 0, .int .i64 0] 43)) := ⟨_, rfl⟩
  have HW0 := Lib.hid hW0
  have HE := Lib.hid (show Below w.heap.size w W0 by rw [hW0]; exact below_alloc2 _ _ _)
  have HR := Lib.hid (show Row W0 w.heap.size (bfA b p c) 28 by rw [hW0]; exact (Row.new w _ _).alloc _)
  have HQ := Lib.hid (show Row W0 (w.heap.size + 1) #[.int .i64 0, .int .i64 0] 43 by rw [hW0]; exact Row.new1 w _ _ _)
  have HB := Lib.hid hB
  have HC := Lib.hid (fun w' (q : From W0 w') => (by have h := Check_any b p c w' (hB.below (HE.out.trans (q.b.mono HE.out.size))); rw [bookE_ok hb] at h; exact h : Calls Tryz.prog 5 #[.agg (bfA b p c)] w' fun e w'' => e = .returned (.int .i64 0) ∧ Below w'.heap.size w' w''))
  have hzq := HQ.out.lt
  have g0 := HR.out.cell 0 (v := .int .i64 b.pr) rfl
  have g1 := HR.out.cell 1 (v := .int .i64 b.le) rfl
  have g2 := HR.out.cell 2 (v := .int .i64 b.mo) rfl
  have g3 := HR.out.cell 3 (v := .int .i64 b.gr) rfl
  have g4 := HR.out.cell 4 (v := .slice p b.hs.length c) rfl
  have HF := Lib.hid (fun w' => (by have h := within_any x 0 y w'; rw [hf] at h; exact h : Calls Tryz.prog 50 #[.int .i64 x, .int .i64 0, .int .i64 y] w' fun e w'' => e = .returned (.bool true) ∧ w' = w''))
  clear hW0 hB hb hf
  go_enter Tryz.func29, Tryz.ntmps29
  go_wp2_with fail
  rw [← HW0.out]
  refine (HC.out _ (From.refl W0)).mono ?_
  rintro e u ⟨rfl, hbu⟩
  obtain ⟨z, rfl⟩ := later_of hbu
  clear hbu
  go_wp2_with fail
  refine (HF.out _).mono ?_
  rintro e u ⟨rfl, rfl⟩
  have HQ := Lib.hid (z.fr.row HQ.out)
  have HE := Lib.hid (z.base HE.out)
  have c0 := HQ.out.cell 0 (v := .int .i64 0) rfl
  have c1 := HQ.out.cell 1 (v := .int .i64 0) rfl
  have f0 := HQ.out.free 0
  have f1 := HQ.out.free 1
  go_wp2_with fail
  clear c0 c1 f0 f1
  have q := (HQ.out.set 0 (.int .i64 0)).set 1 (.int .i64 0)
  have e0 := q.cell 0 (v := .int .i64 0) rfl
  have e1 := q.cell 1 (v := .int .i64 0) rfl
  exact bodyPost_ret (v := .tuple #[.agg #[.int .i64 0, .int .i64 0], .int .i64 51]) (by simp [results, Tryz.results29, go_sem, e0, e1]) rfl
    ⟨rfl, (HE.out.setCell (by dsimp only; omega) _).setCell (by dsimp only; omega) _⟩

set_option maxRecDepth 10000 in
set_option maxHeartbeats 1600000 in
theorem Sum_yes (b : Bf) (p : Option Addr) (c : Nat) (x y : Nat) (w : World) (hB : BfAt w p c b) (hb : bookB b = true) (hx : x ≤ y) (hy : y ≤ b.hs.length) :
    Calls Tryz.prog 29 #[.agg (bfA b p c), .int .i64 x, .int .i64 y] w fun e w' => e = .returned (.tuple #[.agg #[.int .i64 (loB b x y), .int .i64 (hiB b x y)], .int .i64 0]) ∧ Below w.heap.size w w' := by
  obtain ⟨W0, hW0⟩ : ∃ W, W = ((w.alloc (.cells (bfA b p c) 28)).alloc (.cells #[.int .i64 0, .int .i64 0] 43)) := ⟨_, rfl⟩
  have HW0 := Lib.hid hW0
  have HE := Lib.hid (show Below w.heap.size w W0 by rw [hW0]; exact below_alloc2 _ _ _)
  have HR := Lib.hid (show Row W0 w.heap.size (bfA b p c) 28 by rw [hW0]; exact (Row.new w _ _).alloc _)
  have HQ := Lib.hid (show Row W0 (w.heap.size + 1) #[.int .i64 0, .int .i64 0] 43 by rw [hW0]; exact Row.new1 w _ _ _)
  have HB := Lib.hid hB
  have HC := Lib.hid (fun w' (q : From W0 w') => (by have h := Check_any b p c w' (hB.below (HE.out.trans (q.b.mono HE.out.size))); rw [bookE_ok hb] at h; exact h : Calls Tryz.prog 5 #[.agg (bfA b p c)] w' fun e w'' => e = .returned (.int .i64 0) ∧ Below w'.heap.size w' w''))
  have hzq := HQ.out.lt
  have g0 := HR.out.cell 0 (v := .int .i64 b.pr) rfl
  have g1 := HR.out.cell 1 (v := .int .i64 b.le) rfl
  have g2 := HR.out.cell 2 (v := .int .i64 b.mo) rfl
  have g3 := HR.out.cell 3 (v := .int .i64 b.gr) rfl
  have g4 := HR.out.cell 4 (v := .slice p b.hs.length c) rfl
  have HF := Lib.hid (fun w' => (by have h := within_any (x : Int) 0 (y : Int) w'; rw [show fits (x : Int) 0 (y : Int) = true by unfold fits; simp; omega] at h; exact h : Calls Tryz.prog 50 #[.int .i64 x, .int .i64 0, .int .i64 y] w' fun e w'' => e = .returned (.bool true) ∧ w' = w''))
  have hok := bookB_iff.1 hb
  have hn8 := hok.n8
  have HOF := Lib.hid (fun w' (q : From W0 w') => of_any p b.hs c x y hx hy hB.c w' (hB.h.below (HE.out.trans (q.b.mono HE.out.size))))
  have HPL := Lib.hid (fun q c w' (h : HdsAt w' q (partL b.hs x y)) => together_any q c (partL b.hs x y) w' h (by rw [partL_length hx hy]; omega) (fun u hu => hd_bounds hok.h u (partL_mem hu)))
  have h9 : ¬ (b.hs.length : Int) < (y : Int) := by omega
  clear hW0 hB hb hok
  go_enter Tryz.func29, Tryz.ntmps29
  go_wp2_with fail
  rw [← HW0.out]
  refine (HC.out _ (From.refl W0)).mono ?_
  rintro e u ⟨rfl, hbu⟩
  obtain ⟨z, rfl⟩ := later_of hbu
  clear hbu
  go_wp2_with fail
  refine (HF.out _).mono ?_
  rintro e u ⟨rfl, rfl⟩
  go_wp2_with fail
  refine (HOF.out _ z.fr).mono ?_
  rintro e u ⟨q1, c1, rfl, hq, _, hbu⟩
  have HHQ := Lib.hid hq
  obtain ⟨z2, hz⟩ := z.on hbu
  subst hz
  clear hbu hq
  go_wp2_with fail
  refine (HPL.out _ _ _ HHQ.out).mono ?_
  rintro e u ⟨rfl, hbu⟩
  obtain ⟨z3, hz⟩ := z2.on hbu
  subst hz
  clear hbu
  have HQ := Lib.hid (z3.fr.row HQ.out)
  have HE := Lib.hid (z3.base HE.out)
  have c0 := HQ.out.cell 0 (v := .int .i64 0) rfl
  have c1 := HQ.out.cell 1 (v := .int .i64 0) rfl
  have f0 := HQ.out.free 0
  have f1 := HQ.out.free 1
  go_wp2_with fail
  clear c0 c1 f0 f1
  have q := (HQ.out.set 0 (.int .i64 (sumF Hd.lo (partL b.hs x y)))).set 1 (.int .i64 (sumF Hd.hi (partL b.hs x y)))
  have e0 := q.cell 0 (v := .int .i64 (sumF Hd.lo (partL b.hs x y))) rfl
  have e1 := q.cell 1 (v := .int .i64 (sumF Hd.hi (partL b.hs x y))) rfl
  exact bodyPost_ret (v := .tuple #[.agg #[.int .i64 (sumF Hd.lo (partL b.hs x y)), .int .i64 (sumF Hd.hi (partL b.hs x y))], .int .i64 0]) (by simp [results, Tryz.results29, go_sem, e0, e1]) rfl
    ⟨rfl, (HE.out.setCell (by dsimp only; omega) _).setCell (by dsimp only; omega) _⟩

end Go.Proofs.YticfcdbfplfmlaaGreat
/- Layer 5, in plain lists: the best plan is the first one of the fewest boxes by hand. -/
namespace Go.Proofs.YticfcdbfplfmlaaGreat
open Go.RowKit

theorem earlier_self : ∀ l : List Int, earlier l l = false
  | [] => rfl
  | a :: l => by simp [earlier, earlier_self l]
theorem plansL_sorted (gr n : Nat) : ∀ (f x : Nat), n - x ≤ f → x ≤ n → (plansL gr n x).Pairwise fun a b => earlier b a = false
  | 0, x, hf, hx => by
    obtain rfl : x = n := by omega
    rw [plansL_end]
    simp
  | f + 1, x, hf, hx => by
    by_cases e : x = n
    · subst e
      rw [plansL_end]
      simp
    · rw [plansL_step (by omega), List.pairwise_flatMap]
      refine ⟨fun i hi => ?_, ?_⟩
      · split
        · rename_i h2
          rw [List.pairwise_map]
          exact (plansL_sorted gr n f (x + i + 1) (by omega) h2).imp fun h => by simpa [earlier] using h
        · simp
      · refine (List.pairwise_lt_range (n := gr)).imp fun {i j} hij a ha b hb => ?_
        split at ha
        · split at hb
          · obtain ⟨a', _, rfl⟩ := List.mem_map.1 ha
            obtain ⟨b', _, rfl⟩ := List.mem_map.1 hb
            rw [earlier, if_neg (by omega)]
            simp
            omega
          · simp at hb
        · simp at ha
theorem plansB_sorted (b : Bf) : (plansB b).Pairwise fun x y => earlier y x = false := plansL_sorted (grN b) b.hs.length b.hs.length 0 (by omega) (by omega)
/-- What is so of the best plan and any other one. -/
theorem best_few {b : Bf} (hok : BfOk b) : ∃ p, bestO (rankQ b) (plansB b) = some p ∧ planB b p = true ∧ ∀ q, planB b q = true →
    (handL b p).length ≤ (handL b q).length ∧ ((handL b q).length ≤ (handL b p).length → q.length ≤ p.length ∧ (q.length = p.length → earlier q p = false)) := by
  obtain ⟨j, hj, e, h1, h2⟩ := bestO_least (rankQ b) (plansB b) (plansB b).length (Nat.le_refl _) (plansB_pos hok.g1)
  rw [List.take_length] at e
  have hm := plansB_at hj
  have hpp := (plansB_iff hok.g1 _).1 hm
  refine ⟨_, e, hpp, fun q hq => ?_⟩
  obtain ⟨i, hi, hiq⟩ := List.getElem_of_mem ((plansB_iff hok.g1 q).2 hq)
  have hid : (plansB b).getD i [] = q := by simp [List.getD, List.getElem?_eq_getElem hi, hiq]
  have hr := h1 i hi
  rw [hid] at hr
  have l1 := plan_len hpp
  have l2 := plan_len hq
  have h8 := hok.n8
  have hr2 : i < j → rankQ b ((plansB b).getD j []) < rankQ b q := fun h => by have := h2 i h; rwa [hid] at this
  have hsort : j < i → earlier q ((plansB b).getD j []) = false := fun h => by
    have hs := List.pairwise_iff_getElem.1 (plansB_sorted b) j i hj hi h
    rw [hiq] at hs
    have ej : (plansB b).getD j [] = (plansB b)[j] := by simp [List.getD, List.getElem?_eq_getElem hj]
    rw [ej]
    exact hs
  have hself : i = j → earlier q ((plansB b).getD j []) = false := fun h => by subst h; rw [hid]; exact earlier_self q
  generalize (plansB b).getD j [] = p at *
  unfold rankQ at hr hr2
  refine ⟨by omega, fun h => ⟨by omega, fun he => ?_⟩⟩
  rcases Nat.lt_trichotomy i j with h' | h' | h'
  · have := hr2 h'; omega
  · exact hself h'
  · exact hsort h'
/-- What is so of the most boxes that are right, and any plan. -/
theorem best_right {b : Bf} (hok : BfOk b) : ∃ p, bestO (rankR b) (plansB b) = some p ∧ planB b p = true ∧ ∀ q, planB b q = true → (rightL b q).length ≤ (rightL b p).length := by
  obtain ⟨j, hj, e, h1, _⟩ := bestO_least (rankR b) (plansB b) (plansB b).length (Nat.le_refl _) (plansB_pos hok.g1)
  rw [List.take_length] at e
  refine ⟨_, e, (plansB_iff hok.g1 _).1 (plansB_at hj), fun q hq => ?_⟩
  obtain ⟨i, hi, hiq⟩ := List.getElem_of_mem ((plansB_iff hok.g1 q).2 hq)
  have hid : (plansB b).getD i [] = q := by simp [List.getD, List.getElem?_eq_getElem hi, hiq]
  have hr := h1 i hi
  rw [hid] at hr
  unfold rankR at hr
  omega
theorem count_all (b : Bf) (l : List Int) : (handL b l).length + (rightL b l).length = l.length := count_to b l l.length
end Go.Proofs.YticfcdbfplfmlaaGreat
/- Layer 5, in plain lists: what allows more leaves no more boxes by hand. -/
namespace Go.Proofs.YticfcdbfplfmlaaGreat
open Go.RowKit

/-- A book that allows no less, and of which no less is known. -/
structure Easier (b x : Bf) : Prop where
  pr : x.pr = b.pr
  le : b.le ≤ x.le
  mo : b.mo ≤ x.mo
  gr : b.gr ≤ x.gr
  n : x.hs.length = b.hs.length
  h : ∀ i (h : i < b.hs.length) (h' : i < x.hs.length), b.hs[i].lo ≤ x.hs[i].lo ∧ x.hs[i].hi ≤ b.hs[i].hi
theorem sumF_le {f : Hd → Int} : ∀ {l m : List Hd}, l.length = m.length → (∀ i (h : i < l.length) (h' : i < m.length), f l[i] ≤ f m[i]) → sumF f l ≤ sumF f m
  | [], [], _, _ => Int.le_refl _
  | [], _ :: _, h, _ => by simp at h
  | _ :: _, [], h, _ => by simp at h
  | x :: l, y :: m, h, hx => by
    have h0 := hx 0 (by simp) (by simp)
    have h1 := sumF_le (f := f) (l := l) (m := m) (by simpa using h) (fun i hi hi' => by
      have := hx (i + 1) (by simpa using hi) (by simpa using hi')
      simpa using this)
    simp only [List.getElem_cons_zero] at h0
    have e1 : sumF f (x :: l) = f x + sumF f l := by simp [sumF]
    have e2 : sumF f (y :: m) = f y + sumF f m := by simp [sumF]
    rw [e1, e2]
    omega
section
variable {b x : Bf} (e : Easier b x)
include e
theorem Easier.part (a c : Nat) : loB b a c ≤ loB x a c ∧ hiB x a c ≤ hiB b a c := by
  have hl : (partL b.hs a c).length = (partL x.hs a c).length := by unfold partL; simp [e.n]
  have key : ∀ i (h : i < (partL b.hs a c).length) (h' : i < (partL x.hs a c).length), (partL b.hs a c)[i].lo ≤ (partL x.hs a c)[i].lo ∧ (partL x.hs a c)[i].hi ≤ (partL b.hs a c)[i].hi := by
    intro i h h'
    have hb : a + i < b.hs.length := by unfold partL at h; simp at h; omega
    have hx : a + i < x.hs.length := by rw [e.n]; exact hb
    have := e.h (a + i) hb hx
    simpa [partL] using this
  exact ⟨sumF_le (f := Hd.lo) hl fun i h h' => (key i h h').1, sumF_le (f := Hd.hi) hl.symm fun i h h' => (key i h' h).2⟩
theorem Easier.right (l : List Int) (i : Nat) (h : rightI b l i = true) : rightI x l i = true := by
  unfold rightI at *
  simp only [decide_eq_true_eq, kindS_zero] at *
  have hp := e.part (bgn l i).toNat (at0 l i).toNat
  have h1 := e.pr
  have h2 := e.le
  have h3 := e.mo
  unfold loI hiI at *
  omega
theorem Easier.hand (l : List Int) : ∀ k, (handTo x l k).length ≤ (handTo b l k).length
  | 0 => Nat.le_refl _
  | k + 1 => by
    have ih := Easier.hand l k
    rw [handTo_succ, handTo_succ]
    cases hb : rightI b l k
    · cases hx : rightI x l k <;> simp <;> omega
    · rw [e.right l k hb]
      simpa using ih
theorem Easier.plan {l : List Int} (h : planB b l = true) : planB x l = true := by
  unfold planB planTo at *
  rw [Bool.and_eq_true, List.all_eq_true] at *
  refine ⟨fun i hi => ?_, by rw [e.n]; exact h.2⟩
  have := h.1 i hi
  unfold boxI boxB at *
  simp only [decide_eq_true_eq] at *
  have := e.gr
  have := e.n
  omega
/-- The best plan of what allows more has no more boxes by hand. -/
theorem Easier.best (hb : BfOk b) (hx : BfOk x) {p q : List Int} (hp : bestO (rankQ b) (plansB b) = some p) (hq : bestO (rankQ x) (plansB x) = some q) : (handL x q).length ≤ (handL b p).length := by
  obtain ⟨p', h1, h2, _⟩ := best_few hb
  obtain ⟨q', h3, _, h4⟩ := best_few hx
  rw [hp] at h1
  rw [hq] at h3
  cases h1
  cases h3
  exact Nat.le_trans (h4 p (e.plan h2)).1 (e.hand p p.length)
end
end Go.Proofs.YticfcdbfplfmlaaGreat
