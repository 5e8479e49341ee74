/- Layer 5, in plain lists: the best plan; lists that lie apart from some blocks. -/
import Derived.Test.YtgdidhbomdfcpaaF18
namespace Go.Proofs.Ytgdidhbomdfcpaa
open Go.RowKit

/-- The better one of two plans: the later one only if it ranks lower. -/
def pick (rk : List Int → Int) (o : Option (List Int)) (l : List Int) : Option (List Int) := some (match o with
  | none => l
  | some m => if rk l < rk m then l else m)
def bestO (rk : List Int → Int) (ls : List (List Int)) : Option (List Int) := ls.foldl (pick rk) none
theorem bestO_succ (rk : List Int → Int) (ls : List (List Int)) {k : Nat} (h : k < ls.length) : bestO rk (ls.take (k + 1)) = pick rk (bestO rk (ls.take k)) (ls.getD k []) := by
  unfold bestO
  rw [List.take_succ_eq_append_getElem h, List.foldl_append]
  simp [List.getD, h]
theorem bestO_mem (rk : List Int → Int) : ∀ (ls : List (List Int)) (k : Nat), k ≤ ls.length → ∀ m, bestO rk (ls.take k) = some m → m ∈ ls
  | ls, 0, _, m, h => by simp [bestO] at h
  | ls, k + 1, hk, m, h => by
    rw [bestO_succ rk ls (by omega)] at h
    have hm : ls.getD k [] ∈ ls := by
      have e : ls.getD k [] = ls[k] := by simp [List.getD, List.getElem?_eq_getElem (show k < ls.length by omega)]
      rw [e]
      exact List.getElem_mem _
    cases e : bestO rk (ls.take k) with
    | none => rw [e] at h; simp [pick] at h; rw [← h]; exact hm
    | some m' =>
      rw [e] at h
      simp only [pick, Option.some.injEq] at h
      split at h
      · rw [← h]; exact hm
      · rw [← h]; exact bestO_mem rk ls k (by omega) m' e
def bestL (rk : List Int → Int) (ls : List (List Int)) : List Int := (bestO rk ls).getD []
/-- The best one ranks lowest, and is the first of those. -/
theorem bestO_least (rk : List Int → Int) (ls : List (List Int)) : ∀ k, k ≤ ls.length → 0 < k → ∃ j, j < k ∧ bestO rk (ls.take k) = some (ls.getD j []) ∧ (∀ i, i < k → rk (ls.getD j []) ≤ rk (ls.getD i [])) ∧ ∀ i, i < j → rk (ls.getD j []) < rk (ls.getD i [])
  | 0, _, h => by omega
  | k + 1, hk, _ => by
    rw [bestO_succ rk ls (by omega)]
    by_cases h0 : k = 0
    · subst h0
      exact ⟨0, by omega, rfl, fun i hi => by rw [show i = 0 by omega]; exact Int.le_refl _, fun i hi => by omega⟩
    · obtain ⟨j, hj, e, h1, h2⟩ := bestO_least rk ls k (by omega) (by omega)
      rw [e]
      by_cases hlt : rk (ls.getD k []) < rk (ls.getD j [])
      · refine ⟨k, by omega, by simp only [pick, if_pos hlt], fun i hi => ?_, fun i hi => ?_⟩
        · by_cases hik : i = k
          · rw [hik]; exact Int.le_refl _
          · have := h1 i (by omega); omega
        · have := h1 i (by omega); omega
      · refine ⟨j, by omega, by simp only [pick, if_neg hlt], fun i hi => ?_, h2⟩
        by_cases hik : i = k
        · rw [hik]; omega
        · exact h1 i (by omega)
/-- Is a list a plan of the handfuls from one on? -/
def planFrom (b : Bf) : Int → List Int → Bool
  | x, [] => decide (x = b.hs.length)
  | x, y :: l => boxB b x y && planFrom b y l
def bgnX (x : Int) (l : List Int) (i : Nat) : Int := if i = 0 then x else at0 l (i - 1)
theorem planFrom_eq (b : Bf) : ∀ (l : List Int) (x : Int), planFrom b x l = ((List.range l.length).all (fun i => boxB b (bgnX x l i) (at0 l i)) && decide (bgnX x l l.length = b.hs.length))
  | [], x => by simp [planFrom, bgnX]
  | y :: l, x => by
    rw [planFrom, planFrom_eq b l y, List.length_cons, List.range_succ_eq_map, List.all_cons, List.all_map, Bool.and_assoc]
    congr 2
    · congr 1
      funext i
      cases i <;> simp [bgnX, at0]
    · cases l <;> simp [bgnX, at0]
theorem planB_from (b : Bf) (l : List Int) : planB b l = planFrom b 0 l := (planFrom_eq b l 0).symm
theorem plansL_plan {b : Bf} (hg : 1 ≤ b.gr) : ∀ (f x : Nat), b.hs.length - x ≤ f → x ≤ b.hs.length → ∀ l, l ∈ plansL (grN b) b.hs.length x ↔ planFrom b x l = true
  | 0, x, hf, hx, l => by
    obtain rfl : x = b.hs.length := by omega
    rw [plansL_end]
    cases l with
    | nil => simp [planFrom]
    | cons y l =>
      simp only [List.mem_singleton, reduceCtorEq, false_iff, planFrom, boxB]
      intro h
      simp at h
      omega
  | f + 1, x, hf, hx, l => by
    by_cases e : x = b.hs.length
    · subst e
      exact plansL_plan hg 0 _ (by omega) (by omega) l
    · rw [plansL_step (by omega), List.mem_flatMap]
      have hgr : ((grN b : Nat) : Int) = b.gr := by unfold grN; omega
      constructor
      · rintro ⟨i, hi, hl⟩
        have hi := List.mem_range.1 hi
        split at hl
        · rename_i h2
          obtain ⟨l', hl', rfl⟩ := List.mem_map.1 hl
          rw [planFrom, Bool.and_eq_true]
          refine ⟨by unfold boxB; simp; omega, (plansL_plan hg f _ (by omega) h2 l').1 hl'⟩
        · simp at hl
      · intro h
        cases l with
        | nil => simp [planFrom] at h; omega
        | cons y l =>
          rw [planFrom, Bool.and_eq_true] at h
          obtain ⟨h1, h2⟩ := h
          unfold boxB at h1
          simp only [decide_eq_true_eq] at h1
          obtain ⟨i, hi⟩ : ∃ i : Nat, y = ((x + i + 1 : Nat) : Int) := ⟨(y - x - 1).toNat, by omega⟩
          refine ⟨i, List.mem_range.2 (by omega), ?_⟩
          rw [if_pos (by omega)]
          refine List.mem_map.2 ⟨l, (plansL_plan hg f _ (by omega) (by omega) l).2 (by rw [← hi]; exact h2), by rw [hi]⟩
/-- The plans are all plans. -/
theorem plansB_iff {b : Bf} (hg : 1 ≤ b.gr) (l : List Int) : l ∈ plansB b ↔ planB b l = true := by
  rw [planB_from]
  exact plansL_plan hg b.hs.length 0 (by omega) (by omega) l
theorem plan_len {b : Bf} {l : List Int} (h : planB b l = true) : l.length ≤ b.hs.length := by
  unfold planB at h
  rw [Bool.and_eq_true] at h
  have := plan_nums h.1 (Nat.le_refl _)
  omega
/-- Numbers that lie apart from some blocks. -/
def IntsOff (N : Nat → Prop) (A : World) (p : Option Addr) (xs : List Int) : Prop :=
  ∀ i, i < xs.length → ∃ g o, p = some ⟨g, o, none⟩ ∧ ¬ N g ∧ A.cell? ⟨g, o + i, none⟩ = some (.int .i64 (at0 xs i))
def HdsOff (N : Nat → Prop) (A : World) (p : Option Addr) (hs : List Hd) : Prop :=
  ∀ i (h : i < hs.length), ∃ g o, p = some ⟨g, o, none⟩ ∧ ¬ N g ∧ A.cell? ⟨g, o + i * 2, none⟩ = some (.int .i64 hs[i].lo) ∧ A.cell? ⟨g, o + i * 2 + 1, none⟩ = some (.int .i64 hs[i].hi)
section
variable {N N' : Nat → Prop} {A B : World} {p : Option Addr} {xs : List Int} {hs : List Hd}
theorem IntsOff.at (h : IntsOff N A p xs) : IntsAt A p xs := fun i hi => let ⟨g, o, e, _, c⟩ := h i hi; ⟨g, o, e, c⟩
theorem IntsOff.keeps (h : IntsOff N A p xs) (k : KeepsBut N A B) (hN : ∀ m, N' m → N m ∨ A.heap.size ≤ m) : IntsOff N' B p xs := fun i hi => by
  obtain ⟨g, o, e, hn, c⟩ := h i hi
  have hlt : g < A.heap.size := cell_block c
  exact ⟨g, o, e, fun x => (hN g x).elim hn (by omega), (World.cell?_of_block (k.block g hlt hn)).trans c⟩
theorem IntsAt.off (h : IntsAt A p xs) (hN : ∀ g o, 0 < xs.length → p = some ⟨g, o, none⟩ → ¬ N g) : IntsOff N A p xs := fun i hi => let ⟨g, o, e, c⟩ := h i hi; ⟨g, o, e, hN g o (by omega) e, c⟩
theorem HdsOff.at (h : HdsOff N A p hs) : HdsAt A p hs := fun i hi => let ⟨g, o, e, _, c⟩ := h i hi; ⟨g, o, e, c⟩
theorem HdsOff.keeps (h : HdsOff N A p hs) (k : KeepsBut N A B) (hN : ∀ m, N' m → N m ∨ A.heap.size ≤ m) : HdsOff N' B p hs := fun i hi => by
  obtain ⟨g, o, e, hn, c, d⟩ := h i hi
  have hlt : g < A.heap.size := cell_block c
  exact ⟨g, o, e, fun x => (hN g x).elim hn (by omega), (World.cell?_of_block (k.block g hlt hn)).trans c, (World.cell?_of_block (k.block g hlt hn)).trans d⟩
theorem HdsAt.off (h : HdsAt A p hs) (hN : ∀ g o, p = some ⟨g, o, none⟩ → ¬ N g) : HdsOff N A p hs := fun i hi => let ⟨g, o, e, c⟩ := h i hi; ⟨g, o, e, hN g o e, c⟩
end
theorem plan_some (b : Bf) (hg : 1 ≤ b.gr) : ∀ (f x : Nat), b.hs.length - x ≤ f → x ≤ b.hs.length → ∃ l, planFrom b x l = true
  | 0, x, hf, hx => ⟨[], by simp [planFrom]; omega⟩
  | f + 1, x, hf, hx => by
    by_cases e : x = b.hs.length
    · exact ⟨[], by simp [planFrom]; omega⟩
    · obtain ⟨l, hl⟩ := plan_some b hg f (x + 1) (by omega) (by omega)
      exact ⟨((x + 1 : Nat) : Int) :: l, by rw [planFrom, hl, Bool.and_true]; unfold boxB; simp; omega⟩
theorem plansB_pos {b : Bf} (hg : 1 ≤ b.gr) : 0 < (plansB b).length := by
  obtain ⟨l, hl⟩ := plan_some b hg b.hs.length 0 (by omega) (by omega)
  have h := (plansB_iff hg l).2 (by rw [planB_from]; exact hl)
  exact List.length_pos_of_mem h
theorem plansB_at {b : Bf} {k : Nat} (h : k < (plansB b).length) : (plansB b).getD k [] ∈ plansB b := by
  have e : (plansB b).getD k [] = (plansB b)[k] := by simp [List.getD, List.getElem?_eq_getElem h]
  rw [e]
  exact List.getElem_mem _
theorem cell_no_mark {w : World} {a : Addr} {v : Value} (h : w.cell? a = some v) (o : Option (List Deferred)) : w.heap[a.block]? ≠ some (.deferred o) := by
  intro e
  unfold World.cell? at h
  rw [e] at h
  simp at h
theorem IntsAt.same {A B : World} {p : Option Addr} {xs : List Int} (h : IntsAt A p xs) (hs : ∀ g : Nat, (∀ o, A.heap[g]? ≠ some (Obj.deferred o)) → B.heap[g]? = A.heap[g]?) : IntsAt B p xs := fun i hi => by
  obtain ⟨g, o, e, c⟩ := h i hi
  exact ⟨g, o, e, (World.cell?_of_block (hs g (cell_no_mark c))).trans c⟩
theorem HdsAt.same {A B : World} {p : Option Addr} {xs : List Hd} (h : HdsAt A p xs) (hs : ∀ g : Nat, (∀ o, A.heap[g]? ≠ some (Obj.deferred o)) → B.heap[g]? = A.heap[g]?) : HdsAt B p xs := fun i hi => by
  obtain ⟨g, o, e, c, d⟩ := h i hi
  exact ⟨g, o, e, (World.cell?_of_block (hs g (cell_no_mark c))).trans c, (World.cell?_of_block (hs g (cell_no_mark c))).trans d⟩
end Go.Proofs.Ytgdidhbomdfcpaa
