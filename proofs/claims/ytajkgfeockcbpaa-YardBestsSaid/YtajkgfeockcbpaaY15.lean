/- The walks of layer 6: the best choice, what to clear. -/
import Derived.Test.YtajkgfeockcbpaaY14
import Derived.Test.YtajkgfeockcbpaaLX
namespace Go.Proofs.Ytajkgfeockcbpaa
open Go.RowKit Go.Maps
attribute [local go_sem] Oper.semAt_some

/-- Numbers that lie apart from some blocks. -/
def IntsOff (N : Nat → Prop) (A : World) (p : Option Addr) (xs : List Int) : Prop :=
  ∀ i, i < xs.length → ∃ g o, p = some ⟨g, o, none⟩ ∧ ¬ N g ∧ A.cell? ⟨g, o + i, none⟩ = some (.int .i64 (at0 xs i))
section
variable {N N' : Nat → Prop} {A B : World} {p : Option Addr} {xs : List Int}
theorem IntsOff.at (h : IntsOff N A p xs) : IntsAt A p xs := fun i hi => let ⟨g, o, e, _, c⟩ := h i hi; ⟨g, o, e, c⟩
theorem IntsOff.keeps (h : IntsOff N A p xs) (k : KeepsBut N A B) (hN : ∀ m, N' m → N m ∨ A.heap.size ≤ m) : IntsOff N' B p xs := fun i hi => by
  obtain ⟨g, o, e, hn, c⟩ := h i hi
  have hlt : g < A.heap.size := cell_block c
  exact ⟨g, o, e, fun x => (hN g x).elim hn (by omega), (World.cell?_of_block (k.block g hlt hn)).trans c⟩
theorem IntsAt.off (h : IntsAt A p xs) (hN : ∀ g o, 0 < xs.length → p = some ⟨g, o, none⟩ → ¬ N g) : IntsOff N A p xs := fun i hi => let ⟨g, o, e, c⟩ := h i hi; ⟨g, o, e, hN g o (by omega) e, c⟩
end
theorem cell_no_mark {w : World} {a : Addr} {v : Value} (h : w.cell? a = some v) (o : Option (List Deferred)) : w.heap[a.block]? ≠ some (.deferred o) := by
  intro e
  unfold World.cell? at h
  rw [e] at h
  simp at h
theorem IntsAt.same {A B : World} {p : Option Addr} {xs : List Int} (h : IntsAt A p xs) (hs : ∀ g : Nat, (∀ o, A.heap[g]? ≠ some (Obj.deferred o)) → B.heap[g]? = A.heap[g]?) : IntsAt B p xs := fun i hi => by
  obtain ⟨g, o, e, c⟩ := h i hi
  exact ⟨g, o, e, (World.cell?_of_block (hs g (cell_no_mark c))).trans c⟩
/-- The walk of a drawn region in a round, out of the walk under what holds throughout. -/
theorem wpAnyIn_ofAny {P : Program} {ops : Array Oper} {Q : Exit → Act → World → Prop} {l n : Nat} (hd : ∀ o ∈ ops, ∀ c, o.op ≠ .defer c) (hQ : ¬ LetsOut Q) :
    ∀ (fuel : Nat) (listed : Array Bool) (a : Act) (w : World), wpAny P .any ops Q fuel listed a w → wpAnyIn (Fence.wide.inRound l) n P .any ops Q fuel listed a w
  | 0, _, _, _, h => h
  | fuel + 1, listed, a, w, h => ⟨h.1, fun i hi => by
    have h2 := h.2 i hi
    unfold wpOp at h2
    unfold wpOpIn
    cases ho : ops[i]? with
    | none => rw [ho] at h2; exact wpAnyIn_ofAny hd hQ fuel _ a w h2
    | some o =>
      rw [ho] at h2
      simp only at h2 ⊢
      split
      · rename_i hw
        rw [if_pos hw] at h2
        rcases h2 with h2 | h2
        · exact opIn (hd o (Array.mem_of_getElem? ho)) (Oper.wp_mono (fun a w h => wpAnyIn_ofAny hd hQ fuel _ a w h) h2)
        · exact (hQ h2.2).elim
      · rename_i hw; rw [if_neg hw] at h2; exact ⟨fun _ _ => trivial, wpAnyIn_ofAny hd hQ fuel _ _ w h2⟩⟩
theorem region_heldIn {P : Program} {ops : Array Oper} {Q : Exit → Act → World → Prop} {S : World → Prop} {l n id : Nat} {a : Act} {w : World} (hm : P.follows .mixedOrders = true) (hnd : noDefer ops.toList = true) (hQ : ¬ LetsOut Q) (hS : S w.drew)
    (h : S w.drew → wpAnyH P .any ops Q S ops.size (Array.replicate ops.size false) a w.drew) : (Code.region id ops true).wpIn (Fence.wide.inRound l) n P Q a w :=
  wpIn_region_any hm (wpAnyIn_ofAny (noDefer_at hnd) hQ _ _ _ _ (wpAny_of_held _ _ _ _ (h hS)))
/-- A whole variable is read, whatever comes up before. -/
theorem yields_row {P : Program} {ops : Array Oper} {S : World → Prop} {oi : Oper} {a : Act} (hw : Region.wanted oi (yielded ops a.tmps) = true) (ty : TypeId) (x : Operand) (ho : oi.op = .load ty x)
    (g : Nat) (hx : a.eval x = .pointer (some ⟨g, 0, none⟩)) (t : TypeId) (cs : Array Value) (d : TypeDesc) (hg : ∀ w, S w → Row w g cs t)
    (hu : P.underlying ty = some d) (hd : (match d with | .struct _ | .array _ _ => true | _ => false) = true) (hi : (P.info? ty).map (·.size) = some cs.size) : YieldsIf P ops S oi (.agg cs) a :=
  .inl ⟨hw, fun w hS => by
    unfold execOp
    simp only [ho, hx, Instr.loadAt, Instr.sureAddr, Sem.run_bind, Sem.run_pure, Result.andThen_ok, run_loadVar_row w g t ty cs (0, 0) d (hg w hS) hu hd hi]⟩
theorem fold_succ {α β : Type} (f : β → α → β) (o : β) (l : List α) (d : α) {j : Nat} (h : j < l.length) : (l.take (j + 1)).foldl f o = f ((l.take j).foldl f o) (l.getD j d) := by
  rw [List.take_succ_eq_append_getElem h, List.foldl_append]
  simp [List.getD, h]
theorem choK_lots {b : Yb} {k : Bool} {of c : Nat → Bool} (hn : b.lots.length ≤ 7) (h : c ∈ choK b k of) (i : Nat) (hc : c i = true) : i < b.lots.length := (((choK_mem hn c).1 h).1 i hc).1
theorem choK_at {b : Yb} {k : Bool} {of : Nat → Bool} {j : Nat} (h : j < (choK b k of).length) : (choK b k of).getD j noneF ∈ choK b k of := by
  have e : (choK b k of).getD j noneF = (choK b k of)[j] := by simp [List.getD, List.getElem?_eq_getElem h]
  rw [e]
  exact List.getElem_mem _
theorem numsN_le (c : Nat → Bool) : (intsN (lotsL c)).length ≤ 1000 := by
  have := lotsL_le c
  unfold intsN
  rw [List.length_map]
  omega
/-- The best choice is returned. -/
def GaveStore (l : List Int) (g : Int) (w : World) (e : Ending) (w' : World) : Prop :=
  ∃ p c, e = .returned (.agg #[.slice p l.length c, .int .i64 g]) ∧ IntsAt w' p l ∧ Below w.heap.size w w'
theorem allF_lots (b : Yb) : ∀ i, i < 7 → allF b i = true → i < b.lots.length := fun i _ h => by simpa [allF] using h
set_option maxRecDepth 100000 in
set_option maxHeartbeats 3200000 in
theorem best_any (b : Yb) (P : Yp) (mb : Nat) (k : Bool) (w : World) (hK : YkAt w P mb b) :
    Calls Try.prog 74 #[.agg (trA b P mb k)] w (GaveStore (intsN (lotsL (bestK b k))) (topK b k) w) := by
  have HK := Lib.hid hK
  have hn7 := hK.ok.n7
  have HN7 := Lib.hid hn7
  clear hK
  obtain ⟨i0, hi, hi0, hi1, hi2⟩ := info_parts Try.infoInt
  obtain ⟨W0, hW0⟩ : ∃ W, W = ((w.alloc (.cells (trA b P mb k) 89)).alloc (.cells #[.slice none 0 0, .int .i64 0] 106)).alloc (.cells #[.slice none 0 0, .int .i64 0] 106) := ⟨_, rfl⟩
  have HW0 := Lib.hid hW0
  have HE := Lib.hid (show Below w.heap.size w W0 by rw [hW0]; exact below_alloc3 _ _ _ _)
  have HT := Lib.hid (show Row W0 w.heap.size (trA b P mb k) 89 by rw [hW0]; exact ((Row.new _ _ _).alloc _).alloc _)
  have HR := Lib.hid (show Row W0 (w.heap.size + 1) #[.slice none 0 0, .int .i64 0] 106 by rw [hW0]; exact (Row.new1 _ _ _ _).alloc _)
  have HB := Lib.hid (show Row W0 (w.heap.size + 1 + 1) #[.slice none 0 0, .int .i64 0] 106 by rw [hW0]; exact Row.new2 _ _ _ _ _)
  have hz0 : W0.heap.size = w.heap.size + 3 := by rw [hW0]; simp
  clear hW0
  refine calls_marks Try.func74 rfl ?_
  simp only [Try.ntmps74, List.size_toArray, List.length_cons, List.length_nil, Nat.reduceAdd, Nat.reduceSub, Array.replicate_succ, Array.replicate_zero, List.push_toArray, List.append_toArray, List.nil_append, List.cons_append]
  go_upto_region 2 with (fail)
  rw [← HW0.out]
  have KA := Lib.hid (show Below W0.heap.size W0 W0.drew from (Below.refl _ _).drew)
  go_region_held3 (fun w' => w'.cell? ⟨w.heap.size, 0, none⟩ = some (.slice P.pl b.lots.length P.cl) ∧ w'.cell? ⟨w.heap.size, 1, none⟩ = some (.slice P.pd b.doors.length P.cd) ∧ w'.cell? ⟨w.heap.size, 2, none⟩ = some (.slice P.pb b.buckets.length P.cb) ∧ w'.cell? ⟨w.heap.size, 3, none⟩ = some (.slice P.ps b.spare.length P.cs) ∧ w'.cell? ⟨w.heap.size, 4, none⟩ = some (.int .i64 b.apart) ∧ w'.cell? ⟨w.heap.size, 5, none⟩ = some (.int .i64 b.door) ∧ w'.cell? ⟨w.heap.size, 6, none⟩ = some (.int .i64 b.bucket) ∧ w'.cell? ⟨w.heap.size, 7, none⟩ = some (.int .i64 b.err) ∧ w'.cell? ⟨w.heap.size, 8, none⟩ = some (.map (some mb)) ∧ w'.cell? ⟨w.heap.size, 9, none⟩ = some (.func (.func (idE k)) #[] #[]) ∧ w'.cell? ⟨w.heap.size, 10, none⟩ = some (.func (.func (idO k)) #[] #[]) ∧ w'.cell? ⟨w.heap.size, 11, none⟩ = some (.func (.func (idE k)) #[] #[]))
    (exact ⟨(HT.out.below KA.out HT.out.lt).cell 0 rfl, (HT.out.below KA.out HT.out.lt).cell 1 rfl, (HT.out.below KA.out HT.out.lt).cell 2 rfl, (HT.out.below KA.out HT.out.lt).cell 3 rfl, (HT.out.below KA.out HT.out.lt).cell 4 rfl, (HT.out.below KA.out HT.out.lt).cell 5 rfl, (HT.out.below KA.out HT.out.lt).cell 6 rfl, (HT.out.below KA.out HT.out.lt).cell 7 rfl, (HT.out.below KA.out HT.out.lt).cell 8 rfl, (HT.out.below KA.out HT.out.lt).cell 9 rfl, (HT.out.below KA.out HT.out.lt).cell 10 rfl, (HT.out.below KA.out HT.out.lt).cell 11 rfl⟩)
    (first
      | (go_at_call 105; (with_reducible refine (all_any b P mb HN7.out _).mono ?_); rintro e cb ⟨rfl, hbu⟩; have KA := Lib.hid (KA.out.trans (hbu.mono KA.out.size)); clear hbu)
      | (go_at_call 104; (with_reducible refine (choices_any b P mb k (allF b) _).mono ?_); rintro e W4 ⟨rfl, hu⟩; have HC2 := Lib.hid hu; have KB := Lib.hid KA.out; have KA := Lib.hid (KA.out.trans (show Below _ _ W4 by rw [← hu]; exact (below_alloc2 _ _ _).mono KA.out.size)); clear hu))
  go_wp2_with fail
  have hcb := KB.out.size
  have HT4 := Lib.hid (HT.out.below KA.out HT.out.lt)
  have HR4 := Lib.hid (HR.out.below KA.out HR.out.lt)
  have HB4 := Lib.hid (HB.out.below KA.out HB.out.lt)
  have HTB := Lib.hid (show Row W4 cb.heap.size (trA b P mb k) 89 by rw [← HC2.out]; exact (Row.new _ _ _).alloc _)
  have HOB := Lib.hid (show Row W4 (cb.heap.size + 1) (lotF (allF b)) 99 by rw [← HC2.out]; exact Row.new1 _ _ _ _)
  have hz4 : W4.heap.size = cb.heap.size + 2 := by rw [← HC2.out]; simp
  have HK4 := Lib.hid (HE.out.trans (KA.out.mono (by omega)))
  obtain ⟨tb, htb⟩ : ∃ n, cb.heap.size = n := ⟨_, rfl⟩
  rw [htb] at HTB HOB hz4 hcb ⊢
  clear htb HC2 KB KA HT HR HB HE HW0
  refine range_lawO 124 #[.pointer (some ⟨tb, 0, none⟩), .pointer (some ⟨tb + 1, 0, none⟩)] (fun m => m < w.heap.size ∨ m = tb ∨ m = tb + 1) (choK b k (allF b)).length (LotX (choK b k (allF b))) rfl (fun args w => Try.call124 args w)
    (fun W1 hb hz => choices_iter b P mb k (allF b) (allF_lots b) w HK.out tb (tb + 1) W1 (HK4.out.trans (hb.mono (by omega))) (HTB.out.below hb HTB.out.lt) (HOB.out.below hb HOB.out.lt)) (fun _ x _ _ h => by rw [h]; rfl) (fun m => m = w.heap.size + 1 + 1)
    (by rintro m rfl; exact ⟨by omega, by omega⟩) (by omega)
    (fun j O A => ¬ O (w.heap.size + 1 + 1) ∧ ∃ q c, Row A (w.heap.size + 1 + 1) #[.slice q (intsN (lotsL (((choK b k (allF b)).take j).foldl (pickK b k) noneF))).length c, .int .i64 (goodsK b k (((choK b k (allF b)).take j).foldl (pickK b k) noneF))] 106 ∧ IntsOff (fun g => O g ∨ g < W4.heap.size) A q (intsN (lotsL (((choK b k (allF b)).take j).foldl (pickK b k) noneF))))
    (fun _ _ _ => False)
    (fun j O O' A B h hb _ hO => by
      obtain ⟨h1, q, c, h2, h3⟩ := h
      exact ⟨fun x => (hO _ x).elim h1 (fun y => by have := h2.lt; omega), q, c, h2.keeps hb h1, h3.keeps (hb.mono (fun m _ h => .inl h)) (fun m h => by
        rcases h with h | h
        · exact (hO m h).imp .inl id
        · exact .inl (.inr h))⟩)
    (fun _ _ _ _ _ h _ _ _ => h)
    ⟨fun h => h.elim, none, 0, HB4.out, fun i (h : i < 0) => absurd h (Nat.not_lt_zero _)⟩ ?body ?done ?stop
  case body =>
    rintro li j x O O' A rfl hk hx hOO hO hOw hOl ⟨hn1, q, cq, hE, hqO⟩ hkeep hlA
    cases hx
    have hmem := choK_at hk
    have HSU := Lib.hid (fold_succ (pickK b k) noneF (choK b k (allF b)) noneF hk)
    obtain ⟨cc, hcc⟩ : ∃ c, (choK b k (allF b)).getD j noneF = c := ⟨_, rfl⟩
    obtain ⟨cd, hcd⟩ : ∃ c, ((choK b k (allF b)).take j).foldl (pickK b k) noneF = c := ⟨_, rfl⟩
    rw [hcd] at hE hqO HSU
    rw [hcc] at hmem HSU ⊢
    have HCL := Lib.hid (fun i (_ : i < 7) => choK_lots HN7.out hmem i)
    have HPK := Lib.hid (show pickK b k cd cc = if betB (intsN (lotsL cc)) (goodsK b k cc) (intsN (lotsL cd)) (goodsK b k cd) then cc else cd from rfl)
    obtain ⟨gc, hgc⟩ : ∃ n, goodsK b k cc = n := ⟨_, rfl⟩
    obtain ⟨gd, hgd⟩ : ∃ n, goodsK b k cd = n := ⟨_, rfl⟩
    have hlc := numsN_le cc
    have hld := numsN_le cd
    obtain ⟨lc, hlcc⟩ : ∃ n, intsN (lotsL cc) = n := ⟨_, rfl⟩
    obtain ⟨ld, hldd⟩ : ∃ n, intsN (lotsL cd) = n := ⟨_, rfl⟩
    rw [hgc, hgd, hlcc, hldd] at HPK
    rw [hgd, hldd] at hE
    rw [hldd] at hqO hld
    rw [hlcc] at hlc
    have HGC := Lib.hid hgc
    have HGD := Lib.hid hgd
    have HLC := Lib.hid hlcc
    have HLD := Lib.hid hldd
    have HKE := Lib.hid hkeep
    have HEE := Lib.hid hE
    have HQO := Lib.hid hqO
    have HOW := Lib.hid hOw
    have HTA := Lib.hid (HT4.out.keeps hkeep (by omega))
    have hszA := hE.lt
    have hkS := hkeep.size
    clear hgc hgd hlcc hldd hkeep hE hqO hOO hO hcc hcd hmem hk
    gi_wp2_with (first | (refine store_newIn rfl 99 _ _ rfl (lotF cc) _ 99 rfl rfl (by kernel_rfl) rfl rfl ?_))
    refine ⟨(KeepsBut.refl _ _).alloc _, fun oo => ?_⟩
    have hk2 : KeepsBut (fun m => m = W4.heap.size + 1) A ((A.alloc (.cells (lotF cc) 99)).putObj (W4.heap.size + 1) oo) := ((KeepsBut.refl (fun m => m = W4.heap.size + 1) A).alloc _).putObj (l := W4.heap.size + 1) (.inl rfl) oo
    have RC := Lib.hid (show Row ((A.alloc (.cells (lotF cc) 99)).putObj (W4.heap.size + 1) oo) A.heap.size (lotF cc) 99 from (Row.new A (lotF cc) 99).keeps ((KeepsBut.refl (fun m => m = W4.heap.size + 1) _).putObj (l := W4.heap.size + 1) (.inl rfl) oo) (by omega))
    have RT := Lib.hid (HTA.out.keeps hk2 (by omega))
    have RE := Lib.hid (HEE.out.keeps hk2 (by omega))
    have HQ := Lib.hid (HQO.out.keeps (hk2.mono (fun m _ h => by rw [h]; exact .inl hOl)) (N' := fun g => O g ∨ g < W4.heap.size) (fun m h => .inl h))
    have HKY := Lib.hid (HK.out.below (below_keep (below_keep HK4.out HKE.out (by omega) (fun m hm => by omega)) hk2 (by omega) (fun m hm => by omega)))
    have hszB : A.heap.size + 1 ≤ ((A.alloc (.cells (lotF cc) 99)).putObj (W4.heap.size + 1) oo).heap.size := by simp [World.putObj]
    clear hk2 HEE HTA HQO
    generalize (A.alloc (.cells (lotF cc) 99)).putObj (W4.heap.size + 1) oo = A2 at *
    obtain ⟨cb2, hcb2⟩ : ∃ n, A.heap.size = n := ⟨_, rfl⟩
    rw [hcb2] at RC hszA hszB hlA hkS ⊢
    gi_wp2_with fail
    refine region_heldIn (S := fun w' => Row w' w.heap.size (trA b P mb k) 89 ∧ Row w' cb2 (lotF cc) 99) (by kernel_rfl) (by kernel_rfl) (by rintro ⟨_, _, h⟩; exact h) ⟨RT.out, RC.out⟩ (fun hH => ?_)
    have KC := Lib.hid (show Below A2.heap.size A2 A2.drew from (Below.refl _ _).drew)
    obtain ⟨A3, hA3⟩ : ∃ z, A2.drew = z := ⟨_, rfl⟩
    rw [hA3] at hH KC ⊢
    clear hA3
    refine wpAnyH_take_to 0 12 (.agg (lotF cc)) rfl rfl (by kernel_rfl) (by kernel_rfl) (by kernel_rfl) (fun _ _ _ h => h) (yields_row (by rfl) 99 _ rfl (cb2) rfl 99 (lotF cc) _ (fun _ h => h.2) Try.underlying99 rfl (by kernel_rfl)) hH ?_
    refine wpAnyH_take_to 2 14 (.agg (trA b P mb k)) rfl rfl (by kernel_rfl) (by kernel_rfl) (by kernel_rfl) (fun _ _ _ h => h) (yields_row (by rfl) 89 _ rfl (w.heap.size) rfl 89 (trA b P mb k) _ (fun _ h => h.1) Try.underlying89 rfl (by kernel_rfl)) hH ?_
    refine wpAnyH_take_to 3 15 (.agg (lotF cc)) rfl rfl (by kernel_rfl) (by kernel_rfl) (by kernel_rfl) (fun _ _ _ h => h) (yields_row (by rfl) 99 _ rfl (cb2) rfl 99 (lotF cc) _ (fun _ h => h.2) Try.underlying99 rfl (by kernel_rfl)) hH ?_
    try simp only [List.setIfInBounds_toArray, List.set_cons_succ, List.set_cons_zero]
    refine wpAnyH_ready (rs := [1, 6]) (by kernel_rfl) (by simp) (AllReadyH.cons rfl (fun K hK => ?_) (AllReadyH.cons rfl (fun K hK => ?_) (AllReadyH.nil)))
    · skip
      go_simp
      go_at_call 81
      refine (list_any cc _).mono ?_
      rw [HLC.out]
      rintro e u ⟨p, rfl, hin, hfr, _, hbu⟩
      have HIN := Lib.hid hin
      have HFR := Lib.hid hfr
      have hpz := KC.out.size
      have KC := Lib.hid (KC.out.trans (hbu.mono KC.out.size))
      have KL := Lib.hid (Below.refl u.heap.size u)
      clear hin hfr hbu
      first | (refine hK.out _ _ ⟨RT.out.below KC.out RT.out.lt, RC.out.below KC.out RC.out.lt⟩ (fun hH => ?_)) | (go_simp; refine hK.out _ _ ⟨RT.out.below KC.out RT.out.lt, RC.out.below KC.out RC.out.lt⟩ (fun hH => ?_))
      clear hK K
      try simp only [Act.put, List.setIfInBounds_toArray, List.set_cons_succ, List.set_cons_zero]
      refine wpAnyH_ready (rs := [4, 6]) (by kernel_rfl) (by simp) (AllReadyH.cons rfl (fun K hK => ?_) (AllReadyH.cons rfl (fun K hK => ?_) (AllReadyH.nil)))
      · skip
        go_simp
        go_at_call 106
        refine (goods_any b P mb k cc HCL.out _ (HKY.out.below KC.out)).mono ?_
        rw [HGC.out]
        rintro e v ⟨rfl, hbu⟩
        have KL := Lib.hid (KL.out.trans (hbu.mono KL.out.size))
        have KC := Lib.hid (KC.out.trans (hbu.mono KC.out.size))
        clear hbu
        first | (refine hK.out _ _ ⟨RT.out.below KC.out RT.out.lt, RC.out.below KC.out RC.out.lt⟩ (fun hH => ?_)) | (go_simp; refine hK.out _ _ ⟨RT.out.below KC.out RT.out.lt, RC.out.below KC.out RC.out.lt⟩ (fun hH => ?_))
        clear hK K
        try simp only [Act.put, List.setIfInBounds_toArray, List.set_cons_succ, List.set_cons_zero]
        refine wpAnyH_take_to 5 17 (.agg #[.slice p lc.length lc.length, .int .i64 gc]) rfl rfl (by kernel_rfl) (by kernel_rfl) (by kernel_rfl) (fun _ _ _ h => h) (Or.inl ⟨by rfl, fun w' hSw => by go_simp⟩) hH ?_
        try simp only [List.setIfInBounds_toArray, List.set_cons_succ, List.set_cons_zero]
        refine wpAnyH_ready (rs := [6]) (by kernel_rfl) (by simp) (AllReadyH.cons rfl (fun K hK => ?_) (AllReadyH.nil))
        go_simp
        have hgz := KC.out.size
        have RG := Lib.hid (Row.new (v) #[.slice none 0 0, .int .i64 0] 106)
        have KC := Lib.hid (KC.out.trans ((below_alloc (v) (.cells #[.slice none 0 0, .int .i64 0] 106)).mono KC.out.size))
        have hug := KL.out.size
        have KL := Lib.hid (KL.out.trans ((below_alloc (v) (.cells #[.slice none 0 0, .int .i64 0] 106)).mono KL.out.size))
        obtain ⟨x, hx⟩ : ∃ z, (v).alloc (.cells #[.slice none 0 0, .int .i64 0] 106) = z := ⟨_, rfl⟩
        obtain ⟨g, hg⟩ : ∃ n, (v).heap.size = n := ⟨_, rfl⟩
        have hxg : g < x.heap.size := by rw [← hx, ← hg]; simp
        rw [hx] at KC KL RG ⊢
        rw [hg] at RG hgz hug ⊢
        have KG := Lib.hid (Below.refl x.heap.size x)
        first | (refine hK.out _ _ ⟨RT.out.below KC.out RT.out.lt, RC.out.below KC.out RC.out.lt⟩ (fun hH => ?_)) | (go_simp; refine hK.out _ _ ⟨RT.out.below KC.out RT.out.lt, RC.out.below KC.out RC.out.lt⟩ (fun hH => ?_))
        clear hK K
        try simp only [Act.put, List.setIfInBounds_toArray, List.set_cons_succ, List.set_cons_zero]
        refine wpAnyH_ready (rs := [7]) (by kernel_rfl) (by simp) (AllReadyH.cons rfl (fun K hK => ?_) (AllReadyH.nil))
        rw [if_pos (by rfl)]
        refine wp_store_row' 106 _ _ rfl g #[.slice p lc.length lc.length, .int .i64 gc] #[.slice none 0 0, .int .i64 0] 106 rfl rfl (RG.out.below KG.out RG.out.lt) (by kernel_rfl) rfl (by simp [Value.oneCell']) ?_
        have RGZ := Lib.hid ((RG.out.below KG.out RG.out.lt).setRow #[.slice p lc.length lc.length, .int .i64 gc])
        have HIZ := Lib.hid (((HIN.out.off (N := fun m => m = g) (fun m o _ e h => by have h3 := HFR.out m o e; have h4 := h3.2; have h5 := h3.1; omega)).keeps ((KeepsBut.of_below KL.out).trans ((KeepsBut.refl (fun m => m = g) x).setRow (.inl rfl) #[.slice p lc.length lc.length, .int .i64 gc])) (N' := fun m => m = g) (fun m h => .inl h)).at)
        have KC := Lib.hid (below_setRow' KC.out hgz #[.slice p lc.length lc.length, .int .i64 gc])
        have HFZ := Lib.hid (fun m o (e : p = some ⟨m, o, none⟩) => (show A2.heap.size ≤ m by have h5 := (HFR.out m o e).1; omega))
        obtain ⟨Z, hZ⟩ : ∃ z, (x).setRow g #[.slice p lc.length lc.length, .int .i64 gc] = z := ⟨_, rfl⟩
        rw [hZ] at RGZ HIZ KC ⊢
        clear hZ RG KG KL HIN HFR
        first | (refine hK.out _ _ ⟨RT.out.below KC.out RT.out.lt, RC.out.below KC.out RC.out.lt⟩ (fun hH => ?_)) | (go_simp; refine hK.out _ _ ⟨RT.out.below KC.out RT.out.lt, RC.out.below KC.out RC.out.lt⟩ (fun hH => ?_))
        clear hK K
        try simp only [Act.put, List.setIfInBounds_toArray]
        refine wpAnyH_done (by kernel_rfl) ?_ _
        simp only [Exit.then]
        have hgZ := RGZ.out.lt
        have KZ := Lib.hid (KeepsBut.of_below (M := fun m => m = w.heap.size + 1 + 1) KC.out)
        have RE3 := Lib.hid (RE.out.below KC.out RE.out.lt)
        have HQ3 := Lib.hid (HQ.out.keeps (KeepsBut.of_below (M := fun g => O g ∨ g < W4.heap.size) KC.out) (N' := fun g => O g ∨ g < W4.heap.size) (fun m h => .inl h))
        have HIO := Lib.hid (HIZ.out.off (N := fun g => O g ∨ g < W4.heap.size) (fun m o _ e h => by
          have h1 := HFZ.out m o e
          rcases h with h | h
          · have := (HOW.out m h).2; omega
          · omega))
        have g0 := RGZ.out.cell 0 (v := .slice p lc.length lc.length) rfl
        have g1 := RGZ.out.cell 1 (v := .int .i64 gc) rfl
        have e0 := RE3.out.cell 0 (v := .slice q ld.length cq) rfl
        have e1 := RE3.out.cell 1 (v := .int .i64 gd) rfl
        clear RE HQ KC HIZ RT RC
        gi_wp2_with fail
        refine inRound_of (better_any p _ lc gc q _ ld gd hlc hld Z HIO.out.at HQ3.out.at) ?_
        rintro e Z2 ⟨rfl, hb3⟩
        have RG3 := Lib.hid (RGZ.out.below hb3 RGZ.out.lt)
        have RE4 := Lib.hid (RE3.out.below hb3 RE3.out.lt)
        have HQ4 := Lib.hid (HQ3.out.keeps (KeepsBut.of_below (M := fun g => O g ∨ g < W4.heap.size) hb3) (N' := fun g => O g ∨ g < W4.heap.size) (fun m h => .inl h))
        have HI4 := Lib.hid (HIO.out.keeps (KeepsBut.of_below (M := fun g => O g ∨ g < W4.heap.size) hb3) (N' := fun g => O g ∨ g < W4.heap.size) (fun m h => .inl h))
        have KZ4 := Lib.hid (KZ.out.trans (KeepsBut.of_below (M := fun m => m = w.heap.size + 1 + 1) hb3))
        clear hb3 g0 g1 e0 e1 HIO HQ3 RE3 RGZ KZ
        have g0 := RG3.out.cell 0 (v := .slice p lc.length lc.length) rfl
        have g1 := RG3.out.cell 1 (v := .int .i64 gc) rfl
        have f0 := RE4.out.free 0
        have f1 := RE4.out.free 1
        have e0 := RE4.out.cell 0 (v := .slice q ld.length cq) rfl
        have e1 := RE4.out.cell 1 (v := .int .i64 gd) rfl
        cases hbt : betB lc gc ld gd
        · gi_wp2_with fail
          refine ⟨KZ4.out, hn1, q, cq, ?_⟩
          rw [HSU.out, HPK.out, hbt, if_neg (by simp), HLD.out, HGD.out]
          exact ⟨RE4.out, HQ4.out⟩
        · gi_wp2_with fail
          refine ⟨KZ4.out.trans ((set_keeps _ _ _ _).trans (set_keeps _ _ _ _)), hn1, p, lc.length, ?_⟩
          rw [HSU.out, HPK.out, hbt, if_pos rfl, HLC.out, HGC.out]
          exact ⟨(RE4.out.set 0 (.slice p lc.length lc.length)).set 1 (.int .i64 gc), HI4.out.keeps (((set_keeps _ _ _ _).trans (set_keeps _ _ _ _)).mono (fun m _ h => by rw [h]; exact .inr (by omega))) (fun m h => .inl h)⟩
      · skip
        go_simp
        have hgz := KC.out.size
        have RG := Lib.hid (Row.new (u) #[.slice none 0 0, .int .i64 0] 106)
        have KC := Lib.hid (KC.out.trans ((below_alloc (u) (.cells #[.slice none 0 0, .int .i64 0] 106)).mono KC.out.size))
        have hug := KL.out.size
        have KL := Lib.hid (KL.out.trans ((below_alloc (u) (.cells #[.slice none 0 0, .int .i64 0] 106)).mono KL.out.size))
        obtain ⟨x, hx⟩ : ∃ z, (u).alloc (.cells #[.slice none 0 0, .int .i64 0] 106) = z := ⟨_, rfl⟩
        obtain ⟨g, hg⟩ : ∃ n, (u).heap.size = n := ⟨_, rfl⟩
        have hxg : g < x.heap.size := by rw [← hx, ← hg]; simp
        rw [hx] at KC KL RG ⊢
        rw [hg] at RG hgz hug ⊢
        have KG := Lib.hid (Below.refl x.heap.size x)
        first | (refine hK.out _ _ ⟨RT.out.below KC.out RT.out.lt, RC.out.below KC.out RC.out.lt⟩ (fun hH => ?_)) | (go_simp; refine hK.out _ _ ⟨RT.out.below KC.out RT.out.lt, RC.out.below KC.out RC.out.lt⟩ (fun hH => ?_))
        clear hK K
        try simp only [Act.put, List.setIfInBounds_toArray, List.set_cons_succ, List.set_cons_zero]
        refine wpAnyH_ready (rs := [4]) (by kernel_rfl) (by simp) (AllReadyH.cons rfl (fun K hK => ?_) (AllReadyH.nil))
        go_simp
        go_at_call 106
        refine (goods_any b P mb k cc HCL.out _ (HKY.out.below KC.out)).mono ?_
        rw [HGC.out]
        rintro e v ⟨rfl, hbu⟩
        have KL := Lib.hid (KL.out.trans (hbu.mono KL.out.size))
        have KG := Lib.hid (KG.out.trans (hbu.mono KG.out.size))
        have KC := Lib.hid (KC.out.trans (hbu.mono KC.out.size))
        clear hbu
        first | (refine hK.out _ _ ⟨RT.out.below KC.out RT.out.lt, RC.out.below KC.out RC.out.lt⟩ (fun hH => ?_)) | (go_simp; refine hK.out _ _ ⟨RT.out.below KC.out RT.out.lt, RC.out.below KC.out RC.out.lt⟩ (fun hH => ?_))
        clear hK K
        try simp only [Act.put, List.setIfInBounds_toArray, List.set_cons_succ, List.set_cons_zero]
        refine wpAnyH_take_to 5 17 (.agg #[.slice p lc.length lc.length, .int .i64 gc]) rfl rfl (by kernel_rfl) (by kernel_rfl) (by kernel_rfl) (fun _ _ _ h => h) (Or.inl ⟨by rfl, fun w' hSw => by go_simp⟩) hH ?_
        try simp only [List.setIfInBounds_toArray, List.set_cons_succ, List.set_cons_zero]
        refine wpAnyH_ready (rs := [7]) (by kernel_rfl) (by simp) (AllReadyH.cons rfl (fun K hK => ?_) (AllReadyH.nil))
        rw [if_pos (by rfl)]
        refine wp_store_row' 106 _ _ rfl g #[.slice p lc.length lc.length, .int .i64 gc] #[.slice none 0 0, .int .i64 0] 106 rfl rfl (RG.out.below KG.out RG.out.lt) (by kernel_rfl) rfl (by simp [Value.oneCell']) ?_
        have RGZ := Lib.hid ((RG.out.below KG.out RG.out.lt).setRow #[.slice p lc.length lc.length, .int .i64 gc])
        have HIZ := Lib.hid (((HIN.out.off (N := fun m => m = g) (fun m o _ e h => by have h3 := HFR.out m o e; have h4 := h3.2; have h5 := h3.1; omega)).keeps ((KeepsBut.of_below KL.out).trans ((KeepsBut.refl (fun m => m = g) v).setRow (.inl rfl) #[.slice p lc.length lc.length, .int .i64 gc])) (N' := fun m => m = g) (fun m h => .inl h)).at)
        have KC := Lib.hid (below_setRow' KC.out hgz #[.slice p lc.length lc.length, .int .i64 gc])
        have HFZ := Lib.hid (fun m o (e : p = some ⟨m, o, none⟩) => (show A2.heap.size ≤ m by have h5 := (HFR.out m o e).1; omega))
        obtain ⟨Z, hZ⟩ : ∃ z, (v).setRow g #[.slice p lc.length lc.length, .int .i64 gc] = z := ⟨_, rfl⟩
        rw [hZ] at RGZ HIZ KC ⊢
        clear hZ RG KG KL HIN HFR
        first | (refine hK.out _ _ ⟨RT.out.below KC.out RT.out.lt, RC.out.below KC.out RC.out.lt⟩ (fun hH => ?_)) | (go_simp; refine hK.out _ _ ⟨RT.out.below KC.out RT.out.lt, RC.out.below KC.out RC.out.lt⟩ (fun hH => ?_))
        clear hK K
        try simp only [Act.put, List.setIfInBounds_toArray]
        refine wpAnyH_done (by kernel_rfl) ?_ _
        simp only [Exit.then]
        have hgZ := RGZ.out.lt
        have KZ := Lib.hid (KeepsBut.of_below (M := fun m => m = w.heap.size + 1 + 1) KC.out)
        have RE3 := Lib.hid (RE.out.below KC.out RE.out.lt)
        have HQ3 := Lib.hid (HQ.out.keeps (KeepsBut.of_below (M := fun g => O g ∨ g < W4.heap.size) KC.out) (N' := fun g => O g ∨ g < W4.heap.size) (fun m h => .inl h))
        have HIO := Lib.hid (HIZ.out.off (N := fun g => O g ∨ g < W4.heap.size) (fun m o _ e h => by
          have h1 := HFZ.out m o e
          rcases h with h | h
          · have := (HOW.out m h).2; omega
          · omega))
        have g0 := RGZ.out.cell 0 (v := .slice p lc.length lc.length) rfl
        have g1 := RGZ.out.cell 1 (v := .int .i64 gc) rfl
        have e0 := RE3.out.cell 0 (v := .slice q ld.length cq) rfl
        have e1 := RE3.out.cell 1 (v := .int .i64 gd) rfl
        clear RE HQ KC HIZ RT RC
        gi_wp2_with fail
        refine inRound_of (better_any p _ lc gc q _ ld gd hlc hld Z HIO.out.at HQ3.out.at) ?_
        rintro e Z2 ⟨rfl, hb3⟩
        have RG3 := Lib.hid (RGZ.out.below hb3 RGZ.out.lt)
        have RE4 := Lib.hid (RE3.out.below hb3 RE3.out.lt)
        have HQ4 := Lib.hid (HQ3.out.keeps (KeepsBut.of_below (M := fun g => O g ∨ g < W4.heap.size) hb3) (N' := fun g => O g ∨ g < W4.heap.size) (fun m h => .inl h))
        have HI4 := Lib.hid (HIO.out.keeps (KeepsBut.of_below (M := fun g => O g ∨ g < W4.heap.size) hb3) (N' := fun g => O g ∨ g < W4.heap.size) (fun m h => .inl h))
        have KZ4 := Lib.hid (KZ.out.trans (KeepsBut.of_below (M := fun m => m = w.heap.size + 1 + 1) hb3))
        clear hb3 g0 g1 e0 e1 HIO HQ3 RE3 RGZ KZ
        have g0 := RG3.out.cell 0 (v := .slice p lc.length lc.length) rfl
        have g1 := RG3.out.cell 1 (v := .int .i64 gc) rfl
        have f0 := RE4.out.free 0
        have f1 := RE4.out.free 1
        have e0 := RE4.out.cell 0 (v := .slice q ld.length cq) rfl
        have e1 := RE4.out.cell 1 (v := .int .i64 gd) rfl
        cases hbt : betB lc gc ld gd
        · gi_wp2_with fail
          refine ⟨KZ4.out, hn1, q, cq, ?_⟩
          rw [HSU.out, HPK.out, hbt, if_neg (by simp), HLD.out, HGD.out]
          exact ⟨RE4.out, HQ4.out⟩
        · gi_wp2_with fail
          refine ⟨KZ4.out.trans ((set_keeps _ _ _ _).trans (set_keeps _ _ _ _)), hn1, p, lc.length, ?_⟩
          rw [HSU.out, HPK.out, hbt, if_pos rfl, HLC.out, HGC.out]
          exact ⟨(RE4.out.set 0 (.slice p lc.length lc.length)).set 1 (.int .i64 gc), HI4.out.keeps (((set_keeps _ _ _ _).trans (set_keeps _ _ _ _)).mono (fun m _ h => by rw [h]; exact .inr (by omega))) (fun m h => .inl h)⟩
    · skip
      go_simp
      have hgz := KC.out.size
      have RG := Lib.hid (Row.new (A3) #[.slice none 0 0, .int .i64 0] 106)
      have KC := Lib.hid (KC.out.trans ((below_alloc (A3) (.cells #[.slice none 0 0, .int .i64 0] 106)).mono KC.out.size))
      obtain ⟨x, hx⟩ : ∃ z, (A3).alloc (.cells #[.slice none 0 0, .int .i64 0] 106) = z := ⟨_, rfl⟩
      obtain ⟨g, hg⟩ : ∃ n, (A3).heap.size = n := ⟨_, rfl⟩
      have hxg : g < x.heap.size := by rw [← hx, ← hg]; simp
      rw [hx] at KC RG ⊢
      rw [hg] at RG hgz ⊢
      have KG := Lib.hid (Below.refl x.heap.size x)
      first | (refine hK.out _ _ ⟨RT.out.below KC.out RT.out.lt, RC.out.below KC.out RC.out.lt⟩ (fun hH => ?_)) | (go_simp; refine hK.out _ _ ⟨RT.out.below KC.out RT.out.lt, RC.out.below KC.out RC.out.lt⟩ (fun hH => ?_))
      clear hK K
      try simp only [Act.put, List.setIfInBounds_toArray, List.set_cons_succ, List.set_cons_zero]
      refine wpAnyH_ready (rs := [1]) (by kernel_rfl) (by simp) (AllReadyH.cons rfl (fun K hK => ?_) (AllReadyH.nil))
      go_simp
      go_at_call 81
      refine (list_any cc _).mono ?_
      rw [HLC.out]
      rintro e u ⟨p, rfl, hin, hfr, _, hbu⟩
      have HIN := Lib.hid hin
      have HFR := Lib.hid hfr
      have hpz := KC.out.size
      have KC := Lib.hid (KC.out.trans (hbu.mono KC.out.size))
      have KL := Lib.hid (Below.refl u.heap.size u)
      have KG := Lib.hid (KG.out.trans (hbu.mono KG.out.size))
      clear hin hfr hbu
      first | (refine hK.out _ _ ⟨RT.out.below KC.out RT.out.lt, RC.out.below KC.out RC.out.lt⟩ (fun hH => ?_)) | (go_simp; refine hK.out _ _ ⟨RT.out.below KC.out RT.out.lt, RC.out.below KC.out RC.out.lt⟩ (fun hH => ?_))
      clear hK K
      try simp only [Act.put, List.setIfInBounds_toArray, List.set_cons_succ, List.set_cons_zero]
      refine wpAnyH_ready (rs := [4]) (by kernel_rfl) (by simp) (AllReadyH.cons rfl (fun K hK => ?_) (AllReadyH.nil))
      go_simp
      go_at_call 106
      refine (goods_any b P mb k cc HCL.out _ (HKY.out.below KC.out)).mono ?_
      rw [HGC.out]
      rintro e v ⟨rfl, hbu⟩
      have KL := Lib.hid (KL.out.trans (hbu.mono KL.out.size))
      have KG := Lib.hid (KG.out.trans (hbu.mono KG.out.size))
      have KC := Lib.hid (KC.out.trans (hbu.mono KC.out.size))
      clear hbu
      first | (refine hK.out _ _ ⟨RT.out.below KC.out RT.out.lt, RC.out.below KC.out RC.out.lt⟩ (fun hH => ?_)) | (go_simp; refine hK.out _ _ ⟨RT.out.below KC.out RT.out.lt, RC.out.below KC.out RC.out.lt⟩ (fun hH => ?_))
      clear hK K
      try simp only [Act.put, List.setIfInBounds_toArray, List.set_cons_succ, List.set_cons_zero]
      refine wpAnyH_take_to 5 17 (.agg #[.slice p lc.length lc.length, .int .i64 gc]) rfl rfl (by kernel_rfl) (by kernel_rfl) (by kernel_rfl) (fun _ _ _ h => h) (Or.inl ⟨by rfl, fun w' hSw => by go_simp⟩) hH ?_
      try simp only [List.setIfInBounds_toArray, List.set_cons_succ, List.set_cons_zero]
      refine wpAnyH_ready (rs := [7]) (by kernel_rfl) (by simp) (AllReadyH.cons rfl (fun K hK => ?_) (AllReadyH.nil))
      rw [if_pos (by rfl)]
      refine wp_store_row' 106 _ _ rfl g #[.slice p lc.length lc.length, .int .i64 gc] #[.slice none 0 0, .int .i64 0] 106 rfl rfl (RG.out.below KG.out RG.out.lt) (by kernel_rfl) rfl (by simp [Value.oneCell']) ?_
      have RGZ := Lib.hid ((RG.out.below KG.out RG.out.lt).setRow #[.slice p lc.length lc.length, .int .i64 gc])
      have HIZ := Lib.hid (((HIN.out.off (N := fun m => m = g) (fun m o _ e h => by have h3 := HFR.out m o e; have h4 := h3.2; have h5 := h3.1; omega)).keeps ((KeepsBut.of_below KL.out).trans ((KeepsBut.refl (fun m => m = g) v).setRow (.inl rfl) #[.slice p lc.length lc.length, .int .i64 gc])) (N' := fun m => m = g) (fun m h => .inl h)).at)
      have KC := Lib.hid (below_setRow' KC.out hgz #[.slice p lc.length lc.length, .int .i64 gc])
      have HFZ := Lib.hid (fun m o (e : p = some ⟨m, o, none⟩) => (show A2.heap.size ≤ m by have h5 := (HFR.out m o e).1; omega))
      obtain ⟨Z, hZ⟩ : ∃ z, (v).setRow g #[.slice p lc.length lc.length, .int .i64 gc] = z := ⟨_, rfl⟩
      rw [hZ] at RGZ HIZ KC ⊢
      clear hZ RG KG KL HIN HFR
      first | (refine hK.out _ _ ⟨RT.out.below KC.out RT.out.lt, RC.out.below KC.out RC.out.lt⟩ (fun hH => ?_)) | (go_simp; refine hK.out _ _ ⟨RT.out.below KC.out RT.out.lt, RC.out.below KC.out RC.out.lt⟩ (fun hH => ?_))
      clear hK K
      try simp only [Act.put, List.setIfInBounds_toArray]
      refine wpAnyH_done (by kernel_rfl) ?_ _
      simp only [Exit.then]
      have hgZ := RGZ.out.lt
      have KZ := Lib.hid (KeepsBut.of_below (M := fun m => m = w.heap.size + 1 + 1) KC.out)
      have RE3 := Lib.hid (RE.out.below KC.out RE.out.lt)
      have HQ3 := Lib.hid (HQ.out.keeps (KeepsBut.of_below (M := fun g => O g ∨ g < W4.heap.size) KC.out) (N' := fun g => O g ∨ g < W4.heap.size) (fun m h => .inl h))
      have HIO := Lib.hid (HIZ.out.off (N := fun g => O g ∨ g < W4.heap.size) (fun m o _ e h => by
        have h1 := HFZ.out m o e
        rcases h with h | h
        · have := (HOW.out m h).2; omega
        · omega))
      have g0 := RGZ.out.cell 0 (v := .slice p lc.length lc.length) rfl
      have g1 := RGZ.out.cell 1 (v := .int .i64 gc) rfl
      have e0 := RE3.out.cell 0 (v := .slice q ld.length cq) rfl
      have e1 := RE3.out.cell 1 (v := .int .i64 gd) rfl
      clear RE HQ KC HIZ RT RC
      gi_wp2_with fail
      refine inRound_of (better_any p _ lc gc q _ ld gd hlc hld Z HIO.out.at HQ3.out.at) ?_
      rintro e Z2 ⟨rfl, hb3⟩
      have RG3 := Lib.hid (RGZ.out.below hb3 RGZ.out.lt)
      have RE4 := Lib.hid (RE3.out.below hb3 RE3.out.lt)
      have HQ4 := Lib.hid (HQ3.out.keeps (KeepsBut.of_below (M := fun g => O g ∨ g < W4.heap.size) hb3) (N' := fun g => O g ∨ g < W4.heap.size) (fun m h => .inl h))
      have HI4 := Lib.hid (HIO.out.keeps (KeepsBut.of_below (M := fun g => O g ∨ g < W4.heap.size) hb3) (N' := fun g => O g ∨ g < W4.heap.size) (fun m h => .inl h))
      have KZ4 := Lib.hid (KZ.out.trans (KeepsBut.of_below (M := fun m => m = w.heap.size + 1 + 1) hb3))
      clear hb3 g0 g1 e0 e1 HIO HQ3 RE3 RGZ KZ
      have g0 := RG3.out.cell 0 (v := .slice p lc.length lc.length) rfl
      have g1 := RG3.out.cell 1 (v := .int .i64 gc) rfl
      have f0 := RE4.out.free 0
      have f1 := RE4.out.free 1
      have e0 := RE4.out.cell 0 (v := .slice q ld.length cq) rfl
      have e1 := RE4.out.cell 1 (v := .int .i64 gd) rfl
      cases hbt : betB lc gc ld gd
      · gi_wp2_with fail
        refine ⟨KZ4.out, hn1, q, cq, ?_⟩
        rw [HSU.out, HPK.out, hbt, if_neg (by simp), HLD.out, HGD.out]
        exact ⟨RE4.out, HQ4.out⟩
      · gi_wp2_with fail
        refine ⟨KZ4.out.trans ((set_keeps _ _ _ _).trans (set_keeps _ _ _ _)), hn1, p, lc.length, ?_⟩
        rw [HSU.out, HPK.out, hbt, if_pos rfl, HLC.out, HGC.out]
        exact ⟨(RE4.out.set 0 (.slice p lc.length lc.length)).set 1 (.int .i64 gc), HI4.out.keeps (((set_keeps _ _ _ _).trans (set_keeps _ _ _ _)).mono (fun m _ h => by rw [h]; exact .inr (by omega))) (fun m h => .inl h)⟩
  case done =>
    rintro O B ⟨hn1, q, c, hE, hqO⟩ hO hkeep hsz hDef
    rw [List.take_length] at hE hqO
    change Row B (w.heap.size + 1 + 1) #[.slice q (intsN (lotsL (bestK b k))).length c, .int .i64 (topK b k)] 106 at hE
    change IntsOff (fun g => O g ∨ g < W4.heap.size) B q (intsN (lotsL (bestK b k))) at hqO
    obtain ⟨lb, hlb⟩ : ∃ l, intsN (lotsL (bestK b k)) = l := ⟨_, rfl⟩
    obtain ⟨gb, hgb⟩ : ∃ g, topK b k = g := ⟨_, rfl⟩
    rw [hlb, hgb] at hE
    rw [hlb] at hqO
    have HQO := Lib.hid hqO
    have RBB := Lib.hid (HR4.out.keeps hkeep (by omega))
    have HKE := Lib.hid hkeep
    have HDF := Lib.hid hDef
    have e0 := hE.cell 0 (v := .slice q lb.length c) rfl
    have e1 := hE.cell 1 (v := .int .i64 gb) rfl
    have d0 := RBB.out.cell 0 (v := .slice none 0 0) rfl
    have d1 := RBB.out.cell 1 (v := .int .i64 0) rfl
    have f0 := RBB.out.free 0
    have f1 := RBB.out.free 1
    have hzB := hE.lt
    have HLB := Lib.hid hlb
    have HGB := Lib.hid hgb
    clear hkeep hDef hE hqO hlb hgb
    go_wp2
    have q0 := (RBB.out.set 0 (.slice q lb.length c)).set 1 (.int .i64 gb)
    have q0 : Row ((B.setCell ⟨w.heap.size + 1, 0, none⟩ (.slice q lb.length c)).setCell ⟨w.heap.size + 1, 1, none⟩ (.int .i64 gb)) (w.heap.size + 1) #[.slice q lb.length c, .int .i64 gb] 106 := q0
    have k0 : KeepsBut (fun m => m = w.heap.size + 1) B ((B.setCell ⟨w.heap.size + 1, 0, none⟩ (.slice q lb.length c)).setCell ⟨w.heap.size + 1, 1, none⟩ (.int .i64 gb)) := (set_keeps _ _ _ _).trans (set_keeps _ _ _ _)
    generalize (B.setCell ⟨w.heap.size + 1, 0, none⟩ (.slice q lb.length c)).setCell ⟨w.heap.size + 1, 1, none⟩ (.int .i64 gb) = B1 at *
    have hDC := (k0.block W4.heap.size (by omega) (by omega)).trans HDF.out
    have hzk := k0.size
    have hmk : Marks w.heap.size [{ target := .collected W4.heap.size, args := #[] }] B1 := ⟨⟨_, rfl, by omega, hDC, by simp⟩, trivial⟩
    refine marks_leave hmk (fun B2 hB2 => ?_)
    have hrest : ∀ g : Nat, (∀ o, B1.heap[g]? ≠ some (Obj.deferred o)) → B2.heap[g]? = B1.heap[g]? := fun g h => hB2.rest g h
    have q1 : Row B2 (w.heap.size + 1) #[.slice q lb.length c, .int .i64 gb] 106 := by
      have := q0
      unfold Row at this ⊢
      rw [hrest _ (fun o h => by rw [h] at this; cases this)]
      exact this
    have kN : KeepsBut (fun g => O g ∨ g < W4.heap.size) B B1 := k0.mono (fun m _ h => by rw [h]; exact .inr (by omega))
    refine ⟨_, results_cell_row Try.results74 _ _ _ _ #[.slice q lb.length c, .int .i64 gb] _ _ rfl q1 Try.underlying106 rfl (by kernel_rfl), ?_⟩
    exact ⟨q, c, by rw [HLB.out, HGB.out], by rw [HLB.out]; exact (HQO.out.keeps kN (N' := fun g => O g ∨ g < W4.heap.size) (fun m h => .inl h)).at.same hrest, (below_keep (below_keep HK4.out HKE.out (by omega) (fun m hm => by omega)) k0 (by omega) (fun m hm => by omega)).trans hB2.below⟩
  case stop =>
    intro cc O B h
    exact h.elim
end Go.Proofs.Ytajkgfeockcbpaa
