/- The walks of layer 6: served lots, truths, and what is so in each. -/
import Derived.Test.YtajkgfeockcbpaaY6
import Derived.Test.YtajkgfeockcbpaaKMC
namespace Go.Proofs.Ytajkgfeockcbpaa
open Go.RowKit Go.Maps
attribute [local go_sem] Oper.semAt_some

theorem store_new1 {P : Program} {ops : Array Oper} {rest : List Oper} {op : Oper} {a : Act} {w : World} {o : Obj} {Q : Exit → Act → World → Prop} (hgd : op.guard = none) (ty : TypeId) (x y : Operand) (ho : op.op = .store ty x y)
    (cs old : Array Value) (t : TypeId) (hx : a.eval x = .pointer (some ⟨w.heap.size + 1, 0, none⟩)) (hy : a.eval y = .agg cs)
    (hi : (P.info? ty).map (·.size) = some cs.size) (hold : old.size = cs.size) (h1 : cs.all (·.oneCell') = true)
    (h : wpList P ops Q rest (a.put op.dst undef) ((w.alloc o).alloc (.cells cs t))) : wpList P ops Q (op :: rest) a ((w.alloc o).alloc (.cells old t)) :=
  store_new hgd ty x y ho cs old t (by rw [World.size_alloc]; exact hx) hy hi hold h1 h
theorem store_new2 {P : Program} {ops : Array Oper} {rest : List Oper} {op : Oper} {a : Act} {w : World} {o o' : Obj} {Q : Exit → Act → World → Prop} (hgd : op.guard = none) (ty : TypeId) (x y : Operand) (ho : op.op = .store ty x y)
    (cs old : Array Value) (t : TypeId) (hx : a.eval x = .pointer (some ⟨w.heap.size + 1 + 1, 0, none⟩)) (hy : a.eval y = .agg cs)
    (hi : (P.info? ty).map (·.size) = some cs.size) (hold : old.size = cs.size) (h1 : cs.all (·.oneCell') = true)
    (h : wpList P ops Q rest (a.put op.dst undef) (((w.alloc o).alloc o').alloc (.cells cs t))) : wpList P ops Q (op :: rest) a (((w.alloc o).alloc o').alloc (.cells old t)) :=
  store_new hgd ty x y ho cs old t (by rw [World.size_alloc, World.size_alloc]; exact hx) hy hi hold h1 h
set_option maxRecDepth 10000 in
set_option maxHeartbeats 1600000 in
theorem served_any (b : Yb) (P : Yp) (mb : Nat) (k : Bool) (i : Nat) (hi : i < b.lots.length) (w : World) (hK : YkAt w P mb b) :
    Calls Try.prog 66 #[.agg (trA b P mb k), .int .i64 i] w fun e w' => e = .returned (.bool (servK b k i)) ∧ Below w.heap.size w w' := by
  obtain ⟨W0, hW0⟩ : ∃ W, W = w.alloc (.cells (trA b P mb k) 89) := ⟨_, rfl⟩
  have HW0 := Lib.hid hW0
  have HE := Lib.hid (show Below w.heap.size w W0 by rw [hW0]; exact below_alloc _ _)
  have HR := Lib.hid (show Row W0 w.heap.size (trA b P mb k) 89 by rw [hW0]; exact Row.new w _ _)
  clear hW0
  have HK := Lib.hid (hK.below HE.out)
  clear hK
  have HD := Lib.hid (fun (x : Later W0) => hasDoor_any b P mb k i hi x.w (HK.out.below x.b))
  have HU := Lib.hid (fun (x : Later W0) => hasBucket_any b P mb k i hi x.w (HK.out.below x.b))
  rw [show servK b k i = (reachK b k i b.doors b.door && reachK b k i b.buckets b.bucket) from rfl]
  generalize reachK b k i b.doors b.door = D at *
  generalize reachK b k i b.buckets b.bucket = U at *
  have c0 := HR.out.cell 0 (v := .slice P.pl b.lots.length P.cl) rfl
  have c1 := HR.out.cell 1 (v := .slice P.pd b.doors.length P.cd) rfl
  have c2 := HR.out.cell 2 (v := .slice P.pb b.buckets.length P.cb) rfl
  have c3 := HR.out.cell 3 (v := .slice P.ps b.spare.length P.cs) rfl
  have c4 := HR.out.cell 4 (v := .int .i64 b.apart) rfl
  have c5 := HR.out.cell 5 (v := .int .i64 b.door) rfl
  have c6 := HR.out.cell 6 (v := .int .i64 b.bucket) rfl
  have c7 := HR.out.cell 7 (v := .int .i64 b.err) rfl
  have c8 := HR.out.cell 8 (v := .map (some mb)) rfl
  have c9 := HR.out.cell 9 (v := .func (.func (idE k)) #[] #[]) rfl
  have c10 := HR.out.cell 10 (v := .func (.func (idO k)) #[] #[]) rfl
  have c11 := HR.out.cell 11 (v := .func (.func (idE k)) #[] #[]) rfl
  go_enter Try.func66, Try.ntmps66
  go_wp2_with fail
  rw [← HW0.out]
  refine (needs_any _).mono ?_
  rintro e u ⟨rfl, hbu⟩
  obtain ⟨z1, hz1⟩ := later_of hbu
  subst hz1
  clear hbu
  go_wp2_with fail
  go_loopw [8] (fun ix wr => (ix = .int .i64 0 ∨ (ix = .int .i64 1 ∧ D = true) ∨ (ix = .int .i64 2 ∧ D = true ∧ U = true)) ∧ ∃ x : Later W0, wr = x.w) (fun ix _ => 2 - (intOf ix).toNat)
  case atStart => exact ⟨.inl rfl, z1, rfl⟩
  case round =>
    obtain ⟨hx, x, rfl⟩ := hrel
    rcases hx with rfl | ⟨rfl, hd⟩ | ⟨rfl, hd, hu⟩
    · go_wp2_with (first | (refine index_op rfl 133 _ _ rfl _ _ rfl rfl _ (need0 _) ?_))
      refine (HD.out x).mono ?_
      rintro e u ⟨rfl, hbu⟩
      obtain ⟨y, hy⟩ := x.on hbu
      subst hy
      clear hbu
      cases D
      · go_wp2_with fail
        go_ret
        exact ⟨ret_bool (by simp), y.base HE.out⟩
      · go_wp2_with fail
        go_roundw
        case rel => exact ⟨.inr (.inl ⟨rfl, by trivial⟩), y, rfl⟩
        case measure => simp [intOf]
    · go_wp2_with (first | (refine index_op rfl 133 _ _ rfl _ _ rfl rfl _ (need1 _) ?_))
      refine (HU.out x).mono ?_
      rintro e u ⟨rfl, hbu⟩
      obtain ⟨y, hy⟩ := x.on hbu
      subst hy
      clear hbu
      cases U
      · go_wp2_with fail
        go_ret
        exact ⟨ret_bool (by simp), y.base HE.out⟩
      · go_wp2_with fail
        go_roundw
        case rel => exact ⟨.inr (.inr ⟨rfl, by trivial, by trivial⟩), y, rfl⟩
        case measure => simp [intOf]
    · subst hd
      subst hu
      go_wp2_with fail
      go_ret
      exact ⟨ret_bool (by simp), x.base HE.out⟩
set_option maxRecDepth 10000 in
set_option maxHeartbeats 1600000 in
theorem unserved_any (b : Yb) (P : Yp) (mb : Nat) (k : Bool) (i : Nat) (hi : i < b.lots.length) (w : World) (hK : YkAt w P mb b) :
    Calls Try.prog 115 #[.agg (trA b P mb k), .int .i64 i] w fun e w' => e = .returned (.bool (!servK b k i)) ∧ Below w.heap.size w w' := by
  have hE := below_alloc w (.cells (trA b P mb k) 89)
  have HC := Lib.hid (served_any b P mb k i hi _ (hK.below hE))
  have HE := Lib.hid hE
  clear hE hK
  go_enter Try.func115, Try.ntmps115
  go_wp2_with (go_at_call 66; refine HC.out.mono ?_; rintro e u ⟨rfl, hbu⟩)
  have HE2 := Lib.hid (HE.out.trans (hbu.mono HE.out.size))
  clear hbu
  go_wp2_with fail
  go_ret
  exact ⟨rfl, HE2.out⟩
set_option maxRecDepth 10000 in
set_option maxHeartbeats 1600000 in
theorem worst_any (b : Yb) (P : Yp) (mb : Nat) (w : World) : Calls Try.prog 73 #[.agg (ykA b P mb)] w fun e w' => e = .returned (.agg (trA b P mb false)) ∧ Below w.heap.size w w' := by
  have HQ := Lib.hid (Row.new1 w (.cells (ykA b P mb) 83) (trA b P mb false) 89)
  have HB := Lib.hid (below_alloc2 w (.cells (ykA b P mb) 83) (.cells (trA b P mb false) 89))
  go_enter Try.func73, Try.ntmps73
  go_wp2_with (first | (refine store_new1 rfl 89 _ _ rfl (trA b P mb false) #[.slice none 0 0, .slice none 0 0, .slice none 0 0, .slice none 0 0, .int .i64 0, .int .i64 0, .int .i64 0, .int .i64 0, .map none, .nilFunc, .nilFunc, .nilFunc] 89 rfl rfl (by kernel_rfl) rfl (by simp [Value.oneCell']) ?_))
  exact bodyPost_ret (v := .agg (trA b P mb false)) (results_cell_row Try.results73 _ _ _ _ _ _ _ rfl HQ.out Try.underlying89 rfl (by kernel_rfl)) rfl ⟨rfl, HB.out⟩
set_option maxRecDepth 10000 in
set_option maxHeartbeats 1600000 in
theorem kindest_any (b : Yb) (P : Yp) (mb : Nat) (w : World) : Calls Try.prog 76 #[.agg (ykA b P mb)] w fun e w' => e = .returned (.agg (trA b P mb true)) ∧ Below w.heap.size w w' := by
  have HQ := Lib.hid (Row.new1 w (.cells (ykA b P mb) 83) (trA b P mb true) 89)
  have HB := Lib.hid (below_alloc2 w (.cells (ykA b P mb) 83) (.cells (trA b P mb true) 89))
  go_enter Try.func76, Try.ntmps76
  go_wp2_with (first | (refine store_new1 rfl 89 _ _ rfl (trA b P mb true) #[.slice none 0 0, .slice none 0 0, .slice none 0 0, .slice none 0 0, .int .i64 0, .int .i64 0, .int .i64 0, .int .i64 0, .map none, .nilFunc, .nilFunc, .nilFunc] 89 rfl rfl (by kernel_rfl) rfl (by simp [Value.oneCell']) ?_))
  exact bodyPost_ret (v := .agg (trA b P mb true)) (results_cell_row Try.results76 _ _ _ _ _ _ _ rfl HQ.out Try.underlying89 rfl (by kernel_rfl)) rfl ⟨rfl, HB.out⟩
abbrev twoA (b : Yb) (P : Yp) (mb : Nat) : Array Value := #[.slice P.pl b.lots.length P.cl, .slice P.pd b.doors.length P.cd, .slice P.pb b.buckets.length P.cb, .slice P.ps b.spare.length P.cs, .int .i64 b.apart, .int .i64 b.door, .int .i64 b.bucket, .int .i64 b.err, .map (some mb), .func (.func (idE false)) #[] #[], .func (.func (idO false)) #[] #[], .func (.func (idE false)) #[] #[], .slice P.pl b.lots.length P.cl, .slice P.pd b.doors.length P.cd, .slice P.pb b.buckets.length P.cb, .slice P.ps b.spare.length P.cs, .int .i64 b.apart, .int .i64 b.door, .int .i64 b.bucket, .int .i64 b.err, .map (some mb), .func (.func (idE true)) #[] #[], .func (.func (idO true)) #[] #[], .func (.func (idE true)) #[] #[]]
theorem two0 (b : Yb) (P : Yp) (mb : Nat) (w : World) : (Instr.index 125 (.agg (twoA b P mb)) (.int .i64 0)).run Try.prog w = .ok (.agg (trA b P mb false)) w := by
  simp [Instr.index, go_sem]
theorem two1 (b : Yb) (P : Yp) (mb : Nat) (w : World) : (Instr.index 125 (.agg (twoA b P mb)) (.int .i64 1)).run Try.prog w = .ok (.agg (trA b P mb true)) w := by
  simp [Instr.index, go_sem]
set_option maxRecDepth 10000 in
set_option maxHeartbeats 1600000 in
theorem kind_near (b : Yb) (P : Yp) (mb : Nat) (f : Bool → Bool) (p1 p2 : Nat) (w : World) (hc : ∀ k w', Below w.heap.size w w' → Calls Try.prog 57 #[.agg (trA b P mb k), .pointer (some ⟨p1, 0, none⟩), .pointer (some ⟨p2, 0, none⟩)] w' fun e w'' => e = .returned (.bool (f k)) ∧ Below w'.heap.size w' w'') :
    Calls Try.prog 56 #[.agg (ykA b P mb), .func (.func 57) #[] #[.pointer (some ⟨p1, 0, none⟩), .pointer (some ⟨p2, 0, none⟩)]] w fun e w' => e = .returned (.int .i64 (kindN f)) ∧ Below w.heap.size w w' := by
  obtain ⟨W0, hW0⟩ : ∃ W, W = w.alloc (.cells (ykA b P mb) 83) := ⟨_, rfl⟩
  have HW0 := Lib.hid hW0
  have HE := Lib.hid (show Below w.heap.size w W0 by rw [hW0]; exact below_alloc _ _)
  have HR := Lib.hid (show Row W0 w.heap.size (ykA b P mb) 83 by rw [hW0]; exact Row.new w _ _)
  clear hW0
  obtain ⟨z0, hz0⟩ : ∃ z : Later W0, W0 = z.w := ⟨⟨W0, Below.refl _ _⟩, rfl⟩
  have HZ0 := Lib.hid hz0
  clear hz0
  have HC := Lib.hid (fun k w' (h : Below W0.heap.size W0 w') => hc k w' (HE.out.trans (h.mono HE.out.size)))
  clear hc
  have HKN := Lib.hid (show kindN f = (if f false then 1 else 0) + (if f true then 1 else 0) from rfl)
  rw [HKN.out]
  generalize hf0 : f false = f0 at *
  generalize hf1 : f true = f1 at *
  obtain ⟨n0, hn0⟩ : ∃ n0 : Int, (if f0 then 1 else 0) = n0 := ⟨_, rfl⟩
  obtain ⟨n1, hn1⟩ : ∃ n1 : Int, n0 + (if f1 then 1 else 0) = n1 := ⟨_, rfl⟩
  have HN0 := Lib.hid hn0
  have HN1 := Lib.hid hn1
  rw [hn0, hn1]
  have b0 : 0 ≤ n0 := by rw [← hn0]; split <;> omega
  have b1 : n0 ≤ 1 := by rw [← hn0]; split <;> omega
  clear hn0 hn1
  have HC0 := Lib.hid (HC.out false)
  have HC1 := Lib.hid (HC.out true)
  rw [hf0] at HC0
  rw [hf1] at HC1
  clear hf0 hf1 HC HKN
  have c0 := HR.out.cell 0 (v := .slice P.pl b.lots.length P.cl) rfl
  have c1 := HR.out.cell 1 (v := .slice P.pd b.doors.length P.cd) rfl
  have c2 := HR.out.cell 2 (v := .slice P.pb b.buckets.length P.cb) rfl
  have c3 := HR.out.cell 3 (v := .slice P.ps b.spare.length P.cs) rfl
  have c4 := HR.out.cell 4 (v := .int .i64 b.apart) rfl
  have c5 := HR.out.cell 5 (v := .int .i64 b.door) rfl
  have c6 := HR.out.cell 6 (v := .int .i64 b.bucket) rfl
  have c7 := HR.out.cell 7 (v := .int .i64 b.err) rfl
  have c8 := HR.out.cell 8 (v := .map (some mb)) rfl
  go_enter Try.func56, Try.ntmps56
  go_upto_region 2 with (fail)
  rw [← HW0.out, HZ0.out]
  refine wp_region_later (by kernel_rfl) (by kernel_rfl) ?_
  repeat (go_big_quiet_step (first
    | (go_at_call 73; with_reducible exact Calls.later_of (worst_any _ _ _ _))
    | (go_at_call 76; with_reducible exact Calls.later_of (kindest_any _ _ _ _))))
  refine wpQuiet_nil ?_
  intro _ hw'
  obtain ⟨yy, hw''⟩ := hw'
  subst hw''
  obtain ⟨z1, hy⟩ := z0.up yy
  rw [hy]
  clear hy
  clear c0 c1 c2 c3 c4 c5 c6 c7 c8
  go_wp2_with fail
  go_loopw [5, 13] (fun n ix wr => ((ix = .int .i64 0 ∧ n = .int .i64 0) ∨ (ix = .int .i64 1 ∧ n = .int .i64 n0) ∨ (ix = .int .i64 2 ∧ n = .int .i64 n1)) ∧ ∃ x : Later W0, wr = x.w) (fun _ ix _ => 2 - (intOf ix).toNat)
  case atStart => exact ⟨.inl ⟨rfl, rfl⟩, z1, rfl⟩
  case round =>
    obtain ⟨hx, x, rfl⟩ := hrel
    rcases hx with ⟨rfl, rfl⟩ | ⟨rfl, rfl⟩ | ⟨rfl, rfl⟩
    · go_wp2_with (first | (refine index_op rfl 125 _ _ rfl (twoA b P mb) _ rfl rfl _ (two0 b P mb _) ?_) | (refine store_new rfl 89 _ _ rfl (trA b P mb false) #[.slice none 0 0, .slice none 0 0, .slice none 0 0, .slice none 0 0, .int .i64 0, .int .i64 0, .int .i64 0, .int .i64 0, .map none, .nilFunc, .nilFunc, .nilFunc] 89 rfl rfl (by kernel_rfl) rfl (by simp [Value.oneCell']) ?_))
      refine (HC0.out _ (x.b.trans ((below_alloc x.w _).mono x.b.size))).mono ?_
      rintro e u ⟨rfl, hbu⟩
      obtain ⟨y, hy⟩ := x.on ((below_alloc x.w _).trans (hbu.mono (by simp)))
      subst hy
      clear hbu
      cases f0
      · obtain rfl : n0 = 0 := HN0.out.symm
        go_wp2_with fail
        go_roundw
        case rel => exact ⟨.inr (.inl ⟨rfl, rfl⟩), y, rfl⟩
        case measure => simp [intOf]
      · obtain rfl : n0 = 1 := HN0.out.symm
        go_wp2_with fail
        go_roundw
        case rel => exact ⟨.inr (.inl ⟨rfl, rfl⟩), y, rfl⟩
        case measure => simp [intOf]
    · go_wp2_with (first | (refine index_op rfl 125 _ _ rfl (twoA b P mb) _ rfl rfl _ (two1 b P mb _) ?_) | (refine store_new rfl 89 _ _ rfl (trA b P mb true) #[.slice none 0 0, .slice none 0 0, .slice none 0 0, .slice none 0 0, .int .i64 0, .int .i64 0, .int .i64 0, .int .i64 0, .map none, .nilFunc, .nilFunc, .nilFunc] 89 rfl rfl (by kernel_rfl) rfl (by simp [Value.oneCell']) ?_))
      refine (HC1.out _ (x.b.trans ((below_alloc x.w _).mono x.b.size))).mono ?_
      rintro e u ⟨rfl, hbu⟩
      obtain ⟨y, hy⟩ := x.on ((below_alloc x.w _).trans (hbu.mono (by simp)))
      subst hy
      clear hbu
      cases f1
      · obtain rfl : n1 = n0 := by have := HN1.out; simp at this; omega
        go_wp2_with fail
        go_roundw
        case rel => exact ⟨.inr (.inr ⟨rfl, rfl⟩), y, rfl⟩
        case measure => simp [intOf]
      · obtain rfl : n1 = n0 + 1 := by have := HN1.out; simp at this; omega
        go_wp2_with fail
        go_roundw
        case rel => exact ⟨.inr (.inr ⟨rfl, rfl⟩), y, rfl⟩
        case measure => simp [intOf]
    · go_wp2_with fail
      go_ret
      exact ⟨rfl, x.base HE.out⟩
set_option maxRecDepth 10000 in
set_option maxHeartbeats 1600000 in
theorem kind_served (b : Yb) (P : Yp) (mb : Nat) (f : Bool → Bool) (p1 : Nat) (w : World) (hc : ∀ k w', Below w.heap.size w w' → Calls Try.prog 65 #[.agg (trA b P mb k), .pointer (some ⟨p1, 0, none⟩)] w' fun e w'' => e = .returned (.bool (f k)) ∧ Below w'.heap.size w' w'') :
    Calls Try.prog 56 #[.agg (ykA b P mb), .func (.func 65) #[] #[.pointer (some ⟨p1, 0, none⟩)]] w fun e w' => e = .returned (.int .i64 (kindN f)) ∧ Below w.heap.size w w' := by
  obtain ⟨W0, hW0⟩ : ∃ W, W = w.alloc (.cells (ykA b P mb) 83) := ⟨_, rfl⟩
  have HW0 := Lib.hid hW0
  have HE := Lib.hid (show Below w.heap.size w W0 by rw [hW0]; exact below_alloc _ _)
  have HR := Lib.hid (show Row W0 w.heap.size (ykA b P mb) 83 by rw [hW0]; exact Row.new w _ _)
  clear hW0
  obtain ⟨z0, hz0⟩ : ∃ z : Later W0, W0 = z.w := ⟨⟨W0, Below.refl _ _⟩, rfl⟩
  have HZ0 := Lib.hid hz0
  clear hz0
  have HC := Lib.hid (fun k w' (h : Below W0.heap.size W0 w') => hc k w' (HE.out.trans (h.mono HE.out.size)))
  clear hc
  have HKN := Lib.hid (show kindN f = (if f false then 1 else 0) + (if f true then 1 else 0) from rfl)
  rw [HKN.out]
  generalize hf0 : f false = f0 at *
  generalize hf1 : f true = f1 at *
  obtain ⟨n0, hn0⟩ : ∃ n0 : Int, (if f0 then 1 else 0) = n0 := ⟨_, rfl⟩
  obtain ⟨n1, hn1⟩ : ∃ n1 : Int, n0 + (if f1 then 1 else 0) = n1 := ⟨_, rfl⟩
  have HN0 := Lib.hid hn0
  have HN1 := Lib.hid hn1
  rw [hn0, hn1]
  have b0 : 0 ≤ n0 := by rw [← hn0]; split <;> omega
  have b1 : n0 ≤ 1 := by rw [← hn0]; split <;> omega
  clear hn0 hn1
  have HC0 := Lib.hid (HC.out false)
  have HC1 := Lib.hid (HC.out true)
  rw [hf0] at HC0
  rw [hf1] at HC1
  clear hf0 hf1 HC HKN
  have c0 := HR.out.cell 0 (v := .slice P.pl b.lots.length P.cl) rfl
  have c1 := HR.out.cell 1 (v := .slice P.pd b.doors.length P.cd) rfl
  have c2 := HR.out.cell 2 (v := .slice P.pb b.buckets.length P.cb) rfl
  have c3 := HR.out.cell 3 (v := .slice P.ps b.spare.length P.cs) rfl
  have c4 := HR.out.cell 4 (v := .int .i64 b.apart) rfl
  have c5 := HR.out.cell 5 (v := .int .i64 b.door) rfl
  have c6 := HR.out.cell 6 (v := .int .i64 b.bucket) rfl
  have c7 := HR.out.cell 7 (v := .int .i64 b.err) rfl
  have c8 := HR.out.cell 8 (v := .map (some mb)) rfl
  go_enter Try.func56, Try.ntmps56
  go_upto_region 2 with (fail)
  rw [← HW0.out, HZ0.out]
  refine wp_region_later (by kernel_rfl) (by kernel_rfl) ?_
  repeat (go_big_quiet_step (first
    | (go_at_call 73; with_reducible exact Calls.later_of (worst_any _ _ _ _))
    | (go_at_call 76; with_reducible exact Calls.later_of (kindest_any _ _ _ _))))
  refine wpQuiet_nil ?_
  intro _ hw'
  obtain ⟨yy, hw''⟩ := hw'
  subst hw''
  obtain ⟨z1, hy⟩ := z0.up yy
  rw [hy]
  clear hy
  clear c0 c1 c2 c3 c4 c5 c6 c7 c8
  go_wp2_with fail
  go_loopw [5, 13] (fun n ix wr => ((ix = .int .i64 0 ∧ n = .int .i64 0) ∨ (ix = .int .i64 1 ∧ n = .int .i64 n0) ∨ (ix = .int .i64 2 ∧ n = .int .i64 n1)) ∧ ∃ x : Later W0, wr = x.w) (fun _ ix _ => 2 - (intOf ix).toNat)
  case atStart => exact ⟨.inl ⟨rfl, rfl⟩, z1, rfl⟩
  case round =>
    obtain ⟨hx, x, rfl⟩ := hrel
    rcases hx with ⟨rfl, rfl⟩ | ⟨rfl, rfl⟩ | ⟨rfl, rfl⟩
    · go_wp2_with (first | (refine index_op rfl 125 _ _ rfl (twoA b P mb) _ rfl rfl _ (two0 b P mb _) ?_) | (refine store_new rfl 89 _ _ rfl (trA b P mb false) #[.slice none 0 0, .slice none 0 0, .slice none 0 0, .slice none 0 0, .int .i64 0, .int .i64 0, .int .i64 0, .int .i64 0, .map none, .nilFunc, .nilFunc, .nilFunc] 89 rfl rfl (by kernel_rfl) rfl (by simp [Value.oneCell']) ?_))
      refine (HC0.out _ (x.b.trans ((below_alloc x.w _).mono x.b.size))).mono ?_
      rintro e u ⟨rfl, hbu⟩
      obtain ⟨y, hy⟩ := x.on ((below_alloc x.w _).trans (hbu.mono (by simp)))
      subst hy
      clear hbu
      cases f0
      · obtain rfl : n0 = 0 := HN0.out.symm
        go_wp2_with fail
        go_roundw
        case rel => exact ⟨.inr (.inl ⟨rfl, rfl⟩), y, rfl⟩
        case measure => simp [intOf]
      · obtain rfl : n0 = 1 := HN0.out.symm
        go_wp2_with fail
        go_roundw
        case rel => exact ⟨.inr (.inl ⟨rfl, rfl⟩), y, rfl⟩
        case measure => simp [intOf]
    · go_wp2_with (first | (refine index_op rfl 125 _ _ rfl (twoA b P mb) _ rfl rfl _ (two1 b P mb _) ?_) | (refine store_new rfl 89 _ _ rfl (trA b P mb true) #[.slice none 0 0, .slice none 0 0, .slice none 0 0, .slice none 0 0, .int .i64 0, .int .i64 0, .int .i64 0, .int .i64 0, .map none, .nilFunc, .nilFunc, .nilFunc] 89 rfl rfl (by kernel_rfl) rfl (by simp [Value.oneCell']) ?_))
      refine (HC1.out _ (x.b.trans ((below_alloc x.w _).mono x.b.size))).mono ?_
      rintro e u ⟨rfl, hbu⟩
      obtain ⟨y, hy⟩ := x.on ((below_alloc x.w _).trans (hbu.mono (by simp)))
      subst hy
      clear hbu
      cases f1
      · obtain rfl : n1 = n0 := by have := HN1.out; simp at this; omega
        go_wp2_with fail
        go_roundw
        case rel => exact ⟨.inr (.inr ⟨rfl, rfl⟩), y, rfl⟩
        case measure => simp [intOf]
      · obtain rfl : n1 = n0 + 1 := by have := HN1.out; simp at this; omega
        go_wp2_with fail
        go_roundw
        case rel => exact ⟨.inr (.inr ⟨rfl, rfl⟩), y, rfl⟩
        case measure => simp [intOf]
    · go_wp2_with fail
      go_ret
      exact ⟨rfl, x.base HE.out⟩
set_option maxRecDepth 10000 in
set_option maxHeartbeats 1600000 in
theorem kind_allowed (b : Yb) (P : Yp) (mb : Nat) (f : Bool → Bool) (p1 : Nat) (w : World) (hc : ∀ k w', Below w.heap.size w w' → Calls Try.prog 69 #[.agg (trA b P mb k), .pointer (some ⟨p1, 0, none⟩)] w' fun e w'' => e = .returned (.bool (f k)) ∧ Below w'.heap.size w' w'') :
    Calls Try.prog 56 #[.agg (ykA b P mb), .func (.func 69) #[] #[.pointer (some ⟨p1, 0, none⟩)]] w fun e w' => e = .returned (.int .i64 (kindN f)) ∧ Below w.heap.size w w' := by
  obtain ⟨W0, hW0⟩ : ∃ W, W = w.alloc (.cells (ykA b P mb) 83) := ⟨_, rfl⟩
  have HW0 := Lib.hid hW0
  have HE := Lib.hid (show Below w.heap.size w W0 by rw [hW0]; exact below_alloc _ _)
  have HR := Lib.hid (show Row W0 w.heap.size (ykA b P mb) 83 by rw [hW0]; exact Row.new w _ _)
  clear hW0
  obtain ⟨z0, hz0⟩ : ∃ z : Later W0, W0 = z.w := ⟨⟨W0, Below.refl _ _⟩, rfl⟩
  have HZ0 := Lib.hid hz0
  clear hz0
  have HC := Lib.hid (fun k w' (h : Below W0.heap.size W0 w') => hc k w' (HE.out.trans (h.mono HE.out.size)))
  clear hc
  have HKN := Lib.hid (show kindN f = (if f false then 1 else 0) + (if f true then 1 else 0) from rfl)
  rw [HKN.out]
  generalize hf0 : f false = f0 at *
  generalize hf1 : f true = f1 at *
  obtain ⟨n0, hn0⟩ : ∃ n0 : Int, (if f0 then 1 else 0) = n0 := ⟨_, rfl⟩
  obtain ⟨n1, hn1⟩ : ∃ n1 : Int, n0 + (if f1 then 1 else 0) = n1 := ⟨_, rfl⟩
  have HN0 := Lib.hid hn0
  have HN1 := Lib.hid hn1
  rw [hn0, hn1]
  have b0 : 0 ≤ n0 := by rw [← hn0]; split <;> omega
  have b1 : n0 ≤ 1 := by rw [← hn0]; split <;> omega
  clear hn0 hn1
  have HC0 := Lib.hid (HC.out false)
  have HC1 := Lib.hid (HC.out true)
  rw [hf0] at HC0
  rw [hf1] at HC1
  clear hf0 hf1 HC HKN
  have c0 := HR.out.cell 0 (v := .slice P.pl b.lots.length P.cl) rfl
  have c1 := HR.out.cell 1 (v := .slice P.pd b.doors.length P.cd) rfl
  have c2 := HR.out.cell 2 (v := .slice P.pb b.buckets.length P.cb) rfl
  have c3 := HR.out.cell 3 (v := .slice P.ps b.spare.length P.cs) rfl
  have c4 := HR.out.cell 4 (v := .int .i64 b.apart) rfl
  have c5 := HR.out.cell 5 (v := .int .i64 b.door) rfl
  have c6 := HR.out.cell 6 (v := .int .i64 b.bucket) rfl
  have c7 := HR.out.cell 7 (v := .int .i64 b.err) rfl
  have c8 := HR.out.cell 8 (v := .map (some mb)) rfl
  go_enter Try.func56, Try.ntmps56
  go_upto_region 2 with (fail)
  rw [← HW0.out, HZ0.out]
  refine wp_region_later (by kernel_rfl) (by kernel_rfl) ?_
  repeat (go_big_quiet_step (first
    | (go_at_call 73; with_reducible exact Calls.later_of (worst_any _ _ _ _))
    | (go_at_call 76; with_reducible exact Calls.later_of (kindest_any _ _ _ _))))
  refine wpQuiet_nil ?_
  intro _ hw'
  obtain ⟨yy, hw''⟩ := hw'
  subst hw''
  obtain ⟨z1, hy⟩ := z0.up yy
  rw [hy]
  clear hy
  clear c0 c1 c2 c3 c4 c5 c6 c7 c8
  go_wp2_with fail
  go_loopw [5, 13] (fun n ix wr => ((ix = .int .i64 0 ∧ n = .int .i64 0) ∨ (ix = .int .i64 1 ∧ n = .int .i64 n0) ∨ (ix = .int .i64 2 ∧ n = .int .i64 n1)) ∧ ∃ x : Later W0, wr = x.w) (fun _ ix _ => 2 - (intOf ix).toNat)
  case atStart => exact ⟨.inl ⟨rfl, rfl⟩, z1, rfl⟩
  case round =>
    obtain ⟨hx, x, rfl⟩ := hrel
    rcases hx with ⟨rfl, rfl⟩ | ⟨rfl, rfl⟩ | ⟨rfl, rfl⟩
    · go_wp2_with (first | (refine index_op rfl 125 _ _ rfl (twoA b P mb) _ rfl rfl _ (two0 b P mb _) ?_) | (refine store_new rfl 89 _ _ rfl (trA b P mb false) #[.slice none 0 0, .slice none 0 0, .slice none 0 0, .slice none 0 0, .int .i64 0, .int .i64 0, .int .i64 0, .int .i64 0, .map none, .nilFunc, .nilFunc, .nilFunc] 89 rfl rfl (by kernel_rfl) rfl (by simp [Value.oneCell']) ?_))
      refine (HC0.out _ (x.b.trans ((below_alloc x.w _).mono x.b.size))).mono ?_
      rintro e u ⟨rfl, hbu⟩
      obtain ⟨y, hy⟩ := x.on ((below_alloc x.w _).trans (hbu.mono (by simp)))
      subst hy
      clear hbu
      cases f0
      · obtain rfl : n0 = 0 := HN0.out.symm
        go_wp2_with fail
        go_roundw
        case rel => exact ⟨.inr (.inl ⟨rfl, rfl⟩), y, rfl⟩
        case measure => simp [intOf]
      · obtain rfl : n0 = 1 := HN0.out.symm
        go_wp2_with fail
        go_roundw
        case rel => exact ⟨.inr (.inl ⟨rfl, rfl⟩), y, rfl⟩
        case measure => simp [intOf]
    · go_wp2_with (first | (refine index_op rfl 125 _ _ rfl (twoA b P mb) _ rfl rfl _ (two1 b P mb _) ?_) | (refine store_new rfl 89 _ _ rfl (trA b P mb true) #[.slice none 0 0, .slice none 0 0, .slice none 0 0, .slice none 0 0, .int .i64 0, .int .i64 0, .int .i64 0, .int .i64 0, .map none, .nilFunc, .nilFunc, .nilFunc] 89 rfl rfl (by kernel_rfl) rfl (by simp [Value.oneCell']) ?_))
      refine (HC1.out _ (x.b.trans ((below_alloc x.w _).mono x.b.size))).mono ?_
      rintro e u ⟨rfl, hbu⟩
      obtain ⟨y, hy⟩ := x.on ((below_alloc x.w _).trans (hbu.mono (by simp)))
      subst hy
      clear hbu
      cases f1
      · obtain rfl : n1 = n0 := by have := HN1.out; simp at this; omega
        go_wp2_with fail
        go_roundw
        case rel => exact ⟨.inr (.inr ⟨rfl, rfl⟩), y, rfl⟩
        case measure => simp [intOf]
      · obtain rfl : n1 = n0 + 1 := by have := HN1.out; simp at this; omega
        go_wp2_with fail
        go_roundw
        case rel => exact ⟨.inr (.inr ⟨rfl, rfl⟩), y, rfl⟩
        case measure => simp [intOf]
    · go_wp2_with fail
      go_ret
      exact ⟨rfl, x.base HE.out⟩
end Go.Proofs.Ytajkgfeockcbpaa
