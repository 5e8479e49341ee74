/- The walks of layer 6: what is wrong with a choice. -/
import Derived.Test.YtajkgfeockcbpaaY10
import Derived.Test.YtajkgfeockcbpaaLX
namespace Go.Proofs.Ytajkgfeockcbpaa
open Go.RowKit Go.Maps
attribute [local go_sem] Oper.semAt_some

theorem results_tmp_cell {P : Program} {fn : Func} {p u : Tmp} {ty : TypeId} (h : fn.results = #[.tmp u, .cell p ty]) (tmps : Array Value) (w : World) (g : Nat) (t : TypeId) (cs : Array Value) (d : TypeDesc) (x : Value)
    (hx : tmps.getD u undef = x) (hp : tmps.getD p undef = .pointer (some ⟨g, 0, none⟩)) (hg : Row w g cs t) (hu : P.underlying ty = some d) (hd : (match d with | .struct _ | .array _ _ => true | _ => false) = true) (hi : (P.info? ty).map (·.size) = some cs.size) :
    (results fn tmps).run P w = .ok (.tuple #[x, .agg cs]) w := by
  have hp' : tmps[p]?.getD undef = .pointer (some ⟨g, 0, none⟩) := by simpa using hp
  have hx' : tmps[u]?.getD undef = x := by simpa using hx
  simp [results, h, hp', hx', asAddr, run_loadVar_row w g t ty cs (0, 0) d hg hu hd hi]
theorem results_cell_tmp' {P : Program} {fn : Func} {p u : Tmp} {ty : TypeId} (h : fn.results = #[.cell p ty, .tmp u]) (tmps : Array Value) (w : World) (g : Nat) (t : TypeId) (cs : Array Value) (d : TypeDesc) (x : Value)
    (hx : tmps.getD u undef = x) (hp : tmps.getD p undef = .pointer (some ⟨g, 0, none⟩)) (hg : Row w g cs t) (hu : P.underlying ty = some d) (hd : (match d with | .struct _ | .array _ _ => true | _ => false) = true) (hi : (P.info? ty).map (·.size) = some cs.size) :
    (results fn tmps).run P w = .ok (.tuple #[.agg cs, x]) w := by
  have hp' : tmps[p]?.getD undef = .pointer (some ⟨g, 0, none⟩) := by simpa using hp
  have hx' : tmps[u]?.getD undef = x := by simpa using hx
  simp [results, h, hp', hx', asAddr, run_loadVar_row w g t ty cs (0, 0) d hg hu hd hi]
theorem results_cells_tmp {P : Program} {fn : Func} {p p2 u : Tmp} {ty ty2 : TypeId} (h : fn.results = #[.cell p ty, .cell p2 ty2, .tmp u]) (tmps : Array Value) (w : World) (g g2 : Nat) (t t2 : TypeId) (cs cs2 : Array Value) (d d2 : TypeDesc) (x : Value)
    (hx : tmps.getD u undef = x) (hp : tmps.getD p undef = .pointer (some ⟨g, 0, none⟩)) (hg : Row w g cs t) (hu : P.underlying ty = some d) (hd : (match d with | .struct _ | .array _ _ => true | _ => false) = true) (hi : (P.info? ty).map (·.size) = some cs.size)
    (hp2 : tmps.getD p2 undef = .pointer (some ⟨g2, 0, none⟩)) (hg2 : Row w g2 cs2 t2) (hu2 : P.underlying ty2 = some d2) (hd2 : (match d2 with | .struct _ | .array _ _ => true | _ => false) = true) (hi2 : (P.info? ty2).map (·.size) = some cs2.size) :
    (results fn tmps).run P w = .ok (.tuple #[.agg cs, .agg cs2, x]) w := by
  have hp' : tmps[p]?.getD undef = .pointer (some ⟨g, 0, none⟩) := by simpa using hp
  have hp2' : tmps[p2]?.getD undef = .pointer (some ⟨g2, 0, none⟩) := by simpa using hp2
  have hx' : tmps[u]?.getD undef = x := by simpa using hx
  simp [results, h, hp', hp2', hx', asAddr, run_loadVar_row w g t ty cs (0, 0) d hg hu hd hi, run_loadVar_row w g2 t2 ty2 cs2 (0, 0) d2 hg2 hu2 hd2 hi2]
theorem set_keeps (w : World) (b i : Nat) (v : Value) : KeepsBut (fun m => m = b) w (w.setCell ⟨b, i, none⟩ v) := by
  refine (KeepsBut.refl (fun m => m = b) w).setCell ?_ v
  exact .inl rfl
theorem below_set {n : Nat} {a w : World} (h : Below n a w) (g i : Nat) (hg : n ≤ g) (v : Value) : Below n a (w.setCell ⟨g, i, none⟩ v) := h.setCell hg v
/-- What is wrong with a choice is returned. -/
def GaveBreaks (b : Yb) (k : Bool) (c : Nat → Bool) (w : World) (e : Ending) (w' : World) : Prop :=
  ∃ p, e = .returned (.tuple #[.slice p (pairsL (nearK b k) (lotsL c)).length (pairsL (nearK b k) (lotsL c)).length, .agg (lotF (unservF b k c))]) ∧ PairsAt w' p (pairsL (nearK b k) (lotsL c)) ∧ Below w.heap.size w w'
set_option maxRecDepth 10000 in
set_option maxHeartbeats 1600000 in
theorem breaks_any (b : Yb) (P : Yp) (mb : Nat) (k : Bool) (c : Nat → Bool) (hcl : ∀ i, i < 7 → c i = true → i < b.lots.length) (w : World) (hK : YkAt w P mb b) :
    Calls Try.prog 83 #[.agg (trA b P mb k), .agg (lotF c)] w (GaveBreaks b k c w) := by
  obtain ⟨W0, hW0⟩ : ∃ W, W = ((w.alloc (.cells (trA b P mb k) 89)).alloc (.cells (lotF c) 99)).alloc (.cells noneA 99) := ⟨_, rfl⟩
  have HW0 := Lib.hid hW0
  have HE := Lib.hid (show Below w.heap.size w W0 by rw [hW0]; exact below_alloc3 _ _ _ _)
  have HT := Lib.hid (show Row W0 w.heap.size (trA b P mb k) 89 by rw [hW0]; exact ((Row.new w _ _).alloc _).alloc _)
  have HC := Lib.hid (show Row W0 (w.heap.size + 1) (lotF c) 99 by rw [hW0]; exact (Row.new1 w _ _ _).alloc _)
  have HZ := Lib.hid (show Row W0 (w.heap.size + 1 + 1) noneA 99 by rw [hW0]; exact Row.new2 w _ _ _ _)
  clear hW0
  have HP := Lib.hid (fun w' (h : From W0 w') => lotPairs_any b P mb k c hcl w' ((hK.below HE.out).below h.b))
  have HO := Lib.hid (fun w' (h : From W0 w') => only_unserved b P mb k c (fun i => !servK b k i) w' (fun i hi hc w'' hb => unserved_any b P mb k i (hcl i hi hc) w'' (((hK.below HE.out).below h.b).below hb)))
  clear hK hcl
  have HUF := Lib.hid (show (fun i => c i && !servK b k i) = unservF b k c from rfl)
  rw [HUF.out] at HO
  unfold GaveBreaks
  obtain ⟨PL, hPL⟩ : ∃ PL, pairsL (nearK b k) (lotsL c) = PL := ⟨_, rfl⟩
  obtain ⟨UF, hUF⟩ : ∃ UF, unservF b k c = UF := ⟨_, rfl⟩
  rw [hPL] at HP ⊢
  rw [hUF] at HO ⊢
  clear hPL hUF HUF
  go_enter Try.func83, Try.ntmps83
  go_upto_region 1 with (fail)
  rw [← HW0.out]
  have KI := Lib.hid (From.refl W0)
  have KB := Lib.hid (FromB.refl (w.heap.size + 1 + 1) W0)
  have HSS := Lib.hid (show ∀ w', FromB (w.heap.size + 1 + 1) W0 w' → w'.cell? ⟨w.heap.size, 0, none⟩ = some (.slice P.pl b.lots.length P.cl) ∧ w'.cell? ⟨w.heap.size, 1, none⟩ = some (.slice P.pd b.doors.length P.cd) ∧ w'.cell? ⟨w.heap.size, 2, none⟩ = some (.slice P.pb b.buckets.length P.cb) ∧ w'.cell? ⟨w.heap.size, 3, none⟩ = some (.slice P.ps b.spare.length P.cs) ∧ w'.cell? ⟨w.heap.size, 4, none⟩ = some (.int .i64 b.apart) ∧ w'.cell? ⟨w.heap.size, 5, none⟩ = some (.int .i64 b.door) ∧ w'.cell? ⟨w.heap.size, 6, none⟩ = some (.int .i64 b.bucket) ∧ w'.cell? ⟨w.heap.size, 7, none⟩ = some (.int .i64 b.err) ∧ w'.cell? ⟨w.heap.size, 8, none⟩ = some (.map (some mb)) ∧ w'.cell? ⟨w.heap.size, 9, none⟩ = some (.func (.func (idE k)) #[] #[]) ∧ w'.cell? ⟨w.heap.size, 10, none⟩ = some (.func (.func (idO k)) #[] #[]) ∧ w'.cell? ⟨w.heap.size, 11, none⟩ = some (.func (.func (idE k)) #[] #[]) ∧ w'.cell? ⟨w.heap.size + 1, 0, none⟩ = some (.bool (c 0)) ∧ w'.cell? ⟨w.heap.size + 1, 1, none⟩ = some (.bool (c 1)) ∧ w'.cell? ⟨w.heap.size + 1, 2, none⟩ = some (.bool (c 2)) ∧ w'.cell? ⟨w.heap.size + 1, 3, none⟩ = some (.bool (c 3)) ∧ w'.cell? ⟨w.heap.size + 1, 4, none⟩ = some (.bool (c 4)) ∧ w'.cell? ⟨w.heap.size + 1, 5, none⟩ = some (.bool (c 5)) ∧ w'.cell? ⟨w.heap.size + 1, 6, none⟩ = some (.bool (c 6)) from fun w' kk => by
    have r := kk.row HT.out (by omega)
    have d := kk.row HC.out (by omega)
    exact ⟨r.cell 0 (v := .slice P.pl b.lots.length P.cl) rfl, r.cell 1 (v := .slice P.pd b.doors.length P.cd) rfl, r.cell 2 (v := .slice P.pb b.buckets.length P.cb) rfl, r.cell 3 (v := .slice P.ps b.spare.length P.cs) rfl, r.cell 4 (v := .int .i64 b.apart) rfl, r.cell 5 (v := .int .i64 b.door) rfl, r.cell 6 (v := .int .i64 b.bucket) rfl, r.cell 7 (v := .int .i64 b.err) rfl, r.cell 8 (v := .map (some mb)) rfl, r.cell 9 (v := .func (.func (idE k)) #[] #[]) rfl, r.cell 10 (v := .func (.func (idO k)) #[] #[]) rfl, r.cell 11 (v := .func (.func (idE k)) #[] #[]) rfl, d.cell 0 (v := .bool (c 0)) rfl, d.cell 1 (v := .bool (c 1)) rfl, d.cell 2 (v := .bool (c 2)) rfl, d.cell 3 (v := .bool (c 3)) rfl, d.cell 4 (v := .bool (c 4)) rfl, d.cell 5 (v := .bool (c 5)) rfl, d.cell 6 (v := .bool (c 6)) rfl⟩)
  go_region_held3 (fun w' => w'.cell? ⟨w.heap.size, 0, none⟩ = some (.slice P.pl b.lots.length P.cl) ∧ w'.cell? ⟨w.heap.size, 1, none⟩ = some (.slice P.pd b.doors.length P.cd) ∧ w'.cell? ⟨w.heap.size, 2, none⟩ = some (.slice P.pb b.buckets.length P.cb) ∧ w'.cell? ⟨w.heap.size, 3, none⟩ = some (.slice P.ps b.spare.length P.cs) ∧ w'.cell? ⟨w.heap.size, 4, none⟩ = some (.int .i64 b.apart) ∧ w'.cell? ⟨w.heap.size, 5, none⟩ = some (.int .i64 b.door) ∧ w'.cell? ⟨w.heap.size, 6, none⟩ = some (.int .i64 b.bucket) ∧ w'.cell? ⟨w.heap.size, 7, none⟩ = some (.int .i64 b.err) ∧ w'.cell? ⟨w.heap.size, 8, none⟩ = some (.map (some mb)) ∧ w'.cell? ⟨w.heap.size, 9, none⟩ = some (.func (.func (idE k)) #[] #[]) ∧ w'.cell? ⟨w.heap.size, 10, none⟩ = some (.func (.func (idO k)) #[] #[]) ∧ w'.cell? ⟨w.heap.size, 11, none⟩ = some (.func (.func (idE k)) #[] #[]) ∧ w'.cell? ⟨w.heap.size + 1, 0, none⟩ = some (.bool (c 0)) ∧ w'.cell? ⟨w.heap.size + 1, 1, none⟩ = some (.bool (c 1)) ∧ w'.cell? ⟨w.heap.size + 1, 2, none⟩ = some (.bool (c 2)) ∧ w'.cell? ⟨w.heap.size + 1, 3, none⟩ = some (.bool (c 3)) ∧ w'.cell? ⟨w.heap.size + 1, 4, none⟩ = some (.bool (c 4)) ∧ w'.cell? ⟨w.heap.size + 1, 5, none⟩ = some (.bool (c 5)) ∧ w'.cell? ⟨w.heap.size + 1, 6, none⟩ = some (.bool (c 6)))
    (first | with_reducible exact HSS.out _ KB.out | with_reducible exact HSS.out _ KB.out.drew | exact HSS.out _ ((((((((KB.out).set 0 _).set 1 _).set 2 _).set 3 _).set 4 _).set 5 _).set 6 _))
    (first
      | (go_at_call 114; (first | with_reducible refine (HP.out _ KI.out).mono ?_ | with_reducible refine (HP.out _ KI.out.drew).mono ?_); rintro e u ⟨p, rfl, hpr, hpf, hbu⟩; have HPR := Lib.hid hpr; have HPF := Lib.hid (show ∀ m o, p = some ⟨m, o, none⟩ → ¬ m = w.heap.size + 1 + 1 from fun m o h => by have h1 := hpf m o h; have h2 := KI.out.b.size; have h4 := HZ.out.lt; simp at h1; omega); clear hpf; have KB := Lib.hid (by first | with_reducible exact KB.out.drew.below hbu | with_reducible exact KB.out.below hbu); have KI := Lib.hid (by first | with_reducible exact KI.out.drew.below hbu | with_reducible exact KI.out.below hbu); clear hpr hbu)
      | (go_at_call 111; (first | with_reducible refine (HO.out _ KI.out).mono ?_ | with_reducible refine (HO.out _ KI.out.drew).mono ?_); rintro e u ⟨rfl, hbu⟩; have HPR := Lib.hid (HPR.out.below hbu); have KB := Lib.hid (by first | with_reducible exact KB.out.drew.below hbu | with_reducible exact KB.out.below hbu); have KI := Lib.hid (by first | with_reducible exact KI.out.drew.below hbu | with_reducible exact KI.out.below hbu); have RZ := Lib.hid (KI.out.row HZ.out); have f0 := RZ.out.free 0; have z0 := RZ.out.cell 0 (v := .bool false) rfl; have f1 := RZ.out.free 1; have z1 := RZ.out.cell 1 (v := .bool false) rfl; have f2 := RZ.out.free 2; have z2 := RZ.out.cell 2 (v := .bool false) rfl; have f3 := RZ.out.free 3; have z3 := RZ.out.cell 3 (v := .bool false) rfl; have f4 := RZ.out.free 4; have z4 := RZ.out.cell 4 (v := .bool false) rfl; have f5 := RZ.out.free 5; have z5 := RZ.out.cell 5 (v := .bool false) rfl; have f6 := RZ.out.free 6; have z6 := RZ.out.cell 6 (v := .bool false) rfl; clear hbu))
  all_goals
    have q : Row _ (w.heap.size + 1 + 1) (lotF UF) 99 := (((((((RZ.out).set 0 (.bool (UF 0))).set 1 (.bool (UF 1))).set 2 (.bool (UF 2))).set 3 (.bool (UF 3))).set 4 (.bool (UF 4))).set 5 (.bool (UF 5))).set 6 (.bool (UF 6))
    have hbw := below_set (below_set (below_set (below_set (below_set (below_set (below_set (HE.out.trans (KI.out.b.mono HE.out.size)) (w.heap.size + 1 + 1) 0 (by omega) (.bool (UF 0))) (w.heap.size + 1 + 1) 1 (by omega) (.bool (UF 1))) (w.heap.size + 1 + 1) 2 (by omega) (.bool (UF 2))) (w.heap.size + 1 + 1) 3 (by omega) (.bool (UF 3))) (w.heap.size + 1 + 1) 4 (by omega) (.bool (UF 4))) (w.heap.size + 1 + 1) 5 (by omega) (.bool (UF 5))) (w.heap.size + 1 + 1) 6 (by omega) (.bool (UF 6))
    have HPQ := Lib.hid (HPR.out.keep ((((((((KeepsBut.refl _ _).trans (set_keeps _ _ 0 (.bool (UF 0)))).trans (set_keeps _ _ 1 (.bool (UF 1)))).trans (set_keeps _ _ 2 (.bool (UF 2)))).trans (set_keeps _ _ 3 (.bool (UF 3)))).trans (set_keeps _ _ 4 (.bool (UF 4)))).trans (set_keeps _ _ 5 (.bool (UF 5)))).trans (set_keeps _ _ 6 (.bool (UF 6)))) HPF.out)
    go_wp2_with fail
    exact bodyPost_ret (v := .tuple #[.slice p PL.length PL.length, .agg (lotF UF)]) (results_tmp_cell Try.results83 _ _ _ _ _ _ _ rfl rfl q Try.underlying99 rfl (by kernel_rfl)) rfl ⟨p, rfl, HPQ.out, hbw⟩
end Go.Proofs.Ytajkgfeockcbpaa
