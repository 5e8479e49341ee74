/- The law's own helpers of layer 3: a setting that numbers choose. -/
import Derived.Test.YticfcdbfplfmlaaGreatTFX
namespace Go.Proofs.YticfcdbfplfmlaaGreat.Tu
open Go.RowKit Go.Maps
attribute [local go_sem] Oper.semAt_some

/-- The setting that numbers choose. -/
def settingL (bits : List Int) (n : Nat) : List Int := (List.range n).map fun (p : Nat) => spin (item bits (p : Int)) 4
theorem settingL_length (bits : List Int) (n : Nat) : (settingL bits n).length = n := by simp [settingL]
theorem settingL_succ (bits : List Int) (n : Nat) : settingL bits (n + 1) = settingL bits n ++ [spin (item bits (n : Int)) 4] := by simp [settingL, List.range_succ]
theorem settingL_mem (bits : List Int) (n : Nat) : ∀ x ∈ settingL bits n, 0 ≤ x ∧ x ≤ 3 := by
  intro x hx
  obtain ⟨p, _, rfl⟩ := List.mem_map.1 hx
  have := spin_range (item bits (p : Int)) 4 (by omega)
  omega
theorem settingL_set (bits : List Int) (n : Nat) : isSetB n (settingL bits n) = true := by
  simp only [isSetB, setB, Bool.and_eq_true, decide_eq_true_eq, List.all_eq_true]
  exact ⟨settingL_length bits n, settingL_mem bits n⟩

end Go.Proofs.YticfcdbfplfmlaaGreat.Tu
/- Plain theorems of layer 3: hotter is drier and warmer; damper is less dry. -/
namespace Go.Proofs.YticfcdbfplfmlaaGreat.Tu

theorem dryAt_mono {p : Pt} {s t m d e : Int} (h : p.h s ≤ p.h t) (hm : 0 ≤ m) (hd : e ≤ d) : dryAt p s m d ≤ dryAt p t m e := by
  exact Int.mul_le_mul_of_nonneg_left (by omega) hm
theorem dryTo_mono {d e : Pt → Int} {ps : List Pt} {s t stay : List Int} : ∀ (n : Nat), n ≤ ps.length → (∀ i (h : i < ps.length), i < n → dryAt ps[i] (at0 s i) (at0 stay i) (d ps[i]) ≤ dryAt ps[i] (at0 t i) (at0 stay i) (e ps[i])) → dryTo d ps s stay n ≤ dryTo e ps t stay n
  | 0, _, _ => by simp [dryTo]
  | n + 1, hn, h => by
    rw [dryTo_succ (by omega), dryTo_succ (by omega)]
    have h1 := dryTo_mono n (by omega) fun i hi hin => h i hi (by omega)
    have h2 := h n (by omega) (by omega)
    omega
theorem heatTo_mono {ps : List Pt} {s t : List Int} : ∀ (n : Nat), n ≤ ps.length → (∀ i (h : i < ps.length), i < n → ps[i].h (at0 s i) ≤ ps[i].h (at0 t i)) → heatTo ps s n ≤ heatTo ps t n
  | 0, _, _ => by simp [heatTo]
  | n + 1, hn, h => by
    rw [heatTo_succ (by omega), heatTo_succ (by omega)]
    have h1 := heatTo_mono n (by omega) fun i hi hin => h i hi (by omega)
    have h2 := h n (by omega) (by omega)
    omega
/-- A setting with one damper hotter. -/
def hotL (s : List Int) (p : Nat) : List Int := s.set p (min 3 (at0 s p + 1))
theorem hotL_length (s : List Int) (p : Nat) : (hotL s p).length = s.length := by simp [hotL]
theorem hotL_at {s : List Int} {p : Nat} (i : Nat) (_hp : p < s.length) (hs : ∀ x ∈ s, 0 ≤ x ∧ x ≤ 3) (hi : i < s.length) : 0 ≤ at0 s i ∧ at0 s i ≤ at0 (hotL s p) i ∧ at0 (hotL s p) i ≤ 3 := by
  have h1 := hs _ (List.getElem_mem hi)
  rw [at0_lt hi, at0_lt (by rw [hotL_length]; exact hi)]
  simp only [hotL, List.getElem_set]
  split
  · rename_i e
    subst e
    rw [at0_lt hi]
    omega
  · omega
theorem hotL_set {n : Nat} {s : List Int} {p : Nat} (h : isSetB n s = true) : isSetB n (hotL s p) = true := by
  simp only [isSetB, setB, Bool.and_eq_true, decide_eq_true_eq, List.all_eq_true] at h ⊢
  refine ⟨by rw [hotL_length]; exact h.1, fun x hx => ?_⟩
  by_cases hp : p < s.length
  · obtain ⟨i, hi, rfl⟩ := List.mem_iff_getElem.1 hx
    have hi' : i < s.length := by rwa [hotL_length] at hi
    have := hotL_at i hp h.2 hi'
    rw [at0_lt hi] at this
    omega
  · rw [hotL, List.set_eq_of_length_le (by omega)] at hx
    exact h.2 x hx
theorem hot_dry {ps : List Pt} {s stay : List Int} {p : Nat} (d : Pt → Int) (hok : ∀ q ∈ ps, PtOk q) (hl : s.length = ps.length) (hs : ∀ x ∈ s, 0 ≤ x ∧ x ≤ 3) (hp : p < s.length) (hst : ∀ x ∈ stay, 0 ≤ x) : dryD d ps s stay ≤ dryD d ps (hotL s p) stay :=
  dryTo_mono _ (Nat.le_refl _) fun i hi _ => dryAt_mono (by
    have := hotL_at i hp hs (by omega)
    exact Pt.h_mono (hok _ (List.getElem_mem _)) this.2.1 this.1) (by
    by_cases h : i < stay.length
    · exact hst _ (at0_mem h)
    · simp [at0, show stay[i]? = none by simp; omega]) (Int.le_refl _)
theorem hot_heat {ps : List Pt} {s : List Int} {p : Nat} (hok : ∀ q ∈ ps, PtOk q) (hl : s.length = ps.length) (hs : ∀ x ∈ s, 0 ≤ x ∧ x ≤ 3) (hp : p < s.length) : heatD ps s ≤ heatD ps (hotL s p) :=
  heatTo_mono _ (Nat.le_refl _) fun i hi _ => by
    have := hotL_at i hp hs (by omega)
    exact Pt.h_mono (hok _ (List.getElem_mem _)) this.2.1 this.1
end Go.Proofs.YticfcdbfplfmlaaGreat.Tu
/- Plain theorems of layer 3: parts whose damp is known, longer stays, the best settings. -/
namespace Go.Proofs.YticfcdbfplfmlaaGreat.Tu

theorem longN_le (B : Nat → Bool) : ∀ m, longN B m ≤ m
  | 0 => Nat.le_refl _
  | n + 1 => by
    have := longN_le B n
    rw [longN]; split <;> omega
theorem longN_true {B : Nat → Bool} (h : B 0 = true) : ∀ m, B (longN B m) = true
  | 0 => h
  | n + 1 => by
    rw [longN]
    by_cases e : B (n + 1) = true
    · rw [if_pos e]; exact e
    · rw [if_neg e]; exact longN_true h n
theorem longN_next {B : Nat → Bool} : ∀ m, longN B m < m → B (longN B m + 1) = false
  | 0, h => by omega
  | n + 1, h => by
    rw [longN] at h ⊢
    by_cases e : B (n + 1) = true
    · rw [if_pos e] at h; omega
    · rw [if_neg e] at h ⊢
      rcases Nat.lt_or_ge (longN B n) n with h2 | h2
      · exact longN_next n h2
      · have := longN_le B n
        rw [show longN B n = n by omega]
        simpa using e
theorem longFr_zero {f : Fr} {k : Nat} (hk : k < f.stay.length) : longFr f k 0 = f := by
  simp [longFr, at0_lt hk]

/-- Parts of which the damp of the first n is known. -/
def knowP (g : Nat → Int) (n : Nat) (ps : List Pt) : List Pt := ps.mapIdx fun i p => if i < n then { p with lo := g i, hi := g i } else p
theorem knowP_length (g : Nat → Int) (n : Nat) (ps : List Pt) : (knowP g n ps).length = ps.length := by simp [knowP]
theorem knowP_at {g : Nat → Int} {n : Nat} {ps : List Pt} {i : Nat} (h : i < (knowP g n ps).length) : (knowP g n ps)[i] = if i < n then { ps[i]'(by rwa [knowP_length] at h) with lo := g i, hi := g i } else ps[i]'(by rwa [knowP_length] at h) := by simp [knowP]
theorem knowP_zero (g : Nat → Int) (ps : List Pt) : knowP g 0 ps = ps := by
  apply List.ext_getElem
  · simp [knowP]
  · intro i h1 h2
    rw [knowP_at h1, if_neg (by omega)]
theorem knowP_succ {g : Nat → Int} {n : Nat} {ps : List Pt} (hn : n < ps.length) : knowP g (n + 1) ps = dampP (knowP g n ps) n (g n) (g n) := by
  have hn' : n < (knowP g n ps).length := by rw [knowP_length]; exact hn
  rw [dampP_at hn']
  apply List.ext_getElem
  · simp [knowP]
  · intro i h1 h2
    rw [knowP_at h1, List.getElem_set]
    by_cases e : n = i
    · subst e
      rw [if_pos (by omega), if_pos rfl, knowP_at hn', if_neg (by omega)]
    · rw [if_neg e]
      rw [knowP_at (by rw [knowP_length] at h1 ⊢; exact h1)]
      by_cases e2 : i < n
      · rw [if_pos (by omega), if_pos e2]
      · rw [if_neg (by omega), if_neg e2]
theorem dryTo_le {d e : Pt → Int} {ps qs : List Pt} {s t stay : List Int} : ∀ (n : Nat), n ≤ ps.length → n ≤ qs.length → (∀ i (h : i < ps.length) (h' : i < qs.length), i < n → dryAt ps[i] (at0 s i) (at0 stay i) (d ps[i]) ≤ dryAt qs[i] (at0 t i) (at0 stay i) (e qs[i])) → dryTo d ps s stay n ≤ dryTo e qs t stay n
  | 0, _, _, _ => by simp [dryTo]
  | n + 1, hn, hq, h => by
    rw [dryTo_succ (by omega), dryTo_succ (by omega)]
    have h1 := dryTo_le n (by omega) (by omega) fun i hi hi' hin => h i hi hi' (by omega)
    have h2 := h n (by omega) (by omega) (by omega)
    omega
theorem at0_nonneg {l : List Int} (h : ∀ x ∈ l, 0 ≤ x) (i : Nat) : 0 ≤ at0 l i := by
  by_cases hi : i < l.length
  · exact h _ (at0_mem hi)
  · simp [at0, show l[i]? = none by simp; omega]
/-- What dries with a damp that is known lies between the ends. -/
theorem know_dry_le {d : Pt → Int} {ps : List Pt} {s stay : List Int} {g : Nat → Int} (hst : ∀ x ∈ stay, 0 ≤ x) (h : ∀ i (h : i < ps.length), g i ≤ d ps[i]) : dryD d ps s stay ≤ dryD Pt.lo (knowP g ps.length ps) s stay := by
  unfold dryD
  rw [knowP_length]
  refine dryTo_le _ (Nat.le_refl _) (by rw [knowP_length]; exact Nat.le_refl _) fun i hi hi' hin => ?_
  rw [knowP_at hi', if_pos hin]
  exact Int.mul_le_mul_of_nonneg_left (by have := h i hi; simp only [Pt.h]; omega) (at0_nonneg hst i)
theorem know_dry_ge {d : Pt → Int} {ps : List Pt} {s stay : List Int} {g : Nat → Int} (hst : ∀ x ∈ stay, 0 ≤ x) (h : ∀ i (h : i < ps.length), d ps[i] ≤ g i) : dryD Pt.lo (knowP g ps.length ps) s stay ≤ dryD d ps s stay := by
  unfold dryD
  rw [knowP_length]
  refine dryTo_le _ (by rw [knowP_length]; exact Nat.le_refl _) (Nat.le_refl _) fun i hi' hi hin => ?_
  rw [knowP_at hi', if_pos hin]
  exact Int.mul_le_mul_of_nonneg_left (by have := h i hi; simp only [Pt.h]; omega) (at0_nonneg hst i)
theorem know_dry {d : Pt → Int} {ps : List Pt} {s stay : List Int} {g : Nat → Int} (hst : ∀ x ∈ stay, 0 ≤ x) (h : ∀ i (h : i < ps.length), g i = d ps[i]) : dryD Pt.lo (knowP g ps.length ps) s stay = dryD d ps s stay :=
  Int.le_antisymm (know_dry_ge hst fun i hi => by rw [h i hi]; exact Int.le_refl _) (know_dry_le hst fun i hi => by rw [h i hi]; exact Int.le_refl _)
/-- Of parts, the damp at its ends. -/
def hiAt (ps : List Pt) (i : Nat) : Int := (ps.map Pt.hi).getD i 0
def loAt (ps : List Pt) (i : Nat) : Int := (ps.map Pt.lo).getD i 0
theorem hiAt_at {ps : List Pt} {i : Nat} (h : i < ps.length) : hiAt ps i = ps[i].hi := by simp [hiAt, h]
theorem loAt_at {ps : List Pt} {i : Nat} (h : i < ps.length) : loAt ps i = ps[i].lo := by simp [loAt, h]

/-- Which setting is best. -/
theorem set_mem {ps : List Pt} {s : List Int} (h : isSetB ps.length s = true) : s ∈ setsL ps.length := by
  simp only [isSetB, setB, Bool.and_eq_true, decide_eq_true_eq, List.all_eq_true] at h
  exact mem_setsL.2 h
theorem set_of_mem {n : Nat} {s : List Int} (h : s ∈ setsL n) : isSetB n s = true := by
  simp only [isSetB, setB, Bool.and_eq_true, decide_eq_true_eq, List.all_eq_true]
  exact mem_setsL.1 h
theorem heatD_range {ps : List Pt} (hp : ∀ p ∈ ps, PtOk p) (h4 : ps.length ≤ 4) (s : List Int) : 0 ≤ heatD ps s ∧ heatD ps s ≤ 80 := by
  have := heatTo_range (s := s) hp ps.length (Nat.le_refl _)
  unfold heatD
  omega
theorem goodD_length (ps : List Pt) (fs : List Fr) (s : List Int) : (goodD ps fs s).length ≤ fs.length := pickL_length _ _
theorem most_good {ps : List Pt} {fs : List Fr} (hb : BookOk ps fs) {s : List Int} (hs : s ∈ setsL ps.length) : (goodD ps fs s).length ≤ (goodD ps fs (mostD ps fs)).length := by
  have h := best_le (most_eq ps fs) hs
  have h1 := heatD_range hb.p hb.p4 s
  have h2 := heatD_range hb.p hb.p4 (mostD ps fs)
  unfold rankD at h
  omega
theorem most_heat {ps : List Pt} {fs : List Fr} {s : List Int} (hs : s ∈ setsL ps.length) (hl : (goodD ps fs s).length = (goodD ps fs (mostD ps fs)).length) : heatD ps (mostD ps fs) ≤ heatD ps s := by
  have h := best_le (most_eq ps fs) hs
  unfold rankD at h
  omega
theorem most_first {ps : List Pt} {fs : List Fr} {s : List Int} (hs : s ∈ setsL ps.length) (hl : (goodD ps fs s).length = (goodD ps fs (mostD ps fs)).length) (hh : heatD ps s = heatD ps (mostD ps fs)) : earlier s (mostD ps fs) = false :=
  best_first (setsL_sorted _) (most_eq ps fs) hs (by unfold rankD; omega)
theorem good_full {ps : List Pt} {fs : List Fr} {s : List Int} : (goodD ps fs s).length = fs.length ↔ (List.range fs.length).all (dryI ps fs s) = true := by
  rw [goodD, pickL_full, List.all_eq_true]
  exact ⟨fun h i hi => h i (List.mem_range.1 hi), fun h i hi => h i (List.mem_range.2 hi)⟩
theorem cool_most {ps : List Pt} {fs : List Fr} (h : (goodD ps fs (mostD ps fs)).length = fs.length) : coolD ps fs (List.range fs.length) = some (mostD ps fs) := by
  obtain ⟨m1, m2, e, h1, h2⟩ := best_some (most_eq ps fs)
  have hd := good_full.1 h
  unfold coolD doesL
  refine best_unique (m1 := m1.filter fun s => (List.range fs.length).all (dryI ps fs s)) (m2 := m2.filter fun s => (List.range fs.length).all (dryI ps fs s)) ?_ ?_ ?_
  · conv => lhs; rw [e]
    rw [List.filter_append, List.filter_cons, if_pos hd]
  · intro z hz
    obtain ⟨hz1, hz2⟩ := List.mem_filter.1 hz
    have := h1 z hz1
    have h3 := good_full.2 hz2
    unfold rankD at this
    omega
  · intro z hz
    obtain ⟨hz1, hz2⟩ := List.mem_filter.1 hz
    have := h2 z hz1
    have h3 := good_full.2 hz2
    unfold rankD at this
    omega
theorem cool_none {ps : List Pt} {fs : List Fr} (hb : BookOk ps fs) (h : (goodD ps fs (mostD ps fs)).length ≠ fs.length) : coolD ps fs (List.range fs.length) = none := by
  rcases e : coolD ps fs (List.range fs.length) with _ | x
  · rfl
  · exfalso
    have hm := List.mem_filter.1 (best_mem e)
    have h1 := good_full.2 hm.2
    have h2 := most_good hb hm.1
    have h3 := goodD_length ps fs (mostD ps fs)
    omega
theorem dryI_of {ps : List Pt} {fs : List Fr} {s : List Int} {i : Nat} (h : i < fs.length) : dryI ps fs s i = decide (kindD ps s fs[i] = 0) := by simp [dryI, h]
theorem good_mem {ps : List Pt} {fs : List Fr} {s : List Int} {i : Nat} (h : i < fs.length) : (i : Int) ∈ goodD ps fs s ↔ kindD ps s fs[i] = 0 := by
  rw [goodD, mem_pickL]
  constructor
  · rintro ⟨j, e, hj, hd⟩
    have : i = j := by omega
    subst this
    rw [dryI_of h] at hd; simpa using hd
  · intro hk
    exact ⟨i, rfl, h, by rw [dryI_of h]; simpa using hk⟩
/-- Wetter, drier: what the kind says of how dry a frame is. -/
theorem kind_wet {ps : List Pt} {s : List Int} {f : Fr} {n : Int} (h1 : dryD Pt.hi ps s f.stay ≤ n) (h2 : n < f.lo) : kindD ps s f % 2 = 1 := by
  unfold kindD
  rw [if_pos (by omega)]
  split <;> decide
theorem kind_dry {ps : List Pt} {s : List Int} {f : Fr} {n : Int} (h1 : n ≤ dryD Pt.lo ps s f.stay) (h2 : f.hi < n) : 2 ≤ kindD ps s f := by
  unfold kindD
  rw [if_pos (show dryD Pt.lo ps s f.stay > f.hi by omega)]
  split <;> omega
theorem kind_in {ps : List Pt} {s : List Int} {f : Fr} {n : Int} (h1 : dryD Pt.hi ps s f.stay ≤ n) (h2 : n ≤ dryD Pt.lo ps s f.stay) (hk : kindD ps s f = 0) : f.lo ≤ n ∧ n ≤ f.hi := by
  unfold kindD at hk
  split at hk <;> split at hk <;> omega
theorem kind_range (ps : List Pt) (s : List Int) (f : Fr) : 0 ≤ kindD ps s f ∧ kindD ps s f ≤ 3 := by
  unfold kindD
  split <;> split <;> omega
end Go.Proofs.YticfcdbfplfmlaaGreat.Tu
/- The walks of the shared package that the laws of layer 3 want: where a number stands in a list; does a list grow? -/
namespace Go.Proofs.YticfcdbfplfmlaaGreat.Tu
open Go.RowKit Go.Maps
attribute [local go_sem] Oper.semAt_some

set_option maxRecDepth 10000 in
set_option maxHeartbeats 1600000 in
theorem Index_any (p : Option Addr) (c : Nat) (l : List Int) (x : Int) (hn : l.length ≤ 1000) (w : World) (hI : IntsAt w p l) :
    Calls Tryz.prog 42 #[.slice p l.length c, .int .i64 x] w fun e w' => e = .returned (.int .i64 (idxN l x)) ∧ w' = w := by
  have HI := Lib.hid hI
  clear hI
  go_enter Tryz.func42, Tryz.ntmps42
  go_wp2
  go_loopw [5] (fun i wr => wr = w ∧ ∃ k : Nat, k ≤ l.length ∧ i = .int .i64 k ∧ Hid (∀ i, i < k → x ≠ at0 l i)) (fun i _ => l.length - (intOf i).toNat)
  case atStart => exact ⟨rfl, 0, by omega, rfl, Lib.hid (by intro i hi; omega)⟩
  case round =>
    obtain ⟨rfl, k, hk, rfl, HN⟩ := hrel
    by_cases hlt : k < l.length
    · obtain ⟨g, o, rfl, hc⟩ := HI.out k hlt
      have i1 : (0 : Int) ≤ (k : Int) := by omega
      have i2 : (k : Int) < (l.length : Int) := by omega
      by_cases hx : x = at0 l k
      · have HX := Lib.hid hx
        have HV := Lib.hid (idx_some hlt hx HN.out)
        have hx2 : (at0 l k == x) = true := by simp [hx]
        clear hx
        go_wp2
        go_ret
        exact ⟨ret_int HV.out.symm, rfl⟩
      · have HX := Lib.hid hx
        have hx2 : (at0 l k == x) = false := by simp; exact fun h => hx h.symm
        clear hx
        go_wp2
        go_roundw
        case rel => exact ⟨trivial, k + 1, by omega, by go_num, Lib.hid fun j hj => by
          by_cases e : j = k
          · subst e; exact HX.out
          · exact HN.out j (by omega)⟩
        case measure => simp [intOf]; omega
    · obtain rfl : k = l.length := by omega
      have HV := Lib.hid (idx_none HN.out)
      go_wp2
      go_ret
      exact ⟨ret_int HV.out.symm, rfl⟩
theorem idx_range (l : List Int) (x : Int) : -1 ≤ idxN l x := by
  unfold idxN
  split <;> omega
theorem idx_mem {l : List Int} {x : Int} : 0 ≤ idxN l x ↔ x ∈ l := by
  constructor
  · intro h
    unfold idxN at h
    split at h
    · rename_i i e
      have := List.find?_range_eq_some.1 e
      have h1 := this.1
      have h2 := List.mem_range.1 this.2.1
      simp only [decide_eq_true_eq] at h1
      rw [h1]; exact at0_mem h2
    · omega
  · intro h
    by_cases e : 0 ≤ idxN l x
    · exact e
    · exfalso
      have e2 : idxN l x = -1 := by have := idx_range l x; omega
      unfold idxN at e2
      split at e2
      · omega
      · rename_i e3
        obtain ⟨i, hi, rfl⟩ := List.mem_iff_getElem.1 h
        have := List.find?_range_eq_none.1 e3 i hi
        simp [at0_lt hi] at this
/-- A list that grows, of numbers from 0 to below a number. -/
def Grown (l : List Int) (n : Int) : Prop := (∀ i, i < l.length → 0 ≤ at0 l i ∧ at0 l i ≤ n - 1) ∧ ∀ i, i + 1 < l.length → at0 l i < at0 l (i + 1)
theorem grown_pick (F : Nat → Bool) (n : Nat) : Grown (pickL F n) n := by
  induction n with
  | zero => exact ⟨fun i hi => by simp [pickL] at hi, fun i hi => by simp [pickL] at hi⟩
  | succ n ih =>
    rw [pickL_succ]
    split
    · refine ⟨fun i hi => ?_, fun i hi => ?_⟩
      · rw [List.length_append] at hi
        by_cases e : i < (pickL F n).length
        · have := ih.1 i e
          rw [at0_lt (l := pickL F n ++ [(n : Int)]) (i := i) (by simp; omega), List.getElem_append_left e, ← at0_lt e]
          push_cast; omega
        · have e2 : i = (pickL F n).length := by simp at hi; omega
          subst e2
          rw [at0_lt (l := pickL F n ++ [(n : Int)]) (by simp)]
          simp
      · rw [List.length_append] at hi
        have e1 : i < (pickL F n).length := by simp at hi; omega
        rw [at0_lt (l := pickL F n ++ [(n : Int)]) (i := i) (by simp; omega), List.getElem_append_left e1, ← at0_lt e1]
        by_cases e : i + 1 < (pickL F n).length
        · rw [at0_lt (l := pickL F n ++ [(n : Int)]) (i := i + 1) (by simp; omega), List.getElem_append_left e, ← at0_lt e]
          exact ih.2 i e
        · have e2 : i + 1 = (pickL F n).length := by simp at hi; omega
          have := ih.1 i e1
          rw [at0_lt (l := pickL F n ++ [(n : Int)]) (i := i + 1) (by simp; omega), List.getElem_append_right (by omega)]
          simp
          omega
    · exact ⟨fun i hi => by have := ih.1 i hi; push_cast; omega, ih.2⟩

set_option maxRecDepth 10000 in
set_option maxHeartbeats 1600000 in
theorem Grows_any (p : Option Addr) (c : Nat) (l : List Int) (n : Nat) (hn : l.length ≤ 1000) (h1 : n ≤ 1000) (w : World) (hI : IntsAt w p l) (hG : Grown l n) :
    Calls Tryz.prog 40 #[.slice p l.length c, .int .i64 n] w fun e w' => e = .returned (.bool true) ∧ Below w.heap.size w w' := by
  have HI := Lib.hid hI
  have HG := Lib.hid hG
  clear hI hG
  go_enter Tryz.func40, Tryz.ntmps40
  go_wp2
  go_loopw [5] (fun i wr => ∃ k : Nat, k ≤ l.length ∧ i = .int .i64 k ∧ IntsAt wr p l ∧ Below w.heap.size w wr) (fun i _ => l.length - (intOf i).toNat)
  case atStart => exact ⟨0, by omega, rfl, HI.out, Below.refl _ _⟩
  case round =>
    clear HI
    obtain ⟨k, hk, rfl, hi, hb⟩ := hrel
    have HI := Lib.hid hi
    have HB := Lib.hid hb
    clear hi hb
    by_cases hlt : k < l.length
    · obtain ⟨g, o, rfl, hc⟩ := HI.out k hlt
      have i1 : (0 : Int) ≤ (k : Int) := by omega
      have i2 : (k : Int) < (l.length : Int) := by omega
      have hg := HG.out.1 k hlt
      have HF := Lib.hid (fits_yes hg)
      have e1 : IntKind.i64.wrap ((n : Int) - 1) = (n : Int) - 1 := IntWalk.i64_in _ (by omega)
      by_cases h0 : k = 0
      · subst h0
        rw [Nat.add_zero] at hc
        go_wp2
        go_quiet ((go_at_call 6; exact quiet_eq (Fits_yes _ _ _ _ hg.1 hg.2)))
        go_wp2
        go_roundw
        case rel => exact ⟨1, by omega, by go_num, HI.out, below_drewN HB.out _⟩
        case measure => simp [intOf]; omega
      · have hg2 := HG.out.2 (k - 1) (by omega)
        rw [show k - 1 + 1 = k by omega] at hg2
        obtain ⟨g', o', e', hc'⟩ := HI.out (k - 1) (by omega)
        cases e'
        have i3 : 0 < k := by omega
        have i4 : (0 : Int) ≤ (k : Int) - 1 := by omega
        have i5 : (k : Int) - 1 < (l.length : Int) := by omega
        have e2 : IntKind.i64.wrap ((k : Int) - 1) = (k : Int) - 1 := IntWalk.i64_in _ (by omega)
        have e6 : ((k : Int) - 1).toNat = k - 1 := by omega
        have e7 : decide (at0 l k ≤ at0 l (k - 1)) = false := by simp; omega
        go_wp2
        go_quiet ((go_at_call 6; exact quiet_eq (Fits_yes _ _ _ _ hg.1 hg.2)))
        go_wp2
        go_roundw
        case rel => exact ⟨k + 1, by omega, by go_num, HI.out, below_drewN HB.out _⟩
        case measure => simp [intOf]; omega
    · obtain rfl : k = l.length := by omega
      go_wp2
      go_ret
      exact ⟨rfl, HB.out⟩
end Go.Proofs.YticfcdbfplfmlaaGreat.Tu
/- The law's own helpers of layer 3: how dry a frame is in a book whose damp is known. -/
namespace Go.Proofs.YticfcdbfplfmlaaGreat.Tu
open Go.RowKit Go.Maps
attribute [local go_sem] Oper.semAt_some

/-- A number so many times, one after another. -/
def timesN (x : Int) : Nat → Int
  | 0 => 0
  | j + 1 => timesN x j + x
theorem timesN_eq (x : Int) : ∀ j : Nat, timesN x j = (j : Int) * x
  | 0 => by simp [timesN]
  | j + 1 => by rw [timesN, timesN_eq x j]; push_cast; rw [Int.add_mul]; omega
theorem timesN_range {x : Int} (h0 : 0 ≤ x) (h1 : x ≤ 20) : ∀ j : Nat, 0 ≤ timesN x j ∧ timesN x j ≤ 20 * j
  | 0 => by simp [timesN]
  | j + 1 => by
    have := timesN_range h0 h1 j
    rw [timesN]; push_cast; omega

end Go.Proofs.YticfcdbfplfmlaaGreat.Tu
/- The law's own helpers of layer 3: a book whose damp is known, as numbers choose it. -/
namespace Go.Proofs.YticfcdbfplfmlaaGreat.Tu
open Go.RowKit Go.Maps
attribute [local go_sem] Oper.semAt_some

/-- The damp that numbers choose. -/
def trueD (ps : List Pt) (bits : List Int) (i : Nat) : Int := drawn (loAt ps i) (hiAt ps i) (item bits (i : Int))
theorem drawn_range {a b n : Int} (h1 : -1000000000 ≤ a) (h2 : a ≤ b) (h3 : b ≤ 1000000000) : a ≤ drawn a b n ∧ drawn a b n ≤ b := by
  have hs := spin_range n (b - a + 1) (by omega)
  rw [drawn, IntWalk.wrap64_in (b - a) (by omega), IntWalk.wrap64_in (b - a + 1) (by omega), IntWalk.wrap64_in _ (by omega)]
  omega
theorem trueD_range {ps : List Pt} (hok : ∀ p ∈ ps, PtOk p) (bits : List Int) {i : Nat} (h : i < ps.length) : ps[i].lo ≤ trueD ps bits i ∧ trueD ps bits i ≤ ps[i].hi := by
  have hp := hok ps[i] (List.getElem_mem _)
  have h1 := hp.l0
  have h2 := hp.l1
  have h3 := hp.l2
  unfold trueD
  rw [loAt_at h, hiAt_at h]
  exact drawn_range (by omega) (by omega) (by omega)
theorem knowP_get (g : Nat → Int) {n : Nat} {ps : List Pt} (h : n < ps.length) : ∃ h' : n < (knowP g n ps).length, (knowP g n ps)[n] = ps[n] := ⟨by rw [knowP_length]; exact h, by rw [knowP_at, if_neg (by omega)]⟩

end Go.Proofs.YticfcdbfplfmlaaGreat.Tu
/- Plain theorems of layer 3: what is easier, what is asked for, which frames clash. -/
namespace Go.Proofs.YticfcdbfplfmlaaGreat.Tu

theorem kind_zero {ps : List Pt} {s : List Int} {f : Fr} : kindD ps s f = 0 ↔ f.lo ≤ dryD Pt.hi ps s f.stay ∧ dryD Pt.lo ps s f.stay ≤ f.hi := by
  unfold kindD
  constructor
  · intro h
    split at h <;> split at h <;> omega
  · rintro ⟨h1, h2⟩
    rw [if_neg (by omega), if_neg (by omega)]; rfl
theorem pickL_congr {F G : Nat → Bool} : ∀ {n : Nat}, (∀ i, i < n → F i = G i) → pickL F n = pickL G n
  | 0, _ => rfl
  | n + 1, h => by rw [pickL_succ, pickL_succ, pickL_congr fun i hi => h i (by omega), h n (by omega)]
theorem pickL_le {F G : Nat → Bool} : ∀ {n : Nat}, (∀ i, i < n → F i = true → G i = true) → (pickL F n).length ≤ (pickL G n).length
  | 0, _ => by simp [pickL]
  | n + 1, h => by
    have ih := pickL_le (F := F) (G := G) (n := n) fun i hi => h i (by omega)
    rw [pickL_succ, pickL_succ]
    cases e : F n
    · cases e2 : G n <;> simp <;> omega
    · rw [h n (by omega) e]; simp; omega
theorem goodD_count (ps : List Pt) (s : List Int) (fs : List Fr) : (goodD ps fs s).length = fs.countP (fun f => decide (kindD ps s f = 0)) := by
  have key : ∀ n, n ≤ fs.length → (pickL (dryI ps fs s) n).length = (fs.take n).countP (fun f => decide (kindD ps s f = 0)) := by
    intro n
    induction n with
    | zero => intro _; simp [pickL]
    | succ n ih =>
      intro hn
      have h1 := ih (by omega)
      rw [pickL_succ, List.take_add_one, List.countP_append, ← h1, List.getElem?_eq_getElem (by omega), dryI_of (by omega)]
      by_cases e : kindD ps s fs[n] = 0
      · simp [e]
      · simp [e]
  have := key fs.length (Nat.le_refl _)
  rw [List.take_length] at this
  exact this
theorem all_dry {ps : List Pt} {fs : List Fr} {s : List Int} : (List.range fs.length).all (dryI ps fs s) = true ↔ ∀ f ∈ fs, kindD ps s f = 0 := by
  rw [← good_full, goodD_count, List.countP_eq_length]
  simp
/-- No fewer frames are dry in time by one setting, but for some. -/
theorem most_mono {ps qs : List Pt} {fs gs : List Fr} {m : Nat} (hb : BookOk qs gs) (hl : qs.length = ps.length) (h : ∀ s, s ∈ setsL ps.length → (goodD ps fs s).length ≤ (goodD qs gs s).length + m) : (goodD ps fs (mostD ps fs)).length ≤ (goodD qs gs (mostD qs gs)).length + m := by
  have h1 := h _ (most_mem ps fs)
  have h2 := most_good hb (s := mostD ps fs) (by rw [hl]; exact most_mem ps fs)
  omega
theorem cool_mono {ps qs : List Pt} {fs gs : List Fr} {x : List Int} (hl : qs.length = ps.length) (hh : ∀ s, heatD qs s = heatD ps s) (h : ∀ s, s ∈ setsL ps.length → (∀ f ∈ fs, kindD ps s f = 0) → ∀ f ∈ gs, kindD qs s f = 0) (hx : coolD ps fs (List.range fs.length) = some x) : ∃ y, coolD qs gs (List.range gs.length) = some y ∧ heatD qs y ≤ heatD ps x := by
  have hm := List.mem_filter.1 (best_mem hx)
  have hx2 : x ∈ doesL qs gs (List.range gs.length) := List.mem_filter.2 ⟨by rw [hl]; exact hm.1, all_dry.2 (h x hm.1 (all_dry.1 hm.2))⟩
  rcases e : coolD qs gs (List.range gs.length) with _ | y
  · exfalso
    have e2 := best_none.1 e
    rw [e2] at hx2; cases hx2
  · exact ⟨y, rfl, by rw [← hh x]; exact best_le e hx2⟩
theorem heatTo_eq {ps qs : List Pt} {s : List Int} (hl : qs.length = ps.length) (h : ∀ i (h : i < ps.length) (h' : i < qs.length) d, qs[i].h d = ps[i].h d) : ∀ n, n ≤ ps.length → heatTo qs s n = heatTo ps s n
  | 0, _ => by simp [heatTo]
  | n + 1, hn => by rw [heatTo_succ (by omega), heatTo_succ (by omega), heatTo_eq hl h n (by omega), h n (by omega) (by omega)]
/-- Parts of whose damp more is known. -/
structure Narrow (ps qs : List Pt) : Prop where
  l : qs.length = ps.length
  h : ∀ i (h : i < ps.length) (h' : i < qs.length), (∀ d, qs[i].h d = ps[i].h d) ∧ ps[i].lo ≤ qs[i].lo ∧ qs[i].hi ≤ ps[i].hi
theorem narrow_heat {ps qs : List Pt} (h : Narrow ps qs) (s : List Int) : heatD qs s = heatD ps s := by
  unfold heatD
  rw [h.l]
  exact heatTo_eq h.l (fun i hi hi' d => (h.h i hi hi').1 d) _ (Nat.le_refl _)
theorem narrow_kind {ps qs : List Pt} (h : Narrow ps qs) {s : List Int} {f : Fr} (hst : ∀ x ∈ f.stay, 0 ≤ x) (hk : kindD ps s f = 0) : kindD qs s f = 0 := by
  rw [kind_zero] at hk ⊢
  have h1 : dryD Pt.hi ps s f.stay ≤ dryD Pt.hi qs s f.stay := by
    unfold dryD
    rw [h.l]
    refine dryTo_le _ (Nat.le_refl _) (by rw [h.l]; exact Nat.le_refl _) fun i hi hi' _ => ?_
    have := h.h i hi hi'
    exact Int.mul_le_mul_of_nonneg_left (by rw [this.1]; omega) (at0_nonneg hst i)
  have h2 : dryD Pt.lo qs s f.stay ≤ dryD Pt.lo ps s f.stay := by
    unfold dryD
    rw [h.l]
    refine dryTo_le _ (by rw [h.l]; exact Nat.le_refl _) (Nat.le_refl _) fun i hi' hi _ => ?_
    have := h.h i hi hi'
    exact Int.mul_le_mul_of_nonneg_left (by rw [this.1]; omega) (at0_nonneg hst i)
  omega
theorem narrow_damp {ps : List Pt} {k : Nat} (hk : k < ps.length) {lo hi : Int} (h0 : ps[k].lo ≤ lo) (h1 : hi ≤ ps[k].hi) : Narrow ps (dampP ps k lo hi) := by
  refine ⟨dampP_length _ _ _ _, fun i hi' hi2 => ?_⟩
  simp only [dampP_at hk, List.getElem_set]
  by_cases e : k = i
  · subst e
    simp only [if_true]
    exact ⟨fun d => rfl, h0, h1⟩
  · simp only [if_neg e]
    exact ⟨fun d => trivial, Int.le_refl _, Int.le_refl _⟩
theorem narrow_good {ps qs : List Pt} {fs : List Fr} (h : Narrow ps qs) (hf : ∀ f ∈ fs, ∀ x ∈ f.stay, 0 ≤ x) (s : List Int) : (goodD ps fs s).length ≤ (goodD qs fs s).length := by
  rw [goodD_count, goodD_count]
  refine List.countP_mono_left fun f hm hk => ?_
  simp only [decide_eq_true_eq] at hk ⊢
  exact narrow_kind h (hf f hm) hk
theorem ok_stay {ps : List Pt} {fs : List Fr} (h : BookOk ps fs) : ∀ f ∈ fs, ∀ x ∈ f.stay, 0 ≤ x := fun f hf x hx => ((h.f f hf).s x hx).1
theorem narrow_most {ps qs : List Pt} {fs : List Fr} (h : Narrow ps qs) (hb : BookOk ps fs) (hb2 : BookOk qs fs) : (goodD ps fs (mostD ps fs)).length ≤ (goodD qs fs (mostD qs fs)).length :=
  most_mono (m := 0) hb2 h.l fun s _ => narrow_good h (ok_stay hb) s
/-- What is asked for is worth no less than what is known. -/
theorem worst_ge {ps : List Pt} {fs : List Fr} (hb : BookOk ps fs) {k : Nat} (hk : k < ps.length) : ((goodD ps fs (mostD ps fs)).length : Int) ≤ worstD ps fs k := by
  have key : ∀ j : Nat, ps[k].lo + (j : Int) ≤ ps[k].hi + 1 → ((goodD ps fs (mostD ps fs)).length : Int) ≤ worstTo ps fs k ps[k].lo j := by
    intro j
    induction j with
    | zero =>
      intro _
      have := goodD_length ps fs (mostD ps fs)
      simp only [worstTo]; omega
    | succ j ih =>
      intro hj
      have h1 := ih (by omega)
      have h2 := narrow_most (narrow_damp hk (lo := ps[k].lo + (j : Int)) (hi := ps[k].lo + (j : Int)) (by omega) (by omega)) hb (damp_ok hb hk (by omega) (by omega) (by omega))
      simp only [worstTo, knownN]
      omega
  have hp := hb.p ps[k] (List.getElem_mem _)
  have := key (ps[k].hi - ps[k].lo + 1).toNat (by have := hp.l1; omega)
  unfold worstD
  rw [List.getElem?_eq_getElem hk]
  exact this
theorem maxN_ge (l : List Int) : ∀ k i, i < k → at0 l i ≤ maxN l k
  | 0, i, h => by omega
  | k + 1, i, h => by
    rw [maxN]
    by_cases e : i = k
    · subst e; omega
    · have := maxN_ge l k i (by omega)
      omega
theorem maxN_mem (l : List Int) : ∀ k, 0 < k → ∃ i, i < k ∧ maxN l k = at0 l i
  | 0, h => by omega
  | k + 1, _ => by
    rw [maxN]
    by_cases e : k = 0
    · subst e
      exact ⟨0, by omega, by simp [maxN]⟩
    · obtain ⟨i, hi, h⟩ := maxN_mem l k (by omega)
      by_cases e2 : at0 l k ≤ maxN l k
      · exact ⟨i, by omega, by omega⟩
      · exact ⟨k, by omega, by omega⟩
theorem asks_at {ps : List Pt} {fs : List Fr} {i : Nat} (h : i < ps.length) : at0 (asksN ps fs ps.length) i = worstD ps fs i := by
  simp [at0, asksN, h]
/-- The part that is asked for: at the worst none is worth more; of equal ones it is the first one. -/
theorem ask_is {ps : List Pt} {fs : List Fr} (hb : bookB ps fs = true) : ∃ a : Nat, askV ps fs = (a : Int) ∧ a < ps.length ∧ ∀ p, p < ps.length → worstD ps fs p ≤ worstD ps fs a ∧ (worstD ps fs p = worstD ps fs a → a ≤ p) := by
  have hok := bookB_iff.1 hb
  have h1 := hok.p1
  have hl := asksN_length ps fs ps.length
  obtain ⟨i, hi, e⟩ := maxN_mem (asksN ps fs ps.length) ps.length (by omega)
  have hne : idxN (asksN ps fs ps.length) (maxN (asksN ps fs ps.length) ps.length) ≠ -1 := by
    intro h
    unfold idxN at h
    split at h
    · omega
    · rename_i e3
      have := List.find?_range_eq_none.1 e3 i (by omega)
      simp [e] at this
  obtain ⟨a, ha, ha2, ha3, ha4⟩ : ∃ a : Nat, idxN (asksN ps fs ps.length) (maxN (asksN ps fs ps.length) ps.length) = a ∧ a < ps.length ∧ maxN (asksN ps fs ps.length) ps.length = at0 (asksN ps fs ps.length) a ∧ ∀ j, j < a → maxN (asksN ps fs ps.length) ps.length ≠ at0 (asksN ps fs ps.length) j := by
    unfold idxN at hne ⊢
    split
    · rename_i a e2
      have h2 := List.find?_range_eq_some.1 e2
      refine ⟨a, rfl, by have := List.mem_range.1 h2.2.1; omega, by simpa using h2.1, fun j hj => by have := h2.2.2 j hj; simpa using this⟩
    · rename_i e2
      rw [e2] at hne
      exact absurd rfl hne
  refine ⟨a, by rw [askV, if_pos hb]; exact ha, ha2, fun p hp => ⟨?_, fun h => ?_⟩⟩
  · have := maxN_ge (asksN ps fs ps.length) ps.length p hp
    rw [ha3, asks_at hp, asks_at ha2] at this
    exact this
  · rcases Nat.lt_or_ge p a with h2 | h2
    · exfalso
      refine ha4 p h2 ?_
      rw [ha3, asks_at ha2, asks_at hp, h]
    · exact h2
/-- Lost frames, frames that clash. -/
theorem lost_dry {ps : List Pt} {fs : List Fr} {i : Nat} (h : lostI ps fs i = true) {s : List Int} (hs : s ∈ setsL ps.length) : dryI ps fs s i = false := by
  by_cases e : dryI ps fs s i = true
  · exfalso
    unfold lostI coolD at h
    rw [Option.isNone_iff_eq_none, best_none] at h
    have : s ∈ doesL ps fs [i] := List.mem_filter.2 ⟨hs, by simp [e]⟩
    rw [h] at this; cases this
  · simpa using e
theorem lost_not {ps : List Pt} {fs : List Fr} {i : Nat} (h : lostI ps fs i = false) : ∃ s, s ∈ setsL ps.length ∧ dryI ps fs s i = true := by
  unfold lostI coolD at h
  rcases e : bestOf (heatD ps) (doesL ps fs [i]) with _ | s
  · rw [e] at h; simp at h
  · have := List.mem_filter.1 (best_mem e)
    exact ⟨s, this.1, by simpa using this.2⟩
theorem pair_none {ps : List Pt} {fs : List Fr} {a o : Nat} : (coolD ps fs [a, o]).isNone = true ↔ ∀ s, s ∈ setsL ps.length → ¬ (dryI ps fs s a = true ∧ dryI ps fs s o = true) := by
  rw [Option.isNone_iff_eq_none, coolD, best_none]
  constructor
  · intro h s hs ⟨h1, h2⟩
    have : s ∈ doesL ps fs [a, o] := List.mem_filter.2 ⟨hs, by simp [h1, h2]⟩
    rw [h] at this; cases this
  · intro h
    rcases e : doesL ps fs [a, o] with _ | ⟨s, l⟩
    · rfl
    · exfalso
      have : s ∈ doesL ps fs [a, o] := by rw [e]; simp
      have h2 := List.mem_filter.1 this
      refine h s h2.1 ?_
      simpa using h2.2
/-- Two frames alone. -/
theorem two_dry {ps : List Pt} {fs : List Fr} {p q : Nat} (hp : p < fs.length) (hq : q < fs.length) (s : List Int) : (goodD ps [fs[p], fs[q]] s).length = (if dryI ps fs s p then 1 else 0) + (if dryI ps fs s q then 1 else 0) := by
  rw [goodD_count, dryI_of hp, dryI_of hq]
  simp only [List.countP_cons, List.countP_nil]
  omega
end Go.Proofs.YticfcdbfplfmlaaGreat.Tu
/- The law of layer 3 on each head. -/
namespace Go.Proofs.YticfcdbfplfmlaaGreat.Tu
open Go.RowKit Go.Maps
attribute [local go_sem] Oper.semAt_some

theorem knowP_ok {g : Nat → Int} {n : Nat} {ps : List Pt} (hok : ∀ p ∈ ps, PtOk p) (h : ∀ i (h : i < ps.length), ps[i].lo ≤ g i ∧ g i ≤ ps[i].hi) : ∀ p ∈ knowP g n ps, PtOk p := by
  intro p hp
  obtain ⟨i, hi, rfl⟩ := List.mem_iff_getElem.1 hp
  have hi' : i < ps.length := by rwa [knowP_length] at hi
  have hpo := hok ps[i] (List.getElem_mem _)
  rw [knowP_at hi]
  split
  · obtain ⟨a0, a1, a2, a3, a4, l0, l1, l2, l3⟩ := hpo
    have := h i hi'
    exact ⟨a0, a1, a2, a3, a4, by simp only; omega, by simp only; omega, by simp only; omega, by simp only; omega⟩
  · exact hpo
/-- What is so of a frame, by a setting, whatever the damp truly is. -/
theorem true_dry {ps : List Pt} (hok : ∀ p ∈ ps, PtOk p) (bits s : List Int) {st : List Int} (hst : ∀ x ∈ st, 0 ≤ x ∧ x ≤ 20) : dryD Pt.hi ps s st ≤ dryD Pt.lo (knowP (trueD ps bits) ps.length ps) s st ∧ dryD Pt.lo (knowP (trueD ps bits) ps.length ps) s st ≤ dryD Pt.lo ps s st :=
  ⟨know_dry_le (fun x hx => (hst x hx).1) fun i hi => (trueD_range hok bits hi).2, know_dry_ge (fun x hx => (hst x hx).1) fun i hi => (trueD_range hok bits hi).1⟩
theorem ints_ne_row {w : World} {b : Nat} {q a a' : Option Addr} {n c n' c' : Nat} {t : TypeId} {s : List Int} (hr : Row w b #[.slice a n c, .slice a' n' c'] t) (hi : IntsAt w q s) : ∀ c o, q = some ⟨c, o, none⟩ → 0 < s.length → c ≠ b := by
  intro x o e hl h
  subst h
  obtain ⟨b', o', e', hc⟩ := hi 0 hl
  cases e.symm.trans e'
  rw [cell_of_row w x (o + 0) _ t (0, 0) hr] at hc
  rcases o with _ | _ | o <;> simp at hc
theorem kind_odd {ps : List Pt} {s : List Int} {f : Fr} {n : Int} (h1 : dryD Pt.hi ps s f.stay ≤ n) (h2 : n < f.lo) : kindD ps s f = 1 ∨ kindD ps s f = 3 := by
  have := kind_wet h1 h2
  have := kind_range ps s f
  omega

end Go.Proofs.YticfcdbfplfmlaaGreat.Tu
