/- The walks of layer 6: pairs of lots, goods. -/
import Derived.Test.YtajkgfeockcbpaaY9
import Derived.Test.YtajkgfeockcbpaaLX
namespace Go.Proofs.Ytajkgfeockcbpaa
open Go.RowKit Go.Maps
attribute [local go_sem] Oper.semAt_some

/-- The pairs of the first elements with those behind them; of one with some behind it. -/
def rowP (f : Nat → Nat → Bool) (L : List Nat) (i : Nat) (M : List Nat) : List (Nat × Nat) := (M.filter (f (L.getD i 0))).map fun y => (L.getD i 0, y)
def pairsTo (f : Nat → Nat → Bool) (L : List Nat) (i : Nat) : List (Nat × Nat) := (List.range i).flatMap fun a => rowP f L a (L.drop (a + 1))
theorem pairsL_to (f : Nat → Nat → Bool) : ∀ L : List Nat, pairsL f L = pairsTo f L L.length
  | [] => rfl
  | x :: L => by
    rw [pairsL, pairsL_to f L]
    unfold pairsTo
    rw [List.length_cons, List.range_succ_eq_map, List.flatMap_cons, List.flatMap_map]
    rfl
theorem pairsTo_succ (f : Nat → Nat → Bool) (L : List Nat) (i : Nat) : pairsTo f L (i + 1) = pairsTo f L i ++ rowP f L i (L.drop (i + 1)) := by
  unfold pairsTo
  rw [List.range_succ, List.flatMap_append]
  simp
theorem rowP_succ (f : Nat → Nat → Bool) (L : List Nat) (i : Nat) {M : List Nat} {j : Nat} (hj : j < M.length) :
    rowP f L i (M.take (j + 1)) = if f (L.getD i 0) (M.getD j 0) then rowP f L i (M.take j) ++ [(L.getD i 0, M.getD j 0)] else rowP f L i (M.take j) := by
  unfold rowP
  rw [List.take_succ_eq_append_getElem hj, List.filter_append, List.map_append]
  have e : M.getD j 0 = M[j] := by simp [List.getD, hj]
  rw [e]
  cases h : f (L.getD i 0) M[j] <;> simp [h, -List.getD_eq_getElem?_getD]
theorem rowP_le (f : Nat → Nat → Bool) (L : List Nat) (i : Nat) (M : List Nat) : (rowP f L i M).length ≤ M.length := by
  unfold rowP
  rw [List.length_map]
  exact List.length_filter_le _ _
theorem pairsTo_le (f : Nat → Nat → Bool) (L : List Nat) (hL : L.length ≤ 7) : ∀ i, (pairsTo f L i).length ≤ 7 * i
  | 0 => by simp [pairsTo]
  | i + 1 => by
    have h1 := pairsTo_le f L hL i
    have h2 := rowP_le f L i (L.drop (i + 1))
    rw [List.length_drop] at h2
    rw [pairsTo_succ, List.length_append]
    omega
/-- Pairs, as cells; in memory. -/
def prA (l : List (Nat × Nat)) : List Value := l.flatMap fun x => [.int .i64 (x.1 : Int), .int .i64 (x.2 : Int)]
theorem prA_snoc (l : List (Nat × Nat)) (x : Nat × Nat) : prA (l ++ [x]) = prA l ++ [.int .i64 (x.1 : Int), .int .i64 (x.2 : Int)] := by simp [prA]
theorem prA_length (l : List (Nat × Nat)) : (prA l).length = l.length * 2 := by
  induction l with
  | nil => rfl
  | cons x l ih => simp only [prA, List.flatMap_cons, List.length_append, List.length_cons, List.length_nil] at ih ⊢; omega
theorem prA_at : ∀ (l : List (Nat × Nat)) (i : Nat) (h : i < l.length), (prA l)[i * 2]? = some (.int .i64 (l[i].1 : Int)) ∧ (prA l)[i * 2 + 1]? = some (.int .i64 (l[i].2 : Int))
  | x :: l, 0, _ => by simp [prA]
  | x :: l, i + 1, h => by
    have := prA_at l i (by simpa using h)
    have e1 : (i + 1) * 2 = i * 2 + 2 := by omega
    simp only [prA, List.flatMap_cons] at this ⊢
    rw [e1]
    simpa using this
def PairsAt (w : World) (p : Option Addr) (l : List (Nat × Nat)) : Prop :=
  ∀ i (h : i < l.length), ∃ b o, p = some ⟨b, o, none⟩ ∧ w.cell? ⟨b, o + i * 2, none⟩ = some (.int .i64 (l[i].1 : Int)) ∧ w.cell? ⟨b, o + i * 2 + 1, none⟩ = some (.int .i64 (l[i].2 : Int))
theorem PairsAt.below {w w' : World} {p : Option Addr} {l : List (Nat × Nat)} (h : PairsAt w p l) (hb : Below w.heap.size w w') : PairsAt w' p l := by
  intro i hi
  obtain ⟨b, o, hp, h0, h1⟩ := h i hi
  have hlt : b < w.heap.size := cell_block h0
  have key : ∀ k, w'.cell? ⟨b, k, none⟩ = w.cell? ⟨b, k, none⟩ := fun k => (bcell hb).1 b _ hlt
  exact ⟨b, o, hp, by rw [key]; exact h0, by rw [key]; exact h1⟩
theorem PairsAt.keep {w w' : World} {p : Option Addr} {l : List (Nat × Nat)} {M : Nat → Prop} (h : PairsAt w p l) (hk : KeepsBut M w w') (hn : ∀ m o, p = some ⟨m, o, none⟩ → ¬ M m) : PairsAt w' p l := by
  intro i hi
  obtain ⟨b, o, hp, h0, h1⟩ := h i hi
  have hlt : b < w.heap.size := cell_block h0
  exact ⟨b, o, hp, by rw [World.cell?_of_block (hk.block b hlt (hn b o hp))]; exact h0, by rw [World.cell?_of_block (hk.block b hlt (hn b o hp))]; exact h1⟩
def GavePairs (l : List (Nat × Nat)) (w : World) (e : Ending) (w' : World) : Prop :=
  ∃ p, e = .returned (.slice p l.length l.length) ∧ PairsAt w' p l ∧ (∀ m o, p = some ⟨m, o, none⟩ → w.heap.size ≤ m) ∧ Below w.heap.size w w'
theorem pairs_of_owns {w : World} {base e : Nat} {v : Value} {l : List (Nat × Nat)} (h : w.ownsRow base e 2 v l.length (prA l)) :
    ∃ p c, v = .slice p l.length c ∧ PairsAt w p l ∧ l.length ≤ c ∧ c ≤ maxLen ∧ (∀ m o, p = some ⟨m, o, none⟩ → base ≤ m) ∧ (p = none ∨ ∃ g, p = some ⟨g, 0, none⟩) := by
  rcases h.2 with ⟨hv, h0⟩ | ⟨g, cap, cur, hv, hg, hh, h1, h2, h3, h4⟩
  · exact ⟨none, 0, by rw [hv, h0], fun i hi => by omega, by omega, by unfold maxLen; omega, fun _ _ h => (by cases h), .inl rfl⟩
  · refine ⟨_, cap, hv, fun i hi => ?_, h1, h2, fun m o h => (by cases h; exact hg), .inr ⟨g, rfl⟩⟩
    have hc := World.ownsRow.cells (g := g) (by rw [hv] at h; exact h) rfl
    obtain ⟨a0, a1⟩ := prA_at l i hi
    have k0 := hc _ _ a0
    have k1 := hc _ _ a1
    rw [Addr.add_lit] at k0 k1
    exact ⟨g, 0, rfl, k0, by rw [Nat.add_assoc]; exact k1⟩
theorem Try.infoPair : (Try.prog.info? 69).map (fun i => (i.zero, i.size, i.bytes)) = some (some (.agg #[.int .i64 0, .int .i64 0]), 2, 16) := by kernel_rfl
theorem IntsAt.drop {w : World} {b o : Nat} {l : List Int} (h : IntsAt w (some ⟨b, o, none⟩) l) (k : Nat) : IntsAt w (some ⟨b, o + k, none⟩) (l.drop k) := by
  intro i hi
  rw [List.length_drop] at hi
  obtain ⟨b', o', e, hc⟩ := h (k + i) (by omega)
  cases e
  refine ⟨b, o + k, rfl, ?_⟩
  have e2 : at0 (l.drop k) i = at0 l (k + i) := by simp [at0, List.getD]
  rw [e2, Nat.add_assoc]
  exact hc
theorem intsN_at {L : List Nat} {i : Nat} (h : i < L.length) : at0 (intsN L) i = ((L.getD i 0 : Nat) : Int) := by
  simp [at0, intsN, List.getD, h]
theorem cell_two_new (w : World) (x y : Value) (t : TypeId) : ∀ j u, [x, y][j]? = some u → (w.alloc (.cells #[x, y] t)).cell? ((⟨w.heap.size, 0, none⟩ : Addr).add j) = some u := by
  intro j u h
  match j, h with
  | 0, h =>
    have := (Row.new w #[x, y] t).cell 0 (v := x) rfl
    simp at h
    subst h
    rw [Addr.add_lit]
    exact this
  | 1, h =>
    have := (Row.new w #[x, y] t).cell 1 (v := y) rfl
    simp at h
    subst h
    rw [Addr.add_lit]
    exact this
set_option maxRecDepth 10000 in
set_option maxHeartbeats 1600000 in
theorem lotPairs_any (b : Yb) (P : Yp) (mb : Nat) (k : Bool) (c : Nat → Bool) (hcl : ∀ i, i < 7 → c i = true → i < b.lots.length) (w : World) (hK : YkAt w P mb b) :
    Calls Try.prog 114 #[.agg (lotF c), .func (.func 58) #[.agg (trA b P mb k)] #[]] w (GavePairs (pairsL (nearK b k) (lotsL c)) w) := by
  obtain ⟨i0, hi, hi0, hi1, hi2⟩ := info_parts Try.infoPair
  obtain ⟨W0, hW0⟩ : ∃ W, W = w.alloc (.cells (lotF c) 99) := ⟨_, rfl⟩
  have HW0 := Lib.hid hW0
  have HE := Lib.hid (show Below w.heap.size w W0 by rw [hW0]; exact below_alloc _ _)
  have HR := Lib.hid (show Row W0 w.heap.size (lotF c) 99 by rw [hW0]; exact Row.new w _ _)
  clear hW0
  have HK := Lib.hid (hK.below HE.out)
  clear hK
  have hl7 := lotsL_le c
  have HMEM := Lib.hid (fun i (h : i < (lotsL c).length) => (show (lotsL c).getD i 0 < b.lots.length by
    have e : (lotsL c).getD i 0 = (lotsL c)[i] := by simp [List.getD, h]
    rw [e]
    obtain ⟨h1, h2⟩ := lotsL_mem.1 (List.getElem_mem h)
    exact hcl _ h1 h2))
  have HLI := Lib.hid (fun w' => list_any c w')
  rw [pairsL_to]
  have hln := intsN_length (lotsL c)
  generalize lotsL c = L at *
  have HLN := Lib.hid hln
  clear hln hcl
  go_enter Try.func114, Try.ntmps114
  go_upto_region 2 with (fail)
  rw [← HW0.out]
  go_wp2_with (first
    | (refine load_row rfl 99 _ rfl w.heap.size rfl 99 (lotF c) _ HR.out Try.underlying99 rfl (by kernel_rfl) ?_))
  refine (HLI.out _).mono ?_
  rintro e u ⟨p, rfl, hin, hfr, hpn, hbu⟩
  obtain ⟨z1, hz1⟩ := later_of hbu
  subst hz1
  have HIN := Lib.hid hin
  clear hbu hin hfr hpn
  rw [HLN.out]
  go_wp2_with fail
  go_loopw [5, 15] (fun ps ix wr => ∃ i : Nat, i ≤ L.length ∧ ix = .int .i64 i ∧ wr.ownsRow z1.w.heap.size 69 2 ps (pairsTo (nearK b k) L i).length (prA (pairsTo (nearK b k) L i)) ∧ ∃ x : Later z1.w, wr = x.w) (fun _ ix _ => L.length - (intOf ix).toNat)
  case atStart => exact ⟨0, by omega, rfl, World.ownsRow_nil _ _ _ _, ⟨z1.w, Below.refl _ _⟩, rfl⟩
  case round =>
    obtain ⟨i, hii, rfl, hown, x, rfl⟩ := hrel
    have HO := Lib.hid hown
    clear hown
    by_cases hlt : i < L.length
    · obtain ⟨q, o, hp, h0⟩ := HIN.out i (by rw [HLN.out]; exact hlt)
      subst hp
      rw [intsN_at hlt] at h0
      have HDR := Lib.hid (HIN.out.drop (i + 1))
      have HDL := Lib.hid (show ((intsN L).drop (i + 1)).length = L.length - (i + 1) by rw [List.length_drop, HLN.out])
      have HM1 := Lib.hid (HMEM.out i hlt)
      have HSU := Lib.hid (pairsTo_succ (nearK b k) L i)
      have HPL := Lib.hid (pairsTo_le (nearK b k) L hl7 i)
      have i1 : (0 : Int) ≤ (i : Int) := by omega
      have i2 : (i : Int) < (L.length : Int) := by omega
      have i3 : (i : Int) + 1 ≤ (L.length : Int) := by omega
      have HRW := Lib.hid (fun j (hj : j < (L.drop (i + 1)).length) => rowP_succ (nearK b k) L i hj)
      have HRL := Lib.hid (fun j => rowP_le (nearK b k) L i ((L.drop (i + 1)).take j))
      have HAT := Lib.hid (fun j (hj : i + 1 + j < L.length) => (show at0 ((intsN L).drop (i + 1)) j = ((((L.drop (i + 1)).getD j 0 : Nat)) : Int) ∧ (L.drop (i + 1)).getD j 0 < b.lots.length by
        have e : (L.drop (i + 1)).getD j 0 = L.getD (i + 1 + j) 0 := by simp [List.getD]
        rw [e]
        refine ⟨?_, HMEM.out _ hj⟩
        rw [← intsN_at hj]
        simp [at0, List.getD]))
      have HDN := Lib.hid (show (L.drop (i + 1)).length = L.length - (i + 1) from List.length_drop)
      have HTA := Lib.hid (show (L.drop (i + 1)).take (L.length - (i + 1)) = L.drop (i + 1) from List.take_of_length_le (by rw [List.length_drop]; omega))
      have HW := Lib.hid (fun j (x' : Later z1.w) (hj : j < b.lots.length) => near_any b P mb k (L.getD i 0) j HM1.out hj x'.w (HK.out.below (z1.b.trans (x'.b.mono z1.b.size))))
      have hT0 := HO.out
      rw [show pairsTo (nearK b k) L i = pairsTo (nearK b k) L i ++ rowP (nearK b k) L i ((L.drop (i + 1)).take 0) by simp [rowP]] at hT0
      have HT0 := Lib.hid hT0
      clear hT0
      generalize L.drop (i + 1) = M at *
      generalize (intsN L).drop (i + 1) = MI at *
      generalize L.getD i 0 = li at *
      clear HO
      by_cases hic : i + 1 = L.length
      · have hic2 : ((L.length : Nat) : Int) = (i : Int) + 1 := by omega
        have HM0 := Lib.hid (show M.take 0 = M by rw [List.eq_nil_of_length_eq_zero (show M.length = 0 by have := HDN.out; omega)]; rfl)
        rw [HM0.out] at HT0
        clear HDR HAT HRW
        go_wp2_with fail
        go_loopw [5, 25] (fun ps jx wr => jx = .int .i64 0 ∧ wr.ownsRow z1.w.heap.size 69 2 ps (pairsTo (nearK b k) L i ++ rowP (nearK b k) L i M).length (prA (pairsTo (nearK b k) L i ++ rowP (nearK b k) L i M)) ∧ ∃ x : Later z1.w, wr = x.w) (fun _ _ _ => 0)
        case atStart => exact ⟨rfl, HT0.out, x, rfl⟩
        case round =>
          obtain ⟨rfl, hown, y, rfl⟩ := hrel
          have HO := Lib.hid hown
          clear hown
          go_wp2_with fail
          go_roundw
          case rel => exact ⟨i + 1, by omega, by go_num, by rw [HSU.out]; exact HO.out, y, rfl⟩
          case measure => simp [intOf]; omega
      · have hic2 : ¬ ((L.length : Nat) : Int) = (i : Int) + 1 := by omega
        go_wp2_with fail
        go_loopw [5, 25] (fun ps jx wr => ∃ j : Nat, j ≤ L.length - (i + 1) ∧ jx = .int .i64 j ∧ wr.ownsRow z1.w.heap.size 69 2 ps (pairsTo (nearK b k) L i ++ rowP (nearK b k) L i (M.take j)).length (prA (pairsTo (nearK b k) L i ++ rowP (nearK b k) L i (M.take j))) ∧ ∃ x : Later z1.w, wr = x.w) (fun _ jx _ => L.length - (i + 1) - (intOf jx).toNat)
        case atStart => exact ⟨0, by omega, rfl, HT0.out, x, rfl⟩
        case round =>
          clear HT0 h0
          obtain ⟨j, hj, rfl, hown, y, rfl⟩ := hrel
          have HO := Lib.hid hown
          clear hown
          by_cases hlj : j < L.length - (i + 1)
          · obtain ⟨q', o', e', hc'⟩ := HDR.out j (by rw [HDL.out]; exact hlj)
            cases e'
            have hat := HAT.out j (by omega)
            rw [hat.1] at hc'
            have HR2 := Lib.hid (show pairsTo (nearK b k) L i ++ rowP (nearK b k) L i (M.take (j + 1)) = if nearK b k li (M.getD j 0) then (pairsTo (nearK b k) L i ++ rowP (nearK b k) L i (M.take j)) ++ [(li, M.getD j 0)] else pairsTo (nearK b k) L i ++ rowP (nearK b k) L i (M.take j) by
              rw [HRW.out j (by rw [HDN.out]; exact hlj)]
              split
              · rw [List.append_assoc]
              · rfl)
            have hlb := hat.2
            have hle := HRL.out j
            have hle2 := HPL.out
            have hle3 : (M.take j).length ≤ 7 := by rw [List.length_take, HDN.out]; omega
            have j1 : (0 : Int) ≤ (j : Int) := by omega
            have j2 : (j : Int) < ((L.length - (i + 1) : Nat) : Int) := by omega
            clear hat
            generalize M.getD j 0 = lj at *
            have HN := Lib.hid (HW.out lj y hlb)
            have HLEN := Lib.hid (show (pairsTo (nearK b k) L i ++ rowP (nearK b k) L i (M.take j)).length ≤ 100 by rw [List.length_append]; omega)
            clear hle hle2 hle3 hlb
            generalize pairsTo (nearK b k) L i ++ rowP (nearK b k) L i (M.take j) = PP at *
            have hz1 := z1.b.size
            have hzy := y.b.size
            go_wp2_with fail
            refine HN.out.mono ?_
            rintro e u ⟨rfl, hbu⟩
            have HO2 := Lib.hid (owns_below HO.out hbu)
            obtain ⟨y2, hy⟩ := y.on hbu
            subst hy
            have hzy2 := hbu.size
            clear hbu HO
            cases hn : nearK b k li lj
            · rw [hn, if_neg (by decide)] at HR2
              clear hn
              go_wp2_with fail
              go_roundw
              case rel => exact ⟨j + 1, by omega, by go_num, by rw [HR2.out]; exact HO2.out, y2, rfl⟩
              case measure => simp [intOf]; omega
            · rw [hn, if_pos rfl] at HR2
              clear hn
              have HO3 := Lib.hid HO2.out
              have HLN2 := HLEN.out
              go_wp2_with (first
                | (at_builtin; (refine wpList_append_own _ rfl _ _ 46 rfl z1.w.heap.size 69 i0 (.agg #[.int .i64 0, .int .i64 0]) 2 16 Try.underlying46 hi hi0 hi1 hi2 rfl (by decide) _ _ _ rfl (HO2.out.alloc _) ⟨y2.w.heap.size, 0, none⟩ 1 1 [.int .i64 (li : Int), .int .i64 (lj : Int)] rfl rfl (cell_two_new _ _ _ _) (by simp [Value.oneCell']) (by unfold maxLen; omega) (by omega) (by simp; omega) ?_); intro v' w2 hown' hgrow _; have HO := Lib.hid hown'; have hg2 : Below z1.w.heap.size y2.w w2 := ((Below.refl _ _).alloc (by omega) _).grown hgrow (by simp; omega) (fun k hk => (HO3.out.lt k hk).1); have HG := Lib.hid hg2; clear hg2 hown' hgrow))
              obtain ⟨z, hz⟩ := later_of (y2.b.trans HG.out)
              subst hz
              go_roundw
              case rel => exact ⟨j + 1, by omega, by go_num, by rw [HR2.out, prA_snoc]; simpa using HO.out, z, rfl⟩
              case measure => simp [intOf]; omega
          · obtain rfl : j = L.length - (i + 1) := by omega
            go_wp2_with fail
            go_roundw
            case rel => exact ⟨i + 1, by omega, by go_num, by rw [HSU.out]; have h := HO.out; rw [HTA.out] at h; exact h, y, rfl⟩
            case measure => simp [intOf]; omega
    · obtain rfl : i = L.length := by omega
      obtain ⟨p', c', rfl, hpr, hle, hcm, hpn, hp3⟩ := pairs_of_owns HO.out
      have HPR := Lib.hid hpr
      have HPN := Lib.hid hpn
      have HEX := Lib.hid ((z1.fr.trans x.fr).b)
      clear hpr hpn
      generalize pairsTo (nearK b k) L L.length = PP at *
      have j1 : (PP.length : Int) ≤ (c' : Int) := by omega
      have j3 : (0 : Int) ≤ (PP.length : Int) := by omega
      rcases hp3 with rfl | ⟨g, rfl⟩
      · go_wp2
        go_ret
        exact ⟨none, by simp, HPR.out, fun _ _ h => (by cases h), HE.out.trans (HEX.out.mono HE.out.size)⟩
      · go_wp2
        go_ret
        exact ⟨some ⟨g, 0, none⟩, by simp, HPR.out, fun m o h => (by have h1 := HPN.out m o h; have h2 := z1.b.size; have h3 := HE.out.size; omega), HE.out.trans (HEX.out.mono HE.out.size)⟩
theorem goods_take (b : Yb) (k : Bool) (L : List Nat) {i : Nat} (h : i < L.length) : (L.take (i + 1)).map (fun j => roomK k (lotAt b j)) = (L.take i).map (fun j => roomK k (lotAt b j)) ++ [roomK k (lotAt b (L.getD i 0))] := by
  rw [List.take_succ_eq_append_getElem h, List.map_append]
  simp [List.getD, h]
theorem room_range {b : Yb} (hb : YbOk b) {i : Nat} (h : i < b.lots.length) (k : Bool) : 0 ≤ roomK k (lotAt b i) ∧ roomK k (lotAt b i) ≤ 99 := by
  have := (lotB_iff.1 (lotAt_ok hb h)).2
  cases k <;> simp only [roomK] <;> simp <;> omega
theorem append_num_ex (w : World) (base : Nat) (hbase : base ≤ w.heap.size) (v : Value) (l : List Int) (n : Nat) (hl : l.length = n) (hown : w.ownsRow base 3 1 v n (l.map (Value.int .i64))) (z : Nat) (x : Int) (hz : ∀ j u, [Value.int .i64 x][j]? = some u → w.cell? ((⟨z, 0, none⟩ : Addr).add j) = some u) (hn : n ≤ 1000) (ty : TypeId) :
    ∃ v' w', (Builtin.append_ #[27, 27] ty #[v, .slice (some ⟨z, 0, none⟩) 1 1]).run Try.prog w = .ok v' w' ∧ (w'.ownsRow base 3 1 v' (n + 1) ((l ++ [x]).map (Value.int .i64)) ∧ Below base w w') := by
  obtain ⟨i0, hi, hi0, hi1, hi2⟩ := info_parts Try.infoInt
  obtain ⟨v', w', hr, ho, hg, _⟩ := run_append_own (P := Try.prog) w base 27 ty 3 i0 _ 1 8 Try.underlying27 hi hi0 hi1 hi2 rfl (by decide) v n (l.map (Value.int .i64)) hown ⟨z, 0, none⟩ 1 1 [.int .i64 x] rfl hz (by simp [Value.oneCell']) (by unfold maxLen; omega) (by omega) hbase
  exact ⟨v', w', hr, by simpa using ho, (Below.refl base w).grown hg hbase (fun k hk => (hown.lt k hk).1)⟩
theorem list_get {L : List Int} {w : World} {p : Option Addr} (h : IntsAt w p L) {i : Nat} (hi : i < L.length) : ∃ q o, p = some ⟨q, o, none⟩ ∧ w.cell? ⟨q, o + i, none⟩ = some (.int .i64 (at0 L i)) := h i hi
set_option maxRecDepth 10000 in
set_option maxHeartbeats 1600000 in
theorem goods_any (b : Yb) (P : Yp) (mb : Nat) (k : Bool) (c : Nat → Bool) (hcl : ∀ i, i < 7 → c i = true → i < b.lots.length) (w : World) (hK : YkAt w P mb b) :
    Calls Try.prog 106 #[.agg (trA b P mb k), .agg (lotF c)] w fun e w' => e = .returned (.int .i64 (goodsK b k c)) ∧ Below w.heap.size w w' := by
  obtain ⟨i0, hi, hi0, hi1, hi2⟩ := info_parts Try.infoInt
  obtain ⟨W0, hW0⟩ : ∃ W, W = (w.alloc (.cells (trA b P mb k) 89)).alloc (.cells (lotF c) 99) := ⟨_, rfl⟩
  have HW0 := Lib.hid hW0
  have HE := Lib.hid (show Below w.heap.size w W0 by rw [hW0]; exact below_alloc2 _ _ _)
  have HT := Lib.hid (show Row W0 w.heap.size (trA b P mb k) 89 by rw [hW0]; exact (Row.new w _ _).alloc _)
  have HR := Lib.hid (show Row W0 (w.heap.size + 1) (lotF c) 99 by rw [hW0]; exact Row.new1 w _ _ _)
  clear hW0
  have HK := Lib.hid (hK.below HE.out)
  clear hK
  have hl7 := lotsL_le c
  have HMEM := Lib.hid (fun i (h : i < (lotsL c).length) => (show (lotsL c).getD i 0 < b.lots.length by
    have e : (lotsL c).getD i 0 = (lotsL c)[i] := by simp [List.getD, h]
    rw [e]
    obtain ⟨h1, h2⟩ := lotsL_mem.1 (List.getElem_mem h)
    exact hcl _ h1 h2))
  have HLI := Lib.hid (fun w' => list_any c w')
  rw [show goodsK b k c = ((lotsL c).map fun i => roomK k (lotAt b i)).sum from rfl]
  have hln := intsN_length (lotsL c)
  generalize lotsL c = L at *
  have HLN := Lib.hid hln
  clear hln hcl
  go_enter Try.func106, Try.ntmps106
  go_upto_region 2 with (fail)
  rw [← HW0.out]
  go_wp2_with (first
    | (refine load_row rfl 99 _ rfl (w.heap.size + 1) rfl 99 (lotF c) _ HR.out Try.underlying99 rfl (by kernel_rfl) ?_))
  refine (HLI.out _).mono ?_
  rintro e u ⟨p, rfl, hin, hfr, hpn, hbu⟩
  obtain ⟨z1, hz1⟩ := later_of hbu
  subst hz1
  have HIN := Lib.hid hin
  have HT1 := Lib.hid (HT.out.below z1.b HT.out.lt)
  have HK1 := Lib.hid (HK.out.below z1.b)
  clear hbu hin hfr hpn
  rw [HLN.out]
  go_wp2_with fail
  go_loopw [5, 11] (fun gs ix wr => ∃ i : Nat, i ≤ L.length ∧ ix = .int .i64 i ∧ wr.ownsRow z1.w.heap.size 3 1 gs ((L.take i).map (fun j => roomK k (lotAt b j))).length (((L.take i).map (fun j => roomK k (lotAt b j))).map (Value.int .i64)) ∧ ∃ x : Later z1.w, wr = x.w) (fun _ ix _ => L.length - (intOf ix).toNat)
  case atStart => exact ⟨0, by omega, rfl, World.ownsRow_nil _ _ _ _, ⟨z1.w, Below.refl _ _⟩, rfl⟩
  case round =>
    obtain ⟨i, hii, rfl, hown, x, rfl⟩ := hrel
    have HO := Lib.hid hown
    clear hown
    by_cases hlt : i < L.length
    · obtain ⟨q, o, hp, h0⟩ := HIN.out i (by rw [HLN.out]; exact hlt)
      subst hp
      rw [intsN_at hlt] at h0
      have hm := HMEM.out i hlt
      have HGT := Lib.hid (goods_take b k L hlt)
      have hgl : ((L.take i).map (fun j => roomK k (lotAt b j))).length ≤ 7 := by rw [List.length_map, List.length_take]; omega
      have i1 : (0 : Int) ≤ (i : Int) := by omega
      have i2 : (i : Int) < (L.length : Int) := by omega
      generalize L.getD i 0 = li at *
      generalize (L.take i).map (fun j => roomK k (lotAt b j)) = gl at *
      obtain ⟨q2, o2, hp2, _, _, l2, l3⟩ := HK1.out.y.l.at hm
      have HRM := Lib.hid (show roomK k (lotAt b li) = if k then (lotAt b li).hi else (lotAt b li).lo from rfl)
      generalize (lotAt b li).lo = lo at *
      generalize (lotAt b li).hi = hi' at *
      have j1 : (0 : Int) ≤ (li : Int) := by omega
      have j2 : (li : Int) < (b.lots.length : Int) := by omega
      have c0 := HT1.out.cell 0 (v := .slice P.pl b.lots.length P.cl) rfl
      rw [hp2] at c0
      have HO3 := Lib.hid HO.out
      have hz1 := z1.b.size
      have hzx := x.b.size
      obtain ⟨rm, hrm⟩ : ∃ rm, roomK k (lotAt b li) = rm := ⟨_, rfl⟩
      have HRM2 := Lib.hid hrm
      rw [hrm] at HGT HRM
      clear hrm
      have HHP2 := Lib.hid hp2
      clear hp2
      cases k
      · have c11 := HT1.out.cell 11 (v := .func (.func 102) #[] #[]) rfl
        have hrr := HRM.out.symm
        simp only [if_false, Bool.false_eq_true] at hrr
        subst hrr
        go_upto_region 5 with (fail)
        have KI := Lib.hid x.fr
        have KV := Lib.hid (From.refl x.w)
        have HSS := Lib.hid (fun w' (kk : From z1.w w') => (⟨kk.cell c0, kk.cell c11, kk.cell l2, kk.cell l3⟩ : w'.cell? ⟨w.heap.size, 0, none⟩ = some (.slice (some ⟨q2, o2, none⟩) b.lots.length P.cl) ∧ w'.cell? ⟨w.heap.size, 11, none⟩ = some (.func (.func 102) #[] #[]) ∧ w'.cell? ⟨q2, o2 + li * 4 + 2, none⟩ = some (.int .i64 lo) ∧ w'.cell? ⟨q2, o2 + li * 4 + 3, none⟩ = some (.int .i64 hi')))
        clear c0 c11 l2 l3 h0
        go_region_held3 (fun w' => w'.cell? ⟨w.heap.size, 0, none⟩ = some (.slice (some ⟨q2, o2, none⟩) b.lots.length P.cl) ∧ w'.cell? ⟨w.heap.size, 11, none⟩ = some (.func (.func 102) #[] #[]) ∧ w'.cell? ⟨q2, o2 + li * 4 + 2, none⟩ = some (.int .i64 lo) ∧ w'.cell? ⟨q2, o2 + li * 4 + 3, none⟩ = some (.int .i64 hi'))
          (first | with_reducible exact HSS.out _ KI.out | with_reducible exact HSS.out _ KI.out.drew | with_reducible exact HSS.out _ (KI.out.below (below_alloc _ _)) | with_reducible exact HSS.out _ (KI.out.below (below_alloc _ _)).drew)
          (first
            | (go_at_call 102; (with_reducible refine (low_any _ _ _).mono ?_); rintro e u ⟨rfl, hbu⟩; have KI := Lib.hid (by first | with_reducible exact KI.out.drew.below hbu | with_reducible exact KI.out.below hbu); have KV := Lib.hid (by first | with_reducible exact KV.out.drew.below hbu | with_reducible exact KV.out.below hbu); clear hbu)
            | (refine step_append_ex rfl _ _ _ rfl _ _ rfl rfl _ (append_num_ex _ z1.w.heap.size (by simp; have := KI.out.b.size; omega) _ gl gl.length rfl (owns_below HO.out (KV.out.below (below_alloc _ _)).b) _ _ (cell_one_new _ _ _) (by omega) _) ?_; rintro v' w9 ⟨ho, hb⟩; have HO4 := Lib.hid ho; have KI := Lib.hid (show From z1.w w9 from ⟨(KI.out.below (below_alloc _ _)).b.trans hb⟩); clear ho hb))
        all_goals
          obtain ⟨x3, hx3⟩ := later_of KI.out.b
          subst hx3
          clear KI KV HSS
          go_wp2_with fail
          go_roundw
          case rel => exact ⟨i + 1, by omega, by simp, by rw [HGT.out]; simpa using HO4.out, x3, rfl⟩
          case measure => simp [intOf]; omega
      · have c11 := HT1.out.cell 11 (v := .func (.func 103) #[] #[]) rfl
        have hrr := HRM.out.symm
        simp only [if_true] at hrr
        subst hrr
        go_upto_region 5 with (fail)
        have KI := Lib.hid x.fr
        have KV := Lib.hid (From.refl x.w)
        have HSS := Lib.hid (fun w' (kk : From z1.w w') => (⟨kk.cell c0, kk.cell c11, kk.cell l2, kk.cell l3⟩ : w'.cell? ⟨w.heap.size, 0, none⟩ = some (.slice (some ⟨q2, o2, none⟩) b.lots.length P.cl) ∧ w'.cell? ⟨w.heap.size, 11, none⟩ = some (.func (.func 103) #[] #[]) ∧ w'.cell? ⟨q2, o2 + li * 4 + 2, none⟩ = some (.int .i64 lo) ∧ w'.cell? ⟨q2, o2 + li * 4 + 3, none⟩ = some (.int .i64 hi')))
        clear c0 c11 l2 l3 h0
        go_region_held3 (fun w' => w'.cell? ⟨w.heap.size, 0, none⟩ = some (.slice (some ⟨q2, o2, none⟩) b.lots.length P.cl) ∧ w'.cell? ⟨w.heap.size, 11, none⟩ = some (.func (.func 103) #[] #[]) ∧ w'.cell? ⟨q2, o2 + li * 4 + 2, none⟩ = some (.int .i64 lo) ∧ w'.cell? ⟨q2, o2 + li * 4 + 3, none⟩ = some (.int .i64 hi'))
          (first | with_reducible exact HSS.out _ KI.out | with_reducible exact HSS.out _ KI.out.drew | with_reducible exact HSS.out _ (KI.out.below (below_alloc _ _)) | with_reducible exact HSS.out _ (KI.out.below (below_alloc _ _)).drew)
          (first
            | (go_at_call 103; (with_reducible refine (high_any _ _ _).mono ?_); rintro e u ⟨rfl, hbu⟩; have KI := Lib.hid (by first | with_reducible exact KI.out.drew.below hbu | with_reducible exact KI.out.below hbu); have KV := Lib.hid (by first | with_reducible exact KV.out.drew.below hbu | with_reducible exact KV.out.below hbu); clear hbu)
            | (refine step_append_ex rfl _ _ _ rfl _ _ rfl rfl _ (append_num_ex _ z1.w.heap.size (by simp; have := KI.out.b.size; omega) _ gl gl.length rfl (owns_below HO.out (KV.out.below (below_alloc _ _)).b) _ _ (cell_one_new _ _ _) (by omega) _) ?_; rintro v' w9 ⟨ho, hb⟩; have HO4 := Lib.hid ho; have KI := Lib.hid (show From z1.w w9 from ⟨(KI.out.below (below_alloc _ _)).b.trans hb⟩); clear ho hb))
        all_goals
          obtain ⟨x3, hx3⟩ := later_of KI.out.b
          subst hx3
          clear KI KV HSS
          go_wp2_with fail
          go_roundw
          case rel => exact ⟨i + 1, by omega, by simp, by rw [HGT.out]; simpa using HO4.out, x3, rfl⟩
          case measure => simp [intOf]; omega
    · obtain rfl : i = L.length := by omega
      have hown := HO.out
      rw [List.take_length] at hown
      obtain ⟨p', c', rfl, hints, _, _, _, _, _⟩ := ints_of_owns2 hown
      have HLM := Lib.hid (show ((L.map fun j => roomK k (lotAt b j))).length ≤ 100 by rw [List.length_map]; omega)
      have HRG := Lib.hid (show ∀ v ∈ (L.map fun j => roomK k (lotAt b j)), 0 ≤ v ∧ v ≤ 100000 by
        intro v hv
        obtain ⟨j, hj, rfl⟩ := List.mem_map.1 hv
        obtain ⟨n, hn, e⟩ := List.mem_iff_getElem.1 hj
        have hm := HMEM.out n hn
        rw [show L.getD n 0 = j by simp [List.getD, hn, e]] at hm
        have := room_range HK.out.ok hm k
        omega)
      have HSM := Lib.hid (sum_any p' c' _ x.w hints HLM.out HRG.out)
      have HEX := Lib.hid ((z1.fr.trans x.fr).b)
      clear hints hown HO
      obtain ⟨G, hG⟩ : ∃ G, (L.map fun j => roomK k (lotAt b j)) = G := ⟨_, rfl⟩
      have HGG := Lib.hid hG
      rw [hG] at HSM HLM HRG ⊢
      clear hG
      go_wp2_with fail
      refine HSM.out.mono ?_
      rintro e u ⟨rfl, rfl⟩
      go_wp2_with fail
      go_ret
      exact ⟨by rw [HGG.out]; rfl, HE.out.trans (HEX.out.mono HE.out.size)⟩
end Go.Proofs.Ytajkgfeockcbpaa
