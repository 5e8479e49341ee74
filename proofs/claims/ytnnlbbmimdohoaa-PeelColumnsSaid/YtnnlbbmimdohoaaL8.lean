/- The law's own helper of layer 1: which columns hold a knot, where it is known where each knot lies. -/
import Derived.Test.YtnnlbbmimdohoaaL7
import Derived.Test.YtnnlbbmimdohoaaP25
import Derived.Test.YtnnlbbmimdohoaaL5
namespace Go.Proofs.Ytnnlbbmimdohoaa
open Go.RowKit Go.Maps
attribute [local go_sem] Oper.semAt_some

theorem Try.infoBool : (Try.prog.info? 4).map (fun i => (i.zero, i.size, i.bytes)) = some (some (.bool false), 1, 1) := by kernel_rfl
theorem make_bools (n : Nat) (hn : n ≤ 1000) (w : World) : (Instr.makeSlice 47 (.int .i64 (n : Int)) (.int .i64 (n : Int))).run Try.prog w = .ok (.slice (some ⟨w.heap.size, 0, none⟩) n n) (w.alloc (.cells (boolsA (List.replicate n false)) 4)) := by
  have e : madeCells #[.bool false] n = boolsA (List.replicate n false) := by
    apply Array.ext
    · simp [madeCells, boolsA]
    · intro i h1 h2
      simp [madeCells, boolsA, Nat.mod_one]
  rw [run_make_row' 47 4 (.bool false) 1 Try.underlying47 Try.infoBool rfl .i64 .i64 n (by omega) (by omega) w, e]
/-- A knot in a row of columns. -/
def markK (len : Int) (i : Nat) (row : List Bool) (k : K4) : List Bool := if k.fl ≤ i then row.set (k.al * len / 24).toNat true else row
/-- All of them. -/
def rowK (ks : List K4) (len : Int) (i : Nat) : List Bool := ks.foldl (markK len i) (List.replicate len.toNat false)
theorem markK_length (len : Int) (i : Nat) (row : List Bool) (k : K4) : (markK len i row k).length = row.length := by
  unfold markK; split <;> simp
theorem foldK_length (len : Int) (i : Nat) : ∀ (ks : List K4) (row : List Bool), (ks.foldl (markK len i) row).length = row.length
  | [], _ => rfl
  | k :: ks, row => by rw [List.foldl_cons, foldK_length len i ks, markK_length]
theorem rowK_length (ks : List K4) (len : Int) (i : Nat) : (rowK ks len i).length = len.toNat := by rw [rowK, foldK_length, List.length_replicate]
theorem rowK_take {ks : List K4} {len : Int} {i q : Nat} (h : q < ks.length) : rowK (ks.take (q + 1)) len i = markK len i (rowK (ks.take q) len i) ks[q] := by
  rw [List.take_succ_eq_append_getElem h, rowK, List.foldl_append, rowK]; rfl
def knotsTo (long : List Int) (ks : List K4) (n : Nat) : List Bool := (List.range n).flatMap fun t => rowK ks (at0 long t) t
theorem knotsTo_succ (long : List Int) (ks : List K4) (n : Nat) : knotsTo long ks (n + 1) = knotsTo long ks n ++ rowK ks (at0 long n) n := by
  simp [knotsTo, List.range_succ, List.flatMap_append]
theorem knotsTo_length {long : List Int} (ks : List K4) (hL : LongOk long) : ∀ n, n ≤ long.length → ((knotsTo long ks n).length : Int) = psum long n
  | 0, _ => by simp [knotsTo, psum]
  | n + 1, h => by
    have := knotsTo_length ks hL n (by omega)
    have h1 := hL.lo n (by omega)
    rw [knotsTo_succ, List.length_append, rowK_length, psum_succ (by omega)]
    omega
theorem owns_set {w : World} {base e size : Nat} {v : Value} {n : Nat} {xs : List Value} (h : w.ownsRow base e size v n xs) (a : Addr) (u : Value) (hne : ∀ k, v.ownBlock = some k → k < a.block) : (w.setCell a u).ownsRow base e size v n xs := by
  refine ⟨h.1, ?_⟩
  rcases h.2 with h2 | ⟨g, cap, cur, hv, hg, hh, r⟩
  · exact .inl h2
  · refine .inr ⟨g, cap, cur, hv, hg, ?_, r⟩
    rw [Below.heap_setCell _ _ _ _ (by have := hne g (by rw [hv]; rfl); omega)]
    exact hh
theorem bools_of_owns {w : World} {base e : Nat} {v : Value} {xs : List Bool} (h : w.ownsRow base e 1 v xs.length (xs.map Value.bool)) :
    ∃ p c, v = .slice p xs.length c ∧ BoolsAt w p xs ∧ xs.length ≤ c := by
  rcases h.2 with ⟨hv, h0⟩ | ⟨g, cap, cur, hv, hg, hh, h1, h2, h3, h4⟩
  · exact ⟨none, 0, by rw [hv, h0], fun i hi => by omega, by omega⟩
  · refine ⟨_, cap, hv, fun i hi => ⟨g, 0, rfl, ?_⟩, h1⟩
    rw [cell_of_row w g (0 + i) cur e (0, 0) hh, Nat.zero_add]
    have : (cur.toList.take (xs.length * 1))[i]? = (xs.map Value.bool)[i]? := by rw [h4]
    rw [List.getElem?_take_of_lt (by omega)] at this
    simp only [Array.getElem?_toList] at this
    rw [this]
    simp [hi, b0]

set_option maxRecDepth 10000 in
set_option maxHeartbeats 1600000 in
theorem knots_any (p1 : Option Addr) (c1 : Nat) (p2 : Option Addr) (c2 : Nat) (long : List Int) (sz : Int) (ks : List K4) (w0 : World) (h : LogAt w0 p1 p2 long ks) (hb : validB long sz ks = true) :
    Calls Try.prog 40 #[.agg #[.slice p1 long.length c1, .int .i64 sz, .slice p2 ks.length c2]] w0 fun e w' => ∃ p c, e = .returned (.slice p (knotsTo long ks long.length).length c) ∧ BoolsAt w' p (knotsTo long ks long.length) ∧ Below w0.heap.size w0 w' := by
  have hok := valid_ok hb
  have hL := hok.L
  have hk3 := hok.k3
  have hn6 := hL.n6
  have HH := Lib.hid h
  clear h
  obtain ⟨i0, hi, hi0, hi1, hi2⟩ := info_parts Try.infoBool
  go_enter Try.func40, Try.ntmps40
  have hba := below_alloc w0 (.cells #[.slice p1 long.length c1, .int .i64 sz, .slice p2 ks.length c2] 25)
  have r0 := Row.new w0 #[.slice p1 long.length c1, .int .i64 sz, .slice p2 ks.length c2] 25
  go_wp2
  go_loopw [3, 4] (fun v i wr => ∃ t : Nat, t ≤ long.length ∧ i = .int .i64 t ∧ wr.ownsRow (w0.heap.size + 1) 4 1 v (knotsTo long ks t).length ((knotsTo long ks t).map Value.bool) ∧ Row wr w0.heap.size #[.slice p1 long.length c1, .int .i64 sz, .slice p2 ks.length c2] 25 ∧ Below w0.heap.size w0 wr) (fun _ i _ => long.length - (intOf i).toNat)
  case atStart => exact ⟨0, by omega, rfl, World.ownsRow_nil _ _ _ _, r0, hba⟩
  case round =>
    obtain ⟨t, ht, rfl, hown, g0, gb⟩ := hrel
    have GR := Lib.hid g0
    have GB := Lib.hid gb
    have HO := Lib.hid hown
    have hz := g0.lt
    clear hown gb
    by_cases htl : t < long.length
    · obtain ⟨b, o, rfl, hcell⟩ := (HH.out.l.below GB.out) t htl
      have h1 := hL.lo t htl
      have h12 := hL.hi t htl
      obtain ⟨n, hn⟩ : ∃ n : Nat, at0 long t = n := ⟨(at0 long t).toNat, by omega⟩
      rw [hn] at hcell h1 h12
      have HN := Lib.hid hn
      clear hn
      have k0 := g0.cell 0 (v := .slice (some ⟨b, o, none⟩) long.length c1) rfl
      have hmk := make_bools n (by omega)
      clear g0
      go_wp2_with fail
      have R1 := Lib.hid (GR.out.alloc (.cells (boolsA (List.replicate n false)) 4))
      have B1 := Lib.hid (GB.out.alloc GB.out.size (.cells (boolsA (List.replicate n false)) 4))
      have Z1 := Lib.hid (Row.new wr (boolsA (List.replicate n false)) 4)
      have HOZ := Lib.hid (fun k hk => (HO.out.lt k hk).2 : ∀ k, u3.ownBlock = some k → k < wr.heap.size)
      have O1 := Lib.hid (HO.out.alloc (.cells (boolsA (List.replicate n false)) 4))
      clear GR GB HO hcell k0 hmk
      generalize wr.alloc (.cells (boolsA (List.replicate n false)) 4) = w1 at *
      generalize wr.heap.size = z at *
      go_loopw [6] (fun q wi => ∃ s : Nat, s ≤ ks.length ∧ q = .int .i64 s ∧ Row wi w0.heap.size #[.slice (some ⟨b, o, none⟩) long.length c1, .int .i64 sz, .slice p2 ks.length c2] 25 ∧ Row wi z (boolsA (rowK (ks.take s) n t)) 4 ∧ Below w0.heap.size w0 wi ∧ wi.ownsRow (w0.heap.size + 1) 4 1 u3 (knotsTo long ks t).length ((knotsTo long ks t).map Value.bool)) (fun q _ => ks.length - (intOf q).toNat)
      case atStart => exact ⟨0, by omega, rfl, R1.out, by rw [List.take_zero, rowK, List.foldl_nil, Int.toNat_natCast]; exact Z1.out, B1.out, O1.out⟩
      case round =>
        obtain ⟨s, hs, rfl, g1, gz, gb1, go1⟩ := hrel
        clear R1 Z1 B1 O1
        have k0 := g1.cell 0 (v := .slice (some ⟨b, o, none⟩) long.length c1) rfl
        have k2 := g1.cell 2 (v := .slice p2 ks.length c2) rfl
        have G1 := Lib.hid g1
        have GZ := Lib.hid gz
        have GB1 := Lib.hid gb1
        have GO1 := Lib.hid go1
        clear g1 gz gb1 go1
        by_cases hsl : s < ks.length
        · obtain ⟨b2, o2, rfl, q0, q1, q2, q3⟩ := (HH.out.k.below GB1.out) s hsl
          have hko := hok.ok ks[s] (List.getElem_mem _)
          have HQ := Lib.hid (fun v hv => by
            obtain ⟨b5, o5, e5, q, _⟩ := (HH.out.k.below hv) s hsl
            obtain ⟨rfl, rfl⟩ : b2 = b5 ∧ o2 = o5 := by simpa using e5
            exact q : ∀ v, Below w0.heap.size w0 v → v.cell? ⟨b2, o2 + s * 4, none⟩ = some (.int .i64 ks[s].al))
          have HC := Lib.hid (fun v hv => by
            obtain ⟨b5, o5, e5, q⟩ := (HH.out.l.below hv) t htl
            obtain ⟨rfl, rfl⟩ : b = b5 ∧ o = o5 := by simpa using e5
            rw [HN.out] at q
            exact q : ∀ v, Below w0.heap.size w0 v → v.cell? ⟨b, o + t, none⟩ = some (.int .i64 n))
          have HZL := Lib.hid hz
          have hst := rowK_take (len := n) (i := t) hsl
          generalize ks[s] = kk at *
          have HST := Lib.hid hst
          clear hst
          have ha0 := hko.a0
          have ha1 : kk.al ≤ 23 := by have := hko.a; have := hko.a1; omega
          by_cases hfl : kk.fl ≤ t
          · have hm0 : 0 ≤ kk.al * n := Int.mul_nonneg ha0 (by omega)
            have hm1 : kk.al * n ≤ 23 * n := Int.mul_le_mul_of_nonneg_right ha1 (by omega)
            obtain ⟨cN, hcN⟩ : ∃ cN : Nat, kk.al * n / 24 = cN := ⟨(kk.al * n / 24).toNat, by omega⟩
            have hcn : cN < n := by omega
            have hNEW : (boolsA (rowK (ks.take s) n t)).setIfInBounds cN (.bool true) = boolsA (rowK (ks.take (s + 1)) n t) := by rw [boolsA_set, HST.out, markK, if_pos hfl, hcN, Int.toNat_natCast]
            have HNEW := Lib.hid hNEW
            have hsz : (boolsA (rowK (ks.take s) n t)).size = n := by rw [boolsA_size, rowK_length, Int.toNat_natCast]
            obtain ⟨bb, hat⟩ : ∃ bb, (boolsA (rowK (ks.take s) n t))[cN]? = some (.bool bb) := ⟨_, boolsA_at (List.getElem?_eq_getElem (by rw [rowK_length, Int.toNat_natCast]; exact hcn))⟩
            generalize boolsA (rowK (ks.take s) n t) = OLD at *
            clear hNEW HST
            go_wp2_with fail
            refine region_inv rfl (by kernel_rfl) (fun L a v => ∃ x : Nat → Value, a = { tmps := #[.agg #[.slice (some ⟨b, o, none⟩) long.length c1, .int .i64 sz, .slice (some ⟨b2, o2, none⟩) ks.length c2], .pointer (some ⟨w0.heap.size, 0, none⟩), .slice none 0 0, u3, .int .i64 (t : Int), .slice (some ⟨z, 0, none⟩) n n, .int .i64 (s : Int), .int .i64 (t : Int), .pointer (some ⟨w0.heap.size, 0, none⟩), .slice (some ⟨b, o, none⟩) long.length c1, .int .i64 (long.length : Int), .bool true, u12, u13, .pointer (some ⟨w0.heap.size, 0, none⟩), .slice (some ⟨b, o, none⟩) long.length c1, .int .i64 (t : Int), .pointer (some ⟨b, o + t, none⟩), .int .i64 (n : Int), .slice (some ⟨z, 0, none⟩) n n, .int .i64 (s : Int), .pointer (some ⟨w0.heap.size, 2, none⟩), .slice (some ⟨b2, o2, none⟩) ks.length c2, .int .i64 (ks.length : Int), .bool true, u25, u26, .pointer (some ⟨w0.heap.size, 2, none⟩), .slice (some ⟨b2, o2, none⟩) ks.length c2, .int .i64 (s : Int), .pointer (some ⟨b2, o2 + s * 4, none⟩), .pointer (some ⟨b2, o2 + s * 4 + 2, none⟩), .pointer (some ⟨b2, o2 + s * 4 + 2, none⟩), .int .i64 (kk.fl), .int .i64 (t : Int), .bool true, x 36, x 37, x 38, x 39, x 40, x 41, x 42, x 43, x 44, x 45, x 46, x 47, x 48, x 49, x 50, x 51, u52, u53, u54, undef], defers := [] } ∧ Hid (L 0 = true → x 36 = .slice (some ⟨z, 0, none⟩) n n) ∧ Hid (L 1 = true → x 37 = .pointer (some ⟨w0.heap.size, 2, none⟩)) ∧ Hid (L 2 = true → x 38 = .slice (some ⟨b2, o2, none⟩) ks.length c2) ∧ Hid (L 3 = true → x 39 = .int .i64 (s : Int)) ∧ Hid (L 4 = true → x 40 = .pointer (some ⟨b2, o2 + s * 4, none⟩)) ∧ Hid (L 5 = true → x 41 = .pointer (some ⟨b2, o2 + s * 4, none⟩)) ∧ Hid (L 6 = true → x 42 = .pointer (some ⟨b2, o2 + s * 4, none⟩)) ∧ Hid (L 7 = true → x 43 = .int .i64 (kk.al)) ∧ Hid (L 8 = true → x 44 = .pointer (some ⟨w0.heap.size, 0, none⟩)) ∧ Hid (L 9 = true → x 45 = .slice (some ⟨b, o, none⟩) long.length c1) ∧ Hid (L 10 = true → x 46 = .int .i64 (t : Int)) ∧ Hid (L 11 = true → x 47 = .pointer (some ⟨b, o + t, none⟩)) ∧ Hid (L 12 = true → x 48 = .int .i64 (n : Int)) ∧ Hid (L 13 = true → x 49 = .int .i64 (kk.al * n)) ∧ Hid (L 14 = true → x 50 = .int .i64 (cN : Int)) ∧ Hid (L 15 = true → x 51 = .pointer (some ⟨z, cN, none⟩)) ∧ Hid (Row v w0.heap.size #[.slice (some ⟨b, o, none⟩) long.length c1, .int .i64 sz, .slice (some ⟨b2, o2, none⟩) ks.length c2] 25) ∧ Hid (L 16 = false → Row v z OLD 4) ∧ Hid (L 16 = true → Row v z (boolsA (rowK (ks.take (s + 1)) n t)) 4) ∧ Hid (Below w0.heap.size w0 v) ∧ Hid (v.ownsRow (w0.heap.size + 1) 4 1 u3 (knotsTo long ks t).length ((knotsTo long ks t).map Value.bool))) ?h0 ?steps ?hd
            case h0 => exact ⟨fun i => if i = 36 then u36 else if i = 37 then u37 else if i = 38 then u38 else if i = 39 then u39 else if i = 40 then u40 else if i = 41 then u41 else if i = 42 then u42 else if i = 43 then u43 else if i = 44 then u44 else if i = 45 then u45 else if i = 46 then u46 else if i = 47 then u47 else if i = 48 then u48 else if i = 49 then u49 else if i = 50 then u50 else if i = 51 then u51 else undef, rfl, Lib.hid nofun, Lib.hid nofun, Lib.hid nofun, Lib.hid nofun, Lib.hid nofun, Lib.hid nofun, Lib.hid nofun, Lib.hid nofun, Lib.hid nofun, Lib.hid nofun, Lib.hid nofun, Lib.hid nofun, Lib.hid nofun, Lib.hid nofun, Lib.hid nofun, Lib.hid nofun, Lib.hid (G1.out.drew), Lib.hid (fun _ => GZ.out.drew), Lib.hid (nofun), Lib.hid (GB1.out.drew), Lib.hid (owns_same GO1.out (fun _ _ _ => rfl))⟩
            case hd =>
              rintro L a v hL ⟨x, rfl, hI⟩
              have HIV := Lib.hid hI
              clear hI
              have RR := Lib.hid (HIV.out.2.2.2.2.2.2.2.2.2.2.2.2.2.2.2.2.1).out
              have RZ := Lib.hid ((HIV.out.2.2.2.2.2.2.2.2.2.2.2.2.2.2.2.2.2.2.1).out (hL 16 (by decide)))
              have RB := Lib.hid (HIV.out.2.2.2.2.2.2.2.2.2.2.2.2.2.2.2.2.2.2.2.1).out
              have RO := Lib.hid (HIV.out.2.2.2.2.2.2.2.2.2.2.2.2.2.2.2.2.2.2.2.2).out
              clear hL HIV
              go_wp2_with fail
              exact ⟨⟨s + 1, by omega, by congr 1, RR.out, RZ.out, RB.out, RO.out⟩, by simp [intOf]; omega⟩
            case steps =>
              refine ⟨?_, ?_, ?_, ?_, ?_, ?_, ?_, ?_, ?_, ?_, ?_, ?_, ?_, ?_, ?_, ?_, ?_, trivial⟩
              · rintro L a v hL hk ⟨x, rfl, hI⟩ K hK
                have HK0 := Lib.hid hK
                clear hK
                have HIV := Lib.hid hI
                clear hI
                clear hL
                clear hk
                go_wp2
                exact HK0.out _ _ ⟨fun i => if i = 36 then .slice (some ⟨z, 0, none⟩) n n else x i, rfl, Lib.hid (fun _ => rfl), (HIV.out.2.1), (HIV.out.2.2.1), (HIV.out.2.2.2.1), (HIV.out.2.2.2.2.1), (HIV.out.2.2.2.2.2.1), (HIV.out.2.2.2.2.2.2.1), (HIV.out.2.2.2.2.2.2.2.1), (HIV.out.2.2.2.2.2.2.2.2.1), (HIV.out.2.2.2.2.2.2.2.2.2.1), (HIV.out.2.2.2.2.2.2.2.2.2.2.1), (HIV.out.2.2.2.2.2.2.2.2.2.2.2.1), (HIV.out.2.2.2.2.2.2.2.2.2.2.2.2.1), (HIV.out.2.2.2.2.2.2.2.2.2.2.2.2.2.1), (HIV.out.2.2.2.2.2.2.2.2.2.2.2.2.2.2.1), (HIV.out.2.2.2.2.2.2.2.2.2.2.2.2.2.2.2.1), (HIV.out.2.2.2.2.2.2.2.2.2.2.2.2.2.2.2.2.1), (HIV.out.2.2.2.2.2.2.2.2.2.2.2.2.2.2.2.2.2.1), (HIV.out.2.2.2.2.2.2.2.2.2.2.2.2.2.2.2.2.2.2.1), (HIV.out.2.2.2.2.2.2.2.2.2.2.2.2.2.2.2.2.2.2.2.1), (HIV.out.2.2.2.2.2.2.2.2.2.2.2.2.2.2.2.2.2.2.2.2)⟩
              · rintro L a v hL hk ⟨x, rfl, hI⟩ K hK
                have HK0 := Lib.hid hK
                clear hK
                have HIV := Lib.hid hI
                clear hI
                clear hL
                clear hk
                go_wp2
                exact HK0.out _ _ ⟨fun i => if i = 37 then .pointer (some ⟨w0.heap.size, 2, none⟩) else x i, rfl, (HIV.out.1), Lib.hid (fun _ => rfl), (HIV.out.2.2.1), (HIV.out.2.2.2.1), (HIV.out.2.2.2.2.1), (HIV.out.2.2.2.2.2.1), (HIV.out.2.2.2.2.2.2.1), (HIV.out.2.2.2.2.2.2.2.1), (HIV.out.2.2.2.2.2.2.2.2.1), (HIV.out.2.2.2.2.2.2.2.2.2.1), (HIV.out.2.2.2.2.2.2.2.2.2.2.1), (HIV.out.2.2.2.2.2.2.2.2.2.2.2.1), (HIV.out.2.2.2.2.2.2.2.2.2.2.2.2.1), (HIV.out.2.2.2.2.2.2.2.2.2.2.2.2.2.1), (HIV.out.2.2.2.2.2.2.2.2.2.2.2.2.2.2.1), (HIV.out.2.2.2.2.2.2.2.2.2.2.2.2.2.2.2.1), (HIV.out.2.2.2.2.2.2.2.2.2.2.2.2.2.2.2.2.1), (HIV.out.2.2.2.2.2.2.2.2.2.2.2.2.2.2.2.2.2.1), (HIV.out.2.2.2.2.2.2.2.2.2.2.2.2.2.2.2.2.2.2.1), (HIV.out.2.2.2.2.2.2.2.2.2.2.2.2.2.2.2.2.2.2.2.1), (HIV.out.2.2.2.2.2.2.2.2.2.2.2.2.2.2.2.2.2.2.2.2)⟩
              · rintro L a v hL hk ⟨x, rfl, hI⟩ K hK
                have HK0 := Lib.hid hK
                clear hK
                have HIV := Lib.hid hI
                clear hI
                rw [(HIV.out.2.1).out (after_on hL 1 rfl)]
                have cc2 := (HIV.out.2.2.2.2.2.2.2.2.2.2.2.2.2.2.2.2.1).out.cell 2 (v := .slice (some ⟨b2, o2, none⟩) ks.length c2) rfl
                clear hL
                clear hk
                go_wp2
                exact HK0.out _ _ ⟨fun i => if i = 37 then .pointer (some ⟨w0.heap.size, 2, none⟩) else if i = 38 then .slice (some ⟨b2, o2, none⟩) ks.length c2 else x i, rfl, (HIV.out.1), Lib.hid (fun _ => rfl), Lib.hid (fun _ => rfl), (HIV.out.2.2.2.1), (HIV.out.2.2.2.2.1), (HIV.out.2.2.2.2.2.1), (HIV.out.2.2.2.2.2.2.1), (HIV.out.2.2.2.2.2.2.2.1), (HIV.out.2.2.2.2.2.2.2.2.1), (HIV.out.2.2.2.2.2.2.2.2.2.1), (HIV.out.2.2.2.2.2.2.2.2.2.2.1), (HIV.out.2.2.2.2.2.2.2.2.2.2.2.1), (HIV.out.2.2.2.2.2.2.2.2.2.2.2.2.1), (HIV.out.2.2.2.2.2.2.2.2.2.2.2.2.2.1), (HIV.out.2.2.2.2.2.2.2.2.2.2.2.2.2.2.1), (HIV.out.2.2.2.2.2.2.2.2.2.2.2.2.2.2.2.1), (HIV.out.2.2.2.2.2.2.2.2.2.2.2.2.2.2.2.2.1), (HIV.out.2.2.2.2.2.2.2.2.2.2.2.2.2.2.2.2.2.1), (HIV.out.2.2.2.2.2.2.2.2.2.2.2.2.2.2.2.2.2.2.1), (HIV.out.2.2.2.2.2.2.2.2.2.2.2.2.2.2.2.2.2.2.2.1), (HIV.out.2.2.2.2.2.2.2.2.2.2.2.2.2.2.2.2.2.2.2.2)⟩
              · rintro L a v hL hk ⟨x, rfl, hI⟩ K hK
                have HK0 := Lib.hid hK
                clear hK
                have HIV := Lib.hid hI
                clear hI
                clear hL
                clear hk
                go_wp2
                exact HK0.out _ _ ⟨fun i => if i = 39 then .int .i64 (s : Int) else x i, rfl, (HIV.out.1), (HIV.out.2.1), (HIV.out.2.2.1), Lib.hid (fun _ => rfl), (HIV.out.2.2.2.2.1), (HIV.out.2.2.2.2.2.1), (HIV.out.2.2.2.2.2.2.1), (HIV.out.2.2.2.2.2.2.2.1), (HIV.out.2.2.2.2.2.2.2.2.1), (HIV.out.2.2.2.2.2.2.2.2.2.1), (HIV.out.2.2.2.2.2.2.2.2.2.2.1), (HIV.out.2.2.2.2.2.2.2.2.2.2.2.1), (HIV.out.2.2.2.2.2.2.2.2.2.2.2.2.1), (HIV.out.2.2.2.2.2.2.2.2.2.2.2.2.2.1), (HIV.out.2.2.2.2.2.2.2.2.2.2.2.2.2.2.1), (HIV.out.2.2.2.2.2.2.2.2.2.2.2.2.2.2.2.1), (HIV.out.2.2.2.2.2.2.2.2.2.2.2.2.2.2.2.2.1), (HIV.out.2.2.2.2.2.2.2.2.2.2.2.2.2.2.2.2.2.1), (HIV.out.2.2.2.2.2.2.2.2.2.2.2.2.2.2.2.2.2.2.1), (HIV.out.2.2.2.2.2.2.2.2.2.2.2.2.2.2.2.2.2.2.2.1), (HIV.out.2.2.2.2.2.2.2.2.2.2.2.2.2.2.2.2.2.2.2.2)⟩
              · rintro L a v hL hk ⟨x, rfl, hI⟩ K hK
                have HK0 := Lib.hid hK
                clear hK
                have HIV := Lib.hid hI
                clear hI
                rw [(HIV.out.2.2.1).out (after_on hL 2 rfl)]
                rw [(HIV.out.2.2.2.1).out (after_on hL 3 rfl)]
                clear hL
                clear hk
                go_wp2
                exact HK0.out _ _ ⟨fun i => if i = 38 then .slice (some ⟨b2, o2, none⟩) ks.length c2 else if i = 39 then .int .i64 (s : Int) else if i = 40 then .pointer (some ⟨b2, o2 + s * 4, none⟩) else x i, rfl, (HIV.out.1), (HIV.out.2.1), Lib.hid (fun _ => rfl), Lib.hid (fun _ => rfl), Lib.hid (fun _ => rfl), (HIV.out.2.2.2.2.2.1), (HIV.out.2.2.2.2.2.2.1), (HIV.out.2.2.2.2.2.2.2.1), (HIV.out.2.2.2.2.2.2.2.2.1), (HIV.out.2.2.2.2.2.2.2.2.2.1), (HIV.out.2.2.2.2.2.2.2.2.2.2.1), (HIV.out.2.2.2.2.2.2.2.2.2.2.2.1), (HIV.out.2.2.2.2.2.2.2.2.2.2.2.2.1), (HIV.out.2.2.2.2.2.2.2.2.2.2.2.2.2.1), (HIV.out.2.2.2.2.2.2.2.2.2.2.2.2.2.2.1), (HIV.out.2.2.2.2.2.2.2.2.2.2.2.2.2.2.2.1), (HIV.out.2.2.2.2.2.2.2.2.2.2.2.2.2.2.2.2.1), (HIV.out.2.2.2.2.2.2.2.2.2.2.2.2.2.2.2.2.2.1), (HIV.out.2.2.2.2.2.2.2.2.2.2.2.2.2.2.2.2.2.2.1), (HIV.out.2.2.2.2.2.2.2.2.2.2.2.2.2.2.2.2.2.2.2.1), (HIV.out.2.2.2.2.2.2.2.2.2.2.2.2.2.2.2.2.2.2.2.2)⟩
              · rintro L a v hL hk ⟨x, rfl, hI⟩ K hK
                have HK0 := Lib.hid hK
                clear hK
                have HIV := Lib.hid hI
                clear hI
                rw [(HIV.out.2.2.2.2.1).out (after_on hL 4 rfl)]
                clear hL
                clear hk
                go_wp2
                exact HK0.out _ _ ⟨fun i => if i = 40 then .pointer (some ⟨b2, o2 + s * 4, none⟩) else if i = 41 then .pointer (some ⟨b2, o2 + s * 4, none⟩) else x i, rfl, (HIV.out.1), (HIV.out.2.1), (HIV.out.2.2.1), (HIV.out.2.2.2.1), Lib.hid (fun _ => rfl), Lib.hid (fun _ => rfl), (HIV.out.2.2.2.2.2.2.1), (HIV.out.2.2.2.2.2.2.2.1), (HIV.out.2.2.2.2.2.2.2.2.1), (HIV.out.2.2.2.2.2.2.2.2.2.1), (HIV.out.2.2.2.2.2.2.2.2.2.2.1), (HIV.out.2.2.2.2.2.2.2.2.2.2.2.1), (HIV.out.2.2.2.2.2.2.2.2.2.2.2.2.1), (HIV.out.2.2.2.2.2.2.2.2.2.2.2.2.2.1), (HIV.out.2.2.2.2.2.2.2.2.2.2.2.2.2.2.1), (HIV.out.2.2.2.2.2.2.2.2.2.2.2.2.2.2.2.1), (HIV.out.2.2.2.2.2.2.2.2.2.2.2.2.2.2.2.2.1), (HIV.out.2.2.2.2.2.2.2.2.2.2.2.2.2.2.2.2.2.1), (HIV.out.2.2.2.2.2.2.2.2.2.2.2.2.2.2.2.2.2.2.1), (HIV.out.2.2.2.2.2.2.2.2.2.2.2.2.2.2.2.2.2.2.2.1), (HIV.out.2.2.2.2.2.2.2.2.2.2.2.2.2.2.2.2.2.2.2.2)⟩
              · rintro L a v hL hk ⟨x, rfl, hI⟩ K hK
                have HK0 := Lib.hid hK
                clear hK
                have HIV := Lib.hid hI
                clear hI
                rw [(HIV.out.2.2.2.2.2.1).out (after_on hL 5 rfl)]
                clear hL
                clear hk
                go_wp2
                exact HK0.out _ _ ⟨fun i => if i = 41 then .pointer (some ⟨b2, o2 + s * 4, none⟩) else if i = 42 then .pointer (some ⟨b2, o2 + s * 4, none⟩) else x i, rfl, (HIV.out.1), (HIV.out.2.1), (HIV.out.2.2.1), (HIV.out.2.2.2.1), (HIV.out.2.2.2.2.1), Lib.hid (fun _ => rfl), Lib.hid (fun _ => rfl), (HIV.out.2.2.2.2.2.2.2.1), (HIV.out.2.2.2.2.2.2.2.2.1), (HIV.out.2.2.2.2.2.2.2.2.2.1), (HIV.out.2.2.2.2.2.2.2.2.2.2.1), (HIV.out.2.2.2.2.2.2.2.2.2.2.2.1), (HIV.out.2.2.2.2.2.2.2.2.2.2.2.2.1), (HIV.out.2.2.2.2.2.2.2.2.2.2.2.2.2.1), (HIV.out.2.2.2.2.2.2.2.2.2.2.2.2.2.2.1), (HIV.out.2.2.2.2.2.2.2.2.2.2.2.2.2.2.2.1), (HIV.out.2.2.2.2.2.2.2.2.2.2.2.2.2.2.2.2.1), (HIV.out.2.2.2.2.2.2.2.2.2.2.2.2.2.2.2.2.2.1), (HIV.out.2.2.2.2.2.2.2.2.2.2.2.2.2.2.2.2.2.2.1), (HIV.out.2.2.2.2.2.2.2.2.2.2.2.2.2.2.2.2.2.2.2.1), (HIV.out.2.2.2.2.2.2.2.2.2.2.2.2.2.2.2.2.2.2.2.2)⟩
              · rintro L a v hL hk ⟨x, rfl, hI⟩ K hK
                have HK0 := Lib.hid hK
                clear hK
                have HIV := Lib.hid hI
                clear hI
                rw [(HIV.out.2.2.2.2.2.2.1).out (after_on hL 6 rfl)]
                have c3 := HQ.out _ (HIV.out.2.2.2.2.2.2.2.2.2.2.2.2.2.2.2.2.2.2.2.1).out
                clear hL
                clear hk
                go_wp2
                exact HK0.out _ _ ⟨fun i => if i = 42 then .pointer (some ⟨b2, o2 + s * 4, none⟩) else if i = 43 then .int .i64 (kk.al) else x i, rfl, (HIV.out.1), (HIV.out.2.1), (HIV.out.2.2.1), (HIV.out.2.2.2.1), (HIV.out.2.2.2.2.1), (HIV.out.2.2.2.2.2.1), Lib.hid (fun _ => rfl), Lib.hid (fun _ => rfl), (HIV.out.2.2.2.2.2.2.2.2.1), (HIV.out.2.2.2.2.2.2.2.2.2.1), (HIV.out.2.2.2.2.2.2.2.2.2.2.1), (HIV.out.2.2.2.2.2.2.2.2.2.2.2.1), (HIV.out.2.2.2.2.2.2.2.2.2.2.2.2.1), (HIV.out.2.2.2.2.2.2.2.2.2.2.2.2.2.1), (HIV.out.2.2.2.2.2.2.2.2.2.2.2.2.2.2.1), (HIV.out.2.2.2.2.2.2.2.2.2.2.2.2.2.2.2.1), (HIV.out.2.2.2.2.2.2.2.2.2.2.2.2.2.2.2.2.1), (HIV.out.2.2.2.2.2.2.2.2.2.2.2.2.2.2.2.2.2.1), (HIV.out.2.2.2.2.2.2.2.2.2.2.2.2.2.2.2.2.2.2.1), (HIV.out.2.2.2.2.2.2.2.2.2.2.2.2.2.2.2.2.2.2.2.1), (HIV.out.2.2.2.2.2.2.2.2.2.2.2.2.2.2.2.2.2.2.2.2)⟩
              · rintro L a v hL hk ⟨x, rfl, hI⟩ K hK
                have HK0 := Lib.hid hK
                clear hK
                have HIV := Lib.hid hI
                clear hI
                clear hL
                clear hk
                go_wp2
                exact HK0.out _ _ ⟨fun i => if i = 44 then .pointer (some ⟨w0.heap.size, 0, none⟩) else x i, rfl, (HIV.out.1), (HIV.out.2.1), (HIV.out.2.2.1), (HIV.out.2.2.2.1), (HIV.out.2.2.2.2.1), (HIV.out.2.2.2.2.2.1), (HIV.out.2.2.2.2.2.2.1), (HIV.out.2.2.2.2.2.2.2.1), Lib.hid (fun _ => rfl), (HIV.out.2.2.2.2.2.2.2.2.2.1), (HIV.out.2.2.2.2.2.2.2.2.2.2.1), (HIV.out.2.2.2.2.2.2.2.2.2.2.2.1), (HIV.out.2.2.2.2.2.2.2.2.2.2.2.2.1), (HIV.out.2.2.2.2.2.2.2.2.2.2.2.2.2.1), (HIV.out.2.2.2.2.2.2.2.2.2.2.2.2.2.2.1), (HIV.out.2.2.2.2.2.2.2.2.2.2.2.2.2.2.2.1), (HIV.out.2.2.2.2.2.2.2.2.2.2.2.2.2.2.2.2.1), (HIV.out.2.2.2.2.2.2.2.2.2.2.2.2.2.2.2.2.2.1), (HIV.out.2.2.2.2.2.2.2.2.2.2.2.2.2.2.2.2.2.2.1), (HIV.out.2.2.2.2.2.2.2.2.2.2.2.2.2.2.2.2.2.2.2.1), (HIV.out.2.2.2.2.2.2.2.2.2.2.2.2.2.2.2.2.2.2.2.2)⟩
              · rintro L a v hL hk ⟨x, rfl, hI⟩ K hK
                have HK0 := Lib.hid hK
                clear hK
                have HIV := Lib.hid hI
                clear hI
                rw [(HIV.out.2.2.2.2.2.2.2.2.1).out (after_on hL 8 rfl)]
                have c4 := (HIV.out.2.2.2.2.2.2.2.2.2.2.2.2.2.2.2.2.1).out.cell 0 (v := .slice (some ⟨b, o, none⟩) long.length c1) rfl
                clear hL
                clear hk
                go_wp2
                exact HK0.out _ _ ⟨fun i => if i = 44 then .pointer (some ⟨w0.heap.size, 0, none⟩) else if i = 45 then .slice (some ⟨b, o, none⟩) long.length c1 else x i, rfl, (HIV.out.1), (HIV.out.2.1), (HIV.out.2.2.1), (HIV.out.2.2.2.1), (HIV.out.2.2.2.2.1), (HIV.out.2.2.2.2.2.1), (HIV.out.2.2.2.2.2.2.1), (HIV.out.2.2.2.2.2.2.2.1), Lib.hid (fun _ => rfl), Lib.hid (fun _ => rfl), (HIV.out.2.2.2.2.2.2.2.2.2.2.1), (HIV.out.2.2.2.2.2.2.2.2.2.2.2.1), (HIV.out.2.2.2.2.2.2.2.2.2.2.2.2.1), (HIV.out.2.2.2.2.2.2.2.2.2.2.2.2.2.1), (HIV.out.2.2.2.2.2.2.2.2.2.2.2.2.2.2.1), (HIV.out.2.2.2.2.2.2.2.2.2.2.2.2.2.2.2.1), (HIV.out.2.2.2.2.2.2.2.2.2.2.2.2.2.2.2.2.1), (HIV.out.2.2.2.2.2.2.2.2.2.2.2.2.2.2.2.2.2.1), (HIV.out.2.2.2.2.2.2.2.2.2.2.2.2.2.2.2.2.2.2.1), (HIV.out.2.2.2.2.2.2.2.2.2.2.2.2.2.2.2.2.2.2.2.1), (HIV.out.2.2.2.2.2.2.2.2.2.2.2.2.2.2.2.2.2.2.2.2)⟩
              · rintro L a v hL hk ⟨x, rfl, hI⟩ K hK
                have HK0 := Lib.hid hK
                clear hK
                have HIV := Lib.hid hI
                clear hI
                clear hL
                clear hk
                go_wp2
                exact HK0.out _ _ ⟨fun i => if i = 46 then .int .i64 (t : Int) else x i, rfl, (HIV.out.1), (HIV.out.2.1), (HIV.out.2.2.1), (HIV.out.2.2.2.1), (HIV.out.2.2.2.2.1), (HIV.out.2.2.2.2.2.1), (HIV.out.2.2.2.2.2.2.1), (HIV.out.2.2.2.2.2.2.2.1), (HIV.out.2.2.2.2.2.2.2.2.1), (HIV.out.2.2.2.2.2.2.2.2.2.1), Lib.hid (fun _ => rfl), (HIV.out.2.2.2.2.2.2.2.2.2.2.2.1), (HIV.out.2.2.2.2.2.2.2.2.2.2.2.2.1), (HIV.out.2.2.2.2.2.2.2.2.2.2.2.2.2.1), (HIV.out.2.2.2.2.2.2.2.2.2.2.2.2.2.2.1), (HIV.out.2.2.2.2.2.2.2.2.2.2.2.2.2.2.2.1), (HIV.out.2.2.2.2.2.2.2.2.2.2.2.2.2.2.2.2.1), (HIV.out.2.2.2.2.2.2.2.2.2.2.2.2.2.2.2.2.2.1), (HIV.out.2.2.2.2.2.2.2.2.2.2.2.2.2.2.2.2.2.2.1), (HIV.out.2.2.2.2.2.2.2.2.2.2.2.2.2.2.2.2.2.2.2.1), (HIV.out.2.2.2.2.2.2.2.2.2.2.2.2.2.2.2.2.2.2.2.2)⟩
              · rintro L a v hL hk ⟨x, rfl, hI⟩ K hK
                have HK0 := Lib.hid hK
                clear hK
                have HIV := Lib.hid hI
                clear hI
                rw [(HIV.out.2.2.2.2.2.2.2.2.2.1).out (after_on hL 9 rfl)]
                rw [(HIV.out.2.2.2.2.2.2.2.2.2.2.1).out (after_on hL 10 rfl)]
                clear hL
                clear hk
                go_wp2
                exact HK0.out _ _ ⟨fun i => if i = 45 then .slice (some ⟨b, o, none⟩) long.length c1 else if i = 46 then .int .i64 (t : Int) else if i = 47 then .pointer (some ⟨b, o + t, none⟩) else x i, rfl, (HIV.out.1), (HIV.out.2.1), (HIV.out.2.2.1), (HIV.out.2.2.2.1), (HIV.out.2.2.2.2.1), (HIV.out.2.2.2.2.2.1), (HIV.out.2.2.2.2.2.2.1), (HIV.out.2.2.2.2.2.2.2.1), (HIV.out.2.2.2.2.2.2.2.2.1), Lib.hid (fun _ => rfl), Lib.hid (fun _ => rfl), Lib.hid (fun _ => rfl), (HIV.out.2.2.2.2.2.2.2.2.2.2.2.2.1), (HIV.out.2.2.2.2.2.2.2.2.2.2.2.2.2.1), (HIV.out.2.2.2.2.2.2.2.2.2.2.2.2.2.2.1), (HIV.out.2.2.2.2.2.2.2.2.2.2.2.2.2.2.2.1), (HIV.out.2.2.2.2.2.2.2.2.2.2.2.2.2.2.2.2.1), (HIV.out.2.2.2.2.2.2.2.2.2.2.2.2.2.2.2.2.2.1), (HIV.out.2.2.2.2.2.2.2.2.2.2.2.2.2.2.2.2.2.2.1), (HIV.out.2.2.2.2.2.2.2.2.2.2.2.2.2.2.2.2.2.2.2.1), (HIV.out.2.2.2.2.2.2.2.2.2.2.2.2.2.2.2.2.2.2.2.2)⟩
              · rintro L a v hL hk ⟨x, rfl, hI⟩ K hK
                have HK0 := Lib.hid hK
                clear hK
                have HIV := Lib.hid hI
                clear hI
                rw [(HIV.out.2.2.2.2.2.2.2.2.2.2.2.1).out (after_on hL 11 rfl)]
                have c5 := HC.out _ (HIV.out.2.2.2.2.2.2.2.2.2.2.2.2.2.2.2.2.2.2.2.1).out
                clear hL
                clear hk
                go_wp2
                exact HK0.out _ _ ⟨fun i => if i = 47 then .pointer (some ⟨b, o + t, none⟩) else if i = 48 then .int .i64 (n : Int) else x i, rfl, (HIV.out.1), (HIV.out.2.1), (HIV.out.2.2.1), (HIV.out.2.2.2.1), (HIV.out.2.2.2.2.1), (HIV.out.2.2.2.2.2.1), (HIV.out.2.2.2.2.2.2.1), (HIV.out.2.2.2.2.2.2.2.1), (HIV.out.2.2.2.2.2.2.2.2.1), (HIV.out.2.2.2.2.2.2.2.2.2.1), (HIV.out.2.2.2.2.2.2.2.2.2.2.1), Lib.hid (fun _ => rfl), Lib.hid (fun _ => rfl), (HIV.out.2.2.2.2.2.2.2.2.2.2.2.2.2.1), (HIV.out.2.2.2.2.2.2.2.2.2.2.2.2.2.2.1), (HIV.out.2.2.2.2.2.2.2.2.2.2.2.2.2.2.2.1), (HIV.out.2.2.2.2.2.2.2.2.2.2.2.2.2.2.2.2.1), (HIV.out.2.2.2.2.2.2.2.2.2.2.2.2.2.2.2.2.2.1), (HIV.out.2.2.2.2.2.2.2.2.2.2.2.2.2.2.2.2.2.2.1), (HIV.out.2.2.2.2.2.2.2.2.2.2.2.2.2.2.2.2.2.2.2.1), (HIV.out.2.2.2.2.2.2.2.2.2.2.2.2.2.2.2.2.2.2.2.2)⟩
              · rintro L a v hL hk ⟨x, rfl, hI⟩ K hK
                have HK0 := Lib.hid hK
                clear hK
                have HIV := Lib.hid hI
                clear hI
                rw [(HIV.out.2.2.2.2.2.2.2.1).out (after_on hL 7 rfl)]
                rw [(HIV.out.2.2.2.2.2.2.2.2.2.2.2.2.1).out (after_on hL 12 rfl)]
                clear hL
                clear hk
                go_wp2
                exact HK0.out _ _ ⟨fun i => if i = 43 then .int .i64 (kk.al) else if i = 48 then .int .i64 (n : Int) else if i = 49 then .int .i64 (kk.al * n) else x i, rfl, (HIV.out.1), (HIV.out.2.1), (HIV.out.2.2.1), (HIV.out.2.2.2.1), (HIV.out.2.2.2.2.1), (HIV.out.2.2.2.2.2.1), (HIV.out.2.2.2.2.2.2.1), Lib.hid (fun _ => rfl), (HIV.out.2.2.2.2.2.2.2.2.1), (HIV.out.2.2.2.2.2.2.2.2.2.1), (HIV.out.2.2.2.2.2.2.2.2.2.2.1), (HIV.out.2.2.2.2.2.2.2.2.2.2.2.1), Lib.hid (fun _ => rfl), Lib.hid (fun _ => rfl), (HIV.out.2.2.2.2.2.2.2.2.2.2.2.2.2.2.1), (HIV.out.2.2.2.2.2.2.2.2.2.2.2.2.2.2.2.1), (HIV.out.2.2.2.2.2.2.2.2.2.2.2.2.2.2.2.2.1), (HIV.out.2.2.2.2.2.2.2.2.2.2.2.2.2.2.2.2.2.1), (HIV.out.2.2.2.2.2.2.2.2.2.2.2.2.2.2.2.2.2.2.1), (HIV.out.2.2.2.2.2.2.2.2.2.2.2.2.2.2.2.2.2.2.2.1), (HIV.out.2.2.2.2.2.2.2.2.2.2.2.2.2.2.2.2.2.2.2.2)⟩
              · rintro L a v hL hk ⟨x, rfl, hI⟩ K hK
                have HK0 := Lib.hid hK
                clear hK
                have HIV := Lib.hid hI
                clear hI
                rw [(HIV.out.2.2.2.2.2.2.2.2.2.2.2.2.2.1).out (after_on hL 13 rfl)]
                have HCN := Lib.hid hcN
                clear hcN
                clear hL
                clear hk
                go_wp2_with fail
                try rw [HCN.out]
                exact HK0.out _ _ ⟨fun i => if i = 49 then .int .i64 (kk.al * n) else if i = 50 then .int .i64 (cN : Int) else x i, rfl, (HIV.out.1), (HIV.out.2.1), (HIV.out.2.2.1), (HIV.out.2.2.2.1), (HIV.out.2.2.2.2.1), (HIV.out.2.2.2.2.2.1), (HIV.out.2.2.2.2.2.2.1), (HIV.out.2.2.2.2.2.2.2.1), (HIV.out.2.2.2.2.2.2.2.2.1), (HIV.out.2.2.2.2.2.2.2.2.2.1), (HIV.out.2.2.2.2.2.2.2.2.2.2.1), (HIV.out.2.2.2.2.2.2.2.2.2.2.2.1), (HIV.out.2.2.2.2.2.2.2.2.2.2.2.2.1), Lib.hid (fun _ => rfl), Lib.hid (fun _ => rfl), (HIV.out.2.2.2.2.2.2.2.2.2.2.2.2.2.2.2.1), (HIV.out.2.2.2.2.2.2.2.2.2.2.2.2.2.2.2.2.1), (HIV.out.2.2.2.2.2.2.2.2.2.2.2.2.2.2.2.2.2.1), (HIV.out.2.2.2.2.2.2.2.2.2.2.2.2.2.2.2.2.2.2.1), (HIV.out.2.2.2.2.2.2.2.2.2.2.2.2.2.2.2.2.2.2.2.1), (HIV.out.2.2.2.2.2.2.2.2.2.2.2.2.2.2.2.2.2.2.2.2)⟩
              · rintro L a v hL hk ⟨x, rfl, hI⟩ K hK
                have HK0 := Lib.hid hK
                clear hK
                have HIV := Lib.hid hI
                clear hI
                rw [(HIV.out.1).out (after_on hL 0 rfl)]
                rw [(HIV.out.2.2.2.2.2.2.2.2.2.2.2.2.2.2.1).out (after_on hL 14 rfl)]
                clear hL
                clear hk
                go_wp2
                exact HK0.out _ _ ⟨fun i => if i = 36 then .slice (some ⟨z, 0, none⟩) n n else if i = 50 then .int .i64 (cN : Int) else if i = 51 then .pointer (some ⟨z, cN, none⟩) else x i, rfl, Lib.hid (fun _ => rfl), (HIV.out.2.1), (HIV.out.2.2.1), (HIV.out.2.2.2.1), (HIV.out.2.2.2.2.1), (HIV.out.2.2.2.2.2.1), (HIV.out.2.2.2.2.2.2.1), (HIV.out.2.2.2.2.2.2.2.1), (HIV.out.2.2.2.2.2.2.2.2.1), (HIV.out.2.2.2.2.2.2.2.2.2.1), (HIV.out.2.2.2.2.2.2.2.2.2.2.1), (HIV.out.2.2.2.2.2.2.2.2.2.2.2.1), (HIV.out.2.2.2.2.2.2.2.2.2.2.2.2.1), (HIV.out.2.2.2.2.2.2.2.2.2.2.2.2.2.1), Lib.hid (fun _ => rfl), Lib.hid (fun _ => rfl), (HIV.out.2.2.2.2.2.2.2.2.2.2.2.2.2.2.2.2.1), (HIV.out.2.2.2.2.2.2.2.2.2.2.2.2.2.2.2.2.2.1), (HIV.out.2.2.2.2.2.2.2.2.2.2.2.2.2.2.2.2.2.2.1), (HIV.out.2.2.2.2.2.2.2.2.2.2.2.2.2.2.2.2.2.2.2.1), (HIV.out.2.2.2.2.2.2.2.2.2.2.2.2.2.2.2.2.2.2.2.2)⟩
              · rintro L a v hL hk ⟨x, rfl, hI⟩ K hK
                have HK0 := Lib.hid hK
                clear hK
                have HIV := Lib.hid hI
                clear hI
                rw [(HIV.out.2.2.2.2.2.2.2.2.2.2.2.2.2.2.2.1).out (after_on hL 15 rfl)]
                have hrz := (HIV.out.2.2.2.2.2.2.2.2.2.2.2.2.2.2.2.2.2.1).out hk
                have f0 := hrz.free cN
                have cc0 := hrz.cell cN hat
                clear hk
                clear hL
                go_wp2
                exact HK0.out _ _ ⟨fun i => if i = 51 then .pointer (some ⟨z, cN, none⟩) else x i, rfl, (HIV.out.1), (HIV.out.2.1), (HIV.out.2.2.1), (HIV.out.2.2.2.1), (HIV.out.2.2.2.2.1), (HIV.out.2.2.2.2.2.1), (HIV.out.2.2.2.2.2.2.1), (HIV.out.2.2.2.2.2.2.2.1), (HIV.out.2.2.2.2.2.2.2.2.1), (HIV.out.2.2.2.2.2.2.2.2.2.1), (HIV.out.2.2.2.2.2.2.2.2.2.2.1), (HIV.out.2.2.2.2.2.2.2.2.2.2.2.1), (HIV.out.2.2.2.2.2.2.2.2.2.2.2.2.1), (HIV.out.2.2.2.2.2.2.2.2.2.2.2.2.2.1), (HIV.out.2.2.2.2.2.2.2.2.2.2.2.2.2.2.1), Lib.hid (fun _ => rfl), Lib.hid ((HIV.out.2.2.2.2.2.2.2.2.2.2.2.2.2.2.2.2.1).out.set_other _ _ (by have := HZL.out; dsimp only; omega)), Lib.hid (fun h => by simp [upd] at h), Lib.hid (fun _ => HNEW.out ▸ hrz.set cN _), Lib.hid ((HIV.out.2.2.2.2.2.2.2.2.2.2.2.2.2.2.2.2.2.2.2.1).out.setCell (by have := HZL.out; dsimp only; omega) _), Lib.hid (owns_set (HIV.out.2.2.2.2.2.2.2.2.2.2.2.2.2.2.2.2.2.2.2.2).out _ _ (fun k hk => HOZ.out k hk))⟩
          · have he : rowK (ks.take (s + 1)) n t = rowK (ks.take s) n t := by rw [HST.out, markK, if_neg hfl]
            have HE := Lib.hid he
            clear he
            go_wp2
            go_roundw
            case rel => exact ⟨s + 1, by omega, by go_num, G1.out, by rw [HE.out]; exact GZ.out, GB1.out, GO1.out⟩
            case measure => simp [intOf]; omega
        · obtain rfl : s = ks.length := by omega
          have he : ks.take ks.length = ks := List.take_length
          have hgz := GZ.out
          rw [he] at hgz
          have HGZ := Lib.hid hgz
          clear hgz he GZ
          have hkt := knotsTo_length ks hL t ht
          have hpr := psum_range hL t ht
          have hzl := HGZ.out.lt
          go_wp2_with (first | (at_builtin; (refine wpList_append_own _ rfl _ _ 47 rfl (w0.heap.size + 1) 4 i0 (.bool false) 1 1 Try.underlying47 hi hi0 hi1 hi2 rfl (by decide) _ _ _ rfl GO1.out ⟨z, 0, none⟩ n n ((rowK ks n t).map Value.bool) rfl (by rw [List.length_map, rowK_length, Int.toNat_natCast]; omega) (fun q u hq => by rw [Addr.add_lit, Nat.zero_add]; exact HGZ.out.cell q (by simpa [boolsA] using hq)) (fun u hu => by obtain ⟨_, _, rfl⟩ := List.mem_map.1 hu; rfl) (by unfold maxLen; omega) (by omega) (by omega) ?_); intro v' w2 hown' hgrow _; have HO2 := Lib.hid hown'; have hg2 : Below (w0.heap.size + 1) _ w2 := (Below.refl _ _).grown hgrow (by omega) (fun k hk => (GO1.out.lt k hk).1); have HR2 := Lib.hid (G1.out.below hg2 (by omega)); have HB2 := Lib.hid (GB1.out.trans (hg2.mono (by omega))); clear hown' hgrow hg2))
          go_roundw
          case rel => exact ⟨t + 1, by omega, by go_num, by rw [knotsTo_succ, HN.out, List.length_append, rowK_length, Int.toNat_natCast, List.map_append]; exact HO2.out, HR2.out, HB2.out⟩
          case measure => simp [intOf]; omega
    · obtain rfl : t = long.length := by omega
      have k0 := g0.cell 0 (v := .slice p1 long.length c1) rfl
      clear g0
      obtain ⟨p, c, rfl, hbo, _⟩ := bools_of_owns HO.out
      go_wp2
      go_ret
      exact ⟨p, c, rfl, hbo, GB.out⟩

end Go.Proofs.Ytnnlbbmimdohoaa
