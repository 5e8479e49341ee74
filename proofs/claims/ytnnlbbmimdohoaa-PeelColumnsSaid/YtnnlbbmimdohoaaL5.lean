/- The law's own helper of layer 1: a log of which all knots are found, as numbers choose them. -/
import Derived.Test.YtnnlbbmimdohoaaN1
namespace Go.Proofs.Ytnnlbbmimdohoaa
open Go.RowKit Go.Maps
attribute [local go_sem] Oper.semAt_some

/-- A knot that is found where numbers choose. -/
def drawnK (bits : List Int) (i : Nat) (k : K4) : K4 := ⟨drawn k.al k.ah (item bits (2 * i)), drawn k.al k.ah (item bits (2 * i)), drawn k.fl k.fh (item bits (2 * i + 1)), drawn k.fl k.fh (item bits (2 * i + 1))⟩
/-- All of them. -/
def trulyK (bits : List Int) : Nat → List K4 → List K4
  | _, [] => []
  | i, k :: ks => drawnK bits i k :: trulyK bits (i + 1) ks
theorem trulyK_length (bits : List Int) : ∀ (i : Nat) (ks : List K4), (trulyK bits i ks).length = ks.length
  | _, [] => rfl
  | i, k :: ks => by simp [trulyK, trulyK_length bits (i + 1) ks]
theorem trulyK_snoc (bits : List Int) : ∀ (i : Nat) (l : List K4) (k : K4), trulyK bits i (l ++ [k]) = trulyK bits i l ++ [drawnK bits (i + l.length) k]
  | i, [], k => by simp [trulyK]
  | i, x :: l, k => by
    simp only [List.cons_append, trulyK, trulyK_snoc bits (i + 1) l k, List.length_cons]
    rw [show i + 1 + l.length = i + (l.length + 1) by omega]
theorem owns_same {w w1 : World} {base e size : Nat} {v : Value} {n : Nat} {xs : List Value} (h : w.ownsRow base e size v n xs) (hs : ∀ g, base ≤ g → g < w.heap.size → w1.heap[g]? = w.heap[g]?) : w1.ownsRow base e size v n xs := by
  refine ⟨h.1, ?_⟩
  rcases h.2 with h2 | ⟨g, cap, cur, hv, hg, hh, r⟩
  · exact .inl h2
  · exact .inr ⟨g, cap, cur, hv, hg, by rw [hs g hg (Array.getElem?_eq_some_iff.1 hh).1]; exact hh, r⟩
theorem owns_slice {w : World} {base e size : Nat} {v : Value} {n : Nat} {xs : List Value} (h : w.ownsRow base e size v n xs) : ∃ p m c, v = .slice p m c := by
  rcases h.2 with ⟨e, _⟩ | ⟨g, cap, cur, e, _⟩
  · exact ⟨_, _, _, e⟩
  · exact ⟨_, _, _, e⟩
theorem knots_of_owns {w : World} {base : Nat} {v : Value} {n : Nat} {ks : List K4} (hn : ks.length = n) (h : w.ownsRow base 61 4 v n (knotVals ks)) :
    ∃ p c, v = .slice p n c ∧ n ≤ c ∧ ∀ w1 : World, (∀ g, base ≤ g → g < w.heap.size → w1.heap[g]? = w.heap[g]?) → KnotsAt w1 p ks := by
  rcases h.2 with ⟨hv, h0⟩ | ⟨g, cap, cur, hv, hg0, hh, hle, _, _, h4⟩
  · exact ⟨none, 0, by rw [hv, h0], by omega, fun _ _ i hi => absurd hi (by omega)⟩
  · refine ⟨_, cap, hv, hle, fun w1 hs => knots_of_cells fun j u hj => ?_⟩
    rw [cell_of_row w1 g (0 + j) cur _ (0, 0) (by rw [hs g hg0 (Array.getElem?_eq_some_iff.1 hh).1]; exact hh), Nat.zero_add]
    have hjl : j < n * 4 := by
      have := (List.getElem?_eq_some_iff.1 hj).1
      rw [knotVals_length, hn] at this
      exact this
    rw [← h4, List.getElem?_take_of_lt hjl] at hj
    simpa using hj
/-- The call returned the log with other knots. -/
def GaveLog (p1 : Option Addr) (c1 : Nat) (long : List Int) (sz : Int) (ks : List K4) (w : World) (e : Ending) (w' : World) : Prop :=
  ∃ p2 c2, e = .returned (.agg #[.slice p1 long.length c1, .int .i64 sz, .slice p2 ks.length c2]) ∧ LogAt w' p1 p2 long ks ∧ ks.length ≤ c2 ∧ Below w.heap.size w w'

set_option maxRecDepth 10000 in
set_option maxHeartbeats 1600000 in
theorem truly_any (p1 : Option Addr) (c1 : Nat) (p2 : Option Addr) (c2 : Nat) (long : List Int) (sz : Int) (ks : List K4) (w0 : World) (h : LogAt w0 p1 p2 long ks) (hb : validB long sz ks = true) (pb : Option Addr) (cb : Nat) (bits : List Int) (hbi : IntsAt w0 pb bits) (hbn : bits.length ≤ maxLen) :
    Calls Try.prog 41 #[.agg #[.slice p1 long.length c1, .int .i64 sz, .slice p2 ks.length c2], .slice pb bits.length cb] w0 (GaveLog p1 c1 long sz (trulyK bits 0 ks) w0) := by
  have hok := valid_ok hb
  have hk3 := hok.k3
  have HH := Lib.hid h
  have HI := Lib.hid hbi
  clear h hbi
  obtain ⟨i0, hi, hi0, hi1, hi2⟩ := info_parts Try.infoKnot
  go_enter Try.func41, Try.ntmps41
  go_wp2
  go_loopw [6] (fun i wr => ∃ (j : Nat) (v : Value), j ≤ ks.length ∧ i = .int .i64 j ∧ wr.ownsRow (w0.heap.size + 1 + 1 + 1) 61 4 v j (knotVals (trulyK bits 0 (ks.take j))) ∧ Row wr w0.heap.size #[.slice p1 long.length c1, .int .i64 sz, .slice p2 ks.length c2] 25 ∧ Row wr (w0.heap.size + 1) #[.slice none 0 0, .int .i64 0, .slice none 0 0] 25 ∧ Row wr (w0.heap.size + 1 + 1) #[.slice p1 long.length c1, .int .i64 sz, v] 25 ∧ Below w0.heap.size w0 wr) (fun i _ => ks.length - (intOf i).toNat)
  case atStart => exact ⟨0, .slice none 0 0, by omega, rfl, World.ownsRow_nil _ _ _ _, ((Row.new _ _ _).alloc _).alloc _, (Row.new' (by simp) _ _).alloc _, Row.new' (by simp) _ _, ((below_alloc _ _).alloc (by simp) _).alloc (by simp; omega) _⟩
  case round =>
    obtain ⟨j, sv, hj, rfl, hown, g0, g1, g2, gb⟩ := hrel
    have HO := Lib.hid hown
    have G0 := Lib.hid g0
    have G1 := Lib.hid g1
    have G2 := Lib.hid g2
    have GB := Lib.hid gb
    have hz := g2.lt
    have k2 := g0.cell 2 (v := .slice p2 ks.length c2) rfl
    clear hown g0 g1 g2 gb
    by_cases hjl : j < ks.length
    · obtain ⟨b, o, rfl, q0, q1, q2, q3⟩ := (HH.out.k.below GB.out) j hjl
      have hko := hok.ok ks[j] (List.getElem_mem _)
      have hsn : trulyK bits 0 (ks.take (j + 1)) = trulyK bits 0 (ks.take j) ++ [drawnK bits j ks[j]] := by
        rw [List.take_succ_eq_append_getElem hjl, trulyK_snoc, List.length_take, Nat.min_eq_left hj, Nat.zero_add]
      have HSN := Lib.hid hsn
      clear hsn
      generalize ks[j] = kk at *
      have HZ := Lib.hid hz
      go_wp2_with fail
      refine region_inv rfl (by kernel_rfl) (fun L a v => ∃ x : Nat → Value, a = { tmps := #[.agg #[.slice p1 long.length c1, .int .i64 sz, .slice (some ⟨b, o, none⟩) ks.length c2], .slice pb bits.length cb, .pointer (some ⟨w0.heap.size, 0, none⟩), undef, .pointer (some ⟨w0.heap.size + 1, 0, none⟩), .pointer (some ⟨w0.heap.size + 1 + 1, 0, none⟩), .int .i64 j, .pointer (some ⟨wr.heap.size, 0, none⟩), .agg #[.slice p1 long.length c1, .int .i64 sz, .slice (some ⟨b, o, none⟩) ks.length c2], .pointer (some ⟨w0.heap.size + 1 + 1, 2, none⟩), .int .i64 j, .pointer (some ⟨w0.heap.size, 2, none⟩), .slice (some ⟨b, o, none⟩) ks.length c2, .int .i64 ks.length, .bool true, u15, u16, .pointer (some ⟨w0.heap.size, 2, none⟩), .slice (some ⟨b, o, none⟩) ks.length c2, .int .i64 j, .pointer (some ⟨b, o + j * 4, none⟩), .agg #[.int .i64 kk.al, .int .i64 kk.ah, .int .i64 kk.fl, .int .i64 kk.fh], x 22, x 23, x 24, x 25, x 26, x 27, x 28, x 29, x 30, x 31, x 32, x 33, x 34, x 35, x 36, x 37, x 38, x 39, x 40, x 41, x 42, x 43, x 44, undef], defers := [] } ∧ Hid (L 0 = true → x 22 = .pointer (some ⟨w0.heap.size + 1 + 1, 2, none⟩)) ∧ Hid (L 1 = true → x 23 = sv) ∧ Hid (L 2 = true → x 24 = .pointer (some ⟨wr.heap.size, 0, none⟩)) ∧ Hid (L 3 = true → x 25 = .agg #[.int .i64 kk.al, .int .i64 kk.ah]) ∧ Hid (L 4 = true → x 26 = .slice pb bits.length cb) ∧ Hid (L 5 = true → x 27 = .int .i64 j) ∧ Hid (L 6 = true → x 28 = .int .i64 (2 * (j : Int))) ∧ Hid (L 7 = true → x 29 = .int .i64 (item bits (2 * (j : Int)))) ∧ Hid (L 8 = true → x 30 = .int .i64 (drawn kk.al kk.ah (item bits (2 * (j : Int))))) ∧ Hid (L 9 = true → x 31 = .agg #[.int .i64 (drawn kk.al kk.ah (item bits (2 * (j : Int)))), .int .i64 (drawn kk.al kk.ah (item bits (2 * (j : Int))))]) ∧ Hid (L 10 = true → x 32 = .pointer (some ⟨wr.heap.size, 2, none⟩)) ∧ Hid (L 11 = true → x 33 = .agg #[.int .i64 kk.fl, .int .i64 kk.fh]) ∧ Hid (L 12 = true → x 34 = .slice pb bits.length cb) ∧ Hid (L 13 = true → x 35 = .int .i64 j) ∧ Hid (L 14 = true → x 36 = .int .i64 (2 * (j : Int))) ∧ Hid (L 15 = true → x 37 = .int .i64 (2 * (j : Int) + 1)) ∧ Hid (L 16 = true → x 38 = .int .i64 (item bits (2 * (j : Int) + 1))) ∧ Hid (L 17 = true → x 39 = .int .i64 (drawn kk.fl kk.fh (item bits (2 * (j : Int) + 1)))) ∧ Hid (L 18 = true → x 40 = .agg #[.int .i64 (drawn kk.fl kk.fh (item bits (2 * (j : Int) + 1))), .int .i64 (drawn kk.fl kk.fh (item bits (2 * (j : Int) + 1)))]) ∧ Hid (L 19 = true → x 41 = .agg #[.int .i64 (drawn kk.al kk.ah (item bits (2 * (j : Int)))), .int .i64 (drawn kk.al kk.ah (item bits (2 * (j : Int)))), .int .i64 (drawn kk.fl kk.fh (item bits (2 * (j : Int) + 1))), .int .i64 (drawn kk.fl kk.fh (item bits (2 * (j : Int) + 1)))]) ∧ Hid (L 22 = true → x 44 = .pointer (some ⟨w0.heap.size + 1 + 1, 2, none⟩)) ∧ Hid (Row v w0.heap.size #[.slice p1 long.length c1, .int .i64 sz, .slice (some ⟨b, o, none⟩) ks.length c2] 25) ∧ Hid (Row v (w0.heap.size + 1) #[.slice none 0 0, .int .i64 0, .slice none 0 0] 25) ∧ Hid (L 23 = false → Row v (w0.heap.size + 1 + 1) #[.slice p1 long.length c1, .int .i64 sz, sv] 25) ∧ Hid (L 23 = true → Row v (w0.heap.size + 1 + 1) #[.slice p1 long.length c1, .int .i64 sz, (x 43)] 25) ∧ Hid (Row v wr.heap.size #[.int .i64 kk.al, .int .i64 kk.ah, .int .i64 kk.fl, .int .i64 kk.fh] 61) ∧ Hid (L 21 = false → v.ownsRow (w0.heap.size + 1 + 1 + 1) 61 4 sv j (knotVals (trulyK bits 0 (ks.take j)))) ∧ Hid (L 21 = true → v.ownsRow (w0.heap.size + 1 + 1 + 1) 61 4 (x 43) (j + 1) ((knotVals (trulyK bits 0 (ks.take j))) ++ [.int .i64 (drawn kk.al kk.ah (item bits (2 * (j : Int)))), .int .i64 (drawn kk.al kk.ah (item bits (2 * (j : Int)))), .int .i64 (drawn kk.fl kk.fh (item bits (2 * (j : Int) + 1))), .int .i64 (drawn kk.fl kk.fh (item bits (2 * (j : Int) + 1)))])) ∧ Hid (L 20 = true → L 21 = false → ∃ g, (x 42) = .slice (some ⟨g, 0, none⟩) 1 1 ∧ Row v g #[.int .i64 (drawn kk.al kk.ah (item bits (2 * (j : Int)))), .int .i64 (drawn kk.al kk.ah (item bits (2 * (j : Int)))), .int .i64 (drawn kk.fl kk.fh (item bits (2 * (j : Int) + 1))), .int .i64 (drawn kk.fl kk.fh (item bits (2 * (j : Int) + 1)))] 61) ∧ Hid (L 23 = true → L 1 = true ∧ L 21 = true) ∧ Hid (Below w0.heap.size w0 v) ∧ Hid (wr.heap.size + 1 ≤ v.heap.size)) ?h0 ?steps ?hd
      case h0 => exact ⟨fun i => if i = 22 then u22 else if i = 23 then u23 else if i = 24 then u24 else if i = 25 then u25 else if i = 26 then u26 else if i = 27 then u27 else if i = 28 then u28 else if i = 29 then u29 else if i = 30 then u30 else if i = 31 then u31 else if i = 32 then u32 else if i = 33 then u33 else if i = 34 then u34 else if i = 35 then u35 else if i = 36 then u36 else if i = 37 then u37 else if i = 38 then u38 else if i = 39 then u39 else if i = 40 then u40 else if i = 41 then u41 else if i = 42 then u42 else if i = 43 then u43 else if i = 44 then u44 else undef, rfl, Lib.hid nofun, Lib.hid nofun, Lib.hid nofun, Lib.hid nofun, Lib.hid nofun, Lib.hid nofun, Lib.hid nofun, Lib.hid nofun, Lib.hid nofun, Lib.hid nofun, Lib.hid nofun, Lib.hid nofun, Lib.hid nofun, Lib.hid nofun, Lib.hid nofun, Lib.hid nofun, Lib.hid nofun, Lib.hid nofun, Lib.hid nofun, Lib.hid nofun, Lib.hid nofun, Lib.hid ((G0.out.alloc _).drew), Lib.hid ((G1.out.alloc _).drew), Lib.hid (fun _ => (G2.out.alloc _).drew), Lib.hid (nofun), Lib.hid ((Row.new _ _ _).drew), Lib.hid (fun _ => owns_same HO.out (fun g _ hg => Below.heap_alloc _ _ _ hg)), Lib.hid (nofun), Lib.hid (fun h => by cases h), Lib.hid (nofun), Lib.hid ((GB.out.alloc GB.out.size _).drew), Lib.hid (by simp [World.drew])⟩
      case hd =>
        rintro L a v hL ⟨x, rfl, hI⟩
        have HIV := Lib.hid hI
        clear hI
        have hxz := (HIV.out.2.2.2.2.2.2.2.2.2.2.2.2.2.2.2.2.2.2.2.2.2.2.2.2.1).out (hL 23 (by decide))
        have hoz := (HIV.out.2.2.2.2.2.2.2.2.2.2.2.2.2.2.2.2.2.2.2.2.2.2.2.2.2.2.2.1).out (hL 21 (by decide))
        have R0v := Lib.hid (HIV.out.2.2.2.2.2.2.2.2.2.2.2.2.2.2.2.2.2.2.2.2.2.1).out
        have R1v := Lib.hid (HIV.out.2.2.2.2.2.2.2.2.2.2.2.2.2.2.2.2.2.2.2.2.2.2.1).out
        have XZ := Lib.hid hxz
        have OZ := Lib.hid hoz
        have BZ := Lib.hid (HIV.out.2.2.2.2.2.2.2.2.2.2.2.2.2.2.2.2.2.2.2.2.2.2.2.2.2.2.2.2.2.2.1).out
        clear hL HIV hxz hoz
        go_wp2_with fail
        exact ⟨⟨j + 1, (x 43), by omega, by congr 1, by rw [HSN.out, knotVals_append]; exact OZ.out, R0v.out, R1v.out, XZ.out, BZ.out⟩, by simp [intOf]; omega⟩
      case steps =>
        refine ⟨?_, ?_, ?_, ?_, ?_, ?_, ?_, ?_, ?_, ?_, ?_, ?_, ?_, ?_, ?_, ?_, ?_, ?_, ?_, ?_, ?_, ?_, ?_, ?_, trivial⟩
        · rintro L a v hL hk ⟨x, rfl, hI⟩ K hK
          have HK0 := Lib.hid hK
          clear hK
          have HIV := Lib.hid hI
          clear hI
          clear hL
          clear hk
          go_wp2
          exact HK0.out _ _ ⟨fun i => if i = 22 then .pointer (some ⟨w0.heap.size + 1 + 1, 2, none⟩) else x i, rfl, Lib.hid (fun _ => rfl), (HIV.out.2.1), (HIV.out.2.2.1), (HIV.out.2.2.2.1), (HIV.out.2.2.2.2.1), (HIV.out.2.2.2.2.2.1), (HIV.out.2.2.2.2.2.2.1), (HIV.out.2.2.2.2.2.2.2.1), (HIV.out.2.2.2.2.2.2.2.2.1), (HIV.out.2.2.2.2.2.2.2.2.2.1), (HIV.out.2.2.2.2.2.2.2.2.2.2.1), (HIV.out.2.2.2.2.2.2.2.2.2.2.2.1), (HIV.out.2.2.2.2.2.2.2.2.2.2.2.2.1), (HIV.out.2.2.2.2.2.2.2.2.2.2.2.2.2.1), (HIV.out.2.2.2.2.2.2.2.2.2.2.2.2.2.2.1), (HIV.out.2.2.2.2.2.2.2.2.2.2.2.2.2.2.2.1), (HIV.out.2.2.2.2.2.2.2.2.2.2.2.2.2.2.2.2.1), (HIV.out.2.2.2.2.2.2.2.2.2.2.2.2.2.2.2.2.2.1), (HIV.out.2.2.2.2.2.2.2.2.2.2.2.2.2.2.2.2.2.2.1), (HIV.out.2.2.2.2.2.2.2.2.2.2.2.2.2.2.2.2.2.2.2.1), (HIV.out.2.2.2.2.2.2.2.2.2.2.2.2.2.2.2.2.2.2.2.2.1), (HIV.out.2.2.2.2.2.2.2.2.2.2.2.2.2.2.2.2.2.2.2.2.2.1), (HIV.out.2.2.2.2.2.2.2.2.2.2.2.2.2.2.2.2.2.2.2.2.2.2.1), (HIV.out.2.2.2.2.2.2.2.2.2.2.2.2.2.2.2.2.2.2.2.2.2.2.2.1), (HIV.out.2.2.2.2.2.2.2.2.2.2.2.2.2.2.2.2.2.2.2.2.2.2.2.2.1), (HIV.out.2.2.2.2.2.2.2.2.2.2.2.2.2.2.2.2.2.2.2.2.2.2.2.2.2.1), (HIV.out.2.2.2.2.2.2.2.2.2.2.2.2.2.2.2.2.2.2.2.2.2.2.2.2.2.2.1), (HIV.out.2.2.2.2.2.2.2.2.2.2.2.2.2.2.2.2.2.2.2.2.2.2.2.2.2.2.2.1), (HIV.out.2.2.2.2.2.2.2.2.2.2.2.2.2.2.2.2.2.2.2.2.2.2.2.2.2.2.2.2.1), Lib.hid (fun h => by have := (HIV.out.2.2.2.2.2.2.2.2.2.2.2.2.2.2.2.2.2.2.2.2.2.2.2.2.2.2.2.2.2.1).out h; simp [upd, this]), (HIV.out.2.2.2.2.2.2.2.2.2.2.2.2.2.2.2.2.2.2.2.2.2.2.2.2.2.2.2.2.2.2.1), (HIV.out.2.2.2.2.2.2.2.2.2.2.2.2.2.2.2.2.2.2.2.2.2.2.2.2.2.2.2.2.2.2.2)⟩
        · rintro L a v hL hk ⟨x, rfl, hI⟩ K hK
          have HK0 := Lib.hid hK
          clear hK
          have HIV := Lib.hid hI
          clear hI
          rw [(HIV.out.1).out (after_on hL 0 rfl)]
          have h23 : L 23 = false := by cases h7 : L 23; rfl; exact absurd ((HIV.out.2.2.2.2.2.2.2.2.2.2.2.2.2.2.2.2.2.2.2.2.2.2.2.2.2.2.2.2.2.1).out h7).1 (by simp [hk])
          have c0 := ((HIV.out.2.2.2.2.2.2.2.2.2.2.2.2.2.2.2.2.2.2.2.2.2.2.2.1).out h23).cell 2 (v := sv) rfl
          clear hk
          clear hL
          go_wp2
          exact HK0.out _ _ ⟨fun i => if i = 22 then .pointer (some ⟨w0.heap.size + 1 + 1, 2, none⟩) else if i = 23 then sv else x i, rfl, Lib.hid (fun _ => rfl), Lib.hid (fun _ => rfl), (HIV.out.2.2.1), (HIV.out.2.2.2.1), (HIV.out.2.2.2.2.1), (HIV.out.2.2.2.2.2.1), (HIV.out.2.2.2.2.2.2.1), (HIV.out.2.2.2.2.2.2.2.1), (HIV.out.2.2.2.2.2.2.2.2.1), (HIV.out.2.2.2.2.2.2.2.2.2.1), (HIV.out.2.2.2.2.2.2.2.2.2.2.1), (HIV.out.2.2.2.2.2.2.2.2.2.2.2.1), (HIV.out.2.2.2.2.2.2.2.2.2.2.2.2.1), (HIV.out.2.2.2.2.2.2.2.2.2.2.2.2.2.1), (HIV.out.2.2.2.2.2.2.2.2.2.2.2.2.2.2.1), (HIV.out.2.2.2.2.2.2.2.2.2.2.2.2.2.2.2.1), (HIV.out.2.2.2.2.2.2.2.2.2.2.2.2.2.2.2.2.1), (HIV.out.2.2.2.2.2.2.2.2.2.2.2.2.2.2.2.2.2.1), (HIV.out.2.2.2.2.2.2.2.2.2.2.2.2.2.2.2.2.2.2.1), (HIV.out.2.2.2.2.2.2.2.2.2.2.2.2.2.2.2.2.2.2.2.1), (HIV.out.2.2.2.2.2.2.2.2.2.2.2.2.2.2.2.2.2.2.2.2.1), (HIV.out.2.2.2.2.2.2.2.2.2.2.2.2.2.2.2.2.2.2.2.2.2.1), (HIV.out.2.2.2.2.2.2.2.2.2.2.2.2.2.2.2.2.2.2.2.2.2.2.1), (HIV.out.2.2.2.2.2.2.2.2.2.2.2.2.2.2.2.2.2.2.2.2.2.2.2.1), (HIV.out.2.2.2.2.2.2.2.2.2.2.2.2.2.2.2.2.2.2.2.2.2.2.2.2.1), (HIV.out.2.2.2.2.2.2.2.2.2.2.2.2.2.2.2.2.2.2.2.2.2.2.2.2.2.1), (HIV.out.2.2.2.2.2.2.2.2.2.2.2.2.2.2.2.2.2.2.2.2.2.2.2.2.2.2.1), (HIV.out.2.2.2.2.2.2.2.2.2.2.2.2.2.2.2.2.2.2.2.2.2.2.2.2.2.2.2.1), (HIV.out.2.2.2.2.2.2.2.2.2.2.2.2.2.2.2.2.2.2.2.2.2.2.2.2.2.2.2.2.1), Lib.hid (fun h => by have := (HIV.out.2.2.2.2.2.2.2.2.2.2.2.2.2.2.2.2.2.2.2.2.2.2.2.2.2.2.2.2.2.1).out h; simp [upd, this]), (HIV.out.2.2.2.2.2.2.2.2.2.2.2.2.2.2.2.2.2.2.2.2.2.2.2.2.2.2.2.2.2.2.1), (HIV.out.2.2.2.2.2.2.2.2.2.2.2.2.2.2.2.2.2.2.2.2.2.2.2.2.2.2.2.2.2.2.2)⟩
        · rintro L a v hL hk ⟨x, rfl, hI⟩ K hK
          have HK0 := Lib.hid hK
          clear hK
          have HIV := Lib.hid hI
          clear hI
          clear hL
          clear hk
          go_wp2
          exact HK0.out _ _ ⟨fun i => if i = 24 then .pointer (some ⟨wr.heap.size, 0, none⟩) else x i, rfl, (HIV.out.1), (HIV.out.2.1), Lib.hid (fun _ => rfl), (HIV.out.2.2.2.1), (HIV.out.2.2.2.2.1), (HIV.out.2.2.2.2.2.1), (HIV.out.2.2.2.2.2.2.1), (HIV.out.2.2.2.2.2.2.2.1), (HIV.out.2.2.2.2.2.2.2.2.1), (HIV.out.2.2.2.2.2.2.2.2.2.1), (HIV.out.2.2.2.2.2.2.2.2.2.2.1), (HIV.out.2.2.2.2.2.2.2.2.2.2.2.1), (HIV.out.2.2.2.2.2.2.2.2.2.2.2.2.1), (HIV.out.2.2.2.2.2.2.2.2.2.2.2.2.2.1), (HIV.out.2.2.2.2.2.2.2.2.2.2.2.2.2.2.1), (HIV.out.2.2.2.2.2.2.2.2.2.2.2.2.2.2.2.1), (HIV.out.2.2.2.2.2.2.2.2.2.2.2.2.2.2.2.2.1), (HIV.out.2.2.2.2.2.2.2.2.2.2.2.2.2.2.2.2.2.1), (HIV.out.2.2.2.2.2.2.2.2.2.2.2.2.2.2.2.2.2.2.1), (HIV.out.2.2.2.2.2.2.2.2.2.2.2.2.2.2.2.2.2.2.2.1), (HIV.out.2.2.2.2.2.2.2.2.2.2.2.2.2.2.2.2.2.2.2.2.1), (HIV.out.2.2.2.2.2.2.2.2.2.2.2.2.2.2.2.2.2.2.2.2.2.1), (HIV.out.2.2.2.2.2.2.2.2.2.2.2.2.2.2.2.2.2.2.2.2.2.2.1), (HIV.out.2.2.2.2.2.2.2.2.2.2.2.2.2.2.2.2.2.2.2.2.2.2.2.1), (HIV.out.2.2.2.2.2.2.2.2.2.2.2.2.2.2.2.2.2.2.2.2.2.2.2.2.1), (HIV.out.2.2.2.2.2.2.2.2.2.2.2.2.2.2.2.2.2.2.2.2.2.2.2.2.2.1), (HIV.out.2.2.2.2.2.2.2.2.2.2.2.2.2.2.2.2.2.2.2.2.2.2.2.2.2.2.1), (HIV.out.2.2.2.2.2.2.2.2.2.2.2.2.2.2.2.2.2.2.2.2.2.2.2.2.2.2.2.1), (HIV.out.2.2.2.2.2.2.2.2.2.2.2.2.2.2.2.2.2.2.2.2.2.2.2.2.2.2.2.2.1), Lib.hid (fun h => by have := (HIV.out.2.2.2.2.2.2.2.2.2.2.2.2.2.2.2.2.2.2.2.2.2.2.2.2.2.2.2.2.2.1).out h; simp [upd, this]), (HIV.out.2.2.2.2.2.2.2.2.2.2.2.2.2.2.2.2.2.2.2.2.2.2.2.2.2.2.2.2.2.2.1), (HIV.out.2.2.2.2.2.2.2.2.2.2.2.2.2.2.2.2.2.2.2.2.2.2.2.2.2.2.2.2.2.2.2)⟩
        · rintro L a v hL hk ⟨x, rfl, hI⟩ K hK
          have HK0 := Lib.hid hK
          clear hK
          have HIV := Lib.hid hI
          clear hI
          rw [(HIV.out.2.2.1).out (after_on hL 2 rfl)]
          have c0 := (HIV.out.2.2.2.2.2.2.2.2.2.2.2.2.2.2.2.2.2.2.2.2.2.2.2.2.2.1).out.cell 0 (v := .int .i64 kk.al) rfl
          have c1 := (HIV.out.2.2.2.2.2.2.2.2.2.2.2.2.2.2.2.2.2.2.2.2.2.2.2.2.2.1).out.cell 1 (v := .int .i64 kk.ah) rfl
          clear hL
          clear hk
          go_wp2
          exact HK0.out _ _ ⟨fun i => if i = 24 then .pointer (some ⟨wr.heap.size, 0, none⟩) else if i = 25 then .agg #[.int .i64 kk.al, .int .i64 kk.ah] else x i, rfl, (HIV.out.1), (HIV.out.2.1), Lib.hid (fun _ => rfl), Lib.hid (fun _ => rfl), (HIV.out.2.2.2.2.1), (HIV.out.2.2.2.2.2.1), (HIV.out.2.2.2.2.2.2.1), (HIV.out.2.2.2.2.2.2.2.1), (HIV.out.2.2.2.2.2.2.2.2.1), (HIV.out.2.2.2.2.2.2.2.2.2.1), (HIV.out.2.2.2.2.2.2.2.2.2.2.1), (HIV.out.2.2.2.2.2.2.2.2.2.2.2.1), (HIV.out.2.2.2.2.2.2.2.2.2.2.2.2.1), (HIV.out.2.2.2.2.2.2.2.2.2.2.2.2.2.1), (HIV.out.2.2.2.2.2.2.2.2.2.2.2.2.2.2.1), (HIV.out.2.2.2.2.2.2.2.2.2.2.2.2.2.2.2.1), (HIV.out.2.2.2.2.2.2.2.2.2.2.2.2.2.2.2.2.1), (HIV.out.2.2.2.2.2.2.2.2.2.2.2.2.2.2.2.2.2.1), (HIV.out.2.2.2.2.2.2.2.2.2.2.2.2.2.2.2.2.2.2.1), (HIV.out.2.2.2.2.2.2.2.2.2.2.2.2.2.2.2.2.2.2.2.1), (HIV.out.2.2.2.2.2.2.2.2.2.2.2.2.2.2.2.2.2.2.2.2.1), (HIV.out.2.2.2.2.2.2.2.2.2.2.2.2.2.2.2.2.2.2.2.2.2.1), (HIV.out.2.2.2.2.2.2.2.2.2.2.2.2.2.2.2.2.2.2.2.2.2.2.1), (HIV.out.2.2.2.2.2.2.2.2.2.2.2.2.2.2.2.2.2.2.2.2.2.2.2.1), (HIV.out.2.2.2.2.2.2.2.2.2.2.2.2.2.2.2.2.2.2.2.2.2.2.2.2.1), (HIV.out.2.2.2.2.2.2.2.2.2.2.2.2.2.2.2.2.2.2.2.2.2.2.2.2.2.1), (HIV.out.2.2.2.2.2.2.2.2.2.2.2.2.2.2.2.2.2.2.2.2.2.2.2.2.2.2.1), (HIV.out.2.2.2.2.2.2.2.2.2.2.2.2.2.2.2.2.2.2.2.2.2.2.2.2.2.2.2.1), (HIV.out.2.2.2.2.2.2.2.2.2.2.2.2.2.2.2.2.2.2.2.2.2.2.2.2.2.2.2.2.1), Lib.hid (fun h => by have := (HIV.out.2.2.2.2.2.2.2.2.2.2.2.2.2.2.2.2.2.2.2.2.2.2.2.2.2.2.2.2.2.1).out h; simp [upd, this]), (HIV.out.2.2.2.2.2.2.2.2.2.2.2.2.2.2.2.2.2.2.2.2.2.2.2.2.2.2.2.2.2.2.1), (HIV.out.2.2.2.2.2.2.2.2.2.2.2.2.2.2.2.2.2.2.2.2.2.2.2.2.2.2.2.2.2.2.2)⟩
        · rintro L a v hL hk ⟨x, rfl, hI⟩ K hK
          have HK0 := Lib.hid hK
          clear hK
          have HIV := Lib.hid hI
          clear hI
          clear hL
          clear hk
          go_wp2
          exact HK0.out _ _ ⟨fun i => if i = 26 then .slice pb bits.length cb else x i, rfl, (HIV.out.1), (HIV.out.2.1), (HIV.out.2.2.1), (HIV.out.2.2.2.1), Lib.hid (fun _ => rfl), (HIV.out.2.2.2.2.2.1), (HIV.out.2.2.2.2.2.2.1), (HIV.out.2.2.2.2.2.2.2.1), (HIV.out.2.2.2.2.2.2.2.2.1), (HIV.out.2.2.2.2.2.2.2.2.2.1), (HIV.out.2.2.2.2.2.2.2.2.2.2.1), (HIV.out.2.2.2.2.2.2.2.2.2.2.2.1), (HIV.out.2.2.2.2.2.2.2.2.2.2.2.2.1), (HIV.out.2.2.2.2.2.2.2.2.2.2.2.2.2.1), (HIV.out.2.2.2.2.2.2.2.2.2.2.2.2.2.2.1), (HIV.out.2.2.2.2.2.2.2.2.2.2.2.2.2.2.2.1), (HIV.out.2.2.2.2.2.2.2.2.2.2.2.2.2.2.2.2.1), (HIV.out.2.2.2.2.2.2.2.2.2.2.2.2.2.2.2.2.2.1), (HIV.out.2.2.2.2.2.2.2.2.2.2.2.2.2.2.2.2.2.2.1), (HIV.out.2.2.2.2.2.2.2.2.2.2.2.2.2.2.2.2.2.2.2.1), (HIV.out.2.2.2.2.2.2.2.2.2.2.2.2.2.2.2.2.2.2.2.2.1), (HIV.out.2.2.2.2.2.2.2.2.2.2.2.2.2.2.2.2.2.2.2.2.2.1), (HIV.out.2.2.2.2.2.2.2.2.2.2.2.2.2.2.2.2.2.2.2.2.2.2.1), (HIV.out.2.2.2.2.2.2.2.2.2.2.2.2.2.2.2.2.2.2.2.2.2.2.2.1), (HIV.out.2.2.2.2.2.2.2.2.2.2.2.2.2.2.2.2.2.2.2.2.2.2.2.2.1), (HIV.out.2.2.2.2.2.2.2.2.2.2.2.2.2.2.2.2.2.2.2.2.2.2.2.2.2.1), (HIV.out.2.2.2.2.2.2.2.2.2.2.2.2.2.2.2.2.2.2.2.2.2.2.2.2.2.2.1), (HIV.out.2.2.2.2.2.2.2.2.2.2.2.2.2.2.2.2.2.2.2.2.2.2.2.2.2.2.2.1), (HIV.out.2.2.2.2.2.2.2.2.2.2.2.2.2.2.2.2.2.2.2.2.2.2.2.2.2.2.2.2.1), Lib.hid (fun h => by have := (HIV.out.2.2.2.2.2.2.2.2.2.2.2.2.2.2.2.2.2.2.2.2.2.2.2.2.2.2.2.2.2.1).out h; simp [upd, this]), (HIV.out.2.2.2.2.2.2.2.2.2.2.2.2.2.2.2.2.2.2.2.2.2.2.2.2.2.2.2.2.2.2.1), (HIV.out.2.2.2.2.2.2.2.2.2.2.2.2.2.2.2.2.2.2.2.2.2.2.2.2.2.2.2.2.2.2.2)⟩
        · rintro L a v hL hk ⟨x, rfl, hI⟩ K hK
          have HK0 := Lib.hid hK
          clear hK
          have HIV := Lib.hid hI
          clear hI
          clear hL
          clear hk
          go_wp2
          exact HK0.out _ _ ⟨fun i => if i = 27 then .int .i64 j else x i, rfl, (HIV.out.1), (HIV.out.2.1), (HIV.out.2.2.1), (HIV.out.2.2.2.1), (HIV.out.2.2.2.2.1), Lib.hid (fun _ => rfl), (HIV.out.2.2.2.2.2.2.1), (HIV.out.2.2.2.2.2.2.2.1), (HIV.out.2.2.2.2.2.2.2.2.1), (HIV.out.2.2.2.2.2.2.2.2.2.1), (HIV.out.2.2.2.2.2.2.2.2.2.2.1), (HIV.out.2.2.2.2.2.2.2.2.2.2.2.1), (HIV.out.2.2.2.2.2.2.2.2.2.2.2.2.1), (HIV.out.2.2.2.2.2.2.2.2.2.2.2.2.2.1), (HIV.out.2.2.2.2.2.2.2.2.2.2.2.2.2.2.1), (HIV.out.2.2.2.2.2.2.2.2.2.2.2.2.2.2.2.1), (HIV.out.2.2.2.2.2.2.2.2.2.2.2.2.2.2.2.2.1), (HIV.out.2.2.2.2.2.2.2.2.2.2.2.2.2.2.2.2.2.1), (HIV.out.2.2.2.2.2.2.2.2.2.2.2.2.2.2.2.2.2.2.1), (HIV.out.2.2.2.2.2.2.2.2.2.2.2.2.2.2.2.2.2.2.2.1), (HIV.out.2.2.2.2.2.2.2.2.2.2.2.2.2.2.2.2.2.2.2.2.1), (HIV.out.2.2.2.2.2.2.2.2.2.2.2.2.2.2.2.2.2.2.2.2.2.1), (HIV.out.2.2.2.2.2.2.2.2.2.2.2.2.2.2.2.2.2.2.2.2.2.2.1), (HIV.out.2.2.2.2.2.2.2.2.2.2.2.2.2.2.2.2.2.2.2.2.2.2.2.1), (HIV.out.2.2.2.2.2.2.2.2.2.2.2.2.2.2.2.2.2.2.2.2.2.2.2.2.1), (HIV.out.2.2.2.2.2.2.2.2.2.2.2.2.2.2.2.2.2.2.2.2.2.2.2.2.2.1), (HIV.out.2.2.2.2.2.2.2.2.2.2.2.2.2.2.2.2.2.2.2.2.2.2.2.2.2.2.1), (HIV.out.2.2.2.2.2.2.2.2.2.2.2.2.2.2.2.2.2.2.2.2.2.2.2.2.2.2.2.1), (HIV.out.2.2.2.2.2.2.2.2.2.2.2.2.2.2.2.2.2.2.2.2.2.2.2.2.2.2.2.2.1), Lib.hid (fun h => by have := (HIV.out.2.2.2.2.2.2.2.2.2.2.2.2.2.2.2.2.2.2.2.2.2.2.2.2.2.2.2.2.2.1).out h; simp [upd, this]), (HIV.out.2.2.2.2.2.2.2.2.2.2.2.2.2.2.2.2.2.2.2.2.2.2.2.2.2.2.2.2.2.2.1), (HIV.out.2.2.2.2.2.2.2.2.2.2.2.2.2.2.2.2.2.2.2.2.2.2.2.2.2.2.2.2.2.2.2)⟩
        · rintro L a v hL hk ⟨x, rfl, hI⟩ K hK
          have HK0 := Lib.hid hK
          clear hK
          have HIV := Lib.hid hI
          clear hI
          rw [(HIV.out.2.2.2.2.2.1).out (after_on hL 5 rfl)]
          clear hL
          clear hk
          go_wp2
          exact HK0.out _ _ ⟨fun i => if i = 27 then .int .i64 j else if i = 28 then .int .i64 (2 * (j : Int)) else x i, rfl, (HIV.out.1), (HIV.out.2.1), (HIV.out.2.2.1), (HIV.out.2.2.2.1), (HIV.out.2.2.2.2.1), Lib.hid (fun _ => rfl), Lib.hid (fun _ => rfl), (HIV.out.2.2.2.2.2.2.2.1), (HIV.out.2.2.2.2.2.2.2.2.1), (HIV.out.2.2.2.2.2.2.2.2.2.1), (HIV.out.2.2.2.2.2.2.2.2.2.2.1), (HIV.out.2.2.2.2.2.2.2.2.2.2.2.1), (HIV.out.2.2.2.2.2.2.2.2.2.2.2.2.1), (HIV.out.2.2.2.2.2.2.2.2.2.2.2.2.2.1), (HIV.out.2.2.2.2.2.2.2.2.2.2.2.2.2.2.1), (HIV.out.2.2.2.2.2.2.2.2.2.2.2.2.2.2.2.1), (HIV.out.2.2.2.2.2.2.2.2.2.2.2.2.2.2.2.2.1), (HIV.out.2.2.2.2.2.2.2.2.2.2.2.2.2.2.2.2.2.1), (HIV.out.2.2.2.2.2.2.2.2.2.2.2.2.2.2.2.2.2.2.1), (HIV.out.2.2.2.2.2.2.2.2.2.2.2.2.2.2.2.2.2.2.2.1), (HIV.out.2.2.2.2.2.2.2.2.2.2.2.2.2.2.2.2.2.2.2.2.1), (HIV.out.2.2.2.2.2.2.2.2.2.2.2.2.2.2.2.2.2.2.2.2.2.1), (HIV.out.2.2.2.2.2.2.2.2.2.2.2.2.2.2.2.2.2.2.2.2.2.2.1), (HIV.out.2.2.2.2.2.2.2.2.2.2.2.2.2.2.2.2.2.2.2.2.2.2.2.1), (HIV.out.2.2.2.2.2.2.2.2.2.2.2.2.2.2.2.2.2.2.2.2.2.2.2.2.1), (HIV.out.2.2.2.2.2.2.2.2.2.2.2.2.2.2.2.2.2.2.2.2.2.2.2.2.2.1), (HIV.out.2.2.2.2.2.2.2.2.2.2.2.2.2.2.2.2.2.2.2.2.2.2.2.2.2.2.1), (HIV.out.2.2.2.2.2.2.2.2.2.2.2.2.2.2.2.2.2.2.2.2.2.2.2.2.2.2.2.1), (HIV.out.2.2.2.2.2.2.2.2.2.2.2.2.2.2.2.2.2.2.2.2.2.2.2.2.2.2.2.2.1), Lib.hid (fun h => by have := (HIV.out.2.2.2.2.2.2.2.2.2.2.2.2.2.2.2.2.2.2.2.2.2.2.2.2.2.2.2.2.2.1).out h; simp [upd, this]), (HIV.out.2.2.2.2.2.2.2.2.2.2.2.2.2.2.2.2.2.2.2.2.2.2.2.2.2.2.2.2.2.2.1), (HIV.out.2.2.2.2.2.2.2.2.2.2.2.2.2.2.2.2.2.2.2.2.2.2.2.2.2.2.2.2.2.2.2)⟩
        · rintro L a v hL hk ⟨x, rfl, hI⟩ K hK
          have HK0 := Lib.hid hK
          clear hK
          have HIV := Lib.hid hI
          clear hI
          rw [(HIV.out.2.2.2.2.1).out (after_on hL 4 rfl)]
          rw [(HIV.out.2.2.2.2.2.2.1).out (after_on hL 6 rfl)]
          clear hL
          clear hk
          go_wp2_with fail
          refine (Item_any pb cb bits _ _ hbn (HI.out.below (HIV.out.2.2.2.2.2.2.2.2.2.2.2.2.2.2.2.2.2.2.2.2.2.2.2.2.2.2.2.2.2.2.1).out)).mono ?_
          rintro e u ⟨rfl, rfl⟩
          exact HK0.out _ _ ⟨fun i => if i = 26 then .slice pb bits.length cb else if i = 28 then .int .i64 (2 * (j : Int)) else if i = 29 then .int .i64 (item bits (2 * (j : Int))) else x i, rfl, (HIV.out.1), (HIV.out.2.1), (HIV.out.2.2.1), (HIV.out.2.2.2.1), Lib.hid (fun _ => rfl), (HIV.out.2.2.2.2.2.1), Lib.hid (fun _ => rfl), Lib.hid (fun _ => rfl), (HIV.out.2.2.2.2.2.2.2.2.1), (HIV.out.2.2.2.2.2.2.2.2.2.1), (HIV.out.2.2.2.2.2.2.2.2.2.2.1), (HIV.out.2.2.2.2.2.2.2.2.2.2.2.1), (HIV.out.2.2.2.2.2.2.2.2.2.2.2.2.1), (HIV.out.2.2.2.2.2.2.2.2.2.2.2.2.2.1), (HIV.out.2.2.2.2.2.2.2.2.2.2.2.2.2.2.1), (HIV.out.2.2.2.2.2.2.2.2.2.2.2.2.2.2.2.1), (HIV.out.2.2.2.2.2.2.2.2.2.2.2.2.2.2.2.2.1), (HIV.out.2.2.2.2.2.2.2.2.2.2.2.2.2.2.2.2.2.1), (HIV.out.2.2.2.2.2.2.2.2.2.2.2.2.2.2.2.2.2.2.1), (HIV.out.2.2.2.2.2.2.2.2.2.2.2.2.2.2.2.2.2.2.2.1), (HIV.out.2.2.2.2.2.2.2.2.2.2.2.2.2.2.2.2.2.2.2.2.1), (HIV.out.2.2.2.2.2.2.2.2.2.2.2.2.2.2.2.2.2.2.2.2.2.1), (HIV.out.2.2.2.2.2.2.2.2.2.2.2.2.2.2.2.2.2.2.2.2.2.2.1), (HIV.out.2.2.2.2.2.2.2.2.2.2.2.2.2.2.2.2.2.2.2.2.2.2.2.1), (HIV.out.2.2.2.2.2.2.2.2.2.2.2.2.2.2.2.2.2.2.2.2.2.2.2.2.1), (HIV.out.2.2.2.2.2.2.2.2.2.2.2.2.2.2.2.2.2.2.2.2.2.2.2.2.2.1), (HIV.out.2.2.2.2.2.2.2.2.2.2.2.2.2.2.2.2.2.2.2.2.2.2.2.2.2.2.1), (HIV.out.2.2.2.2.2.2.2.2.2.2.2.2.2.2.2.2.2.2.2.2.2.2.2.2.2.2.2.1), (HIV.out.2.2.2.2.2.2.2.2.2.2.2.2.2.2.2.2.2.2.2.2.2.2.2.2.2.2.2.2.1), Lib.hid (fun h => by have := (HIV.out.2.2.2.2.2.2.2.2.2.2.2.2.2.2.2.2.2.2.2.2.2.2.2.2.2.2.2.2.2.1).out h; simp [upd, this]), (HIV.out.2.2.2.2.2.2.2.2.2.2.2.2.2.2.2.2.2.2.2.2.2.2.2.2.2.2.2.2.2.2.1), (HIV.out.2.2.2.2.2.2.2.2.2.2.2.2.2.2.2.2.2.2.2.2.2.2.2.2.2.2.2.2.2.2.2)⟩
        · rintro L a v hL hk ⟨x, rfl, hI⟩ K hK
          have HK0 := Lib.hid hK
          clear hK
          have HIV := Lib.hid hI
          clear hI
          rw [(HIV.out.2.2.2.1).out (after_on hL 3 rfl)]
          rw [(HIV.out.2.2.2.2.2.2.2.1).out (after_on hL 7 rfl)]
          clear hL
          clear hk
          go_wp2_with fail
          refine (Drawn_any _ _ _ _ (by have := hko.a0; omega) hko.a (by have := hko.a1; omega)).mono ?_
          rintro e u ⟨rfl, hbu⟩
          exact HK0.out _ _ ⟨fun i => if i = 25 then .agg #[.int .i64 kk.al, .int .i64 kk.ah] else if i = 29 then .int .i64 (item bits (2 * (j : Int))) else if i = 30 then .int .i64 (drawn kk.al kk.ah (item bits (2 * (j : Int)))) else x i, rfl, (HIV.out.1), (HIV.out.2.1), (HIV.out.2.2.1), Lib.hid (fun _ => rfl), (HIV.out.2.2.2.2.1), (HIV.out.2.2.2.2.2.1), (HIV.out.2.2.2.2.2.2.1), Lib.hid (fun _ => rfl), Lib.hid (fun _ => rfl), (HIV.out.2.2.2.2.2.2.2.2.2.1), (HIV.out.2.2.2.2.2.2.2.2.2.2.1), (HIV.out.2.2.2.2.2.2.2.2.2.2.2.1), (HIV.out.2.2.2.2.2.2.2.2.2.2.2.2.1), (HIV.out.2.2.2.2.2.2.2.2.2.2.2.2.2.1), (HIV.out.2.2.2.2.2.2.2.2.2.2.2.2.2.2.1), (HIV.out.2.2.2.2.2.2.2.2.2.2.2.2.2.2.2.1), (HIV.out.2.2.2.2.2.2.2.2.2.2.2.2.2.2.2.2.1), (HIV.out.2.2.2.2.2.2.2.2.2.2.2.2.2.2.2.2.2.1), (HIV.out.2.2.2.2.2.2.2.2.2.2.2.2.2.2.2.2.2.2.1), (HIV.out.2.2.2.2.2.2.2.2.2.2.2.2.2.2.2.2.2.2.2.1), (HIV.out.2.2.2.2.2.2.2.2.2.2.2.2.2.2.2.2.2.2.2.2.1), Lib.hid ((HIV.out.2.2.2.2.2.2.2.2.2.2.2.2.2.2.2.2.2.2.2.2.2.1).out.below hbu (HIV.out.2.2.2.2.2.2.2.2.2.2.2.2.2.2.2.2.2.2.2.2.2.1).out.lt), Lib.hid ((HIV.out.2.2.2.2.2.2.2.2.2.2.2.2.2.2.2.2.2.2.2.2.2.2.1).out.below hbu (HIV.out.2.2.2.2.2.2.2.2.2.2.2.2.2.2.2.2.2.2.2.2.2.2.1).out.lt), Lib.hid (fun h => ((HIV.out.2.2.2.2.2.2.2.2.2.2.2.2.2.2.2.2.2.2.2.2.2.2.2.1).out h).below hbu ((HIV.out.2.2.2.2.2.2.2.2.2.2.2.2.2.2.2.2.2.2.2.2.2.2.2.1).out h).lt), Lib.hid (fun h => ((HIV.out.2.2.2.2.2.2.2.2.2.2.2.2.2.2.2.2.2.2.2.2.2.2.2.2.1).out h).below hbu ((HIV.out.2.2.2.2.2.2.2.2.2.2.2.2.2.2.2.2.2.2.2.2.2.2.2.2.1).out h).lt), Lib.hid ((HIV.out.2.2.2.2.2.2.2.2.2.2.2.2.2.2.2.2.2.2.2.2.2.2.2.2.2.1).out.below hbu (HIV.out.2.2.2.2.2.2.2.2.2.2.2.2.2.2.2.2.2.2.2.2.2.2.2.2.2.1).out.lt), Lib.hid (fun h => owns_below ((HIV.out.2.2.2.2.2.2.2.2.2.2.2.2.2.2.2.2.2.2.2.2.2.2.2.2.2.2.1).out h) hbu), Lib.hid (fun h => owns_below ((HIV.out.2.2.2.2.2.2.2.2.2.2.2.2.2.2.2.2.2.2.2.2.2.2.2.2.2.2.2.1).out h) hbu), Lib.hid (fun h h9 => ((HIV.out.2.2.2.2.2.2.2.2.2.2.2.2.2.2.2.2.2.2.2.2.2.2.2.2.2.2.2.2.1).out h h9).imp fun g h => ⟨h.1, h.2.below hbu h.2.lt⟩), Lib.hid (fun h => by have := (HIV.out.2.2.2.2.2.2.2.2.2.2.2.2.2.2.2.2.2.2.2.2.2.2.2.2.2.2.2.2.2.1).out h; simp [upd, this]), Lib.hid ((HIV.out.2.2.2.2.2.2.2.2.2.2.2.2.2.2.2.2.2.2.2.2.2.2.2.2.2.2.2.2.2.2.1).out.trans (hbu.mono (HIV.out.2.2.2.2.2.2.2.2.2.2.2.2.2.2.2.2.2.2.2.2.2.2.2.2.2.2.2.2.2.2.1).out.size)), Lib.hid (Nat.le_trans (HIV.out.2.2.2.2.2.2.2.2.2.2.2.2.2.2.2.2.2.2.2.2.2.2.2.2.2.2.2.2.2.2.2).out hbu.size)⟩
        · rintro L a v hL hk ⟨x, rfl, hI⟩ K hK
          have HK0 := Lib.hid hK
          clear hK
          have HIV := Lib.hid hI
          clear hI
          rw [(HIV.out.2.2.2.2.2.2.2.2.1).out (after_on hL 8 rfl)]
          clear hL
          clear hk
          go_wp2_with fail
          refine (Only_any _ _).mono ?_
          rintro e u ⟨rfl, hbu⟩
          exact HK0.out _ _ ⟨fun i => if i = 30 then .int .i64 (drawn kk.al kk.ah (item bits (2 * (j : Int)))) else if i = 31 then .agg #[.int .i64 (drawn kk.al kk.ah (item bits (2 * (j : Int)))), .int .i64 (drawn kk.al kk.ah (item bits (2 * (j : Int))))] else x i, rfl, (HIV.out.1), (HIV.out.2.1), (HIV.out.2.2.1), (HIV.out.2.2.2.1), (HIV.out.2.2.2.2.1), (HIV.out.2.2.2.2.2.1), (HIV.out.2.2.2.2.2.2.1), (HIV.out.2.2.2.2.2.2.2.1), Lib.hid (fun _ => rfl), Lib.hid (fun _ => rfl), (HIV.out.2.2.2.2.2.2.2.2.2.2.1), (HIV.out.2.2.2.2.2.2.2.2.2.2.2.1), (HIV.out.2.2.2.2.2.2.2.2.2.2.2.2.1), (HIV.out.2.2.2.2.2.2.2.2.2.2.2.2.2.1), (HIV.out.2.2.2.2.2.2.2.2.2.2.2.2.2.2.1), (HIV.out.2.2.2.2.2.2.2.2.2.2.2.2.2.2.2.1), (HIV.out.2.2.2.2.2.2.2.2.2.2.2.2.2.2.2.2.1), (HIV.out.2.2.2.2.2.2.2.2.2.2.2.2.2.2.2.2.2.1), (HIV.out.2.2.2.2.2.2.2.2.2.2.2.2.2.2.2.2.2.2.1), (HIV.out.2.2.2.2.2.2.2.2.2.2.2.2.2.2.2.2.2.2.2.1), (HIV.out.2.2.2.2.2.2.2.2.2.2.2.2.2.2.2.2.2.2.2.2.1), Lib.hid ((HIV.out.2.2.2.2.2.2.2.2.2.2.2.2.2.2.2.2.2.2.2.2.2.1).out.below hbu (HIV.out.2.2.2.2.2.2.2.2.2.2.2.2.2.2.2.2.2.2.2.2.2.1).out.lt), Lib.hid ((HIV.out.2.2.2.2.2.2.2.2.2.2.2.2.2.2.2.2.2.2.2.2.2.2.1).out.below hbu (HIV.out.2.2.2.2.2.2.2.2.2.2.2.2.2.2.2.2.2.2.2.2.2.2.1).out.lt), Lib.hid (fun h => ((HIV.out.2.2.2.2.2.2.2.2.2.2.2.2.2.2.2.2.2.2.2.2.2.2.2.1).out h).below hbu ((HIV.out.2.2.2.2.2.2.2.2.2.2.2.2.2.2.2.2.2.2.2.2.2.2.2.1).out h).lt), Lib.hid (fun h => ((HIV.out.2.2.2.2.2.2.2.2.2.2.2.2.2.2.2.2.2.2.2.2.2.2.2.2.1).out h).below hbu ((HIV.out.2.2.2.2.2.2.2.2.2.2.2.2.2.2.2.2.2.2.2.2.2.2.2.2.1).out h).lt), Lib.hid ((HIV.out.2.2.2.2.2.2.2.2.2.2.2.2.2.2.2.2.2.2.2.2.2.2.2.2.2.1).out.below hbu (HIV.out.2.2.2.2.2.2.2.2.2.2.2.2.2.2.2.2.2.2.2.2.2.2.2.2.2.1).out.lt), Lib.hid (fun h => owns_below ((HIV.out.2.2.2.2.2.2.2.2.2.2.2.2.2.2.2.2.2.2.2.2.2.2.2.2.2.2.1).out h) hbu), Lib.hid (fun h => owns_below ((HIV.out.2.2.2.2.2.2.2.2.2.2.2.2.2.2.2.2.2.2.2.2.2.2.2.2.2.2.2.1).out h) hbu), Lib.hid (fun h h9 => ((HIV.out.2.2.2.2.2.2.2.2.2.2.2.2.2.2.2.2.2.2.2.2.2.2.2.2.2.2.2.2.1).out h h9).imp fun g h => ⟨h.1, h.2.below hbu h.2.lt⟩), Lib.hid (fun h => by have := (HIV.out.2.2.2.2.2.2.2.2.2.2.2.2.2.2.2.2.2.2.2.2.2.2.2.2.2.2.2.2.2.1).out h; simp [upd, this]), Lib.hid ((HIV.out.2.2.2.2.2.2.2.2.2.2.2.2.2.2.2.2.2.2.2.2.2.2.2.2.2.2.2.2.2.2.1).out.trans (hbu.mono (HIV.out.2.2.2.2.2.2.2.2.2.2.2.2.2.2.2.2.2.2.2.2.2.2.2.2.2.2.2.2.2.2.1).out.size)), Lib.hid (Nat.le_trans (HIV.out.2.2.2.2.2.2.2.2.2.2.2.2.2.2.2.2.2.2.2.2.2.2.2.2.2.2.2.2.2.2.2).out hbu.size)⟩
        · rintro L a v hL hk ⟨x, rfl, hI⟩ K hK
          have HK0 := Lib.hid hK
          clear hK
          have HIV := Lib.hid hI
          clear hI
          clear hL
          clear hk
          go_wp2
          exact HK0.out _ _ ⟨fun i => if i = 32 then .pointer (some ⟨wr.heap.size, 2, none⟩) else x i, rfl, (HIV.out.1), (HIV.out.2.1), (HIV.out.2.2.1), (HIV.out.2.2.2.1), (HIV.out.2.2.2.2.1), (HIV.out.2.2.2.2.2.1), (HIV.out.2.2.2.2.2.2.1), (HIV.out.2.2.2.2.2.2.2.1), (HIV.out.2.2.2.2.2.2.2.2.1), (HIV.out.2.2.2.2.2.2.2.2.2.1), Lib.hid (fun _ => rfl), (HIV.out.2.2.2.2.2.2.2.2.2.2.2.1), (HIV.out.2.2.2.2.2.2.2.2.2.2.2.2.1), (HIV.out.2.2.2.2.2.2.2.2.2.2.2.2.2.1), (HIV.out.2.2.2.2.2.2.2.2.2.2.2.2.2.2.1), (HIV.out.2.2.2.2.2.2.2.2.2.2.2.2.2.2.2.1), (HIV.out.2.2.2.2.2.2.2.2.2.2.2.2.2.2.2.2.1), (HIV.out.2.2.2.2.2.2.2.2.2.2.2.2.2.2.2.2.2.1), (HIV.out.2.2.2.2.2.2.2.2.2.2.2.2.2.2.2.2.2.2.1), (HIV.out.2.2.2.2.2.2.2.2.2.2.2.2.2.2.2.2.2.2.2.1), (HIV.out.2.2.2.2.2.2.2.2.2.2.2.2.2.2.2.2.2.2.2.2.1), (HIV.out.2.2.2.2.2.2.2.2.2.2.2.2.2.2.2.2.2.2.2.2.2.1), (HIV.out.2.2.2.2.2.2.2.2.2.2.2.2.2.2.2.2.2.2.2.2.2.2.1), (HIV.out.2.2.2.2.2.2.2.2.2.2.2.2.2.2.2.2.2.2.2.2.2.2.2.1), (HIV.out.2.2.2.2.2.2.2.2.2.2.2.2.2.2.2.2.2.2.2.2.2.2.2.2.1), (HIV.out.2.2.2.2.2.2.2.2.2.2.2.2.2.2.2.2.2.2.2.2.2.2.2.2.2.1), (HIV.out.2.2.2.2.2.2.2.2.2.2.2.2.2.2.2.2.2.2.2.2.2.2.2.2.2.2.1), (HIV.out.2.2.2.2.2.2.2.2.2.2.2.2.2.2.2.2.2.2.2.2.2.2.2.2.2.2.2.1), (HIV.out.2.2.2.2.2.2.2.2.2.2.2.2.2.2.2.2.2.2.2.2.2.2.2.2.2.2.2.2.1), Lib.hid (fun h => by have := (HIV.out.2.2.2.2.2.2.2.2.2.2.2.2.2.2.2.2.2.2.2.2.2.2.2.2.2.2.2.2.2.1).out h; simp [upd, this]), (HIV.out.2.2.2.2.2.2.2.2.2.2.2.2.2.2.2.2.2.2.2.2.2.2.2.2.2.2.2.2.2.2.1), (HIV.out.2.2.2.2.2.2.2.2.2.2.2.2.2.2.2.2.2.2.2.2.2.2.2.2.2.2.2.2.2.2.2)⟩
        · rintro L a v hL hk ⟨x, rfl, hI⟩ K hK
          have HK0 := Lib.hid hK
          clear hK
          have HIV := Lib.hid hI
          clear hI
          rw [(HIV.out.2.2.2.2.2.2.2.2.2.2.1).out (after_on hL 10 rfl)]
          have c0 := (HIV.out.2.2.2.2.2.2.2.2.2.2.2.2.2.2.2.2.2.2.2.2.2.2.2.2.2.1).out.cell 2 (v := .int .i64 kk.fl) rfl
          have c1 := (HIV.out.2.2.2.2.2.2.2.2.2.2.2.2.2.2.2.2.2.2.2.2.2.2.2.2.2.1).out.cell 3 (v := .int .i64 kk.fh) rfl
          clear hL
          clear hk
          go_wp2
          exact HK0.out _ _ ⟨fun i => if i = 32 then .pointer (some ⟨wr.heap.size, 2, none⟩) else if i = 33 then .agg #[.int .i64 kk.fl, .int .i64 kk.fh] else x i, rfl, (HIV.out.1), (HIV.out.2.1), (HIV.out.2.2.1), (HIV.out.2.2.2.1), (HIV.out.2.2.2.2.1), (HIV.out.2.2.2.2.2.1), (HIV.out.2.2.2.2.2.2.1), (HIV.out.2.2.2.2.2.2.2.1), (HIV.out.2.2.2.2.2.2.2.2.1), (HIV.out.2.2.2.2.2.2.2.2.2.1), Lib.hid (fun _ => rfl), Lib.hid (fun _ => rfl), (HIV.out.2.2.2.2.2.2.2.2.2.2.2.2.1), (HIV.out.2.2.2.2.2.2.2.2.2.2.2.2.2.1), (HIV.out.2.2.2.2.2.2.2.2.2.2.2.2.2.2.1), (HIV.out.2.2.2.2.2.2.2.2.2.2.2.2.2.2.2.1), (HIV.out.2.2.2.2.2.2.2.2.2.2.2.2.2.2.2.2.1), (HIV.out.2.2.2.2.2.2.2.2.2.2.2.2.2.2.2.2.2.1), (HIV.out.2.2.2.2.2.2.2.2.2.2.2.2.2.2.2.2.2.2.1), (HIV.out.2.2.2.2.2.2.2.2.2.2.2.2.2.2.2.2.2.2.2.1), (HIV.out.2.2.2.2.2.2.2.2.2.2.2.2.2.2.2.2.2.2.2.2.1), (HIV.out.2.2.2.2.2.2.2.2.2.2.2.2.2.2.2.2.2.2.2.2.2.1), (HIV.out.2.2.2.2.2.2.2.2.2.2.2.2.2.2.2.2.2.2.2.2.2.2.1), (HIV.out.2.2.2.2.2.2.2.2.2.2.2.2.2.2.2.2.2.2.2.2.2.2.2.1), (HIV.out.2.2.2.2.2.2.2.2.2.2.2.2.2.2.2.2.2.2.2.2.2.2.2.2.1), (HIV.out.2.2.2.2.2.2.2.2.2.2.2.2.2.2.2.2.2.2.2.2.2.2.2.2.2.1), (HIV.out.2.2.2.2.2.2.2.2.2.2.2.2.2.2.2.2.2.2.2.2.2.2.2.2.2.2.1), (HIV.out.2.2.2.2.2.2.2.2.2.2.2.2.2.2.2.2.2.2.2.2.2.2.2.2.2.2.2.1), (HIV.out.2.2.2.2.2.2.2.2.2.2.2.2.2.2.2.2.2.2.2.2.2.2.2.2.2.2.2.2.1), Lib.hid (fun h => by have := (HIV.out.2.2.2.2.2.2.2.2.2.2.2.2.2.2.2.2.2.2.2.2.2.2.2.2.2.2.2.2.2.1).out h; simp [upd, this]), (HIV.out.2.2.2.2.2.2.2.2.2.2.2.2.2.2.2.2.2.2.2.2.2.2.2.2.2.2.2.2.2.2.1), (HIV.out.2.2.2.2.2.2.2.2.2.2.2.2.2.2.2.2.2.2.2.2.2.2.2.2.2.2.2.2.2.2.2)⟩
        · rintro L a v hL hk ⟨x, rfl, hI⟩ K hK
          have HK0 := Lib.hid hK
          clear hK
          have HIV := Lib.hid hI
          clear hI
          clear hL
          clear hk
          go_wp2
          exact HK0.out _ _ ⟨fun i => if i = 34 then .slice pb bits.length cb else x i, rfl, (HIV.out.1), (HIV.out.2.1), (HIV.out.2.2.1), (HIV.out.2.2.2.1), (HIV.out.2.2.2.2.1), (HIV.out.2.2.2.2.2.1), (HIV.out.2.2.2.2.2.2.1), (HIV.out.2.2.2.2.2.2.2.1), (HIV.out.2.2.2.2.2.2.2.2.1), (HIV.out.2.2.2.2.2.2.2.2.2.1), (HIV.out.2.2.2.2.2.2.2.2.2.2.1), (HIV.out.2.2.2.2.2.2.2.2.2.2.2.1), Lib.hid (fun _ => rfl), (HIV.out.2.2.2.2.2.2.2.2.2.2.2.2.2.1), (HIV.out.2.2.2.2.2.2.2.2.2.2.2.2.2.2.1), (HIV.out.2.2.2.2.2.2.2.2.2.2.2.2.2.2.2.1), (HIV.out.2.2.2.2.2.2.2.2.2.2.2.2.2.2.2.2.1), (HIV.out.2.2.2.2.2.2.2.2.2.2.2.2.2.2.2.2.2.1), (HIV.out.2.2.2.2.2.2.2.2.2.2.2.2.2.2.2.2.2.2.1), (HIV.out.2.2.2.2.2.2.2.2.2.2.2.2.2.2.2.2.2.2.2.1), (HIV.out.2.2.2.2.2.2.2.2.2.2.2.2.2.2.2.2.2.2.2.2.1), (HIV.out.2.2.2.2.2.2.2.2.2.2.2.2.2.2.2.2.2.2.2.2.2.1), (HIV.out.2.2.2.2.2.2.2.2.2.2.2.2.2.2.2.2.2.2.2.2.2.2.1), (HIV.out.2.2.2.2.2.2.2.2.2.2.2.2.2.2.2.2.2.2.2.2.2.2.2.1), (HIV.out.2.2.2.2.2.2.2.2.2.2.2.2.2.2.2.2.2.2.2.2.2.2.2.2.1), (HIV.out.2.2.2.2.2.2.2.2.2.2.2.2.2.2.2.2.2.2.2.2.2.2.2.2.2.1), (HIV.out.2.2.2.2.2.2.2.2.2.2.2.2.2.2.2.2.2.2.2.2.2.2.2.2.2.2.1), (HIV.out.2.2.2.2.2.2.2.2.2.2.2.2.2.2.2.2.2.2.2.2.2.2.2.2.2.2.2.1), (HIV.out.2.2.2.2.2.2.2.2.2.2.2.2.2.2.2.2.2.2.2.2.2.2.2.2.2.2.2.2.1), Lib.hid (fun h => by have := (HIV.out.2.2.2.2.2.2.2.2.2.2.2.2.2.2.2.2.2.2.2.2.2.2.2.2.2.2.2.2.2.1).out h; simp [upd, this]), (HIV.out.2.2.2.2.2.2.2.2.2.2.2.2.2.2.2.2.2.2.2.2.2.2.2.2.2.2.2.2.2.2.1), (HIV.out.2.2.2.2.2.2.2.2.2.2.2.2.2.2.2.2.2.2.2.2.2.2.2.2.2.2.2.2.2.2.2)⟩
        · rintro L a v hL hk ⟨x, rfl, hI⟩ K hK
          have HK0 := Lib.hid hK
          clear hK
          have HIV := Lib.hid hI
          clear hI
          clear hL
          clear hk
          go_wp2
          exact HK0.out _ _ ⟨fun i => if i = 35 then .int .i64 j else x i, rfl, (HIV.out.1), (HIV.out.2.1), (HIV.out.2.2.1), (HIV.out.2.2.2.1), (HIV.out.2.2.2.2.1), (HIV.out.2.2.2.2.2.1), (HIV.out.2.2.2.2.2.2.1), (HIV.out.2.2.2.2.2.2.2.1), (HIV.out.2.2.2.2.2.2.2.2.1), (HIV.out.2.2.2.2.2.2.2.2.2.1), (HIV.out.2.2.2.2.2.2.2.2.2.2.1), (HIV.out.2.2.2.2.2.2.2.2.2.2.2.1), (HIV.out.2.2.2.2.2.2.2.2.2.2.2.2.1), Lib.hid (fun _ => rfl), (HIV.out.2.2.2.2.2.2.2.2.2.2.2.2.2.2.1), (HIV.out.2.2.2.2.2.2.2.2.2.2.2.2.2.2.2.1), (HIV.out.2.2.2.2.2.2.2.2.2.2.2.2.2.2.2.2.1), (HIV.out.2.2.2.2.2.2.2.2.2.2.2.2.2.2.2.2.2.1), (HIV.out.2.2.2.2.2.2.2.2.2.2.2.2.2.2.2.2.2.2.1), (HIV.out.2.2.2.2.2.2.2.2.2.2.2.2.2.2.2.2.2.2.2.1), (HIV.out.2.2.2.2.2.2.2.2.2.2.2.2.2.2.2.2.2.2.2.2.1), (HIV.out.2.2.2.2.2.2.2.2.2.2.2.2.2.2.2.2.2.2.2.2.2.1), (HIV.out.2.2.2.2.2.2.2.2.2.2.2.2.2.2.2.2.2.2.2.2.2.2.1), (HIV.out.2.2.2.2.2.2.2.2.2.2.2.2.2.2.2.2.2.2.2.2.2.2.2.1), (HIV.out.2.2.2.2.2.2.2.2.2.2.2.2.2.2.2.2.2.2.2.2.2.2.2.2.1), (HIV.out.2.2.2.2.2.2.2.2.2.2.2.2.2.2.2.2.2.2.2.2.2.2.2.2.2.1), (HIV.out.2.2.2.2.2.2.2.2.2.2.2.2.2.2.2.2.2.2.2.2.2.2.2.2.2.2.1), (HIV.out.2.2.2.2.2.2.2.2.2.2.2.2.2.2.2.2.2.2.2.2.2.2.2.2.2.2.2.1), (HIV.out.2.2.2.2.2.2.2.2.2.2.2.2.2.2.2.2.2.2.2.2.2.2.2.2.2.2.2.2.1), Lib.hid (fun h => by have := (HIV.out.2.2.2.2.2.2.2.2.2.2.2.2.2.2.2.2.2.2.2.2.2.2.2.2.2.2.2.2.2.1).out h; simp [upd, this]), (HIV.out.2.2.2.2.2.2.2.2.2.2.2.2.2.2.2.2.2.2.2.2.2.2.2.2.2.2.2.2.2.2.1), (HIV.out.2.2.2.2.2.2.2.2.2.2.2.2.2.2.2.2.2.2.2.2.2.2.2.2.2.2.2.2.2.2.2)⟩
        · rintro L a v hL hk ⟨x, rfl, hI⟩ K hK
          have HK0 := Lib.hid hK
          clear hK
          have HIV := Lib.hid hI
          clear hI
          rw [(HIV.out.2.2.2.2.2.2.2.2.2.2.2.2.2.1).out (after_on hL 13 rfl)]
          clear hL
          clear hk
          go_wp2
          exact HK0.out _ _ ⟨fun i => if i = 35 then .int .i64 j else if i = 36 then .int .i64 (2 * (j : Int)) else x i, rfl, (HIV.out.1), (HIV.out.2.1), (HIV.out.2.2.1), (HIV.out.2.2.2.1), (HIV.out.2.2.2.2.1), (HIV.out.2.2.2.2.2.1), (HIV.out.2.2.2.2.2.2.1), (HIV.out.2.2.2.2.2.2.2.1), (HIV.out.2.2.2.2.2.2.2.2.1), (HIV.out.2.2.2.2.2.2.2.2.2.1), (HIV.out.2.2.2.2.2.2.2.2.2.2.1), (HIV.out.2.2.2.2.2.2.2.2.2.2.2.1), (HIV.out.2.2.2.2.2.2.2.2.2.2.2.2.1), Lib.hid (fun _ => rfl), Lib.hid (fun _ => rfl), (HIV.out.2.2.2.2.2.2.2.2.2.2.2.2.2.2.2.1), (HIV.out.2.2.2.2.2.2.2.2.2.2.2.2.2.2.2.2.1), (HIV.out.2.2.2.2.2.2.2.2.2.2.2.2.2.2.2.2.2.1), (HIV.out.2.2.2.2.2.2.2.2.2.2.2.2.2.2.2.2.2.2.1), (HIV.out.2.2.2.2.2.2.2.2.2.2.2.2.2.2.2.2.2.2.2.1), (HIV.out.2.2.2.2.2.2.2.2.2.2.2.2.2.2.2.2.2.2.2.2.1), (HIV.out.2.2.2.2.2.2.2.2.2.2.2.2.2.2.2.2.2.2.2.2.2.1), (HIV.out.2.2.2.2.2.2.2.2.2.2.2.2.2.2.2.2.2.2.2.2.2.2.1), (HIV.out.2.2.2.2.2.2.2.2.2.2.2.2.2.2.2.2.2.2.2.2.2.2.2.1), (HIV.out.2.2.2.2.2.2.2.2.2.2.2.2.2.2.2.2.2.2.2.2.2.2.2.2.1), (HIV.out.2.2.2.2.2.2.2.2.2.2.2.2.2.2.2.2.2.2.2.2.2.2.2.2.2.1), (HIV.out.2.2.2.2.2.2.2.2.2.2.2.2.2.2.2.2.2.2.2.2.2.2.2.2.2.2.1), (HIV.out.2.2.2.2.2.2.2.2.2.2.2.2.2.2.2.2.2.2.2.2.2.2.2.2.2.2.2.1), (HIV.out.2.2.2.2.2.2.2.2.2.2.2.2.2.2.2.2.2.2.2.2.2.2.2.2.2.2.2.2.1), Lib.hid (fun h => by have := (HIV.out.2.2.2.2.2.2.2.2.2.2.2.2.2.2.2.2.2.2.2.2.2.2.2.2.2.2.2.2.2.1).out h; simp [upd, this]), (HIV.out.2.2.2.2.2.2.2.2.2.2.2.2.2.2.2.2.2.2.2.2.2.2.2.2.2.2.2.2.2.2.1), (HIV.out.2.2.2.2.2.2.2.2.2.2.2.2.2.2.2.2.2.2.2.2.2.2.2.2.2.2.2.2.2.2.2)⟩
        · rintro L a v hL hk ⟨x, rfl, hI⟩ K hK
          have HK0 := Lib.hid hK
          clear hK
          have HIV := Lib.hid hI
          clear hI
          rw [(HIV.out.2.2.2.2.2.2.2.2.2.2.2.2.2.2.1).out (after_on hL 14 rfl)]
          clear hL
          clear hk
          go_wp2
          exact HK0.out _ _ ⟨fun i => if i = 36 then .int .i64 (2 * (j : Int)) else if i = 37 then .int .i64 (2 * (j : Int) + 1) else x i, rfl, (HIV.out.1), (HIV.out.2.1), (HIV.out.2.2.1), (HIV.out.2.2.2.1), (HIV.out.2.2.2.2.1), (HIV.out.2.2.2.2.2.1), (HIV.out.2.2.2.2.2.2.1), (HIV.out.2.2.2.2.2.2.2.1), (HIV.out.2.2.2.2.2.2.2.2.1), (HIV.out.2.2.2.2.2.2.2.2.2.1), (HIV.out.2.2.2.2.2.2.2.2.2.2.1), (HIV.out.2.2.2.2.2.2.2.2.2.2.2.1), (HIV.out.2.2.2.2.2.2.2.2.2.2.2.2.1), (HIV.out.2.2.2.2.2.2.2.2.2.2.2.2.2.1), Lib.hid (fun _ => rfl), Lib.hid (fun _ => rfl), (HIV.out.2.2.2.2.2.2.2.2.2.2.2.2.2.2.2.2.1), (HIV.out.2.2.2.2.2.2.2.2.2.2.2.2.2.2.2.2.2.1), (HIV.out.2.2.2.2.2.2.2.2.2.2.2.2.2.2.2.2.2.2.1), (HIV.out.2.2.2.2.2.2.2.2.2.2.2.2.2.2.2.2.2.2.2.1), (HIV.out.2.2.2.2.2.2.2.2.2.2.2.2.2.2.2.2.2.2.2.2.1), (HIV.out.2.2.2.2.2.2.2.2.2.2.2.2.2.2.2.2.2.2.2.2.2.1), (HIV.out.2.2.2.2.2.2.2.2.2.2.2.2.2.2.2.2.2.2.2.2.2.2.1), (HIV.out.2.2.2.2.2.2.2.2.2.2.2.2.2.2.2.2.2.2.2.2.2.2.2.1), (HIV.out.2.2.2.2.2.2.2.2.2.2.2.2.2.2.2.2.2.2.2.2.2.2.2.2.1), (HIV.out.2.2.2.2.2.2.2.2.2.2.2.2.2.2.2.2.2.2.2.2.2.2.2.2.2.1), (HIV.out.2.2.2.2.2.2.2.2.2.2.2.2.2.2.2.2.2.2.2.2.2.2.2.2.2.2.1), (HIV.out.2.2.2.2.2.2.2.2.2.2.2.2.2.2.2.2.2.2.2.2.2.2.2.2.2.2.2.1), (HIV.out.2.2.2.2.2.2.2.2.2.2.2.2.2.2.2.2.2.2.2.2.2.2.2.2.2.2.2.2.1), Lib.hid (fun h => by have := (HIV.out.2.2.2.2.2.2.2.2.2.2.2.2.2.2.2.2.2.2.2.2.2.2.2.2.2.2.2.2.2.1).out h; simp [upd, this]), (HIV.out.2.2.2.2.2.2.2.2.2.2.2.2.2.2.2.2.2.2.2.2.2.2.2.2.2.2.2.2.2.2.1), (HIV.out.2.2.2.2.2.2.2.2.2.2.2.2.2.2.2.2.2.2.2.2.2.2.2.2.2.2.2.2.2.2.2)⟩
        · rintro L a v hL hk ⟨x, rfl, hI⟩ K hK
          have HK0 := Lib.hid hK
          clear hK
          have HIV := Lib.hid hI
          clear hI
          rw [(HIV.out.2.2.2.2.2.2.2.2.2.2.2.2.1).out (after_on hL 12 rfl)]
          rw [(HIV.out.2.2.2.2.2.2.2.2.2.2.2.2.2.2.2.1).out (after_on hL 15 rfl)]
          clear hL
          clear hk
          go_wp2_with fail
          refine (Item_any pb cb bits _ _ hbn (HI.out.below (HIV.out.2.2.2.2.2.2.2.2.2.2.2.2.2.2.2.2.2.2.2.2.2.2.2.2.2.2.2.2.2.2.1).out)).mono ?_
          rintro e u ⟨rfl, rfl⟩
          exact HK0.out _ _ ⟨fun i => if i = 34 then .slice pb bits.length cb else if i = 37 then .int .i64 (2 * (j : Int) + 1) else if i = 38 then .int .i64 (item bits (2 * (j : Int) + 1)) else x i, rfl, (HIV.out.1), (HIV.out.2.1), (HIV.out.2.2.1), (HIV.out.2.2.2.1), (HIV.out.2.2.2.2.1), (HIV.out.2.2.2.2.2.1), (HIV.out.2.2.2.2.2.2.1), (HIV.out.2.2.2.2.2.2.2.1), (HIV.out.2.2.2.2.2.2.2.2.1), (HIV.out.2.2.2.2.2.2.2.2.2.1), (HIV.out.2.2.2.2.2.2.2.2.2.2.1), (HIV.out.2.2.2.2.2.2.2.2.2.2.2.1), Lib.hid (fun _ => rfl), (HIV.out.2.2.2.2.2.2.2.2.2.2.2.2.2.1), (HIV.out.2.2.2.2.2.2.2.2.2.2.2.2.2.2.1), Lib.hid (fun _ => rfl), Lib.hid (fun _ => rfl), (HIV.out.2.2.2.2.2.2.2.2.2.2.2.2.2.2.2.2.2.1), (HIV.out.2.2.2.2.2.2.2.2.2.2.2.2.2.2.2.2.2.2.1), (HIV.out.2.2.2.2.2.2.2.2.2.2.2.2.2.2.2.2.2.2.2.1), (HIV.out.2.2.2.2.2.2.2.2.2.2.2.2.2.2.2.2.2.2.2.2.1), (HIV.out.2.2.2.2.2.2.2.2.2.2.2.2.2.2.2.2.2.2.2.2.2.1), (HIV.out.2.2.2.2.2.2.2.2.2.2.2.2.2.2.2.2.2.2.2.2.2.2.1), (HIV.out.2.2.2.2.2.2.2.2.2.2.2.2.2.2.2.2.2.2.2.2.2.2.2.1), (HIV.out.2.2.2.2.2.2.2.2.2.2.2.2.2.2.2.2.2.2.2.2.2.2.2.2.1), (HIV.out.2.2.2.2.2.2.2.2.2.2.2.2.2.2.2.2.2.2.2.2.2.2.2.2.2.1), (HIV.out.2.2.2.2.2.2.2.2.2.2.2.2.2.2.2.2.2.2.2.2.2.2.2.2.2.2.1), (HIV.out.2.2.2.2.2.2.2.2.2.2.2.2.2.2.2.2.2.2.2.2.2.2.2.2.2.2.2.1), (HIV.out.2.2.2.2.2.2.2.2.2.2.2.2.2.2.2.2.2.2.2.2.2.2.2.2.2.2.2.2.1), Lib.hid (fun h => by have := (HIV.out.2.2.2.2.2.2.2.2.2.2.2.2.2.2.2.2.2.2.2.2.2.2.2.2.2.2.2.2.2.1).out h; simp [upd, this]), (HIV.out.2.2.2.2.2.2.2.2.2.2.2.2.2.2.2.2.2.2.2.2.2.2.2.2.2.2.2.2.2.2.1), (HIV.out.2.2.2.2.2.2.2.2.2.2.2.2.2.2.2.2.2.2.2.2.2.2.2.2.2.2.2.2.2.2.2)⟩
        · rintro L a v hL hk ⟨x, rfl, hI⟩ K hK
          have HK0 := Lib.hid hK
          clear hK
          have HIV := Lib.hid hI
          clear hI
          rw [(HIV.out.2.2.2.2.2.2.2.2.2.2.2.1).out (after_on hL 11 rfl)]
          rw [(HIV.out.2.2.2.2.2.2.2.2.2.2.2.2.2.2.2.2.1).out (after_on hL 16 rfl)]
          clear hL
          clear hk
          go_wp2_with fail
          refine (Drawn_any _ _ _ _ (by have := hko.f0; omega) hko.f (by have := hko.f1; omega)).mono ?_
          rintro e u ⟨rfl, hbu⟩
          exact HK0.out _ _ ⟨fun i => if i = 33 then .agg #[.int .i64 kk.fl, .int .i64 kk.fh] else if i = 38 then .int .i64 (item bits (2 * (j : Int) + 1)) else if i = 39 then .int .i64 (drawn kk.fl kk.fh (item bits (2 * (j : Int) + 1))) else x i, rfl, (HIV.out.1), (HIV.out.2.1), (HIV.out.2.2.1), (HIV.out.2.2.2.1), (HIV.out.2.2.2.2.1), (HIV.out.2.2.2.2.2.1), (HIV.out.2.2.2.2.2.2.1), (HIV.out.2.2.2.2.2.2.2.1), (HIV.out.2.2.2.2.2.2.2.2.1), (HIV.out.2.2.2.2.2.2.2.2.2.1), (HIV.out.2.2.2.2.2.2.2.2.2.2.1), Lib.hid (fun _ => rfl), (HIV.out.2.2.2.2.2.2.2.2.2.2.2.2.1), (HIV.out.2.2.2.2.2.2.2.2.2.2.2.2.2.1), (HIV.out.2.2.2.2.2.2.2.2.2.2.2.2.2.2.1), (HIV.out.2.2.2.2.2.2.2.2.2.2.2.2.2.2.2.1), Lib.hid (fun _ => rfl), Lib.hid (fun _ => rfl), (HIV.out.2.2.2.2.2.2.2.2.2.2.2.2.2.2.2.2.2.2.1), (HIV.out.2.2.2.2.2.2.2.2.2.2.2.2.2.2.2.2.2.2.2.1), (HIV.out.2.2.2.2.2.2.2.2.2.2.2.2.2.2.2.2.2.2.2.2.1), Lib.hid ((HIV.out.2.2.2.2.2.2.2.2.2.2.2.2.2.2.2.2.2.2.2.2.2.1).out.below hbu (HIV.out.2.2.2.2.2.2.2.2.2.2.2.2.2.2.2.2.2.2.2.2.2.1).out.lt), Lib.hid ((HIV.out.2.2.2.2.2.2.2.2.2.2.2.2.2.2.2.2.2.2.2.2.2.2.1).out.below hbu (HIV.out.2.2.2.2.2.2.2.2.2.2.2.2.2.2.2.2.2.2.2.2.2.2.1).out.lt), Lib.hid (fun h => ((HIV.out.2.2.2.2.2.2.2.2.2.2.2.2.2.2.2.2.2.2.2.2.2.2.2.1).out h).below hbu ((HIV.out.2.2.2.2.2.2.2.2.2.2.2.2.2.2.2.2.2.2.2.2.2.2.2.1).out h).lt), Lib.hid (fun h => ((HIV.out.2.2.2.2.2.2.2.2.2.2.2.2.2.2.2.2.2.2.2.2.2.2.2.2.1).out h).below hbu ((HIV.out.2.2.2.2.2.2.2.2.2.2.2.2.2.2.2.2.2.2.2.2.2.2.2.2.1).out h).lt), Lib.hid ((HIV.out.2.2.2.2.2.2.2.2.2.2.2.2.2.2.2.2.2.2.2.2.2.2.2.2.2.1).out.below hbu (HIV.out.2.2.2.2.2.2.2.2.2.2.2.2.2.2.2.2.2.2.2.2.2.2.2.2.2.1).out.lt), Lib.hid (fun h => owns_below ((HIV.out.2.2.2.2.2.2.2.2.2.2.2.2.2.2.2.2.2.2.2.2.2.2.2.2.2.2.1).out h) hbu), Lib.hid (fun h => owns_below ((HIV.out.2.2.2.2.2.2.2.2.2.2.2.2.2.2.2.2.2.2.2.2.2.2.2.2.2.2.2.1).out h) hbu), Lib.hid (fun h h9 => ((HIV.out.2.2.2.2.2.2.2.2.2.2.2.2.2.2.2.2.2.2.2.2.2.2.2.2.2.2.2.2.1).out h h9).imp fun g h => ⟨h.1, h.2.below hbu h.2.lt⟩), Lib.hid (fun h => by have := (HIV.out.2.2.2.2.2.2.2.2.2.2.2.2.2.2.2.2.2.2.2.2.2.2.2.2.2.2.2.2.2.1).out h; simp [upd, this]), Lib.hid ((HIV.out.2.2.2.2.2.2.2.2.2.2.2.2.2.2.2.2.2.2.2.2.2.2.2.2.2.2.2.2.2.2.1).out.trans (hbu.mono (HIV.out.2.2.2.2.2.2.2.2.2.2.2.2.2.2.2.2.2.2.2.2.2.2.2.2.2.2.2.2.2.2.1).out.size)), Lib.hid (Nat.le_trans (HIV.out.2.2.2.2.2.2.2.2.2.2.2.2.2.2.2.2.2.2.2.2.2.2.2.2.2.2.2.2.2.2.2).out hbu.size)⟩
        · rintro L a v hL hk ⟨x, rfl, hI⟩ K hK
          have HK0 := Lib.hid hK
          clear hK
          have HIV := Lib.hid hI
          clear hI
          rw [(HIV.out.2.2.2.2.2.2.2.2.2.2.2.2.2.2.2.2.2.1).out (after_on hL 17 rfl)]
          clear hL
          clear hk
          go_wp2_with fail
          refine (Only_any _ _).mono ?_
          rintro e u ⟨rfl, hbu⟩
          exact HK0.out _ _ ⟨fun i => if i = 39 then .int .i64 (drawn kk.fl kk.fh (item bits (2 * (j : Int) + 1))) else if i = 40 then .agg #[.int .i64 (drawn kk.fl kk.fh (item bits (2 * (j : Int) + 1))), .int .i64 (drawn kk.fl kk.fh (item bits (2 * (j : Int) + 1)))] else x i, rfl, (HIV.out.1), (HIV.out.2.1), (HIV.out.2.2.1), (HIV.out.2.2.2.1), (HIV.out.2.2.2.2.1), (HIV.out.2.2.2.2.2.1), (HIV.out.2.2.2.2.2.2.1), (HIV.out.2.2.2.2.2.2.2.1), (HIV.out.2.2.2.2.2.2.2.2.1), (HIV.out.2.2.2.2.2.2.2.2.2.1), (HIV.out.2.2.2.2.2.2.2.2.2.2.1), (HIV.out.2.2.2.2.2.2.2.2.2.2.2.1), (HIV.out.2.2.2.2.2.2.2.2.2.2.2.2.1), (HIV.out.2.2.2.2.2.2.2.2.2.2.2.2.2.1), (HIV.out.2.2.2.2.2.2.2.2.2.2.2.2.2.2.1), (HIV.out.2.2.2.2.2.2.2.2.2.2.2.2.2.2.2.1), (HIV.out.2.2.2.2.2.2.2.2.2.2.2.2.2.2.2.2.1), Lib.hid (fun _ => rfl), Lib.hid (fun _ => rfl), (HIV.out.2.2.2.2.2.2.2.2.2.2.2.2.2.2.2.2.2.2.2.1), (HIV.out.2.2.2.2.2.2.2.2.2.2.2.2.2.2.2.2.2.2.2.2.1), Lib.hid ((HIV.out.2.2.2.2.2.2.2.2.2.2.2.2.2.2.2.2.2.2.2.2.2.1).out.below hbu (HIV.out.2.2.2.2.2.2.2.2.2.2.2.2.2.2.2.2.2.2.2.2.2.1).out.lt), Lib.hid ((HIV.out.2.2.2.2.2.2.2.2.2.2.2.2.2.2.2.2.2.2.2.2.2.2.1).out.below hbu (HIV.out.2.2.2.2.2.2.2.2.2.2.2.2.2.2.2.2.2.2.2.2.2.2.1).out.lt), Lib.hid (fun h => ((HIV.out.2.2.2.2.2.2.2.2.2.2.2.2.2.2.2.2.2.2.2.2.2.2.2.1).out h).below hbu ((HIV.out.2.2.2.2.2.2.2.2.2.2.2.2.2.2.2.2.2.2.2.2.2.2.2.1).out h).lt), Lib.hid (fun h => ((HIV.out.2.2.2.2.2.2.2.2.2.2.2.2.2.2.2.2.2.2.2.2.2.2.2.2.1).out h).below hbu ((HIV.out.2.2.2.2.2.2.2.2.2.2.2.2.2.2.2.2.2.2.2.2.2.2.2.2.1).out h).lt), Lib.hid ((HIV.out.2.2.2.2.2.2.2.2.2.2.2.2.2.2.2.2.2.2.2.2.2.2.2.2.2.1).out.below hbu (HIV.out.2.2.2.2.2.2.2.2.2.2.2.2.2.2.2.2.2.2.2.2.2.2.2.2.2.1).out.lt), Lib.hid (fun h => owns_below ((HIV.out.2.2.2.2.2.2.2.2.2.2.2.2.2.2.2.2.2.2.2.2.2.2.2.2.2.2.1).out h) hbu), Lib.hid (fun h => owns_below ((HIV.out.2.2.2.2.2.2.2.2.2.2.2.2.2.2.2.2.2.2.2.2.2.2.2.2.2.2.2.1).out h) hbu), Lib.hid (fun h h9 => ((HIV.out.2.2.2.2.2.2.2.2.2.2.2.2.2.2.2.2.2.2.2.2.2.2.2.2.2.2.2.2.1).out h h9).imp fun g h => ⟨h.1, h.2.below hbu h.2.lt⟩), Lib.hid (fun h => by have := (HIV.out.2.2.2.2.2.2.2.2.2.2.2.2.2.2.2.2.2.2.2.2.2.2.2.2.2.2.2.2.2.1).out h; simp [upd, this]), Lib.hid ((HIV.out.2.2.2.2.2.2.2.2.2.2.2.2.2.2.2.2.2.2.2.2.2.2.2.2.2.2.2.2.2.2.1).out.trans (hbu.mono (HIV.out.2.2.2.2.2.2.2.2.2.2.2.2.2.2.2.2.2.2.2.2.2.2.2.2.2.2.2.2.2.2.1).out.size)), Lib.hid (Nat.le_trans (HIV.out.2.2.2.2.2.2.2.2.2.2.2.2.2.2.2.2.2.2.2.2.2.2.2.2.2.2.2.2.2.2.2).out hbu.size)⟩
        · rintro L a v hL hk ⟨x, rfl, hI⟩ K hK
          have HK0 := Lib.hid hK
          clear hK
          have HIV := Lib.hid hI
          clear hI
          rw [(HIV.out.2.2.2.2.2.2.2.2.2.1).out (after_on hL 9 rfl)]
          rw [(HIV.out.2.2.2.2.2.2.2.2.2.2.2.2.2.2.2.2.2.2.1).out (after_on hL 18 rfl)]
          clear hL
          clear hk
          go_wp2
          exact HK0.out _ _ ⟨fun i => if i = 31 then .agg #[.int .i64 (drawn kk.al kk.ah (item bits (2 * (j : Int)))), .int .i64 (drawn kk.al kk.ah (item bits (2 * (j : Int))))] else if i = 40 then .agg #[.int .i64 (drawn kk.fl kk.fh (item bits (2 * (j : Int) + 1))), .int .i64 (drawn kk.fl kk.fh (item bits (2 * (j : Int) + 1)))] else if i = 41 then .agg #[.int .i64 (drawn kk.al kk.ah (item bits (2 * (j : Int)))), .int .i64 (drawn kk.al kk.ah (item bits (2 * (j : Int)))), .int .i64 (drawn kk.fl kk.fh (item bits (2 * (j : Int) + 1))), .int .i64 (drawn kk.fl kk.fh (item bits (2 * (j : Int) + 1)))] else x i, rfl, (HIV.out.1), (HIV.out.2.1), (HIV.out.2.2.1), (HIV.out.2.2.2.1), (HIV.out.2.2.2.2.1), (HIV.out.2.2.2.2.2.1), (HIV.out.2.2.2.2.2.2.1), (HIV.out.2.2.2.2.2.2.2.1), (HIV.out.2.2.2.2.2.2.2.2.1), Lib.hid (fun _ => rfl), (HIV.out.2.2.2.2.2.2.2.2.2.2.1), (HIV.out.2.2.2.2.2.2.2.2.2.2.2.1), (HIV.out.2.2.2.2.2.2.2.2.2.2.2.2.1), (HIV.out.2.2.2.2.2.2.2.2.2.2.2.2.2.1), (HIV.out.2.2.2.2.2.2.2.2.2.2.2.2.2.2.1), (HIV.out.2.2.2.2.2.2.2.2.2.2.2.2.2.2.2.1), (HIV.out.2.2.2.2.2.2.2.2.2.2.2.2.2.2.2.2.1), (HIV.out.2.2.2.2.2.2.2.2.2.2.2.2.2.2.2.2.2.1), Lib.hid (fun _ => rfl), Lib.hid (fun _ => rfl), (HIV.out.2.2.2.2.2.2.2.2.2.2.2.2.2.2.2.2.2.2.2.2.1), (HIV.out.2.2.2.2.2.2.2.2.2.2.2.2.2.2.2.2.2.2.2.2.2.1), (HIV.out.2.2.2.2.2.2.2.2.2.2.2.2.2.2.2.2.2.2.2.2.2.2.1), (HIV.out.2.2.2.2.2.2.2.2.2.2.2.2.2.2.2.2.2.2.2.2.2.2.2.1), (HIV.out.2.2.2.2.2.2.2.2.2.2.2.2.2.2.2.2.2.2.2.2.2.2.2.2.1), (HIV.out.2.2.2.2.2.2.2.2.2.2.2.2.2.2.2.2.2.2.2.2.2.2.2.2.2.1), (HIV.out.2.2.2.2.2.2.2.2.2.2.2.2.2.2.2.2.2.2.2.2.2.2.2.2.2.2.1), (HIV.out.2.2.2.2.2.2.2.2.2.2.2.2.2.2.2.2.2.2.2.2.2.2.2.2.2.2.2.1), (HIV.out.2.2.2.2.2.2.2.2.2.2.2.2.2.2.2.2.2.2.2.2.2.2.2.2.2.2.2.2.1), Lib.hid (fun h => by have := (HIV.out.2.2.2.2.2.2.2.2.2.2.2.2.2.2.2.2.2.2.2.2.2.2.2.2.2.2.2.2.2.1).out h; simp [upd, this]), (HIV.out.2.2.2.2.2.2.2.2.2.2.2.2.2.2.2.2.2.2.2.2.2.2.2.2.2.2.2.2.2.2.1), (HIV.out.2.2.2.2.2.2.2.2.2.2.2.2.2.2.2.2.2.2.2.2.2.2.2.2.2.2.2.2.2.2.2)⟩
        · rintro L a v hL hk ⟨x, rfl, hI⟩ K hK
          have HK0 := Lib.hid hK
          clear hK
          have HIV := Lib.hid hI
          clear hI
          rw [(HIV.out.2.2.2.2.2.2.2.2.2.2.2.2.2.2.2.2.2.2.2.1).out (after_on hL 19 rfl)]
          clear hL
          clear hk
          go_wp2
          exact HK0.out _ _ ⟨fun i => if i = 41 then .agg #[.int .i64 (drawn kk.al kk.ah (item bits (2 * (j : Int)))), .int .i64 (drawn kk.al kk.ah (item bits (2 * (j : Int)))), .int .i64 (drawn kk.fl kk.fh (item bits (2 * (j : Int) + 1))), .int .i64 (drawn kk.fl kk.fh (item bits (2 * (j : Int) + 1)))] else if i = 42 then .slice (some ⟨v.heap.size, 0, none⟩) 1 1 else x i, rfl, (HIV.out.1), (HIV.out.2.1), (HIV.out.2.2.1), (HIV.out.2.2.2.1), (HIV.out.2.2.2.2.1), (HIV.out.2.2.2.2.2.1), (HIV.out.2.2.2.2.2.2.1), (HIV.out.2.2.2.2.2.2.2.1), (HIV.out.2.2.2.2.2.2.2.2.1), (HIV.out.2.2.2.2.2.2.2.2.2.1), (HIV.out.2.2.2.2.2.2.2.2.2.2.1), (HIV.out.2.2.2.2.2.2.2.2.2.2.2.1), (HIV.out.2.2.2.2.2.2.2.2.2.2.2.2.1), (HIV.out.2.2.2.2.2.2.2.2.2.2.2.2.2.1), (HIV.out.2.2.2.2.2.2.2.2.2.2.2.2.2.2.1), (HIV.out.2.2.2.2.2.2.2.2.2.2.2.2.2.2.2.1), (HIV.out.2.2.2.2.2.2.2.2.2.2.2.2.2.2.2.2.1), (HIV.out.2.2.2.2.2.2.2.2.2.2.2.2.2.2.2.2.2.1), (HIV.out.2.2.2.2.2.2.2.2.2.2.2.2.2.2.2.2.2.2.1), Lib.hid (fun _ => rfl), (HIV.out.2.2.2.2.2.2.2.2.2.2.2.2.2.2.2.2.2.2.2.2.1), Lib.hid ((HIV.out.2.2.2.2.2.2.2.2.2.2.2.2.2.2.2.2.2.2.2.2.2.1).out.below (below_alloc v _) (HIV.out.2.2.2.2.2.2.2.2.2.2.2.2.2.2.2.2.2.2.2.2.2.1).out.lt), Lib.hid ((HIV.out.2.2.2.2.2.2.2.2.2.2.2.2.2.2.2.2.2.2.2.2.2.2.1).out.below (below_alloc v _) (HIV.out.2.2.2.2.2.2.2.2.2.2.2.2.2.2.2.2.2.2.2.2.2.2.1).out.lt), Lib.hid (fun h => ((HIV.out.2.2.2.2.2.2.2.2.2.2.2.2.2.2.2.2.2.2.2.2.2.2.2.1).out h).below (below_alloc v _) ((HIV.out.2.2.2.2.2.2.2.2.2.2.2.2.2.2.2.2.2.2.2.2.2.2.2.1).out h).lt), Lib.hid (fun h => ((HIV.out.2.2.2.2.2.2.2.2.2.2.2.2.2.2.2.2.2.2.2.2.2.2.2.2.1).out h).below (below_alloc v _) ((HIV.out.2.2.2.2.2.2.2.2.2.2.2.2.2.2.2.2.2.2.2.2.2.2.2.2.1).out h).lt), Lib.hid ((HIV.out.2.2.2.2.2.2.2.2.2.2.2.2.2.2.2.2.2.2.2.2.2.2.2.2.2.1).out.below (below_alloc v _) (HIV.out.2.2.2.2.2.2.2.2.2.2.2.2.2.2.2.2.2.2.2.2.2.2.2.2.2.1).out.lt), Lib.hid (fun h => owns_below ((HIV.out.2.2.2.2.2.2.2.2.2.2.2.2.2.2.2.2.2.2.2.2.2.2.2.2.2.2.1).out h) (below_alloc v _)), Lib.hid (fun h => owns_below ((HIV.out.2.2.2.2.2.2.2.2.2.2.2.2.2.2.2.2.2.2.2.2.2.2.2.2.2.2.2.1).out h) (below_alloc v _)), Lib.hid (fun _ _ => ⟨_, rfl, Row.new v #[.int .i64 (drawn kk.al kk.ah (item bits (2 * (j : Int)))), .int .i64 (drawn kk.al kk.ah (item bits (2 * (j : Int)))), .int .i64 (drawn kk.fl kk.fh (item bits (2 * (j : Int) + 1))), .int .i64 (drawn kk.fl kk.fh (item bits (2 * (j : Int) + 1)))] 61⟩), Lib.hid (fun h => by have := (HIV.out.2.2.2.2.2.2.2.2.2.2.2.2.2.2.2.2.2.2.2.2.2.2.2.2.2.2.2.2.2.1).out h; simp [upd, this]), Lib.hid ((HIV.out.2.2.2.2.2.2.2.2.2.2.2.2.2.2.2.2.2.2.2.2.2.2.2.2.2.2.2.2.2.2.1).out.trans ((below_alloc v _).mono (HIV.out.2.2.2.2.2.2.2.2.2.2.2.2.2.2.2.2.2.2.2.2.2.2.2.2.2.2.2.2.2.2.1).out.size)), Lib.hid (Nat.le_trans (HIV.out.2.2.2.2.2.2.2.2.2.2.2.2.2.2.2.2.2.2.2.2.2.2.2.2.2.2.2.2.2.2.2).out (below_alloc v _).size)⟩
        · rintro L a v hL hk ⟨x, rfl, hI⟩ K hK
          have HK0 := Lib.hid hK
          clear hK
          have HIV := Lib.hid hI
          clear hI
          rw [(HIV.out.2.1).out (after_on hL 1 rfl)]
          obtain ⟨g, e42, hg⟩ := (HIV.out.2.2.2.2.2.2.2.2.2.2.2.2.2.2.2.2.2.2.2.2.2.2.2.2.2.2.2.2.1).out (after_on hL 20 rfl) hk
          rw [e42]
          clear e42
          have HK21 := Lib.hid hk
          clear hL
          have hol := (HO.out).lt
          refine wp_append_own v _ _ 23 rfl (w0.heap.size + 1 + 1 + 1) 61 i0 _ 4 32 Try.underlying23 hi hi0 hi1 hi2 rfl (by decide) sv j (knotVals (trulyK bits 0 (ks.take j))) rfl ((HIV.out.2.2.2.2.2.2.2.2.2.2.2.2.2.2.2.2.2.2.2.2.2.2.2.2.2.2.1).out hk) ⟨g, 0, none⟩ 1 1 [.int .i64 (drawn kk.al kk.ah (item bits (2 * (j : Int)))), .int .i64 (drawn kk.al kk.ah (item bits (2 * (j : Int)))), .int .i64 (drawn kk.fl kk.fh (item bits (2 * (j : Int) + 1))), .int .i64 (drawn kk.fl kk.fh (item bits (2 * (j : Int) + 1)))] rfl rfl (fun q u hq => by rw [Addr.add_lit, Nat.zero_add]; exact hg.cell q (by simpa using hq)) (by simp [Value.oneCell']) (by unfold maxLen; omega) (by omega) (by have := (HIV.out.2.2.2.2.2.2.2.2.2.2.2.2.2.2.2.2.2.2.2.2.2.2.2.2.2.2.2.2.2.2.2).out; omega) ?_
          intro v' w2 hown' hgrow _
          have hg2 : Below (w0.heap.size + 1 + 1 + 1) v w2 := (Below.refl _ _).grown hgrow (by have := (HIV.out.2.2.2.2.2.2.2.2.2.2.2.2.2.2.2.2.2.2.2.2.2.2.2.2.2.2.2.2.2.2.2).out; omega) (fun k hk => (hol k hk).1)
          clear hk
          exact HK0.out _ _ ⟨fun i => if i = 23 then sv else if i = 42 then .slice (some ⟨g, 0, none⟩) 1 1 else if i = 43 then v' else x i, rfl, (HIV.out.1), Lib.hid (fun _ => rfl), (HIV.out.2.2.1), (HIV.out.2.2.2.1), (HIV.out.2.2.2.2.1), (HIV.out.2.2.2.2.2.1), (HIV.out.2.2.2.2.2.2.1), (HIV.out.2.2.2.2.2.2.2.1), (HIV.out.2.2.2.2.2.2.2.2.1), (HIV.out.2.2.2.2.2.2.2.2.2.1), (HIV.out.2.2.2.2.2.2.2.2.2.2.1), (HIV.out.2.2.2.2.2.2.2.2.2.2.2.1), (HIV.out.2.2.2.2.2.2.2.2.2.2.2.2.1), (HIV.out.2.2.2.2.2.2.2.2.2.2.2.2.2.1), (HIV.out.2.2.2.2.2.2.2.2.2.2.2.2.2.2.1), (HIV.out.2.2.2.2.2.2.2.2.2.2.2.2.2.2.2.1), (HIV.out.2.2.2.2.2.2.2.2.2.2.2.2.2.2.2.2.1), (HIV.out.2.2.2.2.2.2.2.2.2.2.2.2.2.2.2.2.2.1), (HIV.out.2.2.2.2.2.2.2.2.2.2.2.2.2.2.2.2.2.2.1), (HIV.out.2.2.2.2.2.2.2.2.2.2.2.2.2.2.2.2.2.2.2.1), (HIV.out.2.2.2.2.2.2.2.2.2.2.2.2.2.2.2.2.2.2.2.2.1), Lib.hid ((HIV.out.2.2.2.2.2.2.2.2.2.2.2.2.2.2.2.2.2.2.2.2.2.1).out.below hg2 (by omega)), Lib.hid ((HIV.out.2.2.2.2.2.2.2.2.2.2.2.2.2.2.2.2.2.2.2.2.2.2.1).out.below hg2 (by omega)), Lib.hid (fun h => ((HIV.out.2.2.2.2.2.2.2.2.2.2.2.2.2.2.2.2.2.2.2.2.2.2.2.1).out h).below hg2 (by omega)), Lib.hid (fun h => absurd ((HIV.out.2.2.2.2.2.2.2.2.2.2.2.2.2.2.2.2.2.2.2.2.2.2.2.2.2.2.2.2.2.1).out h).2 (by simp [HK21.out])), Lib.hid (by unfold Row; rw [hgrow.block _ (HIV.out.2.2.2.2.2.2.2.2.2.2.2.2.2.2.2.2.2.2.2.2.2.2.2.2.2.1).out.lt (fun e => by have := hol _ e.symm; omega)]; exact (HIV.out.2.2.2.2.2.2.2.2.2.2.2.2.2.2.2.2.2.2.2.2.2.2.2.2.2.1).out), Lib.hid (fun h => by simp [upd] at h), Lib.hid (fun _ => hown'), Lib.hid (fun _ h => by simp [upd] at h), Lib.hid (fun h => by have := (HIV.out.2.2.2.2.2.2.2.2.2.2.2.2.2.2.2.2.2.2.2.2.2.2.2.2.2.2.2.2.2.1).out h; simp [upd, this]), Lib.hid ((HIV.out.2.2.2.2.2.2.2.2.2.2.2.2.2.2.2.2.2.2.2.2.2.2.2.2.2.2.2.2.2.2.1).out.trans (hg2.mono (by omega))), Lib.hid (Nat.le_trans (HIV.out.2.2.2.2.2.2.2.2.2.2.2.2.2.2.2.2.2.2.2.2.2.2.2.2.2.2.2.2.2.2.2).out hg2.size)⟩
        · rintro L a v hL hk ⟨x, rfl, hI⟩ K hK
          have HK0 := Lib.hid hK
          clear hK
          have HIV := Lib.hid hI
          clear hI
          clear hL
          clear hk
          go_wp2
          exact HK0.out _ _ ⟨fun i => if i = 44 then .pointer (some ⟨w0.heap.size + 1 + 1, 2, none⟩) else x i, rfl, (HIV.out.1), (HIV.out.2.1), (HIV.out.2.2.1), (HIV.out.2.2.2.1), (HIV.out.2.2.2.2.1), (HIV.out.2.2.2.2.2.1), (HIV.out.2.2.2.2.2.2.1), (HIV.out.2.2.2.2.2.2.2.1), (HIV.out.2.2.2.2.2.2.2.2.1), (HIV.out.2.2.2.2.2.2.2.2.2.1), (HIV.out.2.2.2.2.2.2.2.2.2.2.1), (HIV.out.2.2.2.2.2.2.2.2.2.2.2.1), (HIV.out.2.2.2.2.2.2.2.2.2.2.2.2.1), (HIV.out.2.2.2.2.2.2.2.2.2.2.2.2.2.1), (HIV.out.2.2.2.2.2.2.2.2.2.2.2.2.2.2.1), (HIV.out.2.2.2.2.2.2.2.2.2.2.2.2.2.2.2.1), (HIV.out.2.2.2.2.2.2.2.2.2.2.2.2.2.2.2.2.1), (HIV.out.2.2.2.2.2.2.2.2.2.2.2.2.2.2.2.2.2.1), (HIV.out.2.2.2.2.2.2.2.2.2.2.2.2.2.2.2.2.2.2.1), (HIV.out.2.2.2.2.2.2.2.2.2.2.2.2.2.2.2.2.2.2.2.1), Lib.hid (fun _ => rfl), (HIV.out.2.2.2.2.2.2.2.2.2.2.2.2.2.2.2.2.2.2.2.2.2.1), (HIV.out.2.2.2.2.2.2.2.2.2.2.2.2.2.2.2.2.2.2.2.2.2.2.1), (HIV.out.2.2.2.2.2.2.2.2.2.2.2.2.2.2.2.2.2.2.2.2.2.2.2.1), (HIV.out.2.2.2.2.2.2.2.2.2.2.2.2.2.2.2.2.2.2.2.2.2.2.2.2.1), (HIV.out.2.2.2.2.2.2.2.2.2.2.2.2.2.2.2.2.2.2.2.2.2.2.2.2.2.1), (HIV.out.2.2.2.2.2.2.2.2.2.2.2.2.2.2.2.2.2.2.2.2.2.2.2.2.2.2.1), (HIV.out.2.2.2.2.2.2.2.2.2.2.2.2.2.2.2.2.2.2.2.2.2.2.2.2.2.2.2.1), (HIV.out.2.2.2.2.2.2.2.2.2.2.2.2.2.2.2.2.2.2.2.2.2.2.2.2.2.2.2.2.1), Lib.hid (fun h => by have := (HIV.out.2.2.2.2.2.2.2.2.2.2.2.2.2.2.2.2.2.2.2.2.2.2.2.2.2.2.2.2.2.1).out h; simp [upd, this]), (HIV.out.2.2.2.2.2.2.2.2.2.2.2.2.2.2.2.2.2.2.2.2.2.2.2.2.2.2.2.2.2.2.1), (HIV.out.2.2.2.2.2.2.2.2.2.2.2.2.2.2.2.2.2.2.2.2.2.2.2.2.2.2.2.2.2.2.2)⟩
        · rintro L a v hL hk ⟨x, rfl, hI⟩ K hK
          have HK0 := Lib.hid hK
          clear hK
          have HIV := Lib.hid hI
          clear hI
          rw [(HIV.out.2.2.2.2.2.2.2.2.2.2.2.2.2.2.2.2.2.2.2.2.1).out (after_on hL 22 rfl)]
          have h21 := after_on hL 21 rfl
          have hrx := (HIV.out.2.2.2.2.2.2.2.2.2.2.2.2.2.2.2.2.2.2.2.2.2.2.2.1).out hk
          have f0 := hrx.free 2
          have c0 := hrx.cell 2 (v := sv) rfl
          have hown2 := Lib.hid ((HIV.out.2.2.2.2.2.2.2.2.2.2.2.2.2.2.2.2.2.2.2.2.2.2.2.2.2.2.2.1).out h21)
          have HLL := Lib.hid hL
          clear hL hk
          obtain ⟨q43, n43, c43, e43⟩ := owns_slice hown2.out
          have hown3 := Lib.hid (e43 ▸ hown2.out)
          clear hown2
          rw [e43]
          clear e43
          go_wp2
          exact HK0.out _ _ ⟨fun i => if i = 44 then .pointer (some ⟨w0.heap.size + 1 + 1, 2, none⟩) else if i = 43 then .slice q43 n43 c43 else x i, rfl, (HIV.out.1), (HIV.out.2.1), (HIV.out.2.2.1), (HIV.out.2.2.2.1), (HIV.out.2.2.2.2.1), (HIV.out.2.2.2.2.2.1), (HIV.out.2.2.2.2.2.2.1), (HIV.out.2.2.2.2.2.2.2.1), (HIV.out.2.2.2.2.2.2.2.2.1), (HIV.out.2.2.2.2.2.2.2.2.2.1), (HIV.out.2.2.2.2.2.2.2.2.2.2.1), (HIV.out.2.2.2.2.2.2.2.2.2.2.2.1), (HIV.out.2.2.2.2.2.2.2.2.2.2.2.2.1), (HIV.out.2.2.2.2.2.2.2.2.2.2.2.2.2.1), (HIV.out.2.2.2.2.2.2.2.2.2.2.2.2.2.2.1), (HIV.out.2.2.2.2.2.2.2.2.2.2.2.2.2.2.2.1), (HIV.out.2.2.2.2.2.2.2.2.2.2.2.2.2.2.2.2.1), (HIV.out.2.2.2.2.2.2.2.2.2.2.2.2.2.2.2.2.2.1), (HIV.out.2.2.2.2.2.2.2.2.2.2.2.2.2.2.2.2.2.2.1), (HIV.out.2.2.2.2.2.2.2.2.2.2.2.2.2.2.2.2.2.2.2.1), Lib.hid (fun _ => rfl), Lib.hid ((HIV.out.2.2.2.2.2.2.2.2.2.2.2.2.2.2.2.2.2.2.2.2.2.1).out.set_other _ _ (by dsimp only; omega)), Lib.hid ((HIV.out.2.2.2.2.2.2.2.2.2.2.2.2.2.2.2.2.2.2.2.2.2.2.1).out.set_other _ _ (by dsimp only; omega)), Lib.hid (fun h => by simp [upd] at h), Lib.hid (fun _ => hrx.set 2 _), Lib.hid ((HIV.out.2.2.2.2.2.2.2.2.2.2.2.2.2.2.2.2.2.2.2.2.2.2.2.2.2.1).out.set_other _ _ (by have := HZ.out; dsimp only; omega)), Lib.hid (fun h => absurd (show L 21 = false from h) (by simp [h21])), Lib.hid (fun _ => owns_same hown3.out (fun q hq _ => Below.heap_setCell _ _ _ _ (by dsimp only; omega))), Lib.hid (fun _ h => absurd (show L 21 = false from h) (by simp [h21])), Lib.hid (fun _ => by rw [upd_other _ (by decide), upd_other _ (by decide)]; exact ⟨after_on HLL.out 1 rfl, h21⟩), Lib.hid ((HIV.out.2.2.2.2.2.2.2.2.2.2.2.2.2.2.2.2.2.2.2.2.2.2.2.2.2.2.2.2.2.2.1).out.setCell (by dsimp only; omega) _), Lib.hid (by simpa [World.setCell] using (HIV.out.2.2.2.2.2.2.2.2.2.2.2.2.2.2.2.2.2.2.2.2.2.2.2.2.2.2.2.2.2.2.2).out)⟩
    · obtain rfl : j = ks.length := by omega
      have hown := HO.out
      rw [List.take_length] at hown
      obtain ⟨p, c, rfl, hle, hkn⟩ := knots_of_owns (trulyK_length bits 0 ks) hown
      clear hown HO
      go_wp2_with (first | (refine load_row rfl 25 _ rfl _ rfl 25 _ _ G2.out Try.underlying25 rfl (by kernel_rfl) ?_) | (refine store_row rfl 25 _ _ rfl _ #[.slice p1 long.length c1, .int .i64 sz, .slice p ks.length c] #[.slice none 0 0, .int .i64 0, .slice none 0 0] _ rfl rfl G1.out (by kernel_rfl) rfl (by simp [Value.oneCell']) ?_))
      exact bodyPost_ret (v := .agg #[.slice p1 long.length c1, .int .i64 sz, .slice p ks.length c]) (results_cell_row Try.results41 _ _ _ _ _ _ _ rfl (G1.out.setRow _) Try.underlying25 rfl (by kernel_rfl)) rfl
        ⟨p, c, by rw [trulyK_length], ⟨HH.out.l.below (below_setRow GB.out (Nat.le_succ _) _), hkn _ (fun g hg _ => _root_.Go.setRow_other _ _ _ _ (by omega)), HH.out.b1, by rw [trulyK_length]; exact HH.out.b2⟩, by rw [trulyK_length]; exact hle, below_setRow GB.out (Nat.le_succ _) _⟩

end Go.Proofs.Ytnnlbbmimdohoaa
