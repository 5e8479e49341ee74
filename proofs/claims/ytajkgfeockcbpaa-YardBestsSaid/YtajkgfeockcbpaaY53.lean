/- Layer 6, in plain lists: what is easier. -/
import Derived.Test.YtajkgfeockcbpaaY47
import Derived.Test.YtajkgfeockcbpaaY33
namespace Go.Proofs.Ytajkgfeockcbpaa
open Go.RowKit Go.Maps

/-- A yard with the same lots in which what surely is so in another one surely is so. -/
structure Easy (b x : Yb) : Prop where
  l : x.lots = b.lots
  n : ∀ i j, nearK b false i j = false → nearK x false i j = false
  s : ∀ i, servK b false i = true → servK x false i = true
theorem lotAt_same {b x : Yb} (h : x.lots = b.lots) (i : Nat) : lotAt x i = lotAt b i := by unfold lotAt; rw [h]
theorem Easy.refl (b : Yb) : Easy b b := ⟨rfl, fun _ _ h => h, fun _ h => h⟩
theorem Easy.allow {b x : Yb} (h : Easy b x) {c : Nat → Bool} (ha : allowK b false c = true) : allowK x false c = true := by
  rw [allowK_iff] at ha ⊢
  exact ⟨fun i hi hc => h.s i (ha.1 i hi hc), fun i j hi hj hij hci hcj => h.n i j (ha.2 i j hi hj hij hci hcj)⟩
theorem goods_same {b x : Yb} (h : x.lots = b.lots) (k : Bool) (c : Nat → Bool) : goodsK x k c = goodsK b k c := by
  unfold goodsK
  simp only [lotAt_same h]
theorem Easy.top {b x : Yb} (h : Easy b x) (hn : b.lots.length ≤ 7) : topK b false ≤ topK x false := by
  have h1 := (bestK_is (b := b) false hn).1
  have h2 := top_is (b := x) false (by rw [h.l]; exact hn) (c := bestK b false) (fun i hi => by rw [h.l]; exact h1.1 i hi) (h.allow h1.2)
  rw [goods_same h.l] at h2
  exact h2
def errB (b : Yb) (e : Int) : Yb := { b with err := e }
def doorB (b : Yb) (e : Int) : Yb := { b with door := e }
def buckB (b : Yb) (e : Int) : Yb := { b with bucket := e }
theorem reach_le {b x : Yb} (hl : x.lots = b.lots) (he : x.err ≤ b.err) {i : Nat} {l : List (Int × Int)} {m m' : Int} (hm : m ≤ m') (h : reachK b false i l m = true) : reachK x false i l m' = true := by
  unfold reachK away at h ⊢
  rw [List.any_eq_true] at h ⊢
  obtain ⟨s, hs, h⟩ := h
  refine ⟨s, hs, ?_⟩
  rw [lotAt_same hl]
  simp only [Bool.false_eq_true, if_false, decide_eq_true_eq, farHi] at h ⊢
  omega
theorem serv_le {b x : Yb} (hl : x.lots = b.lots) (he : x.err ≤ b.err) (h1 : b.door ≤ x.door) (h2 : b.bucket ≤ x.bucket) (hd : x.doors = b.doors) (hu : x.buckets = b.buckets) {i : Nat} (h : servK b false i = true) : servK x false i = true := by
  unfold servK at h ⊢
  rw [Bool.and_eq_true] at h ⊢
  rw [hd, hu]
  exact ⟨reach_le hl he h1 h.1, reach_le hl he h2 h.2⟩
theorem near_le {b x : Yb} (hl : x.lots = b.lots) (he : x.err ≤ b.err) (ha : x.apart ≤ b.apart) {i j : Nat} (h : nearK b false i j = false) : nearK x false i j = false := by
  unfold nearK betw at h ⊢
  rw [lotAt_same hl, lotAt_same hl]
  simp only [Bool.false_eq_true, if_false, decide_eq_false_iff_not, farLo] at h ⊢
  omega
theorem easy_le {b x : Yb} (hl : x.lots = b.lots) (he : x.err ≤ b.err) (ha : x.apart ≤ b.apart) (h1 : b.door ≤ x.door) (h2 : b.bucket ≤ x.bucket) (hd : x.doors = b.doors) (hu : x.buckets = b.buckets) : Easy b x :=
  ⟨hl, fun _ _ h => near_le hl he ha h, fun _ h => serv_le hl he h1 h2 hd hu h⟩
theorem easy_with (b : Yb) (s : Int × Int) : Easy b (withB b s) := by
  refine ⟨rfl, fun i j h => h, fun i h => ?_⟩
  unfold servK at h ⊢
  rw [Bool.and_eq_true] at h ⊢
  refine ⟨h.1, ?_⟩
  have h2 := h.2
  unfold reachK at h2 ⊢
  rw [List.any_eq_true] at h2 ⊢
  obtain ⟨t, ht, h3⟩ := h2
  exact ⟨t, List.mem_append_left _ ht, h3⟩
/-- The same yard but for numbers that are as great as they may be. -/
theorem num_ok {b x : Yb} (h : yardB b = true) (hl : x.lots = b.lots) (hd : x.doors = b.doors) (hu : x.buckets = b.buckets) (hs : x.spare = b.spare) (a0 : 0 ≤ x.apart) (a1 : x.apart ≤ 200) (o0 : 0 ≤ x.door) (o1 : x.door ≤ 200) (u0 : 0 ≤ x.bucket) (u1 : x.bucket ≤ 200) (e0 : 0 ≤ x.err) (e1 : x.err ≤ 20) : yardB x = true := by
  obtain ⟨k, h3⟩ := yardB_iff.1 h
  exact yardB_iff.2 ⟨⟨by rw [hl]; exact k.n1, by rw [hl]; exact k.n7, by rw [hd]; exact k.d1, by rw [hd]; exact k.d3, by rw [hu]; exact k.b4, by rw [hs]; exact k.s3, a0, a1, o0, o1, u0, u1, e0, e1, by rw [hl]; exact k.l, by rw [hd]; exact k.sd, by rw [hu]; exact k.sb, by rw [hs]; exact k.ss⟩, by rw [hu]; exact h3⟩
theorem with_ok {b : Yb} (h : yardB b = true) (hb : b.buckets.length < 3) {s : Int × Int} (hs : spB s = true) : yardB (withB b s) = true := by
  obtain ⟨k, h3⟩ := yardB_iff.1 h
  refine yardB_iff.2 ⟨⟨k.n1, k.n7, k.d1, k.d3, ?_, k.s3, k.a0, k.a1, k.o0, k.o1, k.u0, k.u1, k.e0, k.e1, k.l, k.sd, fun t ht => ?_, k.ss⟩, ?_⟩
  · show (b.buckets ++ [s]).length ≤ 4
    simp; omega
  · rcases List.mem_append.1 ht with ht | ht
    · exact k.sb t ht
    · rw [List.mem_singleton.1 ht]; exact hs
  · show (b.buckets ++ [s]).length ≤ 3
    simp; omega
theorem nums_at {w : World} {P : Yp} {b x : Yb} (h : YbAt w P b) (hl : x.lots = b.lots) (hd : x.doors = b.doors) (hu : x.buckets = b.buckets) (hs : x.spare = b.spare) : YbAt w P x := by
  obtain ⟨l, d, u, s, n1, n2, n3, n4, c1, c2, c3, c4⟩ := h
  exact ⟨by rw [hl]; exact l, by rw [hd]; exact d, by rw [hu]; exact u, by rw [hs]; exact s, by rw [hl]; exact n1, by rw [hd]; exact n2, by rw [hu]; exact n3, by rw [hs]; exact n4, by rw [hl]; exact c1, by rw [hd]; exact c2, by rw [hu]; exact c3, by rw [hs]; exact c4⟩
theorem more_at {w : World} {pl pd pb ps : Option Addr} {cl cd cb cs : Nat} {b : Yb} (h : YbAt w ⟨pl, cl, pd, cd, pb, cb, ps, cs⟩ b) {s : Int × Int} {p' : Option Addr} {c' : Nat} (hb : b.buckets.length ≤ 4) (hs : SpotsAt w p' (b.buckets ++ [s])) (hc : b.buckets.length + 1 ≤ c') : YbAt w ⟨pl, cl, pd, cd, p', c', ps, cs⟩ (withB b s) := by
  obtain ⟨l, d, u, s', n1, n2, n3, n4, c1, c2, c3, c4⟩ := h
  refine ⟨l, d, hs, s', n1, n2, ?_, n4, c1, c2, ?_, c4⟩
  · show (b.buckets ++ [s]).length < 2 ^ 61
    simp; omega
  · show (b.buckets ++ [s]).length ≤ c'
    simp; omega
end Go.Proofs.Ytajkgfeockcbpaa
