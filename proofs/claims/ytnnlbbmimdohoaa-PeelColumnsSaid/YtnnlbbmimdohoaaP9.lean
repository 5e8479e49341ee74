/- The walks of layer 1: the truths of a ribbon as rounds of a range. -/
import Derived.Test.YtnnlbbmimdohoaaP8
namespace Go.Proofs.Ytnnlbbmimdohoaa
open Go.RowKit Go.Maps
attribute [local go_sem] Oper.semAt_some

/-- What the rounds over the truths read. -/
def readsR (R : Rib) (ks : List K4) (rb mb : Nat) (m : Nat) : Prop := m = rb ∨ m = mb ∨ (ks ≠ [] ∧ ∃ o, R.p2 = some ⟨m, o, none⟩)
/-- The truths of a ribbon, in their order. -/
def truthsOf (R : Rib) (long : List Int) (ks : List K4) : List (List Bool) := truthsL R long ks (List.replicate 72 false)

set_option maxRecDepth 10000 in
set_option maxHeartbeats 1600000 in
theorem truths1_iter (R : Rib) (long : List Int) (ks : List K4) (hs : R.s.length = 6) (hn2 : R.n2 = ks.length) (h3 : ks.length ≤ 3) (hko : ∀ k ∈ ks, K4Ok k) (rb mb nn : Nat) (f : Int → Int → Option (List Bool)) (hmb : R.mb = some mb) (ht : Trails R long ks f)
    (W : World) (hr : Row W rb R.A 76) (hm : MapIs W mb nn f) (hk : KnotsAt W R.p2 ks) :
    IterAt Try.prog 85 #[.pointer (some ⟨rb, 0, none⟩)] (readsR R ks rb mb) ((truthsOf R long ks).map fun c => #[cols c]) W := by
  intro l M J Jx hM hJ hJx hY h0
  show Calls _ _ #[.func (.yield l) #[] #[], .pointer (some ⟨rb, 0, none⟩)] _ _
  have HR := Lib.hid hr
  have HM := Lib.hid hm
  have HK := Lib.hid hk
  have HY := Lib.hid hY
  have H0 := Lib.hid h0
  have hlt := hr.lt
  have hlt2 := hm.lt
  clear hr hm hk hY h0
  go_enter Try.func85, Try.ntmps85
  go_wp2_with fail
  generalize hW2 : ((W.alloc (.cells #[.func (.yield l) #[] #[]] 118)).alloc (.cells #[.func (.func 86) #[] #[.pointer (some ⟨rb, 0, none⟩), .pointer (some ⟨W.heap.size, 0, none⟩), .pointer (some ⟨W.heap.size + 1, 0, none⟩)]] 119)) = W2
  have hb : Below W.heap.size W W2 := by rw [← hW2]; exact (below_alloc _ _).alloc (by simp) _
  have hE : Env R ks M W l rb W.heap.size (W.heap.size + 1) mb nn f W2 := by
    refine ⟨HR.out.below hb hlt, ?_, ?_, HM.out.of_same (hb.block _ hlt2), HK.out.below hb, .of_below hb⟩
    · rw [← hW2]; exact (Row.new _ _ _).alloc _
    · rw [← hW2]; exact Row.new' (by simp) _ _
  have ho : Off R ks M W rb W.heap.size (W.heap.size + 1) mb :=
    ⟨fun m h => (hM m h).1, fun h => (hM _ h).2 (.inl rfl), fun h => (hM _ h).2 (.inr (.inl rfl)), fun hne b o e h => (hM _ h).2 (.inr (.inr ⟨hne, o, e⟩)), Nat.le_refl _, by omega⟩
  have hcall := put_any R long ks hs hn2 h3 hko M W l rb W.heap.size (W.heap.size + 1) mb nn f ho hmb ht J Jx hJ hJx ((truthsOf R long ks).map fun c => #[cols c]) HY.out ks 0 0 (List.replicate 72 false) W2 rfl (by simp) (by simp)
    (fun j hj => by
      rw [Nat.zero_add, List.getElem?_map, List.getD_eq_getElem?_getD]
      have hj : j < (truthsOf R long ks).length := hj
      show Option.map _ (truthsOf R long ks)[j]? = some #[cols ((truthsOf R long ks)[j]?.getD [])]
      rw [List.getElem?_eq_getElem hj]; rfl) hE (hJ _ _ _ H0.out hb)
  rw [cols_def, ← zero88] at hcall
  clear hW2
  refine hcall.mono ?_
  rintro e B ⟨hkB, hJB⟩
  have HKB := Lib.hid ((KeepsBut.of_below hb).trans hkB)
  have HJB := Lib.hid (show J ((truthsOf R long ks).map fun c => #[cols c]).length B ∨ Jx B by
    rw [List.length_map]
    rcases hJB with ⟨_, h⟩ | ⟨_, h⟩
    · rw [Nat.zero_add] at h; exact .inl h
    · exact .inr h)
  have hv : ∃ v, e = .returned v := by rcases hJB with ⟨h, _⟩ | ⟨h, _⟩ <;> exact ⟨_, h⟩
  obtain ⟨v, rfl⟩ := hv
  clear hkB hJB hcall hE
  go_wp2
  go_end0
  exact ⟨⟨_, rfl⟩, HKB.out, HJB.out⟩

set_option maxRecDepth 10000 in
theorem truths_any (R : Rib) (hs : R.s.length = 6) (w : World) :
    Calls Try.prog 62 #[.agg R.A] w fun e w' => e = .returned (.func (.func 85) #[] #[.pointer (some ⟨w.heap.size, 0, none⟩)]) ∧ w' = w.alloc (.cells R.A 76) := by
  have HS := Lib.hid (size76 (R := R) hs)
  go_enter Try.func62, Try.ntmps62
  go_wp2
  go_ret
  exact ⟨rfl, rfl⟩

end Go.Proofs.Ytnnlbbmimdohoaa
