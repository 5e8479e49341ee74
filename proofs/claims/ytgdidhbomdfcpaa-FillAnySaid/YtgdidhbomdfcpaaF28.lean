/- The walks of layer 5: numbers are sorted in place. -/
import Derived.Test.YtgdidhbomdfcpaaSH
import Derived.Test.YtgdidhbomdfcpaaF18
namespace Go.Proofs.Ytgdidhbomdfcpaa
open Go.RowKit Go.Maps

def sortL (xs : List Int) : List Int := xs.mergeSort fun x y => decide (x ≤ y)
theorem sortL_length (xs : List Int) : (sortL xs).length = xs.length := List.length_mergeSort _
theorem sortL_perm (xs : List Int) : (sortL xs).Perm xs := List.mergeSort_perm _ _
theorem own_free {w : World} {base e size n g cap m : Nat} {xs : List Value} (h : w.ownsRow base e size (.slice (some ⟨g, 0, none⟩) m cap) n xs) (i : Nat) : w.frozen? ⟨g, i, none⟩ = false := by
  rcases h.2 with ⟨h', _⟩ | ⟨g', c', cur, hv, hb, hg, r⟩
  · cases h'
  · cases hv
    exact frozen_of_row w g i cur e hg
theorem keeps_sorted (w : World) (g n : Nat) (d : Array Int) (os : Array Obj) : KeepsBut (fun m => m = g) w (Sort.grow (Sort.putRow (Value.int .i64) (Sort.ahead w n) g 0 d) os) := by
  refine ⟨rfl, rfl, rfl, by simp [Sort.grow], fun k hk hn => ?_⟩
  show ((Sort.putRow (Value.int .i64) (Sort.ahead w n) g 0 d).heap ++ os)[k]? = w.heap[k]?
  rw [Array.getElem?_append_left (by simpa using hk)]
  simp only [Sort.putRow, Sort.mapBlock, Sort.heap_ahead, Array.getElem?_modify]
  rw [if_neg (fun e => hn e.symm)]
/-- Sorting numbers that lie in a block of which nothing is frozen. -/
theorem sort_ints (g cap : Nat) (xs : List Int) (w : World) (hI : IntsAt w (some ⟨g, 0, none⟩) xs) (hF : ∀ i, i < xs.length → w.frozen? ⟨g, i, none⟩ = false) (h0 : 0 < xs.length) (hn : xs.length ≤ 1000) :
    Calls Try.prog 96 #[.slice (some ⟨g, 0, none⟩) xs.length cap] w fun e w' => e = .returned (.tuple #[]) ∧ IntsAt w' (some ⟨g, 0, none⟩) (sortL xs) ∧ (∀ i, w.frozen? ⟨g, i, none⟩ = false → w'.frozen? ⟨g, i, none⟩ = false) ∧ KeepsBut (fun m => m = g) w w' := by
  have hg : ∀ i, i < xs.length → w.cell? ⟨g, i, none⟩ = some (.int .i64 (at0 xs i)) := fun i hi => by
    obtain ⟨b, o, e, c⟩ := hI i hi
    cases e
    rw [Nat.zero_add] at c
    exact c
  have hlt : g < w.heap.size := cell_block (hg 0 h0)
  have hH : Sort.Holds (Value.int .i64) w g 0 xs.toArray := fun j hj => by
    have hj' : j < xs.length := by simpa using hj
    rw [Nat.zero_add, hg j hj']
    refine ⟨?_, hF j hj'⟩
    rw [at0_lt hj', getElem!_pos _ j hj]
    simp
  refine (sort_any g 0 cap xs w hH hlt (by omega)).mono ?_
  rintro e w' ⟨rfl, n, os, rfl⟩
  have hz : g < (Sort.putRow (Value.int .i64) (Sort.ahead w n) g 0 (xs.mergeSort fun x y => decide (x ≤ y)).toArray).heap.size := by simpa using hlt
  have hb : (Sort.grow (Sort.putRow (Value.int .i64) (Sort.ahead w n) g 0 (xs.mergeSort fun x y => decide (x ≤ y)).toArray) os).heap[g]? = (Sort.putRow (Value.int .i64) (Sort.ahead w n) g 0 (xs.mergeSort fun x y => decide (x ≤ y)).toArray).heap[g]? := by
    show ((Sort.putRow (Value.int .i64) (Sort.ahead w n) g 0 _).heap ++ os)[g]? = _
    rw [Array.getElem?_append_left hz]
  refine ⟨rfl, fun i hi => ⟨g, 0, rfl, ?_⟩, fun i hi => ?_, keeps_sorted w g n _ os⟩
  rotate_left
  · refine (World.frozen?_of_block (a := ⟨g, i, none⟩) hb).trans ?_
    rw [Sort.frozen?_putRow, Sort.frozen?_ahead]
    exact hi
  have hi' : i < xs.length := by rw [sortL_length] at hi; exact hi
  have hs : (xs.mergeSort fun x y => decide (x ≤ y)).toArray.size = xs.toArray.size := by simp
  have hc := Sort.cell?_putRow (Value.int .i64) (Sort.ahead w n) g 0 xs.toArray (xs.mergeSort fun x y => decide (x ≤ y)).toArray hH hs i (by simpa using hi')
  refine (World.cell?_of_block (a := ⟨g, 0 + i, none⟩) hb).trans (hc.trans ?_)
  rw [getElem!_pos _ i (by simpa using hi'), at0_lt hi]
  simp [sortL]
end Go.Proofs.Ytgdidhbomdfcpaa
