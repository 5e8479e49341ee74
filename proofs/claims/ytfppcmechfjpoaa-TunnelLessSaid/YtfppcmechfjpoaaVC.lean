/- The law's own helpers of layer 3: what the calls return of the chapter's books. -/
import Derived.Test.YtfppcmechfjpoaaVAB
namespace Go.Proofs.Ytfppcmechfjpoaa
open Go.RowKit Go.Maps

theorem exDries (w : World) (pp : Option Addr) (cp : Nat) (pf : Option Addr) (cf : Nat) (ms : List FrM) (hB : BkAt w pp pf exP ms) (hf : frsM ms = (exF 18 50)) (q : Option Addr) (c : Nat) (hl : IntsAt w q [2, 2]) : Calls Try.prog 19 #[.agg #[.slice pp exP.length cp, .slice pf ms.length cf], .slice q 2 c, .int .i64 2] w fun e w' => e = .returned (.tuple #[.agg #[.int .i64 48, .int .i64 60], .int .i64 0]) ∧ Below w.heap.size w w' := by
  have h := Dries_any pp cp pf cf exP ms w hB q c [2, 2] hl (by decide) 2
  rw [hf, show loV exP (exF 18 50) [2, 2] 2 = 48 by kernel_rfl, show hiV exP (exF 18 50) [2, 2] 2 = 60 by kernel_rfl, show frameE exP (exF 18 50) [2, 2] 2 = 0 by kernel_rfl] at h
  exact h
theorem exBest (w : World) (pp : Option Addr) (cp : Nat) (pf : Option Addr) (cf : Nat) (ms : List FrM) (hB : BkAt w pp pf exP ms) (hf : frsM ms = (exF 18 50)) : Calls Try.prog 27 #[.agg #[.slice pp exP.length cp, .slice pf ms.length cf]] w (GaveListE [2, 2] 0 w) := by
  have h := Best_any pp cp pf cf exP ms w hB
  rw [hf, show bestL exP (exF 18 50) = [2, 2] by kernel_rfl, show bestE exP (exF 18 50) = 0 by kernel_rfl] at h
  exact h
theorem exClash (w : World) (pp : Option Addr) (cp : Nat) (pf : Option Addr) (cf : Nat) (ms : List FrM) (hB : BkAt w pp pf exP ms) (hf : frsM ms = (exF 18 25)) : Calls Try.prog 33 #[.agg #[.slice pp exP.length cp, .slice pf ms.length cf]] w fun e w' => e = .returned (.tuple #[.int .i64 1, .int .i64 2, .int .i64 0]) ∧ Below w.heap.size w w' := by
  have h := Clash_any pp cp pf cf exP ms w hB
  rw [hf, show clashV exP (exF 18 25) = (1, 2, 0) by kernel_rfl] at h
  exact h
theorem exLonger (w : World) (pp : Option Addr) (cp : Nat) (pf : Option Addr) (cf : Nat) (ms : List FrM) (hB : BkAt w pp pf exP ms) (hf : frsM ms = (exF 18 50)) (q : Option Addr) (c : Nat) (hl : IntsAt w q [2, 2]) : Calls Try.prog 35 #[.agg #[.slice pp exP.length cp, .slice pf ms.length cf], .slice q 2 c, .int .i64 1, .int .i64 1] w fun e w' => e = .returned (.tuple #[.int .i64 1, .int .i64 0]) ∧ Below w.heap.size w w' := by
  have h := Longer_any pp cp pf cf exP ms w hB q c [2, 2] hl (by decide) 1 1
  rw [hf, show longV exP (exF 18 50) [2, 2] 1 1 = 1 by kernel_rfl, show longE exP (exF 18 50) [2, 2] 1 1 = 0 by kernel_rfl] at h
  exact h
theorem exLost (w : World) (pp : Option Addr) (cp : Nat) (pf : Option Addr) (cf : Nat) (ms : List FrM) (hB : BkAt w pp pf exP ms) (hf : frsM ms = exF4) : Calls Try.prog 31 #[.agg #[.slice pp exP.length cp, .slice pf ms.length cf]] w (GaveListE [3] 0 w) := by
  have h := Lost_any pp cp pf cf exP ms w hB
  rw [hf, show lostL exP exF4 = [3] by kernel_rfl, show bookE exP exF4 = 0 by kernel_rfl] at h
  exact h
theorem exKind (w : World) (pp : Option Addr) (cp : Nat) (pf : Option Addr) (cf : Nat) (ms : List FrM) (hB : BkAt w pp pf exP ms) (hf : frsM ms = (exF 18 50)) (q : Option Addr) (c : Nat) (hl : IntsAt w q [1, 3]) : Calls Try.prog 21 #[.agg #[.slice pp exP.length cp, .slice pf ms.length cf], .slice q 2 c, .int .i64 0] w fun e w' => e = .returned (.tuple #[.int .i64 2, .int .i64 0]) ∧ Below w.heap.size w w' := by
  have h := Kind_any pp cp pf cf exP ms w hB q c [1, 3] hl (by decide) 0
  rw [hf, show kindV exP (exF 18 50) [1, 3] 0 = 2 by kernel_rfl, show frameE exP (exF 18 50) [1, 3] 0 = 0 by kernel_rfl] at h
  exact h
theorem exAsk (w : World) (pp : Option Addr) (cp : Nat) (pf : Option Addr) (cf : Nat) (ms : List FrM) (hB : BkAt w pp pf smP ms) (hf : frsM ms = smF) : Calls Try.prog 37 #[.agg #[.slice pp smP.length cp, .slice pf ms.length cf]] w fun e w' => e = .returned (.tuple #[.int .i64 1, .int .i64 0]) ∧ Below w.heap.size w w' := by
  have h := Ask_any pp cp pf cf smP ms w hB
  rw [hf, show askV smP smF = 1 by kernel_rfl, show bookE smP smF = 0 by kernel_rfl] at h
  exact h
theorem exMost (w : World) (pp : Option Addr) (cp : Nat) (pf : Option Addr) (cf : Nat) (ms : List FrM) (hB : BkAt w pp pf exP ms) (hf : frsM ms = (exF 18 25)) : Calls Try.prog 29 #[.agg #[.slice pp exP.length cp, .slice pf ms.length cf]] w (GaveLists [2, 0] [0, 2] 0 w) := by
  have h := Most_any pp cp pf cf exP ms w hB
  rw [hf, show mostL exP (exF 18 25) = [2, 0] by kernel_rfl, show mostF exP (exF 18 25) = [0, 2] by kernel_rfl, show bookE exP (exF 18 25) = 0 by kernel_rfl] at h
  exact h
theorem exHeat (w : World) (pp : Option Addr) (cp : Nat) (pf : Option Addr) (cf : Nat) (ms : List FrM) (hB : BkAt w pp pf exP ms) (hf : frsM ms = (exF 18 50)) (q : Option Addr) (c : Nat) (hl : IntsAt w q [2, 2]) : Calls Try.prog 15 #[.agg #[.slice pp exP.length cp, .slice pf ms.length cf], .slice q 2 c] w fun e w' => e = .returned (.tuple #[.int .i64 11, .int .i64 0]) ∧ Below w.heap.size w w' := by
  have h := Heat_any pp cp pf cf exP ms w hB q c [2, 2] hl (by decide)
  rw [hf, show heatV exP (exF 18 50) [2, 2] = 11 by kernel_rfl, show setE exP (exF 18 50) [2, 2] = 0 by kernel_rfl] at h
  exact h
theorem exGood (w : World) (pp : Option Addr) (cp : Nat) (pf : Option Addr) (cf : Nat) (ms : List FrM) (hB : BkAt w pp pf exP ms) (hf : frsM ms = (exF 18 50)) (q : Option Addr) (c : Nat) (hl : IntsAt w q [3, 0]) : Calls Try.prog 23 #[.agg #[.slice pp exP.length cp, .slice pf ms.length cf], .slice q 2 c] w (GaveListE [0, 1] 0 w) := by
  have h := Good_any pp cp pf cf exP ms w hB q c [3, 0] hl (by decide)
  rw [hf, show goodV exP (exF 18 50) [3, 0] = [0, 1] by kernel_rfl, show setE exP (exF 18 50) [3, 0] = 0 by kernel_rfl] at h
  exact h
end Go.Proofs.Ytfppcmechfjpoaa
