/-
  No cell of these rows narrows 'for every input' (looked for: loops, veiled, ifaces, maps, wideKeys, modest, calm, conditions, laid).
  DERIVED. THE GIVEN ROWS OF THIS SEAT. 12 by the template 'for every input the law returns true; each argument reads behind the call as it read before'; 0 by the template 'total and deterministic' (their statements: YtfppcmechfjpoaaTotals.lean).
  GIVEN WITH THE SEED: the statements are not yours to turn. If you find one false, say at which input.
  Laid BY PROGRAM, IN A SANDBOX (cutbox-rows.mjs): the forced cells as the released guide's own fill.sh prints them over the translation 4d661cf2b8677716… (all of the seat's roots in one cut). By AI agents, Wed Nov 11 2026. No macro, syntax, notation, axiom, sorry.
-/
import Derived.Test.YtfppcmechfjpoaaChecked
import GoSem.Claim
import GoSem.ClaimJoined
import GoSem.ClaimMapViews
import Derived.JoinedTies
import Derived.KernelRfl
namespace Go.Proofs.Ytfppcmechfjpoaa
/- THE CELL 'sum', in the pinned program and in every row, IS THE sha256 OF THE DUMP (.gsa) THAT YtfppcmechfjpoaaProg.lean LOADS. Nothing in Lean hashes anything: it is a label: what it is worth is what the hold of that sum in a sandbox is worth. -/
noncomputable def Try.pinned : Pinned := { name := "ytfppcmechfjpoaa", sum := "4d661cf2b86777162e8dc50ddfcf84fda61c11027c9faf1518a075c5e5a5ef0e", checked := Try.checked }
namespace Rows
def none {H : Type} : Left H := { results := [], args := [] }

/-- 'luciferlaw03.TunnelDries': WHATEVER THE INPUT: true; the input reads as it did. -/
def tunnelDriesSpec : ChangeSpec := { name := "tunnelDries", fn := fun _ => fun
  | [d1, d2, d3] => { results := [.lit (.bool true)], args := [d1, d2, d3] }
  | _ => none }
def tunnelDriesRow : OpenClaim := { program := "ytfppcmechfjpoaa", sum := "4d661cf2b86777162e8dc50ddfcf84fda61c11027c9faf1518a075c5e5a5ef0e", func := "lucifer/luciferlaw03.TunnelDries", spec := "tunnelDries", unfollowed := true, recurses := true, plainKeys := false, apart := false }
def TunnelDriesSaid : Prop := tunnelDriesRow.holds Try.pinned (OpenSpec.ofChange tunnelDriesSpec)

/-- ITS FALSE NEIGHBOUR: 'it returns false'. Refute it at one input. -/
def tunnelDriesWrong : ChangeSpec := { name := "tunnelDries", fn := fun _ => fun
  | [d1, d2, d3] => { results := [.lit (.bool false)], args := [d1, d2, d3] }
  | _ => none }
def TunnelDriesWrongFalsely : Prop := tunnelDriesRow.holds Try.pinned (OpenSpec.ofChange tunnelDriesWrong)

/-- 'luciferlaw03.TunnelBests': WHATEVER THE INPUT: true; the input reads as it did. -/
def tunnelBestsSpec : ChangeSpec := { name := "tunnelBests", fn := fun _ => fun
  | [d] => { results := [.lit (.bool true)], args := [d] }
  | _ => none }
def tunnelBestsRow : OpenClaim := { program := "ytfppcmechfjpoaa", sum := "4d661cf2b86777162e8dc50ddfcf84fda61c11027c9faf1518a075c5e5a5ef0e", func := "lucifer/luciferlaw03.TunnelBests", spec := "tunnelBests", unfollowed := true, recurses := true, plainKeys := false, apart := false }
def TunnelBestsSaid : Prop := tunnelBestsRow.holds Try.pinned (OpenSpec.ofChange tunnelBestsSpec)

/-- ITS FALSE NEIGHBOUR: 'it returns false'. Refute it at one input. -/
def tunnelBestsWrong : ChangeSpec := { name := "tunnelBests", fn := fun _ => fun
  | [d] => { results := [.lit (.bool false)], args := [d] }
  | _ => none }
def TunnelBestsWrongFalsely : Prop := tunnelBestsRow.holds Try.pinned (OpenSpec.ofChange tunnelBestsWrong)

/-- 'luciferlaw03.TunnelAsks': WHATEVER THE INPUT: true; the input reads as it did. -/
def tunnelAsksSpec : ChangeSpec := { name := "tunnelAsks", fn := fun _ => fun
  | [d1, d2, d3] => { results := [.lit (.bool true)], args := [d1, d2, d3] }
  | _ => none }
def tunnelAsksRow : OpenClaim := { program := "ytfppcmechfjpoaa", sum := "4d661cf2b86777162e8dc50ddfcf84fda61c11027c9faf1518a075c5e5a5ef0e", func := "lucifer/luciferlaw03.TunnelAsks", spec := "tunnelAsks", unfollowed := true, recurses := true, plainKeys := false, apart := false }
def TunnelAsksSaid : Prop := tunnelAsksRow.holds Try.pinned (OpenSpec.ofChange tunnelAsksSpec)

/-- ITS FALSE NEIGHBOUR: 'it returns false'. Refute it at one input. -/
def tunnelAsksWrong : ChangeSpec := { name := "tunnelAsks", fn := fun _ => fun
  | [d1, d2, d3] => { results := [.lit (.bool false)], args := [d1, d2, d3] }
  | _ => none }
def TunnelAsksWrongFalsely : Prop := tunnelAsksRow.holds Try.pinned (OpenSpec.ofChange tunnelAsksWrong)

/-- 'luciferlaw03.TunnelTrue': WHATEVER THE INPUT: true; the input reads as it did. -/
def tunnelTrueSpec : ChangeSpec := { name := "tunnelTrue", fn := fun _ => fun
  | [d1, d2, d3] => { results := [.lit (.bool true)], args := [d1, d2, d3] }
  | _ => none }
def tunnelTrueRow : OpenClaim := { program := "ytfppcmechfjpoaa", sum := "4d661cf2b86777162e8dc50ddfcf84fda61c11027c9faf1518a075c5e5a5ef0e", func := "lucifer/luciferlaw03.TunnelTrue", spec := "tunnelTrue", unfollowed := true, recurses := true, plainKeys := false, apart := false }
def TunnelTrueSaid : Prop := tunnelTrueRow.holds Try.pinned (OpenSpec.ofChange tunnelTrueSpec)

/-- ITS FALSE NEIGHBOUR: 'it returns false'. Refute it at one input. -/
def tunnelTrueWrong : ChangeSpec := { name := "tunnelTrue", fn := fun _ => fun
  | [d1, d2, d3] => { results := [.lit (.bool false)], args := [d1, d2, d3] }
  | _ => none }
def TunnelTrueWrongFalsely : Prop := tunnelTrueRow.holds Try.pinned (OpenSpec.ofChange tunnelTrueWrong)

/-- 'luciferlaw03.TunnelEnds': WHATEVER THE INPUT: true; the input reads as it did. -/
def tunnelEndsSpec : ChangeSpec := { name := "tunnelEnds", fn := fun _ => fun
  | [d1, d2, d3] => { results := [.lit (.bool true)], args := [d1, d2, d3] }
  | _ => none }
def tunnelEndsRow : OpenClaim := { program := "ytfppcmechfjpoaa", sum := "4d661cf2b86777162e8dc50ddfcf84fda61c11027c9faf1518a075c5e5a5ef0e", func := "lucifer/luciferlaw03.TunnelEnds", spec := "tunnelEnds", unfollowed := true, recurses := true, plainKeys := false, apart := false }
def TunnelEndsSaid : Prop := tunnelEndsRow.holds Try.pinned (OpenSpec.ofChange tunnelEndsSpec)

/-- ITS FALSE NEIGHBOUR: 'it returns false'. Refute it at one input. -/
def tunnelEndsWrong : ChangeSpec := { name := "tunnelEnds", fn := fun _ => fun
  | [d1, d2, d3] => { results := [.lit (.bool false)], args := [d1, d2, d3] }
  | _ => none }
def TunnelEndsWrongFalsely : Prop := tunnelEndsRow.holds Try.pinned (OpenSpec.ofChange tunnelEndsWrong)

/-- 'luciferlaw03.TunnelBest': WHATEVER THE INPUT: true; the input reads as it did. -/
def tunnelBestSpec : ChangeSpec := { name := "tunnelBest", fn := fun _ => fun
  | [d1, d2] => { results := [.lit (.bool true)], args := [d1, d2] }
  | _ => none }
def tunnelBestRow : OpenClaim := { program := "ytfppcmechfjpoaa", sum := "4d661cf2b86777162e8dc50ddfcf84fda61c11027c9faf1518a075c5e5a5ef0e", func := "lucifer/luciferlaw03.TunnelBest", spec := "tunnelBest", unfollowed := true, recurses := true, plainKeys := false, apart := false }
def TunnelBestSaid : Prop := tunnelBestRow.holds Try.pinned (OpenSpec.ofChange tunnelBestSpec)

/-- ITS FALSE NEIGHBOUR: 'it returns false'. Refute it at one input. -/
def tunnelBestWrong : ChangeSpec := { name := "tunnelBest", fn := fun _ => fun
  | [d1, d2] => { results := [.lit (.bool false)], args := [d1, d2] }
  | _ => none }
def TunnelBestWrongFalsely : Prop := tunnelBestRow.holds Try.pinned (OpenSpec.ofChange tunnelBestWrong)

/-- 'luciferlaw03.TunnelClash': WHATEVER THE INPUT: true; the input reads as it did. -/
def tunnelClashSpec : ChangeSpec := { name := "tunnelClash", fn := fun _ => fun
  | [d1, d2, d3] => { results := [.lit (.bool true)], args := [d1, d2, d3] }
  | _ => none }
def tunnelClashRow : OpenClaim := { program := "ytfppcmechfjpoaa", sum := "4d661cf2b86777162e8dc50ddfcf84fda61c11027c9faf1518a075c5e5a5ef0e", func := "lucifer/luciferlaw03.TunnelClash", spec := "tunnelClash", unfollowed := true, recurses := true, plainKeys := false, apart := false }
def TunnelClashSaid : Prop := tunnelClashRow.holds Try.pinned (OpenSpec.ofChange tunnelClashSpec)

/-- ITS FALSE NEIGHBOUR: 'it returns false'. Refute it at one input. -/
def tunnelClashWrong : ChangeSpec := { name := "tunnelClash", fn := fun _ => fun
  | [d1, d2, d3] => { results := [.lit (.bool false)], args := [d1, d2, d3] }
  | _ => none }
def TunnelClashWrongFalsely : Prop := tunnelClashRow.holds Try.pinned (OpenSpec.ofChange tunnelClashWrong)

/-- 'luciferlaw03.TunnelLess': WHATEVER THE INPUT: true; the input reads as it did. -/
def tunnelLessSpec : ChangeSpec := { name := "tunnelLess", fn := fun _ => fun
  | [d1, d2] => { results := [.lit (.bool true)], args := [d1, d2] }
  | _ => none }
def tunnelLessRow : OpenClaim := { program := "ytfppcmechfjpoaa", sum := "4d661cf2b86777162e8dc50ddfcf84fda61c11027c9faf1518a075c5e5a5ef0e", func := "lucifer/luciferlaw03.TunnelLess", spec := "tunnelLess", unfollowed := true, recurses := true, plainKeys := false, apart := false }
def TunnelLessSaid : Prop := tunnelLessRow.holds Try.pinned (OpenSpec.ofChange tunnelLessSpec)

/-- ITS FALSE NEIGHBOUR: 'it returns false'. Refute it at one input. -/
def tunnelLessWrong : ChangeSpec := { name := "tunnelLess", fn := fun _ => fun
  | [d1, d2] => { results := [.lit (.bool false)], args := [d1, d2] }
  | _ => none }
def TunnelLessWrongFalsely : Prop := tunnelLessRow.holds Try.pinned (OpenSpec.ofChange tunnelLessWrong)

/-- 'luciferlaw03.TunnelLonger': WHATEVER THE INPUT: true; the input reads as it did. -/
def tunnelLongerSpec : ChangeSpec := { name := "tunnelLonger", fn := fun _ => fun
  | [d1, d2, d3] => { results := [.lit (.bool true)], args := [d1, d2, d3] }
  | _ => none }
def tunnelLongerRow : OpenClaim := { program := "ytfppcmechfjpoaa", sum := "4d661cf2b86777162e8dc50ddfcf84fda61c11027c9faf1518a075c5e5a5ef0e", func := "lucifer/luciferlaw03.TunnelLonger", spec := "tunnelLonger", unfollowed := true, recurses := true, plainKeys := false, apart := false }
def TunnelLongerSaid : Prop := tunnelLongerRow.holds Try.pinned (OpenSpec.ofChange tunnelLongerSpec)

/-- ITS FALSE NEIGHBOUR: 'it returns false'. Refute it at one input. -/
def tunnelLongerWrong : ChangeSpec := { name := "tunnelLonger", fn := fun _ => fun
  | [d1, d2, d3] => { results := [.lit (.bool false)], args := [d1, d2, d3] }
  | _ => none }
def TunnelLongerWrongFalsely : Prop := tunnelLongerRow.holds Try.pinned (OpenSpec.ofChange tunnelLongerWrong)

/-- 'luciferlaw03.TunnelHotter': WHATEVER THE INPUT: true; the input reads as it did. -/
def tunnelHotterSpec : ChangeSpec := { name := "tunnelHotter", fn := fun _ => fun
  | [d1, d2, d3] => { results := [.lit (.bool true)], args := [d1, d2, d3] }
  | _ => none }
def tunnelHotterRow : OpenClaim := { program := "ytfppcmechfjpoaa", sum := "4d661cf2b86777162e8dc50ddfcf84fda61c11027c9faf1518a075c5e5a5ef0e", func := "lucifer/luciferlaw03.TunnelHotter", spec := "tunnelHotter", unfollowed := true, recurses := true, plainKeys := false, apart := false }
def TunnelHotterSaid : Prop := tunnelHotterRow.holds Try.pinned (OpenSpec.ofChange tunnelHotterSpec)

/-- ITS FALSE NEIGHBOUR: 'it returns false'. Refute it at one input. -/
def tunnelHotterWrong : ChangeSpec := { name := "tunnelHotter", fn := fun _ => fun
  | [d1, d2, d3] => { results := [.lit (.bool false)], args := [d1, d2, d3] }
  | _ => none }
def TunnelHotterWrongFalsely : Prop := tunnelHotterRow.holds Try.pinned (OpenSpec.ofChange tunnelHotterWrong)

/-- 'luciferlaw03.TunnelAsk': WHATEVER THE INPUT: true; the input reads as it did. -/
def tunnelAskSpec : ChangeSpec := { name := "tunnelAsk", fn := fun _ => fun
  | [d1, d2] => { results := [.lit (.bool true)], args := [d1, d2] }
  | _ => none }
def tunnelAskRow : OpenClaim := { program := "ytfppcmechfjpoaa", sum := "4d661cf2b86777162e8dc50ddfcf84fda61c11027c9faf1518a075c5e5a5ef0e", func := "lucifer/luciferlaw03.TunnelAsk", spec := "tunnelAsk", unfollowed := true, recurses := true, plainKeys := false, apart := false }
def TunnelAskSaid : Prop := tunnelAskRow.holds Try.pinned (OpenSpec.ofChange tunnelAskSpec)

/-- ITS FALSE NEIGHBOUR: 'it returns false'. Refute it at one input. -/
def tunnelAskWrong : ChangeSpec := { name := "tunnelAsk", fn := fun _ => fun
  | [d1, d2] => { results := [.lit (.bool false)], args := [d1, d2] }
  | _ => none }
def TunnelAskWrongFalsely : Prop := tunnelAskRow.holds Try.pinned (OpenSpec.ofChange tunnelAskWrong)

/-- 'luciferlaw03.TunnelKnown': WHATEVER THE INPUT: true; the input reads as it did. -/
def tunnelKnownSpec : ChangeSpec := { name := "tunnelKnown", fn := fun _ => fun
  | [] => { results := [.lit (.bool true)], args := [] }
  | _ => none }
def tunnelKnownRow : OpenClaim := { program := "ytfppcmechfjpoaa", sum := "4d661cf2b86777162e8dc50ddfcf84fda61c11027c9faf1518a075c5e5a5ef0e", func := "lucifer/luciferlaw03.TunnelKnown", spec := "tunnelKnown", unfollowed := true, recurses := true, plainKeys := false, apart := false }
def TunnelKnownSaid : Prop := tunnelKnownRow.holds Try.pinned (OpenSpec.ofChange tunnelKnownSpec)

/-- ITS FALSE NEIGHBOUR: 'it returns false'. Refute it at one input. -/
def tunnelKnownWrong : ChangeSpec := { name := "tunnelKnown", fn := fun _ => fun
  | [] => { results := [.lit (.bool false)], args := [] }
  | _ => none }
def TunnelKnownWrongFalsely : Prop := tunnelKnownRow.holds Try.pinned (OpenSpec.ofChange tunnelKnownWrong)

/- THE SECOND FORM. 'bulk': how many values and letters a reading holds, each counted each time it is reached (what is shared counts as often as it is met; a slice's spare places count too). A statement '..UptoSaid' is the law's where the arguments, and the package variables that the reading takes, are together of bulk at most 1048576: NARROWER than '..Said'. Prove '..Said' where nothing that the law and all that it calls make is longer than what came in: it says more and counts as full. Else prove '..UptoSaid'. A law counts once. -/
mutual
def uptoBulk {H : Type} : DataW H → Nat
  | .lit (.string bytes) => bytes.length + 1
  | .lit _ => 1
  | .nil => 1
  | .ptr d => uptoBulk d + 1
  | .slice elems spare => uptoBulkAll elems + uptoBulkAll spare + 1
  | .agg parts => uptoBulkAll parts + 1
  | .iface _ d => uptoBulk d + 1
  | .map entries => uptoBulkEntries entries + 1
  | .held _ => 1
def uptoBulkAll {H : Type} : List (DataW H) → Nat
  | [] => 0
  | d :: r => uptoBulk d + uptoBulkAll r
def uptoBulkEntries {H : Type} : List (Lit × DataW H) → Nat
  | [] => 0
  | x :: r => uptoBulkEntry x + uptoBulkEntries r
def uptoBulkEntry {H : Type} : Lit × DataW H → Nat
  | (.string bytes, d) => bytes.length + uptoBulk d + 1
  | (_, d) => uptoBulk d + 1
 end
def uptoSmall : (H : Type) → List (DataW H) → Bool := fun _ ds => decide (uptoBulkAll ds ≤ 1048576)
def OpenSpec.upto (s : _root_.Go.ChangeSpec) : _root_.Go.OpenSpec := { _root_.Go.OpenSpec.ofChange s with cond := some uptoSmall }

/-- 'luciferlaw03.TunnelDries', WHERE WHAT IT READS IS OF BULK AT MOST 1048576: true; the input reads as it did. -/
def tunnelDriesUptoRow : OpenClaim := { program := "ytfppcmechfjpoaa", sum := "4d661cf2b86777162e8dc50ddfcf84fda61c11027c9faf1518a075c5e5a5ef0e", func := "lucifer/luciferlaw03.TunnelDries", spec := "tunnelDries", unfollowed := true, recurses := true, plainKeys := false, apart := false, narrowed := true }
def TunnelDriesUptoSaid : Prop := tunnelDriesUptoRow.holds Try.pinned (OpenSpec.upto tunnelDriesSpec)

/-- 'luciferlaw03.TunnelBests', WHERE WHAT IT READS IS OF BULK AT MOST 1048576: true; the input reads as it did. -/
def tunnelBestsUptoRow : OpenClaim := { program := "ytfppcmechfjpoaa", sum := "4d661cf2b86777162e8dc50ddfcf84fda61c11027c9faf1518a075c5e5a5ef0e", func := "lucifer/luciferlaw03.TunnelBests", spec := "tunnelBests", unfollowed := true, recurses := true, plainKeys := false, apart := false, narrowed := true }
def TunnelBestsUptoSaid : Prop := tunnelBestsUptoRow.holds Try.pinned (OpenSpec.upto tunnelBestsSpec)

/-- 'luciferlaw03.TunnelAsks', WHERE WHAT IT READS IS OF BULK AT MOST 1048576: true; the input reads as it did. -/
def tunnelAsksUptoRow : OpenClaim := { program := "ytfppcmechfjpoaa", sum := "4d661cf2b86777162e8dc50ddfcf84fda61c11027c9faf1518a075c5e5a5ef0e", func := "lucifer/luciferlaw03.TunnelAsks", spec := "tunnelAsks", unfollowed := true, recurses := true, plainKeys := false, apart := false, narrowed := true }
def TunnelAsksUptoSaid : Prop := tunnelAsksUptoRow.holds Try.pinned (OpenSpec.upto tunnelAsksSpec)

/-- 'luciferlaw03.TunnelTrue', WHERE WHAT IT READS IS OF BULK AT MOST 1048576: true; the input reads as it did. -/
def tunnelTrueUptoRow : OpenClaim := { program := "ytfppcmechfjpoaa", sum := "4d661cf2b86777162e8dc50ddfcf84fda61c11027c9faf1518a075c5e5a5ef0e", func := "lucifer/luciferlaw03.TunnelTrue", spec := "tunnelTrue", unfollowed := true, recurses := true, plainKeys := false, apart := false, narrowed := true }
def TunnelTrueUptoSaid : Prop := tunnelTrueUptoRow.holds Try.pinned (OpenSpec.upto tunnelTrueSpec)

/-- 'luciferlaw03.TunnelEnds', WHERE WHAT IT READS IS OF BULK AT MOST 1048576: true; the input reads as it did. -/
def tunnelEndsUptoRow : OpenClaim := { program := "ytfppcmechfjpoaa", sum := "4d661cf2b86777162e8dc50ddfcf84fda61c11027c9faf1518a075c5e5a5ef0e", func := "lucifer/luciferlaw03.TunnelEnds", spec := "tunnelEnds", unfollowed := true, recurses := true, plainKeys := false, apart := false, narrowed := true }
def TunnelEndsUptoSaid : Prop := tunnelEndsUptoRow.holds Try.pinned (OpenSpec.upto tunnelEndsSpec)

/-- 'luciferlaw03.TunnelBest', WHERE WHAT IT READS IS OF BULK AT MOST 1048576: true; the input reads as it did. -/
def tunnelBestUptoRow : OpenClaim := { program := "ytfppcmechfjpoaa", sum := "4d661cf2b86777162e8dc50ddfcf84fda61c11027c9faf1518a075c5e5a5ef0e", func := "lucifer/luciferlaw03.TunnelBest", spec := "tunnelBest", unfollowed := true, recurses := true, plainKeys := false, apart := false, narrowed := true }
def TunnelBestUptoSaid : Prop := tunnelBestUptoRow.holds Try.pinned (OpenSpec.upto tunnelBestSpec)

/-- 'luciferlaw03.TunnelClash', WHERE WHAT IT READS IS OF BULK AT MOST 1048576: true; the input reads as it did. -/
def tunnelClashUptoRow : OpenClaim := { program := "ytfppcmechfjpoaa", sum := "4d661cf2b86777162e8dc50ddfcf84fda61c11027c9faf1518a075c5e5a5ef0e", func := "lucifer/luciferlaw03.TunnelClash", spec := "tunnelClash", unfollowed := true, recurses := true, plainKeys := false, apart := false, narrowed := true }
def TunnelClashUptoSaid : Prop := tunnelClashUptoRow.holds Try.pinned (OpenSpec.upto tunnelClashSpec)

/-- 'luciferlaw03.TunnelLess', WHERE WHAT IT READS IS OF BULK AT MOST 1048576: true; the input reads as it did. -/
def tunnelLessUptoRow : OpenClaim := { program := "ytfppcmechfjpoaa", sum := "4d661cf2b86777162e8dc50ddfcf84fda61c11027c9faf1518a075c5e5a5ef0e", func := "lucifer/luciferlaw03.TunnelLess", spec := "tunnelLess", unfollowed := true, recurses := true, plainKeys := false, apart := false, narrowed := true }
def TunnelLessUptoSaid : Prop := tunnelLessUptoRow.holds Try.pinned (OpenSpec.upto tunnelLessSpec)

/-- 'luciferlaw03.TunnelLonger', WHERE WHAT IT READS IS OF BULK AT MOST 1048576: true; the input reads as it did. -/
def tunnelLongerUptoRow : OpenClaim := { program := "ytfppcmechfjpoaa", sum := "4d661cf2b86777162e8dc50ddfcf84fda61c11027c9faf1518a075c5e5a5ef0e", func := "lucifer/luciferlaw03.TunnelLonger", spec := "tunnelLonger", unfollowed := true, recurses := true, plainKeys := false, apart := false, narrowed := true }
def TunnelLongerUptoSaid : Prop := tunnelLongerUptoRow.holds Try.pinned (OpenSpec.upto tunnelLongerSpec)

/-- 'luciferlaw03.TunnelHotter', WHERE WHAT IT READS IS OF BULK AT MOST 1048576: true; the input reads as it did. -/
def tunnelHotterUptoRow : OpenClaim := { program := "ytfppcmechfjpoaa", sum := "4d661cf2b86777162e8dc50ddfcf84fda61c11027c9faf1518a075c5e5a5ef0e", func := "lucifer/luciferlaw03.TunnelHotter", spec := "tunnelHotter", unfollowed := true, recurses := true, plainKeys := false, apart := false, narrowed := true }
def TunnelHotterUptoSaid : Prop := tunnelHotterUptoRow.holds Try.pinned (OpenSpec.upto tunnelHotterSpec)

/-- 'luciferlaw03.TunnelAsk', WHERE WHAT IT READS IS OF BULK AT MOST 1048576: true; the input reads as it did. -/
def tunnelAskUptoRow : OpenClaim := { program := "ytfppcmechfjpoaa", sum := "4d661cf2b86777162e8dc50ddfcf84fda61c11027c9faf1518a075c5e5a5ef0e", func := "lucifer/luciferlaw03.TunnelAsk", spec := "tunnelAsk", unfollowed := true, recurses := true, plainKeys := false, apart := false, narrowed := true }
def TunnelAskUptoSaid : Prop := tunnelAskUptoRow.holds Try.pinned (OpenSpec.upto tunnelAskSpec)

/-- 'luciferlaw03.TunnelKnown', WHERE WHAT IT READS IS OF BULK AT MOST 1048576: true; the input reads as it did. -/
def tunnelKnownUptoRow : OpenClaim := { program := "ytfppcmechfjpoaa", sum := "4d661cf2b86777162e8dc50ddfcf84fda61c11027c9faf1518a075c5e5a5ef0e", func := "lucifer/luciferlaw03.TunnelKnown", spec := "tunnelKnown", unfollowed := true, recurses := true, plainKeys := false, apart := false, narrowed := true }
def TunnelKnownUptoSaid : Prop := tunnelKnownUptoRow.holds Try.pinned (OpenSpec.upto tunnelKnownSpec)

end Rows
end Go.Proofs.Ytfppcmechfjpoaa
