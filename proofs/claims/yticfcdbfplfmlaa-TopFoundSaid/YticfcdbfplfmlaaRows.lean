/-
  No cell of these rows narrows 'for every input' (looked for: loops, veiled, ifaces, maps, wideKeys, modest, calm, conditions, laid).
  DERIVED. THE GIVEN ROWS OF THIS SEAT. 4 by the template 'for every input the law returns true; each argument reads behind the call as it read before'; 0 by the template 'total and deterministic' (their statements: YticfcdbfplfmlaaTotals.lean).
  GIVEN WITH THE SEED: the statements are not yours to turn. If you find one false, say at which input.
  Laid BY PROGRAM, IN A SANDBOX (cutbox-rows.mjs): the forced cells as the released guide's own fill.sh prints them over the translation 9a28c04b5dab5846… (all of the seat's roots in one cut). By AI agents, Wed Nov 11 2026. No macro, syntax, notation, axiom, sorry.
-/
import Derived.Test.YticfcdbfplfmlaaChecked
import GoSem.Claim
import GoSem.ClaimJoined
import GoSem.ClaimMapViews
import Derived.JoinedTies
import Derived.KernelRfl
namespace Go.Proofs.Yticfcdbfplfmlaa
/- THE CELL 'sum', in the pinned program and in every row, IS THE sha256 OF THE DUMP (.gsa) THAT YticfcdbfplfmlaaProg.lean LOADS. Nothing in Lean hashes anything: it is a label: what it is worth is what the hold of that sum in a sandbox is worth. -/
noncomputable def Try.pinned : Pinned := { name := "yticfcdbfplfmlaa", sum := "9a28c04b5dab58461bfb6c8235bc323c6a058378879d1df215bbf17a4a86ecd7", checked := Try.checked }
namespace Rows
def none {H : Type} : Left H := { results := [], args := [] }

/-- 'luciferlaw01.PeelKnown': WHATEVER THE INPUT: true; the input reads as it did. -/
def peelKnownSpec : ChangeSpec := { name := "peelKnown", fn := fun _ => fun
  | [] => { results := [.lit (.bool true)], args := [] }
  | _ => none }
def peelKnownRow : OpenClaim := { program := "yticfcdbfplfmlaa", sum := "9a28c04b5dab58461bfb6c8235bc323c6a058378879d1df215bbf17a4a86ecd7", func := "lucifer/luciferlaw01.PeelKnown", spec := "peelKnown", unfollowed := true, recurses := true, plainKeys := false, apart := false }
def PeelKnownSaid : Prop := peelKnownRow.holds Try.pinned (OpenSpec.ofChange peelKnownSpec)

/-- ITS FALSE NEIGHBOUR: 'it returns false'. Refute it at one input. -/
def peelKnownWrong : ChangeSpec := { name := "peelKnown", fn := fun _ => fun
  | [] => { results := [.lit (.bool false)], args := [] }
  | _ => none }
def PeelKnownWrongFalsely : Prop := peelKnownRow.holds Try.pinned (OpenSpec.ofChange peelKnownWrong)

/-- 'luciferlaw03.TunnelKnown': WHATEVER THE INPUT: true; the input reads as it did. -/
def tunnelKnownSpec : ChangeSpec := { name := "tunnelKnown", fn := fun _ => fun
  | [] => { results := [.lit (.bool true)], args := [] }
  | _ => none }
def tunnelKnownRow : OpenClaim := { program := "yticfcdbfplfmlaa", sum := "9a28c04b5dab58461bfb6c8235bc323c6a058378879d1df215bbf17a4a86ecd7", func := "lucifer/luciferlaw03.TunnelKnown", spec := "tunnelKnown", unfollowed := true, recurses := true, plainKeys := false, apart := false }
def TunnelKnownSaid : Prop := tunnelKnownRow.holds Try.pinned (OpenSpec.ofChange tunnelKnownSpec)

/-- ITS FALSE NEIGHBOUR: 'it returns false'. Refute it at one input. -/
def tunnelKnownWrong : ChangeSpec := { name := "tunnelKnown", fn := fun _ => fun
  | [] => { results := [.lit (.bool false)], args := [] }
  | _ => none }
def TunnelKnownWrongFalsely : Prop := tunnelKnownRow.holds Try.pinned (OpenSpec.ofChange tunnelKnownWrong)

/-- 'luciferlaw05.FillKnown': WHATEVER THE INPUT: true; the input reads as it did. -/
def fillKnownSpec : ChangeSpec := { name := "fillKnown", fn := fun _ => fun
  | [] => { results := [.lit (.bool true)], args := [] }
  | _ => none }
def fillKnownRow : OpenClaim := { program := "yticfcdbfplfmlaa", sum := "9a28c04b5dab58461bfb6c8235bc323c6a058378879d1df215bbf17a4a86ecd7", func := "lucifer/luciferlaw05.FillKnown", spec := "fillKnown", unfollowed := true, recurses := true, plainKeys := false, apart := false }
def FillKnownSaid : Prop := fillKnownRow.holds Try.pinned (OpenSpec.ofChange fillKnownSpec)

/-- ITS FALSE NEIGHBOUR: 'it returns false'. Refute it at one input. -/
def fillKnownWrong : ChangeSpec := { name := "fillKnown", fn := fun _ => fun
  | [] => { results := [.lit (.bool false)], args := [] }
  | _ => none }
def FillKnownWrongFalsely : Prop := fillKnownRow.holds Try.pinned (OpenSpec.ofChange fillKnownWrong)

/-- 'lucifertop.TopFound': WHATEVER THE INPUT: true; the input reads as it did. -/
def topFoundSpec : ChangeSpec := { name := "topFound", fn := fun _ => fun
  | [d1, d2, d3, d4] => { results := [.lit (.bool true)], args := [d1, d2, d3, d4] }
  | _ => none }
def topFoundRow : OpenClaim := { program := "yticfcdbfplfmlaa", sum := "9a28c04b5dab58461bfb6c8235bc323c6a058378879d1df215bbf17a4a86ecd7", func := "lucifer/lucifertop.TopFound", spec := "topFound", unfollowed := true, recurses := true, plainKeys := false, apart := false }
def TopFoundSaid : Prop := topFoundRow.holds Try.pinned (OpenSpec.ofChange topFoundSpec)

/-- ITS FALSE NEIGHBOUR: 'it returns false'. Refute it at one input. -/
def topFoundWrong : ChangeSpec := { name := "topFound", fn := fun _ => fun
  | [d1, d2, d3, d4] => { results := [.lit (.bool false)], args := [d1, d2, d3, d4] }
  | _ => none }
def TopFoundWrongFalsely : Prop := topFoundRow.holds Try.pinned (OpenSpec.ofChange topFoundWrong)

/- THE SECOND FORM. 'bulk': how many values and letters a reading holds, each counted each time it is reached (what is shared counts as often as it is met; a slice's spare places count too). A statement '..UptoSaid' is the law's where the arguments, and the package variables that the reading takes, are together of bulk at most 1048576: NARROWER than '..Said'. Prove '..Said' where nothing that the law and all that it calls make is longer than what came in: it says more and counts as full. Else prove '..UptoSaid'. A law counts once. -/
mutual
def uptoBulk {H : Type} : DataW H → Nat
  | .lit (.string bytes) => bytes.length + 1
  | .lit _ => 1
  | .nil => 1
  | .ptr d => uptoBulk d + 1
  | .slice elems spare => uptoBulkAll elems + uptoBulkAll spare + 1
  | .agg parts => uptoBulkAll parts + 1
  | .iface _ d => uptoBulk d + 1
  | .map entries => uptoBulkEntries entries + 1
  | .held _ => 1
def uptoBulkAll {H : Type} : List (DataW H) → Nat
  | [] => 0
  | d :: r => uptoBulk d + uptoBulkAll r
def uptoBulkEntries {H : Type} : List (Lit × DataW H) → Nat
  | [] => 0
  | x :: r => uptoBulkEntry x + uptoBulkEntries r
def uptoBulkEntry {H : Type} : Lit × DataW H → Nat
  | (.string bytes, d) => bytes.length + uptoBulk d + 1
  | (_, d) => uptoBulk d + 1
 end
def uptoSmall : (H : Type) → List (DataW H) → Bool := fun _ ds => decide (uptoBulkAll ds ≤ 1048576)
def OpenSpec.upto (s : _root_.Go.ChangeSpec) : _root_.Go.OpenSpec := { _root_.Go.OpenSpec.ofChange s with cond := some uptoSmall }

/-- 'luciferlaw01.PeelKnown', WHERE WHAT IT READS IS OF BULK AT MOST 1048576: true; the input reads as it did. -/
def peelKnownUptoRow : OpenClaim := { program := "yticfcdbfplfmlaa", sum := "9a28c04b5dab58461bfb6c8235bc323c6a058378879d1df215bbf17a4a86ecd7", func := "lucifer/luciferlaw01.PeelKnown", spec := "peelKnown", unfollowed := true, recurses := true, plainKeys := false, apart := false, narrowed := true }
def PeelKnownUptoSaid : Prop := peelKnownUptoRow.holds Try.pinned (OpenSpec.upto peelKnownSpec)

/-- 'luciferlaw03.TunnelKnown', WHERE WHAT IT READS IS OF BULK AT MOST 1048576: true; the input reads as it did. -/
def tunnelKnownUptoRow : OpenClaim := { program := "yticfcdbfplfmlaa", sum := "9a28c04b5dab58461bfb6c8235bc323c6a058378879d1df215bbf17a4a86ecd7", func := "lucifer/luciferlaw03.TunnelKnown", spec := "tunnelKnown", unfollowed := true, recurses := true, plainKeys := false, apart := false, narrowed := true }
def TunnelKnownUptoSaid : Prop := tunnelKnownUptoRow.holds Try.pinned (OpenSpec.upto tunnelKnownSpec)

/-- 'luciferlaw05.FillKnown', WHERE WHAT IT READS IS OF BULK AT MOST 1048576: true; the input reads as it did. -/
def fillKnownUptoRow : OpenClaim := { program := "yticfcdbfplfmlaa", sum := "9a28c04b5dab58461bfb6c8235bc323c6a058378879d1df215bbf17a4a86ecd7", func := "lucifer/luciferlaw05.FillKnown", spec := "fillKnown", unfollowed := true, recurses := true, plainKeys := false, apart := false, narrowed := true }
def FillKnownUptoSaid : Prop := fillKnownUptoRow.holds Try.pinned (OpenSpec.upto fillKnownSpec)

/-- 'lucifertop.TopFound', WHERE WHAT IT READS IS OF BULK AT MOST 1048576: true; the input reads as it did. -/
def topFoundUptoRow : OpenClaim := { program := "yticfcdbfplfmlaa", sum := "9a28c04b5dab58461bfb6c8235bc323c6a058378879d1df215bbf17a4a86ecd7", func := "lucifer/lucifertop.TopFound", spec := "topFound", unfollowed := true, recurses := true, plainKeys := false, apart := false, narrowed := true }
def TopFoundUptoSaid : Prop := topFoundUptoRow.holds Try.pinned (OpenSpec.upto topFoundSpec)

end Rows
end Go.Proofs.Yticfcdbfplfmlaa
