/-
  No cell of these rows narrows 'for every input' (looked for: loops, veiled, ifaces, maps, wideKeys, modest, calm, conditions, laid).
  DERIVED. THE GIVEN ROWS OF THIS SEAT. 11 by the template 'for every input the law returns true; each argument reads behind the call as it read before'; 0 by the template 'total and deterministic' (their statements: YtajkgfeockcbpaaTotals.lean).
  GIVEN WITH THE SEED: the statements are not yours to turn. If you find one false, say at which input.
  Laid BY PROGRAM, IN A SANDBOX (cutbox-rows.mjs): the forced cells as the released guide's own fill.sh prints them over the translation 4aecb20297319931… (all of the seat's roots in one cut). By AI agents, Wed Nov 11 2026. No macro, syntax, notation, axiom, sorry.
-/
import Derived.Test.YtajkgfeockcbpaaChecked
import GoSem.Claim
import GoSem.ClaimJoined
import GoSem.ClaimMapViews
import Derived.JoinedTies
import Derived.KernelRfl
namespace Go.Proofs.Ytajkgfeockcbpaa
/- THE CELL 'sum', in the pinned program and in every row, IS THE sha256 OF THE DUMP (.gsa) THAT YtajkgfeockcbpaaProg.lean LOADS. Nothing in Lean hashes anything: it is a label: what it is worth is what the hold of that sum in a sandbox is worth. -/
noncomputable def Try.pinned : Pinned := { name := "ytajkgfeockcbpaa", sum := "4aecb20297319931bbe275bab9e8272b75f7cd711c77748bf533ff827a41901e", checked := Try.checked }
namespace Rows
def none {H : Type} : Left H := { results := [], args := [] }

/-- 'luciferlaw06.YardNears': WHATEVER THE INPUT: true; the input reads as it did. -/
def yardNearsSpec : ChangeSpec := { name := "yardNears", fn := fun _ => fun
  | [d1, d2, d3] => { results := [.lit (.bool true)], args := [d1, d2, d3] }
  | _ => none }
def yardNearsRow : OpenClaim := { program := "ytajkgfeockcbpaa", sum := "4aecb20297319931bbe275bab9e8272b75f7cd711c77748bf533ff827a41901e", func := "lucifer/luciferlaw06.YardNears", spec := "yardNears", unfollowed := true, recurses := true, plainKeys := false, apart := false }
def YardNearsSaid : Prop := yardNearsRow.holds Try.pinned (OpenSpec.ofChange yardNearsSpec)

/-- ITS FALSE NEIGHBOUR: 'it returns false'. Refute it at one input. -/
def yardNearsWrong : ChangeSpec := { name := "yardNears", fn := fun _ => fun
  | [d1, d2, d3] => { results := [.lit (.bool false)], args := [d1, d2, d3] }
  | _ => none }
def YardNearsWrongFalsely : Prop := yardNearsRow.holds Try.pinned (OpenSpec.ofChange yardNearsWrong)

/-- 'luciferlaw06.YardBests': WHATEVER THE INPUT: true; the input reads as it did. -/
def yardBestsSpec : ChangeSpec := { name := "yardBests", fn := fun _ => fun
  | [d] => { results := [.lit (.bool true)], args := [d] }
  | _ => none }
def yardBestsRow : OpenClaim := { program := "ytajkgfeockcbpaa", sum := "4aecb20297319931bbe275bab9e8272b75f7cd711c77748bf533ff827a41901e", func := "lucifer/luciferlaw06.YardBests", spec := "yardBests", unfollowed := true, recurses := true, plainKeys := false, apart := false }
def YardBestsSaid : Prop := yardBestsRow.holds Try.pinned (OpenSpec.ofChange yardBestsSpec)

/-- ITS FALSE NEIGHBOUR: 'it returns false'. Refute it at one input. -/
def yardBestsWrong : ChangeSpec := { name := "yardBests", fn := fun _ => fun
  | [d] => { results := [.lit (.bool false)], args := [d] }
  | _ => none }
def YardBestsWrongFalsely : Prop := yardBestsRow.holds Try.pinned (OpenSpec.ofChange yardBestsWrong)

/-- 'luciferlaw06.YardClears': WHATEVER THE INPUT: true; the input reads as it did. -/
def yardClearsSpec : ChangeSpec := { name := "yardClears", fn := fun _ => fun
  | [d1, d2] => { results := [.lit (.bool true)], args := [d1, d2] }
  | _ => none }
def yardClearsRow : OpenClaim := { program := "ytajkgfeockcbpaa", sum := "4aecb20297319931bbe275bab9e8272b75f7cd711c77748bf533ff827a41901e", func := "lucifer/luciferlaw06.YardClears", spec := "yardClears", unfollowed := true, recurses := true, plainKeys := false, apart := false }
def YardClearsSaid : Prop := yardClearsRow.holds Try.pinned (OpenSpec.ofChange yardClearsSpec)

/-- ITS FALSE NEIGHBOUR: 'it returns false'. Refute it at one input. -/
def yardClearsWrong : ChangeSpec := { name := "yardClears", fn := fun _ => fun
  | [d1, d2] => { results := [.lit (.bool false)], args := [d1, d2] }
  | _ => none }
def YardClearsWrongFalsely : Prop := yardClearsRow.holds Try.pinned (OpenSpec.ofChange yardClearsWrong)

/-- 'luciferlaw06.YardTrue': WHATEVER THE INPUT: true; the input reads as it did. -/
def yardTrueSpec : ChangeSpec := { name := "yardTrue", fn := fun _ => fun
  | [d1, d2, d3] => { results := [.lit (.bool true)], args := [d1, d2, d3] }
  | _ => none }
def yardTrueRow : OpenClaim := { program := "ytajkgfeockcbpaa", sum := "4aecb20297319931bbe275bab9e8272b75f7cd711c77748bf533ff827a41901e", func := "lucifer/luciferlaw06.YardTrue", spec := "yardTrue", unfollowed := true, recurses := true, plainKeys := false, apart := false }
def YardTrueSaid : Prop := yardTrueRow.holds Try.pinned (OpenSpec.ofChange yardTrueSpec)

/-- ITS FALSE NEIGHBOUR: 'it returns false'. Refute it at one input. -/
def yardTrueWrong : ChangeSpec := { name := "yardTrue", fn := fun _ => fun
  | [d1, d2, d3] => { results := [.lit (.bool false)], args := [d1, d2, d3] }
  | _ => none }
def YardTrueWrongFalsely : Prop := yardTrueRow.holds Try.pinned (OpenSpec.ofChange yardTrueWrong)

/-- 'luciferlaw06.YardNear': WHATEVER THE INPUT: true; the input reads as it did. -/
def yardNearSpec : ChangeSpec := { name := "yardNear", fn := fun _ => fun
  | [d1, d2] => { results := [.lit (.bool true)], args := [d1, d2] }
  | _ => none }
def yardNearRow : OpenClaim := { program := "ytajkgfeockcbpaa", sum := "4aecb20297319931bbe275bab9e8272b75f7cd711c77748bf533ff827a41901e", func := "lucifer/luciferlaw06.YardNear", spec := "yardNear", unfollowed := true, recurses := true, plainKeys := false, apart := false }
def YardNearSaid : Prop := yardNearRow.holds Try.pinned (OpenSpec.ofChange yardNearSpec)

/-- ITS FALSE NEIGHBOUR: 'it returns false'. Refute it at one input. -/
def yardNearWrong : ChangeSpec := { name := "yardNear", fn := fun _ => fun
  | [d1, d2] => { results := [.lit (.bool false)], args := [d1, d2] }
  | _ => none }
def YardNearWrongFalsely : Prop := yardNearRow.holds Try.pinned (OpenSpec.ofChange yardNearWrong)

/-- 'luciferlaw06.YardBest': WHATEVER THE INPUT: true; the input reads as it did. -/
def yardBestSpec : ChangeSpec := { name := "yardBest", fn := fun _ => fun
  | [d1, d2] => { results := [.lit (.bool true)], args := [d1, d2] }
  | _ => none }
def yardBestRow : OpenClaim := { program := "ytajkgfeockcbpaa", sum := "4aecb20297319931bbe275bab9e8272b75f7cd711c77748bf533ff827a41901e", func := "lucifer/luciferlaw06.YardBest", spec := "yardBest", unfollowed := true, recurses := true, plainKeys := false, apart := false }
def YardBestSaid : Prop := yardBestRow.holds Try.pinned (OpenSpec.ofChange yardBestSpec)

/-- ITS FALSE NEIGHBOUR: 'it returns false'. Refute it at one input. -/
def yardBestWrong : ChangeSpec := { name := "yardBest", fn := fun _ => fun
  | [d1, d2] => { results := [.lit (.bool false)], args := [d1, d2] }
  | _ => none }
def YardBestWrongFalsely : Prop := yardBestRow.holds Try.pinned (OpenSpec.ofChange yardBestWrong)

/-- 'luciferlaw06.YardPart': WHATEVER THE INPUT: true; the input reads as it did. -/
def yardPartSpec : ChangeSpec := { name := "yardPart", fn := fun _ => fun
  | [d1, d2] => { results := [.lit (.bool true)], args := [d1, d2] }
  | _ => none }
def yardPartRow : OpenClaim := { program := "ytajkgfeockcbpaa", sum := "4aecb20297319931bbe275bab9e8272b75f7cd711c77748bf533ff827a41901e", func := "lucifer/luciferlaw06.YardPart", spec := "yardPart", unfollowed := true, recurses := true, plainKeys := false, apart := false }
def YardPartSaid : Prop := yardPartRow.holds Try.pinned (OpenSpec.ofChange yardPartSpec)

/-- ITS FALSE NEIGHBOUR: 'it returns false'. Refute it at one input. -/
def yardPartWrong : ChangeSpec := { name := "yardPart", fn := fun _ => fun
  | [d1, d2] => { results := [.lit (.bool false)], args := [d1, d2] }
  | _ => none }
def YardPartWrongFalsely : Prop := yardPartRow.holds Try.pinned (OpenSpec.ofChange yardPartWrong)

/-- 'luciferlaw06.YardClear': WHATEVER THE INPUT: true; the input reads as it did. -/
def yardClearSpec : ChangeSpec := { name := "yardClear", fn := fun _ => fun
  | [d1, d2] => { results := [.lit (.bool true)], args := [d1, d2] }
  | _ => none }
def yardClearRow : OpenClaim := { program := "ytajkgfeockcbpaa", sum := "4aecb20297319931bbe275bab9e8272b75f7cd711c77748bf533ff827a41901e", func := "lucifer/luciferlaw06.YardClear", spec := "yardClear", unfollowed := true, recurses := true, plainKeys := false, apart := false }
def YardClearSaid : Prop := yardClearRow.holds Try.pinned (OpenSpec.ofChange yardClearSpec)

/-- ITS FALSE NEIGHBOUR: 'it returns false'. Refute it at one input. -/
def yardClearWrong : ChangeSpec := { name := "yardClear", fn := fun _ => fun
  | [d1, d2] => { results := [.lit (.bool false)], args := [d1, d2] }
  | _ => none }
def YardClearWrongFalsely : Prop := yardClearRow.holds Try.pinned (OpenSpec.ofChange yardClearWrong)

/-- 'luciferlaw06.YardEasier': WHATEVER THE INPUT: true; the input reads as it did. -/
def yardEasierSpec : ChangeSpec := { name := "yardEasier", fn := fun _ => fun
  | [d1, d2, d3] => { results := [.lit (.bool true)], args := [d1, d2, d3] }
  | _ => none }
def yardEasierRow : OpenClaim := { program := "ytajkgfeockcbpaa", sum := "4aecb20297319931bbe275bab9e8272b75f7cd711c77748bf533ff827a41901e", func := "lucifer/luciferlaw06.YardEasier", spec := "yardEasier", unfollowed := true, recurses := true, plainKeys := false, apart := false }
def YardEasierSaid : Prop := yardEasierRow.holds Try.pinned (OpenSpec.ofChange yardEasierSpec)

/-- ITS FALSE NEIGHBOUR: 'it returns false'. Refute it at one input. -/
def yardEasierWrong : ChangeSpec := { name := "yardEasier", fn := fun _ => fun
  | [d1, d2, d3] => { results := [.lit (.bool false)], args := [d1, d2, d3] }
  | _ => none }
def YardEasierWrongFalsely : Prop := yardEasierRow.holds Try.pinned (OpenSpec.ofChange yardEasierWrong)

/-- 'luciferlaw06.YardPlace': WHATEVER THE INPUT: true; the input reads as it did. -/
def yardPlaceSpec : ChangeSpec := { name := "yardPlace", fn := fun _ => fun
  | [d1, d2] => { results := [.lit (.bool true)], args := [d1, d2] }
  | _ => none }
def yardPlaceRow : OpenClaim := { program := "ytajkgfeockcbpaa", sum := "4aecb20297319931bbe275bab9e8272b75f7cd711c77748bf533ff827a41901e", func := "lucifer/luciferlaw06.YardPlace", spec := "yardPlace", unfollowed := true, recurses := true, plainKeys := false, apart := false }
def YardPlaceSaid : Prop := yardPlaceRow.holds Try.pinned (OpenSpec.ofChange yardPlaceSpec)

/-- ITS FALSE NEIGHBOUR: 'it returns false'. Refute it at one input. -/
def yardPlaceWrong : ChangeSpec := { name := "yardPlace", fn := fun _ => fun
  | [d1, d2] => { results := [.lit (.bool false)], args := [d1, d2] }
  | _ => none }
def YardPlaceWrongFalsely : Prop := yardPlaceRow.holds Try.pinned (OpenSpec.ofChange yardPlaceWrong)

/-- 'luciferlaw06.YardKnown': WHATEVER THE INPUT: true; the input reads as it did. -/
def yardKnownSpec : ChangeSpec := { name := "yardKnown", fn := fun _ => fun
  | [] => { results := [.lit (.bool true)], args := [] }
  | _ => none }
def yardKnownRow : OpenClaim := { program := "ytajkgfeockcbpaa", sum := "4aecb20297319931bbe275bab9e8272b75f7cd711c77748bf533ff827a41901e", func := "lucifer/luciferlaw06.YardKnown", spec := "yardKnown", unfollowed := true, recurses := true, plainKeys := false, apart := false }
def YardKnownSaid : Prop := yardKnownRow.holds Try.pinned (OpenSpec.ofChange yardKnownSpec)

/-- ITS FALSE NEIGHBOUR: 'it returns false'. Refute it at one input. -/
def yardKnownWrong : ChangeSpec := { name := "yardKnown", fn := fun _ => fun
  | [] => { results := [.lit (.bool false)], args := [] }
  | _ => none }
def YardKnownWrongFalsely : Prop := yardKnownRow.holds Try.pinned (OpenSpec.ofChange yardKnownWrong)

/- THE SECOND FORM. 'bulk': how many values and letters a reading holds, each counted each time it is reached (what is shared counts as often as it is met; a slice's spare places count too). A statement '..UptoSaid' is the law's where the arguments, and the package variables that the reading takes, are together of bulk at most 1048576: NARROWER than '..Said'. Prove '..Said' where nothing that the law and all that it calls make is longer than what came in: it says more and counts as full. Else prove '..UptoSaid'. A law counts once. -/
mutual
def uptoBulk {H : Type} : DataW H → Nat
  | .lit (.string bytes) => bytes.length + 1
  | .lit _ => 1
  | .nil => 1
  | .ptr d => uptoBulk d + 1
  | .slice elems spare => uptoBulkAll elems + uptoBulkAll spare + 1
  | .agg parts => uptoBulkAll parts + 1
  | .iface _ d => uptoBulk d + 1
  | .map entries => uptoBulkEntries entries + 1
  | .held _ => 1
def uptoBulkAll {H : Type} : List (DataW H) → Nat
  | [] => 0
  | d :: r => uptoBulk d + uptoBulkAll r
def uptoBulkEntries {H : Type} : List (Lit × DataW H) → Nat
  | [] => 0
  | x :: r => uptoBulkEntry x + uptoBulkEntries r
def uptoBulkEntry {H : Type} : Lit × DataW H → Nat
  | (.string bytes, d) => bytes.length + uptoBulk d + 1
  | (_, d) => uptoBulk d + 1
 end
def uptoSmall : (H : Type) → List (DataW H) → Bool := fun _ ds => decide (uptoBulkAll ds ≤ 1048576)
def OpenSpec.upto (s : _root_.Go.ChangeSpec) : _root_.Go.OpenSpec := { _root_.Go.OpenSpec.ofChange s with cond := some uptoSmall }

/-- 'luciferlaw06.YardNears', WHERE WHAT IT READS IS OF BULK AT MOST 1048576: true; the input reads as it did. -/
def yardNearsUptoRow : OpenClaim := { program := "ytajkgfeockcbpaa", sum := "4aecb20297319931bbe275bab9e8272b75f7cd711c77748bf533ff827a41901e", func := "lucifer/luciferlaw06.YardNears", spec := "yardNears", unfollowed := true, recurses := true, plainKeys := false, apart := false, narrowed := true }
def YardNearsUptoSaid : Prop := yardNearsUptoRow.holds Try.pinned (OpenSpec.upto yardNearsSpec)

/-- 'luciferlaw06.YardBests', WHERE WHAT IT READS IS OF BULK AT MOST 1048576: true; the input reads as it did. -/
def yardBestsUptoRow : OpenClaim := { program := "ytajkgfeockcbpaa", sum := "4aecb20297319931bbe275bab9e8272b75f7cd711c77748bf533ff827a41901e", func := "lucifer/luciferlaw06.YardBests", spec := "yardBests", unfollowed := true, recurses := true, plainKeys := false, apart := false, narrowed := true }
def YardBestsUptoSaid : Prop := yardBestsUptoRow.holds Try.pinned (OpenSpec.upto yardBestsSpec)

/-- 'luciferlaw06.YardClears', WHERE WHAT IT READS IS OF BULK AT MOST 1048576: true; the input reads as it did. -/
def yardClearsUptoRow : OpenClaim := { program := "ytajkgfeockcbpaa", sum := "4aecb20297319931bbe275bab9e8272b75f7cd711c77748bf533ff827a41901e", func := "lucifer/luciferlaw06.YardClears", spec := "yardClears", unfollowed := true, recurses := true, plainKeys := false, apart := false, narrowed := true }
def YardClearsUptoSaid : Prop := yardClearsUptoRow.holds Try.pinned (OpenSpec.upto yardClearsSpec)

/-- 'luciferlaw06.YardTrue', WHERE WHAT IT READS IS OF BULK AT MOST 1048576: true; the input reads as it did. -/
def yardTrueUptoRow : OpenClaim := { program := "ytajkgfeockcbpaa", sum := "4aecb20297319931bbe275bab9e8272b75f7cd711c77748bf533ff827a41901e", func := "lucifer/luciferlaw06.YardTrue", spec := "yardTrue", unfollowed := true, recurses := true, plainKeys := false, apart := false, narrowed := true }
def YardTrueUptoSaid : Prop := yardTrueUptoRow.holds Try.pinned (OpenSpec.upto yardTrueSpec)

/-- 'luciferlaw06.YardNear', WHERE WHAT IT READS IS OF BULK AT MOST 1048576: true; the input reads as it did. -/
def yardNearUptoRow : OpenClaim := { program := "ytajkgfeockcbpaa", sum := "4aecb20297319931bbe275bab9e8272b75f7cd711c77748bf533ff827a41901e", func := "lucifer/luciferlaw06.YardNear", spec := "yardNear", unfollowed := true, recurses := true, plainKeys := false, apart := false, narrowed := true }
def YardNearUptoSaid : Prop := yardNearUptoRow.holds Try.pinned (OpenSpec.upto yardNearSpec)

/-- 'luciferlaw06.YardBest', WHERE WHAT IT READS IS OF BULK AT MOST 1048576: true; the input reads as it did. -/
def yardBestUptoRow : OpenClaim := { program := "ytajkgfeockcbpaa", sum := "4aecb20297319931bbe275bab9e8272b75f7cd711c77748bf533ff827a41901e", func := "lucifer/luciferlaw06.YardBest", spec := "yardBest", unfollowed := true, recurses := true, plainKeys := false, apart := false, narrowed := true }
def YardBestUptoSaid : Prop := yardBestUptoRow.holds Try.pinned (OpenSpec.upto yardBestSpec)

/-- 'luciferlaw06.YardPart', WHERE WHAT IT READS IS OF BULK AT MOST 1048576: true; the input reads as it did. -/
def yardPartUptoRow : OpenClaim := { program := "ytajkgfeockcbpaa", sum := "4aecb20297319931bbe275bab9e8272b75f7cd711c77748bf533ff827a41901e", func := "lucifer/luciferlaw06.YardPart", spec := "yardPart", unfollowed := true, recurses := true, plainKeys := false, apart := false, narrowed := true }
def YardPartUptoSaid : Prop := yardPartUptoRow.holds Try.pinned (OpenSpec.upto yardPartSpec)

/-- 'luciferlaw06.YardClear', WHERE WHAT IT READS IS OF BULK AT MOST 1048576: true; the input reads as it did. -/
def yardClearUptoRow : OpenClaim := { program := "ytajkgfeockcbpaa", sum := "4aecb20297319931bbe275bab9e8272b75f7cd711c77748bf533ff827a41901e", func := "lucifer/luciferlaw06.YardClear", spec := "yardClear", unfollowed := true, recurses := true, plainKeys := false, apart := false, narrowed := true }
def YardClearUptoSaid : Prop := yardClearUptoRow.holds Try.pinned (OpenSpec.upto yardClearSpec)

/-- 'luciferlaw06.YardEasier', WHERE WHAT IT READS IS OF BULK AT MOST 1048576: true; the input reads as it did. -/
def yardEasierUptoRow : OpenClaim := { program := "ytajkgfeockcbpaa", sum := "4aecb20297319931bbe275bab9e8272b75f7cd711c77748bf533ff827a41901e", func := "lucifer/luciferlaw06.YardEasier", spec := "yardEasier", unfollowed := true, recurses := true, plainKeys := false, apart := false, narrowed := true }
def YardEasierUptoSaid : Prop := yardEasierUptoRow.holds Try.pinned (OpenSpec.upto yardEasierSpec)

/-- 'luciferlaw06.YardPlace', WHERE WHAT IT READS IS OF BULK AT MOST 1048576: true; the input reads as it did. -/
def yardPlaceUptoRow : OpenClaim := { program := "ytajkgfeockcbpaa", sum := "4aecb20297319931bbe275bab9e8272b75f7cd711c77748bf533ff827a41901e", func := "lucifer/luciferlaw06.YardPlace", spec := "yardPlace", unfollowed := true, recurses := true, plainKeys := false, apart := false, narrowed := true }
def YardPlaceUptoSaid : Prop := yardPlaceUptoRow.holds Try.pinned (OpenSpec.upto yardPlaceSpec)

/-- 'luciferlaw06.YardKnown', WHERE WHAT IT READS IS OF BULK AT MOST 1048576: true; the input reads as it did. -/
def yardKnownUptoRow : OpenClaim := { program := "ytajkgfeockcbpaa", sum := "4aecb20297319931bbe275bab9e8272b75f7cd711c77748bf533ff827a41901e", func := "lucifer/luciferlaw06.YardKnown", spec := "yardKnown", unfollowed := true, recurses := true, plainKeys := false, apart := false, narrowed := true }
def YardKnownUptoSaid : Prop := yardKnownUptoRow.holds Try.pinned (OpenSpec.upto yardKnownSpec)

end Rows
end Go.Proofs.Ytajkgfeockcbpaa
