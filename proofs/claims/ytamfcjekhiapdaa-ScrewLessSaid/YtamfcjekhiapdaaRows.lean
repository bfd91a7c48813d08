/-
  No cell of these rows narrows 'for every input' (looked for: loops, veiled, ifaces, maps, wideKeys, modest, calm, conditions, laid).
  DERIVED. THE GIVEN ROWS OF THIS SEAT. 13 by the template 'for every input the law returns true; each argument reads behind the call as it read before'; 0 by the template 'total and deterministic' (their statements: YtamfcjekhiapdaaTotals.lean).
  GIVEN WITH THE SEED: the statements are not yours to turn. If you find one false, say at which input.
  Laid BY PROGRAM, IN A SANDBOX (cutbox-rows.mjs): the forced cells as the released guide's own fill.sh prints them over the translation afcdfb6da29ff5d0… (all of the seat's roots in one cut). By AI agents, Wed Nov 11 2026. No macro, syntax, notation, axiom, sorry.
-/
import Derived.Test.YtamfcjekhiapdaaChecked
import GoSem.Claim
import GoSem.ClaimJoined
import GoSem.ClaimMapViews
import Derived.JoinedTies
import Derived.KernelRfl
namespace Go.Proofs.Ytamfcjekhiapdaa
/- THE CELL 'sum', in the pinned program and in every row, IS THE sha256 OF THE DUMP (.gsa) THAT YtamfcjekhiapdaaProg.lean LOADS. Nothing in Lean hashes anything: it is a label: what it is worth is what the hold of that sum in a sandbox is worth. -/
noncomputable def Try.pinned : Pinned := { name := "ytamfcjekhiapdaa", sum := "afcdfb6da29ff5d099d0a1209f0c8da87e7221aacb74099e3272dc80a01b6a8d", checked := Try.checked }
namespace Rows
def none {H : Type} : Left H := { results := [], args := [] }

/-- 'meniscuslaw04.ScrewPlaces': WHATEVER THE INPUT: true; the input reads as it did. -/
def screwPlacesSpec : ChangeSpec := { name := "screwPlaces", fn := fun _ => fun
  | [d1, d2, d3] => { results := [.lit (.bool true)], args := [d1, d2, d3] }
  | _ => none }
def screwPlacesRow : OpenClaim := { program := "ytamfcjekhiapdaa", sum := "afcdfb6da29ff5d099d0a1209f0c8da87e7221aacb74099e3272dc80a01b6a8d", func := "meniscus/meniscuslaw04.ScrewPlaces", spec := "screwPlaces", unfollowed := true, recurses := true, plainKeys := false, apart := false }
def ScrewPlacesSaid : Prop := screwPlacesRow.holds Try.pinned (OpenSpec.ofChange screwPlacesSpec)

/-- ITS FALSE NEIGHBOUR: 'it returns false'. Refute it at one input. -/
def screwPlacesWrong : ChangeSpec := { name := "screwPlaces", fn := fun _ => fun
  | [d1, d2, d3] => { results := [.lit (.bool false)], args := [d1, d2, d3] }
  | _ => none }
def ScrewPlacesWrongFalsely : Prop := screwPlacesRow.holds Try.pinned (OpenSpec.ofChange screwPlacesWrong)

/-- 'meniscuslaw04.ScrewOuts': WHATEVER THE INPUT: true; the input reads as it did. -/
def screwOutsSpec : ChangeSpec := { name := "screwOuts", fn := fun _ => fun
  | [d1, d2, d3, d4] => { results := [.lit (.bool true)], args := [d1, d2, d3, d4] }
  | _ => none }
def screwOutsRow : OpenClaim := { program := "ytamfcjekhiapdaa", sum := "afcdfb6da29ff5d099d0a1209f0c8da87e7221aacb74099e3272dc80a01b6a8d", func := "meniscus/meniscuslaw04.ScrewOuts", spec := "screwOuts", unfollowed := true, recurses := true, plainKeys := false, apart := false }
def ScrewOutsSaid : Prop := screwOutsRow.holds Try.pinned (OpenSpec.ofChange screwOutsSpec)

/-- ITS FALSE NEIGHBOUR: 'it returns false'. Refute it at one input. -/
def screwOutsWrong : ChangeSpec := { name := "screwOuts", fn := fun _ => fun
  | [d1, d2, d3, d4] => { results := [.lit (.bool false)], args := [d1, d2, d3, d4] }
  | _ => none }
def ScrewOutsWrongFalsely : Prop := screwOutsRow.holds Try.pinned (OpenSpec.ofChange screwOutsWrong)

/-- 'meniscuslaw04.ScrewRights': WHATEVER THE INPUT: true; the input reads as it did. -/
def screwRightsSpec : ChangeSpec := { name := "screwRights", fn := fun _ => fun
  | [d1, d2, d3] => { results := [.lit (.bool true)], args := [d1, d2, d3] }
  | _ => none }
def screwRightsRow : OpenClaim := { program := "ytamfcjekhiapdaa", sum := "afcdfb6da29ff5d099d0a1209f0c8da87e7221aacb74099e3272dc80a01b6a8d", func := "meniscus/meniscuslaw04.ScrewRights", spec := "screwRights", unfollowed := true, recurses := true, plainKeys := false, apart := false }
def ScrewRightsSaid : Prop := screwRightsRow.holds Try.pinned (OpenSpec.ofChange screwRightsSpec)

/-- ITS FALSE NEIGHBOUR: 'it returns false'. Refute it at one input. -/
def screwRightsWrong : ChangeSpec := { name := "screwRights", fn := fun _ => fun
  | [d1, d2, d3] => { results := [.lit (.bool false)], args := [d1, d2, d3] }
  | _ => none }
def ScrewRightsWrongFalsely : Prop := screwRightsRow.holds Try.pinned (OpenSpec.ofChange screwRightsWrong)

/-- 'meniscuslaw04.ScrewPrints': WHATEVER THE INPUT: true; the input reads as it did. -/
def screwPrintsSpec : ChangeSpec := { name := "screwPrints", fn := fun _ => fun
  | [d1, d2] => { results := [.lit (.bool true)], args := [d1, d2] }
  | _ => none }
def screwPrintsRow : OpenClaim := { program := "ytamfcjekhiapdaa", sum := "afcdfb6da29ff5d099d0a1209f0c8da87e7221aacb74099e3272dc80a01b6a8d", func := "meniscus/meniscuslaw04.ScrewPrints", spec := "screwPrints", unfollowed := true, recurses := true, plainKeys := false, apart := false }
def ScrewPrintsSaid : Prop := screwPrintsRow.holds Try.pinned (OpenSpec.ofChange screwPrintsSpec)

/-- ITS FALSE NEIGHBOUR: 'it returns false'. Refute it at one input. -/
def screwPrintsWrong : ChangeSpec := { name := "screwPrints", fn := fun _ => fun
  | [d1, d2] => { results := [.lit (.bool false)], args := [d1, d2] }
  | _ => none }
def ScrewPrintsWrongFalsely : Prop := screwPrintsRow.holds Try.pinned (OpenSpec.ofChange screwPrintsWrong)

/-- 'meniscuslaw04.ScrewNames': WHATEVER THE INPUT: true; the input reads as it did. -/
def screwNamesSpec : ChangeSpec := { name := "screwNames", fn := fun _ => fun
  | [] => { results := [.lit (.bool true)], args := [] }
  | _ => none }
def screwNamesRow : OpenClaim := { program := "ytamfcjekhiapdaa", sum := "afcdfb6da29ff5d099d0a1209f0c8da87e7221aacb74099e3272dc80a01b6a8d", func := "meniscus/meniscuslaw04.ScrewNames", spec := "screwNames", unfollowed := true, recurses := true, plainKeys := false, apart := false }
def ScrewNamesSaid : Prop := screwNamesRow.holds Try.pinned (OpenSpec.ofChange screwNamesSpec)

/-- ITS FALSE NEIGHBOUR: 'it returns false'. Refute it at one input. -/
def screwNamesWrong : ChangeSpec := { name := "screwNames", fn := fun _ => fun
  | [] => { results := [.lit (.bool false)], args := [] }
  | _ => none }
def ScrewNamesWrongFalsely : Prop := screwNamesRow.holds Try.pinned (OpenSpec.ofChange screwNamesWrong)

/-- 'meniscuslaw04.ScrewTruth': WHATEVER THE INPUT: true; the input reads as it did. -/
def screwTruthSpec : ChangeSpec := { name := "screwTruth", fn := fun _ => fun
  | [d1, d2, d3, d4, d5] => { results := [.lit (.bool true)], args := [d1, d2, d3, d4, d5] }
  | _ => none }
def screwTruthRow : OpenClaim := { program := "ytamfcjekhiapdaa", sum := "afcdfb6da29ff5d099d0a1209f0c8da87e7221aacb74099e3272dc80a01b6a8d", func := "meniscus/meniscuslaw04.ScrewTruth", spec := "screwTruth", unfollowed := true, recurses := true, plainKeys := false, apart := false }
def ScrewTruthSaid : Prop := screwTruthRow.holds Try.pinned (OpenSpec.ofChange screwTruthSpec)

/-- ITS FALSE NEIGHBOUR: 'it returns false'. Refute it at one input. -/
def screwTruthWrong : ChangeSpec := { name := "screwTruth", fn := fun _ => fun
  | [d1, d2, d3, d4, d5] => { results := [.lit (.bool false)], args := [d1, d2, d3, d4, d5] }
  | _ => none }
def ScrewTruthWrongFalsely : Prop := screwTruthRow.holds Try.pinned (OpenSpec.ofChange screwTruthWrong)

/-- 'meniscuslaw04.ScrewEnds': WHATEVER THE INPUT: true; the input reads as it did. -/
def screwEndsSpec : ChangeSpec := { name := "screwEnds", fn := fun _ => fun
  | [d1, d2] => { results := [.lit (.bool true)], args := [d1, d2] }
  | _ => none }
def screwEndsRow : OpenClaim := { program := "ytamfcjekhiapdaa", sum := "afcdfb6da29ff5d099d0a1209f0c8da87e7221aacb74099e3272dc80a01b6a8d", func := "meniscus/meniscuslaw04.ScrewEnds", spec := "screwEnds", unfollowed := true, recurses := true, plainKeys := false, apart := false }
def ScrewEndsSaid : Prop := screwEndsRow.holds Try.pinned (OpenSpec.ofChange screwEndsSpec)

/-- ITS FALSE NEIGHBOUR: 'it returns false'. Refute it at one input. -/
def screwEndsWrong : ChangeSpec := { name := "screwEnds", fn := fun _ => fun
  | [d1, d2] => { results := [.lit (.bool false)], args := [d1, d2] }
  | _ => none }
def ScrewEndsWrongFalsely : Prop := screwEndsRow.holds Try.pinned (OpenSpec.ofChange screwEndsWrong)

/-- 'meniscuslaw04.ScrewFewest': WHATEVER THE INPUT: true; the input reads as it did. -/
def screwFewestSpec : ChangeSpec := { name := "screwFewest", fn := fun _ => fun
  | [d1, d2, d3, d4] => { results := [.lit (.bool true)], args := [d1, d2, d3, d4] }
  | _ => none }
def screwFewestRow : OpenClaim := { program := "ytamfcjekhiapdaa", sum := "afcdfb6da29ff5d099d0a1209f0c8da87e7221aacb74099e3272dc80a01b6a8d", func := "meniscus/meniscuslaw04.ScrewFewest", spec := "screwFewest", unfollowed := true, recurses := true, plainKeys := false, apart := false }
def ScrewFewestSaid : Prop := screwFewestRow.holds Try.pinned (OpenSpec.ofChange screwFewestSpec)

/-- ITS FALSE NEIGHBOUR: 'it returns false'. Refute it at one input. -/
def screwFewestWrong : ChangeSpec := { name := "screwFewest", fn := fun _ => fun
  | [d1, d2, d3, d4] => { results := [.lit (.bool false)], args := [d1, d2, d3, d4] }
  | _ => none }
def ScrewFewestWrongFalsely : Prop := screwFewestRow.holds Try.pinned (OpenSpec.ofChange screwFewestWrong)

/-- 'meniscuslaw04.ScrewPrinted': WHATEVER THE INPUT: true; the input reads as it did. -/
def screwPrintedSpec : ChangeSpec := { name := "screwPrinted", fn := fun _ => fun
  | [d1, d2] => { results := [.lit (.bool true)], args := [d1, d2] }
  | _ => none }
def screwPrintedRow : OpenClaim := { program := "ytamfcjekhiapdaa", sum := "afcdfb6da29ff5d099d0a1209f0c8da87e7221aacb74099e3272dc80a01b6a8d", func := "meniscus/meniscuslaw04.ScrewPrinted", spec := "screwPrinted", unfollowed := true, recurses := true, plainKeys := false, apart := false }
def ScrewPrintedSaid : Prop := screwPrintedRow.holds Try.pinned (OpenSpec.ofChange screwPrintedSpec)

/-- ITS FALSE NEIGHBOUR: 'it returns false'. Refute it at one input. -/
def screwPrintedWrong : ChangeSpec := { name := "screwPrinted", fn := fun _ => fun
  | [d1, d2] => { results := [.lit (.bool false)], args := [d1, d2] }
  | _ => none }
def ScrewPrintedWrongFalsely : Prop := screwPrintedRow.holds Try.pinned (OpenSpec.ofChange screwPrintedWrong)

/-- 'meniscuslaw04.ScrewEasier': WHATEVER THE INPUT: true; the input reads as it did. -/
def screwEasierSpec : ChangeSpec := { name := "screwEasier", fn := fun _ => fun
  | [d1, d2, d3, d4, d5] => { results := [.lit (.bool true)], args := [d1, d2, d3, d4, d5] }
  | _ => none }
def screwEasierRow : OpenClaim := { program := "ytamfcjekhiapdaa", sum := "afcdfb6da29ff5d099d0a1209f0c8da87e7221aacb74099e3272dc80a01b6a8d", func := "meniscus/meniscuslaw04.ScrewEasier", spec := "screwEasier", unfollowed := true, recurses := true, plainKeys := false, apart := false }
def ScrewEasierSaid : Prop := screwEasierRow.holds Try.pinned (OpenSpec.ofChange screwEasierSpec)

/-- ITS FALSE NEIGHBOUR: 'it returns false'. Refute it at one input. -/
def screwEasierWrong : ChangeSpec := { name := "screwEasier", fn := fun _ => fun
  | [d1, d2, d3, d4, d5] => { results := [.lit (.bool false)], args := [d1, d2, d3, d4, d5] }
  | _ => none }
def ScrewEasierWrongFalsely : Prop := screwEasierRow.holds Try.pinned (OpenSpec.ofChange screwEasierWrong)

/-- 'meniscuslaw04.ScrewTurns': WHATEVER THE INPUT: true; the input reads as it did. -/
def screwTurnsSpec : ChangeSpec := { name := "screwTurns", fn := fun _ => fun
  | [d1, d2, d3, d4] => { results := [.lit (.bool true)], args := [d1, d2, d3, d4] }
  | _ => none }
def screwTurnsRow : OpenClaim := { program := "ytamfcjekhiapdaa", sum := "afcdfb6da29ff5d099d0a1209f0c8da87e7221aacb74099e3272dc80a01b6a8d", func := "meniscus/meniscuslaw04.ScrewTurns", spec := "screwTurns", unfollowed := true, recurses := true, plainKeys := false, apart := false }
def ScrewTurnsSaid : Prop := screwTurnsRow.holds Try.pinned (OpenSpec.ofChange screwTurnsSpec)

/-- ITS FALSE NEIGHBOUR: 'it returns false'. Refute it at one input. -/
def screwTurnsWrong : ChangeSpec := { name := "screwTurns", fn := fun _ => fun
  | [d1, d2, d3, d4] => { results := [.lit (.bool false)], args := [d1, d2, d3, d4] }
  | _ => none }
def ScrewTurnsWrongFalsely : Prop := screwTurnsRow.holds Try.pinned (OpenSpec.ofChange screwTurnsWrong)

/-- 'meniscuslaw04.ScrewLess': WHATEVER THE INPUT: true; the input reads as it did. -/
def screwLessSpec : ChangeSpec := { name := "screwLess", fn := fun _ => fun
  | [d1, d2, d3, d4, d5] => { results := [.lit (.bool true)], args := [d1, d2, d3, d4, d5] }
  | _ => none }
def screwLessRow : OpenClaim := { program := "ytamfcjekhiapdaa", sum := "afcdfb6da29ff5d099d0a1209f0c8da87e7221aacb74099e3272dc80a01b6a8d", func := "meniscus/meniscuslaw04.ScrewLess", spec := "screwLess", unfollowed := true, recurses := true, plainKeys := false, apart := false }
def ScrewLessSaid : Prop := screwLessRow.holds Try.pinned (OpenSpec.ofChange screwLessSpec)

/-- ITS FALSE NEIGHBOUR: 'it returns false'. Refute it at one input. -/
def screwLessWrong : ChangeSpec := { name := "screwLess", fn := fun _ => fun
  | [d1, d2, d3, d4, d5] => { results := [.lit (.bool false)], args := [d1, d2, d3, d4, d5] }
  | _ => none }
def ScrewLessWrongFalsely : Prop := screwLessRow.holds Try.pinned (OpenSpec.ofChange screwLessWrong)

/-- 'meniscuslaw04.ScrewOn': WHATEVER THE INPUT: true; the input reads as it did. -/
def screwOnSpec : ChangeSpec := { name := "screwOn", fn := fun _ => fun
  | [d1, d2] => { results := [.lit (.bool true)], args := [d1, d2] }
  | _ => none }
def screwOnRow : OpenClaim := { program := "ytamfcjekhiapdaa", sum := "afcdfb6da29ff5d099d0a1209f0c8da87e7221aacb74099e3272dc80a01b6a8d", func := "meniscus/meniscuslaw04.ScrewOn", spec := "screwOn", unfollowed := true, recurses := true, plainKeys := false, apart := false }
def ScrewOnSaid : Prop := screwOnRow.holds Try.pinned (OpenSpec.ofChange screwOnSpec)

/-- ITS FALSE NEIGHBOUR: 'it returns false'. Refute it at one input. -/
def screwOnWrong : ChangeSpec := { name := "screwOn", fn := fun _ => fun
  | [d1, d2] => { results := [.lit (.bool false)], args := [d1, d2] }
  | _ => none }
def ScrewOnWrongFalsely : Prop := screwOnRow.holds Try.pinned (OpenSpec.ofChange screwOnWrong)

/- THE SECOND FORM. 'bulk': how many values and letters a reading holds, each counted each time it is reached (what is shared counts as often as it is met; a slice's spare places count too). A statement '..UptoSaid' is the law's where the arguments, and the package variables that the reading takes, are together of bulk at most 1048576: NARROWER than '..Said'. Prove '..Said' where nothing that the law and all that it calls make is longer than what came in: it says more and counts as full. Else prove '..UptoSaid'. A law counts once. -/
mutual
def uptoBulk {H : Type} : DataW H → Nat
  | .lit (.string bytes) => bytes.length + 1
  | .lit _ => 1
  | .nil => 1
  | .ptr d => uptoBulk d + 1
  | .slice elems spare => uptoBulkAll elems + uptoBulkAll spare + 1
  | .agg parts => uptoBulkAll parts + 1
  | .iface _ d => uptoBulk d + 1
  | .map entries => uptoBulkEntries entries + 1
  | .held _ => 1
def uptoBulkAll {H : Type} : List (DataW H) → Nat
  | [] => 0
  | d :: r => uptoBulk d + uptoBulkAll r
def uptoBulkEntries {H : Type} : List (Lit × DataW H) → Nat
  | [] => 0
  | x :: r => uptoBulkEntry x + uptoBulkEntries r
def uptoBulkEntry {H : Type} : Lit × DataW H → Nat
  | (.string bytes, d) => bytes.length + uptoBulk d + 1
  | (_, d) => uptoBulk d + 1
 end
def uptoSmall : (H : Type) → List (DataW H) → Bool := fun _ ds => decide (uptoBulkAll ds ≤ 1048576)
def OpenSpec.upto (s : _root_.Go.ChangeSpec) : _root_.Go.OpenSpec := { _root_.Go.OpenSpec.ofChange s with cond := some uptoSmall }

/-- 'meniscuslaw04.ScrewPlaces', WHERE WHAT IT READS IS OF BULK AT MOST 1048576: true; the input reads as it did. -/
def screwPlacesUptoRow : OpenClaim := { program := "ytamfcjekhiapdaa", sum := "afcdfb6da29ff5d099d0a1209f0c8da87e7221aacb74099e3272dc80a01b6a8d", func := "meniscus/meniscuslaw04.ScrewPlaces", spec := "screwPlaces", unfollowed := true, recurses := true, plainKeys := false, apart := false, narrowed := true }
def ScrewPlacesUptoSaid : Prop := screwPlacesUptoRow.holds Try.pinned (OpenSpec.upto screwPlacesSpec)

/-- 'meniscuslaw04.ScrewOuts', WHERE WHAT IT READS IS OF BULK AT MOST 1048576: true; the input reads as it did. -/
def screwOutsUptoRow : OpenClaim := { program := "ytamfcjekhiapdaa", sum := "afcdfb6da29ff5d099d0a1209f0c8da87e7221aacb74099e3272dc80a01b6a8d", func := "meniscus/meniscuslaw04.ScrewOuts", spec := "screwOuts", unfollowed := true, recurses := true, plainKeys := false, apart := false, narrowed := true }
def ScrewOutsUptoSaid : Prop := screwOutsUptoRow.holds Try.pinned (OpenSpec.upto screwOutsSpec)

/-- 'meniscuslaw04.ScrewRights', WHERE WHAT IT READS IS OF BULK AT MOST 1048576: true; the input reads as it did. -/
def screwRightsUptoRow : OpenClaim := { program := "ytamfcjekhiapdaa", sum := "afcdfb6da29ff5d099d0a1209f0c8da87e7221aacb74099e3272dc80a01b6a8d", func := "meniscus/meniscuslaw04.ScrewRights", spec := "screwRights", unfollowed := true, recurses := true, plainKeys := false, apart := false, narrowed := true }
def ScrewRightsUptoSaid : Prop := screwRightsUptoRow.holds Try.pinned (OpenSpec.upto screwRightsSpec)

/-- 'meniscuslaw04.ScrewPrints', WHERE WHAT IT READS IS OF BULK AT MOST 1048576: true; the input reads as it did. -/
def screwPrintsUptoRow : OpenClaim := { program := "ytamfcjekhiapdaa", sum := "afcdfb6da29ff5d099d0a1209f0c8da87e7221aacb74099e3272dc80a01b6a8d", func := "meniscus/meniscuslaw04.ScrewPrints", spec := "screwPrints", unfollowed := true, recurses := true, plainKeys := false, apart := false, narrowed := true }
def ScrewPrintsUptoSaid : Prop := screwPrintsUptoRow.holds Try.pinned (OpenSpec.upto screwPrintsSpec)

/-- 'meniscuslaw04.ScrewNames', WHERE WHAT IT READS IS OF BULK AT MOST 1048576: true; the input reads as it did. -/
def screwNamesUptoRow : OpenClaim := { program := "ytamfcjekhiapdaa", sum := "afcdfb6da29ff5d099d0a1209f0c8da87e7221aacb74099e3272dc80a01b6a8d", func := "meniscus/meniscuslaw04.ScrewNames", spec := "screwNames", unfollowed := true, recurses := true, plainKeys := false, apart := false, narrowed := true }
def ScrewNamesUptoSaid : Prop := screwNamesUptoRow.holds Try.pinned (OpenSpec.upto screwNamesSpec)

/-- 'meniscuslaw04.ScrewTruth', WHERE WHAT IT READS IS OF BULK AT MOST 1048576: true; the input reads as it did. -/
def screwTruthUptoRow : OpenClaim := { program := "ytamfcjekhiapdaa", sum := "afcdfb6da29ff5d099d0a1209f0c8da87e7221aacb74099e3272dc80a01b6a8d", func := "meniscus/meniscuslaw04.ScrewTruth", spec := "screwTruth", unfollowed := true, recurses := true, plainKeys := false, apart := false, narrowed := true }
def ScrewTruthUptoSaid : Prop := screwTruthUptoRow.holds Try.pinned (OpenSpec.upto screwTruthSpec)

/-- 'meniscuslaw04.ScrewEnds', WHERE WHAT IT READS IS OF BULK AT MOST 1048576: true; the input reads as it did. -/
def screwEndsUptoRow : OpenClaim := { program := "ytamfcjekhiapdaa", sum := "afcdfb6da29ff5d099d0a1209f0c8da87e7221aacb74099e3272dc80a01b6a8d", func := "meniscus/meniscuslaw04.ScrewEnds", spec := "screwEnds", unfollowed := true, recurses := true, plainKeys := false, apart := false, narrowed := true }
def ScrewEndsUptoSaid : Prop := screwEndsUptoRow.holds Try.pinned (OpenSpec.upto screwEndsSpec)

/-- 'meniscuslaw04.ScrewFewest', WHERE WHAT IT READS IS OF BULK AT MOST 1048576: true; the input reads as it did. -/
def screwFewestUptoRow : OpenClaim := { program := "ytamfcjekhiapdaa", sum := "afcdfb6da29ff5d099d0a1209f0c8da87e7221aacb74099e3272dc80a01b6a8d", func := "meniscus/meniscuslaw04.ScrewFewest", spec := "screwFewest", unfollowed := true, recurses := true, plainKeys := false, apart := false, narrowed := true }
def ScrewFewestUptoSaid : Prop := screwFewestUptoRow.holds Try.pinned (OpenSpec.upto screwFewestSpec)

/-- 'meniscuslaw04.ScrewPrinted', WHERE WHAT IT READS IS OF BULK AT MOST 1048576: true; the input reads as it did. -/
def screwPrintedUptoRow : OpenClaim := { program := "ytamfcjekhiapdaa", sum := "afcdfb6da29ff5d099d0a1209f0c8da87e7221aacb74099e3272dc80a01b6a8d", func := "meniscus/meniscuslaw04.ScrewPrinted", spec := "screwPrinted", unfollowed := true, recurses := true, plainKeys := false, apart := false, narrowed := true }
def ScrewPrintedUptoSaid : Prop := screwPrintedUptoRow.holds Try.pinned (OpenSpec.upto screwPrintedSpec)

/-- 'meniscuslaw04.ScrewEasier', WHERE WHAT IT READS IS OF BULK AT MOST 1048576: true; the input reads as it did. -/
def screwEasierUptoRow : OpenClaim := { program := "ytamfcjekhiapdaa", sum := "afcdfb6da29ff5d099d0a1209f0c8da87e7221aacb74099e3272dc80a01b6a8d", func := "meniscus/meniscuslaw04.ScrewEasier", spec := "screwEasier", unfollowed := true, recurses := true, plainKeys := false, apart := false, narrowed := true }
def ScrewEasierUptoSaid : Prop := screwEasierUptoRow.holds Try.pinned (OpenSpec.upto screwEasierSpec)

/-- 'meniscuslaw04.ScrewTurns', WHERE WHAT IT READS IS OF BULK AT MOST 1048576: true; the input reads as it did. -/
def screwTurnsUptoRow : OpenClaim := { program := "ytamfcjekhiapdaa", sum := "afcdfb6da29ff5d099d0a1209f0c8da87e7221aacb74099e3272dc80a01b6a8d", func := "meniscus/meniscuslaw04.ScrewTurns", spec := "screwTurns", unfollowed := true, recurses := true, plainKeys := false, apart := false, narrowed := true }
def ScrewTurnsUptoSaid : Prop := screwTurnsUptoRow.holds Try.pinned (OpenSpec.upto screwTurnsSpec)

/-- 'meniscuslaw04.ScrewLess', WHERE WHAT IT READS IS OF BULK AT MOST 1048576: true; the input reads as it did. -/
def screwLessUptoRow : OpenClaim := { program := "ytamfcjekhiapdaa", sum := "afcdfb6da29ff5d099d0a1209f0c8da87e7221aacb74099e3272dc80a01b6a8d", func := "meniscus/meniscuslaw04.ScrewLess", spec := "screwLess", unfollowed := true, recurses := true, plainKeys := false, apart := false, narrowed := true }
def ScrewLessUptoSaid : Prop := screwLessUptoRow.holds Try.pinned (OpenSpec.upto screwLessSpec)

/-- 'meniscuslaw04.ScrewOn', WHERE WHAT IT READS IS OF BULK AT MOST 1048576: true; the input reads as it did. -/
def screwOnUptoRow : OpenClaim := { program := "ytamfcjekhiapdaa", sum := "afcdfb6da29ff5d099d0a1209f0c8da87e7221aacb74099e3272dc80a01b6a8d", func := "meniscus/meniscuslaw04.ScrewOn", spec := "screwOn", unfollowed := true, recurses := true, plainKeys := false, apart := false, narrowed := true }
def ScrewOnUptoSaid : Prop := screwOnUptoRow.holds Try.pinned (OpenSpec.upto screwOnSpec)

end Rows
end Go.Proofs.Ytamfcjekhiapdaa
