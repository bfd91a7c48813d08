/-
  No cell of these rows narrows 'for every input' (looked for: loops, veiled, ifaces, maps, wideKeys, modest, calm, conditions, laid).
  DERIVED. THE GIVEN ROWS OF THIS SEAT. 13 by the template 'for every input the law returns true; each argument reads behind the call as it read before'; 0 by the template 'total and deterministic' (their statements: YtldhaobimaodoaaTotals.lean).
  GIVEN WITH THE SEED: the statements are not yours to turn. If you find one false, say at which input.
  Laid BY PROGRAM, IN A SANDBOX (cutbox-rows.mjs): the forced cells as the released guide's own fill.sh prints them over the translation b7c21d80e5e5f70b… (all of the seat's roots in one cut). By AI agents, Wed Nov 11 2026. No macro, syntax, notation, axiom, sorry.
-/
import Derived.Test.YtldhaobimaodoaaChecked
import GoSem.Claim
import GoSem.ClaimJoined
import GoSem.ClaimMapViews
import Derived.JoinedTies
import Derived.KernelRfl
namespace Go.Proofs.Ytldhaobimaodoaa
/- THE CELL 'sum', in the pinned program and in every row, IS THE sha256 OF THE DUMP (.gsa) THAT YtldhaobimaodoaaProg.lean LOADS. Nothing in Lean hashes anything: it is a label: what it is worth is what the hold of that sum in a sandbox is worth. -/
noncomputable def Try.pinned : Pinned := { name := "ytldhaobimaodoaa", sum := "b7c21d80e5e5f70b0643a5e5bc354ba5cb77e254bffa5f4fd6128e341c450a7a", checked := Try.checked }
namespace Rows
def none {H : Type} : Left H := { results := [], args := [] }

/-- 'meniscuslaw09.RecallProves': WHATEVER THE INPUT: true; the input reads as it did. -/
def recallProvesSpec : ChangeSpec := { name := "recallProves", fn := fun _ => fun
  | [d1, d2, d3] => { results := [.lit (.bool true)], args := [d1, d2, d3] }
  | _ => none }
def recallProvesRow : OpenClaim := { program := "ytldhaobimaodoaa", sum := "b7c21d80e5e5f70b0643a5e5bc354ba5cb77e254bffa5f4fd6128e341c450a7a", func := "meniscus/meniscuslaw09.RecallProves", spec := "recallProves", unfollowed := true, recurses := true, plainKeys := false, apart := false }
def RecallProvesSaid : Prop := recallProvesRow.holds Try.pinned (OpenSpec.ofChange recallProvesSpec)

/-- ITS FALSE NEIGHBOUR: 'it returns false'. Refute it at one input. -/
def recallProvesWrong : ChangeSpec := { name := "recallProves", fn := fun _ => fun
  | [d1, d2, d3] => { results := [.lit (.bool false)], args := [d1, d2, d3] }
  | _ => none }
def RecallProvesWrongFalsely : Prop := recallProvesRow.holds Try.pinned (OpenSpec.ofChange recallProvesWrong)

/-- 'meniscuslaw09.RecallOrders': WHATEVER THE INPUT: true; the input reads as it did. -/
def recallOrdersSpec : ChangeSpec := { name := "recallOrders", fn := fun _ => fun
  | [d] => { results := [.lit (.bool true)], args := [d] }
  | _ => none }
def recallOrdersRow : OpenClaim := { program := "ytldhaobimaodoaa", sum := "b7c21d80e5e5f70b0643a5e5bc354ba5cb77e254bffa5f4fd6128e341c450a7a", func := "meniscus/meniscuslaw09.RecallOrders", spec := "recallOrders", unfollowed := true, recurses := true, plainKeys := false, apart := false }
def RecallOrdersSaid : Prop := recallOrdersRow.holds Try.pinned (OpenSpec.ofChange recallOrdersSpec)

/-- ITS FALSE NEIGHBOUR: 'it returns false'. Refute it at one input. -/
def recallOrdersWrong : ChangeSpec := { name := "recallOrders", fn := fun _ => fun
  | [d] => { results := [.lit (.bool false)], args := [d] }
  | _ => none }
def RecallOrdersWrongFalsely : Prop := recallOrdersRow.holds Try.pinned (OpenSpec.ofChange recallOrdersWrong)

/-- 'meniscuslaw09.RecallWhens': WHATEVER THE INPUT: true; the input reads as it did. -/
def recallWhensSpec : ChangeSpec := { name := "recallWhens", fn := fun _ => fun
  | [d1, d2] => { results := [.lit (.bool true)], args := [d1, d2] }
  | _ => none }
def recallWhensRow : OpenClaim := { program := "ytldhaobimaodoaa", sum := "b7c21d80e5e5f70b0643a5e5bc354ba5cb77e254bffa5f4fd6128e341c450a7a", func := "meniscus/meniscuslaw09.RecallWhens", spec := "recallWhens", unfollowed := true, recurses := true, plainKeys := false, apart := false }
def RecallWhensSaid : Prop := recallWhensRow.holds Try.pinned (OpenSpec.ofChange recallWhensSpec)

/-- ITS FALSE NEIGHBOUR: 'it returns false'. Refute it at one input. -/
def recallWhensWrong : ChangeSpec := { name := "recallWhens", fn := fun _ => fun
  | [d1, d2] => { results := [.lit (.bool false)], args := [d1, d2] }
  | _ => none }
def RecallWhensWrongFalsely : Prop := recallWhensRow.holds Try.pinned (OpenSpec.ofChange recallWhensWrong)

/-- 'meniscuslaw09.RecallHolds': WHATEVER THE INPUT: true; the input reads as it did. -/
def recallHoldsSpec : ChangeSpec := { name := "recallHolds", fn := fun _ => fun
  | [d1, d2, d3] => { results := [.lit (.bool true)], args := [d1, d2, d3] }
  | _ => none }
def recallHoldsRow : OpenClaim := { program := "ytldhaobimaodoaa", sum := "b7c21d80e5e5f70b0643a5e5bc354ba5cb77e254bffa5f4fd6128e341c450a7a", func := "meniscus/meniscuslaw09.RecallHolds", spec := "recallHolds", unfollowed := true, recurses := true, plainKeys := false, apart := false }
def RecallHoldsSaid : Prop := recallHoldsRow.holds Try.pinned (OpenSpec.ofChange recallHoldsSpec)

/-- ITS FALSE NEIGHBOUR: 'it returns false'. Refute it at one input. -/
def recallHoldsWrong : ChangeSpec := { name := "recallHolds", fn := fun _ => fun
  | [d1, d2, d3] => { results := [.lit (.bool false)], args := [d1, d2, d3] }
  | _ => none }
def RecallHoldsWrongFalsely : Prop := recallHoldsRow.holds Try.pinned (OpenSpec.ofChange recallHoldsWrong)

/-- 'meniscuslaw09.RecallNames': WHATEVER THE INPUT: true; the input reads as it did. -/
def recallNamesSpec : ChangeSpec := { name := "recallNames", fn := fun _ => fun
  | [] => { results := [.lit (.bool true)], args := [] }
  | _ => none }
def recallNamesRow : OpenClaim := { program := "ytldhaobimaodoaa", sum := "b7c21d80e5e5f70b0643a5e5bc354ba5cb77e254bffa5f4fd6128e341c450a7a", func := "meniscus/meniscuslaw09.RecallNames", spec := "recallNames", unfollowed := true, recurses := true, plainKeys := false, apart := false }
def RecallNamesSaid : Prop := recallNamesRow.holds Try.pinned (OpenSpec.ofChange recallNamesSpec)

/-- ITS FALSE NEIGHBOUR: 'it returns false'. Refute it at one input. -/
def recallNamesWrong : ChangeSpec := { name := "recallNames", fn := fun _ => fun
  | [] => { results := [.lit (.bool false)], args := [] }
  | _ => none }
def RecallNamesWrongFalsely : Prop := recallNamesRow.holds Try.pinned (OpenSpec.ofChange recallNamesWrong)

/-- 'meniscuslaw09.RecallTruth': WHATEVER THE INPUT: true; the input reads as it did. -/
def recallTruthSpec : ChangeSpec := { name := "recallTruth", fn := fun _ => fun
  | [d1, d2, d3, d4] => { results := [.lit (.bool true)], args := [d1, d2, d3, d4] }
  | _ => none }
def recallTruthRow : OpenClaim := { program := "ytldhaobimaodoaa", sum := "b7c21d80e5e5f70b0643a5e5bc354ba5cb77e254bffa5f4fd6128e341c450a7a", func := "meniscus/meniscuslaw09.RecallTruth", spec := "recallTruth", unfollowed := true, recurses := true, plainKeys := false, apart := false }
def RecallTruthSaid : Prop := recallTruthRow.holds Try.pinned (OpenSpec.ofChange recallTruthSpec)

/-- ITS FALSE NEIGHBOUR: 'it returns false'. Refute it at one input. -/
def recallTruthWrong : ChangeSpec := { name := "recallTruth", fn := fun _ => fun
  | [d1, d2, d3, d4] => { results := [.lit (.bool false)], args := [d1, d2, d3, d4] }
  | _ => none }
def RecallTruthWrongFalsely : Prop := recallTruthRow.holds Try.pinned (OpenSpec.ofChange recallTruthWrong)

/-- 'meniscuslaw09.RecallEnds': WHATEVER THE INPUT: true; the input reads as it did. -/
def recallEndsSpec : ChangeSpec := { name := "recallEnds", fn := fun _ => fun
  | [d1, d2, d3, d4] => { results := [.lit (.bool true)], args := [d1, d2, d3, d4] }
  | _ => none }
def recallEndsRow : OpenClaim := { program := "ytldhaobimaodoaa", sum := "b7c21d80e5e5f70b0643a5e5bc354ba5cb77e254bffa5f4fd6128e341c450a7a", func := "meniscus/meniscuslaw09.RecallEnds", spec := "recallEnds", unfollowed := true, recurses := true, plainKeys := false, apart := false }
def RecallEndsSaid : Prop := recallEndsRow.holds Try.pinned (OpenSpec.ofChange recallEndsSpec)

/-- ITS FALSE NEIGHBOUR: 'it returns false'. Refute it at one input. -/
def recallEndsWrong : ChangeSpec := { name := "recallEnds", fn := fun _ => fun
  | [d1, d2, d3, d4] => { results := [.lit (.bool false)], args := [d1, d2, d3, d4] }
  | _ => none }
def RecallEndsWrongFalsely : Prop := recallEndsRow.holds Try.pinned (OpenSpec.ofChange recallEndsWrong)

/-- 'meniscuslaw09.RecallAll': WHATEVER THE INPUT: true; the input reads as it did. -/
def recallAllSpec : ChangeSpec := { name := "recallAll", fn := fun _ => fun
  | [d1, d2, d3, d4] => { results := [.lit (.bool true)], args := [d1, d2, d3, d4] }
  | _ => none }
def recallAllRow : OpenClaim := { program := "ytldhaobimaodoaa", sum := "b7c21d80e5e5f70b0643a5e5bc354ba5cb77e254bffa5f4fd6128e341c450a7a", func := "meniscus/meniscuslaw09.RecallAll", spec := "recallAll", unfollowed := true, recurses := true, plainKeys := false, apart := false }
def RecallAllSaid : Prop := recallAllRow.holds Try.pinned (OpenSpec.ofChange recallAllSpec)

/-- ITS FALSE NEIGHBOUR: 'it returns false'. Refute it at one input. -/
def recallAllWrong : ChangeSpec := { name := "recallAll", fn := fun _ => fun
  | [d1, d2, d3, d4] => { results := [.lit (.bool false)], args := [d1, d2, d3, d4] }
  | _ => none }
def RecallAllWrongFalsely : Prop := recallAllRow.holds Try.pinned (OpenSpec.ofChange recallAllWrong)

/-- 'meniscuslaw09.RecallSooner': WHATEVER THE INPUT: true; the input reads as it did. -/
def recallSoonerSpec : ChangeSpec := { name := "recallSooner", fn := fun _ => fun
  | [d1, d2, d3] => { results := [.lit (.bool true)], args := [d1, d2, d3] }
  | _ => none }
def recallSoonerRow : OpenClaim := { program := "ytldhaobimaodoaa", sum := "b7c21d80e5e5f70b0643a5e5bc354ba5cb77e254bffa5f4fd6128e341c450a7a", func := "meniscus/meniscuslaw09.RecallSooner", spec := "recallSooner", unfollowed := true, recurses := true, plainKeys := false, apart := false }
def RecallSoonerSaid : Prop := recallSoonerRow.holds Try.pinned (OpenSpec.ofChange recallSoonerSpec)

/-- ITS FALSE NEIGHBOUR: 'it returns false'. Refute it at one input. -/
def recallSoonerWrong : ChangeSpec := { name := "recallSooner", fn := fun _ => fun
  | [d1, d2, d3] => { results := [.lit (.bool false)], args := [d1, d2, d3] }
  | _ => none }
def RecallSoonerWrongFalsely : Prop := recallSoonerRow.holds Try.pinned (OpenSpec.ofChange recallSoonerWrong)

/-- 'meniscuslaw09.RecallWider': WHATEVER THE INPUT: true; the input reads as it did. -/
def recallWiderSpec : ChangeSpec := { name := "recallWider", fn := fun _ => fun
  | [d1, d2, d3] => { results := [.lit (.bool true)], args := [d1, d2, d3] }
  | _ => none }
def recallWiderRow : OpenClaim := { program := "ytldhaobimaodoaa", sum := "b7c21d80e5e5f70b0643a5e5bc354ba5cb77e254bffa5f4fd6128e341c450a7a", func := "meniscus/meniscuslaw09.RecallWider", spec := "recallWider", unfollowed := true, recurses := true, plainKeys := false, apart := false }
def RecallWiderSaid : Prop := recallWiderRow.holds Try.pinned (OpenSpec.ofChange recallWiderSpec)

/-- ITS FALSE NEIGHBOUR: 'it returns false'. Refute it at one input. -/
def recallWiderWrong : ChangeSpec := { name := "recallWider", fn := fun _ => fun
  | [d1, d2, d3] => { results := [.lit (.bool false)], args := [d1, d2, d3] }
  | _ => none }
def RecallWiderWrongFalsely : Prop := recallWiderRow.holds Try.pinned (OpenSpec.ofChange recallWiderWrong)

/-- 'meniscuslaw09.RecallFewer': WHATEVER THE INPUT: true; the input reads as it did. -/
def recallFewerSpec : ChangeSpec := { name := "recallFewer", fn := fun _ => fun
  | [d1, d2] => { results := [.lit (.bool true)], args := [d1, d2] }
  | _ => none }
def recallFewerRow : OpenClaim := { program := "ytldhaobimaodoaa", sum := "b7c21d80e5e5f70b0643a5e5bc354ba5cb77e254bffa5f4fd6128e341c450a7a", func := "meniscus/meniscuslaw09.RecallFewer", spec := "recallFewer", unfollowed := true, recurses := true, plainKeys := false, apart := false }
def RecallFewerSaid : Prop := recallFewerRow.holds Try.pinned (OpenSpec.ofChange recallFewerSpec)

/-- ITS FALSE NEIGHBOUR: 'it returns false'. Refute it at one input. -/
def recallFewerWrong : ChangeSpec := { name := "recallFewer", fn := fun _ => fun
  | [d1, d2] => { results := [.lit (.bool false)], args := [d1, d2] }
  | _ => none }
def RecallFewerWrongFalsely : Prop := recallFewerRow.holds Try.pinned (OpenSpec.ofChange recallFewerWrong)

/-- 'meniscuslaw09.RecallTurned': WHATEVER THE INPUT: true; the input reads as it did. -/
def recallTurnedSpec : ChangeSpec := { name := "recallTurned", fn := fun _ => fun
  | [d1, d2, d3] => { results := [.lit (.bool true)], args := [d1, d2, d3] }
  | _ => none }
def recallTurnedRow : OpenClaim := { program := "ytldhaobimaodoaa", sum := "b7c21d80e5e5f70b0643a5e5bc354ba5cb77e254bffa5f4fd6128e341c450a7a", func := "meniscus/meniscuslaw09.RecallTurned", spec := "recallTurned", unfollowed := true, recurses := true, plainKeys := false, apart := false }
def RecallTurnedSaid : Prop := recallTurnedRow.holds Try.pinned (OpenSpec.ofChange recallTurnedSpec)

/-- ITS FALSE NEIGHBOUR: 'it returns false'. Refute it at one input. -/
def recallTurnedWrong : ChangeSpec := { name := "recallTurned", fn := fun _ => fun
  | [d1, d2, d3] => { results := [.lit (.bool false)], args := [d1, d2, d3] }
  | _ => none }
def RecallTurnedWrongFalsely : Prop := recallTurnedRow.holds Try.pinned (OpenSpec.ofChange recallTurnedWrong)

/-- 'meniscuslaw09.RecallLater': WHATEVER THE INPUT: true; the input reads as it did. -/
def recallLaterSpec : ChangeSpec := { name := "recallLater", fn := fun _ => fun
  | [d1, d2, d3, d4] => { results := [.lit (.bool true)], args := [d1, d2, d3, d4] }
  | _ => none }
def recallLaterRow : OpenClaim := { program := "ytldhaobimaodoaa", sum := "b7c21d80e5e5f70b0643a5e5bc354ba5cb77e254bffa5f4fd6128e341c450a7a", func := "meniscus/meniscuslaw09.RecallLater", spec := "recallLater", unfollowed := true, recurses := true, plainKeys := false, apart := false }
def RecallLaterSaid : Prop := recallLaterRow.holds Try.pinned (OpenSpec.ofChange recallLaterSpec)

/-- ITS FALSE NEIGHBOUR: 'it returns false'. Refute it at one input. -/
def recallLaterWrong : ChangeSpec := { name := "recallLater", fn := fun _ => fun
  | [d1, d2, d3, d4] => { results := [.lit (.bool false)], args := [d1, d2, d3, d4] }
  | _ => none }
def RecallLaterWrongFalsely : Prop := recallLaterRow.holds Try.pinned (OpenSpec.ofChange recallLaterWrong)

/- THE SECOND FORM. 'bulk': how many values and letters a reading holds, each counted each time it is reached (what is shared counts as often as it is met; a slice's spare places count too). A statement '..UptoSaid' is the law's where the arguments, and the package variables that the reading takes, are together of bulk at most 1048576: NARROWER than '..Said'. Prove '..Said' where nothing that the law and all that it calls make is longer than what came in: it says more and counts as full. Else prove '..UptoSaid'. A law counts once. -/
mutual
def uptoBulk {H : Type} : DataW H → Nat
  | .lit (.string bytes) => bytes.length + 1
  | .lit _ => 1
  | .nil => 1
  | .ptr d => uptoBulk d + 1
  | .slice elems spare => uptoBulkAll elems + uptoBulkAll spare + 1
  | .agg parts => uptoBulkAll parts + 1
  | .iface _ d => uptoBulk d + 1
  | .map entries => uptoBulkEntries entries + 1
  | .held _ => 1
def uptoBulkAll {H : Type} : List (DataW H) → Nat
  | [] => 0
  | d :: r => uptoBulk d + uptoBulkAll r
def uptoBulkEntries {H : Type} : List (Lit × DataW H) → Nat
  | [] => 0
  | x :: r => uptoBulkEntry x + uptoBulkEntries r
def uptoBulkEntry {H : Type} : Lit × DataW H → Nat
  | (.string bytes, d) => bytes.length + uptoBulk d + 1
  | (_, d) => uptoBulk d + 1
 end
def uptoSmall : (H : Type) → List (DataW H) → Bool := fun _ ds => decide (uptoBulkAll ds ≤ 1048576)
def OpenSpec.upto (s : _root_.Go.ChangeSpec) : _root_.Go.OpenSpec := { _root_.Go.OpenSpec.ofChange s with cond := some uptoSmall }

/-- 'meniscuslaw09.RecallProves', WHERE WHAT IT READS IS OF BULK AT MOST 1048576: true; the input reads as it did. -/
def recallProvesUptoRow : OpenClaim := { program := "ytldhaobimaodoaa", sum := "b7c21d80e5e5f70b0643a5e5bc354ba5cb77e254bffa5f4fd6128e341c450a7a", func := "meniscus/meniscuslaw09.RecallProves", spec := "recallProves", unfollowed := true, recurses := true, plainKeys := false, apart := false, narrowed := true }
def RecallProvesUptoSaid : Prop := recallProvesUptoRow.holds Try.pinned (OpenSpec.upto recallProvesSpec)

/-- 'meniscuslaw09.RecallOrders', WHERE WHAT IT READS IS OF BULK AT MOST 1048576: true; the input reads as it did. -/
def recallOrdersUptoRow : OpenClaim := { program := "ytldhaobimaodoaa", sum := "b7c21d80e5e5f70b0643a5e5bc354ba5cb77e254bffa5f4fd6128e341c450a7a", func := "meniscus/meniscuslaw09.RecallOrders", spec := "recallOrders", unfollowed := true, recurses := true, plainKeys := false, apart := false, narrowed := true }
def RecallOrdersUptoSaid : Prop := recallOrdersUptoRow.holds Try.pinned (OpenSpec.upto recallOrdersSpec)

/-- 'meniscuslaw09.RecallWhens', WHERE WHAT IT READS IS OF BULK AT MOST 1048576: true; the input reads as it did. -/
def recallWhensUptoRow : OpenClaim := { program := "ytldhaobimaodoaa", sum := "b7c21d80e5e5f70b0643a5e5bc354ba5cb77e254bffa5f4fd6128e341c450a7a", func := "meniscus/meniscuslaw09.RecallWhens", spec := "recallWhens", unfollowed := true, recurses := true, plainKeys := false, apart := false, narrowed := true }
def RecallWhensUptoSaid : Prop := recallWhensUptoRow.holds Try.pinned (OpenSpec.upto recallWhensSpec)

/-- 'meniscuslaw09.RecallHolds', WHERE WHAT IT READS IS OF BULK AT MOST 1048576: true; the input reads as it did. -/
def recallHoldsUptoRow : OpenClaim := { program := "ytldhaobimaodoaa", sum := "b7c21d80e5e5f70b0643a5e5bc354ba5cb77e254bffa5f4fd6128e341c450a7a", func := "meniscus/meniscuslaw09.RecallHolds", spec := "recallHolds", unfollowed := true, recurses := true, plainKeys := false, apart := false, narrowed := true }
def RecallHoldsUptoSaid : Prop := recallHoldsUptoRow.holds Try.pinned (OpenSpec.upto recallHoldsSpec)

/-- 'meniscuslaw09.RecallNames', WHERE WHAT IT READS IS OF BULK AT MOST 1048576: true; the input reads as it did. -/
def recallNamesUptoRow : OpenClaim := { program := "ytldhaobimaodoaa", sum := "b7c21d80e5e5f70b0643a5e5bc354ba5cb77e254bffa5f4fd6128e341c450a7a", func := "meniscus/meniscuslaw09.RecallNames", spec := "recallNames", unfollowed := true, recurses := true, plainKeys := false, apart := false, narrowed := true }
def RecallNamesUptoSaid : Prop := recallNamesUptoRow.holds Try.pinned (OpenSpec.upto recallNamesSpec)

/-- 'meniscuslaw09.RecallTruth', WHERE WHAT IT READS IS OF BULK AT MOST 1048576: true; the input reads as it did. -/
def recallTruthUptoRow : OpenClaim := { program := "ytldhaobimaodoaa", sum := "b7c21d80e5e5f70b0643a5e5bc354ba5cb77e254bffa5f4fd6128e341c450a7a", func := "meniscus/meniscuslaw09.RecallTruth", spec := "recallTruth", unfollowed := true, recurses := true, plainKeys := false, apart := false, narrowed := true }
def RecallTruthUptoSaid : Prop := recallTruthUptoRow.holds Try.pinned (OpenSpec.upto recallTruthSpec)

/-- 'meniscuslaw09.RecallEnds', WHERE WHAT IT READS IS OF BULK AT MOST 1048576: true; the input reads as it did. -/
def recallEndsUptoRow : OpenClaim := { program := "ytldhaobimaodoaa", sum := "b7c21d80e5e5f70b0643a5e5bc354ba5cb77e254bffa5f4fd6128e341c450a7a", func := "meniscus/meniscuslaw09.RecallEnds", spec := "recallEnds", unfollowed := true, recurses := true, plainKeys := false, apart := false, narrowed := true }
def RecallEndsUptoSaid : Prop := recallEndsUptoRow.holds Try.pinned (OpenSpec.upto recallEndsSpec)

/-- 'meniscuslaw09.RecallAll', WHERE WHAT IT READS IS OF BULK AT MOST 1048576: true; the input reads as it did. -/
def recallAllUptoRow : OpenClaim := { program := "ytldhaobimaodoaa", sum := "b7c21d80e5e5f70b0643a5e5bc354ba5cb77e254bffa5f4fd6128e341c450a7a", func := "meniscus/meniscuslaw09.RecallAll", spec := "recallAll", unfollowed := true, recurses := true, plainKeys := false, apart := false, narrowed := true }
def RecallAllUptoSaid : Prop := recallAllUptoRow.holds Try.pinned (OpenSpec.upto recallAllSpec)

/-- 'meniscuslaw09.RecallSooner', WHERE WHAT IT READS IS OF BULK AT MOST 1048576: true; the input reads as it did. -/
def recallSoonerUptoRow : OpenClaim := { program := "ytldhaobimaodoaa", sum := "b7c21d80e5e5f70b0643a5e5bc354ba5cb77e254bffa5f4fd6128e341c450a7a", func := "meniscus/meniscuslaw09.RecallSooner", spec := "recallSooner", unfollowed := true, recurses := true, plainKeys := false, apart := false, narrowed := true }
def RecallSoonerUptoSaid : Prop := recallSoonerUptoRow.holds Try.pinned (OpenSpec.upto recallSoonerSpec)

/-- 'meniscuslaw09.RecallWider', WHERE WHAT IT READS IS OF BULK AT MOST 1048576: true; the input reads as it did. -/
def recallWiderUptoRow : OpenClaim := { program := "ytldhaobimaodoaa", sum := "b7c21d80e5e5f70b0643a5e5bc354ba5cb77e254bffa5f4fd6128e341c450a7a", func := "meniscus/meniscuslaw09.RecallWider", spec := "recallWider", unfollowed := true, recurses := true, plainKeys := false, apart := false, narrowed := true }
def RecallWiderUptoSaid : Prop := recallWiderUptoRow.holds Try.pinned (OpenSpec.upto recallWiderSpec)

/-- 'meniscuslaw09.RecallFewer', WHERE WHAT IT READS IS OF BULK AT MOST 1048576: true; the input reads as it did. -/
def recallFewerUptoRow : OpenClaim := { program := "ytldhaobimaodoaa", sum := "b7c21d80e5e5f70b0643a5e5bc354ba5cb77e254bffa5f4fd6128e341c450a7a", func := "meniscus/meniscuslaw09.RecallFewer", spec := "recallFewer", unfollowed := true, recurses := true, plainKeys := false, apart := false, narrowed := true }
def RecallFewerUptoSaid : Prop := recallFewerUptoRow.holds Try.pinned (OpenSpec.upto recallFewerSpec)

/-- 'meniscuslaw09.RecallTurned', WHERE WHAT IT READS IS OF BULK AT MOST 1048576: true; the input reads as it did. -/
def recallTurnedUptoRow : OpenClaim := { program := "ytldhaobimaodoaa", sum := "b7c21d80e5e5f70b0643a5e5bc354ba5cb77e254bffa5f4fd6128e341c450a7a", func := "meniscus/meniscuslaw09.RecallTurned", spec := "recallTurned", unfollowed := true, recurses := true, plainKeys := false, apart := false, narrowed := true }
def RecallTurnedUptoSaid : Prop := recallTurnedUptoRow.holds Try.pinned (OpenSpec.upto recallTurnedSpec)

/-- 'meniscuslaw09.RecallLater', WHERE WHAT IT READS IS OF BULK AT MOST 1048576: true; the input reads as it did. -/
def recallLaterUptoRow : OpenClaim := { program := "ytldhaobimaodoaa", sum := "b7c21d80e5e5f70b0643a5e5bc354ba5cb77e254bffa5f4fd6128e341c450a7a", func := "meniscus/meniscuslaw09.RecallLater", spec := "recallLater", unfollowed := true, recurses := true, plainKeys := false, apart := false, narrowed := true }
def RecallLaterUptoSaid : Prop := recallLaterUptoRow.holds Try.pinned (OpenSpec.upto recallLaterSpec)

end Rows
end Go.Proofs.Ytldhaobimaodoaa
