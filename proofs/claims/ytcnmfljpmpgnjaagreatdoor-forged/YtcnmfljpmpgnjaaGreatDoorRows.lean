/-
  NARROWER THAN 'FOR EVERY INPUT', by the rows' own cells (each row's printed sentence says how): Objects: laid · Handles: laid · Kept: laid · Unique: laid · Roomy: laid · Ends: laid · Named: laid · Pinned: laid · Framed: laid · Forged: laid · All: laid.
  DERIVED. THE GIVEN ROWS OF THIS SEAT. 11 by the template 'for every input the law returns true; each argument reads behind the call as it read before'; 0 by the template 'total and deterministic' (their statements: YtcnmfljpmpgnjaaGreatDoorTotals.lean).
  GIVEN WITH THE SEED: the statements are not yours to turn. If you find one false, say at which input.
  Laid BY PROGRAM, IN A SANDBOX (cutbox-rows.mjs): the forced cells as the released guide's own fill.sh prints them over the translation 45508b6f8a66dbcb… (all of the seat's roots in one cut). By AI agents, Wed Nov 11 2026. No macro, syntax, notation, axiom, sorry.
-/
import Derived.Test.YtcnmfljpmpgnjaaGreatDoorChecked
import GoSem.Claim
import GoSem.ClaimJoined
import GoSem.ClaimMapViews
import Derived.JoinedTies
import Derived.KernelRfl
namespace Go.Proofs.YtcnmfljpmpgnjaaGreatDoor
/- THE CELL 'sum', in the pinned program and in every row, IS THE sha256 OF THE DUMP (.gsa) THAT YtcnmfljpmpgnjaaGreatDoorProg.lean LOADS. Nothing in Lean hashes anything: it is a label: what it is worth is what the hold of that sum in a sandbox is worth. -/
noncomputable def Tryz.pinned : Pinned := { name := "ytcnmfljpmpgnjaagreatdoor", sum := "45508b6f8a66dbcb24d5162a3a92778deabb88a5174eaf6822126e465f6be13c", checked := Tryz.checked }
namespace Rows
def none {H : Type} : Left H := { results := [], args := [] }

/- WHAT THE LISTED PACKAGE-LEVEL VARIABLES READ AS WHEN THE CALL BEGINS. Each datum BY PROGRAM (the guide's laid-datum.mjs) off the statement by which the dump's own 'gosem.cut.vars' lays the variable. In a bare row this is a premise. The card (YtcnmfljpmpgnjaaGreatDoorCards.lean) ties it to the program's text. -/
def laid_errors_errorType {H : Type} : DataW H := .iface "internal/reflectlite.rtype" (.agg [.ptr (.lit (.string [101, 114, 114, 111, 114]))])
def laid_trove_api_ErrArg {H : Type} : DataW H := .iface "*errors.errorString" (.ptr (.agg [.lit (.string [115, 111, 109, 101, 116, 104, 105, 110, 103, 32, 116, 104, 97, 116, 32, 109, 97, 121, 32, 110, 111, 116, 32, 98, 101])]))
def laid_trove_api_ErrNull {H : Type} : DataW H := .iface "*errors.errorString" (.ptr (.agg [.lit (.string [110, 111, 32, 111, 98, 106, 101, 99, 116])]))
def laid_trove_api_ErrForged {H : Type} : DataW H := .iface "*errors.errorString" (.ptr (.agg [.lit (.string [110, 111, 32, 104, 97, 110, 100, 108, 101])]))
def laid_trove_api_ErrStale {H : Type} : DataW H := .iface "*errors.errorString" (.ptr (.agg [.lit (.string [97, 32, 104, 97, 110, 100, 108, 101, 32, 116, 104, 97, 116, 32, 105, 115, 32, 110, 111, 110, 101, 32, 97, 110, 121, 32, 109, 111, 114, 101])]))
def laid_trove_api_ErrCleared {H : Type} : DataW H := .iface "*errors.errorString" (.ptr (.agg [.lit (.string [97, 32, 119, 101, 97, 107, 32, 104, 97, 110, 100, 108, 101, 32, 119, 104, 111, 115, 101, 32, 111, 98, 106, 101, 99, 116, 32, 105, 115, 32, 103, 111, 110, 101])]))
def laid_trove_api_ErrField {H : Type} : DataW H := .iface "*errors.errorString" (.ptr (.agg [.lit (.string [110, 111, 32, 115, 117, 99, 104, 32, 102, 105, 101, 108, 100])]))
def laid_trove_api_ErrTable {H : Type} : DataW H := .iface "*errors.errorString" (.ptr (.agg [.lit (.string [110, 111, 32, 115, 108, 111, 116])]))
def laid_trove_api_ErrRoom {H : Type} : DataW H := .iface "*errors.errorString" (.ptr (.agg [.lit (.string [110, 111, 32, 114, 111, 111, 109])]))
def laid_trove_api_ErrFrame {H : Type} : DataW H := .iface "*errors.errorString" (.ptr (.agg [.lit (.string [110, 111, 32, 102, 114, 97, 109, 101])]))
def laid_trove_api_ErrPin {H : Type} : DataW H := .iface "*errors.errorString" (.ptr (.agg [.lit (.string [116, 111, 111, 32, 109, 97, 110, 121, 32, 112, 105, 110, 115, 44, 32, 111, 114, 32, 116, 111, 111, 32, 102, 101, 119])]))

/-- 'trovelaw.Objects': WHATEVER THE INPUT: true; the input reads as it did. -/
def objectsSpec : ChangeSpec := { name := "objects", fn := fun _ => fun
  | [d] => { results := [.lit (.bool true)], args := [d] }
  | _ => none }
def objectsRow : OpenClaim := { program := "ytcnmfljpmpgnjaagreatdoor", sum := "45508b6f8a66dbcb24d5162a3a92778deabb88a5174eaf6822126e465f6be13c", func := "trove/trovelaw.Objects", spec := "objects", inPlace := ["internal/reflectlite.TypeOf", "internal/reflectlite.ValueOf", "(internal/reflectlite.Value).Type", "(internal/reflectlite.Value).IsNil", "(internal/reflectlite.Value).Elem", "(internal/reflectlite.Value).Set"], unfollowed := true, recurses := true, named := ["trove/api.ErrArg", "trove/api.ErrNull", "trove/api.ErrForged", "trove/api.ErrStale", "trove/api.ErrCleared", "trove/api.ErrField", "trove/api.ErrTable", "trove/api.ErrRoom", "trove/api.ErrFrame", "trove/api.ErrPin", "errors.errorType"], apart := false, laid := [("errors.errorType", laid_errors_errorType), ("trove/api.ErrArg", laid_trove_api_ErrArg), ("trove/api.ErrNull", laid_trove_api_ErrNull), ("trove/api.ErrForged", laid_trove_api_ErrForged), ("trove/api.ErrStale", laid_trove_api_ErrStale), ("trove/api.ErrCleared", laid_trove_api_ErrCleared), ("trove/api.ErrField", laid_trove_api_ErrField), ("trove/api.ErrTable", laid_trove_api_ErrTable), ("trove/api.ErrRoom", laid_trove_api_ErrRoom), ("trove/api.ErrFrame", laid_trove_api_ErrFrame), ("trove/api.ErrPin", laid_trove_api_ErrPin)] }
def ObjectsSaid : Prop := objectsRow.holds Tryz.pinned (OpenSpec.ofChange objectsSpec)

/-- ITS FALSE NEIGHBOUR: 'it returns false'. Refute it at one input. -/
def objectsWrong : ChangeSpec := { name := "objects", fn := fun _ => fun
  | [d] => { results := [.lit (.bool false)], args := [d] }
  | _ => none }
def ObjectsWrongFalsely : Prop := objectsRow.holds Tryz.pinned (OpenSpec.ofChange objectsWrong)

/-- 'trovelaw.Handles': WHATEVER THE INPUT: true; the input reads as it did. -/
def handlesSpec : ChangeSpec := { name := "handles", fn := fun _ => fun
  | [d] => { results := [.lit (.bool true)], args := [d] }
  | _ => none }
def handlesRow : OpenClaim := { program := "ytcnmfljpmpgnjaagreatdoor", sum := "45508b6f8a66dbcb24d5162a3a92778deabb88a5174eaf6822126e465f6be13c", func := "trove/trovelaw.Handles", spec := "handles", inPlace := ["internal/reflectlite.TypeOf", "internal/reflectlite.ValueOf", "(internal/reflectlite.Value).Type", "(internal/reflectlite.Value).IsNil", "(internal/reflectlite.Value).Elem", "(internal/reflectlite.Value).Set"], unfollowed := true, recurses := true, named := ["trove/api.ErrArg", "trove/api.ErrNull", "trove/api.ErrForged", "trove/api.ErrStale", "trove/api.ErrCleared", "trove/api.ErrField", "trove/api.ErrTable", "trove/api.ErrRoom", "trove/api.ErrFrame", "trove/api.ErrPin", "errors.errorType"], apart := false, laid := [("errors.errorType", laid_errors_errorType), ("trove/api.ErrArg", laid_trove_api_ErrArg), ("trove/api.ErrNull", laid_trove_api_ErrNull), ("trove/api.ErrForged", laid_trove_api_ErrForged), ("trove/api.ErrStale", laid_trove_api_ErrStale), ("trove/api.ErrCleared", laid_trove_api_ErrCleared), ("trove/api.ErrField", laid_trove_api_ErrField), ("trove/api.ErrTable", laid_trove_api_ErrTable), ("trove/api.ErrRoom", laid_trove_api_ErrRoom), ("trove/api.ErrFrame", laid_trove_api_ErrFrame), ("trove/api.ErrPin", laid_trove_api_ErrPin)] }
def HandlesSaid : Prop := handlesRow.holds Tryz.pinned (OpenSpec.ofChange handlesSpec)

/-- ITS FALSE NEIGHBOUR: 'it returns false'. Refute it at one input. -/
def handlesWrong : ChangeSpec := { name := "handles", fn := fun _ => fun
  | [d] => { results := [.lit (.bool false)], args := [d] }
  | _ => none }
def HandlesWrongFalsely : Prop := handlesRow.holds Tryz.pinned (OpenSpec.ofChange handlesWrong)

/-- 'trovekeep.Kept': WHATEVER THE INPUT: true; the input reads as it did. -/
def keptSpec : ChangeSpec := { name := "kept", fn := fun _ => fun
  | [d1, d2, d3] => { results := [.lit (.bool true)], args := [d1, d2, d3] }
  | _ => none }
def keptRow : OpenClaim := { program := "ytcnmfljpmpgnjaagreatdoor", sum := "45508b6f8a66dbcb24d5162a3a92778deabb88a5174eaf6822126e465f6be13c", func := "trove/trovekeep.Kept", spec := "kept", inPlace := ["internal/reflectlite.TypeOf", "internal/reflectlite.ValueOf", "(internal/reflectlite.Value).Type", "(internal/reflectlite.Value).IsNil", "(internal/reflectlite.Value).Elem", "(internal/reflectlite.Value).Set"], unfollowed := true, recurses := true, named := ["trove/api.ErrArg", "trove/api.ErrNull", "trove/api.ErrForged", "trove/api.ErrStale", "trove/api.ErrCleared", "trove/api.ErrField", "trove/api.ErrTable", "trove/api.ErrRoom", "trove/api.ErrFrame", "trove/api.ErrPin", "errors.errorType"], apart := false, laid := [("errors.errorType", laid_errors_errorType), ("trove/api.ErrArg", laid_trove_api_ErrArg), ("trove/api.ErrNull", laid_trove_api_ErrNull), ("trove/api.ErrForged", laid_trove_api_ErrForged), ("trove/api.ErrStale", laid_trove_api_ErrStale), ("trove/api.ErrCleared", laid_trove_api_ErrCleared), ("trove/api.ErrField", laid_trove_api_ErrField), ("trove/api.ErrTable", laid_trove_api_ErrTable), ("trove/api.ErrRoom", laid_trove_api_ErrRoom), ("trove/api.ErrFrame", laid_trove_api_ErrFrame), ("trove/api.ErrPin", laid_trove_api_ErrPin)] }
def KeptSaid : Prop := keptRow.holds Tryz.pinned (OpenSpec.ofChange keptSpec)

/-- ITS FALSE NEIGHBOUR: 'it returns false'. Refute it at one input. -/
def keptWrong : ChangeSpec := { name := "kept", fn := fun _ => fun
  | [d1, d2, d3] => { results := [.lit (.bool false)], args := [d1, d2, d3] }
  | _ => none }
def KeptWrongFalsely : Prop := keptRow.holds Tryz.pinned (OpenSpec.ofChange keptWrong)

/-- 'trovekeep.Unique': WHATEVER THE INPUT: true; the input reads as it did. -/
def uniqueSpec : ChangeSpec := { name := "unique", fn := fun _ => fun
  | [d] => { results := [.lit (.bool true)], args := [d] }
  | _ => none }
def uniqueRow : OpenClaim := { program := "ytcnmfljpmpgnjaagreatdoor", sum := "45508b6f8a66dbcb24d5162a3a92778deabb88a5174eaf6822126e465f6be13c", func := "trove/trovekeep.Unique", spec := "unique", inPlace := ["internal/reflectlite.TypeOf", "internal/reflectlite.ValueOf", "(internal/reflectlite.Value).Type", "(internal/reflectlite.Value).IsNil", "(internal/reflectlite.Value).Elem", "(internal/reflectlite.Value).Set"], unfollowed := true, recurses := true, named := ["trove/api.ErrTable", "trove/api.ErrRoom", "trove/api.ErrCleared", "trove/api.ErrArg", "trove/api.ErrNull", "trove/api.ErrForged", "trove/api.ErrStale", "trove/api.ErrField", "trove/api.ErrFrame", "trove/api.ErrPin", "errors.errorType"], apart := false, laid := [("errors.errorType", laid_errors_errorType), ("trove/api.ErrArg", laid_trove_api_ErrArg), ("trove/api.ErrNull", laid_trove_api_ErrNull), ("trove/api.ErrForged", laid_trove_api_ErrForged), ("trove/api.ErrStale", laid_trove_api_ErrStale), ("trove/api.ErrCleared", laid_trove_api_ErrCleared), ("trove/api.ErrField", laid_trove_api_ErrField), ("trove/api.ErrTable", laid_trove_api_ErrTable), ("trove/api.ErrRoom", laid_trove_api_ErrRoom), ("trove/api.ErrFrame", laid_trove_api_ErrFrame), ("trove/api.ErrPin", laid_trove_api_ErrPin)] }
def UniqueSaid : Prop := uniqueRow.holds Tryz.pinned (OpenSpec.ofChange uniqueSpec)

/-- ITS FALSE NEIGHBOUR: 'it returns false'. Refute it at one input. -/
def uniqueWrong : ChangeSpec := { name := "unique", fn := fun _ => fun
  | [d] => { results := [.lit (.bool false)], args := [d] }
  | _ => none }
def UniqueWrongFalsely : Prop := uniqueRow.holds Tryz.pinned (OpenSpec.ofChange uniqueWrong)

/-- 'trovekeep.Roomy': WHATEVER THE INPUT: true; the input reads as it did. -/
def roomySpec : ChangeSpec := { name := "roomy", fn := fun _ => fun
  | [d1, d2] => { results := [.lit (.bool true)], args := [d1, d2] }
  | _ => none }
def roomyRow : OpenClaim := { program := "ytcnmfljpmpgnjaagreatdoor", sum := "45508b6f8a66dbcb24d5162a3a92778deabb88a5174eaf6822126e465f6be13c", func := "trove/trovekeep.Roomy", spec := "roomy", inPlace := ["internal/reflectlite.TypeOf", "internal/reflectlite.ValueOf", "(internal/reflectlite.Value).Type", "(internal/reflectlite.Value).IsNil", "(internal/reflectlite.Value).Elem", "(internal/reflectlite.Value).Set"], unfollowed := true, recurses := true, named := ["trove/api.ErrRoom", "trove/api.ErrArg", "trove/api.ErrNull", "trove/api.ErrForged", "trove/api.ErrStale", "trove/api.ErrCleared", "trove/api.ErrField", "trove/api.ErrTable", "trove/api.ErrFrame", "trove/api.ErrPin", "errors.errorType"], apart := false, laid := [("errors.errorType", laid_errors_errorType), ("trove/api.ErrArg", laid_trove_api_ErrArg), ("trove/api.ErrNull", laid_trove_api_ErrNull), ("trove/api.ErrForged", laid_trove_api_ErrForged), ("trove/api.ErrStale", laid_trove_api_ErrStale), ("trove/api.ErrCleared", laid_trove_api_ErrCleared), ("trove/api.ErrField", laid_trove_api_ErrField), ("trove/api.ErrTable", laid_trove_api_ErrTable), ("trove/api.ErrRoom", laid_trove_api_ErrRoom), ("trove/api.ErrFrame", laid_trove_api_ErrFrame), ("trove/api.ErrPin", laid_trove_api_ErrPin)] }
def RoomySaid : Prop := roomyRow.holds Tryz.pinned (OpenSpec.ofChange roomySpec)

/-- ITS FALSE NEIGHBOUR: 'it returns false'. Refute it at one input. -/
def roomyWrong : ChangeSpec := { name := "roomy", fn := fun _ => fun
  | [d1, d2] => { results := [.lit (.bool false)], args := [d1, d2] }
  | _ => none }
def RoomyWrongFalsely : Prop := roomyRow.holds Tryz.pinned (OpenSpec.ofChange roomyWrong)

/-- 'trovelaw.Ends': WHATEVER THE INPUT: true; the input reads as it did. -/
def endsSpec : ChangeSpec := { name := "ends", fn := fun _ => fun
  | [d] => { results := [.lit (.bool true)], args := [d] }
  | _ => none }
def endsRow : OpenClaim := { program := "ytcnmfljpmpgnjaagreatdoor", sum := "45508b6f8a66dbcb24d5162a3a92778deabb88a5174eaf6822126e465f6be13c", func := "trove/trovelaw.Ends", spec := "ends", inPlace := ["internal/reflectlite.TypeOf", "internal/reflectlite.ValueOf", "(internal/reflectlite.Value).Type", "(internal/reflectlite.Value).IsNil", "(internal/reflectlite.Value).Elem", "(internal/reflectlite.Value).Set"], unfollowed := true, recurses := true, named := ["trove/api.ErrArg", "trove/api.ErrNull", "trove/api.ErrForged", "trove/api.ErrStale", "trove/api.ErrCleared", "trove/api.ErrField", "trove/api.ErrTable", "trove/api.ErrRoom", "trove/api.ErrFrame", "trove/api.ErrPin", "errors.errorType"], apart := false, laid := [("errors.errorType", laid_errors_errorType), ("trove/api.ErrArg", laid_trove_api_ErrArg), ("trove/api.ErrNull", laid_trove_api_ErrNull), ("trove/api.ErrForged", laid_trove_api_ErrForged), ("trove/api.ErrStale", laid_trove_api_ErrStale), ("trove/api.ErrCleared", laid_trove_api_ErrCleared), ("trove/api.ErrField", laid_trove_api_ErrField), ("trove/api.ErrTable", laid_trove_api_ErrTable), ("trove/api.ErrRoom", laid_trove_api_ErrRoom), ("trove/api.ErrFrame", laid_trove_api_ErrFrame), ("trove/api.ErrPin", laid_trove_api_ErrPin)] }
def EndsSaid : Prop := endsRow.holds Tryz.pinned (OpenSpec.ofChange endsSpec)

/-- ITS FALSE NEIGHBOUR: 'it returns false'. Refute it at one input. -/
def endsWrong : ChangeSpec := { name := "ends", fn := fun _ => fun
  | [d] => { results := [.lit (.bool false)], args := [d] }
  | _ => none }
def EndsWrongFalsely : Prop := endsRow.holds Tryz.pinned (OpenSpec.ofChange endsWrong)

/-- 'trovekeep.Named': WHATEVER THE INPUT: true; the input reads as it did. -/
def namedSpec : ChangeSpec := { name := "named", fn := fun _ => fun
  | [d1, d2, d3] => { results := [.lit (.bool true)], args := [d1, d2, d3] }
  | _ => none }
def namedRow : OpenClaim := { program := "ytcnmfljpmpgnjaagreatdoor", sum := "45508b6f8a66dbcb24d5162a3a92778deabb88a5174eaf6822126e465f6be13c", func := "trove/trovekeep.Named", spec := "named", inPlace := ["internal/reflectlite.TypeOf", "internal/reflectlite.ValueOf", "(internal/reflectlite.Value).Type", "(internal/reflectlite.Value).IsNil", "(internal/reflectlite.Value).Elem", "(internal/reflectlite.Value).Set"], unfollowed := true, recurses := true, named := ["trove/api.ErrArg", "trove/api.ErrNull", "trove/api.ErrForged", "trove/api.ErrStale", "trove/api.ErrCleared", "trove/api.ErrField", "trove/api.ErrTable", "trove/api.ErrRoom", "trove/api.ErrFrame", "trove/api.ErrPin", "errors.errorType"], apart := false, laid := [("errors.errorType", laid_errors_errorType), ("trove/api.ErrArg", laid_trove_api_ErrArg), ("trove/api.ErrNull", laid_trove_api_ErrNull), ("trove/api.ErrForged", laid_trove_api_ErrForged), ("trove/api.ErrStale", laid_trove_api_ErrStale), ("trove/api.ErrCleared", laid_trove_api_ErrCleared), ("trove/api.ErrField", laid_trove_api_ErrField), ("trove/api.ErrTable", laid_trove_api_ErrTable), ("trove/api.ErrRoom", laid_trove_api_ErrRoom), ("trove/api.ErrFrame", laid_trove_api_ErrFrame), ("trove/api.ErrPin", laid_trove_api_ErrPin)] }
def NamedSaid : Prop := namedRow.holds Tryz.pinned (OpenSpec.ofChange namedSpec)

/-- ITS FALSE NEIGHBOUR: 'it returns false'. Refute it at one input. -/
def namedWrong : ChangeSpec := { name := "named", fn := fun _ => fun
  | [d1, d2, d3] => { results := [.lit (.bool false)], args := [d1, d2, d3] }
  | _ => none }
def NamedWrongFalsely : Prop := namedRow.holds Tryz.pinned (OpenSpec.ofChange namedWrong)

/-- 'trovekeep.Pinned': WHATEVER THE INPUT: true; the input reads as it did. -/
def pinnedSpec : ChangeSpec := { name := "pinned", fn := fun _ => fun
  | [d1, d2] => { results := [.lit (.bool true)], args := [d1, d2] }
  | _ => none }
def pinnedRow : OpenClaim := { program := "ytcnmfljpmpgnjaagreatdoor", sum := "45508b6f8a66dbcb24d5162a3a92778deabb88a5174eaf6822126e465f6be13c", func := "trove/trovekeep.Pinned", spec := "pinned", inPlace := ["internal/reflectlite.TypeOf", "internal/reflectlite.ValueOf", "(internal/reflectlite.Value).Type", "(internal/reflectlite.Value).IsNil", "(internal/reflectlite.Value).Elem", "(internal/reflectlite.Value).Set"], unfollowed := true, recurses := true, named := ["trove/api.ErrPin", "trove/api.ErrArg", "trove/api.ErrNull", "trove/api.ErrForged", "trove/api.ErrStale", "trove/api.ErrCleared", "trove/api.ErrField", "trove/api.ErrTable", "trove/api.ErrRoom", "trove/api.ErrFrame", "errors.errorType"], apart := false, laid := [("errors.errorType", laid_errors_errorType), ("trove/api.ErrArg", laid_trove_api_ErrArg), ("trove/api.ErrNull", laid_trove_api_ErrNull), ("trove/api.ErrForged", laid_trove_api_ErrForged), ("trove/api.ErrStale", laid_trove_api_ErrStale), ("trove/api.ErrCleared", laid_trove_api_ErrCleared), ("trove/api.ErrField", laid_trove_api_ErrField), ("trove/api.ErrTable", laid_trove_api_ErrTable), ("trove/api.ErrRoom", laid_trove_api_ErrRoom), ("trove/api.ErrFrame", laid_trove_api_ErrFrame), ("trove/api.ErrPin", laid_trove_api_ErrPin)] }
def PinnedSaid : Prop := pinnedRow.holds Tryz.pinned (OpenSpec.ofChange pinnedSpec)

/-- ITS FALSE NEIGHBOUR: 'it returns false'. Refute it at one input. -/
def pinnedWrong : ChangeSpec := { name := "pinned", fn := fun _ => fun
  | [d1, d2] => { results := [.lit (.bool false)], args := [d1, d2] }
  | _ => none }
def PinnedWrongFalsely : Prop := pinnedRow.holds Tryz.pinned (OpenSpec.ofChange pinnedWrong)

/-- 'trovekeep.Framed': WHATEVER THE INPUT: true; the input reads as it did. -/
def framedSpec : ChangeSpec := { name := "framed", fn := fun _ => fun
  | [d1, d2, d3] => { results := [.lit (.bool true)], args := [d1, d2, d3] }
  | _ => none }
def framedRow : OpenClaim := { program := "ytcnmfljpmpgnjaagreatdoor", sum := "45508b6f8a66dbcb24d5162a3a92778deabb88a5174eaf6822126e465f6be13c", func := "trove/trovekeep.Framed", spec := "framed", inPlace := ["internal/reflectlite.TypeOf", "internal/reflectlite.ValueOf", "(internal/reflectlite.Value).Type", "(internal/reflectlite.Value).IsNil", "(internal/reflectlite.Value).Elem", "(internal/reflectlite.Value).Set"], unfollowed := true, recurses := true, named := ["trove/api.ErrStale", "trove/api.ErrFrame", "trove/api.ErrArg", "trove/api.ErrNull", "trove/api.ErrForged", "trove/api.ErrCleared", "trove/api.ErrField", "trove/api.ErrTable", "trove/api.ErrRoom", "trove/api.ErrPin", "errors.errorType"], apart := false, laid := [("errors.errorType", laid_errors_errorType), ("trove/api.ErrArg", laid_trove_api_ErrArg), ("trove/api.ErrNull", laid_trove_api_ErrNull), ("trove/api.ErrForged", laid_trove_api_ErrForged), ("trove/api.ErrStale", laid_trove_api_ErrStale), ("trove/api.ErrCleared", laid_trove_api_ErrCleared), ("trove/api.ErrField", laid_trove_api_ErrField), ("trove/api.ErrTable", laid_trove_api_ErrTable), ("trove/api.ErrRoom", laid_trove_api_ErrRoom), ("trove/api.ErrFrame", laid_trove_api_ErrFrame), ("trove/api.ErrPin", laid_trove_api_ErrPin)] }
def FramedSaid : Prop := framedRow.holds Tryz.pinned (OpenSpec.ofChange framedSpec)

/-- ITS FALSE NEIGHBOUR: 'it returns false'. Refute it at one input. -/
def framedWrong : ChangeSpec := { name := "framed", fn := fun _ => fun
  | [d1, d2, d3] => { results := [.lit (.bool false)], args := [d1, d2, d3] }
  | _ => none }
def FramedWrongFalsely : Prop := framedRow.holds Tryz.pinned (OpenSpec.ofChange framedWrong)

/-- 'trovekeep.Forged': WHATEVER THE INPUT: true; the input reads as it did. -/
def forgedSpec : ChangeSpec := { name := "forged", fn := fun _ => fun
  | [d1, d2, d3] => { results := [.lit (.bool true)], args := [d1, d2, d3] }
  | _ => none }
def forgedRow : OpenClaim := { program := "ytcnmfljpmpgnjaagreatdoor", sum := "45508b6f8a66dbcb24d5162a3a92778deabb88a5174eaf6822126e465f6be13c", func := "trove/trovekeep.Forged", spec := "forged", inPlace := ["internal/reflectlite.TypeOf", "internal/reflectlite.ValueOf", "(internal/reflectlite.Value).Type", "(internal/reflectlite.Value).IsNil", "(internal/reflectlite.Value).Elem", "(internal/reflectlite.Value).Set"], unfollowed := true, recurses := true, named := ["trove/api.ErrNull", "trove/api.ErrForged", "trove/api.ErrStale", "trove/api.ErrArg", "trove/api.ErrCleared", "trove/api.ErrField", "trove/api.ErrTable", "trove/api.ErrRoom", "trove/api.ErrFrame", "trove/api.ErrPin", "errors.errorType"], apart := false, laid := [("errors.errorType", laid_errors_errorType), ("trove/api.ErrArg", laid_trove_api_ErrArg), ("trove/api.ErrNull", laid_trove_api_ErrNull), ("trove/api.ErrForged", laid_trove_api_ErrForged), ("trove/api.ErrStale", laid_trove_api_ErrStale), ("trove/api.ErrCleared", laid_trove_api_ErrCleared), ("trove/api.ErrField", laid_trove_api_ErrField), ("trove/api.ErrTable", laid_trove_api_ErrTable), ("trove/api.ErrRoom", laid_trove_api_ErrRoom), ("trove/api.ErrFrame", laid_trove_api_ErrFrame), ("trove/api.ErrPin", laid_trove_api_ErrPin)] }
def ForgedSaid : Prop := forgedRow.holds Tryz.pinned (OpenSpec.ofChange forgedSpec)

/-- ITS FALSE NEIGHBOUR: 'it returns false'. Refute it at one input. -/
def forgedWrong : ChangeSpec := { name := "forged", fn := fun _ => fun
  | [d1, d2, d3] => { results := [.lit (.bool false)], args := [d1, d2, d3] }
  | _ => none }
def ForgedWrongFalsely : Prop := forgedRow.holds Tryz.pinned (OpenSpec.ofChange forgedWrong)

/-- 'trovelaw.All': WHATEVER THE INPUT: true; the input reads as it did. -/
def allSpec : ChangeSpec := { name := "all", fn := fun _ => fun
  | [d] => { results := [.lit (.bool true)], args := [d] }
  | _ => none }
def allRow : OpenClaim := { program := "ytcnmfljpmpgnjaagreatdoor", sum := "45508b6f8a66dbcb24d5162a3a92778deabb88a5174eaf6822126e465f6be13c", func := "trove/trovelaw.All", spec := "all", inPlace := ["internal/reflectlite.TypeOf", "internal/reflectlite.ValueOf", "(internal/reflectlite.Value).Type", "(internal/reflectlite.Value).IsNil", "(internal/reflectlite.Value).Elem", "(internal/reflectlite.Value).Set"], unfollowed := true, recurses := true, named := ["trove/api.ErrArg", "trove/api.ErrNull", "trove/api.ErrForged", "trove/api.ErrStale", "trove/api.ErrCleared", "trove/api.ErrField", "trove/api.ErrTable", "trove/api.ErrRoom", "trove/api.ErrFrame", "trove/api.ErrPin", "errors.errorType"], apart := false, laid := [("errors.errorType", laid_errors_errorType), ("trove/api.ErrArg", laid_trove_api_ErrArg), ("trove/api.ErrNull", laid_trove_api_ErrNull), ("trove/api.ErrForged", laid_trove_api_ErrForged), ("trove/api.ErrStale", laid_trove_api_ErrStale), ("trove/api.ErrCleared", laid_trove_api_ErrCleared), ("trove/api.ErrField", laid_trove_api_ErrField), ("trove/api.ErrTable", laid_trove_api_ErrTable), ("trove/api.ErrRoom", laid_trove_api_ErrRoom), ("trove/api.ErrFrame", laid_trove_api_ErrFrame), ("trove/api.ErrPin", laid_trove_api_ErrPin)] }
def AllSaid : Prop := allRow.holds Tryz.pinned (OpenSpec.ofChange allSpec)

/-- ITS FALSE NEIGHBOUR: 'it returns false'. Refute it at one input. -/
def allWrong : ChangeSpec := { name := "all", fn := fun _ => fun
  | [d] => { results := [.lit (.bool false)], args := [d] }
  | _ => none }
def AllWrongFalsely : Prop := allRow.holds Tryz.pinned (OpenSpec.ofChange allWrong)

/- THE SECOND FORM. 'bulk': how many values and letters a reading holds, each counted each time it is reached (what is shared counts as often as it is met; a slice's spare places count too). A statement '..UptoSaid' is the law's where the arguments, and the package variables that the reading takes, are together of bulk at most 1048576: NARROWER than '..Said'. Prove '..Said' where nothing that the law and all that it calls make is longer than what came in: it says more and counts as full. Else prove '..UptoSaid'. A law counts once. -/
mutual
def uptoBulk {H : Type} : DataW H → Nat
  | .lit (.string bytes) => bytes.length + 1
  | .lit _ => 1
  | .nil => 1
  | .ptr d => uptoBulk d + 1
  | .slice elems spare => uptoBulkAll elems + uptoBulkAll spare + 1
  | .agg parts => uptoBulkAll parts + 1
  | .iface _ d => uptoBulk d + 1
  | .map entries => uptoBulkEntries entries + 1
  | .held _ => 1
def uptoBulkAll {H : Type} : List (DataW H) → Nat
  | [] => 0
  | d :: r => uptoBulk d + uptoBulkAll r
def uptoBulkEntries {H : Type} : List (Lit × DataW H) → Nat
  | [] => 0
  | x :: r => uptoBulkEntry x + uptoBulkEntries r
def uptoBulkEntry {H : Type} : Lit × DataW H → Nat
  | (.string bytes, d) => bytes.length + uptoBulk d + 1
  | (_, d) => uptoBulk d + 1
 end
def uptoSmall : (H : Type) → List (DataW H) → Bool := fun _ ds => decide (uptoBulkAll ds ≤ 1048576)
def OpenSpec.upto (s : _root_.Go.ChangeSpec) : _root_.Go.OpenSpec := { _root_.Go.OpenSpec.ofChange s with cond := some uptoSmall }

/-- 'trovelaw.Objects', WHERE WHAT IT READS IS OF BULK AT MOST 1048576: true; the input reads as it did. -/
def objectsUptoRow : OpenClaim := { program := "ytcnmfljpmpgnjaagreatdoor", sum := "45508b6f8a66dbcb24d5162a3a92778deabb88a5174eaf6822126e465f6be13c", func := "trove/trovelaw.Objects", spec := "objects", inPlace := ["internal/reflectlite.TypeOf", "internal/reflectlite.ValueOf", "(internal/reflectlite.Value).Type", "(internal/reflectlite.Value).IsNil", "(internal/reflectlite.Value).Elem", "(internal/reflectlite.Value).Set"], unfollowed := true, recurses := true, named := ["trove/api.ErrArg", "trove/api.ErrNull", "trove/api.ErrForged", "trove/api.ErrStale", "trove/api.ErrCleared", "trove/api.ErrField", "trove/api.ErrTable", "trove/api.ErrRoom", "trove/api.ErrFrame", "trove/api.ErrPin", "errors.errorType"], apart := false, laid := [("errors.errorType", laid_errors_errorType), ("trove/api.ErrArg", laid_trove_api_ErrArg), ("trove/api.ErrNull", laid_trove_api_ErrNull), ("trove/api.ErrForged", laid_trove_api_ErrForged), ("trove/api.ErrStale", laid_trove_api_ErrStale), ("trove/api.ErrCleared", laid_trove_api_ErrCleared), ("trove/api.ErrField", laid_trove_api_ErrField), ("trove/api.ErrTable", laid_trove_api_ErrTable), ("trove/api.ErrRoom", laid_trove_api_ErrRoom), ("trove/api.ErrFrame", laid_trove_api_ErrFrame), ("trove/api.ErrPin", laid_trove_api_ErrPin)], narrowed := true }
def ObjectsUptoSaid : Prop := objectsUptoRow.holds Tryz.pinned (OpenSpec.upto objectsSpec)

/-- 'trovelaw.Handles', WHERE WHAT IT READS IS OF BULK AT MOST 1048576: true; the input reads as it did. -/
def handlesUptoRow : OpenClaim := { program := "ytcnmfljpmpgnjaagreatdoor", sum := "45508b6f8a66dbcb24d5162a3a92778deabb88a5174eaf6822126e465f6be13c", func := "trove/trovelaw.Handles", spec := "handles", inPlace := ["internal/reflectlite.TypeOf", "internal/reflectlite.ValueOf", "(internal/reflectlite.Value).Type", "(internal/reflectlite.Value).IsNil", "(internal/reflectlite.Value).Elem", "(internal/reflectlite.Value).Set"], unfollowed := true, recurses := true, named := ["trove/api.ErrArg", "trove/api.ErrNull", "trove/api.ErrForged", "trove/api.ErrStale", "trove/api.ErrCleared", "trove/api.ErrField", "trove/api.ErrTable", "trove/api.ErrRoom", "trove/api.ErrFrame", "trove/api.ErrPin", "errors.errorType"], apart := false, laid := [("errors.errorType", laid_errors_errorType), ("trove/api.ErrArg", laid_trove_api_ErrArg), ("trove/api.ErrNull", laid_trove_api_ErrNull), ("trove/api.ErrForged", laid_trove_api_ErrForged), ("trove/api.ErrStale", laid_trove_api_ErrStale), ("trove/api.ErrCleared", laid_trove_api_ErrCleared), ("trove/api.ErrField", laid_trove_api_ErrField), ("trove/api.ErrTable", laid_trove_api_ErrTable), ("trove/api.ErrRoom", laid_trove_api_ErrRoom), ("trove/api.ErrFrame", laid_trove_api_ErrFrame), ("trove/api.ErrPin", laid_trove_api_ErrPin)], narrowed := true }
def HandlesUptoSaid : Prop := handlesUptoRow.holds Tryz.pinned (OpenSpec.upto handlesSpec)

/-- 'trovekeep.Kept', WHERE WHAT IT READS IS OF BULK AT MOST 1048576: true; the input reads as it did. -/
def keptUptoRow : OpenClaim := { program := "ytcnmfljpmpgnjaagreatdoor", sum := "45508b6f8a66dbcb24d5162a3a92778deabb88a5174eaf6822126e465f6be13c", func := "trove/trovekeep.Kept", spec := "kept", inPlace := ["internal/reflectlite.TypeOf", "internal/reflectlite.ValueOf", "(internal/reflectlite.Value).Type", "(internal/reflectlite.Value).IsNil", "(internal/reflectlite.Value).Elem", "(internal/reflectlite.Value).Set"], unfollowed := true, recurses := true, named := ["trove/api.ErrArg", "trove/api.ErrNull", "trove/api.ErrForged", "trove/api.ErrStale", "trove/api.ErrCleared", "trove/api.ErrField", "trove/api.ErrTable", "trove/api.ErrRoom", "trove/api.ErrFrame", "trove/api.ErrPin", "errors.errorType"], apart := false, laid := [("errors.errorType", laid_errors_errorType), ("trove/api.ErrArg", laid_trove_api_ErrArg), ("trove/api.ErrNull", laid_trove_api_ErrNull), ("trove/api.ErrForged", laid_trove_api_ErrForged), ("trove/api.ErrStale", laid_trove_api_ErrStale), ("trove/api.ErrCleared", laid_trove_api_ErrCleared), ("trove/api.ErrField", laid_trove_api_ErrField), ("trove/api.ErrTable", laid_trove_api_ErrTable), ("trove/api.ErrRoom", laid_trove_api_ErrRoom), ("trove/api.ErrFrame", laid_trove_api_ErrFrame), ("trove/api.ErrPin", laid_trove_api_ErrPin)], narrowed := true }
def KeptUptoSaid : Prop := keptUptoRow.holds Tryz.pinned (OpenSpec.upto keptSpec)

/-- 'trovekeep.Unique', WHERE WHAT IT READS IS OF BULK AT MOST 1048576: true; the input reads as it did. -/
def uniqueUptoRow : OpenClaim := { program := "ytcnmfljpmpgnjaagreatdoor", sum := "45508b6f8a66dbcb24d5162a3a92778deabb88a5174eaf6822126e465f6be13c", func := "trove/trovekeep.Unique", spec := "unique", inPlace := ["internal/reflectlite.TypeOf", "internal/reflectlite.ValueOf", "(internal/reflectlite.Value).Type", "(internal/reflectlite.Value).IsNil", "(internal/reflectlite.Value).Elem", "(internal/reflectlite.Value).Set"], unfollowed := true, recurses := true, named := ["trove/api.ErrTable", "trove/api.ErrRoom", "trove/api.ErrCleared", "trove/api.ErrArg", "trove/api.ErrNull", "trove/api.ErrForged", "trove/api.ErrStale", "trove/api.ErrField", "trove/api.ErrFrame", "trove/api.ErrPin", "errors.errorType"], apart := false, laid := [("errors.errorType", laid_errors_errorType), ("trove/api.ErrArg", laid_trove_api_ErrArg), ("trove/api.ErrNull", laid_trove_api_ErrNull), ("trove/api.ErrForged", laid_trove_api_ErrForged), ("trove/api.ErrStale", laid_trove_api_ErrStale), ("trove/api.ErrCleared", laid_trove_api_ErrCleared), ("trove/api.ErrField", laid_trove_api_ErrField), ("trove/api.ErrTable", laid_trove_api_ErrTable), ("trove/api.ErrRoom", laid_trove_api_ErrRoom), ("trove/api.ErrFrame", laid_trove_api_ErrFrame), ("trove/api.ErrPin", laid_trove_api_ErrPin)], narrowed := true }
def UniqueUptoSaid : Prop := uniqueUptoRow.holds Tryz.pinned (OpenSpec.upto uniqueSpec)

/-- 'trovekeep.Roomy', WHERE WHAT IT READS IS OF BULK AT MOST 1048576: true; the input reads as it did. -/
def roomyUptoRow : OpenClaim := { program := "ytcnmfljpmpgnjaagreatdoor", sum := "45508b6f8a66dbcb24d5162a3a92778deabb88a5174eaf6822126e465f6be13c", func := "trove/trovekeep.Roomy", spec := "roomy", inPlace := ["internal/reflectlite.TypeOf", "internal/reflectlite.ValueOf", "(internal/reflectlite.Value).Type", "(internal/reflectlite.Value).IsNil", "(internal/reflectlite.Value).Elem", "(internal/reflectlite.Value).Set"], unfollowed := true, recurses := true, named := ["trove/api.ErrRoom", "trove/api.ErrArg", "trove/api.ErrNull", "trove/api.ErrForged", "trove/api.ErrStale", "trove/api.ErrCleared", "trove/api.ErrField", "trove/api.ErrTable", "trove/api.ErrFrame", "trove/api.ErrPin", "errors.errorType"], apart := false, laid := [("errors.errorType", laid_errors_errorType), ("trove/api.ErrArg", laid_trove_api_ErrArg), ("trove/api.ErrNull", laid_trove_api_ErrNull), ("trove/api.ErrForged", laid_trove_api_ErrForged), ("trove/api.ErrStale", laid_trove_api_ErrStale), ("trove/api.ErrCleared", laid_trove_api_ErrCleared), ("trove/api.ErrField", laid_trove_api_ErrField), ("trove/api.ErrTable", laid_trove_api_ErrTable), ("trove/api.ErrRoom", laid_trove_api_ErrRoom), ("trove/api.ErrFrame", laid_trove_api_ErrFrame), ("trove/api.ErrPin", laid_trove_api_ErrPin)], narrowed := true }
def RoomyUptoSaid : Prop := roomyUptoRow.holds Tryz.pinned (OpenSpec.upto roomySpec)

/-- 'trovelaw.Ends', WHERE WHAT IT READS IS OF BULK AT MOST 1048576: true; the input reads as it did. -/
def endsUptoRow : OpenClaim := { program := "ytcnmfljpmpgnjaagreatdoor", sum := "45508b6f8a66dbcb24d5162a3a92778deabb88a5174eaf6822126e465f6be13c", func := "trove/trovelaw.Ends", spec := "ends", inPlace := ["internal/reflectlite.TypeOf", "internal/reflectlite.ValueOf", "(internal/reflectlite.Value).Type", "(internal/reflectlite.Value).IsNil", "(internal/reflectlite.Value).Elem", "(internal/reflectlite.Value).Set"], unfollowed := true, recurses := true, named := ["trove/api.ErrArg", "trove/api.ErrNull", "trove/api.ErrForged", "trove/api.ErrStale", "trove/api.ErrCleared", "trove/api.ErrField", "trove/api.ErrTable", "trove/api.ErrRoom", "trove/api.ErrFrame", "trove/api.ErrPin", "errors.errorType"], apart := false, laid := [("errors.errorType", laid_errors_errorType), ("trove/api.ErrArg", laid_trove_api_ErrArg), ("trove/api.ErrNull", laid_trove_api_ErrNull), ("trove/api.ErrForged", laid_trove_api_ErrForged), ("trove/api.ErrStale", laid_trove_api_ErrStale), ("trove/api.ErrCleared", laid_trove_api_ErrCleared), ("trove/api.ErrField", laid_trove_api_ErrField), ("trove/api.ErrTable", laid_trove_api_ErrTable), ("trove/api.ErrRoom", laid_trove_api_ErrRoom), ("trove/api.ErrFrame", laid_trove_api_ErrFrame), ("trove/api.ErrPin", laid_trove_api_ErrPin)], narrowed := true }
def EndsUptoSaid : Prop := endsUptoRow.holds Tryz.pinned (OpenSpec.upto endsSpec)

/-- 'trovekeep.Named', WHERE WHAT IT READS IS OF BULK AT MOST 1048576: true; the input reads as it did. -/
def namedUptoRow : OpenClaim := { program := "ytcnmfljpmpgnjaagreatdoor", sum := "45508b6f8a66dbcb24d5162a3a92778deabb88a5174eaf6822126e465f6be13c", func := "trove/trovekeep.Named", spec := "named", inPlace := ["internal/reflectlite.TypeOf", "internal/reflectlite.ValueOf", "(internal/reflectlite.Value).Type", "(internal/reflectlite.Value).IsNil", "(internal/reflectlite.Value).Elem", "(internal/reflectlite.Value).Set"], unfollowed := true, recurses := true, named := ["trove/api.ErrArg", "trove/api.ErrNull", "trove/api.ErrForged", "trove/api.ErrStale", "trove/api.ErrCleared", "trove/api.ErrField", "trove/api.ErrTable", "trove/api.ErrRoom", "trove/api.ErrFrame", "trove/api.ErrPin", "errors.errorType"], apart := false, laid := [("errors.errorType", laid_errors_errorType), ("trove/api.ErrArg", laid_trove_api_ErrArg), ("trove/api.ErrNull", laid_trove_api_ErrNull), ("trove/api.ErrForged", laid_trove_api_ErrForged), ("trove/api.ErrStale", laid_trove_api_ErrStale), ("trove/api.ErrCleared", laid_trove_api_ErrCleared), ("trove/api.ErrField", laid_trove_api_ErrField), ("trove/api.ErrTable", laid_trove_api_ErrTable), ("trove/api.ErrRoom", laid_trove_api_ErrRoom), ("trove/api.ErrFrame", laid_trove_api_ErrFrame), ("trove/api.ErrPin", laid_trove_api_ErrPin)], narrowed := true }
def NamedUptoSaid : Prop := namedUptoRow.holds Tryz.pinned (OpenSpec.upto namedSpec)

/-- 'trovekeep.Pinned', WHERE WHAT IT READS IS OF BULK AT MOST 1048576: true; the input reads as it did. -/
def pinnedUptoRow : OpenClaim := { program := "ytcnmfljpmpgnjaagreatdoor", sum := "45508b6f8a66dbcb24d5162a3a92778deabb88a5174eaf6822126e465f6be13c", func := "trove/trovekeep.Pinned", spec := "pinned", inPlace := ["internal/reflectlite.TypeOf", "internal/reflectlite.ValueOf", "(internal/reflectlite.Value).Type", "(internal/reflectlite.Value).IsNil", "(internal/reflectlite.Value).Elem", "(internal/reflectlite.Value).Set"], unfollowed := true, recurses := true, named := ["trove/api.ErrPin", "trove/api.ErrArg", "trove/api.ErrNull", "trove/api.ErrForged", "trove/api.ErrStale", "trove/api.ErrCleared", "trove/api.ErrField", "trove/api.ErrTable", "trove/api.ErrRoom", "trove/api.ErrFrame", "errors.errorType"], apart := false, laid := [("errors.errorType", laid_errors_errorType), ("trove/api.ErrArg", laid_trove_api_ErrArg), ("trove/api.ErrNull", laid_trove_api_ErrNull), ("trove/api.ErrForged", laid_trove_api_ErrForged), ("trove/api.ErrStale", laid_trove_api_ErrStale), ("trove/api.ErrCleared", laid_trove_api_ErrCleared), ("trove/api.ErrField", laid_trove_api_ErrField), ("trove/api.ErrTable", laid_trove_api_ErrTable), ("trove/api.ErrRoom", laid_trove_api_ErrRoom), ("trove/api.ErrFrame", laid_trove_api_ErrFrame), ("trove/api.ErrPin", laid_trove_api_ErrPin)], narrowed := true }
def PinnedUptoSaid : Prop := pinnedUptoRow.holds Tryz.pinned (OpenSpec.upto pinnedSpec)

/-- 'trovekeep.Framed', WHERE WHAT IT READS IS OF BULK AT MOST 1048576: true; the input reads as it did. -/
def framedUptoRow : OpenClaim := { program := "ytcnmfljpmpgnjaagreatdoor", sum := "45508b6f8a66dbcb24d5162a3a92778deabb88a5174eaf6822126e465f6be13c", func := "trove/trovekeep.Framed", spec := "framed", inPlace := ["internal/reflectlite.TypeOf", "internal/reflectlite.ValueOf", "(internal/reflectlite.Value).Type", "(internal/reflectlite.Value).IsNil", "(internal/reflectlite.Value).Elem", "(internal/reflectlite.Value).Set"], unfollowed := true, recurses := true, named := ["trove/api.ErrStale", "trove/api.ErrFrame", "trove/api.ErrArg", "trove/api.ErrNull", "trove/api.ErrForged", "trove/api.ErrCleared", "trove/api.ErrField", "trove/api.ErrTable", "trove/api.ErrRoom", "trove/api.ErrPin", "errors.errorType"], apart := false, laid := [("errors.errorType", laid_errors_errorType), ("trove/api.ErrArg", laid_trove_api_ErrArg), ("trove/api.ErrNull", laid_trove_api_ErrNull), ("trove/api.ErrForged", laid_trove_api_ErrForged), ("trove/api.ErrStale", laid_trove_api_ErrStale), ("trove/api.ErrCleared", laid_trove_api_ErrCleared), ("trove/api.ErrField", laid_trove_api_ErrField), ("trove/api.ErrTable", laid_trove_api_ErrTable), ("trove/api.ErrRoom", laid_trove_api_ErrRoom), ("trove/api.ErrFrame", laid_trove_api_ErrFrame), ("trove/api.ErrPin", laid_trove_api_ErrPin)], narrowed := true }
def FramedUptoSaid : Prop := framedUptoRow.holds Tryz.pinned (OpenSpec.upto framedSpec)

/-- 'trovekeep.Forged', WHERE WHAT IT READS IS OF BULK AT MOST 1048576: true; the input reads as it did. -/
def forgedUptoRow : OpenClaim := { program := "ytcnmfljpmpgnjaagreatdoor", sum := "45508b6f8a66dbcb24d5162a3a92778deabb88a5174eaf6822126e465f6be13c", func := "trove/trovekeep.Forged", spec := "forged", inPlace := ["internal/reflectlite.TypeOf", "internal/reflectlite.ValueOf", "(internal/reflectlite.Value).Type", "(internal/reflectlite.Value).IsNil", "(internal/reflectlite.Value).Elem", "(internal/reflectlite.Value).Set"], unfollowed := true, recurses := true, named := ["trove/api.ErrNull", "trove/api.ErrForged", "trove/api.ErrStale", "trove/api.ErrArg", "trove/api.ErrCleared", "trove/api.ErrField", "trove/api.ErrTable", "trove/api.ErrRoom", "trove/api.ErrFrame", "trove/api.ErrPin", "errors.errorType"], apart := false, laid := [("errors.errorType", laid_errors_errorType), ("trove/api.ErrArg", laid_trove_api_ErrArg), ("trove/api.ErrNull", laid_trove_api_ErrNull), ("trove/api.ErrForged", laid_trove_api_ErrForged), ("trove/api.ErrStale", laid_trove_api_ErrStale), ("trove/api.ErrCleared", laid_trove_api_ErrCleared), ("trove/api.ErrField", laid_trove_api_ErrField), ("trove/api.ErrTable", laid_trove_api_ErrTable), ("trove/api.ErrRoom", laid_trove_api_ErrRoom), ("trove/api.ErrFrame", laid_trove_api_ErrFrame), ("trove/api.ErrPin", laid_trove_api_ErrPin)], narrowed := true }
def ForgedUptoSaid : Prop := forgedUptoRow.holds Tryz.pinned (OpenSpec.upto forgedSpec)

/-- 'trovelaw.All', WHERE WHAT IT READS IS OF BULK AT MOST 1048576: true; the input reads as it did. -/
def allUptoRow : OpenClaim := { program := "ytcnmfljpmpgnjaagreatdoor", sum := "45508b6f8a66dbcb24d5162a3a92778deabb88a5174eaf6822126e465f6be13c", func := "trove/trovelaw.All", spec := "all", inPlace := ["internal/reflectlite.TypeOf", "internal/reflectlite.ValueOf", "(internal/reflectlite.Value).Type", "(internal/reflectlite.Value).IsNil", "(internal/reflectlite.Value).Elem", "(internal/reflectlite.Value).Set"], unfollowed := true, recurses := true, named := ["trove/api.ErrArg", "trove/api.ErrNull", "trove/api.ErrForged", "trove/api.ErrStale", "trove/api.ErrCleared", "trove/api.ErrField", "trove/api.ErrTable", "trove/api.ErrRoom", "trove/api.ErrFrame", "trove/api.ErrPin", "errors.errorType"], apart := false, laid := [("errors.errorType", laid_errors_errorType), ("trove/api.ErrArg", laid_trove_api_ErrArg), ("trove/api.ErrNull", laid_trove_api_ErrNull), ("trove/api.ErrForged", laid_trove_api_ErrForged), ("trove/api.ErrStale", laid_trove_api_ErrStale), ("trove/api.ErrCleared", laid_trove_api_ErrCleared), ("trove/api.ErrField", laid_trove_api_ErrField), ("trove/api.ErrTable", laid_trove_api_ErrTable), ("trove/api.ErrRoom", laid_trove_api_ErrRoom), ("trove/api.ErrFrame", laid_trove_api_ErrFrame), ("trove/api.ErrPin", laid_trove_api_ErrPin)], narrowed := true }
def AllUptoSaid : Prop := allUptoRow.holds Tryz.pinned (OpenSpec.upto allSpec)

end Rows
end Go.Proofs.YtcnmfljpmpgnjaaGreatDoor
