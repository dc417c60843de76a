/-
  NARROWER THAN 'FOR EVERY INPUT', by the rows' own cells (each row's printed sentence says how): Names: laid.
  DERIVED. THE GIVEN ROWS OF THIS SEAT. 1 by the template 'for every input the law returns true; each argument reads behind the call as it read before'; 0 by the template 'total and deterministic' (their statements: YtcnmfljpmpgnjaaDoorTotals.lean).
  GIVEN WITH THE SEED: the statements are not yours to turn. If you find one false, say at which input.
  Laid BY PROGRAM, IN A SANDBOX (cutbox-rows.mjs): the forced cells as the released guide's own fill.sh prints them over the translation 4caab33d000aa7d3… (all of the seat's roots in one cut). By AI agents, Wed Nov 11 2026. No macro, syntax, notation, axiom, sorry.
-/
import Derived.Test.YtcnmfljpmpgnjaaDoorChecked
import GoSem.Claim
import GoSem.ClaimJoined
import GoSem.ClaimMapViews
import Derived.JoinedTies
import Derived.KernelRfl
namespace Go.Proofs.YtcnmfljpmpgnjaaDoor
/- THE CELL 'sum', in the pinned program and in every row, IS THE sha256 OF THE DUMP (.gsa) THAT YtcnmfljpmpgnjaaDoorProg.lean LOADS. Nothing in Lean hashes anything: it is a label: what it is worth is what the hold of that sum in a sandbox is worth. -/
noncomputable def Tryd.pinned : Pinned := { name := "ytcnmfljpmpgnjaadoor", sum := "4caab33d000aa7d39e21974b95a8ca6d71bca903c468109f55ad1b347056c9e0", checked := Tryd.checked }
namespace Rows
def none {H : Type} : Left H := { results := [], args := [] }

/- WHAT THE LISTED PACKAGE-LEVEL VARIABLES READ AS WHEN THE CALL BEGINS. Each datum BY PROGRAM (the guide's laid-datum.mjs) off the statement by which the dump's own 'gosem.cut.vars' lays the variable. In a bare row this is a premise. The card (YtcnmfljpmpgnjaaDoorCards.lean) ties it to the program's text. -/
def laid_trove_api_ErrArg {H : Type} : DataW H := .iface "*errors.errorString" (.ptr (.agg [.lit (.string [115, 111, 109, 101, 116, 104, 105, 110, 103, 32, 116, 104, 97, 116, 32, 109, 97, 121, 32, 110, 111, 116, 32, 98, 101])]))
def laid_trove_api_ErrNull {H : Type} : DataW H := .iface "*errors.errorString" (.ptr (.agg [.lit (.string [110, 111, 32, 111, 98, 106, 101, 99, 116])]))
def laid_trove_api_ErrForged {H : Type} : DataW H := .iface "*errors.errorString" (.ptr (.agg [.lit (.string [110, 111, 32, 104, 97, 110, 100, 108, 101])]))
def laid_trove_api_ErrStale {H : Type} : DataW H := .iface "*errors.errorString" (.ptr (.agg [.lit (.string [97, 32, 104, 97, 110, 100, 108, 101, 32, 116, 104, 97, 116, 32, 105, 115, 32, 110, 111, 110, 101, 32, 97, 110, 121, 32, 109, 111, 114, 101])]))
def laid_trove_api_ErrCleared {H : Type} : DataW H := .iface "*errors.errorString" (.ptr (.agg [.lit (.string [97, 32, 119, 101, 97, 107, 32, 104, 97, 110, 100, 108, 101, 32, 119, 104, 111, 115, 101, 32, 111, 98, 106, 101, 99, 116, 32, 105, 115, 32, 103, 111, 110, 101])]))
def laid_trove_api_ErrField {H : Type} : DataW H := .iface "*errors.errorString" (.ptr (.agg [.lit (.string [110, 111, 32, 115, 117, 99, 104, 32, 102, 105, 101, 108, 100])]))
def laid_trove_api_ErrTable {H : Type} : DataW H := .iface "*errors.errorString" (.ptr (.agg [.lit (.string [110, 111, 32, 115, 108, 111, 116])]))
def laid_trove_api_ErrRoom {H : Type} : DataW H := .iface "*errors.errorString" (.ptr (.agg [.lit (.string [110, 111, 32, 114, 111, 111, 109])]))
def laid_trove_api_ErrFrame {H : Type} : DataW H := .iface "*errors.errorString" (.ptr (.agg [.lit (.string [110, 111, 32, 102, 114, 97, 109, 101])]))
def laid_trove_api_ErrPin {H : Type} : DataW H := .iface "*errors.errorString" (.ptr (.agg [.lit (.string [116, 111, 111, 32, 109, 97, 110, 121, 32, 112, 105, 110, 115, 44, 32, 111, 114, 32, 116, 111, 111, 32, 102, 101, 119])]))

/-- 'trovelaw.Names': WHATEVER THE INPUT: true; the input reads as it did. -/
def namesSpec : ChangeSpec := { name := "names", fn := fun _ => fun
  | [] => { results := [.lit (.bool true)], args := [] }
  | _ => none }
def namesRow : OpenClaim := { program := "ytcnmfljpmpgnjaadoor", sum := "4caab33d000aa7d39e21974b95a8ca6d71bca903c468109f55ad1b347056c9e0", func := "trove/trovelaw.Names", spec := "names", named := ["trove/api.ErrArg", "trove/api.ErrNull", "trove/api.ErrForged", "trove/api.ErrStale", "trove/api.ErrCleared", "trove/api.ErrField", "trove/api.ErrTable", "trove/api.ErrRoom", "trove/api.ErrFrame", "trove/api.ErrPin"], apart := false, laid := [("trove/api.ErrArg", laid_trove_api_ErrArg), ("trove/api.ErrNull", laid_trove_api_ErrNull), ("trove/api.ErrForged", laid_trove_api_ErrForged), ("trove/api.ErrStale", laid_trove_api_ErrStale), ("trove/api.ErrCleared", laid_trove_api_ErrCleared), ("trove/api.ErrField", laid_trove_api_ErrField), ("trove/api.ErrTable", laid_trove_api_ErrTable), ("trove/api.ErrRoom", laid_trove_api_ErrRoom), ("trove/api.ErrFrame", laid_trove_api_ErrFrame), ("trove/api.ErrPin", laid_trove_api_ErrPin)] }
def NamesSaid : Prop := namesRow.holds Tryd.pinned (OpenSpec.ofChange namesSpec)

/-- ITS FALSE NEIGHBOUR: 'it returns false'. Refute it at one input. -/
def namesWrong : ChangeSpec := { name := "names", fn := fun _ => fun
  | [] => { results := [.lit (.bool false)], args := [] }
  | _ => none }
def NamesWrongFalsely : Prop := namesRow.holds Tryd.pinned (OpenSpec.ofChange namesWrong)

/- THE SECOND FORM. 'bulk': how many values and letters a reading holds, each counted each time it is reached (what is shared counts as often as it is met; a slice's spare places count too). A statement '..UptoSaid' is the law's where the arguments, and the package variables that the reading takes, are together of bulk at most 1048576: NARROWER than '..Said'. Prove '..Said' where nothing that the law and all that it calls make is longer than what came in: it says more and counts as full. Else prove '..UptoSaid'. A law counts once. -/
mutual
def uptoBulk {H : Type} : DataW H → Nat
  | .lit (.string bytes) => bytes.length + 1
  | .lit _ => 1
  | .nil => 1
  | .ptr d => uptoBulk d + 1
  | .slice elems spare => uptoBulkAll elems + uptoBulkAll spare + 1
  | .agg parts => uptoBulkAll parts + 1
  | .iface _ d => uptoBulk d + 1
  | .map entries => uptoBulkEntries entries + 1
  | .held _ => 1
def uptoBulkAll {H : Type} : List (DataW H) → Nat
  | [] => 0
  | d :: r => uptoBulk d + uptoBulkAll r
def uptoBulkEntries {H : Type} : List (Lit × DataW H) → Nat
  | [] => 0
  | x :: r => uptoBulkEntry x + uptoBulkEntries r
def uptoBulkEntry {H : Type} : Lit × DataW H → Nat
  | (.string bytes, d) => bytes.length + uptoBulk d + 1
  | (_, d) => uptoBulk d + 1
 end
def uptoSmall : (H : Type) → List (DataW H) → Bool := fun _ ds => decide (uptoBulkAll ds ≤ 1048576)
def OpenSpec.upto (s : _root_.Go.ChangeSpec) : _root_.Go.OpenSpec := { _root_.Go.OpenSpec.ofChange s with cond := some uptoSmall }

/-- 'trovelaw.Names', WHERE WHAT IT READS IS OF BULK AT MOST 1048576: true; the input reads as it did. -/
def namesUptoRow : OpenClaim := { program := "ytcnmfljpmpgnjaadoor", sum := "4caab33d000aa7d39e21974b95a8ca6d71bca903c468109f55ad1b347056c9e0", func := "trove/trovelaw.Names", spec := "names", named := ["trove/api.ErrArg", "trove/api.ErrNull", "trove/api.ErrForged", "trove/api.ErrStale", "trove/api.ErrCleared", "trove/api.ErrField", "trove/api.ErrTable", "trove/api.ErrRoom", "trove/api.ErrFrame", "trove/api.ErrPin"], apart := false, laid := [("trove/api.ErrArg", laid_trove_api_ErrArg), ("trove/api.ErrNull", laid_trove_api_ErrNull), ("trove/api.ErrForged", laid_trove_api_ErrForged), ("trove/api.ErrStale", laid_trove_api_ErrStale), ("trove/api.ErrCleared", laid_trove_api_ErrCleared), ("trove/api.ErrField", laid_trove_api_ErrField), ("trove/api.ErrTable", laid_trove_api_ErrTable), ("trove/api.ErrRoom", laid_trove_api_ErrRoom), ("trove/api.ErrFrame", laid_trove_api_ErrFrame), ("trove/api.ErrPin", laid_trove_api_ErrPin)], narrowed := true }
def NamesUptoSaid : Prop := namesUptoRow.holds Tryd.pinned (OpenSpec.upto namesSpec)

end Rows
end Go.Proofs.YtcnmfljpmpgnjaaDoor
