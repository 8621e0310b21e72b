/-
  No cell of these rows narrows 'for every input' (looked for: loops, veiled, ifaces, maps, wideKeys, modest, calm, conditions, laid).
  DERIVED. THE GIVEN ROWS OF THIS SEAT. 6 by the template 'for every input the law returns true; each argument reads behind the call as it read before'; 0 by the template 'total and deterministic' (their statements: YtldlejpacgphmaaGreatTotals.lean).
  GIVEN WITH THE SEED: the statements are not yours to turn. If you find one false, say at which input.
  Laid BY PROGRAM, IN A SANDBOX (cutbox-rows.mjs): the forced cells as the released guide's own fill.sh prints them over the translation d01f93ac14cc1240… (all of the seat's roots in one cut). By AI agents, Wed Nov 11 2026. No macro, syntax, notation, axiom, sorry.
-/
import Derived.Test.YtldlejpacgphmaaGreatChecked
import GoSem.Claim
import GoSem.ClaimJoined
import GoSem.ClaimMapViews
import Derived.JoinedTies
import Derived.KernelRfl
namespace Go.Proofs.YtldlejpacgphmaaGreat
/- THE CELL 'sum', in the pinned program and in every row, IS THE sha256 OF THE DUMP (.gsa) THAT YtldlejpacgphmaaGreatProg.lean LOADS. Nothing in Lean hashes anything: it is a label: what it is worth is what the hold of that sum in a sandbox is worth. -/
noncomputable def Tryz.pinned : Pinned := { name := "ytldlejpacgphmaagreat", sum := "d01f93ac14cc1240c136f791c850f589a63a34dbfc1dbccb3fc653e3530422ea", checked := Tryz.checked }
namespace Rows
def none {H : Type} : Left H := { results := [], args := [] }

/-- 'cisternlaw4.JournalLasts': WHATEVER THE INPUT: true; the input reads as it did. -/
def journalLastsSpec : ChangeSpec := { name := "journalLasts", fn := fun _ => fun
  | [d1, d2] => { results := [.lit (.bool true)], args := [d1, d2] }
  | _ => none }
def journalLastsRow : OpenClaim := { program := "ytldlejpacgphmaagreat", sum := "d01f93ac14cc1240c136f791c850f589a63a34dbfc1dbccb3fc653e3530422ea", func := "cistern/cisternlaw4.JournalLasts", spec := "journalLasts", unfollowed := true, recurses := true, apart := false }
def JournalLastsSaid : Prop := journalLastsRow.holds Tryz.pinned (OpenSpec.ofChange journalLastsSpec)

/-- ITS FALSE NEIGHBOUR: 'it returns false'. Refute it at one input. -/
def journalLastsWrong : ChangeSpec := { name := "journalLasts", fn := fun _ => fun
  | [d1, d2] => { results := [.lit (.bool false)], args := [d1, d2] }
  | _ => none }
def JournalLastsWrongFalsely : Prop := journalLastsRow.holds Tryz.pinned (OpenSpec.ofChange journalLastsWrong)

/-- 'cisternlaw4.JournalPlaces': WHATEVER THE INPUT: true; the input reads as it did. -/
def journalPlacesSpec : ChangeSpec := { name := "journalPlaces", fn := fun _ => fun
  | [d1, d2, d3] => { results := [.lit (.bool true)], args := [d1, d2, d3] }
  | _ => none }
def journalPlacesRow : OpenClaim := { program := "ytldlejpacgphmaagreat", sum := "d01f93ac14cc1240c136f791c850f589a63a34dbfc1dbccb3fc653e3530422ea", func := "cistern/cisternlaw4.JournalPlaces", spec := "journalPlaces", unfollowed := true, recurses := true, apart := false }
def JournalPlacesSaid : Prop := journalPlacesRow.holds Tryz.pinned (OpenSpec.ofChange journalPlacesSpec)

/-- ITS FALSE NEIGHBOUR: 'it returns false'. Refute it at one input. -/
def journalPlacesWrong : ChangeSpec := { name := "journalPlaces", fn := fun _ => fun
  | [d1, d2, d3] => { results := [.lit (.bool false)], args := [d1, d2, d3] }
  | _ => none }
def JournalPlacesWrongFalsely : Prop := journalPlacesRow.holds Tryz.pinned (OpenSpec.ofChange journalPlacesWrong)

/-- 'cisternlaw4.JournalRoom': WHATEVER THE INPUT: true; the input reads as it did. -/
def journalRoomSpec : ChangeSpec := { name := "journalRoom", fn := fun _ => fun
  | [d1, d2, d3] => { results := [.lit (.bool true)], args := [d1, d2, d3] }
  | _ => none }
def journalRoomRow : OpenClaim := { program := "ytldlejpacgphmaagreat", sum := "d01f93ac14cc1240c136f791c850f589a63a34dbfc1dbccb3fc653e3530422ea", func := "cistern/cisternlaw4.JournalRoom", spec := "journalRoom", unfollowed := true, recurses := true, apart := false }
def JournalRoomSaid : Prop := journalRoomRow.holds Tryz.pinned (OpenSpec.ofChange journalRoomSpec)

/-- ITS FALSE NEIGHBOUR: 'it returns false'. Refute it at one input. -/
def journalRoomWrong : ChangeSpec := { name := "journalRoom", fn := fun _ => fun
  | [d1, d2, d3] => { results := [.lit (.bool false)], args := [d1, d2, d3] }
  | _ => none }
def JournalRoomWrongFalsely : Prop := journalRoomRow.holds Tryz.pinned (OpenSpec.ofChange journalRoomWrong)

/-- 'cisternlaw4.JournalCuts': WHATEVER THE INPUT: true; the input reads as it did. -/
def journalCutsSpec : ChangeSpec := { name := "journalCuts", fn := fun _ => fun
  | [d1, d2] => { results := [.lit (.bool true)], args := [d1, d2] }
  | _ => none }
def journalCutsRow : OpenClaim := { program := "ytldlejpacgphmaagreat", sum := "d01f93ac14cc1240c136f791c850f589a63a34dbfc1dbccb3fc653e3530422ea", func := "cistern/cisternlaw4.JournalCuts", spec := "journalCuts", unfollowed := true, recurses := true, apart := false }
def JournalCutsSaid : Prop := journalCutsRow.holds Tryz.pinned (OpenSpec.ofChange journalCutsSpec)

/-- ITS FALSE NEIGHBOUR: 'it returns false'. Refute it at one input. -/
def journalCutsWrong : ChangeSpec := { name := "journalCuts", fn := fun _ => fun
  | [d1, d2] => { results := [.lit (.bool false)], args := [d1, d2] }
  | _ => none }
def JournalCutsWrongFalsely : Prop := journalCutsRow.holds Tryz.pinned (OpenSpec.ofChange journalCutsWrong)

/-- 'cisternlaw4.JournalFuses': WHATEVER THE INPUT: true; the input reads as it did. -/
def journalFusesSpec : ChangeSpec := { name := "journalFuses", fn := fun _ => fun
  | [d1, d2] => { results := [.lit (.bool true)], args := [d1, d2] }
  | _ => none }
def journalFusesRow : OpenClaim := { program := "ytldlejpacgphmaagreat", sum := "d01f93ac14cc1240c136f791c850f589a63a34dbfc1dbccb3fc653e3530422ea", func := "cistern/cisternlaw4.JournalFuses", spec := "journalFuses", unfollowed := true, recurses := true, apart := false }
def JournalFusesSaid : Prop := journalFusesRow.holds Tryz.pinned (OpenSpec.ofChange journalFusesSpec)

/-- ITS FALSE NEIGHBOUR: 'it returns false'. Refute it at one input. -/
def journalFusesWrong : ChangeSpec := { name := "journalFuses", fn := fun _ => fun
  | [d1, d2] => { results := [.lit (.bool false)], args := [d1, d2] }
  | _ => none }
def JournalFusesWrongFalsely : Prop := journalFusesRow.holds Tryz.pinned (OpenSpec.ofChange journalFusesWrong)

/-- 'cisternlaw4.JournalAnew': WHATEVER THE INPUT: true; the input reads as it did. -/
def journalAnewSpec : ChangeSpec := { name := "journalAnew", fn := fun _ => fun
  | [d1, d2, d3, d4, d5, d6] => { results := [.lit (.bool true)], args := [d1, d2, d3, d4, d5, d6] }
  | _ => none }
def journalAnewRow : OpenClaim := { program := "ytldlejpacgphmaagreat", sum := "d01f93ac14cc1240c136f791c850f589a63a34dbfc1dbccb3fc653e3530422ea", func := "cistern/cisternlaw4.JournalAnew", spec := "journalAnew", unfollowed := true, recurses := true, apart := false }
def JournalAnewSaid : Prop := journalAnewRow.holds Tryz.pinned (OpenSpec.ofChange journalAnewSpec)

/-- ITS FALSE NEIGHBOUR: 'it returns false'. Refute it at one input. -/
def journalAnewWrong : ChangeSpec := { name := "journalAnew", fn := fun _ => fun
  | [d1, d2, d3, d4, d5, d6] => { results := [.lit (.bool false)], args := [d1, d2, d3, d4, d5, d6] }
  | _ => none }
def JournalAnewWrongFalsely : Prop := journalAnewRow.holds Tryz.pinned (OpenSpec.ofChange journalAnewWrong)

/- THE SECOND FORM. 'bulk': how many values and letters a reading holds, each counted each time it is reached (what is shared counts as often as it is met; a slice's spare places count too). A statement '..UptoSaid' is the law's where the arguments, and the package variables that the reading takes, are together of bulk at most 1048576: NARROWER than '..Said'. Prove '..Said' where nothing that the law and all that it calls make is longer than what came in: it says more and counts as full. Else prove '..UptoSaid'. A law counts once. -/
mutual
def uptoBulk {H : Type} : DataW H → Nat
  | .lit (.string bytes) => bytes.length + 1
  | .lit _ => 1
  | .nil => 1
  | .ptr d => uptoBulk d + 1
  | .slice elems spare => uptoBulkAll elems + uptoBulkAll spare + 1
  | .agg parts => uptoBulkAll parts + 1
  | .iface _ d => uptoBulk d + 1
  | .map entries => uptoBulkEntries entries + 1
  | .held _ => 1
def uptoBulkAll {H : Type} : List (DataW H) → Nat
  | [] => 0
  | d :: r => uptoBulk d + uptoBulkAll r
def uptoBulkEntries {H : Type} : List (Lit × DataW H) → Nat
  | [] => 0
  | x :: r => uptoBulkEntry x + uptoBulkEntries r
def uptoBulkEntry {H : Type} : Lit × DataW H → Nat
  | (.string bytes, d) => bytes.length + uptoBulk d + 1
  | (_, d) => uptoBulk d + 1
 end
def uptoSmall : (H : Type) → List (DataW H) → Bool := fun _ ds => decide (uptoBulkAll ds ≤ 1048576)
def OpenSpec.upto (s : _root_.Go.ChangeSpec) : _root_.Go.OpenSpec := { _root_.Go.OpenSpec.ofChange s with cond := some uptoSmall }

/-- 'cisternlaw4.JournalLasts', WHERE WHAT IT READS IS OF BULK AT MOST 1048576: true; the input reads as it did. -/
def journalLastsUptoRow : OpenClaim := { program := "ytldlejpacgphmaagreat", sum := "d01f93ac14cc1240c136f791c850f589a63a34dbfc1dbccb3fc653e3530422ea", func := "cistern/cisternlaw4.JournalLasts", spec := "journalLasts", unfollowed := true, recurses := true, apart := false, narrowed := true }
def JournalLastsUptoSaid : Prop := journalLastsUptoRow.holds Tryz.pinned (OpenSpec.upto journalLastsSpec)

/-- 'cisternlaw4.JournalPlaces', WHERE WHAT IT READS IS OF BULK AT MOST 1048576: true; the input reads as it did. -/
def journalPlacesUptoRow : OpenClaim := { program := "ytldlejpacgphmaagreat", sum := "d01f93ac14cc1240c136f791c850f589a63a34dbfc1dbccb3fc653e3530422ea", func := "cistern/cisternlaw4.JournalPlaces", spec := "journalPlaces", unfollowed := true, recurses := true, apart := false, narrowed := true }
def JournalPlacesUptoSaid : Prop := journalPlacesUptoRow.holds Tryz.pinned (OpenSpec.upto journalPlacesSpec)

/-- 'cisternlaw4.JournalRoom', WHERE WHAT IT READS IS OF BULK AT MOST 1048576: true; the input reads as it did. -/
def journalRoomUptoRow : OpenClaim := { program := "ytldlejpacgphmaagreat", sum := "d01f93ac14cc1240c136f791c850f589a63a34dbfc1dbccb3fc653e3530422ea", func := "cistern/cisternlaw4.JournalRoom", spec := "journalRoom", unfollowed := true, recurses := true, apart := false, narrowed := true }
def JournalRoomUptoSaid : Prop := journalRoomUptoRow.holds Tryz.pinned (OpenSpec.upto journalRoomSpec)

/-- 'cisternlaw4.JournalCuts', WHERE WHAT IT READS IS OF BULK AT MOST 1048576: true; the input reads as it did. -/
def journalCutsUptoRow : OpenClaim := { program := "ytldlejpacgphmaagreat", sum := "d01f93ac14cc1240c136f791c850f589a63a34dbfc1dbccb3fc653e3530422ea", func := "cistern/cisternlaw4.JournalCuts", spec := "journalCuts", unfollowed := true, recurses := true, apart := false, narrowed := true }
def JournalCutsUptoSaid : Prop := journalCutsUptoRow.holds Tryz.pinned (OpenSpec.upto journalCutsSpec)

/-- 'cisternlaw4.JournalFuses', WHERE WHAT IT READS IS OF BULK AT MOST 1048576: true; the input reads as it did. -/
def journalFusesUptoRow : OpenClaim := { program := "ytldlejpacgphmaagreat", sum := "d01f93ac14cc1240c136f791c850f589a63a34dbfc1dbccb3fc653e3530422ea", func := "cistern/cisternlaw4.JournalFuses", spec := "journalFuses", unfollowed := true, recurses := true, apart := false, narrowed := true }
def JournalFusesUptoSaid : Prop := journalFusesUptoRow.holds Tryz.pinned (OpenSpec.upto journalFusesSpec)

/-- 'cisternlaw4.JournalAnew', WHERE WHAT IT READS IS OF BULK AT MOST 1048576: true; the input reads as it did. -/
def journalAnewUptoRow : OpenClaim := { program := "ytldlejpacgphmaagreat", sum := "d01f93ac14cc1240c136f791c850f589a63a34dbfc1dbccb3fc653e3530422ea", func := "cistern/cisternlaw4.JournalAnew", spec := "journalAnew", unfollowed := true, recurses := true, apart := false, narrowed := true }
def JournalAnewUptoSaid : Prop := journalAnewUptoRow.holds Tryz.pinned (OpenSpec.upto journalAnewSpec)

end Rows
end Go.Proofs.YtldlejpacgphmaaGreat
