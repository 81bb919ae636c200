/-
  No cell of these rows narrows 'for every input' (looked for: loops, veiled, ifaces, maps, wideKeys, modest, calm, conditions, laid).
  DERIVED. THE GIVEN ROWS OF THIS SEAT. 6 by the template 'for every input the law returns true; each argument reads behind the call as it read before'; 0 by the template 'total and deterministic' (their statements: YtimfgefpcbnalaaTotals.lean).
  GIVEN WITH THE SEED: the statements are not yours to turn. If you find one false, say at which input.
  Laid BY PROGRAM, IN A SANDBOX (cutbox-rows.mjs): the forced cells as the released guide's own fill.sh prints them over the translation e9e2deb786c51f75… (all of the seat's roots in one cut). By AI agents, Wed Nov 11 2026. No macro, syntax, notation, axiom, sorry.
-/
import Derived.Test.YtimfgefpcbnalaaChecked
import GoSem.Claim
import GoSem.ClaimJoined
import GoSem.ClaimMapViews
import Derived.JoinedTies
import Derived.KernelRfl
namespace Go.Proofs.Ytimfgefpcbnalaa
/- THE CELL 'sum', in the pinned program and in every row, IS THE sha256 OF THE DUMP (.gsa) THAT YtimfgefpcbnalaaProg.lean LOADS. Nothing in Lean hashes anything: it is a label: what it is worth is what the hold of that sum in a sandbox is worth. -/
noncomputable def Try.pinned : Pinned := { name := "ytimfgefpcbnalaa", sum := "e9e2deb786c51f753e981a0b58045e80b57240878354883b3a5e3c11899ed600", checked := Try.checked }
namespace Rows
def none {H : Type} : Left H := { results := [], args := [] }

/-- 'waxworklaw02.VaryReads': WHATEVER THE INPUT: true; the input reads as it did. -/
def varyReadsSpec : ChangeSpec := { name := "varyReads", fn := fun _ => fun
  | [d1, d2, d3, d4, d5] => { results := [.lit (.bool true)], args := [d1, d2, d3, d4, d5] }
  | _ => none }
def varyReadsRow : OpenClaim := { program := "ytimfgefpcbnalaa", sum := "e9e2deb786c51f753e981a0b58045e80b57240878354883b3a5e3c11899ed600", func := "waxwork/waxworklaw02.VaryReads", spec := "varyReads", apart := false }
def VaryReadsSaid : Prop := varyReadsRow.holds Try.pinned (OpenSpec.ofChange varyReadsSpec)

/-- ITS FALSE NEIGHBOUR: 'it returns false'. Refute it at one input. -/
def varyReadsWrong : ChangeSpec := { name := "varyReads", fn := fun _ => fun
  | [d1, d2, d3, d4, d5] => { results := [.lit (.bool false)], args := [d1, d2, d3, d4, d5] }
  | _ => none }
def VaryReadsWrongFalsely : Prop := varyReadsRow.holds Try.pinned (OpenSpec.ofChange varyReadsWrong)

/-- 'waxworklaw02.VaryBack': WHATEVER THE INPUT: true; the input reads as it did. -/
def varyBackSpec : ChangeSpec := { name := "varyBack", fn := fun _ => fun
  | [d1, d2, d3, d4, d5] => { results := [.lit (.bool true)], args := [d1, d2, d3, d4, d5] }
  | _ => none }
def varyBackRow : OpenClaim := { program := "ytimfgefpcbnalaa", sum := "e9e2deb786c51f753e981a0b58045e80b57240878354883b3a5e3c11899ed600", func := "waxwork/waxworklaw02.VaryBack", spec := "varyBack", apart := false }
def VaryBackSaid : Prop := varyBackRow.holds Try.pinned (OpenSpec.ofChange varyBackSpec)

/-- ITS FALSE NEIGHBOUR: 'it returns false'. Refute it at one input. -/
def varyBackWrong : ChangeSpec := { name := "varyBack", fn := fun _ => fun
  | [d1, d2, d3, d4, d5] => { results := [.lit (.bool false)], args := [d1, d2, d3, d4, d5] }
  | _ => none }
def VaryBackWrongFalsely : Prop := varyBackRow.holds Try.pinned (OpenSpec.ofChange varyBackWrong)

/-- 'waxworklaw02.VaryOne': WHATEVER THE INPUT: true; the input reads as it did. -/
def varyOneSpec : ChangeSpec := { name := "varyOne", fn := fun _ => fun
  | [d1, d2, d3, d4] => { results := [.lit (.bool true)], args := [d1, d2, d3, d4] }
  | _ => none }
def varyOneRow : OpenClaim := { program := "ytimfgefpcbnalaa", sum := "e9e2deb786c51f753e981a0b58045e80b57240878354883b3a5e3c11899ed600", func := "waxwork/waxworklaw02.VaryOne", spec := "varyOne", apart := false }
def VaryOneSaid : Prop := varyOneRow.holds Try.pinned (OpenSpec.ofChange varyOneSpec)

/-- ITS FALSE NEIGHBOUR: 'it returns false'. Refute it at one input. -/
def varyOneWrong : ChangeSpec := { name := "varyOne", fn := fun _ => fun
  | [d1, d2, d3, d4] => { results := [.lit (.bool false)], args := [d1, d2, d3, d4] }
  | _ => none }
def VaryOneWrongFalsely : Prop := varyOneRow.holds Try.pinned (OpenSpec.ofChange varyOneWrong)

/-- 'waxworklaw02.VaryLong': WHATEVER THE INPUT: true; the input reads as it did. -/
def varyLongSpec : ChangeSpec := { name := "varyLong", fn := fun _ => fun
  | [d1, d2] => { results := [.lit (.bool true)], args := [d1, d2] }
  | _ => none }
def varyLongRow : OpenClaim := { program := "ytimfgefpcbnalaa", sum := "e9e2deb786c51f753e981a0b58045e80b57240878354883b3a5e3c11899ed600", func := "waxwork/waxworklaw02.VaryLong", spec := "varyLong", apart := false }
def VaryLongSaid : Prop := varyLongRow.holds Try.pinned (OpenSpec.ofChange varyLongSpec)

/-- ITS FALSE NEIGHBOUR: 'it returns false'. Refute it at one input. -/
def varyLongWrong : ChangeSpec := { name := "varyLong", fn := fun _ => fun
  | [d1, d2] => { results := [.lit (.bool false)], args := [d1, d2] }
  | _ => none }
def VaryLongWrongFalsely : Prop := varyLongRow.holds Try.pinned (OpenSpec.ofChange varyLongWrong)

/-- 'waxworklaw02.VaryPads': WHATEVER THE INPUT: true; the input reads as it did. -/
def varyPadsSpec : ChangeSpec := { name := "varyPads", fn := fun _ => fun
  | [d1, d2, d3, d4] => { results := [.lit (.bool true)], args := [d1, d2, d3, d4] }
  | _ => none }
def varyPadsRow : OpenClaim := { program := "ytimfgefpcbnalaa", sum := "e9e2deb786c51f753e981a0b58045e80b57240878354883b3a5e3c11899ed600", func := "waxwork/waxworklaw02.VaryPads", spec := "varyPads", apart := false }
def VaryPadsSaid : Prop := varyPadsRow.holds Try.pinned (OpenSpec.ofChange varyPadsSpec)

/-- ITS FALSE NEIGHBOUR: 'it returns false'. Refute it at one input. -/
def varyPadsWrong : ChangeSpec := { name := "varyPads", fn := fun _ => fun
  | [d1, d2, d3, d4] => { results := [.lit (.bool false)], args := [d1, d2, d3, d4] }
  | _ => none }
def VaryPadsWrongFalsely : Prop := varyPadsRow.holds Try.pinned (OpenSpec.ofChange varyPadsWrong)

/-- 'waxworklaw02.VaryTexts': WHATEVER THE INPUT: true; the input reads as it did. -/
def varyTextsSpec : ChangeSpec := { name := "varyTexts", fn := fun _ => fun
  | [d1, d2, d3] => { results := [.lit (.bool true)], args := [d1, d2, d3] }
  | _ => none }
def varyTextsRow : OpenClaim := { program := "ytimfgefpcbnalaa", sum := "e9e2deb786c51f753e981a0b58045e80b57240878354883b3a5e3c11899ed600", func := "waxwork/waxworklaw02.VaryTexts", spec := "varyTexts", apart := false }
def VaryTextsSaid : Prop := varyTextsRow.holds Try.pinned (OpenSpec.ofChange varyTextsSpec)

/-- ITS FALSE NEIGHBOUR: 'it returns false'. Refute it at one input. -/
def varyTextsWrong : ChangeSpec := { name := "varyTexts", fn := fun _ => fun
  | [d1, d2, d3] => { results := [.lit (.bool false)], args := [d1, d2, d3] }
  | _ => none }
def VaryTextsWrongFalsely : Prop := varyTextsRow.holds Try.pinned (OpenSpec.ofChange varyTextsWrong)

/- THE SECOND FORM. 'bulk': how many values and letters a reading holds, each counted each time it is reached (what is shared counts as often as it is met; a slice's spare places count too). A statement '..UptoSaid' is the law's where the arguments, and the package variables that the reading takes, are together of bulk at most 1048576: NARROWER than '..Said'. Prove '..Said' where nothing that the law and all that it calls make is longer than what came in: it says more and counts as full. Else prove '..UptoSaid'. A law counts once. -/
mutual
def uptoBulk {H : Type} : DataW H → Nat
  | .lit (.string bytes) => bytes.length + 1
  | .lit _ => 1
  | .nil => 1
  | .ptr d => uptoBulk d + 1
  | .slice elems spare => uptoBulkAll elems + uptoBulkAll spare + 1
  | .agg parts => uptoBulkAll parts + 1
  | .iface _ d => uptoBulk d + 1
  | .map entries => uptoBulkEntries entries + 1
  | .held _ => 1
def uptoBulkAll {H : Type} : List (DataW H) → Nat
  | [] => 0
  | d :: r => uptoBulk d + uptoBulkAll r
def uptoBulkEntries {H : Type} : List (Lit × DataW H) → Nat
  | [] => 0
  | x :: r => uptoBulkEntry x + uptoBulkEntries r
def uptoBulkEntry {H : Type} : Lit × DataW H → Nat
  | (.string bytes, d) => bytes.length + uptoBulk d + 1
  | (_, d) => uptoBulk d + 1
 end
def uptoSmall : (H : Type) → List (DataW H) → Bool := fun _ ds => decide (uptoBulkAll ds ≤ 1048576)
def OpenSpec.upto (s : _root_.Go.ChangeSpec) : _root_.Go.OpenSpec := { _root_.Go.OpenSpec.ofChange s with cond := some uptoSmall }

/-- 'waxworklaw02.VaryReads', WHERE WHAT IT READS IS OF BULK AT MOST 1048576: true; the input reads as it did. -/
def varyReadsUptoRow : OpenClaim := { program := "ytimfgefpcbnalaa", sum := "e9e2deb786c51f753e981a0b58045e80b57240878354883b3a5e3c11899ed600", func := "waxwork/waxworklaw02.VaryReads", spec := "varyReads", apart := false, narrowed := true }
def VaryReadsUptoSaid : Prop := varyReadsUptoRow.holds Try.pinned (OpenSpec.upto varyReadsSpec)

/-- 'waxworklaw02.VaryBack', WHERE WHAT IT READS IS OF BULK AT MOST 1048576: true; the input reads as it did. -/
def varyBackUptoRow : OpenClaim := { program := "ytimfgefpcbnalaa", sum := "e9e2deb786c51f753e981a0b58045e80b57240878354883b3a5e3c11899ed600", func := "waxwork/waxworklaw02.VaryBack", spec := "varyBack", apart := false, narrowed := true }
def VaryBackUptoSaid : Prop := varyBackUptoRow.holds Try.pinned (OpenSpec.upto varyBackSpec)

/-- 'waxworklaw02.VaryOne', WHERE WHAT IT READS IS OF BULK AT MOST 1048576: true; the input reads as it did. -/
def varyOneUptoRow : OpenClaim := { program := "ytimfgefpcbnalaa", sum := "e9e2deb786c51f753e981a0b58045e80b57240878354883b3a5e3c11899ed600", func := "waxwork/waxworklaw02.VaryOne", spec := "varyOne", apart := false, narrowed := true }
def VaryOneUptoSaid : Prop := varyOneUptoRow.holds Try.pinned (OpenSpec.upto varyOneSpec)

/-- 'waxworklaw02.VaryLong', WHERE WHAT IT READS IS OF BULK AT MOST 1048576: true; the input reads as it did. -/
def varyLongUptoRow : OpenClaim := { program := "ytimfgefpcbnalaa", sum := "e9e2deb786c51f753e981a0b58045e80b57240878354883b3a5e3c11899ed600", func := "waxwork/waxworklaw02.VaryLong", spec := "varyLong", apart := false, narrowed := true }
def VaryLongUptoSaid : Prop := varyLongUptoRow.holds Try.pinned (OpenSpec.upto varyLongSpec)

/-- 'waxworklaw02.VaryPads', WHERE WHAT IT READS IS OF BULK AT MOST 1048576: true; the input reads as it did. -/
def varyPadsUptoRow : OpenClaim := { program := "ytimfgefpcbnalaa", sum := "e9e2deb786c51f753e981a0b58045e80b57240878354883b3a5e3c11899ed600", func := "waxwork/waxworklaw02.VaryPads", spec := "varyPads", apart := false, narrowed := true }
def VaryPadsUptoSaid : Prop := varyPadsUptoRow.holds Try.pinned (OpenSpec.upto varyPadsSpec)

/-- 'waxworklaw02.VaryTexts', WHERE WHAT IT READS IS OF BULK AT MOST 1048576: true; the input reads as it did. -/
def varyTextsUptoRow : OpenClaim := { program := "ytimfgefpcbnalaa", sum := "e9e2deb786c51f753e981a0b58045e80b57240878354883b3a5e3c11899ed600", func := "waxwork/waxworklaw02.VaryTexts", spec := "varyTexts", apart := false, narrowed := true }
def VaryTextsUptoSaid : Prop := varyTextsUptoRow.holds Try.pinned (OpenSpec.upto varyTextsSpec)

end Rows
end Go.Proofs.Ytimfgefpcbnalaa
