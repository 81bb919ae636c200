import Derived.Test.YtdoapojmenojoaaGreatDoorJPClass
import Derived.ProofKit
import Derived.OpenShut
import Derived.Stop.Joined
import Derived.MakeChecks
import Derived.Stop.LaidErr
import Derived.LaidMore
set_option linter.unusedSimpArgs false
set_option linter.unusedVariables false
/- What the rows of chapter 5 lay: the package's errors. -/
set_option linter.unusedVariables false
namespace Go.Proofs.YtdoapojmenojoaaGreatDoor
open Go.RowKit Go.ChangeShapes Go.WideShapes
theorem es_star : "*" ++ "errors.errorString" = "*errors.errorString" := by decide
theorem es_row (u : TypeId) (h : Tryz.prog.typeName? 3 u = some "*errors.errorString") : u = 249 :=
  typeName_ptr_named (nm := "errors.errorString") (by rw [es_star]; kernel_rfl) (by kernel_rfl) (by decide) u (by rw [es_star]; exact h)
theorem errs_of {W : World} {l : List (String × DataW Unit)} (h : laidMetH Tryz.prog l W) (hm : (l.all fun x => x.2.handleName?.isNone) = true)
    (hl : ∃ a b c d rest, l = a :: b :: c :: d :: ("strconv.ErrRange", Rows.laid_strconv_ErrRange) :: ("strconv.ErrSyntax", Rows.laid_strconv_ErrSyntax) :: rest) : Errs W.heap.size W := by
  rw [MakeChecks.laidMetH_plain _ _ _ hm] at h
  obtain ⟨a, b, c, d, rest, rfl⟩ := hl
  have h4 := h.tail.tail.tail.tail
  have g1 : Tryz.prog.globalNamed "strconv.ErrRange" = some 3 := by kernel_rfl
  have g2 : Tryz.prog.globalNamed "strconv.ErrSyntax" = some 2 := by kernel_rfl
  have k1 : (Tryz.prog.globals[3]?).map (·.type) = some 122 := by kernel_rfl
  have k2 : (Tryz.prog.globals[2]?).map (·.type) = some 122 := by kernel_rfl
  have c1 : Tryz.prog.cellsOf 251 = 1 := by kernel_rfl
  have c2 : Tryz.prog.cellsOf 9 = 1 := by kernel_rfl
  obtain ⟨a0, s0, v0, _⟩ := laid_sentinel h4 g1 k1 Tryz.underlying122 es_row Tryz.underlying249 Tryz.underlying251 rfl rfl Tryz.underlying9 c1 c2
  obtain ⟨a1, s1, v1, _⟩ := laid_sentinel h4.tail g2 k2 Tryz.underlying122 es_row Tryz.underlying249 Tryz.underlying251 rfl rfl Tryz.underlying9 c1 c2
  have x0 : W.cell? ⟨3, 0, none⟩ = some (.iface 249 (.pointer (some a0))) := by simpa using World.var?_cell g1 v0 0
  have x1 : W.cell? ⟨2, 0, none⟩ = some (.iface 249 (.pointer (some a1))) := by simpa using World.var?_cell g2 v1 0
  exact ⟨⟨_, x1, .inr ⟨_, _, rfl⟩⟩, ⟨_, x0, .inr ⟨_, _, rfl⟩⟩, World.block_lt_of_cell? W _ x1, World.block_lt_of_cell? W _ x0⟩
end Go.Proofs.YtdoapojmenojoaaGreatDoor
