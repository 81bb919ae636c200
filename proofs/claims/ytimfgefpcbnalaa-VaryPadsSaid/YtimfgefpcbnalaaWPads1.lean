/- VaryPads: its slice of deeds, opened. -/
import Derived.Test.YtimfgefpcbnalaaWPads0
import Derived.Deep.SlicePairs
import Derived.ProofKit
import Derived.OpenShut
set_option linter.unusedVariables false
namespace Go.Proofs.Ytimfgefpcbnalaa
open Go.RowKit Go.ChangeShapes Go.WideShapes Go.Deep
theorem darg_of {H : Type} {enc : TypeId × Value → H} {W : World} {a : Option Addr} {len cap : Nat} {d : DataW H} {p : List MemPlace}
    (h : DataW.Trod enc Try.prog W 0 (fun _ => true) true 25 (.slice a len cap) d p) : DArg W a len ∧ len ≤ 9223372036854775807 := by
  obtain ⟨fuel, hf⟩ := h
  rcases open_slice_pairs Try.underlying25 Try.underlying34 (by kernel_rfl) rfl rfl (by kernel_rfl) (by kernel_rfl) hf with ⟨hcs, _⟩ | ⟨x, l, c, m, nn, V0, V1, D0, D1, P0, P1, hcs, _, hl, hm, hmm, hx, hi⟩
  · simp [Value.cells] at hcs
    obtain ⟨rfl, rfl, rfl⟩ := hcs
    exact ⟨.inl rfl, by omega⟩
  · simp [Value.cells] at hcs
    obtain ⟨rfl, rfl, rfl⟩ := hcs
    have hm' : m = cap := by simpa using hmm
    subst hm'
    refine ⟨?_, by unfold maxLen at hm; omega⟩
    by_cases h0 : len = 0
    · exact .inl h0
    · obtain ⟨g, off, spot⟩ := x
      have hc0 := (hi 0 (by omega)).1
      have hspot : spot = none := by simpa [Addr.add] using World.cell?_spot hc0
      subst hspot
      refine .inr ⟨g, off, rfl, ?_, fun i hlt => ?_⟩
      · have := World.block_lt_of_cell? W _ hc0
        rwa [Addr.add_defn] at this
      · obtain ⟨e0, e1, e2, e3⟩ := hi i (by omega)
        obtain ⟨k, hk, _, wk⟩ := DataW.trod_int Try.underlying5 e2
        obtain ⟨n, hn, _, wn⟩ := DataW.trod_int Try.underlying3 e3
        have bk := bounds_u8 wk
        have bn := bounds_i64 wn
        simp only [List.cons.injEq, and_true] at hk hn
        rw [Addr.add_defn, hk] at e0
        rw [Addr.add_defn, hn] at e1
        exact ⟨k, n, bk.1, bk.2, bn.1, bn.2, e0, by rw [← Nat.add_assoc] at e1; exact e1⟩
end Go.Proofs.Ytimfgefpcbnalaa
