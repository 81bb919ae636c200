/- VaryReads: its arguments, opened; the law. -/
import Derived.Test.YtahckijanjbagaaReads
import Derived.Deep.SlicePairs
import Derived.Lib.SmallJoins
import Derived.ProofKit
import Derived.OpenShut
import Derived.SizedLaws
set_option linter.unusedVariables false
namespace Go.Proofs.Ytahckijanjbagaa
open Go.RowKit Go.ChangeShapes Go.WideShapes Go.Deep Go.Joins
theorem darg_of {H : Type} {enc : TypeId × Value → H} {W : World} {a : Option Addr} {len cap : Nat} {d : DataW H} {p : List MemPlace}
    (h : DataW.Trod enc Try.prog W 0 (fun _ => true) true 25 (.slice a len cap) d p) : DArg W a len ∧ len ≤ 9223372036854775807 := by
  obtain ⟨fuel, hf⟩ := h
  rcases open_slice_pairs Try.underlying25 Try.underlying34 (by kernel_rfl) rfl rfl (by kernel_rfl) (by kernel_rfl) hf with ⟨hcs, _⟩ | ⟨x, l, c, m, nn, V0, V1, D0, D1, P0, P1, hcs, _, hl, hm, hmm, hx, hi⟩
  · simp [Value.cells] at hcs
    obtain ⟨rfl, rfl, rfl⟩ := hcs
    exact ⟨.inl rfl, by omega⟩
  · simp [Value.cells] at hcs
    obtain ⟨rfl, rfl, rfl⟩ := hcs
    have hm' : m = cap := by simpa using hmm
    subst hm'
    refine ⟨?_, by unfold maxLen at hm; omega⟩
    by_cases h0 : len = 0
    · exact .inl h0
    · obtain ⟨g, off, spot⟩ := x
      have hc0 := (hi 0 (by omega)).1
      have hspot : spot = none := by simpa [Addr.add] using World.cell?_spot hc0
      subst hspot
      refine .inr ⟨g, off, rfl, ?_, fun i hlt => ?_⟩
      · have := World.block_lt_of_cell? W _ hc0
        rwa [Addr.add_defn] at this
      · obtain ⟨e0, e1, e2, e3⟩ := hi i (by omega)
        obtain ⟨k, hk, _, wk⟩ := DataW.trod_int Try.underlying5 e2
        obtain ⟨n, hn, _, wn⟩ := DataW.trod_int Try.underlying3 e3
        have bk := bounds_u8 wk
        have bn := bounds_i64 wn
        simp only [List.cons.injEq, and_true] at hk hn
        rw [Addr.add_defn, hk] at e0
        rw [Addr.add_defn, hn] at e1
        exact ⟨k, n, bk.1, bk.2, bn.1, bn.2, e0, by rw [← Nat.add_assoc] at e1; exact e1⟩
theorem reader_open {H : Type} {enc : TypeId × Value → H} {W : World} {base : Nat} {v : Value} {d : DataW H} {p : List MemPlace}
    (hv : Value.okWide Try.prog W .any base 24 v) (h : DataW.Trod enc Try.prog W 0 (fun _ => true) true 24 v d p) :
    ∃ (s : ByteArray) (e : Int) (y : DataW H), v = .agg #[.string s, .int .i64 e] ∧ d = .agg [.lit (.string s.data.toList), y] ∧ -9223372036854775808 ≤ e ∧ e ≤ 9223372036854775807 := by
  obtain ⟨c0, c1, y0, y1, m, rfl, rfl, rfl, hy0, hy1⟩ := open_agg2 Try.underlying24 (by kernel_rfl) (by kernel_rfl) hv h
  obtain ⟨s, e0, rfl, ws⟩ := DataW.trod_string Try.underlying9 hy0
  obtain ⟨n, e1, rfl, wn⟩ := DataW.trod_int Try.underlying22 hy1
  simp only [List.cons.injEq, and_true] at e0 e1
  subst e0 e1
  have bn := bounds_i64 wn
  exact ⟨s, n, _, rfl, rfl, bn.1, bn.2⟩
theorem sized_reader {H : Type} {ts : List TypeId} {ds : List (DataW H)} (h : (DataW.weightsEach Try.prog ts ds).all (· ≤ reachBytes) = true) {j : Nat} {bytes : List UInt8} {y : DataW H} (ht : ts[j]? = some 24)
    (hd : ds[j]? = some (.agg [.lit (.string bytes), y])) : bytes.length ≤ reachBytes := by
  have := List.all_eq_true.1 h _ (DataW.weights_mem_each ht hd bytes.length (by simp [DataW.weights, Try.underlying24, DataW.weightsEach]))
  simpa using this
theorem law_VaryReads (X : ByteArray) (E : Int) (a : Option Addr) (len cap : Nat) (n : Int) (s : ByteArray) (own : Bool) (w : World) (hX : X.size ≤ 140737488351232) (e0 : -9223372036854775808 ≤ E) (e1 : E ≤ 9223372036854775807)
    (hl : len ≤ 9223372036854775807) (hD : DArg w a len) (n0 : 0 ≤ n) (n1 : n ≤ 18446744073709551615) (hs : s.size ≤ 140737488351232) :
    Calls Try.prog 3 #[.agg #[.string X, .int .i64 E], .slice a len cap, .int .u64 n, .string s, .bool own] w fun e w' => e = .returned (.bool true) ∧ Below w.heap.size w w' := by
  obtain ⟨n, rfl⟩ := Int.eq_ofNat_of_zero_le n0
  exact reads_walk X s _ _ E a len cap n own w hX e0 e1 hl hD (by omega) hs rfl rfl
end Go.Proofs.Ytahckijanjbagaa
