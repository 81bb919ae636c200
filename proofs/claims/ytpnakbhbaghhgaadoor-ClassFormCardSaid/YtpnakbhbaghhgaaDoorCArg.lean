/- Slices of runs that come in, opened; the library's table, as it is laid. -/
import Derived.Test.YtpnakbhbaghhgaaDoorCRuns
import Derived.Deep.SlicePairs
import Derived.Lib.LaidTab
import Derived.ProofKit
import Derived.OpenShut
import Derived.SizedLaws
import Derived.Stop.Joined
import Derived.MakeChecks
import Derived.Stop.LaidErr
import Derived.LaidMore
set_option linter.unusedVariables false
namespace Go.Proofs.YtpnakbhbaghhgaaDoor
open Go.RowKit Go.ChangeShapes Go.WideShapes Go.Deep
theorem len5 {α : Type} {l : List α} (h : l.length = 5) : ∃ a b c d e, l = [a, b, c, d, e] := by
  match l, h with
  | [a, b, c, d, e], _ => exact ⟨a, b, c, d, e, rfl⟩
theorem len4 {α : Type} {l : List α} (h : l.length = 4) : ∃ a b c d, l = [a, b, c, d] := by
  match l, h with
  | [a, b, c, d], _ => exact ⟨a, b, c, d, rfl⟩
theorem len2 {α : Type} {l : List α} (h : l.length = 2) : ∃ a b, l = [a, b] := by
  match l, h with
  | [a, b], _ => exact ⟨a, b, rfl⟩
set_option maxRecDepth 20000 in
theorem runarg_of {H : Type} {enc : TypeId × Value → H} {W : World} {a : Option Addr} {len cap : Nat} {d : DataW H} {p : List MemPlace}
    (h : DataW.Trod enc Tryd.prog W 0 (fun _ => true) true 22 (.slice a len cap) d p) : RunArg W a len ∧ len ≤ 9223372036854775807 := by
  obtain ⟨fuel, hf⟩ := h
  rcases open_slice Tryd.underlying22 hf with ⟨hcs, _⟩ | ⟨x, l, c, m, nn, D, Pl, hcs, _, hl, hm, hmm, _, hx⟩
  · simp [Value.cells] at hcs
    obtain ⟨rfl, rfl, rfl⟩ := hcs
    exact ⟨.inl rfl, by omega⟩
  · simp [Value.cells] at hcs
    obtain ⟨rfl, rfl, rfl⟩ := hcs
    have hm' : m = cap := by simpa using hmm
    subst hm'
    have ce : Tryd.prog.cellsOf 54 = 5 := by kernel_rfl
    have each : ∀ k, k < len → ∃ (a b : Int) (o : Bool) (c d : Int),
        -2147483648 ≤ a ∧ a ≤ 2147483647 ∧ -2147483648 ≤ b ∧ b ≤ 2147483647 ∧ 0 ≤ c ∧ c ≤ 255 ∧ 0 ≤ d ∧ d ≤ 255 ∧
        W.cell? (x.add (k * 5)) = some (.int .i32 a) ∧ W.cell? (x.add (k * 5 + 1)) = some (.int .i32 b) ∧ W.cell? (x.add (k * 5 + 2)) = some (.bool o) ∧ W.cell? (x.add (k * 5 + 3)) = some (.int .u8 c) ∧ W.cell? (x.add (k * 5 + 4)) = some (.int .u8 d) := by
      intro k hk
      obtain ⟨cs', h1, h2⟩ := hx k (by omega)
      rw [ce] at h1
      obtain ⟨_, hlen, hcell⟩ := World.cells?_some h1
      obtain ⟨xs, j, hj, hxy, _, hxl, hfs⟩ := DataW.trod_struct Tryd.underlying54 h2
      have c4 : Tryd.prog.cellsOf 4 = 1 := by kernel_rfl
      have c5 : Tryd.prog.cellsOf 5 = 1 := by kernel_rfl
      have c48 : Tryd.prog.cellsOf 48 = 2 := by kernel_rfl
      have c21 : Tryd.prog.cellsOf 21 = 1 := by kernel_rfl
      obtain ⟨v0, v1, v2, v3, v4, rfl⟩ := len5 hlen
      obtain ⟨y0, y1, y2, y3, rfl⟩ := len4 (show xs.length = 4 from hxl)
      have g0 := hfs 0 _ rfl
      have g1 := hfs 1 _ rfl
      have g2 := hfs 2 _ rfl
      have g3 := hfs 3 _ rfl
      clear hfs hxl
      simp [c4, c5, c48] at g0 g1 g2 g3
      obtain ⟨ys, j2, hj2, _, _, hyl, hys⟩ := DataW.trod_struct Tryd.underlying48 g0
      obtain ⟨z0, z1, rfl⟩ := len2 (show ys.length = 2 from hyl)
      have k0 := hys 0 _ rfl
      have k1 := hys 1 _ rfl
      clear hys hyl
      simp [c21] at k0 k1
      obtain ⟨a, ha, _, wa⟩ := DataW.trod_int Tryd.underlying21 k0
      obtain ⟨b, hb, _, wb⟩ := DataW.trod_int Tryd.underlying21 k1
      obtain ⟨c, hc, _, wc⟩ := DataW.trod_int Tryd.underlying5 g2
      obtain ⟨dd, hd, _, wd⟩ := DataW.trod_int Tryd.underlying5 g3
      obtain ⟨o, ho, _⟩ := DataW.trod_bool Tryd.underlying4 g1
      simp only [List.cons.injEq, and_true] at ha hb hc hd ho
      subst ha hb hc hd ho
      have ba := bounds_i32 wa
      have bb := bounds_i32 wb
      have bc := bounds_u8 wc
      have bd := bounds_u8 wd
      have e0 := hcell 0 (by decide)
      have e1 := hcell 1 (by decide)
      have e2 := hcell 2 (by decide)
      have e3 := hcell 3 (by decide)
      have e4 := hcell 4 (by decide)
      simp only [Addr.add_add, Nat.add_zero] at e0 e1 e2 e3 e4
      exact ⟨a, b, o, c, dd, ba.1, ba.2, bb.1, bb.2, bc.1, bc.2, bd.1, bd.2, e0, e1, e2, e3, e4⟩
    refine ⟨?_, by unfold maxLen at hm; omega⟩
    by_cases h0 : len = 0
    · exact .inl h0
    · obtain ⟨g, off, spot⟩ := x
      obtain ⟨_, _, _, _, _, _, _, _, _, _, _, _, _, hc0, _⟩ := each 0 (by omega)
      have hspot : spot = none := by simpa [Addr.add] using World.cell?_spot hc0
      subst hspot
      refine .inr ⟨g, off, rfl, ?_, fun k hk => ?_⟩
      · have := World.block_lt_of_cell? W _ hc0
        rwa [Addr.add_defn] at this
      · obtain ⟨a, b, o, c, d, r1, r2, r3, r4, r5, r6, r7, r8, h0, h1, h2, h3, h4⟩ := each k hk
        simp only [Addr.add_defn, ← Nat.add_assoc] at h0 h1 h2 h3 h4
        exact ⟨a, b, o, c, d, r1, r2, r3, r4, r5, r6, r7, r8, h0, h1, h2, h3, h4⟩
/- the table's cell, from what is laid -/
theorem tab_of {W : World} {l : List (String × DataW Unit)} (h : laidMetH Tryd.prog l W) (hm : (l.all fun x => x.2.handleName?.isNone) = true) (hl : ∃ rest, l = ("math/bits.deBruijn32tab", Rows.laid_math_bits_deBruijn32tab) :: ("math/bits.deBruijn64tab", Rows.laid_math_bits_deBruijn64tab) :: rest) : Tab W := by
  rw [MakeChecks.laidMetH_plain _ _ _ hm] at h
  obtain ⟨rest, rfl⟩ := hl
  have h2 := h.tail
  have g2 : Tryd.prog.globalNamed "math/bits.deBruijn64tab" = some 2 := by kernel_rfl
  have ht := Lib.tabIs_of_head (k := .u8) (zs := [0, 1, 56, 2, 57, 49, 28, 3, 61, 58, 42, 50, 38, 29, 17, 4, 62, 47, 59, 36, 45, 43, 51, 22, 53, 39, 33, 30, 24, 18, 12, 5, 63, 55, 48, 27, 60, 41, 37, 16, 46, 35, 44, 21, 52, 32, 23, 11, 54, 26, 40, 15, 34, 20, 31, 10, 25, 14, 19, 9, 13, 8, 7, 6]) g2 (t := 117) (by kernel_rfl) Tryd.underlying117 Tryd.underlying5 (by kernel_rfl) (by kernel_rfl) h2
  have hc := ht.cell g2 15 (by decide)
  exact ⟨hc, World.block_lt_of_cell? W _ hc⟩
end Go.Proofs.YtpnakbhbaghhgaaDoor
