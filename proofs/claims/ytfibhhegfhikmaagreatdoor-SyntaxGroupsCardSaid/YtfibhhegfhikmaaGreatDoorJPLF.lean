import Derived.Test.YtfibhhegfhikmaaGreatDoorJPL
import Derived.Test.YtfibhhegfhikmaaGreatDoorJSynM12
set_option linter.unusedSimpArgs false
set_option linter.unusedVariables false
/- What is known of a pattern that was parsed. -/
set_option linter.unusedVariables false
namespace Go.Proofs.YtfibhhegfhikmaaGreatDoor
open Go.RowKit
open Sx (Nd)

theorem few_pat {ws : List Int} {t : ByteArray} (h : PatText ws t) : Sx.Few (Sx.toks t) := by
  rw [(Sx.backT h.2.1 h.1).2.2]
  exact h.2.2
theorem ok_parsed {s : ByteArray} {n : Nd} {a : Int} (h : Sx.Parsed s n a 0) (hf : Sx.Few (Sx.toks s)) : nsz n ≤ 602 ∧ Sx.right n ∧ (0 ≤ Sx.groups n ∧ Sx.groups n ≤ 8) ∧ (bs (Sx.put n)).size ≤ 1360000 ∧ a = s.size := by
  obtain ⟨hz, ha, g, he⟩ := Sx.parsed_tree h
  have hF := Sx.parsed_form he hf.top
  have hr := Sx.form_right hF (by decide)
  have hg := Sx.form_groups hF (by decide)
  have h8 := (Sx.form_mono hF).2 (by decide)
  have hs := Sx.parsed_small h
  refine ⟨hs, hr, ?_, Sx.put_bytes hr (by omega), ha⟩
  rw [hg]
  split <;> omega
theorem bad_parsed {s : ByteArray} {n : Nd} {a e : Int} (h : Sx.Parsed s n a e) (he : e ≠ 0) (hz : s.size ≤ 200) : n = Sx.empty ∧ 0 ≤ a ∧ a ≤ s.size := by
  have hp : ∀ left, 0 ≤ Sx.plc s left ∧ Sx.plc s left ≤ s.size := fun left => by
    unfold Sx.plc
    have := Rn.pos_le s (Rn.cnt s - left)
    omega
  cases h with
  | long h => omega
  | ok n g => exact absurd rfl he
  | close n x t g => exact ⟨rfl, hp _⟩
  | bad e left => exact ⟨rfl, hp _⟩
theorem nv_empty {w : World} {k : Int} {ka : Option Addr} {ki kj : Nat} {mn mx : Int} {lz : Bool} {g : Int} {kb : Option Addr} {ks kt : Nat} (h : NodeV w (nv k ka ki kj mn mx lz g kb ks kt) Sx.empty) : k = 0 ∧ ks = 0 := by
  obtain ⟨k', c, mn', mx', lz', g', kids, p, cap, q, cap', e1, e2, _⟩ := node_open h
  unfold Sx.empty at e1
  unfold ndv at e2
  simp only [Value.agg.injEq, Array.mk.injEq, List.cons.injEq, Value.int.injEq, Value.slice.injEq, true_and, and_true] at e2
  injection e1 with x1 x2 x3 x4 x5 x6 x7
  subst x7
  exact ⟨by rw [e2.1, ← x1], e2.2.2.2.2.2.2.2.1⟩
end Go.Proofs.YtfibhhegfhikmaaGreatDoor
