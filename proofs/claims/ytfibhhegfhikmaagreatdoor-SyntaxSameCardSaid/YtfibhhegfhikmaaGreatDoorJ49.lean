import Derived.Test.YtfibhhegfhikmaaGreatDoorJ48
import Derived.Test.YtfibhhegfhikmaaGreatDoorJ29
set_option linter.unusedSimpArgs false
set_option linter.unusedVariables false
/- What is known of a pattern that was parsed. -/
set_option linter.unusedVariables false
namespace Go.Proofs.YtfibhhegfhikmaaGreatDoor
open Go.RowKit
open Sx (Nd)

theorem few_pat {ws : List Int} {t : ByteArray} (h : PatText ws t) : Sx.Few (Sx.toks t) := by
  rw [(Sx.backT h.2.1 h.1).2.2]
  exact h.2.2
theorem ok_parsed {s : ByteArray} {n : Nd} {a : Int} (h : Sx.Parsed s n a 0) (hf : Sx.Few (Sx.toks s)) : nsz n ≤ 602 ∧ Sx.right n ∧ (0 ≤ Sx.groups n ∧ Sx.groups n ≤ 8) ∧ (bs (Sx.put n)).size ≤ 1360000 ∧ a = s.size := by
  obtain ⟨hz, ha, g, he⟩ := Sx.parsed_tree h
  have hF := Sx.parsed_form he hf.top
  have hr := Sx.form_right hF (by decide)
  have hg := Sx.form_groups hF (by decide)
  have h8 := (Sx.form_mono hF).2 (by decide)
  have hs := Sx.parsed_small h
  refine ⟨hs, hr, ?_, Sx.put_bytes hr (by omega), ha⟩
  rw [hg]
  split <;> omega
end Go.Proofs.YtfibhhegfhikmaaGreatDoor
