import Derived.Test.YtfibhhegfhikmaaGreatDoorJPLPlainF
set_option linter.unusedSimpArgs false
set_option linter.unusedVariables false
/- Letters, groups and repetitions, each so often. -/
set_option linter.unusedVariables false
namespace Go.Proofs.YtfibhhegfhikmaaGreatDoor
open Go.RowKit
open Sx (Nd)

/- a text, by its runes; at most so long -/
def TxtIs (ws : List Int) (b : Nat) (t : ByteArray) : Prop := t.data.toList = Sx.catT ws ∧ t.size ≤ b
theorem TxtIs.nil : TxtIs [] 0 ⟨#[]⟩ := ⟨rfl, by decide⟩
theorem TxtIs.app {ws us vs : List Int} {b c : Nat} {t q : ByteArray} (h : TxtIs ws b t) (hq : q.data.toList = Sx.catT us) (hz : q.size ≤ c) (hv : vs = ws ++ us) : TxtIs vs (b + c) (t ++ q) := by
  subst hv
  exact ⟨by rw [ByteArray.data_append, Array.toList_append, h.1, hq, Sx.catT_app], by rw [ByteArray.size_append]; have := h.2; omega⟩
theorem TxtIs.le {ws : List Int} {b c : Nat} {t : ByteArray} (h : TxtIs ws b t) (hc : b ≤ c) : TxtIs ws c t := ⟨h.1, Nat.le_trans h.2 hc⟩
theorem g1_next (j : Nat) : List.replicate (j + 1) (97 : Int) = List.replicate j 97 ++ [97] := List.replicate_succ'
theorem g2_next (n j : Nat) : Sx.szText n (j + 1) 0 = Sx.szText n j 0 ++ [40, 98, 41] := by
  unfold Sx.szText
  rw [List.replicate_succ', List.flatten_append]
  simp
theorem g2_zero (n : Nat) : List.replicate n (97 : Int) = Sx.szText n 0 0 := by unfold Sx.szText; simp
theorem g3_next (n m j : Nat) : Sx.szText n m (j + 1) = Sx.szText n m j ++ Sx.rtext j := by
  unfold Sx.szText
  rw [List.range_succ, List.flatMap_append]
  simp
theorem sz_runes {n m k : Nat} : ∀ r ∈ Sx.szText n m k, 0 ≤ r ∧ Rn.rightB r = true := by
  intro r hr
  unfold Sx.szText at hr
  rcases List.mem_append.1 hr with hr | hr
  · rcases List.mem_append.1 hr with hr | hr
    · rw [(List.mem_replicate.1 hr).2]; decide
    · obtain ⟨l, hl, hr⟩ := List.mem_flatten.1 hr
      rw [(List.mem_replicate.1 hl).2] at hr
      simp at hr
      rcases hr with rfl | rfl | rfl <;> decide
  · obtain ⟨i, _, hr⟩ := List.mem_flatMap.1 hr
    unfold Sx.rtext at hr
    split at hr
    · simp at hr; rcases hr with rfl | rfl <;> decide
    · split at hr
      · simp at hr; rcases hr with rfl | rfl | rfl <;> decide
      · split at hr
        · simp at hr; rcases hr with rfl | rfl | rfl | rfl <;> decide
        · simp at hr; rcases hr with rfl | rfl <;> decide
theorem sz_text {n m k b : Nat} {t : ByteArray} (h : TxtIs (Sx.szText n m k) b t) (hb : b ≤ 200) (h2 : 2 ≤ n) (h8 : m ≤ 8) : ∃ N, Sx.Parsed t N t.size 0 ∧ Sx.right N ∧ bs (Sx.put N) = t ∧ (nsz N : Int) = 1 + (n : Int) + 2 * (m : Int) + 2 * (k : Int) ∧ Sx.groups N = (m : Int) := by
  obtain ⟨he, hF, hp, hs, hg⟩ := Sx.sz_all n m k h2 h8
  have hk : Sx.OkT (Sx.szText n m k) := fun r hr => .inr (sz_runes r hr).2
  have ht := (Sx.backT hk h.1).2.2
  refine ⟨_, .ok _ m (by have := h.2; omega) (by rw [ht]; exact he), Sx.form_right hF (by decide), by rw [hp]; exact bs_of h.1 hk (fun r hr => (sz_runes r hr).1), ?_, hg⟩
  rw [← size_nsz, hs]
end Go.Proofs.YtfibhhegfhikmaaGreatDoor
