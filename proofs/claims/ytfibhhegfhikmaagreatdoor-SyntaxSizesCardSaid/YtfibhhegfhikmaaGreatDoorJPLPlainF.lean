import Derived.Test.YtfibhhegfhikmaaGreatDoorJPLLet
import Derived.Lib.MinMax
set_option linter.unusedSimpArgs false
set_option linter.unusedVariables false
/- Letters alone, and behind them one that is special. -/
set_option linter.unusedVariables false
namespace Go.Proofs.YtfibhhegfhikmaaGreatDoor
open Go.RowKit
open Sx (Nd)

/- a backslash and one that is special -/
def SpecText (c : Int) (T : ByteArray) : Prop := Sx.special c = true ∧ 0 ≤ c ∧ c ≤ 1114111 ∧ Rn.rightB c = true ∧ T.data.toList = Sx.catT [92, c] ∧ T.size = 2
theorem bs_of {l : List Int} {t : ByteArray} (h : t.data.toList = Sx.catT l) (hk : Sx.OkT l) (h0 : ∀ r ∈ l, 0 ≤ r) : bs l = t := by
  have hl : Sx.OkL l := fun x hx => (hk x hx).resolve_left (fun e => by have := h0 x hx; omega)
  rw [Sx.catT_cat hl] at h
  show (⟨(Rn.cat l).toArray⟩ : ByteArray) = t
  rw [← h]
theorem let_plain {k : Nat} {ws : List Int} {t : ByteArray} (h : LetText k ws t) (hk : k ≤ 40) : ∃ n, Sx.Parsed t n t.size 0 ∧ Sx.right n ∧ bs (Sx.put n) = t ∧ (nsz n : Int) = (if k = 1 then 1 else (k : Int) + 1) := by
  obtain ⟨h1, h2, h3, h4, h5, h6⟩ := h
  obtain ⟨he, hF, hp, hs⟩ := Sx.letters_parsed h3 h4
  have ht := (Sx.backT h2 h1).2.2
  refine ⟨_, .ok _ 0 (by omega) (by rw [ht]; exact he), Sx.form_right hF (by decide), by rw [hp]; exact bs_of h1 h2 (fun r hr => (h3 r hr).2), ?_⟩
  rw [← size_nsz, hs, h5]
  split <;> omega
theorem let_special {k : Nat} {ws : List Int} {t T : ByteArray} {c : Int} (h : LetText k ws t) (hk : k ≤ 40) (hT : SpecText c T) : ∃ n, Sx.Parsed (t ++ T) n ((t.size : Int) + 2) 0 ∧ Sx.right n ∧ bs (Sx.put n) = t ++ T ∧ (1 ≤ k → (nsz n : Int) = (k : Int) + 2) ∧ Sx.groups n = 0 := by
  obtain ⟨h1, h2, h3, h4, h5, h6⟩ := h
  obtain ⟨t1, t2, t3, t4, t5, t6⟩ := hT
  obtain ⟨he, hF, hp, hs⟩ := Sx.letters_special h3 h4 t1 t2 t3
  have hk' : Sx.OkT (ws ++ [92, c]) := h2.app (fun y hy => by
    rcases List.mem_cons.1 hy with rfl | hy
    · exact .inr (by decide)
    · rw [List.mem_singleton.1 hy]; exact .inr t4)
  have hb : (t ++ T).data.toList = Sx.catT (ws ++ [92, c]) := by rw [ByteArray.data_append, Array.toList_append, h1, t5, Sx.catT_app]
  have ht := (Sx.backT hk' hb).2.2
  have hz : (t ++ T).size = t.size + 2 := by rw [ByteArray.size_append, t6]
  have hpos : ∀ r ∈ ws ++ [92, c], 0 ≤ r := fun r hr => by
    rcases List.mem_append.1 hr with hr | hr
    · exact (h3 r hr).2
    · rcases List.mem_cons.1 hr with rfl | hr
      · decide
      · rw [List.mem_singleton.1 hr]; exact t2
  refine ⟨_, ?_, Sx.form_right hF (by decide), by rw [hp]; exact bs_of hb hk' hpos, fun h1k => ?_, ?_⟩
  · have := Sx.Parsed.ok (s := t ++ T) _ 0 (by omega) (by rw [ht]; exact he)
    rw [hz] at this
    exact this
  · rw [← size_nsz, hs (by omega), h5]
  · rw [Sx.form_groups hF (by decide)]; rfl
end Go.Proofs.YtfibhhegfhikmaaGreatDoor
