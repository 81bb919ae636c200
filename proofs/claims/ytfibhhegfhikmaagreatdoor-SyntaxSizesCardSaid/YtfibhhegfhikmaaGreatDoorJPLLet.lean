import Derived.Test.YtfibhhegfhikmaaGreatDoorJPLF
import Derived.Test.YtfibhhegfhikmaaGreatDoorJSynM12
set_option linter.unusedSimpArgs false
set_option linter.unusedVariables false
/- Letters, piece by piece. -/
set_option linter.unusedVariables false
namespace Go.Proofs.YtfibhhegfhikmaaGreatDoor
open Go.RowKit
open Sx (Nd)

/- a text of k letters, none of them special -/
def LetText (k : Nat) (ws : List Int) (t : ByteArray) : Prop := t.data.toList = Sx.catT ws ∧ Sx.OkT ws ∧ Sx.Letters ws ∧ (∀ r ∈ ws, r ≤ 1114111) ∧ ws.length = k ∧ t.size ≤ 3 * k
theorem LetText.nil : LetText 0 [] ⟨#[]⟩ := ⟨rfl, Sx.OkT.nil, fun x h => (by cases h), fun x h => (by cases h), rfl, by decide⟩
theorem LetText.more {k : Nat} {ws : List Int} {t q : ByteArray} (h : LetText k ws t) (r : Int) (hq : q.data.toList = Sx.catT [r]) (hr : (decide (r = -1) || Rn.rightB r) = true) (hl : Sx.special r = false ∧ 0 ≤ r) (hm : r ≤ 1114111) (hz : q.size ≤ 3) : LetText (k + 1) (ws ++ [r]) (t ++ q) := by
  obtain ⟨h1, h2, h3, h4, h5, h6⟩ := h
  refine ⟨?_, ?_, ?_, ?_, ?_, ?_⟩
  · rw [ByteArray.data_append, Array.toList_append, h1, hq, Sx.catT_app]
  · exact h2.app (fun y hy => by rw [List.mem_singleton.1 hy]; simpa using hr)
  · intro y hy
    rcases List.mem_append.1 hy with hy | hy
    · exact h3 y hy
    · rw [List.mem_singleton.1 hy]; exact hl
  · intro y hy
    rcases List.mem_append.1 hy with hy | hy
    · exact h4 y hy
    · rw [List.mem_singleton.1 hy]; exact hm
  · rw [List.length_append, h5]; rfl
  · rw [ByteArray.size_append]; omega
/- letters gathered, at most m -/
def Lets (m len : Nat) (B0 : Nat) (w0 : World) (s : Value) (wr : World) : Prop := ∃ (k : Nat) (t : ByteArray) (ws : List Int), k = min len m ∧ s = .string t ∧ LetText k ws t ∧ Lw B0 w0 wr
theorem wrong_text {k : Nat} {ws : List Int} {t q : ByteArray} {x : List Int × Nat} (h : LetText k ws t) (hk : k ≤ 20) (hx : x ∈ Sx.wrongs) (hq : q.data.toList = Sx.catT x.1) (hz : q.size ≤ 7) {a : Int} (ha : (t.size : Int) + ((x.1.length - x.2 : Nat) : Int) = a) : Sx.Parsed (t ++ q) Sx.empty a 2 := by
  obtain ⟨h1, h2, h3, h4, h5, h6⟩ := h
  have hs : (t ++ q).data.toList = Sx.catT (ws ++ x.1) := by rw [ByteArray.data_append, Array.toList_append, h1, hq, Sx.catT_app]
  have := Sx.wrong_parsed h3 h2 hx hs (by rw [ByteArray.size_append]; omega)
  have hl : t.size = (Sx.catT ws).length := by rw [← h1]; rfl
  rw [← ha, hl]
  rw [← Int.natCast_add] at *
  exact this
end Go.Proofs.YtfibhhegfhikmaaGreatDoor
