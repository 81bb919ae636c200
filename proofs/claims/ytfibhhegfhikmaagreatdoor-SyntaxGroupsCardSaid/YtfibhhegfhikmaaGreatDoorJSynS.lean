import Derived.Test.YtfibhhegfhikmaaGreatDoorJSynV
import Derived.Test.YtfibhhegfhikmaaGreatDoorJCSame
set_option linter.unusedSimpArgs false
set_option linter.unusedVariables false
/- The document's own answer to patterns: which are the same. -/
set_option linter.unusedVariables false
namespace Go.Proofs.YtfibhhegfhikmaaGreatDoor
open Go.RowKit
open Sx (Nd)

theorem nd_ne {k k' mn mn' mx mx' g g' : Int} {lz lz' : Bool} {c c' : List Cl.Rg} {l l' : List Nd} (h : ¬ (k = k' ∧ mn = mn' ∧ mx = mx' ∧ lz = lz' ∧ g = g' ∧ l.length = l'.length ∧ c = c' ∧ l = l')) : ¬ (Nd.mk k c mn mx lz g l = Nd.mk k' c' mn' mx' lz' g' l') := by
  intro e
  injection e with e1 e2 e3 e4 e5 e6 e7
  exact h ⟨e1, e3, e4, e5, e6, congrArg List.length e7, e2, e7⟩
/- v tells whether they are the same -/
def Sm (a b : Nd) (v : Bool) : Prop := v = true ↔ a = b
theorem sm_some (a b : Nd) : ∃ v, Sm a b v := by
  by_cases h : a = b
  · exact ⟨true, by simp [Sm, h]⟩
  · exact ⟨false, by simp only [Sm, h]; simp⟩
theorem sm_false {a b : Nd} {v : Bool} (h : Sm a b v) (hn : ¬ a = b) : v = false := by
  cases v with
  | false => rfl
  | true => exact absurd (h.1 rfl) hn
/- what is held while two kids are compared -/
def Bel4 (b b' : Nat) (w0 w : World) : Prop := Below w0.heap.size w0 w ∧ b < w.heap.size ∧ b' < w.heap.size ∧ w0.heap.size + 1 < w.heap.size
theorem take_same {l m : List Nd} {i : Nat} {x y : Nd} (h : l.take i = m.take i) (hx : l[i]? = some x) (hy : m[i]? = some y) (e : x = y) : l.take (i + 1) = m.take (i + 1) := by
  subst e
  have hi := (List.getElem?_eq_some_iff.1 hx).1
  have hv := (List.getElem?_eq_some_iff.1 hx).2
  have hi' := (List.getElem?_eq_some_iff.1 hy).1
  have hv' := (List.getElem?_eq_some_iff.1 hy).2
  rw [List.take_succ_eq_append_getElem hi, List.take_succ_eq_append_getElem hi', hv, hv', h]
theorem kid_ne {l m : List Nd} {i : Nat} {x y : Nd} (hx : l[i]? = some x) (hy : m[i]? = some y) (e : ¬ x = y) : ¬ l = m := fun h => by
  subst h; rw [hx] at hy; cases hy; exact e rfl
theorem Seven.box_at (w : World) (ob : Obj) (k : Int) (c : Value) (mn mx : Int) (lz : Bool) (g : Int) (l : Value) (t : TypeId) : Seven ((w.alloc ob).alloc (.cells #[.int .i64 k, c, .int .i64 mn, .int .i64 mx, .bool lz, .int .i64 g, l] t)) (w.heap.size + 1) 0 k c mn mx lz g l := by
  have := Seven.box (w.alloc ob) k c mn mx lz g l t
  rw [World.size_alloc] at this
  exact this
end Go.Proofs.YtfibhhegfhikmaaGreatDoor
