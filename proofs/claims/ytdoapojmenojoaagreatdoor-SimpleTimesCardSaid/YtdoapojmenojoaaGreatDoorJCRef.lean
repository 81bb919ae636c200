import Derived.Test.YtdoapojmenojoaaGreatDoorJPairs
set_option linter.unusedSimpArgs false
set_option linter.unusedVariables false
section
/- The document's own answer to classes: what may be, what has, what is right. -/
set_option linter.unusedVariables false
namespace Go.Proofs.YtdoapojmenojoaaGreatDoor
open Go.RowKit

def mayB (r : Cl.Rg) : Bool := decide (0 ≤ r.1) && decide (r.2 ≤ 1114111) && decide (r.1 ≤ r.2)
theorem mayB_iff (r : Cl.Rg) : mayB r = true ↔ Cl.may r := by simp [mayB, Cl.may, and_assoc]
theorem mayB_true {r : Cl.Rg} (h : Cl.may r) : mayB r = true := (mayB_iff r).2 h
theorem mayB_false {r : Cl.Rg} (h : ¬ Cl.may r) : mayB r = false := Bool.eq_false_iff.2 (fun k => h ((mayB_iff r).1 k))
def hasB (l : List Cl.Rg) (x : Int) : Bool := l.any fun r => decide (r.1 ≤ x) && decide (x ≤ r.2)
def RIn (l : List Cl.Rg) : Prop := ∀ (k : Nat) (r : Cl.Rg), l[k]? = some r → -2147483648 ≤ r.1 ∧ r.1 ≤ 2147483647 ∧ -2147483648 ≤ r.2 ∧ r.2 ≤ 2147483647
end Go.Proofs.YtdoapojmenojoaaGreatDoor
end

section
/- The document's own answer to classes: which is right. -/
set_option linter.unusedVariables false
namespace Go.Proofs.YtdoapojmenojoaaGreatDoor
open Go.RowKit

/- the first k of l may be, and rise without touching -/
def Chk (l : List Cl.Rg) (k : Nat) : Prop := ∀ j, j < k → ∀ r, l[j]? = some r → Cl.may r ∧ ∀ i s, j = i + 1 → l[i]? = some s → s.2 + 1 < r.1
theorem chk_zero (l : List Cl.Rg) : Chk l 0 := fun j hj => absurd hj (Nat.not_lt_zero _)
theorem chk_may {l : List Cl.Rg} {k : Nat} (h : Chk l k) {j : Nat} (hj : j < k) {r : Cl.Rg} (hr : l[j]? = some r) : Cl.may r := (h j hj r hr).1
theorem chk_more {l : List Cl.Rg} {k : Nat} (h : Chk l k) {r : Cl.Rg} (hr : l[k]? = some r) (hm : Cl.may r) (hs : ∀ i s, k = i + 1 → l[i]? = some s → s.2 + 1 < r.1) : Chk l (k + 1) := fun j hj q hq => by
  by_cases e : j = k
  · subst e; rw [hr] at hq; cases hq; exact ⟨hm, hs⟩
  · exact h j (by omega) q hq
def RightP (l : List Cl.Rg) : Prop := l.length ≤ 64 ∧ Chk l l.length
/- v tells whether it is right -/
def Rt (l : List Cl.Rg) (v : Bool) : Prop := v = true ↔ RightP l
theorem rt_some (l : List Cl.Rg) : ∃ v, Rt l v := by
  by_cases h : RightP l
  · exact ⟨true, by simp [Rt, h]⟩
  · exact ⟨false, by simp only [Rt, h]; simp⟩
theorem rt_false {l : List Cl.Rg} {v : Bool} (h : Rt l v) (hn : ¬ RightP l) : v = false := by
  cases v with
  | false => rfl
  | true => exact absurd (h.1 rfl) hn
theorem rt_long {l : List Cl.Rg} {v : Bool} (h : Rt l v) (hl : 64 < l.length) : v = false := rt_false h (fun k => by have := k.1; omega)
theorem rt_may {l : List Cl.Rg} {v : Bool} (h : Rt l v) {k : Nat} {r : Cl.Rg} (hr : l[k]? = some r) (hm : ¬ Cl.may r) : v = false := rt_false h (fun q => hm (q.2 k (List.getElem?_eq_some_iff.1 hr).1 r hr).1)
theorem rt_touch {l : List Cl.Rg} {v : Bool} (h : Rt l v) {k : Nat} {r s : Cl.Rg} (hr : l[k + 1]? = some r) (hs : l[k]? = some s) (hn : ¬ s.2 + 1 < r.1) : v = false := rt_false h (fun q => hn ((q.2 (k + 1) (List.getElem?_eq_some_iff.1 hr).1 r hr).2 k s rfl hs))
def Bel (g : Nat) (w0 w : World) : Prop := Below w0.heap.size w0 w ∧ g < w.heap.size
theorem Bel.drew {g : Nat} {w0 w : World} (h : Bel g w0 w) : Bel g w0 w.drew := ⟨h.1.drew, h.2⟩
theorem Bel.call {g : Nat} {w0 w w' : World} (h : Bel g w0 w) (hb : Below w.heap.size w w') : Bel g w0 w' := ⟨bvia h.1 hb, Nat.lt_of_lt_of_le h.2 hb.size⟩
end Go.Proofs.YtdoapojmenojoaaGreatDoor
end
