import Derived.Test.YtdoapojmenojoaaGreatDoorJCApp
import Derived.StillTailTactics
import Derived.Lib.MinMax
import Derived.Test.YtdoapojmenojoaaGreatDoorJCRef
import Derived.Deep.RegionHeld3
import Derived.RegionTactic
set_option linter.unusedSimpArgs false
set_option linter.unusedVariables false
section
/- The document's own answer to classes: a range comes to a form. -/
set_option linter.unusedVariables false
namespace Go.Proofs.YtdoapojmenojoaaGreatDoor
open Go.RowKit

theorem take_app {l : List Cl.Rg} {k : Nat} {r : Cl.Rg} (h : l[k]? = some r) : l.take (k + 1) = l.take k ++ [r] := by
  have hi := (List.getElem?_eq_some_iff.1 h).1
  have hv := (List.getElem?_eq_some_iff.1 h).2
  rw [List.take_succ_eq_append_getElem hi, hv]
theorem drop_cons {l : List Cl.Rg} {k : Nat} {r : Cl.Rg} (h : l[k]? = some r) : l.drop k = r :: l.drop (k + 1) := by
  have hi := (List.getElem?_eq_some_iff.1 h).1
  have hv := (List.getElem?_eq_some_iff.1 h).2
  rw [List.drop_eq_getElem_cons hi, hv]
theorem take_len {l : List Cl.Rg} {k : Nat} (h : k ≤ l.length) : (l.take k).length = k := by rw [List.length_take]; omega
/- how far the ranges ahead go -/
def Ahd (l : List Cl.Rg) (r : Cl.Rg) (k : Nat) : Prop := ∀ t ∈ l.take k, t.2 + 1 < r.1
/- the second loop: k ranges are in (x, y) -/
def Abs (l : List Cl.Rg) (k0 : Nat) (r : Cl.Rg) (k : Nat) (x y : Int) : Prop := Cl.absorb (l.drop k0) r = Cl.absorb (l.drop k) (x, y)
def Bd (l : List Cl.Rg) : Prop := ∀ (k : Nat) (r : Cl.Rg), l[k]? = some r → Cl.may r
theorem bd_nf {l : List Cl.Rg} (h : Cl.NF l) : Bd l := fun k r hr => h.2 r (List.mem_of_getElem? hr)
/- what the first loop leaves -/
def PutA (l : List Cl.Rg) (a b : Int) (w0 : World) (k : Nat) (v : Value) (w : World) : Prop :=
  k ≤ l.length ∧ Hid (Ahd l (a, b) k) ∧ OwnP w (w0.heap.size + 1) 115 v (l.take k) ∧ Two w w0.heap.size (.int .i32 a) (.int .i32 b) ∧ Below w0.heap.size w0 w
def PutB (l : List Cl.Rg) (a b : Int) (k0 : Nat) (v : Value) (w0 : World) (k : Nat) (w : World) : Prop :=
  k ≤ l.length ∧ ∃ x y : Int, 0 ≤ x ∧ x ≤ y ∧ y ≤ 1114111 ∧ Hid (Abs l k0 (a, b) k x y) ∧ OwnP w (w0.heap.size + 1) 115 v (l.take k0) ∧ Two w w0.heap.size (.int .i32 x) (.int .i32 y) ∧ Below w0.heap.size w0 w
/- what a round of the second loop stands on -/
structure PG (w0 : World) (l0 : List Cl.Rg) (v : Value) (x y : Int) (g q : Nat) (c d : Int) (w : World) : Prop where
  own : OwnP w (w0.heap.size + 1) 115 v l0
  two : Two w w0.heap.size (.int .i32 x) (.int .i32 y)
  c1 : w.cell? ⟨g, q, none⟩ = some (.int .i32 c)
  c2 : w.cell? ⟨g, q + 1, none⟩ = some (.int .i32 d)
  bel : Below w0.heap.size w0 w
  lt : g < w0.heap.size
theorem PG.drewN {w0 : World} {l0 : List Cl.Rg} {v : Value} {x y : Int} {g q : Nat} {c d : Int} {w : World} (h : PG w0 l0 v x y g q c d w) (n : Nat) : PG w0 l0 v x y g q c d (w.drewN n) := ⟨h.own, h.two.drewN n, h.c1, h.c2, bdrewN h.bel, h.lt⟩
theorem PG.drew {w0 : World} {l0 : List Cl.Rg} {v : Value} {x y : Int} {g q : Nat} {c d : Int} {w : World} (h : PG w0 l0 v x y g q c d w) : PG w0 l0 v x y g q c d w.drew := ⟨h.own, h.two, h.c1, h.c2, h.bel.drew, h.lt⟩
theorem PG.set0 {w0 : World} {l0 : List Cl.Rg} {v : Value} {x y : Int} {g q : Nat} {c d : Int} {w : World} (h : PG w0 l0 v x y g q c d w) (u : Int) : PG w0 l0 v u y g q c d (w.setCell ⟨w0.heap.size, 0, none⟩ (.int .i32 u)) := by
  have hne := h.lt
  refine ⟨h.own.set (by simp) _, h.two.set0 _, ?_, ?_, h.bel.setCell (by simp) _, h.lt⟩
  · rw [World.cell?_setCell_other w _ _ _ (fun e => by have := congrArg Addr.block e; simp at this; omega)]; exact h.c1
  · rw [World.cell?_setCell_other w _ _ _ (fun e => by have := congrArg Addr.block e; simp at this; omega)]; exact h.c2
theorem PG.set1 {w0 : World} {l0 : List Cl.Rg} {v : Value} {x y : Int} {g q : Nat} {c d : Int} {w : World} (h : PG w0 l0 v x y g q c d w) (u : Int) : PG w0 l0 v x u g q c d (w.setCell ⟨w0.heap.size, 1, none⟩ (.int .i32 u)) := by
  have hne := h.lt
  refine ⟨h.own.set (by simp) _, h.two.set1 _, ?_, ?_, h.bel.setCell (by simp) _, h.lt⟩
  · rw [World.cell?_setCell_other w _ _ _ (fun e => by have := congrArg Addr.block e; simp at this; omega)]; exact h.c1
  · rw [World.cell?_setCell_other w _ _ _ (fun e => by have := congrArg Addr.block e; simp at this; omega)]; exact h.c2
end Go.Proofs.YtdoapojmenojoaaGreatDoor
end

section
/- The document's own answer to classes: the class of any ranges. -/
set_option linter.unusedVariables false
namespace Go.Proofs.YtdoapojmenojoaaGreatDoor
open Go.RowKit

end Go.Proofs.YtdoapojmenojoaaGreatDoor
end

section
/- The document's own answer to classes: how many, unions, all others, sameness. -/
set_option linter.unusedVariables false
namespace Go.Proofs.YtdoapojmenojoaaGreatDoor
open Go.RowKit

/- the sum of the first k ranges, and its bounds -/
def SumAt (l : List Cl.Rg) (k : Nat) (s : Int) : Prop := s = Cl.sumL (l.take k) ∧ 0 ≤ s ∧ s ≤ 1114112 * (k : Int)
/- all others, k ranges behind -/
def NotAt (l : List Cl.Rg) (k : Nat) (o : List Cl.Rg) (low : Int) : Prop := Cl.notL 0 l = o ++ Cl.notL low (l.drop k) ∧ 0 ≤ low ∧ low ≤ 1114112 ∧ o.length ≤ k
theorem notat_zero (l : List Cl.Rg) : NotAt l 0 [] 0 := ⟨by simp, by omega, by omega, by simp⟩
theorem notat_gap {l : List Cl.Rg} {k : Nat} {o : List Cl.Rg} {low a b : Int} (h : NotAt l k o low) (ht : l[k]? = some (a, b)) (hm : 0 ≤ a ∧ b ≤ 1114111 ∧ a ≤ b) (hl : low < a) : NotAt l (k + 1) (o ++ [(low, a - 1)]) (b + 1) := by
  obtain ⟨h1, h2, h3, h4⟩ := h
  refine ⟨?_, by omega, by omega, by simp; omega⟩
  rw [h1, drop_cons ht, Cl.notL]
  simp only [hl, if_true, List.append_assoc]
theorem notat_none {l : List Cl.Rg} {k : Nat} {o : List Cl.Rg} {low a b : Int} (h : NotAt l k o low) (ht : l[k]? = some (a, b)) (hm : 0 ≤ a ∧ b ≤ 1114111 ∧ a ≤ b) (hl : ¬ low < a) : NotAt l (k + 1) o (b + 1) := by
  obtain ⟨h1, h2, h3, h4⟩ := h
  refine ⟨?_, by omega, by omega, by omega⟩
  rw [h1, drop_cons ht, Cl.notL]
  simp only [hl, if_false, List.nil_append]
theorem notat_end {l : List Cl.Rg} {o : List Cl.Rg} {low : Int} (h : NotAt l l.length o low) : Cl.notL 0 l = o ++ (if low ≤ 1114111 then [(low, 1114111)] else []) := by
  rw [h.1, List.drop_length]; rfl
end Go.Proofs.YtdoapojmenojoaaGreatDoor
end

section
/- Rows that calls tell, kept from call to call: the small tools. -/
set_option linter.unusedVariables false
namespace Go.Proofs.YtdoapojmenojoaaGreatDoor
open Go.RowKit

def Lv (w : World) (p : Option Addr) (cap : Nat) (l : List Cl.Rg) : Prop := RowP w p l ∧ Ptr p cap
theorem Lv.below {w w' : World} {p : Option Addr} {cap : Nat} {l : List Cl.Rg} (h : Lv w p cap l) (hb : Below w.heap.size w w') : Lv w' p cap l := ⟨h.1.below hb, h.2⟩
theorem mk_u {ty : TypeId} {l : List Cl.Rg} {w w' : World} {e : Ending} (h : Mk ty l w e w') : ∃ q c, e = .returned (.slice q l.length c) ∧ Lv w' q c l ∧ Below w.heap.size w w' := by
  obtain ⟨v, rfl, hown, hb⟩ := h
  obtain ⟨q, c, rfl, hp, _, hr⟩ := row_q hown
  exact ⟨q, c, rfl, ⟨hr, hp⟩, hb⟩
theorem new_block (w : World) (o : Obj) : (w.alloc o).heap[w.heap.size]? = some o := by
  show (w.heap.push o)[w.heap.size]? = _
  simp
/- a row written out -/
theorem rowp_block {w : World} {g : Nat} {cs : Array Value} {e : TypeId} {fz : Nat × Nat} (l : List Cl.Rg) (h : w.heap[g]? = some (.cells cs e fz)) (hc : cs.toList = pcells l) : RowP w (some ⟨g, 0, none⟩) l := fun k x hx => by
  obtain ⟨h1, h2⟩ := pcells_at l k x hx
  rw [← hc] at h1 h2
  refine ⟨g, 0, rfl, (Array.getElem?_eq_some_iff.1 h).1, ?_, ?_⟩
  · rw [Lib.cell_of_heap h, Nat.zero_add, ← Array.getElem?_toList]; exact h1
  · rw [Lib.cell_of_heap h, Nat.zero_add, ← Array.getElem?_toList]; exact h2
theorem lv_new (w : World) (cs : Array Value) (e : TypeId) (n : Nat) (l : List Cl.Rg) (hc : cs.toList = pcells l) : Lv (w.alloc (.cells cs e)) (some ⟨w.heap.size, 0, none⟩) n l :=
  ⟨rowp_block l (new_block w _) hc, .inr ⟨_, _, rfl⟩⟩
theorem below_new (w : World) (o : Obj) : Below w.heap.size w (w.alloc o) := Below.alloc (Below.refl _ _) (Nat.le_refl _) o
def RgB (a b : Int) : Prop := -2147483648 ≤ a ∧ a ≤ 2147483647 ∧ -2147483648 ≤ b ∧ b ≤ 2147483647
theorem cell_alloc_old {w : World} {g : Nat} (hg : g < w.heap.size) (ob : Obj) (o : Nat) : (w.alloc ob).cell? ⟨g, o, none⟩ = w.cell? ⟨g, o, none⟩ := (Below.alloc (Below.refl w.heap.size w) (Nat.le_refl _) ob).cell hg
end Go.Proofs.YtdoapojmenojoaaGreatDoor
end

section
/- A class as the document's, as the fifth stage's statements ask. -/
set_option linter.unusedVariables false
namespace Go.Proofs.YtdoapojmenojoaaGreatDoor
open Go.RowKit

end Go.Proofs.YtdoapojmenojoaaGreatDoor
end
