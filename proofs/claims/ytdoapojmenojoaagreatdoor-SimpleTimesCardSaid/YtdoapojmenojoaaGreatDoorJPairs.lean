import Derived.Test.YtdoapojmenojoaaGreatDoorJKit
import Derived.Test.YtdoapojmenojoaaGreatDoorJClassM
import Derived.WalkKit
import Derived.WalkSpells
import Derived.Outline
import Derived.RegionTactic
import Derived.Deep.QuietTactic
import Derived.BigQuiet
import Derived.Deep.DeepCutAuto
import Derived.Deep.CutBlock
import Derived.Deep.RegionHeld3
import Derived.IntWalk
set_option linter.unusedSimpArgs false
set_option linter.unusedVariables false
/- Rows of ranges: slices of structs of two runes, as they lie in memory. -/
set_option linter.unusedVariables false
namespace Go.Proofs.YtdoapojmenojoaaGreatDoor
open Go.RowKit

/- two cells of a block of the call's own -/
def Two (w : World) (b : Nat) (x y : Value) : Prop := w.cell? ⟨b, 0, none⟩ = some x ∧ w.cell? ⟨b, 1, none⟩ = some y ∧ (∀ o, w.frozen? ⟨b, o, none⟩ = false) ∧ b < w.heap.size
theorem Two.same {w w' : World} {b : Nat} {x y : Value} (h : Two w b x y) (hc : ∀ o, w'.cell? ⟨b, o, none⟩ = w.cell? ⟨b, o, none⟩) (hf : ∀ o, w'.frozen? ⟨b, o, none⟩ = w.frozen? ⟨b, o, none⟩) (hs : w.heap.size ≤ w'.heap.size) : Two w' b x y :=
  ⟨(hc 0).trans h.1, (hc 1).trans h.2.1, fun o => (hf o).trans (h.2.2.1 o), Nat.lt_of_lt_of_le h.2.2.2 hs⟩
theorem Two.below {w w' : World} {b : Nat} {x y : Value} (h : Two w b x y) {B : Nat} (hb : Below B w w') (hk : b < B) : Two w' b x y :=
  h.same (fun o => hb.cell (p := ⟨b, o, none⟩) hk) (fun o => hb.frozen (p := ⟨b, o, none⟩) hk) hb.size
theorem Two.alloc {w : World} {b : Nat} {x y : Value} (h : Two w b x y) (o : Obj) : Two (w.alloc o) b x y := h.below (Below.alloc (Below.refl w.heap.size w) (Nat.le_refl _) o) h.2.2.2
theorem Two.drewN {w : World} {b : Nat} {x y : Value} (h : Two w b x y) (n : Nat) : Two (w.drewN n) b x y := h
theorem Two.new (w : World) (x y : Value) (t : TypeId) : Two (w.alloc (.cells #[x, y] t)) w.heap.size x y := by
  refine ⟨?_, ?_, fun o => ?_, by simp⟩
  · rw [World.cell?_alloc_at _ _ _ _ rfl]; rfl
  · rw [World.cell?_alloc_at _ _ _ _ rfl]; rfl
  · rw [World.frozen?_alloc_at _ _ _ _ rfl]
theorem Two.other {w : World} {b : Nat} {x y : Value} (h : Two w b x y) {a : Addr} (ha : b ≠ a.block) (u : Value) : Two (w.setCell a u) b x y := by
  refine h.same (fun o => ?_) (fun o => frozen_setCell ..) (by simp)
  rw [World.cell?_setCell_other w _ _ _ (fun e => ha (by rw [e]))]
theorem Two.set0 {w : World} {b : Nat} {x y : Value} (h : Two w b x y) (u : Value) : Two (w.setCell ⟨b, 0, none⟩ u) b u y := by
  refine ⟨World.cell?_setCell_same w _ _ h.1, ?_, fun o => (frozen_setCell ..).trans (h.2.2.1 o), by simpa using h.2.2.2⟩
  rw [World.cell?_setCell_other w _ _ _ (by simp)]; exact h.2.1
theorem Two.set1 {w : World} {b : Nat} {x y : Value} (h : Two w b x y) (u : Value) : Two (w.setCell ⟨b, 1, none⟩ u) b x u := by
  refine ⟨?_, World.cell?_setCell_same w _ _ h.2.1, fun o => (frozen_setCell ..).trans (h.2.2.1 o), by simpa using h.2.2.2⟩
  rw [World.cell?_setCell_other w _ _ _ (by simp)]; exact h.1
theorem Two.kept {w w' : World} {b : Nat} {x y : Value} (h : Two w b x y) {row : Option Nat} (hg : w.grownBy w' row) (hr : row ≠ some b) : Two w' b x y := by
  have hb : w'.heap[b]? = w.heap[b]? := hg.block b h.2.2.2 (fun e => hr e.symm)
  exact h.same (fun o => cell_of_block (a := ⟨b, o, none⟩) hb) (fun o => frozen_of_block (a := ⟨b, o, none⟩) hb) hg.size
theorem new_two (w : World) (x y : Value) (t : TypeId) : ∀ (j : Nat) (u : Value), [x, y][j]? = some u → (w.alloc (.cells #[x, y] t)).cell? ((⟨w.heap.size, 0, none⟩ : Addr).add j) = some u := by
  intro j u hj
  have := Two.new w x y t
  rw [Addr.add_defn, Nat.zero_add]
  match j, hj with
  | 0, hj => simp at hj; subst hj; exact this.1
  | 1, hj => simp at hj; subst hj; exact this.2.1
/- ranges as cells -/
def pcells (l : List Cl.Rg) : List Value := l.flatMap fun x => [.int .i32 x.1, .int .i32 x.2]
theorem pcells_len (l : List Cl.Rg) : (pcells l).length = l.length * 2 := by
  induction l with
  | nil => rfl
  | cons a l ih => show ([_, _] ++ pcells l).length = _; rw [List.length_append, ih]; simp; omega
theorem pcells_app (l m : List Cl.Rg) : pcells (l ++ m) = pcells l ++ pcells m := by simp [pcells]
theorem pcells_at (l : List Cl.Rg) (k : Nat) (x : Cl.Rg) (h : l[k]? = some x) : (pcells l)[k * 2]? = some (.int .i32 x.1) ∧ (pcells l)[k * 2 + 1]? = some (.int .i32 x.2) := by
  induction l generalizing k with
  | nil => simp at h
  | cons a l ih =>
    have e : pcells (a :: l) = [.int .i32 a.1, .int .i32 a.2] ++ pcells l := rfl
    cases k with
    | zero => simp at h; subst h; rw [e]; simp
    | succ k =>
      have h' : l[k]? = some x := by simpa using h
      obtain ⟨h1, h2⟩ := ih k h'
      rw [e]
      refine ⟨?_, ?_⟩
      · rw [List.getElem?_append_right (by simp; omega)]; simp only [List.length_cons, List.length_nil]; rw [show (k + 1) * 2 - (0 + 1 + 1) = k * 2 by omega]; exact h1
      · rw [List.getElem?_append_right (by simp; omega)]; simp only [List.length_cons, List.length_nil]; rw [show (k + 1) * 2 + 1 - (0 + 1 + 1) = k * 2 + 1 by omega]; exact h2
/- where each cell of a row of ranges comes from -/
theorem pcells_of (l : List Cl.Rg) (j : Nat) (u : Value) (h : (pcells l)[j]? = some u) : ∃ (k : Nat) (x : Cl.Rg), l[k]? = some x ∧ ((j = k * 2 ∧ u = .int .i32 x.1) ∨ (j = k * 2 + 1 ∧ u = .int .i32 x.2)) := by
  have hj := (List.getElem?_eq_some_iff.1 h).1
  rw [pcells_len] at hj
  have hx : l[j / 2]? = some l[j / 2] := List.getElem?_eq_getElem (by omega)
  obtain ⟨a, b⟩ := pcells_at l _ _ hx
  rcases (show j = j / 2 * 2 ∨ j = j / 2 * 2 + 1 by omega) with e | e
  · rw [← e] at a; exact ⟨_, _, hx, .inl ⟨e, (Option.some.inj (h.symm.trans a))⟩⟩
  · rw [← e] at b; exact ⟨_, _, hx, .inr ⟨e, (Option.some.inj (h.symm.trans b))⟩⟩
theorem pcells_one (l : List Cl.Rg) : ∀ u ∈ pcells l, u.oneCell' = true := by
  intro u hu
  simp only [pcells, List.mem_flatMap] at hu
  obtain ⟨x, _, hx⟩ := hu
  simp at hx
  rcases hx with rfl | rfl <;> rfl
/- a row of ranges, nil or not, wherever it begins -/
def RowP (w : World) (p : Option Addr) (l : List Cl.Rg) : Prop := ∀ (k : Nat) (x : Cl.Rg), l[k]? = some x → ∃ g off, p = some ⟨g, off, none⟩ ∧ g < w.heap.size ∧ w.cell? ⟨g, off + k * 2, none⟩ = some (.int .i32 x.1) ∧ w.cell? ⟨g, off + k * 2 + 1, none⟩ = some (.int .i32 x.2)
theorem RowP.below {w w' : World} {p : Option Addr} {l : List Cl.Rg} (h : RowP w p l) (hb : Below w.heap.size w w') : RowP w' p l := fun k x hx => by
  obtain ⟨g, off, hp, hl, h1, h2⟩ := h k x hx
  exact ⟨g, off, hp, Nat.lt_of_lt_of_le hl hb.size, (hb.cell (p := ⟨g, off + k * 2, none⟩) hl).trans h1, (hb.cell (p := ⟨g, off + k * 2 + 1, none⟩) hl).trans h2⟩
theorem RowP.nil (w : World) (p : Option Addr) : RowP w p [] := fun k x h => by simp at h
theorem row_p {w : World} {B : Nat} {ty : TypeId} {v : Value} {l : List Cl.Rg} (h : w.ownsRow B ty 2 v l.length (pcells l)) : ∃ p cap, v = .slice p l.length cap ∧ l.length ≤ cap ∧ RowP w p l := by
  rcases h.2 with ⟨rfl, hn⟩ | ⟨g, cap, cur, rfl, hg, hgg, hc, _⟩
  · have : l = [] := List.eq_nil_of_length_eq_zero hn
    subst this
    exact ⟨none, 0, rfl, Nat.le_refl _, RowP.nil _ _⟩
  · refine ⟨_, cap, rfl, hc, fun k x hx => ⟨g, 0, rfl, (Array.getElem?_eq_some_iff.1 hgg).1, ?_⟩⟩
    obtain ⟨h1, h2⟩ := pcells_at l k x hx
    have hk := (List.getElem?_eq_some_iff.1 hx).1
    simp only [Nat.zero_add]
    exact ⟨(h.cellAt _ (by omega)).trans h1, (h.cellAt _ (by omega)).trans h2⟩
/- a row that a call made -/
def MadeP (ty : TypeId) (l : List Cl.Rg) (w : World) (e : Ending) (w' : World) : Prop := ∃ v, e = .returned v ∧ w'.ownsRow w.heap.size ty 2 v l.length (pcells l) ∧ Below w.heap.size w w'
/- a row that stays, whatever is made behind it -/
theorem own_below {w w' : World} {base : Nat} {e : TypeId} {size : Nat} {v : Value} {n : Nat} {xs : List Value} (h : w.ownsRow base e size v n xs) (hb : Below w.heap.size w w') : w'.ownsRow base e size v n xs :=
  h.kept (w' := w') (row := none) ⟨hb.os, hb.tape, hb.output, hb.size, fun j hj _ => hb.block j hj⟩ (by cases hv : Value.ownBlock v <;> simp)
end Go.Proofs.YtdoapojmenojoaaGreatDoor
