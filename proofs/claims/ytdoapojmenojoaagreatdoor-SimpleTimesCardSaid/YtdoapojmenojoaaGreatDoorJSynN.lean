import Derived.Test.YtdoapojmenojoaaGreatDoorJSynV
import Derived.Test.YtdoapojmenojoaaGreatDoorJCPut
import Derived.Deep.RegionHeld3
import Derived.Deep.AppendLies
import Derived.Deep.RegionLaw
set_option linter.unusedSimpArgs false
set_option linter.unusedVariables false
/- A tree as the document's, as the fifth stage's statements ask. -/
set_option linter.unusedVariables false
namespace Go.Proofs.YtdoapojmenojoaaGreatDoor
open Go.RowKit
open Sx (Nd)

def New (w w' : World) (b : Nat) : Prop := w.heap.size ≤ b ∧ b < w'.heap.size
theorem mk_new {ty : TypeId} {l : List Cl.Rg} {w w' : World} {e : Ending} (h : Mk ty l w e w') : ∃ q c, e = .returned (.slice q l.length c) ∧ RowS (New w w') w' q l ∧ Below w.heap.size w w' := by
  obtain ⟨v, rfl, hown, hb⟩ := h
  obtain ⟨q, c, rfl, hp, _, hr⟩ := row_q hown
  refine ⟨q, c, rfl, fun k x hx => ?_, hb⟩
  obtain ⟨g, off, rfl, hg, h1, h2⟩ := hr k x hx
  rcases hown.2 with ⟨h0, _⟩ | ⟨g', cap', cur, h0, hbg, _⟩
  · simp at h0
  · simp only [Value.slice.injEq, Option.some.injEq, Addr.mk.injEq, and_true] at h0
    obtain ⟨⟨rfl, rfl⟩, _⟩ := h0
    exact ⟨_, _, rfl, ⟨hbg, hg⟩, h1, h2⟩
/- what is held while a node's own parts are told -/
def BelR (vl : Value) (w0 w : World) : Prop := w.cell? ⟨w0.heap.size, 6, none⟩ = some vl ∧ Below w0.heap.size w0 w ∧ w0.heap.size + 1 < w.heap.size ∧ (∃ c0, w.heap[w0.heap.size + 1]? = some (.cells c0 36 (0, 0)) ∧ c0.size = 7)
theorem box_after {w1 w9 : World} {cs : Array Value} {e : TypeId} (h : Below ((w1.alloc (.cells cs e)).drew).heap.size ((w1.alloc (.cells cs e)).drew) w9) :
    (∀ o, w9.cell? ⟨w1.heap.size, o, none⟩ = cs[o]?) ∧ (∀ o, w9.frozen? ⟨w1.heap.size, o, none⟩ = false) := by
  have h1 := (h.block w1.heap.size (by simp)).trans (new_block w1 (.cells cs e))
  refine ⟨fun o => ?_, fun o => ?_⟩
  · rw [Lib.cell_of_heap h1]
  · have h2 : (w1.alloc (.cells cs e)).frozen? ⟨w1.heap.size, o, none⟩ = false := by rw [World.frozen?_alloc_at _ _ _ _ rfl]
    have := frozen_of_block (w := w1.alloc (.cells cs e)) (w' := w9) (a := ⟨w1.heap.size, o, none⟩) (h1.trans (new_block w1 (.cells cs e)).symm)
    exact this.trans h2
/- a node under way: its own parts lie in block B, its class elsewhere -/
structure Way (w0 : World) (B : Nat) (k : Int) (c : List Cl.Rg) (rq : Option Addr) (rc : Nat) (mn mx : Int) (lz : Bool) (g : Int) (vl : Value) (bb : Nat) (v : Value) (w : World) : Prop where
  seven : Seven w B 0 k (.slice rq c.length rc) mn mx lz g v
  free : ∀ o, w.frozen? ⟨B, o, none⟩ = false
  row : RowS (fun b => w0.heap.size + 2 ≤ b ∧ b < bb ∧ b ≠ B) w rq c
  box : w.cell? ⟨w0.heap.size, 6, none⟩ = some vl
  below : Below w0.heap.size w0 w
  out : ∃ c0, w.heap[w0.heap.size + 1]? = some (.cells c0 36 (0, 0)) ∧ c0.size = 7
  lo : w0.heap.size + 2 ≤ B
  hi : B < bb
  size : bb ≤ w.heap.size
theorem Way.call {w0 w w' : World} {B bb : Nat} {k mn mx g : Int} {c : List Cl.Rg} {rq : Option Addr} {rc : Nat} {lz : Bool} {vl v : Value} (h : Way w0 B k c rq rc mn mx lz g vl bb v w) (hb : Below w.heap.size w w') : Way w0 B k c rq rc mn mx lz g vl bb v w' := by
  have hB : B < w.heap.size := Nat.lt_of_lt_of_le h.hi h.size
  have h0 : w0.heap.size + 1 < w.heap.size := by have := h.lo; omega
  obtain ⟨c0, h1, h2⟩ := h.out
  exact ⟨h.seven.below hb hB, fun o => (hb.frozen (p := ⟨B, o, none⟩) hB).trans (h.free o), h.row.mono (fun b hb' => ⟨hb', hb.block b (by have := h.size; omega)⟩), (hb.cell (p := ⟨_, _, none⟩) (show w0.heap.size < w.heap.size by omega)).trans h.box, bvia h.below hb, ⟨c0, (hb.block _ h0).trans h1, h2⟩, h.lo, h.hi, Nat.le_trans h.size hb.size⟩
theorem Way.drew {w0 w : World} {B bb : Nat} {k mn mx g : Int} {c : List Cl.Rg} {rq : Option Addr} {rc : Nat} {lz : Bool} {vl v : Value} (h : Way w0 B k c rq rc mn mx lz g vl bb v w) : Way w0 B k c rq rc mn mx lz g vl bb v w.drew := h.call (Below.refl _ _).drew
theorem Way.grown {S : Nat → Prop} {w0 w w' : World} {B bb : Nat} {k mn mx g : Int} {c : List Cl.Rg} {rq : Option Addr} {rc : Nat} {lz : Bool} {vl v : Value} {ty : TypeId} {l : List Nd} (h : Way w0 B k c rq rc mn mx lz g vl bb v w) (ho : OwnN S w bb ty v l) (hg : w.grownBy w' v.ownBlock) : Way w0 B k c rq rc mn mx lz g vl bb v w' := by
  have hk : ∀ b, b < bb → w'.heap[b]? = w.heap[b]? := fun b hb => own_kept_block ho hg (Nat.lt_of_lt_of_le hb h.size) hb
  have h0 : w0.heap.size + 2 < bb := Nat.lt_of_le_of_lt h.lo h.hi
  obtain ⟨c0, h1, h2⟩ := h.out
  exact ⟨h.seven.block (hk B h.hi), fun o => (frozen_of_block (a := ⟨B, o, none⟩) (hk B h.hi)).trans (h.free o), h.row.mono (fun b hb' => ⟨hb', hk b hb'.2.1⟩), (cell_of_block (a := ⟨_, _, none⟩) (hk w0.heap.size (by omega))).trans h.box, own_below_grown ho h.below (by omega) hg, ⟨c0, (hk _ (by omega)).trans h1, h2⟩, h.lo, h.hi, Nat.le_trans h.size hg.size⟩
theorem Way.set {w0 w : World} {B bb : Nat} {k mn mx g : Int} {c : List Cl.Rg} {rq : Option Addr} {rc : Nat} {lz : Bool} {vl v : Value} (h : Way w0 B k c rq rc mn mx lz g vl bb v w) (u : Value) : Way w0 B k c rq rc mn mx lz g vl bb u (w.setCell ⟨B, 6, none⟩ u) := by
  have hk : ∀ b, b ≠ B → (w.setCell ⟨B, 6, none⟩ u).heap[b]? = w.heap[b]? := fun b hb => Below.heap_setCell _ _ _ _ hb
  have hlo := h.lo
  obtain ⟨c0, h1, h2⟩ := h.out
  obtain ⟨s0, s1, s2, s3, s4, s5, s6⟩ := h.seven
  refine ⟨⟨?_, ?_, ?_, ?_, ?_, ?_, ?_⟩, fun o => (frozen_setCell ..).trans (h.free o), h.row.mono (fun b hb' => ⟨hb', hk b hb'.2.2⟩), (cell_of_block (a := ⟨_, _, none⟩) (hk w0.heap.size (by omega))).trans h.box, Below.setCell h.below (by simp; omega) _, ⟨c0, (hk _ (by omega)).trans h1, h2⟩, h.lo, h.hi, by have := h.size; simpa [World.setCell] using this⟩
  · rw [World.cell?_setCell_other w _ _ _ (by simp)]; exact s0
  · rw [World.cell?_setCell_other w _ _ _ (by simp)]; exact s1
  · rw [World.cell?_setCell_other w _ _ _ (by simp)]; exact s2
  · rw [World.cell?_setCell_other w _ _ _ (by simp)]; exact s3
  · rw [World.cell?_setCell_other w _ _ _ (by simp)]; exact s4
  · rw [World.cell?_setCell_other w _ _ _ (by simp)]; exact s5
  · exact World.cell?_setCell_same w _ _ s6
def set7 (w : World) (x : Nat) (a b c d e f g : Value) : World := ((((((w.setCell ⟨x, 0, none⟩ a).setCell ⟨x, 1, none⟩ b).setCell ⟨x, 2, none⟩ c).setCell ⟨x, 3, none⟩ d).setCell ⟨x, 4, none⟩ e).setCell ⟨x, 5, none⟩ f).setCell ⟨x, 6, none⟩ g
theorem set7_block (w : World) (x : Nat) (a b c d e f g : Value) (k : Nat) (hk : k ≠ x) : (set7 w x a b c d e f g).heap[k]? = w.heap[k]? := by
  unfold set7
  iterate 7 rw [Below.heap_setCell _ _ _ _ hk]
theorem set7_size (w : World) (x : Nat) (a b c d e f g : Value) : (set7 w x a b c d e f g).heap.size = w.heap.size := by simp [set7, World.setCell]
theorem sc_o {w : World} {x i j : Nat} {u v : Value} (h : w.cell? ⟨x, i, none⟩ = some v) (hn : i ≠ j) : (w.setCell ⟨x, j, none⟩ u).cell? ⟨x, i, none⟩ = some v := by
  rw [World.cell?_setCell_other w _ _ _ (by simp <;> omega)]; exact h
theorem sc_s {w : World} {x i : Nat} {u v : Value} (h : w.cell? ⟨x, i, none⟩ = some v) : (w.setCell ⟨x, i, none⟩ u).cell? ⟨x, i, none⟩ = some u := World.cell?_setCell_same w _ _ h
theorem set7_seven (w : World) (x : Nat) (k mn mx g : Int) (lz : Bool) (vc vl : Value) {u0 u1 u2 u3 u4 u5 u6 : Value} (y0 : w.cell? ⟨x, 0, none⟩ = some u0) (y1 : w.cell? ⟨x, 1, none⟩ = some u1) (y2 : w.cell? ⟨x, 2, none⟩ = some u2) (y3 : w.cell? ⟨x, 3, none⟩ = some u3) (y4 : w.cell? ⟨x, 4, none⟩ = some u4) (y5 : w.cell? ⟨x, 5, none⟩ = some u5) (y6 : w.cell? ⟨x, 6, none⟩ = some u6) :
    Seven (set7 w x (.int .i64 k) vc (.int .i64 mn) (.int .i64 mx) (.bool lz) (.int .i64 g) vl) x 0 k vc mn mx lz g vl := by
  exact ⟨(sc_o (sc_o (sc_o (sc_o (sc_o (sc_o (sc_s y0) (by decide)) (by decide)) (by decide)) (by decide)) (by decide)) (by decide)), (sc_o (sc_o (sc_o (sc_o (sc_o (sc_s (sc_o y1 (by decide))) (by decide)) (by decide)) (by decide)) (by decide)) (by decide)), (sc_o (sc_o (sc_o (sc_o (sc_s (sc_o (sc_o y2 (by decide)) (by decide))) (by decide)) (by decide)) (by decide)) (by decide)), (sc_o (sc_o (sc_o (sc_s (sc_o (sc_o (sc_o y3 (by decide)) (by decide)) (by decide))) (by decide)) (by decide)) (by decide)), (sc_o (sc_o (sc_s (sc_o (sc_o (sc_o (sc_o y4 (by decide)) (by decide)) (by decide)) (by decide))) (by decide)) (by decide)), (sc_o (sc_s (sc_o (sc_o (sc_o (sc_o (sc_o y5 (by decide)) (by decide)) (by decide)) (by decide)) (by decide))) (by decide)), (sc_s (sc_o (sc_o (sc_o (sc_o (sc_o (sc_o y6 (by decide)) (by decide)) (by decide)) (by decide)) (by decide)) (by decide)))⟩
end Go.Proofs.YtdoapojmenojoaaGreatDoor
