import Derived.Test.YtdoapojmenojoaaGreatDoorJPairs
import Derived.Test.YtdoapojmenojoaaGreatDoorJClassM
import Derived.Test.YtdoapojmenojoaaGreatDoorJCRef
import Derived.Lib.MinMax
import Derived.Test.YtdoapojmenojoaaGreatDoorJCApp
import Derived.Test.YtdoapojmenojoaaGreatDoorJCPut
set_option linter.unusedSimpArgs false
set_option linter.unusedVariables false
section
/- Trees in memory: structs of seven cells, in slices of themselves. -/
set_option linter.unusedVariables false
namespace Go.Proofs.YtdoapojmenojoaaGreatDoor
open Go.RowKit
open Sx (Nd)

/- seven cells of a block, from an offset on -/
def Seven (w : World) (b o : Nat) (k : Int) (c : Value) (mn mx : Int) (lz : Bool) (g : Int) (l : Value) : Prop :=
  w.cell? ⟨b, o, none⟩ = some (.int .i64 k) ∧ w.cell? ⟨b, o + 1, none⟩ = some c ∧ w.cell? ⟨b, o + 2, none⟩ = some (.int .i64 mn) ∧ w.cell? ⟨b, o + 3, none⟩ = some (.int .i64 mx) ∧
  w.cell? ⟨b, o + 4, none⟩ = some (.bool lz) ∧ w.cell? ⟨b, o + 5, none⟩ = some (.int .i64 g) ∧ w.cell? ⟨b, o + 6, none⟩ = some l
theorem Seven.below {w w' : World} {B b o : Nat} {k mn mx g : Int} {c l : Value} {lz : Bool} (h : Seven w b o k c mn mx lz g l) (hb : Below B w w') (hl : b < B) : Seven w' b o k c mn mx lz g l := by
  obtain ⟨h0, h1, h2, h3, h4, h5, h6⟩ := h
  exact ⟨(hb.cell (p := ⟨b, _, none⟩) hl).trans h0, (hb.cell (p := ⟨b, _, none⟩) hl).trans h1, (hb.cell (p := ⟨b, _, none⟩) hl).trans h2, (hb.cell (p := ⟨b, _, none⟩) hl).trans h3,
    (hb.cell (p := ⟨b, _, none⟩) hl).trans h4, (hb.cell (p := ⟨b, _, none⟩) hl).trans h5, (hb.cell (p := ⟨b, _, none⟩) hl).trans h6⟩
def I64 (x : Int) : Prop := -9223372036854775808 ≤ x ∧ x ≤ 9223372036854775807
/- what a node's own cells are: its parts in order, its class, its kids' place -/
def ndv (k : Int) (c : Value) (mn mx : Int) (lz : Bool) (g : Int) (l : Value) : Value := .agg #[.int .i64 k, c, .int .i64 mn, .int .i64 mx, .bool lz, .int .i64 g, l]
mutual
def NodeIs (w : World) : Int → Value → Int → Int → Bool → Int → Value → Nd → Prop
  | k, vc, mn, mx, lz, g, vl, .mk k' c mn' mx' lz' g' kids =>
    k = k' ∧ mn = mn' ∧ mx = mx' ∧ lz = lz' ∧ g = g' ∧ I64 k ∧ I64 mn ∧ I64 mx ∧ I64 g ∧ c.length ≤ 1000000 ∧ RIn c ∧ kids.length ≤ 1000000 ∧
    (∃ p cap, vc = .slice p c.length cap ∧ RowP w p c) ∧ ∃ p cap, vl = .slice p kids.length cap ∧ KidsFrom w p 0 kids
def KidsFrom (w : World) (p : Option Addr) : Nat → List Nd → Prop
  | _, [] => True
  | i, n :: t => (∃ b o k vc mn mx lz g vl, p = some ⟨b, o, none⟩ ∧ b < w.heap.size ∧ Seven w b (o + i * 7) k vc mn mx lz g vl ∧ NodeIs w k vc mn mx lz g vl n) ∧ KidsFrom w p (i + 1) t
end
mutual
theorem NodeIs.below {w w' : World} (hb : Below w.heap.size w w') : ∀ {n : Nd} {k : Int} {vc : Value} {mn mx : Int} {lz : Bool} {g : Int} {vl : Value}, NodeIs w k vc mn mx lz g vl n → NodeIs w' k vc mn mx lz g vl n
  | .mk k' c mn' mx' lz' g' kids, k, vc, mn, mx, lz, g, vl, h => by
    rw [NodeIs] at h ⊢
    obtain ⟨h1, h2, h3, h4, h5, i1, i2, i3, i4, hc, hr, hk, ⟨p, cap, e, hp⟩, q, cap', e', hq⟩ := h
    exact ⟨h1, h2, h3, h4, h5, i1, i2, i3, i4, hc, hr, hk, ⟨p, cap, e, hp.below hb⟩, q, cap', e', KidsFrom.below hb hq⟩
theorem KidsFrom.below {w w' : World} (hb : Below w.heap.size w w') : ∀ {l : List Nd} {p : Option Addr} {i : Nat}, KidsFrom w p i l → KidsFrom w' p i l
  | [], p, i, h => by rw [KidsFrom]; trivial
  | n :: t, p, i, h => by
    rw [KidsFrom] at h ⊢
    obtain ⟨⟨b, o, k, vc, mn, mx, lz, g, vl, e, hs, h7, hn⟩, ht⟩ := h
    exact ⟨⟨b, o, k, vc, mn, mx, lz, g, vl, e, Nat.lt_of_lt_of_le hs hb.size, h7.below hb hs, NodeIs.below hb hn⟩, KidsFrom.below hb ht⟩
end
def Kids (w : World) (p : Option Addr) (l : List Nd) : Prop := ∀ (i : Nat) (n : Nd), l[i]? = some n →
  ∃ b o k vc mn mx lz g vl, p = some ⟨b, o, none⟩ ∧ b < w.heap.size ∧ Seven w b (o + i * 7) k vc mn mx lz g vl ∧ NodeIs w k vc mn mx lz g vl n
theorem kids_from (w : World) (p : Option Addr) : ∀ (l : List Nd) (i : Nat), KidsFrom w p i l ↔ ∀ (j : Nat) (n : Nd), l[j]? = some n →
    ∃ b o k vc mn mx lz g vl, p = some ⟨b, o, none⟩ ∧ b < w.heap.size ∧ Seven w b (o + (i + j) * 7) k vc mn mx lz g vl ∧ NodeIs w k vc mn mx lz g vl n
  | [], i => by rw [KidsFrom]; exact ⟨fun _ j n h => by simp at h, fun _ => trivial⟩
  | m :: t, i => by
    rw [KidsFrom, kids_from w p t (i + 1)]
    constructor
    · rintro ⟨h, ht⟩ j n hj
      cases j with
      | zero => simp at hj; subst hj; simpa using h
      | succ j => have := ht j n (by simpa using hj); rw [show i + 1 + j = i + (j + 1) by omega] at this; exact this
    · intro h
      refine ⟨by simpa using h 0 m rfl, fun j n hj => ?_⟩
      have := h (j + 1) n (by simpa using hj)
      rw [show i + 1 + j = i + (j + 1) by omega]; exact this
theorem kids_iff (w : World) (p : Option Addr) (l : List Nd) : KidsFrom w p 0 l ↔ Kids w p l := by
  rw [kids_from]; simp only [Nat.zero_add]; exact Iff.rfl
theorem Kids.below {w w' : World} {p : Option Addr} {l : List Nd} (h : Kids w p l) (hb : Below w.heap.size w w') : Kids w' p l := (kids_iff _ _ _).1 (((kids_iff _ _ _).2 h).below hb)
/- a node's value -/
def NodeV (w : World) (v : Value) (n : Nd) : Prop := ∃ k vc mn mx lz g vl, v = ndv k vc mn mx lz g vl ∧ NodeIs w k vc mn mx lz g vl n
theorem NodeV.below {w w' : World} {v : Value} {n : Nd} (h : NodeV w v n) (hb : Below w.heap.size w w') : NodeV w' v n := by
  obtain ⟨k, vc, mn, mx, lz, g, vl, e, h⟩ := h
  exact ⟨k, vc, mn, mx, lz, g, vl, e, h.below hb⟩
theorem node_open {w : World} {v : Value} {n : Nd} (h : NodeV w v n) : ∃ k c mn mx lz g kids p cap q cap', n = .mk k c mn mx lz g kids ∧ v = ndv k (.slice p c.length cap) mn mx lz g (.slice q kids.length cap') ∧
    I64 k ∧ I64 mn ∧ I64 mx ∧ I64 g ∧ c.length ≤ 1000000 ∧ RIn c ∧ kids.length ≤ 1000000 ∧ RowP w p c ∧ Kids w q kids := by
  obtain ⟨k, vc, mn, mx, lz, g, vl, e, h⟩ := h
  obtain ⟨k', c, mn', mx', lz', g', kids⟩ := n
  rw [NodeIs] at h
  obtain ⟨rfl, rfl, rfl, rfl, rfl, i1, i2, i3, i4, hc, hr, hk, ⟨p, cap, rfl, hp⟩, q, cap', rfl, hq⟩ := h
  exact ⟨k, c, mn, mx, lz, g, kids, p, cap, q, cap', rfl, e, i1, i2, i3, i4, hc, hr, hk, hp, (kids_iff _ _ _).1 hq⟩
theorem node_mk {w : World} {k mn mx g : Int} {lz : Bool} {c : List Cl.Rg} {kids : List Nd} {p q : Option Addr} {cap cap' : Nat} (i1 : I64 k) (i2 : I64 mn) (i3 : I64 mx) (i4 : I64 g) (hc : c.length ≤ 1000000) (hr : RIn c) (hk : kids.length ≤ 1000000) (hp : RowP w p c) (hq : Kids w q kids) :
    NodeIs w k (.slice p c.length cap) mn mx lz g (.slice q kids.length cap') (.mk k c mn mx lz g kids) := by
  rw [NodeIs]
  exact ⟨rfl, rfl, rfl, rfl, rfl, i1, i2, i3, i4, hc, hr, hk, ⟨p, cap, rfl, hp⟩, q, cap', rfl, (kids_iff _ _ _).2 hq⟩
/- the kid at a place: its cells, and what they make -/
theorem Kids.get {w : World} {p : Option Addr} {l : List Nd} (h : Kids w p l) {i : Nat} {n : Nd} (hn : l[i]? = some n) :
    ∃ b o k vc mn mx lz g vl, p = some ⟨b, o, none⟩ ∧ b < w.heap.size ∧ Seven w b (o + i * 7) k vc mn mx lz g vl ∧ NodeV w (ndv k vc mn mx lz g vl) n := by
  obtain ⟨b, o, k, vc, mn, mx, lz, g, vl, e, hs, h7, hi⟩ := h i n hn
  exact ⟨b, o, k, vc, mn, mx, lz, g, vl, e, hs, h7, k, vc, mn, mx, lz, g, vl, rfl, hi⟩
theorem Seven.box (w : World) (k : Int) (c : Value) (mn mx : Int) (lz : Bool) (g : Int) (l : Value) (t : TypeId) : Seven (w.alloc (.cells #[.int .i64 k, c, .int .i64 mn, .int .i64 mx, .bool lz, .int .i64 g, l] t)) w.heap.size 0 k c mn mx lz g l := by
  refine ⟨?_, ?_, ?_, ?_, ?_, ?_, ?_⟩ <;> (rw [World.cell?_alloc_at _ _ _ _ rfl]; rfl)
end Go.Proofs.YtdoapojmenojoaaGreatDoor
end

section
/- Trees in memory, and the blocks that they lie in. -/
set_option linter.unusedVariables false
namespace Go.Proofs.YtdoapojmenojoaaGreatDoor
open Go.RowKit
open Sx (Nd)

theorem node_kind {w : World} {k mn mx g : Int} {vc vl : Value} {lz : Bool} {x : Nd} (h : NodeV w (ndv k vc mn mx lz g vl) x) : x.k = k := by
  obtain ⟨k', c, mn', mx', lz', g', kids, p, cap, q, cap', rfl, e, _⟩ := node_open h
  unfold ndv at e
  simp only [Value.agg.injEq, Array.mk.injEq, List.cons.injEq, Value.int.injEq, true_and, and_true] at e
  exact e.1.symm
theorem node_shape {w : World} {k mn mx g : Int} {vc vl : Value} {lz : Bool} {x : Nd} (h : NodeV w (ndv k vc mn mx lz g vl) x) : ∃ a i j b s t, vc = .slice a i j ∧ vl = .slice b s t := by
  obtain ⟨k', c, mn', mx', lz', g', kids, p, cap, q, cap', rfl, e, _⟩ := node_open h
  unfold ndv at e
  simp only [Value.agg.injEq, Array.mk.injEq, List.cons.injEq, Value.int.injEq, true_and, and_true] at e
  exact ⟨_, _, _, _, _, _, e.2.1, e.2.2.2.2.2.2⟩
def RowS (S : Nat → Prop) (w : World) (p : Option Addr) (l : List Cl.Rg) : Prop := ∀ (k : Nat) (x : Cl.Rg), l[k]? = some x → ∃ g off, p = some ⟨g, off, none⟩ ∧ S g ∧ w.cell? ⟨g, off + k * 2, none⟩ = some (.int .i32 x.1) ∧ w.cell? ⟨g, off + k * 2 + 1, none⟩ = some (.int .i32 x.2)
theorem RowS.mono {S S' : Nat → Prop} {w w' : World} {p : Option Addr} {l : List Cl.Rg} (h : RowS S w p l) (hS : ∀ b, S b → S' b ∧ w'.heap[b]? = w.heap[b]?) : RowS S' w' p l := fun k x hx => by
  obtain ⟨g, off, e, hg, h1, h2⟩ := h k x hx
  have := hS g hg
  exact ⟨g, off, e, this.1, (cell_of_block (a := ⟨g, _, none⟩) this.2).trans h1, (cell_of_block (a := ⟨g, _, none⟩) this.2).trans h2⟩
theorem RowS.is {S : Nat → Prop} {w : World} {p : Option Addr} {l : List Cl.Rg} (h : RowS S w p l) (hS : ∀ b, S b → b < w.heap.size) : RowP w p l := fun k x hx => by
  obtain ⟨g, off, e, hg, h1, h2⟩ := h k x hx
  exact ⟨g, off, e, hS g hg, h1, h2⟩
mutual
def NodeS (S : Nat → Prop) (w : World) : Int → Value → Int → Int → Bool → Int → Value → Nd → Prop
  | k, vc, mn, mx, lz, g, vl, .mk k' c mn' mx' lz' g' kids =>
    k = k' ∧ mn = mn' ∧ mx = mx' ∧ lz = lz' ∧ g = g' ∧ I64 k ∧ I64 mn ∧ I64 mx ∧ I64 g ∧ c.length ≤ 1000000 ∧ RIn c ∧ kids.length ≤ 1000000 ∧
    (∃ p cap, vc = .slice p c.length cap ∧ RowS S w p c) ∧ ∃ p cap, vl = .slice p kids.length cap ∧ KidsS S w p 0 kids
def KidsS (S : Nat → Prop) (w : World) (p : Option Addr) : Nat → List Nd → Prop
  | _, [] => True
  | i, n :: t => (∃ b o k vc mn mx lz g vl, p = some ⟨b, o, none⟩ ∧ S b ∧ Seven w b (o + i * 7) k vc mn mx lz g vl ∧ NodeS S w k vc mn mx lz g vl n) ∧ KidsS S w p (i + 1) t
end
theorem Seven.block {w w' : World} {b o : Nat} {k mn mx g : Int} {c l : Value} {lz : Bool} (h : Seven w b o k c mn mx lz g l) (hb : w'.heap[b]? = w.heap[b]?) : Seven w' b o k c mn mx lz g l := by
  obtain ⟨h0, h1, h2, h3, h4, h5, h6⟩ := h
  exact ⟨(cell_of_block (a := ⟨b, _, none⟩) hb).trans h0, (cell_of_block (a := ⟨b, _, none⟩) hb).trans h1, (cell_of_block (a := ⟨b, _, none⟩) hb).trans h2, (cell_of_block (a := ⟨b, _, none⟩) hb).trans h3,
    (cell_of_block (a := ⟨b, _, none⟩) hb).trans h4, (cell_of_block (a := ⟨b, _, none⟩) hb).trans h5, (cell_of_block (a := ⟨b, _, none⟩) hb).trans h6⟩
mutual
theorem NodeS.mono {S S' : Nat → Prop} {w w' : World} (hS : ∀ b, S b → S' b ∧ w'.heap[b]? = w.heap[b]?) : ∀ {n : Nd} {k : Int} {vc : Value} {mn mx : Int} {lz : Bool} {g : Int} {vl : Value}, NodeS S w k vc mn mx lz g vl n → NodeS S' w' k vc mn mx lz g vl n
  | .mk k' c mn' mx' lz' g' kids, k, vc, mn, mx, lz, g, vl, h => by
    rw [NodeS] at h ⊢
    obtain ⟨h1, h2, h3, h4, h5, i1, i2, i3, i4, hc, hr, hk, ⟨p, cap, e, hp⟩, q, cap', e', hq⟩ := h
    exact ⟨h1, h2, h3, h4, h5, i1, i2, i3, i4, hc, hr, hk, ⟨p, cap, e, hp.mono hS⟩, q, cap', e', KidsS.mono hS hq⟩
theorem KidsS.mono {S S' : Nat → Prop} {w w' : World} (hS : ∀ b, S b → S' b ∧ w'.heap[b]? = w.heap[b]?) : ∀ {l : List Nd} {p : Option Addr} {i : Nat}, KidsS S w p i l → KidsS S' w' p i l
  | [], p, i, h => by rw [KidsS]; trivial
  | n :: t, p, i, h => by
    rw [KidsS] at h ⊢
    obtain ⟨⟨b, o, k, vc, mn, mx, lz, g, vl, e, hs, h7, hn⟩, ht⟩ := h
    exact ⟨⟨b, o, k, vc, mn, mx, lz, g, vl, e, (hS b hs).1, h7.block (hS b hs).2, NodeS.mono hS hn⟩, KidsS.mono hS ht⟩
end
mutual
theorem NodeS.is {S : Nat → Prop} {w : World} (hS : ∀ b, S b → b < w.heap.size) : ∀ {n : Nd} {k : Int} {vc : Value} {mn mx : Int} {lz : Bool} {g : Int} {vl : Value}, NodeS S w k vc mn mx lz g vl n → NodeIs w k vc mn mx lz g vl n
  | .mk k' c mn' mx' lz' g' kids, k, vc, mn, mx, lz, g, vl, h => by
    rw [NodeS] at h
    rw [NodeIs]
    obtain ⟨h1, h2, h3, h4, h5, i1, i2, i3, i4, hc, hr, hk, ⟨p, cap, e, hp⟩, q, cap', e', hq⟩ := h
    exact ⟨h1, h2, h3, h4, h5, i1, i2, i3, i4, hc, hr, hk, ⟨p, cap, e, hp.is hS⟩, q, cap', e', KidsS.is hS hq⟩
theorem KidsS.is {S : Nat → Prop} {w : World} (hS : ∀ b, S b → b < w.heap.size) : ∀ {l : List Nd} {p : Option Addr} {i : Nat}, KidsS S w p i l → KidsFrom w p i l
  | [], p, i, h => by rw [KidsFrom]; trivial
  | n :: t, p, i, h => by
    rw [KidsS] at h
    rw [KidsFrom]
    obtain ⟨⟨b, o, k, vc, mn, mx, lz, g, vl, e, hs, h7, hn⟩, ht⟩ := h
    exact ⟨⟨b, o, k, vc, mn, mx, lz, g, vl, e, hS b hs, h7, NodeS.is hS hn⟩, KidsS.is hS ht⟩
end
theorem kidsS_from (S : Nat → Prop) (w : World) (p : Option Addr) : ∀ (l : List Nd) (i : Nat), KidsS S w p i l ↔ ∀ (j : Nat) (n : Nd), l[j]? = some n →
    ∃ b o k vc mn mx lz g vl, p = some ⟨b, o, none⟩ ∧ S b ∧ Seven w b (o + (i + j) * 7) k vc mn mx lz g vl ∧ NodeS S w k vc mn mx lz g vl n
  | [], i => by rw [KidsS]; exact ⟨fun _ j n h => by simp at h, fun _ => trivial⟩
  | m :: t, i => by
    rw [KidsS, kidsS_from S w p t (i + 1)]
    constructor
    · rintro ⟨h, ht⟩ j n hj
      cases j with
      | zero => simp at hj; subst hj; simpa using h
      | succ j => have := ht j n (by simpa using hj); rw [show i + 1 + j = i + (j + 1) by omega] at this; exact this
    · intro h
      refine ⟨by simpa using h 0 m rfl, fun j n hj => ?_⟩
      have := h (j + 1) n (by simpa using hj)
      rw [show i + 1 + j = i + (j + 1) by omega]; exact this
/- a node's value, its blocks among some -/
def NodeVS (S : Nat → Prop) (w : World) (v : Value) (n : Nd) : Prop := ∃ k vc mn mx lz g vl, v = ndv k vc mn mx lz g vl ∧ NodeS S w k vc mn mx lz g vl n
theorem NodeVS.mono {S S' : Nat → Prop} {w w' : World} {v : Value} {n : Nd} (h : NodeVS S w v n) (hS : ∀ b, S b → S' b ∧ w'.heap[b]? = w.heap[b]?) : NodeVS S' w' v n := by
  obtain ⟨k, vc, mn, mx, lz, g, vl, e, h⟩ := h
  exact ⟨k, vc, mn, mx, lz, g, vl, e, h.mono hS⟩
theorem NodeVS.is {S : Nat → Prop} {w : World} {v : Value} {n : Nd} (h : NodeVS S w v n) (hS : ∀ b, S b → b < w.heap.size) : NodeV w v n := by
  obtain ⟨k, vc, mn, mx, lz, g, vl, e, h⟩ := h
  exact ⟨k, vc, mn, mx, lz, g, vl, e, h.is hS⟩
theorem nodeS_shape {S : Nat → Prop} {w : World} {n : Nd} {k mn mx g : Int} {vc vl : Value} {lz : Bool} (h : NodeS S w k vc mn mx lz g vl n) : ∃ a i j b s t, vc = .slice a i j ∧ vl = .slice b s t := by
  obtain ⟨k', c, mn', mx', lz', g', kids⟩ := n
  rw [NodeS] at h
  obtain ⟨_, _, _, _, _, _, _, _, _, _, _, _, ⟨p, cap, e, _⟩, q, cap', e', _⟩ := h
  exact ⟨_, _, _, _, _, _, e, e'⟩
/- a row of nodes of the call's own: its kids lie elsewhere, in blocks of S -/
def OwnN (S : Nat → Prop) (w : World) (base : Nat) (ty : TypeId) (v : Value) (l : List Nd) : Prop := ∃ xs : List Value, w.ownsRow base ty 7 v l.length xs ∧ ∀ (i : Nat) (n : Nd), l[i]? = some n →
  ∃ k vc mn mx lz g vl, xs[i * 7]? = some (.int .i64 k) ∧ xs[i * 7 + 1]? = some vc ∧ xs[i * 7 + 2]? = some (.int .i64 mn) ∧ xs[i * 7 + 3]? = some (.int .i64 mx) ∧ xs[i * 7 + 4]? = some (.bool lz) ∧ xs[i * 7 + 5]? = some (.int .i64 g) ∧ xs[i * 7 + 6]? = some vl ∧
    NodeS (fun b => S b ∧ b < w.heap.size ∧ v.ownBlock ≠ some b) w k vc mn mx lz g vl n
theorem OwnN.nil (S : Nat → Prop) (w : World) (base : Nat) (ty : TypeId) : OwnN S w base ty (.slice none 0 0) [] := ⟨[], World.ownsRow_nil _ _ _ _, fun i n h => by simp at h⟩
theorem OwnN.below {S : Nat → Prop} {w w' : World} {base : Nat} {ty : TypeId} {v : Value} {l : List Nd} (h : OwnN S w base ty v l) (hb : Below w.heap.size w w') : OwnN S w' base ty v l := by
  obtain ⟨xs, ho, hn⟩ := h
  refine ⟨xs, own_below ho hb, fun i n hi => ?_⟩
  obtain ⟨k, vc, mn, mx, lz, g, vl, x0, x1, x2, x3, x4, x5, x6, hh⟩ := hn i n hi
  exact ⟨k, vc, mn, mx, lz, g, vl, x0, x1, x2, x3, x4, x5, x6, hh.mono (fun b hb' => ⟨⟨hb'.1, Nat.lt_of_lt_of_le hb'.2.1 hb.size, hb'.2.2⟩, hb.block b hb'.2.1⟩)⟩
theorem OwnN.drew {S : Nat → Prop} {w : World} {base : Nat} {ty : TypeId} {v : Value} {l : List Nd} (h : OwnN S w base ty v l) : OwnN S w.drew base ty v l := h.below (Below.refl _ _).drew
theorem OwnN.set {S : Nat → Prop} {w : World} {base : Nat} {ty : TypeId} {v : Value} {l : List Nd} (h : OwnN S w base ty v l) {a : Addr} (ha : a.block < base) (hS : ¬ S a.block) (u : Value) : OwnN S (w.setCell a u) base ty v l := by
  obtain ⟨xs, ho, hn⟩ := h
  have hoth : ∀ b, b ≠ a.block → (w.setCell a u).heap[b]? = w.heap[b]? := fun b hb => Below.heap_setCell _ _ _ _ hb
  refine ⟨xs, World.ownsRow.kept (row := some a.block) ho ⟨rfl, rfl, rfl, by simp [World.setCell], fun k _ hk => hoth k (fun e => hk (by rw [e]))⟩ ?_, fun i n hi => ?_⟩
  · cases hv : v.ownBlock with
    | none => exact .inl rfl
    | some g => exact .inr (fun e => by have := (ho.lt g hv).1; cases e; omega)
  · obtain ⟨k, vc, mn, mx, lz, g, vl, x0, x1, x2, x3, x4, x5, x6, hh⟩ := hn i n hi
    refine ⟨k, vc, mn, mx, lz, g, vl, x0, x1, x2, x3, x4, x5, x6, hh.mono (fun b hb' => ⟨⟨hb'.1, by simpa [World.setCell] using hb'.2.1, hb'.2.2⟩, hoth b (fun e => hS (e ▸ hb'.1))⟩)⟩
theorem OwnN.more {S : Nat → Prop} {w w' : World} {base : Nat} {ty : TypeId} {v v' : Value} {l : List Nd} {xs : List Value} {k mn mx g : Int} {vc vl : Value} {lz : Bool} {n : Nd}
    (hx : w.ownsRow base ty 7 v l.length xs) (hn : ∀ (i : Nat) (n : Nd), l[i]? = some n → ∃ k vc mn mx lz g vl, xs[i * 7]? = some (.int .i64 k) ∧ xs[i * 7 + 1]? = some vc ∧ xs[i * 7 + 2]? = some (.int .i64 mn) ∧ xs[i * 7 + 3]? = some (.int .i64 mx) ∧ xs[i * 7 + 4]? = some (.bool lz) ∧ xs[i * 7 + 5]? = some (.int .i64 g) ∧ xs[i * 7 + 6]? = some vl ∧ NodeS (fun b => S b ∧ b < w.heap.size ∧ v.ownBlock ≠ some b) w k vc mn mx lz g vl n)
    (hk : NodeS (fun b => S b ∧ b < w.heap.size ∧ v.ownBlock ≠ some b) w k vc mn mx lz g vl n)
    (hx' : w'.ownsRow base ty 7 v' (l.length + 1) (xs ++ [.int .i64 k, vc, .int .i64 mn, .int .i64 mx, .bool lz, .int .i64 g, vl])) (hg : w.grownBy w' v.ownBlock) (hf : Fresh w v v') : OwnN S w' base ty v' (l ++ [n]) := by
  have hmv : ∀ b, (S b ∧ b < w.heap.size ∧ v.ownBlock ≠ some b) → (S b ∧ b < w'.heap.size ∧ v'.ownBlock ≠ some b) ∧ w'.heap[b]? = w.heap[b]? := fun b hb => by
    refine ⟨⟨hb.1, Nat.lt_of_lt_of_le hb.2.1 hg.size, fun e => ?_⟩, hg.block b hb.2.1 (fun e => hb.2.2 e.symm)⟩
    rcases hf with h | h
    · exact hb.2.2 (h ▸ e)
    · have := h b e; omega
  have hlen : xs.length = l.length * 7 := hx.1
  refine ⟨_, by rw [List.length_append]; exact hx', fun i m hi => ?_⟩
  by_cases hil : i < l.length
  · rw [List.getElem?_append_left hil] at hi
    obtain ⟨k2, vc2, mn2, mx2, lz2, g2, vl2, x0, x1, x2, x3, x4, x5, x6, hh⟩ := hn i m hi
    refine ⟨k2, vc2, mn2, mx2, lz2, g2, vl2, ?_, ?_, ?_, ?_, ?_, ?_, ?_, hh.mono hmv⟩
    all_goals (rw [List.getElem?_append_left (by omega)]; assumption)
  · have h2 := (List.getElem?_eq_some_iff.1 hi).1
    simp at h2
    obtain rfl : i = l.length := by omega
    simp at hi
    subst hi
    refine ⟨k, vc, mn, mx, lz, g, vl, ?_, ?_, ?_, ?_, ?_, ?_, ?_, hk.mono hmv⟩
    all_goals (rw [List.getElem?_append_right (by omega)]; simp [hlen])
theorem own_kids {S S' : Nat → Prop} {w : World} {base : Nat} {ty : TypeId} {v : Value} {l : List Nd} (h : OwnN S w base ty v l) (hS : ∀ b, S b → b < w.heap.size → S' b) (hB : ∀ b, base ≤ b → b < w.heap.size → S' b) :
    ∃ p cap, v = .slice p l.length cap ∧ l.length ≤ cap ∧ KidsS S' w p 0 l := by
  obtain ⟨xs, ho, hn⟩ := h
  rcases ho.2 with ⟨rfl, h0⟩ | ⟨g, cap, cur, rfl, hbg, hg, hnc, hcm, hcs, htake⟩
  · obtain rfl : l = [] := List.eq_nil_of_length_eq_zero h0
    exact ⟨none, 0, rfl, Nat.le_refl _, by rw [KidsS]; trivial⟩
  · have hgl := (Array.getElem?_eq_some_iff.1 hg).1
    refine ⟨_, cap, rfl, hnc, (kidsS_from _ _ _ _ _).2 (fun j n hj => ?_)⟩
    obtain ⟨k, vc, mn, mx, lz, gg, vl, x0, x1, x2, x3, x4, x5, x6, hh⟩ := hn j n hj
    have hjl := (List.getElem?_eq_some_iff.1 hj).1
    have hc : ∀ t, t < 7 → w.cell? ⟨g, 0 + (0 + j) * 7 + t, none⟩ = xs[j * 7 + t]? := fun t ht => by
      rw [Nat.zero_add, Nat.zero_add]
      exact ho.cellAt _ (by omega)
    refine ⟨g, 0, k, vc, mn, mx, lz, gg, vl, rfl, hB g hbg hgl, ⟨?_, ?_, ?_, ?_, ?_, ?_, ?_⟩, hh.mono (fun b hb => ⟨hS b hb.1 hb.2.1, rfl⟩)⟩
    · exact (hc 0 (by omega)).trans x0
    · exact (hc 1 (by omega)).trans x1
    · exact (hc 2 (by omega)).trans x2
    · exact (hc 3 (by omega)).trans x3
    · exact (hc 4 (by omega)).trans x4
    · exact (hc 5 (by omega)).trans x5
    · exact (hc 6 (by omega)).trans x6
theorem own_slice {S : Nat → Prop} {w : World} {base : Nat} {ty : TypeId} {v : Value} {l : List Nd} (h : OwnN S w base ty v l) : ∃ p cap, v = .slice p l.length cap := by
  obtain ⟨p, cap, e, _⟩ := own_kids (S' := fun _ => True) h (fun _ _ _ => trivial) (fun _ _ _ => trivial)
  exact ⟨p, cap, e⟩
/- a node that stands in a block of its own is appended -/
theorem wp_append_node {P : Program} {o : Oper} {a : Act} {K : Act → World → Prop} {Q : Exit → Act → World → Prop} (s x : Operand) (t : TypeId)
    (ho : o.op = .call { callee := .builtin .append, args := #[s, x], argTypes := #[t, t] })
    (base : Nat) (e : TypeId) (ht : P.underlying t = some (.slice e)) (hi : (P.info? e).map (fun i => (i.zero, i.size, i.bytes)) = some (some (ndv 0 (.slice none 0 0) 0 0 false 0 (.slice none 0 0)), 7, 88))
    (S : Nat → Prop) (w : World) (v : Value) (l : List Nd) (k : Int) (ka : Option Addr) (ki kj : Nat) (mn mx : Int) (lz : Bool) (g : Int) (kb : Option Addr) (ks kt : Nat) (n : Nd) (hs : a.eval s = v) (hown : OwnN S w base e v l)
    (hx : a.eval x = .slice (some ⟨w.heap.size, 0, none⟩) 1 1) (hk : NodeS (fun b => S b ∧ b < w.heap.size ∧ v.ownBlock ≠ some b) w k (.slice ka ki kj) mn mx lz g (.slice kb ks kt) n) (hl : l.length ≤ 1000000) (hbase : base ≤ w.heap.size)
    (h : ∀ v' w', OwnN S w' base e v' (l ++ [n]) → w.grownBy w' v.ownBlock → K (a.put o.dst v') w') :
    Oper.wp P o a (w.alloc (.cells #[.int .i64 k, .slice ka ki kj, .int .i64 mn, .int .i64 mx, .bool lz, .int .i64 g, .slice kb ks kt] e)) K Q := by
  obtain ⟨i0, hi, hz0, hz1, hz2⟩ := info_parts hi
  obtain ⟨xs, hox, hn⟩ := hown
  have h7 := Seven.box w k (.slice ka ki kj) mn mx lz g (.slice kb ks kt) e
  refine wp_append_new _ s x t ho base e i0 _ 7 88 ht hi hz0 hz1 hz2 rfl (by decide) v l.length xs hs (World.ownsRow.alloc hox _) ⟨w.heap.size, 0, none⟩ 1 1 [.int .i64 k, .slice ka ki kj, .int .i64 mn, .int .i64 mx, .bool lz, .int .i64 g, .slice kb ks kt] hx rfl (fun j u hj => ?_) (by intro u hu; simp at hu; rcases hu with rfl | rfl | rfl | rfl | rfl | rfl | rfl <;> rfl) (by unfold maxLen; omega) (by omega) (by simp; omega) ?_
  · rw [Addr.add_defn]
    obtain ⟨q0, q1, q2, q3, q4, q5, q6⟩ := h7
    match j, hj with
    | 0, hj => simp at hj; subst hj; exact q0
    | 1, hj => simp at hj; subst hj; exact q1
    | 2, hj => simp at hj; subst hj; exact q2
    | 3, hj => simp at hj; subst hj; exact q3
    | 4, hj => simp at hj; subst hj; exact q4
    | 5, hj => simp at hj; subst hj; exact q5
    | 6, hj => simp at hj; subst hj; exact q6
  · intro v' w' hown' hg hf
    refine h v' w' (OwnN.more hox hn hk hown' (grown_alloc hg) ?_) (grown_alloc hg)
    rcases hf with h | h
    · exact .inl h
    · exact .inr (fun b hb => by have := h b hb; simp at this; omega)
theorem step_node {P : Program} {ops : Array Oper} {o : Oper} {a : Act} {K : Act → World → Prop} {Q : Exit → Act → World → Prop} {E : Prop} (hgd : o.guard = none) (s x : Operand) (t : TypeId)
    (ho : o.op = .call { callee := .builtin .append, args := #[s, x], argTypes := #[t, t] })
    (base : Nat) (e : TypeId) (ht : P.underlying t = some (.slice e)) (hi : (P.info? e).map (fun i => (i.zero, i.size, i.bytes)) = some (some (ndv 0 (.slice none 0 0) 0 0 false 0 (.slice none 0 0)), 7, 88))
    (S : Nat → Prop) (w : World) (v : Value) (l : List Nd) (k : Int) (ka : Option Addr) (ki kj : Nat) (mn mx : Int) (lz : Bool) (g : Int) (kb : Option Addr) (ks kt : Nat) (n : Nd) (hs : a.eval s = v) (hown : OwnN S w base e v l)
    (hx : a.eval x = .slice (some ⟨w.heap.size, 0, none⟩) 1 1) (hk : NodeS (fun b => S b ∧ b < w.heap.size ∧ v.ownBlock ≠ some b) w k (.slice ka ki kj) mn mx lz g (.slice kb ks kt) n) (hl : l.length ≤ 1000000) (hbase : base ≤ w.heap.size)
    (h : ∀ v' w', OwnN S w' base e v' (l ++ [n]) → w.grownBy w' v.ownBlock → K (a.put o.dst v') w') :
    if Region.wanted o (yielded ops a.tmps) = true then Oper.wp P o a (w.alloc (.cells #[.int .i64 k, .slice ka ki kj, .int .i64 mn, .int .i64 mx, .bool lz, .int .i64 g, .slice kb ks kt] e)) K Q else E := by
  have hw : Region.wanted o (yielded ops a.tmps) = true := by simp [Region.wanted, hgd]
  rw [if_pos hw]
  exact wp_append_node s x t ho base e ht hi S w v l k ka ki kj mn mx lz g kb ks kt n hs hown hx hk hl hbase h
theorem own_kept_block {S : Nat → Prop} {w w' : World} {base : Nat} {ty : TypeId} {v : Value} {l : List Nd} (h : OwnN S w base ty v l) (hg : w.grownBy w' v.ownBlock) {b : Nat} (hb : b < w.heap.size) (hbase : b < base) : w'.heap[b]? = w.heap[b]? := by
  obtain ⟨xs, ho, _⟩ := h
  exact hg.block b hb (fun e => by have := (ho.lt b e.symm).1; omega)
theorem own_below_grown {S : Nat → Prop} {w0 w w' : World} {base : Nat} {ty : TypeId} {v : Value} {l : List Nd} (h : OwnN S w base ty v l) (hb : Below w0.heap.size w0 w) (hB : w0.heap.size ≤ base) (hg : w.grownBy w' v.ownBlock) : Below w0.heap.size w0 w' := by
  obtain ⟨xs, ho, _⟩ := h
  exact hb.grown hg hb.size (fun g hg' => by have := (ho.lt g hg').1; omega)
theorem own_block_lt {S : Nat → Prop} {w : World} {base : Nat} {ty : TypeId} {v : Value} {l : List Nd} (h : OwnN S w base ty v l) {b : Nat} (hb : w.heap.size ≤ b) : v.ownBlock ≠ some b := fun e => by
  obtain ⟨xs, ho, _⟩ := h
  have := (ho.lt b e).2
  omega
end Go.Proofs.YtdoapojmenojoaaGreatDoor
end

section
/- The document's own answer to patterns: how many nodes, how many groups. -/
set_option linter.unusedVariables false
namespace Go.Proofs.YtdoapojmenojoaaGreatDoor
open Go.RowKit
open Sx (Nd)

mutual
def nsz : Nd → Nat
  | .mk _ _ _ _ _ _ l => 1 + nszs l
def nszs : List Nd → Nat
  | [] => 0
  | n :: t => nsz n + nszs t
end
theorem nszs_mem : ∀ {l : List Nd} {i : Nat} {n : Nd}, l[i]? = some n → nsz n ≤ nszs l
  | [], i, n, h => by simp at h
  | m :: t, 0, n, h => by simp at h; subst h; rw [nszs]; omega
  | m :: t, i + 1, n, h => by have := nszs_mem (l := t) (i := i) (n := n) (by simpa using h); rw [nszs]; omega
mutual
theorem size_nsz : ∀ n : Nd, Sx.size n = (nsz n : Int)
  | .mk k c mn mx lz g l => by rw [Sx.size, nsz, sizes_nsz l]; omega
theorem sizes_nsz : ∀ l : List Nd, Sx.sizes l = (nszs l : Int)
  | [] => by rw [Sx.sizes, nszs]; rfl
  | n :: t => by rw [Sx.sizes, nszs, size_nsz n, sizes_nsz t]; omega
end
theorem nszs_app : ∀ (a b : List Nd), nszs (a ++ b) = nszs a + nszs b
  | [], b => by rw [List.nil_append, nszs]; omega
  | n :: t, b => by rw [List.cons_append, nszs, nszs, nszs_app t b]; omega
theorem nszs_take {l : List Nd} {i : Nat} {n : Nd} (h : l[i]? = some n) : nszs (l.take (i + 1)) = nszs (l.take i) + nsz n := by
  have hi := (List.getElem?_eq_some_iff.1 h).1
  have hv := (List.getElem?_eq_some_iff.1 h).2
  rw [List.take_succ_eq_append_getElem hi, hv, nszs_app, nszs, nszs]; omega
theorem nszs_le (l : List Nd) (i : Nat) : nszs (l.take i) ≤ nszs l := by
  have h := nszs_app (l.take i) (l.drop i)
  rw [List.take_append_drop] at h
  omega
theorem nsz_pos (n : Nd) : 1 ≤ nsz n := by obtain ⟨k, c, mn, mx, lz, g, l⟩ := n; rw [nsz]; omega
theorem groupsL_take : ∀ {l : List Nd} {i : Nat} {n : Nd} (a : Int), l[i]? = some n → Sx.groupsL a (l.take (i + 1)) = max (Sx.groupsL a (l.take i)) (Sx.groups n)
  | [], i, n, a, h => by simp at h
  | m :: t, 0, n, a, h => by simp at h; subst h; simp [Sx.groupsL]
  | m :: t, i + 1, n, a, h => by
    rw [List.take_succ_cons, List.take_succ_cons, Sx.groupsL, Sx.groupsL]
    exact groupsL_take _ (by simpa using h)
end Go.Proofs.YtdoapojmenojoaaGreatDoor
end
