import Derived.Test.YtdoapojmenojoaaGreatDoorRows
import Derived.WalkKit
import Derived.WalkSpells
import Derived.WalkLawsBesides
import Derived.Lib.Hide
import Derived.Below
import Derived.OwnWalk
import Derived.Laws.IdiomStrings
import Derived.Laws.MakeOwn
import Derived.Laws.OwnMore
import Derived.Lib.OthersKept
set_option linter.unusedSimpArgs false
set_option linter.unusedVariables false
section
/- My own small tools: bytes in memory, conversions. -/
set_option linter.unusedVariables false
namespace Go.Proofs.YtdoapojmenojoaaGreatDoor
open Go.RowKit

theorem ret_bool {a b : Bool} (h : a = b) : Ending.returned (.bool a) = .returned (.bool b) := by rw [h]
theorem ret_int {k : IntKind} {a b : Int} (h : a = b) : Ending.returned (.int k a) = .returned (.int k b) := by rw [h]
theorem val_int {k : IntKind} {a b : Int} (h : a = b) : Value.int k a = .int k b := by rw [h]
theorem u8_lt (c : UInt8) : (0 : Int) ≤ (c.toNat : Int) ∧ (c.toNat : Int) ≤ 255 := by have := c.toNat_lt; omega

/- the bytes l stand in block g from off on -/
def Bts (w : World) (g off : Nat) (l : List UInt8) : Prop :=
  ∀ j (h : j < l.length), w.cell? ⟨g, off + j, none⟩ = some (.int .u8 (l[j].toNat : Int))
def Free (w : World) (g off n : Nat) : Prop := ∀ j, j < n → w.frozen? ⟨g, off + j, none⟩ = false
def Bts0 (w : World) (g : Nat) (l : List UInt8) : Prop := Bts w g 0 l ∧ Free w g 0 l.length

theorem Bts.get {w : World} {g off : Nat} {l : List UInt8} (h : Bts w g off l) (j : Nat) (hj : j < l.length) {x : UInt8} (hx : l[j] = x) : w.cell? ⟨g, off + j, none⟩ = some (.int .u8 (x.toNat : Int)) := by
  subst hx; exact h j hj
theorem Bts0.get {w : World} {g : Nat} {l : List UInt8} (h : Bts0 w g l) (j : Nat) (hj : j < l.length) {x : UInt8} (hx : l[j] = x) : w.cell? ⟨g, j, none⟩ = some (.int .u8 (x.toNat : Int)) := by
  have := h.1.get j hj hx; simpa using this
theorem Bts0.free {w : World} {g : Nat} {l : List UInt8} (h : Bts0 w g l) (j : Nat) (hj : j < l.length) : w.frozen? ⟨g, j, none⟩ = false := by
  have := h.2 j hj; simpa using this
theorem frozen_setCell (w : World) (a b : Addr) (v : Value) : (w.setCell a v).frozen? b = w.frozen? b := by
  first | exact World.frozen?_setCell .. | simp
theorem Bts0.set {w : World} {g : Nat} {l : List UInt8} (h : Bts0 w g l) (k : Nat) (hk : k < l.length) (x : UInt8) :
    Bts0 (w.setCell ⟨g, k, none⟩ (.int .u8 (x.toNat : Int))) g (l.set k x) := by
  refine ⟨fun j hj => ?_, fun j hj => ?_⟩
  · have hj' : j < l.length := by simpa using hj
    by_cases e : k = j
    · subst e
      rw [show (0 : Nat) + k = k from by omega, World.cell?_setCell_same w _ _ (h.get k hk rfl)]
      simp
    · rw [World.cell?_setCell_other w _ _ _ (fun h' => e (by simpa using congrArg Addr.off h')), h.1 j hj']
      simp [e]
  · rw [frozen_setCell]; exact h.2 j (by simpa using hj)
/- '[]byte(s)' -/
theorem Addr.add_defn (g o j : Nat) : (Addr.add ⟨g, o, none⟩ j : Addr) = ⟨g, o + j, none⟩ := by
  unfold Addr.add; split <;> simp_all
/- 'string(b)' -/
theorem Bts.take {w : World} {g off : Nat} {l : List UInt8} (h : Bts w g off l) (n : Nat) : Bts w g off (l.take n) := by
  intro j hj
  have hj' : j < l.length := by simp at hj; omega
  rw [h j hj']; simp
/- a slice of bytes that came in: nil, or its bytes stand there -/
def BArg (w : World) (a : Option Addr) (len cap : Nat) (l : List UInt8) : Prop :=
  (len = 0 ∧ cap = 0 ∧ l = []) ∨ ∃ g off, a = some ⟨g, off, none⟩ ∧ l.length = len ∧ len ≤ cap ∧ cap ≤ 140737488351232 ∧ Bts w g off l
theorem barg_of {w : World} {x : Addr} {len cap : Nat} {zs : List Int} (hl : len ≤ cap) (hz : zs.length = cap) (hc : cap ≤ 140737488351232)
    (hcell : ∀ i, i < zs.length → w.cell? (x.add i) = some (.int .u8 (zs.getD i 0))) (hwz : ∀ n ∈ zs, (Lit.int .u8 n).wf = true) : ∃ l, BArg w (some x) len cap l := by
  by_cases h0 : cap = 0
  · exact ⟨[], .inl ⟨by omega, h0, rfl⟩⟩
  · obtain ⟨g, off, spot⟩ := x
    have hspot : spot = none := by simpa [Addr.add] using World.cell?_spot (hcell 0 (by omega))
    subst hspot
    refine ⟨(zs.take len).map fun n => UInt8.ofNat n.toNat, .inr ⟨g, off, rfl, by simp; omega, hl, hc, fun j hj => ?_⟩⟩
    have hj' : j < zs.length := by simp at hj; omega
    have hw := hwz _ (List.getElem_mem hj')
    have hb : 0 ≤ zs[j] ∧ zs[j] ≤ 255 := by simpa [Lit.wf, IntKind.min, IntKind.max, IntKind.signed, IntKind.bits] using hw
    have := hcell j hj'
    rw [Addr.add_defn] at this
    rw [this]
    simp [hj']
    omega
/- 'make([]byte, n)' -/
/- a row that the call made, of bytes -/
def u8s (l : List UInt8) : List Value := l.map fun b => .int .u8 (b.toNat : Int)
end Go.Proofs.YtdoapojmenojoaaGreatDoor
end

section
/- A string that is ranged over: its iterator, whatever else is made and stored. -/
set_option linter.unusedVariables false
namespace Go.Proofs.YtdoapojmenojoaaGreatDoor
open Go.RowKit

theorem cell_of_block {w w' : World} {a : Addr} (h : w'.heap[a.block]? = w.heap[a.block]?) : w'.cell? a = w.cell? a := World.cell?_of_block (w := w) h
theorem frozen_of_block {w w' : World} {a : Addr} (h : w'.heap[a.block]? = w.heap[a.block]?) : w'.frozen? a = w.frozen? a := World.frozen?_of_block (w := w) h
/- the iterator stands in block k at pos -/
def Cur (w : World) (k : Nat) (s : ByteArray) (pos : Nat) : Prop := w.heap[k]? = some (.stringIter s pos)
theorem Cur.lt {w : World} {k : Nat} {s : ByteArray} {pos : Nat} (h : Cur w k s pos) : k < w.heap.size := (Array.getElem?_eq_some_iff.1 h).1
theorem Cur.new (w : World) (s : ByteArray) : Cur (w.iter s 0) w.heap.size s 0 := World.iter_heap w s 0
theorem Cur.alloc {w : World} {k : Nat} {s : ByteArray} {pos : Nat} (h : Cur w k s pos) (o : Obj) : Cur (w.alloc o) k s pos := (Below.heap_alloc w o k h.lt).trans h
theorem Cur.setCell {w : World} {k : Nat} {s : ByteArray} {pos : Nat} (h : Cur w k s pos) {a : Addr} (ha : k ≠ a.block) (u : Value) : Cur (w.setCell a u) k s pos := (Below.heap_setCell w a u k ha).trans h
theorem Cur.below {w w' : World} {k : Nat} {s : ByteArray} {pos : Nat} (h : Cur w k s pos) {B : Nat} (hb : Below B w w') (hk : k < B) : Cur w' k s pos := (hb.block k hk).trans h
theorem Cur.drew {w : World} {k : Nat} {s : ByteArray} {pos : Nat} (h : Cur w k s pos) : Cur w.drew k s pos := h
/- one step on -/
theorem next_spec {P : Program} (w : World) (k : Nat) (s : ByteArray) (pos : Nat) (h : Cur w k s pos) (hp : pos < s.size) :
    ∃ w1, (∀ ty, (Instr.next (.pointer (some ⟨k, 0, none⟩)) true ty).run P w = .ok (.tuple #[.bool true, .int .i64 pos, .int .i32 (Utf8.decode s pos).1]) w1) ∧ Cur w1 k s (pos + (Utf8.decode s pos).2) ∧
      (∀ b o, b ≠ k → w1.cell? ⟨b, o, none⟩ = w.cell? ⟨b, o, none⟩) ∧ (∀ b o, b ≠ k → w1.frozen? ⟨b, o, none⟩ = w.frozen? ⟨b, o, none⟩) ∧ w1.heap.size = w.heap.size ∧ (∀ B a, Below B a w → B ≤ k → Below B a w1) ∧
      (∀ j, j ≠ k → w1.heap[j]? = w.heap[j]?) ∧ w.grownBy w1 (some k) := by
  refine ⟨_, fun ty => Lib.run_next_any_at w k s pos ty h hp, Lib.iterAt_heap w k s pos _ h, fun b o hb => cell_of_block (Lib.iterAt_other w k b s _ hb), fun b o hb => frozen_of_block (Lib.iterAt_other w k b s _ hb),
    Lib.iterAt_size .., fun B a hB hk => Lib.below_iterAt hB hk s _, fun j hj => Lib.iterAt_other w k j s _ hj, ⟨rfl, rfl, rfl, by rw [Lib.iterAt_size]; exact Nat.le_refl _, fun j _ hj => Lib.iterAt_other w k j s _ (fun e => hj (by rw [e]))⟩⟩
theorem next_end {P : Program} (w : World) (k : Nat) (s : ByteArray) (pos : Nat) (h : Cur w k s pos) (hp : ¬ pos < s.size) (ty : TypeId) :
    (Instr.next (.pointer (some ⟨k, 0, none⟩)) true ty).run P w = .ok (.tuple #[.bool false]) w := Lib.run_next_end_at w k s pos ty h hp
/- how far the iterator is -/
theorem Cur.at {w : World} {k : Nat} {s : ByteArray} {pos : Nat} (h : Cur w k s pos) : w.iterPos k = pos := by unfold Cur at h; simp [World.iterPos, h]
/- three cells of a block of the call's own -/
def Three (w : World) (b : Nat) (x y z : Value) : Prop :=
  w.cell? ⟨b, 0, none⟩ = some x ∧ w.cell? ⟨b, 1, none⟩ = some y ∧ w.cell? ⟨b, 2, none⟩ = some z ∧ (∀ o, w.frozen? ⟨b, o, none⟩ = false) ∧ b < w.heap.size
theorem Three.same {w w' : World} {b : Nat} {x y z : Value} (h : Three w b x y z) (hc : ∀ o, w'.cell? ⟨b, o, none⟩ = w.cell? ⟨b, o, none⟩) (hf : ∀ o, w'.frozen? ⟨b, o, none⟩ = w.frozen? ⟨b, o, none⟩) (hs : w.heap.size ≤ w'.heap.size) : Three w' b x y z :=
  ⟨(hc 0).trans h.1, (hc 1).trans h.2.1, (hc 2).trans h.2.2.1, fun o => (hf o).trans (h.2.2.2.1 o), Nat.lt_of_lt_of_le h.2.2.2.2 hs⟩
theorem Three.below {w w' : World} {b : Nat} {x y z : Value} (h : Three w b x y z) {B : Nat} (hb : Below B w w') (hk : b < B) : Three w' b x y z :=
  h.same (fun o => hb.cell (p := ⟨b, o, none⟩) hk) (fun o => hb.frozen (p := ⟨b, o, none⟩) hk) hb.size
theorem Three.alloc {w : World} {b : Nat} {x y z : Value} (h : Three w b x y z) (o : Obj) : Three (w.alloc o) b x y z :=
  h.below (Below.alloc (Below.refl w.heap.size w) (Nat.le_refl _) o) h.2.2.2.2
theorem Three.new (w : World) (x y z : Value) (t : TypeId) : Three (w.alloc (.cells #[x, y, z] t)) w.heap.size x y z := by
  refine ⟨?_, ?_, ?_, fun o => ?_, by simp⟩
  · rw [World.cell?_alloc_at _ _ _ _ rfl]; rfl
  · rw [World.cell?_alloc_at _ _ _ _ rfl]; rfl
  · rw [World.cell?_alloc_at _ _ _ _ rfl]; rfl
  · rw [World.frozen?_alloc_at _ _ _ _ rfl]
theorem Three.other {w : World} {b : Nat} {x y z : Value} (h : Three w b x y z) {a : Addr} (ha : b ≠ a.block) (u : Value) : Three (w.setCell a u) b x y z := by
  refine h.same (fun o => ?_) (fun o => frozen_setCell ..) (by simp)
  rw [World.cell?_setCell_other w _ _ _ (fun e => ha (by rw [e]))]
theorem Three.set0 {w : World} {b : Nat} {x y z : Value} (h : Three w b x y z) (u : Value) : Three (w.setCell ⟨b, 0, none⟩ u) b u y z := by
  refine ⟨World.cell?_setCell_same w _ _ h.1, ?_, ?_, fun o => (frozen_setCell ..).trans (h.2.2.2.1 o), by simpa using h.2.2.2.2⟩
  · rw [World.cell?_setCell_other w _ _ _ (by simp)]; exact h.2.1
  · rw [World.cell?_setCell_other w _ _ _ (by simp)]; exact h.2.2.1
theorem Three.set1 {w : World} {b : Nat} {x y z : Value} (h : Three w b x y z) (u : Value) : Three (w.setCell ⟨b, 1, none⟩ u) b x u z := by
  refine ⟨?_, World.cell?_setCell_same w _ _ h.2.1, ?_, fun o => (frozen_setCell ..).trans (h.2.2.2.1 o), by simpa using h.2.2.2.2⟩
  · rw [World.cell?_setCell_other w _ _ _ (by simp)]; exact h.1
  · rw [World.cell?_setCell_other w _ _ _ (by simp)]; exact h.2.2.1
theorem Three.set2 {w : World} {b : Nat} {x y z : Value} (h : Three w b x y z) (u : Value) : Three (w.setCell ⟨b, 2, none⟩ u) b x y u := by
  refine ⟨?_, ?_, World.cell?_setCell_same w _ _ h.2.2.1, fun o => (frozen_setCell ..).trans (h.2.2.2.1 o), by simpa using h.2.2.2.2⟩
  · rw [World.cell?_setCell_other w _ _ _ (by simp)]; exact h.1
  · rw [World.cell?_setCell_other w _ _ _ (by simp)]; exact h.2.1
/- what all later texts share -/
theorem own_block {w : World} {base : Nat} {e : TypeId} {size : Nat} {v : Value} {n : Nat} {xs : List Value} (hown : w.ownsRow base e size v n xs) : ∀ g, v.ownBlock = some g → base ≤ g := by
  intro g hg
  rcases hown.2 with ⟨h0, _⟩ | ⟨g', cap, cur, h0, hg', _⟩
  · rw [h0] at hg; simp [Value.ownBlock] at hg
  · rw [h0] at hg; simp [Value.ownBlock] at hg; omega
theorem own_mono {w : World} {base base' : Nat} {e : TypeId} {size : Nat} {v : Value} {n : Nat} {xs : List Value} (h : w.ownsRow base e size v n xs) (hb : base' ≤ base) : w.ownsRow base' e size v n xs := by
  refine ⟨h.1, ?_⟩
  rcases h.2 with h0 | ⟨g, cap, cur, hv, hg, hr⟩
  · exact .inl h0
  · exact .inr ⟨g, cap, cur, hv, by omega, hr⟩
theorem bytes_eq (v : ByteArray) : (v.toList == v.toList) = true := by rw [ByteArray.toList_eq]; exact beq_self_eq_true _
theorem bvia {a w w' : World} (h : Below a.heap.size a w) (h' : Below w.heap.size w w') : Below a.heap.size a w' := h.trans (h'.mono h.size)
theorem bdrewN {B : Nat} {a w : World} {n : Nat} (h : Below B a w) : Below B a (w.drewN n) := h.trans ⟨rfl, rfl, rfl, Nat.le_refl _, fun _ _ => rfl⟩
end Go.Proofs.YtdoapojmenojoaaGreatDoor
end
