/- A string that is ranged over: its iterator, whatever else is made and stored. -/
import Derived.Test.YtpnakbhbaghhgaaDoorKit
import Derived.Lib.OthersKept
set_option linter.unusedVariables false
namespace Go.Proofs.YtpnakbhbaghhgaaDoor
open Go.RowKit

theorem cell_of_block {w w' : World} {a : Addr} (h : w'.heap[a.block]? = w.heap[a.block]?) : w'.cell? a = w.cell? a := World.cell?_of_block (w := w) h
theorem frozen_of_block {w w' : World} {a : Addr} (h : w'.heap[a.block]? = w.heap[a.block]?) : w'.frozen? a = w.frozen? a := World.frozen?_of_block (w := w) h
/- the iterator stands in block k at pos -/
def Cur (w : World) (k : Nat) (s : ByteArray) (pos : Nat) : Prop := w.heap[k]? = some (.stringIter s pos)
theorem Cur.lt {w : World} {k : Nat} {s : ByteArray} {pos : Nat} (h : Cur w k s pos) : k < w.heap.size := (Array.getElem?_eq_some_iff.1 h).1
theorem Cur.new (w : World) (s : ByteArray) : Cur (w.iter s 0) w.heap.size s 0 := World.iter_heap w s 0
theorem Cur.alloc {w : World} {k : Nat} {s : ByteArray} {pos : Nat} (h : Cur w k s pos) (o : Obj) : Cur (w.alloc o) k s pos := (Below.heap_alloc w o k h.lt).trans h
theorem Cur.setCell {w : World} {k : Nat} {s : ByteArray} {pos : Nat} (h : Cur w k s pos) {a : Addr} (ha : k ≠ a.block) (u : Value) : Cur (w.setCell a u) k s pos := (Below.heap_setCell w a u k ha).trans h
theorem Cur.below {w w' : World} {k : Nat} {s : ByteArray} {pos : Nat} (h : Cur w k s pos) {B : Nat} (hb : Below B w w') (hk : k < B) : Cur w' k s pos := (hb.block k hk).trans h
theorem Cur.drew {w : World} {k : Nat} {s : ByteArray} {pos : Nat} (h : Cur w k s pos) : Cur w.drew k s pos := h
/- one step on -/
theorem next_spec {P : Program} (w : World) (k : Nat) (s : ByteArray) (pos : Nat) (h : Cur w k s pos) (hp : pos < s.size) :
    ∃ w1, (∀ ty, (Instr.next (.pointer (some ⟨k, 0, none⟩)) true ty).run P w = .ok (.tuple #[.bool true, .int .i64 pos, .int .i32 (Utf8.decode s pos).1]) w1) ∧ Cur w1 k s (pos + (Utf8.decode s pos).2) ∧
      (∀ b o, b ≠ k → w1.cell? ⟨b, o, none⟩ = w.cell? ⟨b, o, none⟩) ∧ (∀ b o, b ≠ k → w1.frozen? ⟨b, o, none⟩ = w.frozen? ⟨b, o, none⟩) ∧ w1.heap.size = w.heap.size ∧ (∀ B a, Below B a w → B ≤ k → Below B a w1) ∧
      (∀ j, j ≠ k → w1.heap[j]? = w.heap[j]?) ∧ w.grownBy w1 (some k) := by
  refine ⟨_, fun ty => Lib.run_next_any_at w k s pos ty h hp, Lib.iterAt_heap w k s pos _ h, fun b o hb => cell_of_block (Lib.iterAt_other w k b s _ hb), fun b o hb => frozen_of_block (Lib.iterAt_other w k b s _ hb),
    Lib.iterAt_size .., fun B a hB hk => Lib.below_iterAt hB hk s _, fun j hj => Lib.iterAt_other w k j s _ hj, ⟨rfl, rfl, rfl, by rw [Lib.iterAt_size]; exact Nat.le_refl _, fun j _ hj => Lib.iterAt_other w k j s _ (fun e => hj (by rw [e]))⟩⟩
theorem next_end {P : Program} (w : World) (k : Nat) (s : ByteArray) (pos : Nat) (h : Cur w k s pos) (hp : ¬ pos < s.size) (ty : TypeId) :
    (Instr.next (.pointer (some ⟨k, 0, none⟩)) true ty).run P w = .ok (.tuple #[.bool false]) w := Lib.run_next_end_at w k s pos ty h hp
/- how far the iterator is -/
theorem Cur.at {w : World} {k : Nat} {s : ByteArray} {pos : Nat} (h : Cur w k s pos) : w.iterPos k = pos := by unfold Cur at h; simp [World.iterPos, h]
/- three cells of a block of the call's own -/
def Three (w : World) (b : Nat) (x y z : Value) : Prop :=
  w.cell? ⟨b, 0, none⟩ = some x ∧ w.cell? ⟨b, 1, none⟩ = some y ∧ w.cell? ⟨b, 2, none⟩ = some z ∧ (∀ o, w.frozen? ⟨b, o, none⟩ = false) ∧ b < w.heap.size
theorem Three.same {w w' : World} {b : Nat} {x y z : Value} (h : Three w b x y z) (hc : ∀ o, w'.cell? ⟨b, o, none⟩ = w.cell? ⟨b, o, none⟩) (hf : ∀ o, w'.frozen? ⟨b, o, none⟩ = w.frozen? ⟨b, o, none⟩) (hs : w.heap.size ≤ w'.heap.size) : Three w' b x y z :=
  ⟨(hc 0).trans h.1, (hc 1).trans h.2.1, (hc 2).trans h.2.2.1, fun o => (hf o).trans (h.2.2.2.1 o), Nat.lt_of_lt_of_le h.2.2.2.2 hs⟩
theorem Three.below {w w' : World} {b : Nat} {x y z : Value} (h : Three w b x y z) {B : Nat} (hb : Below B w w') (hk : b < B) : Three w' b x y z :=
  h.same (fun o => hb.cell (p := ⟨b, o, none⟩) hk) (fun o => hb.frozen (p := ⟨b, o, none⟩) hk) hb.size
theorem Three.alloc {w : World} {b : Nat} {x y z : Value} (h : Three w b x y z) (o : Obj) : Three (w.alloc o) b x y z :=
  h.below (Below.alloc (Below.refl w.heap.size w) (Nat.le_refl _) o) h.2.2.2.2
theorem Three.new (w : World) (x y z : Value) (t : TypeId) : Three (w.alloc (.cells #[x, y, z] t)) w.heap.size x y z := by
  refine ⟨?_, ?_, ?_, fun o => ?_, by simp⟩
  · rw [World.cell?_alloc_at _ _ _ _ rfl]; rfl
  · rw [World.cell?_alloc_at _ _ _ _ rfl]; rfl
  · rw [World.cell?_alloc_at _ _ _ _ rfl]; rfl
  · rw [World.frozen?_alloc_at _ _ _ _ rfl]
theorem Three.other {w : World} {b : Nat} {x y z : Value} (h : Three w b x y z) {a : Addr} (ha : b ≠ a.block) (u : Value) : Three (w.setCell a u) b x y z := by
  refine h.same (fun o => ?_) (fun o => frozen_setCell ..) (by simp)
  rw [World.cell?_setCell_other w _ _ _ (fun e => ha (by rw [e]))]
theorem Three.set0 {w : World} {b : Nat} {x y z : Value} (h : Three w b x y z) (u : Value) : Three (w.setCell ⟨b, 0, none⟩ u) b u y z := by
  refine ⟨World.cell?_setCell_same w _ _ h.1, ?_, ?_, fun o => (frozen_setCell ..).trans (h.2.2.2.1 o), by simpa using h.2.2.2.2⟩
  · rw [World.cell?_setCell_other w _ _ _ (by simp)]; exact h.2.1
  · rw [World.cell?_setCell_other w _ _ _ (by simp)]; exact h.2.2.1
theorem Three.set1 {w : World} {b : Nat} {x y z : Value} (h : Three w b x y z) (u : Value) : Three (w.setCell ⟨b, 1, none⟩ u) b x u z := by
  refine ⟨?_, World.cell?_setCell_same w _ _ h.2.1, ?_, fun o => (frozen_setCell ..).trans (h.2.2.2.1 o), by simpa using h.2.2.2.2⟩
  · rw [World.cell?_setCell_other w _ _ _ (by simp)]; exact h.1
  · rw [World.cell?_setCell_other w _ _ _ (by simp)]; exact h.2.2.1
theorem Three.set2 {w : World} {b : Nat} {x y z : Value} (h : Three w b x y z) (u : Value) : Three (w.setCell ⟨b, 2, none⟩ u) b x y u := by
  refine ⟨?_, ?_, World.cell?_setCell_same w _ _ h.2.2.1, fun o => (frozen_setCell ..).trans (h.2.2.2.1 o), by simpa using h.2.2.2.2⟩
  · rw [World.cell?_setCell_other w _ _ _ (by simp)]; exact h.1
  · rw [World.cell?_setCell_other w _ _ _ (by simp)]; exact h.2.1
/- what all later texts share -/
theorem own_block {w : World} {base : Nat} {e : TypeId} {size : Nat} {v : Value} {n : Nat} {xs : List Value} (hown : w.ownsRow base e size v n xs) : ∀ g, v.ownBlock = some g → base ≤ g := by
  intro g hg
  rcases hown.2 with ⟨h0, _⟩ | ⟨g', cap, cur, h0, hg', _⟩
  · rw [h0] at hg; simp [Value.ownBlock] at hg
  · rw [h0] at hg; simp [Value.ownBlock] at hg; omega
theorem own_mono {w : World} {base base' : Nat} {e : TypeId} {size : Nat} {v : Value} {n : Nat} {xs : List Value} (h : w.ownsRow base e size v n xs) (hb : base' ≤ base) : w.ownsRow base' e size v n xs := by
  refine ⟨h.1, ?_⟩
  rcases h.2 with h0 | ⟨g, cap, cur, hv, hg, hr⟩
  · exact .inl h0
  · exact .inr ⟨g, cap, cur, hv, by omega, hr⟩
theorem bytes_ne {v x : ByteArray} (h : ¬ v = x) : (v.toList == x.toList) = false := by
  rw [ByteArray.toList_eq, ByteArray.toList_eq]
  exact beq_eq_false_iff_ne.2 (fun e => h (ByteArray.ext (Array.ext' e)))
theorem bytes_eq (v : ByteArray) : (v.toList == v.toList) = true := by rw [ByteArray.toList_eq]; exact beq_self_eq_true _
theorem bvia {a w w' : World} (h : Below a.heap.size a w) (h' : Below w.heap.size w w') : Below a.heap.size a w' := h.trans (h'.mono h.size)
theorem bdrewN {B : Nat} {a w : World} {n : Nat} (h : Below B a w) : Below B a (w.drewN n) := h.trans ⟨rfl, rfl, rfl, Nat.le_refl _, fun _ _ => rfl⟩
end Go.Proofs.YtpnakbhbaghhgaaDoor
