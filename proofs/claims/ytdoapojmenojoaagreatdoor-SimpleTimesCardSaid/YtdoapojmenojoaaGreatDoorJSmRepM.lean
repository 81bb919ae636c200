import Derived.Test.YtdoapojmenojoaaGreatDoorJSmMul
import Derived.Test.YtdoapojmenojoaaGreatDoorJSimM
import Derived.Deep.RegionHeld3
set_option linter.unusedSimpArgs false
set_option linter.unusedVariables false
section
/- Repeated as often as a node tells: the memory. -/
set_option linter.unusedVariables false
namespace Go.Proofs.YtdoapojmenojoaaGreatDoor
open Go.RowKit
open Sx (Nd)

structure RS (w0 : World) (kN : Int) (kaN : Option Addr) (kiN kjN : Nat) (mnN mxN : Int) (lzN : Bool) (gN : Int) (kbN : Option Addr) (ksN ktN : Nat) (k : Int) (ka : Option Addr) (ki kj : Nat) (mn mx : Int) (lz : Bool) (g : Int) (kb : Option Addr) (ks kt : Nat) (w : World) : Prop where
  bn : BoxN w w0.heap.size kN (.slice kaN kiN kjN) mnN mxN lzN gN (.slice kbN ksN ktN)
  bk : BoxN w (w0.heap.size + 1) k (.slice ka ki kj) mn mx lz g (.slice kb ks kt)
  br : ∃ c : Array Value, c.size = 7 ∧ w.heap[w0.heap.size + 1 + 1]? = some (.cells c 29 (0, 0))
  bel : Below w0.heap.size w0 w
  sz : w0.heap.size + 3 ≤ w.heap.size
theorem RS.on {w0 : World} {kN : Int} {kaN : Option Addr} {kiN kjN : Nat} {mnN mxN : Int} {lzN : Bool} {gN : Int} {kbN : Option Addr} {ksN ktN : Nat} {k : Int} {ka : Option Addr} {ki kj : Nat} {mn mx : Int} {lz : Bool} {g : Int} {kb : Option Addr} {ks kt : Nat} {w w' : World} (h : RS w0 kN kaN kiN kjN mnN mxN lzN gN kbN ksN ktN k ka ki kj mn mx lz g kb ks kt w) (hb : Below w.heap.size w w') : RS w0 kN kaN kiN kjN mnN mxN lzN gN kbN ksN ktN k ka ki kj mn mx lz g kb ks kt w' := by
  obtain ⟨c, hc, hr⟩ := h.br
  exact ⟨h.bn.below hb, h.bk.below hb, ⟨c, hc, (hb.block _ (Array.getElem?_eq_some_iff.1 hr).1).trans hr⟩, bvia h.bel hb, Nat.le_trans h.sz hb.size⟩
theorem RS.grown {w0 : World} {kN : Int} {kaN : Option Addr} {kiN kjN : Nat} {mnN mxN : Int} {lzN : Bool} {gN : Int} {kbN : Option Addr} {ksN ktN : Nat} {k : Int} {ka : Option Addr} {ki kj : Nat} {mn mx : Int} {lz : Bool} {g : Int} {kb : Option Addr} {ks kt : Nat} {w w' : World} {S : Nat → Prop} {base : Nat} {ty : TypeId} {v : Value} {l : List Nd} (h : RS w0 kN kaN kiN kjN mnN mxN lzN gN kbN ksN ktN k ka ki kj mn mx lz g kb ks kt w) (ho : OwnN S w base ty v l) (hB : w0.heap.size + 3 ≤ base) (hg : w.grownBy w' v.ownBlock) : RS w0 kN kaN kiN kjN mnN mxN lzN gN kbN ksN ktN k ka ki kj mn mx lz g kb ks kt w' := by
  obtain ⟨c, hc, hr⟩ := h.br
  have hsz := h.sz
  have e : ∀ b, b < w0.heap.size + 3 → w'.heap[b]? = w.heap[b]? := fun b hb => own_kept_block ho hg (by omega) (by omega)
  exact ⟨h.bn.block (e _ (by omega)), h.bk.block (e _ (by omega)), ⟨c, hc, (e _ (by omega)).trans hr⟩, own_below_grown ho h.bel (by omega) hg, Nat.le_trans h.sz hg.size⟩
theorem RS.set {w0 : World} {kN : Int} {kaN : Option Addr} {kiN kjN : Nat} {mnN mxN : Int} {lzN : Bool} {gN : Int} {kbN : Option Addr} {ksN ktN : Nat} {k : Int} {ka : Option Addr} {ki kj : Nat} {mn mx : Int} {lz : Bool} {g : Int} {kb : Option Addr} {ks kt : Nat} {w : World} (h : RS w0 kN kaN kiN kjN mnN mxN lzN gN kbN ksN ktN k ka ki kj mn mx lz g kb ks kt w) (o : Nat) (v : Value) : RS w0 kN kaN kiN kjN mnN mxN lzN gN kbN ksN ktN k ka ki kj mn mx lz g kb ks kt (w.setCell ⟨w0.heap.size + 1 + 1, o, none⟩ v) := by
  obtain ⟨c, hc, hr⟩ := h.br
  have e : ∀ b, b ≠ w0.heap.size + 1 + 1 → (w.setCell ⟨w0.heap.size + 1 + 1, o, none⟩ v).heap[b]? = w.heap[b]? := fun b hb => Below.heap_setCell w _ _ _ hb
  exact ⟨h.bn.block (e _ (by omega)), h.bk.block (e _ (by omega)), ⟨_, by rw [Array.size_setIfInBounds]; exact hc, heap_setCell hr v⟩, Below.setCell h.bel (by simp; omega) v, by simpa [World.setCell] using h.sz⟩
theorem RS.res {w0 : World} {kN : Int} {kaN : Option Addr} {kiN kjN : Nat} {mnN mxN : Int} {lzN : Bool} {gN : Int} {kbN : Option Addr} {ksN ktN : Nat} {k : Int} {ka : Option Addr} {ki kj : Nat} {mn mx : Int} {lz : Bool} {g : Int} {kb : Option Addr} {ks kt : Nat} {w : World} (h : RS w0 kN kaN kiN kjN mnN mxN lzN gN kbN ksN ktN k ka ki kj mn mx lz g kb ks kt w) : ∃ u0 u1 u2 u3 u4 u5 u6, w.cell? ⟨w0.heap.size + 1 + 1, 0, none⟩ = some u0 ∧ w.cell? ⟨w0.heap.size + 1 + 1, 1, none⟩ = some u1 ∧ w.cell? ⟨w0.heap.size + 1 + 1, 2, none⟩ = some u2 ∧ w.cell? ⟨w0.heap.size + 1 + 1, 3, none⟩ = some u3 ∧ w.cell? ⟨w0.heap.size + 1 + 1, 4, none⟩ = some u4 ∧ w.cell? ⟨w0.heap.size + 1 + 1, 5, none⟩ = some u5 ∧ w.cell? ⟨w0.heap.size + 1 + 1, 6, none⟩ = some u6 ∧ ∀ o, w.frozen? ⟨w0.heap.size + 1 + 1, o, none⟩ = false := by
  obtain ⟨c, hc, hr⟩ := h.br
  have q : ∀ i (hi : i < 7), w.cell? ⟨w0.heap.size + 1 + 1, i, none⟩ = some (c[i]'(by omega)) := fun i hi => by rw [Lib.cell_of_heap hr]; exact Array.getElem?_eq_getElem (by omega)
  exact ⟨_, _, _, _, _, _, _, q 0 (by decide), q 1 (by decide), q 2 (by decide), q 3 (by decide), q 4 (by decide), q 5 (by decide), q 6 (by decide), fun o => Lib.frozen_of_heap hr o⟩
/- what is loaded, and the rest -/
abbrev RC (w0 : World) (kN : Int) (kaN : Option Addr) (kiN kjN : Nat) (mnN mxN : Int) (lzN : Bool) (gN : Int) (kbN : Option Addr) (ksN ktN : Nat) (k : Int) (ka : Option Addr) (ki kj : Nat) (mn mx : Int) (lz : Bool) (g : Int) (kb : Option Addr) (ks kt : Nat) (w : World) : Prop :=
  w.cell? ⟨w0.heap.size, 2, none⟩ = some (.int .i64 mnN) ∧ w.cell? ⟨w0.heap.size, 3, none⟩ = some (.int .i64 mxN) ∧ w.cell? ⟨w0.heap.size, 4, none⟩ = some (.bool lzN) ∧
  w.cell? ⟨w0.heap.size + 1, 0, none⟩ = some (.int .i64 k) ∧ w.cell? ⟨w0.heap.size + 1, 1, none⟩ = some (.slice ka ki kj) ∧ w.cell? ⟨w0.heap.size + 1, 2, none⟩ = some (.int .i64 mn) ∧ w.cell? ⟨w0.heap.size + 1, 3, none⟩ = some (.int .i64 mx) ∧ w.cell? ⟨w0.heap.size + 1, 4, none⟩ = some (.bool lz) ∧ w.cell? ⟨w0.heap.size + 1, 5, none⟩ = some (.int .i64 g) ∧ w.cell? ⟨w0.heap.size + 1, 6, none⟩ = some (.slice kb ks kt) ∧ RS w0 kN kaN kiN kjN mnN mxN lzN gN kbN ksN ktN k ka ki kj mn mx lz g kb ks kt w
theorem RS.all {w0 : World} {kN : Int} {kaN : Option Addr} {kiN kjN : Nat} {mnN mxN : Int} {lzN : Bool} {gN : Int} {kbN : Option Addr} {ksN ktN : Nat} {k : Int} {ka : Option Addr} {ki kj : Nat} {mn mx : Int} {lz : Bool} {g : Int} {kb : Option Addr} {ks kt : Nat} {w : World} (h : RS w0 kN kaN kiN kjN mnN mxN lzN gN kbN ksN ktN k ka ki kj mn mx lz g kb ks kt w) : RC w0 kN kaN kiN kjN mnN mxN lzN gN kbN ksN ktN k ka ki kj mn mx lz g kb ks kt w := by
  obtain ⟨a0, a1, a2, a3, a4, a5, a6, _⟩ := h.bn.cells
  obtain ⟨b0, b1, b2, b3, b4, b5, b6, _⟩ := h.bk.cells
  exact ⟨a2, a3, a4, b0, b1, b2, b3, b4, b5, b6, h⟩
theorem RS.start (w0 : World) (kN : Int) (kaN : Option Addr) (kiN kjN : Nat) (mnN mxN : Int) (lzN : Bool) (gN : Int) (kbN : Option Addr) (ksN ktN : Nat) (k : Int) (ka : Option Addr) (ki kj : Nat) (mn mx : Int) (lz : Bool) (g : Int) (kb : Option Addr) (ks kt : Nat) : RS w0 kN kaN kiN kjN mnN mxN lzN gN kbN ksN ktN k ka ki kj mn mx lz g kb ks kt (((w0.alloc (.cells #[.int .i64 kN, .slice kaN kiN kjN, .int .i64 mnN, .int .i64 mxN, .bool lzN, .int .i64 gN, .slice kbN ksN ktN] 29)).alloc (.cells #[.int .i64 k, .slice ka ki kj, .int .i64 mn, .int .i64 mx, .bool lz, .int .i64 g, .slice kb ks kt] 29)).alloc (.cells #[.int .i64 0, .slice none 0 0, .int .i64 0, .int .i64 0, .bool false, .int .i64 0, .slice none 0 0] 29)) := by
  have b1 := below_new w0 (.cells #[.int .i64 kN, .slice kaN kiN kjN, .int .i64 mnN, .int .i64 mxN, .bool lzN, .int .i64 gN, .slice kbN ksN ktN] 29)
  have b2 := below_new (w0.alloc (.cells #[.int .i64 kN, .slice kaN kiN kjN, .int .i64 mnN, .int .i64 mxN, .bool lzN, .int .i64 gN, .slice kbN ksN ktN] 29)) (.cells #[.int .i64 k, .slice ka ki kj, .int .i64 mn, .int .i64 mx, .bool lz, .int .i64 g, .slice kb ks kt] 29)
  have b3 := below_new ((w0.alloc (.cells #[.int .i64 kN, .slice kaN kiN kjN, .int .i64 mnN, .int .i64 mxN, .bool lzN, .int .i64 gN, .slice kbN ksN ktN] 29)).alloc (.cells #[.int .i64 k, .slice ka ki kj, .int .i64 mn, .int .i64 mx, .bool lz, .int .i64 g, .slice kb ks kt] 29)) (.cells #[.int .i64 0, .slice none 0 0, .int .i64 0, .int .i64 0, .bool false, .int .i64 0, .slice none 0 0] 29)
  have e1 : (w0.alloc (.cells #[.int .i64 kN, .slice kaN kiN kjN, .int .i64 mnN, .int .i64 mxN, .bool lzN, .int .i64 gN, .slice kbN ksN ktN] 29)).heap.size = w0.heap.size + 1 := by simp
  have e2 : ((w0.alloc (.cells #[.int .i64 kN, .slice kaN kiN kjN, .int .i64 mnN, .int .i64 mxN, .bool lzN, .int .i64 gN, .slice kbN ksN ktN] 29)).alloc (.cells #[.int .i64 k, .slice ka ki kj, .int .i64 mn, .int .i64 mx, .bool lz, .int .i64 g, .slice kb ks kt] 29)).heap.size = w0.heap.size + 1 + 1 := by simp
  have e3 : (((w0.alloc (.cells #[.int .i64 kN, .slice kaN kiN kjN, .int .i64 mnN, .int .i64 mxN, .bool lzN, .int .i64 gN, .slice kbN ksN ktN] 29)).alloc (.cells #[.int .i64 k, .slice ka ki kj, .int .i64 mn, .int .i64 mx, .bool lz, .int .i64 g, .slice kb ks kt] 29)).alloc (.cells #[.int .i64 0, .slice none 0 0, .int .i64 0, .int .i64 0, .bool false, .int .i64 0, .slice none 0 0] 29)).heap.size = w0.heap.size + 3 := by simp
  refine ⟨((BoxN.new w0 kN (.slice kaN kiN kjN) mnN mxN lzN gN (.slice kbN ksN ktN)).below b2).below b3, ?_, ⟨#[.int .i64 0, .slice none 0 0, .int .i64 0, .int .i64 0, .bool false, .int .i64 0, .slice none 0 0], rfl, ?_⟩, bvia (bvia b1 b2) b3, by omega⟩
  · have := (BoxN.new (w0.alloc (.cells #[.int .i64 kN, .slice kaN kiN kjN, .int .i64 mnN, .int .i64 mxN, .bool lzN, .int .i64 gN, .slice kbN ksN ktN] 29)) k (.slice ka ki kj) mn mx lz g (.slice kb ks kt)).below b3
    rw [e1] at this; exact this
  · have := seven0_new ((w0.alloc (.cells #[.int .i64 kN, .slice kaN kiN kjN, .int .i64 mnN, .int .i64 mxN, .bool lzN, .int .i64 gN, .slice kbN ksN ktN] 29)).alloc (.cells #[.int .i64 k, .slice ka ki kj, .int .i64 mn, .int .i64 mx, .bool lz, .int .i64 g, .slice kb ks kt] 29))
    rw [e2] at this; exact this
theorem RS.drw {w0 : World} {kN : Int} {kaN : Option Addr} {kiN kjN : Nat} {mnN mxN : Int} {lzN : Bool} {gN : Int} {kbN : Option Addr} {ksN ktN : Nat} {k : Int} {ka : Option Addr} {ki kj : Nat} {mn mx : Int} {lz : Bool} {g : Int} {kb : Option Addr} {ks kt : Nat} {w : World} (h : RS w0 kN kaN kiN kjN mnN mxN lzN gN kbN ksN ktN k ka ki kj mn mx lz g kb ks kt w) : RS w0 kN kaN kiN kjN mnN mxN lzN gN kbN ksN ktN k ka ki kj mn mx lz g kb ks kt w.drew := h.on (Below.refl _ _).drew
theorem RS.alc {w0 : World} {kN : Int} {kaN : Option Addr} {kiN kjN : Nat} {mnN mxN : Int} {lzN : Bool} {gN : Int} {kbN : Option Addr} {ksN ktN : Nat} {k : Int} {ka : Option Addr} {ki kj : Nat} {mn mx : Int} {lz : Bool} {g : Int} {kb : Option Addr} {ks kt : Nat} {w : World} {ob : Obj} (h : RS w0 kN kaN kiN kjN mnN mxN lzN gN kbN ksN ktN k ka ki kj mn mx lz g kb ks kt w) : RS w0 kN kaN kiN kjN mnN mxN lzN gN kbN ksN ktN k ka ki kj mn mx lz g kb ks kt (w.alloc ob) := h.on (below_new _ _)
/- where a node's blocks lie -/
theorem T3_in {S : Nat → Prop} {w0 : World} {b : Nat} (h : S b ∨ w0.heap.size + 3 ≤ b) : S b ∨ w0.heap.size + 3 ≤ b := h
abbrev T3 (S : Nat → Prop) (w0 : World) (b : Nat) : Prop := S b ∨ w0.heap.size + 3 ≤ b
theorem node_end {S : Nat → Prop} {w0 w : World} {u : Value} {n : Nd} (hS : ∀ b, S b → b < w0.heap.size) (hz : w0.heap.size ≤ w.heap.size) (h : NodeVS (fun b => T3 S w0 b ∧ b < w.heap.size) w u n) : ∃ k ka ki kj mn mx lz g kb ks kt, u = ndv k (.slice ka ki kj) mn mx lz g (.slice kb ks kt) ∧ NodeVS (Joined S w0 (set7 w (w0.heap.size + 1 + 1) (.int .i64 k) (.slice ka ki kj) (.int .i64 mn) (.int .i64 mx) (.bool lz) (.int .i64 g) (.slice kb ks kt))) (set7 w (w0.heap.size + 1 + 1) (.int .i64 k) (.slice ka ki kj) (.int .i64 mn) (.int .i64 mx) (.bool lz) (.int .i64 g) (.slice kb ks kt)) (ndv k (.slice ka ki kj) mn mx lz g (.slice kb ks kt)) n := by
  obtain ⟨k, vc, mn, mx, lz, g, vl, rfl, hn⟩ := h
  obtain ⟨ka, ki, kj, kb, ks, kt, rfl, rfl⟩ := nodeS_shape hn
  refine ⟨k, ka, ki, kj, mn, mx, lz, g, kb, ks, kt, rfl, node_laid hS hz (hn.mono (fun b hb => ⟨?_, rfl⟩))⟩
  unfold T3 at hb
  rcases hb.1 with h | h
  · exact ⟨.inl h, by have := hS b h; omega⟩
  · exact ⟨.inr ⟨by omega, hb.2⟩, by omega⟩
end Go.Proofs.YtdoapojmenojoaaGreatDoor
end

section
/- Repeated as often as a node tells: the program's own. -/
set_option linter.unusedVariables false
namespace Go.Proofs.YtdoapojmenojoaaGreatDoor
open Go.RowKit
open Sx (Nd)

theorem nodeVS_open {S : Nat → Prop} {w : World} {u : Value} {n : Nd} (h : NodeVS S w u n) : ∃ k ka ki kj mn mx lz g kb ks kt, u = ndv k (.slice ka ki kj) mn mx lz g (.slice kb ks kt) ∧ NodeS S w k (.slice ka ki kj) mn mx lz g (.slice kb ks kt) n := by
  obtain ⟨k, vc, mn, mx, lz, g, vl, rfl, hn⟩ := h
  obtain ⟨ka, ki, kj, kb, ks, kt, rfl, rfl⟩ := nodeS_shape hn
  exact ⟨k, ka, ki, kj, mn, mx, lz, g, kb, ks, kt, rfl, hn⟩
theorem rep_apart {S : Nat → Prop} {w0 w3 w4 : World} {ty : TypeId} {v : Value} {l : List Nd} {k mn mx g : Int} {vc vl : Value} {lz : Bool} {n : Nd} (ho : OwnN (T3 S w0) w3 (w0.heap.size + 3) ty v l) (hS : ∀ b, S b → b < w0.heap.size) (hz : w0.heap.size + 3 ≤ w3.heap.size) (hn : NodeS (Joined S w3 w4) w4 k vc mn mx lz g vl n) (hz4 : w3.heap.size ≤ w4.heap.size := by omega) :
    NodeS (fun b => T3 S w0 b ∧ b < w4.heap.size ∧ v.ownBlock ≠ some b) w4 k vc mn mx lz g vl n :=
  hn.mono (fun b hb => ⟨by
    rcases hb with hb | hb
    · exact ⟨.inl hb, by have := hS b hb; omega, own_ne ho (by have := hS b hb; omega)⟩
    · exact ⟨.inr (by have := hb.1; omega), hb.2, own_block_lt ho hb.1⟩, rfl⟩)
theorem rep_seq {S : Nat → Prop} {w0 w5 : World} {ty : TypeId} {v : Value} {L l : List Nd} (hL : L = l) (hz : L.length ≤ 600000 ∧ (flatK 6 L).length ≤ 600000) (ho : OwnN (T3 S w0) w5 (w0.heap.size + 3) ty v l) :
    ∃ p N cp, v = .slice p N cp ∧ Calls Tryz.prog 34 #[.slice p N cp] w5 fun e w' => ∃ u, e = .returned u ∧ NodeVS (Joined (fun b => T3 S w0 b ∧ b < w5.heap.size) w5 w') w' u (Sx.sequence L) ∧ Below w5.heap.size w5 w' := by
  subst hL
  obtain ⟨p, cp, hv, _, hk⟩ := own_kids (S' := fun b => T3 S w0 b ∧ b < w5.heap.size) ho (fun b h1 h2 => ⟨h1, h2⟩) (fun b h1 h2 => ⟨.inr h1, h2⟩)
  exact ⟨p, L.length, cp, hv, sseq_any L p cp _ w5 hk (fun b hb => hb.2) hz.1 hz.2⟩
theorem rep_join {S : Nat → Prop} {w0 w5 w6 : World} {u : Value} {n : Nd} (hz : w5.heap.size ≤ w6.heap.size) (h : NodeVS (Joined (fun b => T3 S w0 b ∧ b < w5.heap.size) w5 w6) w6 u n) (h5 : w0.heap.size + 3 ≤ w5.heap.size := by omega) : NodeVS (fun b => T3 S w0 b ∧ b < w6.heap.size) w6 u n :=
  h.mono (fun b hb => ⟨by
    rcases hb with hb | hb
    · exact ⟨hb.1, by have := hb.2; omega⟩
    · exact ⟨.inr (by have := hb.1; omega), hb.2⟩, rfl⟩)
set_option maxRecDepth 20000 in
set_option maxHeartbeats 4000000 in
theorem repeat_opt (a c : Nat) (hac : a ≤ c) (hc : c ≤ 20) (kN : Int) (kaN : Option Addr) (kiN kjN : Nat) (lzN : Bool) (gN : Int) (kbN : Option Addr) (ksN ktN : Nat) (k : Int) (ka : Option Addr) (ki kj : Nat) (mn mx : Int) (lz : Bool) (g : Int) (kb : Option Addr) (ks kt : Nat) (n : Nd) (S : Nat → Prop) (w : World) (hk : NodeS S w k (.slice ka ki kj) mn mx lz g (.slice kb ks kt) n) (hS0 : ∀ b, S b → b < w.heap.size) (hn : nsz n ≤ 400) (hst : Sx.stay (a : Int) (c : Int) = false) :
    Calls Tryz.prog 125 #[ndv kN (.slice kaN kiN kjN) (a : Int) (c : Int) lzN gN (.slice kbN ksN ktN), ndv k (.slice ka ki kj) mn mx lz g (.slice kb ks kt)] w fun e w' => ∃ u, e = .returned u ∧ NodeVS (Joined S w w') w' u (Sx.sequence (List.replicate a n ++ [Sx.perh (c - a) lzN n])) ∧ Below w.heap.size w w' := by
  have hx1 : ((c : Int) == -1) = false := by rw [beq_eq_false_iff_ne]; omega
  have hsub : IntKind.i64.wrap ((c : Int) - (a : Int)) = ((c - a : Nat) : Int) := by rw [IntWalk.i64_in _ ⟨by omega, by omega⟩]; omega
  have HR := Lib.hid (RS.start w kN kaN kiN kjN (a : Int) (c : Int) lzN gN kbN ksN ktN k ka ki kj mn mx lz g kb ks kt)
  have HK := Lib.hid hk
  have HS0 := Lib.hid hS0
  have HST := Lib.hid hst
  obtain ⟨L, hL⟩ : ∃ L, L = List.replicate a n ++ [Sx.perh (c - a) lzN n] := ⟨_, rfl⟩
  have hLZ : L.length ≤ 600000 ∧ (flatK 6 L).length ≤ 600000 := by
    have h1 := flat6_len L
    have h2 := perh_nsz lzN n (c - a)
    have h3 : (c - a) * (nsz n + 2) ≤ 20 * 402 := Nat.mul_le_mul (by omega) (by omega)
    have h4 : a * nsz n ≤ 20 * 400 := Nat.mul_le_mul (by omega) hn
    have h5 : nszs L = a * nsz n + nsz (Sx.perh (c - a) lzN n) := by rw [hL, nszs_app, Sx.nszs_rep, nszs, nszs]; omega
    have h6 : L.length = a + 1 := by rw [hL]; simp
    omega
  have HL := Lib.hid hL
  have HLZ := Lib.hid hLZ
  rw [← hL]
  clear hk hS0 hst hL hLZ
  unfold ndv
  go_enter Tryz.func125, Tryz.ntmps125
  go_upto_region 1 with fail
  generalize (((w.alloc (.cells #[.int .i64 kN, .slice kaN kiN kjN, .int .i64 (a : Int), .int .i64 (c : Int), .bool lzN, .int .i64 gN, .slice kbN ksN ktN] 29)).alloc (.cells #[.int .i64 k, .slice ka ki kj, .int .i64 mn, .int .i64 mx, .bool lz, .int .i64 g, .slice kb ks kt] 29)).alloc (.cells #[.int .i64 0, .slice none 0 0, .int .i64 0, .int .i64 0, .bool false, .int .i64 0, .slice none 0 0] 29)) = w1 at *
  obtain ⟨a0, a1, a2, a3, a4, a5, a6, _⟩ := HR.out.bn.cells
  have HC := Lib.hid (stays_any kN (.slice kaN kiN kjN) (.slice kbN ksN ktN) (a : Int) (c : Int) gN lzN w1 ⟨_, _, _, _, _, _, rfl, rfl⟩)
  rw [HST.out] at HC
  unfold ndv at HC
  go_wp2_with fail
  with_reducible refine HC.out.mono ?_
  rintro e w2 ⟨rfl, hb2⟩
  have HR2 := Lib.hid (HR.out.on hb2)
  clear HC HR hb2 a0 a1 a2 a3 a4 a5 a6
  obtain ⟨a0, a1, a2, a3, a4, a5, a6, _⟩ := HR2.out.bn.cells
  go_upto_region 6 with fail
  have hr2 := HR2.out.on (Below.refl _ _).drew
  clear a0 a1 a2 a3 a4 a5 a6
  have HM := Lib.hid (HK.out.mono (S' := S) (w' := w2.drew) (fun b hb => ⟨hb, hr2.bel.block b (HS0.out b hb)⟩))
  have HSD := Lib.hid (show ∀ b, S b → b < w2.drew.heap.size from fun b hb => Nat.lt_of_lt_of_le (HS0.out b hb) hr2.bel.size)
  go_region_held3 (fun w' => w'.cell? ⟨w.heap.size, 2, none⟩ = some (.int .i64 (a : Int)) ∧ w'.cell? ⟨w.heap.size, 3, none⟩ = some (.int .i64 (c : Int)) ∧ w'.cell? ⟨w.heap.size, 4, none⟩ = some (.bool lzN) ∧ w'.cell? ⟨w.heap.size + 1, 0, none⟩ = some (.int .i64 k) ∧ w'.cell? ⟨w.heap.size + 1, 1, none⟩ = some (.slice ka ki kj) ∧ w'.cell? ⟨w.heap.size + 1, 2, none⟩ = some (.int .i64 mn) ∧ w'.cell? ⟨w.heap.size + 1, 3, none⟩ = some (.int .i64 mx) ∧ w'.cell? ⟨w.heap.size + 1, 4, none⟩ = some (.bool lz) ∧ w'.cell? ⟨w.heap.size + 1, 5, none⟩ = some (.int .i64 g) ∧ w'.cell? ⟨w.heap.size + 1, 6, none⟩ = some (.slice kb ks kt) ∧ RS w kN kaN kiN kjN (a : Int) (c : Int) lzN gN kbN ksN ktN k ka ki kj mn mx lz g kb ks kt w') (first | (refine RS.all ?_; with_reducible assumption) | (refine RS.all ?_; with_reducible refine RS.set ?_ _ _; with_reducible refine RS.set ?_ _ _; with_reducible refine RS.set ?_ _ _; with_reducible refine RS.set ?_ _ _; with_reducible refine RS.set ?_ _ _; with_reducible refine RS.set ?_ _ _; with_reducible refine RS.set ?_ _ _; with_reducible assumption) | (refine RS.all ?_; with_reducible refine RS.drw ?_; with_reducible assumption) | (refine RS.all ?_; with_reducible refine RS.alc ?_; with_reducible assumption)) ((first | (go_at_call 148; have hc9 := stimes_any a (by omega) k ka ki kj mn mx lz g kb ks kt n S _ HM.out HSD.out; unfold ndv at hc9; with_reducible refine hc9.mono ?_; clear hc9; rintro e w3 ⟨v3, rfl, ho3, hb3⟩; have hR3 := RS.on hr2 hb3; have HO3 := Lib.hid (ho3.base (base' := w.heap.size + 3) (S' := T3 S w) hr2.sz (fun b hb => Or.inl hb)); have HM3 := Lib.hid (HK.out.mono (S' := S) (w' := w3) (fun b hb => ⟨hb, hR3.bel.block b (HS0.out b hb)⟩)); have HS3 := Lib.hid (show ∀ b, S b → b < w3.heap.size from fun b hb => Nat.lt_of_lt_of_le (HS0.out b hb) hR3.bel.size); obtain ⟨p3, c3, hv3⟩ := own_slice ho3; rw [List.length_replicate] at hv3; subst hv3; clear ho3 hb3) | (go_at_call 149; have hc9 := perhaps_any (c - a) (by omega) lzN k ka ki kj mn mx lz g kb ks kt n hn S _ HM3.out HS3.out; unfold ndv at hc9; with_reducible refine hc9.mono ?_; clear hc9; rintro e w4 ⟨u4, rfl, hu4, hb4⟩; have hR4 := RS.on hR3 hb4; obtain ⟨k4, ka4, ki4, kj4, mn4, mx4, lz4, g4, kb4, ks4, kt4, rfl, hn4⟩ := nodeVS_open hu4; have HO4 := Lib.hid (HO3.out.kept hb4); have HN4 := Lib.hid (rep_apart HO3.out HS0.out hR3.sz hn4 hb4.size); unfold ndv; clear hn4 hb4) | (refine step_node (by rfl) _ _ 27 (by rfl) (w.heap.size + 3) 29 Tryz.underlying27 Tryz.infoSN (T3 S w) w4 (.slice p3 a c3) (List.replicate a n) k4 ka4 ki4 kj4 mn4 mx4 lz4 g4 kb4 ks4 kt4 (Sx.perh (c - a) lzN n) (by rfl) (by exact HO4.out) (by rfl) (by exact HN4.out) (by rw [List.length_replicate]; omega) (by exact hR4.sz) ?_; intro v5 w5 ho5 hg5; have hR5 := RS.grown hR4 HO4.out (Nat.le_refl _) hg5; have HQ := Lib.hid (rep_seq HL.out HLZ.out ho5); obtain ⟨p5, N5, c5, rfl, hq5⟩ := HQ.out; have HC5 := Lib.hid hq5; clear hq5 ho5 hg5 HQ) | (go_at_call 34; with_reducible refine HC5.out.mono ?_; rintro e w6 ⟨u6, rfl, hu6, hb6⟩; have hR6 := RS.on hR5 hb6; obtain ⟨k6, ka6, ki6, kj6, mn6, mx6, lz6, g6, kb6, ks6, kt6, rfl, hn6⟩ := node_end HS0.out hR6.bel.size (rep_join hb6.size hu6 hR5.sz); have HN6 := Lib.hid hn6; obtain ⟨y0', y1', y2', y3', y4', y5', y6', y0, y1, y2, y3, y4, y5, y6, yf⟩ := hR6.res; unfold ndv; clear hn6 hb6 hu6) | fail "none"))
  have h7 := set7_seven w6 (w.heap.size + 1 + 1) k6 mn6 mx6 g6 lz6 (.slice ka6 ki6 kj6) (.slice kb6 ks6 kt6) y0 y1 y2 y3 y4 y5 y6
  have HBF := Lib.hid (below_set7 hR6.bel (by omega : w.heap.size ≤ w.heap.size + 1 + 1) (.int .i64 k6) (.slice ka6 ki6 kj6) (.int .i64 mn6) (.int .i64 mx6) (.bool lz6) (.int .i64 g6) (.slice kb6 ks6 kt6))
  go_wp2_with fail
  with_reducible change bodyPost _ _ _ _ _ _
  refine (?_ : bodyPost _ _ _ _ _ (set7 w6 (w.heap.size + 1 + 1) (.int .i64 k6) (.slice ka6 ki6 kj6) (.int .i64 mn6) (.int .i64 mx6) (.bool lz6) (.int .i64 g6) (.slice kb6 ks6 kt6)))
  obtain ⟨z0, z1, z2, z3, z4, z5, z6⟩ := h7
  simp only [Nat.zero_add] at z0 z1 z2 z3 z4 z5 z6
  generalize (set7 w6 (w.heap.size + 1 + 1) (.int .i64 k6) (.slice ka6 ki6 kj6) (.int .i64 mn6) (.int .i64 mx6) (.bool lz6) (.int .i64 g6) (.slice kb6 ks6 kt6)) = wf at *
  exact bodyPost_ret (v := ndv k6 (.slice ka6 ki6 kj6) mn6 mx6 lz6 g6 (.slice kb6 ks6 kt6)) (by unfold ndv; simp [results, Tryz.results125, go_sem, *]) rfl ⟨_, rfl, HN6.out, HBF.out⟩
end Go.Proofs.YtdoapojmenojoaaGreatDoor
end

section
/- Repeated as often as a node tells: it stays. -/
set_option linter.unusedVariables false
namespace Go.Proofs.YtdoapojmenojoaaGreatDoor
open Go.RowKit
open Sx (Nd)

theorem nodeVS_end {S : Nat → Prop} {w0 w : World} {u : Value} {n : Nd} (hS : ∀ b, S b → b < w0.heap.size) (hz : w0.heap.size ≤ w.heap.size) (h : NodeVS (fun b => T3 S w0 b ∧ b < w.heap.size) w u n) : ∃ k ka ki kj mn mx lz g kb ks kt, u = ndv k (.slice ka ki kj) mn mx lz g (.slice kb ks kt) ∧ Hid (NodeVS (Joined S w0 (set7 w (w0.heap.size + 1 + 1) (.int .i64 k) (.slice ka ki kj) (.int .i64 mn) (.int .i64 mx) (.bool lz) (.int .i64 g) (.slice kb ks kt))) (set7 w (w0.heap.size + 1 + 1) (.int .i64 k) (.slice ka ki kj) (.int .i64 mn) (.int .i64 mx) (.bool lz) (.int .i64 g) (.slice kb ks kt)) (ndv k (.slice ka ki kj) mn mx lz g (.slice kb ks kt)) n) := by
  obtain ⟨k, ka, ki, kj, mn, mx, lz, g, kb, ks, kt, e, h⟩ := node_end hS hz h
  exact ⟨k, ka, ki, kj, mn, mx, lz, g, kb, ks, kt, e, Lib.hid h⟩
set_option maxRecDepth 20000 in
set_option maxHeartbeats 4000000 in
theorem repeat_stay (kN : Int) (kaN : Option Addr) (kiN kjN : Nat) (mnN mxN : Int) (lzN : Bool) (gN : Int) (kbN : Option Addr) (ksN ktN : Nat) (k : Int) (ka : Option Addr) (ki kj : Nat) (mn mx : Int) (lz : Bool) (g : Int) (kb : Option Addr) (ks kt : Nat) (n : Nd) (S : Nat → Prop) (w : World) (hk : NodeS S w k (.slice ka ki kj) mn mx lz g (.slice kb ks kt) n) (hS0 : ∀ b, S b → b < w.heap.size) (h1 : I64 mnN) (h2 : I64 mxN) (hst : Sx.stay mnN mxN = true) :
    Calls Tryz.prog 125 #[ndv kN (.slice kaN kiN kjN) mnN mxN lzN gN (.slice kbN ksN ktN), ndv k (.slice ka ki kj) mn mx lz g (.slice kb ks kt)] w fun e w' => ∃ u, e = .returned u ∧ NodeVS (Joined S w w') w' u (Sx.again mnN mxN lzN n) ∧ Below w.heap.size w w' := by
  have HR := Lib.hid (RS.start w kN kaN kiN kjN mnN mxN lzN gN kbN ksN ktN k ka ki kj mn mx lz g kb ks kt)
  have HK := Lib.hid hk
  have HS0 := Lib.hid hS0
  have HST := Lib.hid hst
  have H1 := Lib.hid h1
  have H2 := Lib.hid h2
  clear hk hS0 hst h1 h2
  unfold ndv
  go_enter Tryz.func125, Tryz.ntmps125
  go_upto_region 1 with fail
  generalize (((w.alloc (.cells #[.int .i64 kN, .slice kaN kiN kjN, .int .i64 mnN, .int .i64 mxN, .bool lzN, .int .i64 gN, .slice kbN ksN ktN] 29)).alloc (.cells #[.int .i64 k, .slice ka ki kj, .int .i64 mn, .int .i64 mx, .bool lz, .int .i64 g, .slice kb ks kt] 29)).alloc (.cells #[.int .i64 0, .slice none 0 0, .int .i64 0, .int .i64 0, .bool false, .int .i64 0, .slice none 0 0] 29)) = w1 at *
  obtain ⟨a0, a1, a2, a3, a4, a5, a6, _⟩ := HR.out.bn.cells
  have HC := Lib.hid (stays_any kN (.slice kaN kiN kjN) (.slice kbN ksN ktN) mnN mxN gN lzN w1 ⟨_, _, _, _, _, _, rfl, rfl⟩)
  rw [HST.out] at HC
  unfold ndv at HC
  go_wp2_with fail
  with_reducible refine HC.out.mono ?_
  rintro e w2 ⟨rfl, hb2⟩
  have HR2 := Lib.hid (HR.out.on hb2)
  clear HC HR hb2 a0 a1 a2 a3 a4 a5 a6
  obtain ⟨a0, a1, a2, a3, a4, a5, a6, _⟩ := HR2.out.bn.cells
  obtain ⟨b0, b1, b2, b3, b4, b5, b6, _⟩ := HR2.out.bk.cells
  go_wp2_with fail
  clear a0 a1 a2 a3 a4 a5 a6 b0 b1 b2 b3 b4 b5 b6
  have HC := Lib.hid (again_any mnN mxN lzN k ka ki kj mn mx lz g kb ks kt n S w2 (HK.out.mono (fun b hb => ⟨hb, HR2.out.bel.block b (HS0.out b hb)⟩)) (fun b hb => Nat.lt_of_lt_of_le (HS0.out b hb) HR2.out.bel.size) H1.out H2.out)
  unfold ndv at HC
  with_reducible refine HC.out.mono ?_
  rintro e w6 ⟨u6, rfl, hu6, hb6⟩
  have hR6 := HR2.out.on hb6
  have hsz2 := HR2.out.sz
  obtain ⟨k6, ka6, ki6, kj6, mn6, mx6, lz6, g6, kb6, ks6, kt6, rfl, HN6⟩ := nodeVS_end HS0.out hR6.bel.size (hu6.mono (S' := fun b => T3 S w b ∧ b < w6.heap.size) (fun b hb => ⟨by
    rcases hb with hb | hb
    · exact ⟨.inl hb, by have := HS0.out b hb; have := hR6.sz; omega⟩
    · exact ⟨.inr (by have := hb.1; omega), hb.2⟩, rfl⟩))
  obtain ⟨y0', y1', y2', y3', y4', y5', y6', y0, y1, y2, y3, y4, y5, y6, yf⟩ := hR6.res
  clear HC hu6 hb6 HR2 hsz2
  unfold ndv
  have h7 := set7_seven w6 (w.heap.size + 1 + 1) k6 mn6 mx6 g6 lz6 (.slice ka6 ki6 kj6) (.slice kb6 ks6 kt6) y0 y1 y2 y3 y4 y5 y6
  have HBF := Lib.hid (below_set7 hR6.bel (by omega : w.heap.size ≤ w.heap.size + 1 + 1) (.int .i64 k6) (.slice ka6 ki6 kj6) (.int .i64 mn6) (.int .i64 mx6) (.bool lz6) (.int .i64 g6) (.slice kb6 ks6 kt6))
  go_wp2_with fail
  with_reducible change bodyPost _ _ _ _ _ _
  refine (?_ : bodyPost _ _ _ _ _ (set7 w6 (w.heap.size + 1 + 1) (.int .i64 k6) (.slice ka6 ki6 kj6) (.int .i64 mn6) (.int .i64 mx6) (.bool lz6) (.int .i64 g6) (.slice kb6 ks6 kt6)))
  obtain ⟨z0, z1, z2, z3, z4, z5, z6⟩ := h7
  simp only [Nat.zero_add] at z0 z1 z2 z3 z4 z5 z6
  generalize (set7 w6 (w.heap.size + 1 + 1) (.int .i64 k6) (.slice ka6 ki6 kj6) (.int .i64 mn6) (.int .i64 mx6) (.bool lz6) (.int .i64 g6) (.slice kb6 ks6 kt6)) = wf at *
  exact bodyPost_ret (v := ndv k6 (.slice ka6 ki6 kj6) mn6 mx6 lz6 g6 (.slice kb6 ks6 kt6)) (by unfold ndv; simp [results, Tryz.results125, go_sem, *]) rfl ⟨_, rfl, HN6.out, HBF.out⟩
end Go.Proofs.YtdoapojmenojoaaGreatDoor
end

section
/- Repeated as often as a node tells: with no end. -/
set_option linter.unusedVariables false
namespace Go.Proofs.YtdoapojmenojoaaGreatDoor
open Go.RowKit
open Sx (Nd)

theorem wp_append_nodes {P : Program} {o : Oper} {a : Act} {K : Act → World → Prop} {Q : Exit → Act → World → Prop} (s x : Operand) (t : TypeId)
    (ho : o.op = .call { callee := .builtin .append, args := #[s, x], argTypes := #[t, t] })
    (base : Nat) (e : TypeId) (ht : P.underlying t = some (.slice e)) (hi : (P.info? e).map (fun i => (i.zero, i.size, i.bytes)) = some (some (ndv 0 (.slice none 0 0) 0 0 false 0 (.slice none 0 0)), 7, 88))
    (S : Nat → Prop) (w : World) (v : Value) (l r : List Nd) (b off c : Nat) (hs : a.eval s = v) (hown : OwnN S w base e v l)
    (hx : a.eval x = .slice (some ⟨b, off, none⟩) r.length c) (hk : KidsS (fun b => S b ∧ b < w.heap.size ∧ v.ownBlock ≠ some b) w (some ⟨b, off, none⟩) 0 r) (hl : l.length + r.length ≤ 1000000) (hbase : base ≤ w.heap.size)
    (h : ∀ v' w', OwnN S w' base e v' (l ++ r) → w.grownBy w' v.ownBlock → K (a.put o.dst v') w') : Oper.wp P o a w K Q := by
  obtain ⟨i0, hi, hz0, hz1, hz2⟩ := info_parts hi
  obtain ⟨news, hnl, hnc, hn1, hnk⟩ := kidsS_news hk
  obtain ⟨xs, hox, hn⟩ := hown
  refine wp_append_new w s x t ho base e i0 _ 7 88 ht hi hz0 hz1 hz2 rfl (by decide) v l.length xs hs hox ⟨b, off, none⟩ r.length c news hx hnl (fun j u hj => ?_) hn1 (by unfold maxLen; omega) (by omega) hbase ?_
  · rw [Addr.add_defn]
    have := hnc j u hj
    simpa using this
  · intro v' w' hown' hg hf
    refine h v' w' (OwnN.moreL ⟨xs, hox, hn⟩ hnl hnk (fun xs' hxs' => ?_) hg hf) hg
    obtain rfl : xs' = xs := by
      rcases hxs'.2 with ⟨e1, e2⟩ | ⟨g, cap, cur, e1, _, e3, _, _, _, e4⟩
      · rcases hox.2 with ⟨_, e5⟩ | ⟨g2, cap2, cur2, f1, _⟩
        · have h1 := hxs'.1; have h2 := hox.1
          rw [e2] at h1 h2
          exact (List.eq_nil_of_length_eq_zero (l := xs') (by simpa using h1)).trans (List.eq_nil_of_length_eq_zero (l := xs) (by simpa using h2)).symm
        · rw [e1] at f1; cases f1
      · rcases hox.2 with ⟨f1, _⟩ | ⟨g2, cap2, cur2, f1, _, f3, _, _, _, f4⟩
        · rw [e1] at f1; cases f1
        · rw [e1] at f1; cases f1
          rw [e3] at f3; cases f3
          rw [← e4, ← f4]
    exact hown'
theorem step_nodes {P : Program} {ops : Array Oper} {o : Oper} {a : Act} {K : Act → World → Prop} {Q : Exit → Act → World → Prop} {E : Prop} (hgd : o.guard = none) (s x : Operand) (t : TypeId)
    (ho : o.op = .call { callee := .builtin .append, args := #[s, x], argTypes := #[t, t] })
    (base : Nat) (e : TypeId) (ht : P.underlying t = some (.slice e)) (hi : (P.info? e).map (fun i => (i.zero, i.size, i.bytes)) = some (some (ndv 0 (.slice none 0 0) 0 0 false 0 (.slice none 0 0)), 7, 88))
    (S : Nat → Prop) (w : World) (v : Value) (l : List Nd) (n : Nd) (b off c : Nat) (hs : a.eval s = v) (hown : OwnN S w base e v l)
    (hx : a.eval x = .slice (some ⟨b, off, none⟩) 1 c) (hk : KidsS (fun b => S b ∧ b < w.heap.size ∧ v.ownBlock ≠ some b) w (some ⟨b, off, none⟩) 0 [n]) (hl : l.length + 1 ≤ 1000000) (hbase : base ≤ w.heap.size)
    (h : ∀ v' w', OwnN S w' base e v' (l ++ [n]) → w.grownBy w' v.ownBlock → K (a.put o.dst v') w') : if Region.wanted o (yielded ops a.tmps) = true then Oper.wp P o a w K Q else E := by
  have hw : Region.wanted o (yielded ops a.tmps) = true := by simp [Region.wanted, hgd]
  rw [if_pos hw]
  exact wp_append_nodes s x t ho base e ht hi S w v l [n] b off c hs hown hx hk hl hbase h
structure RS5 (w0 : World) (kN : Int) (kaN : Option Addr) (kiN kjN : Nat) (mnN mxN : Int) (lzN : Bool) (gN : Int) (kbN : Option Addr) (ksN ktN : Nat) (k : Int) (ka : Option Addr) (ki kj : Nat) (mn mx : Int) (lz : Bool) (g : Int) (kb : Option Addr) (ks kt : Nat) (B : Nat) (k5 : Int) (ka5 : Option Addr) (ki5 kj5 : Nat) (mn5 mx5 : Int) (lz5 : Bool) (g5 : Int) (kb5 : Option Addr) (ks5 kt5 : Nat) (w : World) : Prop where
  rs : RS w0 kN kaN kiN kjN mnN mxN lzN gN kbN ksN ktN k ka ki kj mn mx lz g kb ks kt w
  bp : BoxN w B k5 (.slice ka5 ki5 kj5) mn5 mx5 lz5 g5 (.slice kb5 ks5 kt5)
  lo : w0.heap.size + 3 ≤ B
theorem RS5.on {w0 : World} {kN : Int} {kaN : Option Addr} {kiN kjN : Nat} {mnN mxN : Int} {lzN : Bool} {gN : Int} {kbN : Option Addr} {ksN ktN : Nat} {k : Int} {ka : Option Addr} {ki kj : Nat} {mn mx : Int} {lz : Bool} {g : Int} {kb : Option Addr} {ks kt : Nat} {B : Nat} {k5 : Int} {ka5 : Option Addr} {ki5 kj5 : Nat} {mn5 mx5 : Int} {lz5 : Bool} {g5 : Int} {kb5 : Option Addr} {ks5 kt5 : Nat} {w w' : World} (h : RS5 w0 kN kaN kiN kjN mnN mxN lzN gN kbN ksN ktN k ka ki kj mn mx lz g kb ks kt B k5 ka5 ki5 kj5 mn5 mx5 lz5 g5 kb5 ks5 kt5 w) (hb : Below w.heap.size w w') : RS5 w0 kN kaN kiN kjN mnN mxN lzN gN kbN ksN ktN k ka ki kj mn mx lz g kb ks kt B k5 ka5 ki5 kj5 mn5 mx5 lz5 g5 kb5 ks5 kt5 w' := ⟨h.rs.on hb, h.bp.below hb, h.lo⟩
theorem RS5.drw {w0 : World} {kN : Int} {kaN : Option Addr} {kiN kjN : Nat} {mnN mxN : Int} {lzN : Bool} {gN : Int} {kbN : Option Addr} {ksN ktN : Nat} {k : Int} {ka : Option Addr} {ki kj : Nat} {mn mx : Int} {lz : Bool} {g : Int} {kb : Option Addr} {ks kt : Nat} {B : Nat} {k5 : Int} {ka5 : Option Addr} {ki5 kj5 : Nat} {mn5 mx5 : Int} {lz5 : Bool} {g5 : Int} {kb5 : Option Addr} {ks5 kt5 : Nat} {w : World} (h : RS5 w0 kN kaN kiN kjN mnN mxN lzN gN kbN ksN ktN k ka ki kj mn mx lz g kb ks kt B k5 ka5 ki5 kj5 mn5 mx5 lz5 g5 kb5 ks5 kt5 w) : RS5 w0 kN kaN kiN kjN mnN mxN lzN gN kbN ksN ktN k ka ki kj mn mx lz g kb ks kt B k5 ka5 ki5 kj5 mn5 mx5 lz5 g5 kb5 ks5 kt5 w.drew := h.on (Below.refl _ _).drew
theorem RS5.alc {w0 : World} {kN : Int} {kaN : Option Addr} {kiN kjN : Nat} {mnN mxN : Int} {lzN : Bool} {gN : Int} {kbN : Option Addr} {ksN ktN : Nat} {k : Int} {ka : Option Addr} {ki kj : Nat} {mn mx : Int} {lz : Bool} {g : Int} {kb : Option Addr} {ks kt : Nat} {B : Nat} {k5 : Int} {ka5 : Option Addr} {ki5 kj5 : Nat} {mn5 mx5 : Int} {lz5 : Bool} {g5 : Int} {kb5 : Option Addr} {ks5 kt5 : Nat} {w : World} {ob : Obj} (h : RS5 w0 kN kaN kiN kjN mnN mxN lzN gN kbN ksN ktN k ka ki kj mn mx lz g kb ks kt B k5 ka5 ki5 kj5 mn5 mx5 lz5 g5 kb5 ks5 kt5 w) : RS5 w0 kN kaN kiN kjN mnN mxN lzN gN kbN ksN ktN k ka ki kj mn mx lz g kb ks kt B k5 ka5 ki5 kj5 mn5 mx5 lz5 g5 kb5 ks5 kt5 (w.alloc ob) := h.on (below_new _ _)
theorem RS5.grown {w0 : World} {kN : Int} {kaN : Option Addr} {kiN kjN : Nat} {mnN mxN : Int} {lzN : Bool} {gN : Int} {kbN : Option Addr} {ksN ktN : Nat} {k : Int} {ka : Option Addr} {ki kj : Nat} {mn mx : Int} {lz : Bool} {g : Int} {kb : Option Addr} {ks kt : Nat} {B : Nat} {k5 : Int} {ka5 : Option Addr} {ki5 kj5 : Nat} {mn5 mx5 : Int} {lz5 : Bool} {g5 : Int} {kb5 : Option Addr} {ks5 kt5 : Nat} {w w' : World} {S : Nat → Prop} {base : Nat} {ty : TypeId} {v : Value} {l : List Nd} (h : RS5 w0 kN kaN kiN kjN mnN mxN lzN gN kbN ksN ktN k ka ki kj mn mx lz g kb ks kt B k5 ka5 ki5 kj5 mn5 mx5 lz5 g5 kb5 ks5 kt5 w) (ho : OwnN S w base ty v l) (hB : B + 1 ≤ base) (hg : w.grownBy w' v.ownBlock) : RS5 w0 kN kaN kiN kjN mnN mxN lzN gN kbN ksN ktN k ka ki kj mn mx lz g kb ks kt B k5 ka5 ki5 kj5 mn5 mx5 lz5 g5 kb5 ks5 kt5 w' :=
  ⟨h.rs.grown ho (by have := h.lo; omega) hg, h.bp.block (own_kept_block ho hg h.bp.lt (by omega)), h.lo⟩
theorem RS5.set {w0 : World} {kN : Int} {kaN : Option Addr} {kiN kjN : Nat} {mnN mxN : Int} {lzN : Bool} {gN : Int} {kbN : Option Addr} {ksN ktN : Nat} {k : Int} {ka : Option Addr} {ki kj : Nat} {mn mx : Int} {lz : Bool} {g : Int} {kb : Option Addr} {ks kt : Nat} {B : Nat} {k5 : Int} {ka5 : Option Addr} {ki5 kj5 : Nat} {mn5 mx5 : Int} {lz5 : Bool} {g5 : Int} {kb5 : Option Addr} {ks5 kt5 : Nat} {w : World} (h : RS5 w0 kN kaN kiN kjN mnN mxN lzN gN kbN ksN ktN k ka ki kj mn mx lz g kb ks kt B k5 ka5 ki5 kj5 mn5 mx5 lz5 g5 kb5 ks5 kt5 w) (o : Nat) (v : Value) : RS5 w0 kN kaN kiN kjN mnN mxN lzN gN kbN ksN ktN k ka ki kj mn mx lz g kb ks kt B k5 ka5 ki5 kj5 mn5 mx5 lz5 g5 kb5 ks5 kt5 (w.setCell ⟨w0.heap.size + 1 + 1, o, none⟩ v) :=
  ⟨h.rs.set o v, h.bp.block (Below.heap_setCell w _ _ _ (by have := h.lo; simp; omega)), h.lo⟩
abbrev RC5 (w0 : World) (kN : Int) (kaN : Option Addr) (kiN kjN : Nat) (mnN mxN : Int) (lzN : Bool) (gN : Int) (kbN : Option Addr) (ksN ktN : Nat) (k : Int) (ka : Option Addr) (ki kj : Nat) (mn mx : Int) (lz : Bool) (g : Int) (kb : Option Addr) (ks kt : Nat) (B : Nat) (k5 : Int) (ka5 : Option Addr) (ki5 kj5 : Nat) (mn5 mx5 : Int) (lz5 : Bool) (g5 : Int) (kb5 : Option Addr) (ks5 kt5 : Nat) (w : World) : Prop :=
  w.cell? ⟨w0.heap.size, 2, none⟩ = some (.int .i64 mnN) ∧
  w.cell? ⟨w0.heap.size + 1, 0, none⟩ = some (.int .i64 k) ∧ w.cell? ⟨w0.heap.size + 1, 1, none⟩ = some (.slice ka ki kj) ∧ w.cell? ⟨w0.heap.size + 1, 2, none⟩ = some (.int .i64 mn) ∧ w.cell? ⟨w0.heap.size + 1, 3, none⟩ = some (.int .i64 mx) ∧ w.cell? ⟨w0.heap.size + 1, 4, none⟩ = some (.bool lz) ∧ w.cell? ⟨w0.heap.size + 1, 5, none⟩ = some (.int .i64 g) ∧ w.cell? ⟨w0.heap.size + 1, 6, none⟩ = some (.slice kb ks kt) ∧
  w.cell? ⟨B, 0, none⟩ = some (.int .i64 k5) ∧ w.cell? ⟨B, 1, none⟩ = some (.slice ka5 ki5 kj5) ∧ w.cell? ⟨B, 2, none⟩ = some (.int .i64 mn5) ∧ w.cell? ⟨B, 3, none⟩ = some (.int .i64 mx5) ∧ w.cell? ⟨B, 4, none⟩ = some (.bool lz5) ∧ w.cell? ⟨B, 5, none⟩ = some (.int .i64 g5) ∧ w.cell? ⟨B, 6, none⟩ = some (.slice kb5 ks5 kt5) ∧ RS5 w0 kN kaN kiN kjN mnN mxN lzN gN kbN ksN ktN k ka ki kj mn mx lz g kb ks kt B k5 ka5 ki5 kj5 mn5 mx5 lz5 g5 kb5 ks5 kt5 w
theorem RS5.all {w0 : World} {kN : Int} {kaN : Option Addr} {kiN kjN : Nat} {mnN mxN : Int} {lzN : Bool} {gN : Int} {kbN : Option Addr} {ksN ktN : Nat} {k : Int} {ka : Option Addr} {ki kj : Nat} {mn mx : Int} {lz : Bool} {g : Int} {kb : Option Addr} {ks kt : Nat} {B : Nat} {k5 : Int} {ka5 : Option Addr} {ki5 kj5 : Nat} {mn5 mx5 : Int} {lz5 : Bool} {g5 : Int} {kb5 : Option Addr} {ks5 kt5 : Nat} {w : World} (h : RS5 w0 kN kaN kiN kjN mnN mxN lzN gN kbN ksN ktN k ka ki kj mn mx lz g kb ks kt B k5 ka5 ki5 kj5 mn5 mx5 lz5 g5 kb5 ks5 kt5 w) : RC5 w0 kN kaN kiN kjN mnN mxN lzN gN kbN ksN ktN k ka ki kj mn mx lz g kb ks kt B k5 ka5 ki5 kj5 mn5 mx5 lz5 g5 kb5 ks5 kt5 w := by
  obtain ⟨a0, a1, a2, a3, a4, a5, a6, _⟩ := h.rs.bn.cells
  obtain ⟨b0, b1, b2, b3, b4, b5, b6, _⟩ := h.rs.bk.cells
  obtain ⟨c0, c1, c2, c3, c4, c5, c6, _⟩ := h.bp.cells
  exact ⟨a2, b0, b1, b2, b3, b4, b5, b6, c0, c1, c2, c3, c4, c5, c6, h⟩
theorem star_node {S : Nat → Prop} {w0 wB w3 : World} {B : Nat} {ty : TypeId} {v : Value} {l : List Nd} {k mn mx g : Int} {vc vl : Value} {lz : Bool} {n : Nd} (ho : OwnN (T3 S w0) w3 (B + 1) ty v l) (hn : NodeS (fun b => T3 S w0 b ∧ b < wB.heap.size) wB k vc mn mx lz g vl n) (hb : Below wB.heap.size wB w3) (hB : wB.heap.size = B + 1) :
    NodeS (fun b => T3 S w0 b ∧ b < w3.heap.size ∧ v.ownBlock ≠ some b) w3 k vc mn mx lz g vl n :=
  hn.mono (fun b h => ⟨⟨h.1, Nat.lt_of_lt_of_le h.2 hb.size, own_ne ho (by omega)⟩, hb.block b h.2⟩)
theorem star_kids {S : Nat → Prop} {w0 wB wC w3 : World} {B : Nat} {ty : TypeId} {v : Value} {l : List Nd} {k mn mx g : Int} {vc vl : Value} {lz : Bool} {n : Nd} (ho4 : OwnN (T3 S w0) w3 (wB.heap.size + 1) ty v l) (ho : OwnN (T3 S w0) w3 (B + 1) ty v l) (hn : NodeS (fun b => T3 S w0 b ∧ b < wB.heap.size) wB k vc mn mx lz g vl n) (hb : Below wB.heap.size wB w3) (hb3 : Below wC.heap.size wC w3) (hB : wB.heap.size = B + 1) (hx : BoxN wC wB.heap.size k vc mn mx lz g vl) (hlo : w0.heap.size + 3 ≤ wB.heap.size) :
    KidsS (fun b => T3 S w0 b ∧ b < w3.heap.size ∧ v.ownBlock ≠ some b) w3 (some ⟨wB.heap.size, 0, none⟩) 0 [n] :=
  kidsS_one (hx.below hb3).seven ⟨.inr hlo, (hx.below hb3).lt, own_ne ho4 (by omega)⟩ (star_node ho hn hb hB)
set_option maxRecDepth 20000 in
set_option maxHeartbeats 4000000 in
theorem repeat_star (a : Nat) (ha : 2 ≤ a) (hc : a ≤ 20) (kN : Int) (kaN : Option Addr) (kiN kjN : Nat) (lzN : Bool) (gN : Int) (kbN : Option Addr) (ksN ktN : Nat) (k : Int) (ka : Option Addr) (ki kj : Nat) (mn mx : Int) (lz : Bool) (g : Int) (kb : Option Addr) (ks kt : Nat) (n : Nd) (S : Nat → Prop) (w : World) (hk : NodeS S w k (.slice ka ki kj) mn mx lz g (.slice kb ks kt) n) (hS0 : ∀ b, S b → b < w.heap.size) (hn : nsz n ≤ 400) :
    Calls Tryz.prog 125 #[ndv kN (.slice kaN kiN kjN) (a : Int) (-1) lzN gN (.slice kbN ksN ktN), ndv k (.slice ka ki kj) mn mx lz g (.slice kb ks kt)] w fun e w' => ∃ u, e = .returned u ∧ NodeVS (Joined S w w') w' u (Sx.sequence (List.replicate (a - 1) n ++ [Sx.again 1 (-1) lzN n])) ∧ Below w.heap.size w w' := by
  have hst : Sx.stay (a : Int) (-1) = false := by unfold Sx.stay; rw [if_pos rfl, decide_eq_false_iff_not]; omega
  have hsub : IntKind.i64.wrap ((a : Int) - 1) = ((a - 1 : Nat) : Int) := by rw [IntWalk.i64_in _ ⟨by omega, by omega⟩]; omega
  have HR := Lib.hid (RS.start w kN kaN kiN kjN (a : Int) (-1) lzN gN kbN ksN ktN k ka ki kj mn mx lz g kb ks kt)
  have HK := Lib.hid hk
  have HS0 := Lib.hid hS0
  have HST := Lib.hid hst
  obtain ⟨L, hL⟩ : ∃ L, L = List.replicate (a - 1) n ++ [Sx.again 1 (-1) lzN n] := ⟨_, rfl⟩
  have hLZ : L.length ≤ 600000 ∧ (flatK 6 L).length ≤ 600000 := by
    have h1 := flat6_len L
    have h4 : (a - 1) * nsz n ≤ 20 * 400 := Nat.mul_le_mul (by omega) hn
    have h5 : nszs L = (a - 1) * nsz n + (1 + nsz n) := by rw [hL, nszs_app, Sx.nszs_rep, nszs, nszs, Sx.again, nsz, nszs, nszs]; omega
    have h6 : L.length = a - 1 + 1 := by rw [hL]; simp
    omega
  have HL := Lib.hid hL
  have HLZ := Lib.hid hLZ
  rw [← hL]
  clear hk hS0 hst hL hLZ
  unfold ndv
  go_enter Tryz.func125, Tryz.ntmps125
  go_upto_region 1 with fail
  generalize (((w.alloc (.cells #[.int .i64 kN, .slice kaN kiN kjN, .int .i64 (a : Int), .int .i64 (-1), .bool lzN, .int .i64 gN, .slice kbN ksN ktN] 29)).alloc (.cells #[.int .i64 k, .slice ka ki kj, .int .i64 mn, .int .i64 mx, .bool lz, .int .i64 g, .slice kb ks kt] 29)).alloc (.cells #[.int .i64 0, .slice none 0 0, .int .i64 0, .int .i64 0, .bool false, .int .i64 0, .slice none 0 0] 29)) = w1 at *
  obtain ⟨a0, a1, a2, a3, a4, a5, a6, _⟩ := HR.out.bn.cells
  have HC := Lib.hid (stays_any kN (.slice kaN kiN kjN) (.slice kbN ksN ktN) (a : Int) (-1) gN lzN w1 ⟨_, _, _, _, _, _, rfl, rfl⟩)
  rw [HST.out] at HC
  unfold ndv at HC
  go_wp2_with fail
  with_reducible refine HC.out.mono ?_
  rintro e w2 ⟨rfl, hb2⟩
  have HR2 := Lib.hid (HR.out.on hb2)
  clear HC HR hb2 a0 a1 a2 a3 a4 a5 a6
  obtain ⟨a0, a1, a2, a3, a4, a5, a6, _⟩ := HR2.out.bn.cells
  obtain ⟨b0, b1, b2, b3, b4, b5, b6, _⟩ := HR2.out.bk.cells
  go_wp2_with fail
  clear a0 a1 a2 a3 a4 a5 a6 b0 b1 b2 b3 b4 b5 b6
  have HC := Lib.hid (again_any 1 (-1) lzN k ka ki kj mn mx lz g kb ks kt n S w2 (HK.out.mono (fun b hb => ⟨hb, HR2.out.bel.block b (HS0.out b hb)⟩)) (fun b hb => Nat.lt_of_lt_of_le (HS0.out b hb) HR2.out.bel.size) ⟨by decide, by decide⟩ ⟨by decide, by decide⟩)
  unfold ndv at HC
  with_reducible refine HC.out.mono ?_
  rintro e w3 ⟨u5, rfl, hu5, hb3⟩
  obtain ⟨k5, ka5, ki5, kj5, mn5, mx5, lz5, g5, kb5, ks5, kt5, rfl, hn5⟩ := nodeVS_open hu5
  unfold ndv
  have hrs3 := HR2.out.on hb3
  go_upto_region 5 with fail
  have hBs : (w3.alloc (.cells #[.int .i64 k5, .slice ka5 ki5 kj5, .int .i64 mn5, .int .i64 mx5, .bool lz5, .int .i64 g5, .slice kb5 ks5 kt5] 29)).heap.size = w3.heap.size + 1 := by simp
  have h5 : RS5 w kN kaN kiN kjN (a : Int) (-1) lzN gN kbN ksN ktN k ka ki kj mn mx lz g kb ks kt w3.heap.size k5 ka5 ki5 kj5 mn5 mx5 lz5 g5 kb5 ks5 kt5 (w3.alloc (.cells #[.int .i64 k5, .slice ka5 ki5 kj5, .int .i64 mn5, .int .i64 mx5, .bool lz5, .int .i64 g5, .slice kb5 ks5 kt5] 29)) := ⟨hrs3.alc, BoxN.new w3 k5 (.slice ka5 ki5 kj5) mn5 mx5 lz5 g5 (.slice kb5 ks5 kt5), hrs3.sz⟩
  have hp5 : NodeS (fun b => T3 S w b ∧ b < (w3.alloc (.cells #[.int .i64 k5, .slice ka5 ki5 kj5, .int .i64 mn5, .int .i64 mx5, .bool lz5, .int .i64 g5, .slice kb5 ks5 kt5] 29)).heap.size) (w3.alloc (.cells #[.int .i64 k5, .slice ka5 ki5 kj5, .int .i64 mn5, .int .i64 mx5, .bool lz5, .int .i64 g5, .slice kb5 ks5 kt5] 29)) k5 (.slice ka5 ki5 kj5) mn5 mx5 lz5 g5 (.slice kb5 ks5 kt5) (Sx.again 1 (-1) lzN n) := hn5.mono (fun b hb => by
    have hz2 := HR2.out.sz
    have hlt : b < w3.heap.size := by
      rcases hb with hb | hb
      · have := HS0.out b hb; have := hrs3.sz; omega
      · exact hb.2
    refine ⟨⟨?_, by omega⟩, (below_new w3 _).block b hlt⟩
    rcases hb with hb | hb
    · exact .inl hb
    · exact .inr (by have := hb.1; omega))
  generalize (w3.alloc (.cells #[.int .i64 k5, .slice ka5 ki5 kj5, .int .i64 mn5, .int .i64 mx5, .bool lz5, .int .i64 g5, .slice kb5 ks5 kt5] 29)) = wB at *
  generalize w3.heap.size = B at *
  have hr2 := h5.drw
  have HP5 := Lib.hid hp5
  have HBS := Lib.hid hBs
  have HDR := Lib.hid (show Below wB.heap.size wB wB.drew from (Below.refl _ _).drew)
  have HM := Lib.hid (HK.out.mono (S' := S) (w' := wB.drew) (fun b hb => ⟨hb, hr2.rs.bel.block b (HS0.out b hb)⟩))
  have HSD := Lib.hid (show ∀ b, S b → b < wB.drew.heap.size from fun b hb => Nat.lt_of_lt_of_le (HS0.out b hb) hr2.rs.bel.size)
  have HLO := Lib.hid (show w.heap.size + 3 ≤ wB.drew.heap.size from hr2.rs.sz)
  have HLOb := Lib.hid (show w.heap.size + 3 ≤ wB.heap.size from h5.rs.sz)
  have HBB := Lib.hid (show B + 1 ≤ wB.drew.heap.size from Nat.le_of_eq hBs.symm)
  have hra := (h5.alc (ob := (.cells #[.int .i64 k5, .slice ka5 ki5 kj5, .int .i64 mn5, .int .i64 mx5, .bool lz5, .int .i64 g5, .slice kb5 ks5 kt5] 29))).drw
  have HMa := Lib.hid (HK.out.mono (S' := S) (w' := (wB.alloc (.cells #[.int .i64 k5, .slice ka5 ki5 kj5, .int .i64 mn5, .int .i64 mx5, .bool lz5, .int .i64 g5, .slice kb5 ks5 kt5] 29)).drew) (fun b hb => ⟨hb, hra.rs.bel.block b (HS0.out b hb)⟩))
  have HSDa := Lib.hid (show ∀ b, S b → b < (wB.alloc (.cells #[.int .i64 k5, .slice ka5 ki5 kj5, .int .i64 mn5, .int .i64 mx5, .bool lz5, .int .i64 g5, .slice kb5 ks5 kt5] 29)).drew.heap.size from fun b hb => Nat.lt_of_lt_of_le (HS0.out b hb) hra.rs.bel.size)
  have HLOa := Lib.hid (show w.heap.size + 3 ≤ (wB.alloc (.cells #[.int .i64 k5, .slice ka5 ki5 kj5, .int .i64 mn5, .int .i64 mx5, .bool lz5, .int .i64 g5, .slice kb5 ks5 kt5] 29)).drew.heap.size from hra.rs.sz)
  have hea : (wB.alloc (.cells #[.int .i64 k5, .slice ka5 ki5 kj5, .int .i64 mn5, .int .i64 mx5, .bool lz5, .int .i64 g5, .slice kb5 ks5 kt5] 29)).drew.heap.size = wB.heap.size + 1 := by simp
  have HBBa := Lib.hid (show B + 1 ≤ (wB.alloc (.cells #[.int .i64 k5, .slice ka5 ki5 kj5, .int .i64 mn5, .int .i64 mx5, .bool lz5, .int .i64 g5, .slice kb5 ks5 kt5] 29)).drew.heap.size from by rw [hea]; omega)
  have HBCa := Lib.hid (show wB.heap.size + 1 ≤ (wB.alloc (.cells #[.int .i64 k5, .slice ka5 ki5 kj5, .int .i64 mn5, .int .i64 mx5, .bool lz5, .int .i64 g5, .slice kb5 ks5 kt5] 29)).drew.heap.size from by rw [hea]; exact Nat.le_refl _)
  have HDRa := Lib.hid (show Below wB.heap.size wB (wB.alloc (.cells #[.int .i64 k5, .slice ka5 ki5 kj5, .int .i64 mn5, .int .i64 mx5, .bool lz5, .int .i64 g5, .slice kb5 ks5 kt5] 29)).drew from (below_new wB _).trans ((Below.refl _ _).drew))
  have HBXa := Lib.hid (show BoxN (wB.alloc (.cells #[.int .i64 k5, .slice ka5 ki5 kj5, .int .i64 mn5, .int .i64 mx5, .bool lz5, .int .i64 g5, .slice kb5 ks5 kt5] 29)).drew wB.heap.size k5 (.slice ka5 ki5 kj5) mn5 mx5 lz5 g5 (.slice kb5 ks5 kt5) from BoxN.new wB k5 (.slice ka5 ki5 kj5) mn5 mx5 lz5 g5 (.slice kb5 ks5 kt5))
  clear hp5 hra hea hBs hn5 hu5 hb3 HC hrs3 HR2
  go_region_held3 (fun w' => w'.cell? ⟨w.heap.size, 2, none⟩ = some (.int .i64 (a : Int)) ∧ w'.cell? ⟨w.heap.size + 1, 0, none⟩ = some (.int .i64 k) ∧ w'.cell? ⟨w.heap.size + 1, 1, none⟩ = some (.slice ka ki kj) ∧ w'.cell? ⟨w.heap.size + 1, 2, none⟩ = some (.int .i64 mn) ∧ w'.cell? ⟨w.heap.size + 1, 3, none⟩ = some (.int .i64 mx) ∧ w'.cell? ⟨w.heap.size + 1, 4, none⟩ = some (.bool lz) ∧ w'.cell? ⟨w.heap.size + 1, 5, none⟩ = some (.int .i64 g) ∧ w'.cell? ⟨w.heap.size + 1, 6, none⟩ = some (.slice kb ks kt) ∧ w'.cell? ⟨B, 0, none⟩ = some (.int .i64 k5) ∧ w'.cell? ⟨B, 1, none⟩ = some (.slice ka5 ki5 kj5) ∧ w'.cell? ⟨B, 2, none⟩ = some (.int .i64 mn5) ∧ w'.cell? ⟨B, 3, none⟩ = some (.int .i64 mx5) ∧ w'.cell? ⟨B, 4, none⟩ = some (.bool lz5) ∧ w'.cell? ⟨B, 5, none⟩ = some (.int .i64 g5) ∧ w'.cell? ⟨B, 6, none⟩ = some (.slice kb5 ks5 kt5) ∧ RS5 w kN kaN kiN kjN (a : Int) (-1) lzN gN kbN ksN ktN k ka ki kj mn mx lz g kb ks kt B k5 ka5 ki5 kj5 mn5 mx5 lz5 g5 kb5 ks5 kt5 w') (first | (refine RS5.all ?_; with_reducible assumption) | (refine RS5.all ?_; with_reducible refine RS5.set ?_ _ _; with_reducible refine RS5.set ?_ _ _; with_reducible refine RS5.set ?_ _ _; with_reducible refine RS5.set ?_ _ _; with_reducible refine RS5.set ?_ _ _; with_reducible refine RS5.set ?_ _ _; with_reducible refine RS5.set ?_ _ _; with_reducible assumption) | (refine RS5.all ?_; with_reducible refine RS5.drw ?_; with_reducible assumption) | (refine RS5.all ?_; with_reducible refine RS5.alc ?_; with_reducible assumption) | (refine RS5.all ?_; with_reducible refine RS5.drw ?_; with_reducible refine RS5.alc ?_; with_reducible assumption)) ((first | (go_at_call 148; have hc9 := stimes_any (a - 1) (by omega) k ka ki kj mn mx lz g kb ks kt n S _ HM.out HSD.out; unfold ndv at hc9; with_reducible refine hc9.mono ?_; clear hc9; rintro e w3 ⟨v3, rfl, ho3, hb3⟩; have hR3 := RS5.on hr2 hb3; have HO3 := Lib.hid (ho3.base (base' := w.heap.size + 3) (S' := T3 S w) HLO.out (fun b hb => Or.inl hb)); have HG3 := Lib.hid (ho3.base (base' := B + 1) (S' := T3 S w) HBB.out (fun b hb => Or.inl hb)); have HN3 := Lib.hid (star_node HG3.out HP5.out (bvia HDR.out hb3) HBS.out); obtain ⟨p3, c3, hv3⟩ := own_slice ho3; rw [List.length_replicate] at hv3; subst hv3; clear ho3 hb3) | (go_at_call 148; have hc9 := stimes_any (a - 1) (by omega) k ka ki kj mn mx lz g kb ks kt n S _ HMa.out HSDa.out; unfold ndv at hc9; with_reducible refine hc9.mono ?_; clear hc9; rintro e w3 ⟨v3, rfl, ho3, hb3⟩; have hR3 := RS5.on (RS5.drw (RS5.alc h5)) hb3; have HO3 := Lib.hid (ho3.base (base' := w.heap.size + 3) (S' := T3 S w) HLOa.out (fun b hb => Or.inl hb)); have HG3 := Lib.hid (ho3.base (base' := B + 1) (S' := T3 S w) HBBa.out (fun b hb => Or.inl hb)); have HG4 := Lib.hid (ho3.base (base' := wB.heap.size + 1) (S' := T3 S w) HBCa.out (fun b hb => Or.inl hb)); have HQ3 := Lib.hid (star_kids HG4.out HG3.out HP5.out (bvia HDRa.out hb3) hb3 HBS.out HBXa.out HLOb.out); obtain ⟨p3, c3, hv3⟩ := own_slice ho3; rw [List.length_replicate] at hv3; subst hv3; clear ho3 hb3) | (refine step_node (by rfl) _ _ 27 (by rfl) (w.heap.size + 3) 29 Tryz.underlying27 Tryz.infoSN (T3 S w) w3 (.slice p3 (a - 1) c3) (List.replicate (a - 1) n) k5 ka5 ki5 kj5 mn5 mx5 lz5 g5 kb5 ks5 kt5 (Sx.again 1 (-1) lzN n) (by rfl) (by exact HO3.out) (by rfl) (by exact HN3.out) (by rw [List.length_replicate]; omega) (by exact hR3.rs.sz) ?_; intro v5 w5 ho5 hg5; have hR5 := RS5.grown hR3 HG3.out (Nat.le_refl _) hg5; have HQ := Lib.hid (rep_seq HL.out HLZ.out ho5); obtain ⟨p5, N5, c5, rfl, hq5⟩ := HQ.out; have HC5 := Lib.hid hq5; clear hq5 ho5 hg5 HQ) | (refine step_nodes (by rfl) _ _ 27 (by rfl) (w.heap.size + 3) 29 Tryz.underlying27 Tryz.infoSN (T3 S w) w3 (.slice p3 (a - 1) c3) (List.replicate (a - 1) n) (Sx.again 1 (-1) lzN n) wB.heap.size 0 1 (by rfl) (by exact HO3.out) (by rfl) (by exact HQ3.out) (by rw [List.length_replicate]; omega) (by exact hR3.rs.sz) ?_; intro v5 w5 ho5 hg5; have hR5 := RS5.grown hR3 HG3.out (Nat.le_refl _) hg5; have HQ := Lib.hid (rep_seq HL.out HLZ.out ho5); obtain ⟨p5, N5, c5, rfl, hq5⟩ := HQ.out; have HC5 := Lib.hid hq5; clear hq5 ho5 hg5 HQ) | (go_at_call 34; with_reducible refine HC5.out.mono ?_; rintro e w6 ⟨u6, rfl, hu6, hb6⟩; have hR6 := RS5.on hR5 hb6; obtain ⟨k6, ka6, ki6, kj6, mn6, mx6, lz6, g6, kb6, ks6, kt6, rfl, hn6⟩ := node_end HS0.out hR6.rs.bel.size (rep_join hb6.size hu6 hR5.rs.sz); have HN6 := Lib.hid hn6; obtain ⟨y0', y1', y2', y3', y4', y5', y6', y0, y1, y2, y3, y4, y5, y6, yf⟩ := hR6.rs.res; unfold ndv; clear hn6 hb6 hu6) | fail "none"))
  all_goals
    have h7 := set7_seven w6 (w.heap.size + 1 + 1) k6 mn6 mx6 g6 lz6 (.slice ka6 ki6 kj6) (.slice kb6 ks6 kt6) y0 y1 y2 y3 y4 y5 y6
    have HBF := Lib.hid (below_set7 hR6.rs.bel (by omega : w.heap.size ≤ w.heap.size + 1 + 1) (.int .i64 k6) (.slice ka6 ki6 kj6) (.int .i64 mn6) (.int .i64 mx6) (.bool lz6) (.int .i64 g6) (.slice kb6 ks6 kt6))
    go_wp2_with fail
    with_reducible change bodyPost _ _ _ _ _ _
    refine (?_ : bodyPost _ _ _ _ _ (set7 w6 (w.heap.size + 1 + 1) (.int .i64 k6) (.slice ka6 ki6 kj6) (.int .i64 mn6) (.int .i64 mx6) (.bool lz6) (.int .i64 g6) (.slice kb6 ks6 kt6)))
    obtain ⟨z0, z1, z2, z3, z4, z5, z6⟩ := h7
    simp only [Nat.zero_add] at z0 z1 z2 z3 z4 z5 z6
    generalize (set7 w6 (w.heap.size + 1 + 1) (.int .i64 k6) (.slice ka6 ki6 kj6) (.int .i64 mn6) (.int .i64 mx6) (.bool lz6) (.int .i64 g6) (.slice kb6 ks6 kt6)) = wf at *
    exact bodyPost_ret (v := ndv k6 (.slice ka6 ki6 kj6) mn6 mx6 lz6 g6 (.slice kb6 ks6 kt6)) (by unfold ndv; simp [results, Tryz.results125, go_sem, *]) rfl ⟨_, rfl, HN6.out, HBF.out⟩
end Go.Proofs.YtdoapojmenojoaaGreatDoor
end
