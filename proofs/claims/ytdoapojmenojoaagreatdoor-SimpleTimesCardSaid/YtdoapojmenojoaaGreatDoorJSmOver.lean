import Derived.Test.YtdoapojmenojoaaGreatDoorJSmRepM
import Derived.Test.YtdoapojmenojoaaGreatDoorJSmA
import Derived.StillTailTactics
import Derived.Test.YtdoapojmenojoaaGreatDoorJPSize
import Derived.Test.YtdoapojmenojoaaGreatDoorJPRight
import Derived.Laws.MakeOwn
import Derived.Test.YtdoapojmenojoaaGreatDoorJPFlat
set_option linter.unusedSimpArgs false
set_option linter.unusedVariables false
section
/- What a node comes to, of what its kids come to: the program's own. -/
set_option linter.unusedVariables false
namespace Go.Proofs.YtdoapojmenojoaaGreatDoor
open Go.RowKit
open Sx (Nd)

theorem srep_any (kN : Int) (kaN : Option Addr) (kiN kjN : Nat) (mnN mxN : Int) (lzN : Bool) (gN : Int) (kbN : Option Addr) (ksN ktN : Nat) (k : Int) (ka : Option Addr) (ki kj : Nat) (mn mx : Int) (lz : Bool) (g : Int) (kb : Option Addr) (ks kt : Nat) (n : Nd) (S : Nat → Prop) (w : World) (hk : NodeS S w k (.slice ka ki kj) mn mx lz g (.slice kb ks kt) n) (hS0 : ∀ b, S b → b < w.heap.size) (hn : nsz n ≤ 400) (h0 : 0 ≤ mnN) (h1 : mnN ≤ 20) (h2 : mxN = -1 ∨ mnN ≤ mxN ∧ mxN ≤ 20) :
    Calls Tryz.prog 125 #[ndv kN (.slice kaN kiN kjN) mnN mxN lzN gN (.slice kbN ksN ktN), ndv k (.slice ka ki kj) mn mx lz g (.slice kb ks kt)] w fun e w' => ∃ u, e = .returned u ∧ NodeVS (Joined S w w') w' u (Sx.rept mnN mxN lzN n) ∧ Below w.heap.size w w' := by
  unfold Sx.rept
  by_cases hs : Sx.stay mnN mxN = true
  · rw [if_pos hs]
    exact repeat_stay kN kaN kiN kjN mnN mxN lzN gN kbN ksN ktN k ka ki kj mn mx lz g kb ks kt n S w hk hS0 ⟨by omega, by omega⟩ ⟨by omega, by omega⟩ hs
  · rw [if_neg hs]
    have hf : Sx.stay mnN mxN = false := by cases h : Sx.stay mnN mxN with | true => exact absurd h hs | false => rfl
    obtain ⟨a, ha⟩ : ∃ a : Nat, mnN = (a : Int) := ⟨mnN.toNat, by omega⟩
    subst ha
    by_cases hx : mxN = -1
    · subst hx
      rw [if_pos rfl, show ((a : Int) - 1).toNat = a - 1 by omega]
      have h2a : 2 ≤ a := by
        unfold Sx.stay at hf
        rw [if_pos rfl, decide_eq_false_iff_not] at hf; omega
      exact repeat_star a h2a (by omega) kN kaN kiN kjN lzN gN kbN ksN ktN k ka ki kj mn mx lz g kb ks kt n S w hk hS0 hn
    · rw [if_neg hx]
      obtain ⟨c, hc⟩ : ∃ c : Nat, mxN = (c : Int) := ⟨mxN.toNat, by omega⟩
      subst hc
      rw [show ((a : Int)).toNat = a by omega, show ((c : Int) - (a : Int)).toNat = c - a by omega]
      exact repeat_opt a c (by omega) (by omega) kN kaN kiN kjN lzN gN kbN ksN ktN k ka ki kj mn mx lz g kb ks kt n S w hk hS0 hn hf
theorem boxes2 {S : Nat → Prop} (w : World) (kN : Int) (kaN : Option Addr) (kiN kjN : Nat) (mnN mxN : Int) (lzN : Bool) (gN : Int) (kbN : Option Addr) (ksN ktN : Nat) {n : Nd} (hn : NodeS S w kN (.slice kaN kiN kjN) mnN mxN lzN gN (.slice kbN ksN ktN) n) (hS0 : ∀ b, S b → b < w.heap.size) : BoxN ((w.alloc (.cells #[.int .i64 kN, .slice kaN kiN kjN, .int .i64 mnN, .int .i64 mxN, .bool lzN, .int .i64 gN, .slice kbN ksN ktN] 29)).alloc (.cells #[.int .i64 0, .slice none 0 0, .int .i64 0, .int .i64 0, .bool false, .int .i64 0, .slice none 0 0] 29)) w.heap.size kN (.slice kaN kiN kjN) mnN mxN lzN gN (.slice kbN ksN ktN) ∧ BoxN ((w.alloc (.cells #[.int .i64 kN, .slice kaN kiN kjN, .int .i64 mnN, .int .i64 mxN, .bool lzN, .int .i64 gN, .slice kbN ksN ktN] 29)).alloc (.cells #[.int .i64 0, .slice none 0 0, .int .i64 0, .int .i64 0, .bool false, .int .i64 0, .slice none 0 0] 29)) (w.heap.size + 1) 0 (.slice none 0 0) 0 0 false 0 (.slice none 0 0) ∧ Below w.heap.size w ((w.alloc (.cells #[.int .i64 kN, .slice kaN kiN kjN, .int .i64 mnN, .int .i64 mxN, .bool lzN, .int .i64 gN, .slice kbN ksN ktN] 29)).alloc (.cells #[.int .i64 0, .slice none 0 0, .int .i64 0, .int .i64 0, .bool false, .int .i64 0, .slice none 0 0] 29)) ∧ ((w.alloc (.cells #[.int .i64 kN, .slice kaN kiN kjN, .int .i64 mnN, .int .i64 mxN, .bool lzN, .int .i64 gN, .slice kbN ksN ktN] 29)).alloc (.cells #[.int .i64 0, .slice none 0 0, .int .i64 0, .int .i64 0, .bool false, .int .i64 0, .slice none 0 0] 29)).heap.size = w.heap.size + 2 ∧ NodeS S ((w.alloc (.cells #[.int .i64 kN, .slice kaN kiN kjN, .int .i64 mnN, .int .i64 mxN, .bool lzN, .int .i64 gN, .slice kbN ksN ktN] 29)).alloc (.cells #[.int .i64 0, .slice none 0 0, .int .i64 0, .int .i64 0, .bool false, .int .i64 0, .slice none 0 0] 29)) kN (.slice kaN kiN kjN) mnN mxN lzN gN (.slice kbN ksN ktN) n := by
  have b1 := below_new w (.cells #[.int .i64 kN, .slice kaN kiN kjN, .int .i64 mnN, .int .i64 mxN, .bool lzN, .int .i64 gN, .slice kbN ksN ktN] 29)
  have b2 := below_new (w.alloc (.cells #[.int .i64 kN, .slice kaN kiN kjN, .int .i64 mnN, .int .i64 mxN, .bool lzN, .int .i64 gN, .slice kbN ksN ktN] 29)) (.cells #[.int .i64 0, .slice none 0 0, .int .i64 0, .int .i64 0, .bool false, .int .i64 0, .slice none 0 0] 29)
  have hx := (BoxN.new w kN (.slice kaN kiN kjN) mnN mxN lzN gN (.slice kbN ksN ktN)).below b2
  have hz := (seven0_new (w.alloc (.cells #[.int .i64 kN, .slice kaN kiN kjN, .int .i64 mnN, .int .i64 mxN, .bool lzN, .int .i64 gN, .slice kbN ksN ktN] 29))).box
  have he : (w.alloc (.cells #[.int .i64 kN, .slice kaN kiN kjN, .int .i64 mnN, .int .i64 mxN, .bool lzN, .int .i64 gN, .slice kbN ksN ktN] 29)).heap.size = w.heap.size + 1 := by simp
  rw [he] at hz
  exact ⟨hx, hz, bvia b1 b2, by simp, hn.mono (fun b hb => ⟨hb, (bvia b1 b2).block b (hS0 b hb)⟩)⟩
theorem laid_end {S : Nat → Prop} {w0 w : World} {u : Value} {n : Nd} {B : Nat} (hS : ∀ b, S b → b < w0.heap.size) (hz : w0.heap.size ≤ w.heap.size) (h : NodeVS (fun b => (S b ∨ (w0.heap.size ≤ b ∧ b < w.heap.size)) ∧ b ≠ B) w u n) : ∃ k ka ki kj mn mx lz g kb ks kt, u = ndv k (.slice ka ki kj) mn mx lz g (.slice kb ks kt) ∧ Hid (NodeVS (Joined S w0 (set7 w B (.int .i64 k) (.slice ka ki kj) (.int .i64 mn) (.int .i64 mx) (.bool lz) (.int .i64 g) (.slice kb ks kt))) (set7 w B (.int .i64 k) (.slice ka ki kj) (.int .i64 mn) (.int .i64 mx) (.bool lz) (.int .i64 g) (.slice kb ks kt)) (ndv k (.slice ka ki kj) mn mx lz g (.slice kb ks kt)) n) := by
  obtain ⟨k, ka, ki, kj, mn, mx, lz, g, kb, ks, kt, rfl, hn⟩ := nodeVS_open h
  exact ⟨k, ka, ki, kj, mn, mx, lz, g, kb, ks, kt, rfl, Lib.hid (node_laid hS hz hn)⟩
/- a call's result, for the box at B -/
theorem join_end {S : Nat → Prop} {w0 w1 w6 : World} {u : Value} {n : Nd} {B : Nat} (hS : ∀ b, S b → b < w0.heap.size) (h1 : w0.heap.size ≤ w1.heap.size) (hB : w0.heap.size ≤ B ∧ B < w1.heap.size) (h : NodeVS (Joined S w1 w6) w6 u n) : NodeVS (fun b => (S b ∨ (w0.heap.size ≤ b ∧ b < w6.heap.size)) ∧ b ≠ B) w6 u n :=
  h.mono (fun b hb => ⟨by
    rcases hb with hb | hb
    · exact ⟨.inl hb, by have := hS b hb; omega⟩
    · exact ⟨.inr ⟨by have := hb.1; omega, hb.2⟩, by have := hb.1; omega⟩, rfl⟩)
set_option maxRecDepth 20000 in
set_option maxHeartbeats 4000000 in
theorem over_six (kN : Int) (kaN : Option Addr) (kiN kjN : Nat) (mnN mxN : Int) (lzN : Bool) (gN : Int) (kbN : Option Addr) (ksN ktN : Nat) {n : Nd} (ks : List Nd) (q : Option Addr) (cap : Nat) (S : Nat → Prop) (w : World) (hn : NodeS S w kN (.slice kaN kiN kjN) mnN mxN lzN gN (.slice kbN ksN ktN) n) (hks : KidsS S w q 0 ks) (hS0 : ∀ b, S b → b < w.heap.size) (h6 : kN = 6) (hl : ks.length ≤ 600000) (hfl : (flatK 6 ks).length ≤ 600000) :
    Calls Tryz.prog 96 #[ndv kN (.slice kaN kiN kjN) mnN mxN lzN gN (.slice kbN ksN ktN), .slice q ks.length cap] w fun e w' => ∃ u, e = .returned u ∧ NodeVS (Joined S w w') w' u (Sx.sequence ks) ∧ Below w.heap.size w w' := by
  subst h6
  obtain ⟨hx, hz, hb, hs, hnw⟩ := boxes2 w 6 kaN kiN kjN mnN mxN lzN gN kbN ksN ktN hn hS0
  have hkw := hks.mono (S' := S) (w' := (w.alloc (.cells #[.int .i64 6, .slice kaN kiN kjN, .int .i64 mnN, .int .i64 mxN, .bool lzN, .int .i64 gN, .slice kbN ksN ktN] 29)).alloc (.cells #[.int .i64 0, .slice none 0 0, .int .i64 0, .int .i64 0, .bool false, .int .i64 0, .slice none 0 0] 29)) (fun b h => ⟨h, hb.block b (hS0 b h)⟩)
  have HX := Lib.hid hx
  have HZ := Lib.hid hz
  have HB := Lib.hid hb
  have HSZ := Lib.hid hs
  have HN := Lib.hid hnw
  have HKS := Lib.hid hkw
  have HS0 := Lib.hid hS0
  clear hx hz hb hs hnw hkw hn hks hS0
  unfold ndv
  go_enter Tryz.func96, Tryz.ntmps96
  go_upto_region 1 with fail
  generalize ((w.alloc (.cells #[.int .i64 6, .slice kaN kiN kjN, .int .i64 mnN, .int .i64 mxN, .bool lzN, .int .i64 gN, .slice kbN ksN ktN] 29)).alloc (.cells #[.int .i64 0, .slice none 0 0, .int .i64 0, .int .i64 0, .bool false, .int .i64 0, .slice none 0 0] 29)) = w1 at *
  have HS1 := Lib.hid (show ∀ b, S b → b < w1.heap.size from fun b hb => by have := HS0.out b hb; have := HSZ.out; omega)
  obtain ⟨a0, a1, a2, a3, a4, a5, a6, af⟩ := HX.out.cells
  go_wp2_with fail
  with_reducible refine (sseq_any ks q cap S w1 HKS.out HS1.out hl hfl).mono ?_
  rintro e w6 ⟨u6, rfl, hu6, hb6⟩
  have hbw := bvia HB.out hb6
  have hsz := HSZ.out
  obtain ⟨k6, ka6, ki6, kj6, mn6, mx6, lz6, g6, kb6, ks6, kt6, rfl, HN6⟩ := laid_end (B := w.heap.size + 1) HS0.out hbw.size (join_end HS0.out (by omega) ⟨by omega, by omega⟩ hu6)
  obtain ⟨y0, y1, y2, y3, y4, y5, y6, yf⟩ := (HZ.out.below hb6).cells
  unfold ndv
  have h7 := set7_seven w6 (w.heap.size + 1) k6 mn6 mx6 g6 lz6 (.slice ka6 ki6 kj6) (.slice kb6 ks6 kt6) y0 y1 y2 y3 y4 y5 y6
  have HBF := Lib.hid (below_set7 hbw (by omega : w.heap.size ≤ w.heap.size + 1) (.int .i64 k6) (.slice ka6 ki6 kj6) (.int .i64 mn6) (.int .i64 mx6) (.bool lz6) (.int .i64 g6) (.slice kb6 ks6 kt6))
  go_wp2_with fail
  with_reducible change bodyPost _ _ _ _ _ _
  refine (?_ : bodyPost _ _ _ _ _ (set7 w6 (w.heap.size + 1) (.int .i64 k6) (.slice ka6 ki6 kj6) (.int .i64 mn6) (.int .i64 mx6) (.bool lz6) (.int .i64 g6) (.slice kb6 ks6 kt6)))
  obtain ⟨z0, z1, z2, z3, z4, z5, z6⟩ := h7
  simp only [Nat.zero_add] at z0 z1 z2 z3 z4 z5 z6
  generalize (set7 w6 (w.heap.size + 1) (.int .i64 k6) (.slice ka6 ki6 kj6) (.int .i64 mn6) (.int .i64 mx6) (.bool lz6) (.int .i64 g6) (.slice kb6 ks6 kt6)) = wf at *
  exact bodyPost_ret (v := ndv k6 (.slice ka6 ki6 kj6) mn6 mx6 lz6 g6 (.slice kb6 ks6 kt6)) (by unfold ndv; simp [results, Tryz.results96, go_sem, *]) rfl ⟨_, rfl, HN6.out, HBF.out⟩
set_option maxRecDepth 20000 in
set_option maxHeartbeats 4000000 in
theorem over_seven (kN : Int) (kaN : Option Addr) (kiN kjN : Nat) (mnN mxN : Int) (lzN : Bool) (gN : Int) (kbN : Option Addr) (ksN ktN : Nat) {n : Nd} (ks : List Nd) (q : Option Addr) (cap : Nat) (S : Nat → Prop) (w : World) (hn : NodeS S w kN (.slice kaN kiN kjN) mnN mxN lzN gN (.slice kbN ksN ktN) n) (hks : KidsS S w q 0 ks) (hS0 : ∀ b, S b → b < w.heap.size) (h7 : kN = 7) (hl : ks.length ≤ 600000) (hfl : (flatK 7 ks).length ≤ 600000) :
    Calls Tryz.prog 96 #[ndv kN (.slice kaN kiN kjN) mnN mxN lzN gN (.slice kbN ksN ktN), .slice q ks.length cap] w fun e w' => ∃ u, e = .returned u ∧ NodeVS (Joined S w w') w' u (Sx.choice0 ks) ∧ Below w.heap.size w w' := by
  subst h7
  obtain ⟨hx, hz, hb, hs, hnw⟩ := boxes2 w 7 kaN kiN kjN mnN mxN lzN gN kbN ksN ktN hn hS0
  have hkw := hks.mono (S' := S) (w' := (w.alloc (.cells #[.int .i64 7, .slice kaN kiN kjN, .int .i64 mnN, .int .i64 mxN, .bool lzN, .int .i64 gN, .slice kbN ksN ktN] 29)).alloc (.cells #[.int .i64 0, .slice none 0 0, .int .i64 0, .int .i64 0, .bool false, .int .i64 0, .slice none 0 0] 29)) (fun b h => ⟨h, hb.block b (hS0 b h)⟩)
  have HX := Lib.hid hx
  have HZ := Lib.hid hz
  have HB := Lib.hid hb
  have HSZ := Lib.hid hs
  have HN := Lib.hid hnw
  have HKS := Lib.hid hkw
  have HS0 := Lib.hid hS0
  clear hx hz hb hs hnw hkw hn hks hS0
  unfold ndv
  go_enter Tryz.func96, Tryz.ntmps96
  go_upto_region 1 with fail
  generalize ((w.alloc (.cells #[.int .i64 7, .slice kaN kiN kjN, .int .i64 mnN, .int .i64 mxN, .bool lzN, .int .i64 gN, .slice kbN ksN ktN] 29)).alloc (.cells #[.int .i64 0, .slice none 0 0, .int .i64 0, .int .i64 0, .bool false, .int .i64 0, .slice none 0 0] 29)) = w1 at *
  have HS1 := Lib.hid (show ∀ b, S b → b < w1.heap.size from fun b hb => by have := HS0.out b hb; have := HSZ.out; omega)
  obtain ⟨a0, a1, a2, a3, a4, a5, a6, af⟩ := HX.out.cells
  go_wp2_with fail
  with_reducible refine (scho_any ks q cap S w1 HKS.out HS1.out hl hfl).mono ?_
  rintro e w6 ⟨u6, rfl, hu6, hb6⟩
  have hbw := bvia HB.out hb6
  have hsz := HSZ.out
  obtain ⟨k6, ka6, ki6, kj6, mn6, mx6, lz6, g6, kb6, ks6, kt6, rfl, HN6⟩ := laid_end (B := w.heap.size + 1) HS0.out hbw.size (join_end HS0.out (by omega) ⟨by omega, by omega⟩ hu6)
  obtain ⟨y0, y1, y2, y3, y4, y5, y6, yf⟩ := (HZ.out.below hb6).cells
  unfold ndv
  have h7 := set7_seven w6 (w.heap.size + 1) k6 mn6 mx6 g6 lz6 (.slice ka6 ki6 kj6) (.slice kb6 ks6 kt6) y0 y1 y2 y3 y4 y5 y6
  have HBF := Lib.hid (below_set7 hbw (by omega : w.heap.size ≤ w.heap.size + 1) (.int .i64 k6) (.slice ka6 ki6 kj6) (.int .i64 mn6) (.int .i64 mx6) (.bool lz6) (.int .i64 g6) (.slice kb6 ks6 kt6))
  go_wp2_with fail
  with_reducible change bodyPost _ _ _ _ _ _
  refine (?_ : bodyPost _ _ _ _ _ (set7 w6 (w.heap.size + 1) (.int .i64 k6) (.slice ka6 ki6 kj6) (.int .i64 mn6) (.int .i64 mx6) (.bool lz6) (.int .i64 g6) (.slice kb6 ks6 kt6)))
  obtain ⟨z0, z1, z2, z3, z4, z5, z6⟩ := h7
  simp only [Nat.zero_add] at z0 z1 z2 z3 z4 z5 z6
  generalize (set7 w6 (w.heap.size + 1) (.int .i64 k6) (.slice ka6 ki6 kj6) (.int .i64 mn6) (.int .i64 mx6) (.bool lz6) (.int .i64 g6) (.slice kb6 ks6 kt6)) = wf at *
  exact bodyPost_ret (v := ndv k6 (.slice ka6 ki6 kj6) mn6 mx6 lz6 g6 (.slice kb6 ks6 kt6)) (by unfold ndv; simp [results, Tryz.results96, go_sem, *]) rfl ⟨_, rfl, HN6.out, HBF.out⟩
theorem nodeS_with {S : Nat → Prop} {w : World} {k mn mx g : Int} {vc vl : Value} {lz : Bool} {c : List Cl.Rg} {l ks : List Nd} {q : Option Addr} {cap : Nat} (h : NodeS S w k vc mn mx lz g vl (.mk k c mn mx lz g l)) (hk : KidsS S w q 0 ks) (hl : ks.length ≤ 1000000) : NodeS S w k vc mn mx lz g (.slice q ks.length cap) (.mk k c mn mx lz g ks) := by
  rw [NodeS] at h ⊢
  obtain ⟨h1, h2, h3, h4, h5, i1, i2, i3, i4, hc, hr, hk', hcl, _⟩ := h
  exact ⟨h1, h2, h3, h4, h5, i1, i2, i3, i4, hc, hr, hl, hcl, q, cap, rfl, hk⟩
set_option maxRecDepth 20000 in
set_option maxHeartbeats 4000000 in
theorem over_nine (kN : Int) (kaN : Option Addr) (kiN kjN : Nat) (mnN mxN : Int) (lzN : Bool) (gN : Int) (kbN : Option Addr) (ksN ktN : Nat) {c : List Cl.Rg} {l : List Nd} (ks : List Nd) (q : Option Addr) (cap : Nat) (S : Nat → Prop) (w : World) (hn : NodeS S w kN (.slice kaN kiN kjN) mnN mxN lzN gN (.slice kbN ksN ktN) (.mk kN c mnN mxN lzN gN l)) (hks : KidsS S w q 0 ks) (hS0 : ∀ b, S b → b < w.heap.size) (h9 : kN = 9) (hl : ks.length ≤ 600000) :
    Calls Tryz.prog 96 #[ndv kN (.slice kaN kiN kjN) mnN mxN lzN gN (.slice kbN ksN ktN), .slice q ks.length cap] w fun e w' => ∃ u, e = .returned u ∧ NodeVS (Joined S w w') w' u (.mk kN c mnN mxN lzN gN ks) ∧ Below w.heap.size w w' := by
  subst h9
  obtain ⟨hx, hz, hb, hs, hnw⟩ := boxes2 w 9 kaN kiN kjN mnN mxN lzN gN kbN ksN ktN hn hS0
  have hkw := hks.mono (S' := S) (w' := (w.alloc (.cells #[.int .i64 9, .slice kaN kiN kjN, .int .i64 mnN, .int .i64 mxN, .bool lzN, .int .i64 gN, .slice kbN ksN ktN] 29)).alloc (.cells #[.int .i64 0, .slice none 0 0, .int .i64 0, .int .i64 0, .bool false, .int .i64 0, .slice none 0 0] 29)) (fun b h => ⟨h, hb.block b (hS0 b h)⟩)
  have HX := Lib.hid hx
  have HZ := Lib.hid hz
  have HB := Lib.hid hb
  have HSZ := Lib.hid hs
  have HN := Lib.hid hnw
  have HKS := Lib.hid hkw
  have HS0 := Lib.hid hS0
  clear hx hz hb hs hnw hkw hn hks hS0
  unfold ndv
  go_enter Tryz.func96, Tryz.ntmps96
  go_upto_region 1 with fail
  generalize ((w.alloc (.cells #[.int .i64 9, .slice kaN kiN kjN, .int .i64 mnN, .int .i64 mxN, .bool lzN, .int .i64 gN, .slice kbN ksN ktN] 29)).alloc (.cells #[.int .i64 0, .slice none 0 0, .int .i64 0, .int .i64 0, .bool false, .int .i64 0, .slice none 0 0] 29)) = w1 at *
  have HS1 := Lib.hid (show ∀ b, S b → b < w1.heap.size from fun b hb => by have := HS0.out b hb; have := HSZ.out; omega)
  obtain ⟨a0, a1, a2, a3, a4, a5, a6, af⟩ := HX.out.cells
  go_upto_region 10 with fail
  have hbs := Below.setCell HB.out (p := ⟨w.heap.size, 6, none⟩) (Nat.le_refl _) (.slice q ks.length cap)
  have hxs : BoxN (w1.setCell ⟨w.heap.size, 6, none⟩ (.slice q ks.length cap)) w.heap.size 9 (.slice kaN kiN kjN) mnN mxN lzN gN (.slice q ks.length cap) := by
    have := heap_setCell (o := 6) HX.out (.slice q ks.length cap)
    unfold BoxN
    rw [this]; rfl
  have hzs : BoxN (w1.setCell ⟨w.heap.size, 6, none⟩ (.slice q ks.length cap)) (w.heap.size + 1) 0 (.slice none 0 0) 0 0 false 0 (.slice none 0 0) := HZ.out.block (Below.heap_setCell w1 _ _ _ (by simp))
  have hss : (w1.setCell ⟨w.heap.size, 6, none⟩ (.slice q ks.length cap)).heap.size = w.heap.size + 2 := by rw [← HSZ.out]; simp [World.setCell]
  have hn9 := nodeS_with (cap := cap) (HN.out.mono (S' := fun b => (S b ∨ (w.heap.size ≤ b ∧ b < (w1.setCell ⟨w.heap.size, 6, none⟩ (.slice q ks.length cap)).heap.size)) ∧ b ≠ w.heap.size + 1) (w' := w1.setCell ⟨w.heap.size, 6, none⟩ (.slice q ks.length cap)) (fun b hb => by have := HS0.out b hb; exact ⟨⟨.inl hb, by omega⟩, Below.heap_setCell w1 _ _ _ (by simp; omega)⟩)) (HKS.out.mono (fun b hb => by have := HS0.out b hb; exact ⟨⟨.inl hb, by omega⟩, Below.heap_setCell w1 _ _ _ (by simp; omega)⟩)) (by omega)
  generalize (w1.setCell ⟨w.heap.size, 6, none⟩ (.slice q ks.length cap)) = w2 at *
  clear a0 a1 a2 a3 a4 a5 a6 af HB
  have HB := Lib.hid hbs
  have HN9 := Lib.hid hn9
  obtain ⟨a0, a1, a2, a3, a4, a5, a6, af⟩ := hxs.cells
  obtain ⟨y0, y1, y2, y3, y4, y5, y6, yf⟩ := hzs.cells
  clear hbs hn9 hxs hzs hss
  clear HN
  have h7 := set7_seven w2 (w.heap.size + 1) 9 mnN mxN gN lzN (.slice kaN kiN kjN) (.slice q ks.length cap) y0 y1 y2 y3 y4 y5 y6
  have HN := Lib.hid (show NodeVS (Joined S w (set7 w2 (w.heap.size + 1) (.int .i64 9) (.slice kaN kiN kjN) (.int .i64 mnN) (.int .i64 mxN) (.bool lzN) (.int .i64 gN) (.slice q ks.length cap))) (set7 w2 (w.heap.size + 1) (.int .i64 9) (.slice kaN kiN kjN) (.int .i64 mnN) (.int .i64 mxN) (.bool lzN) (.int .i64 gN) (.slice q ks.length cap)) (ndv 9 (.slice kaN kiN kjN) mnN mxN lzN gN (.slice q ks.length cap)) (.mk 9 c mnN mxN lzN gN ks) from node_laid HS0.out HB.out.size HN9.out)
  have HBF := Lib.hid (below_set7 HB.out (by omega : w.heap.size ≤ w.heap.size + 1) (.int .i64 9) (.slice kaN kiN kjN) (.int .i64 mnN) (.int .i64 mxN) (.bool lzN) (.int .i64 gN) (.slice q ks.length cap))
  go_wp2_with fail
  change bodyPost _ _ _ _ _ (set7 w2 (w.heap.size + 1) (.int .i64 9) (.slice kaN kiN kjN) (.int .i64 mnN) (.int .i64 mxN) (.bool lzN) (.int .i64 gN) (.slice q ks.length cap))
  obtain ⟨z0, z1, z2, z3, z4, z5, z6⟩ := h7
  simp only [Nat.zero_add] at z0 z1 z2 z3 z4 z5 z6
  generalize (set7 w2 (w.heap.size + 1) (.int .i64 9) (.slice kaN kiN kjN) (.int .i64 mnN) (.int .i64 mxN) (.bool lzN) (.int .i64 gN) (.slice q ks.length cap)) = wf at *
  exact bodyPost_ret (v := ndv 9 (.slice kaN kiN kjN) mnN mxN lzN gN (.slice q ks.length cap)) (by unfold ndv; simp [results, Tryz.results96, go_sem, *]) rfl ⟨_, rfl, HN.out, HBF.out⟩
set_option maxRecDepth 20000 in
set_option maxHeartbeats 4000000 in
theorem over_leaf (kN : Int) (kaN : Option Addr) (kiN kjN : Nat) (mnN mxN : Int) (lzN : Bool) (gN : Int) (kbN : Option Addr) (ksN ktN : Nat) {n : Nd} (ks : List Nd) (q : Option Addr) (cap : Nat) (S : Nat → Prop) (w : World) (hn : NodeS S w kN (.slice kaN kiN kjN) mnN mxN lzN gN (.slice kbN ksN ktN) n) (hks : KidsS S w q 0 ks) (hS0 : ∀ b, S b → b < w.heap.size) (h6 : kN ≠ 6) (h7 : kN ≠ 7) (h8 : kN ≠ 8) (h9 : kN ≠ 9) :
    Calls Tryz.prog 96 #[ndv kN (.slice kaN kiN kjN) mnN mxN lzN gN (.slice kbN ksN ktN), .slice q ks.length cap] w fun e w' => ∃ u, e = .returned u ∧ NodeVS (Joined S w w') w' u (n) ∧ Below w.heap.size w w' := by
  have e6 : (kN == 6) = false := by rw [beq_eq_false_iff_ne]; exact h6
  have e7 : (kN == 7) = false := by rw [beq_eq_false_iff_ne]; exact h7
  have e8 : (kN == 8) = false := by rw [beq_eq_false_iff_ne]; exact h8
  have e9 : (kN == 9) = false := by rw [beq_eq_false_iff_ne]; exact h9
  clear h6 h7 h8 h9
  obtain ⟨hx, hz, hb, hs, hnw⟩ := boxes2 w kN kaN kiN kjN mnN mxN lzN gN kbN ksN ktN hn hS0
  have hkw := hks.mono (S' := S) (w' := (w.alloc (.cells #[.int .i64 kN, .slice kaN kiN kjN, .int .i64 mnN, .int .i64 mxN, .bool lzN, .int .i64 gN, .slice kbN ksN ktN] 29)).alloc (.cells #[.int .i64 0, .slice none 0 0, .int .i64 0, .int .i64 0, .bool false, .int .i64 0, .slice none 0 0] 29)) (fun b h => ⟨h, hb.block b (hS0 b h)⟩)
  have HX := Lib.hid hx
  have HZ := Lib.hid hz
  have HB := Lib.hid hb
  have HSZ := Lib.hid hs
  have HN := Lib.hid hnw
  have HKS := Lib.hid hkw
  have HS0 := Lib.hid hS0
  clear hx hz hb hs hnw hkw hn hks hS0
  unfold ndv
  go_enter Tryz.func96, Tryz.ntmps96
  go_upto_region 1 with fail
  generalize ((w.alloc (.cells #[.int .i64 kN, .slice kaN kiN kjN, .int .i64 mnN, .int .i64 mxN, .bool lzN, .int .i64 gN, .slice kbN ksN ktN] 29)).alloc (.cells #[.int .i64 0, .slice none 0 0, .int .i64 0, .int .i64 0, .bool false, .int .i64 0, .slice none 0 0] 29)) = w1 at *
  have HS1 := Lib.hid (show ∀ b, S b → b < w1.heap.size from fun b hb => by have := HS0.out b hb; have := HSZ.out; omega)
  obtain ⟨a0, a1, a2, a3, a4, a5, a6, af⟩ := HX.out.cells
  have HNL := Lib.hid (HN.out.mono (S' := fun b => (S b ∨ (w.heap.size ≤ b ∧ b < w1.heap.size)) ∧ b ≠ w.heap.size + 1) (fun b hb => ⟨⟨.inl hb, by have := HS0.out b hb; omega⟩, rfl⟩))
  obtain ⟨y0, y1, y2, y3, y4, y5, y6, yf⟩ := HZ.out.cells
  clear HN
  have h7 := set7_seven w1 (w.heap.size + 1) kN mnN mxN gN lzN (.slice kaN kiN kjN) (.slice kbN ksN ktN) y0 y1 y2 y3 y4 y5 y6
  have HN := Lib.hid (show NodeVS (Joined S w (set7 w1 (w.heap.size + 1) (.int .i64 kN) (.slice kaN kiN kjN) (.int .i64 mnN) (.int .i64 mxN) (.bool lzN) (.int .i64 gN) (.slice kbN ksN ktN))) (set7 w1 (w.heap.size + 1) (.int .i64 kN) (.slice kaN kiN kjN) (.int .i64 mnN) (.int .i64 mxN) (.bool lzN) (.int .i64 gN) (.slice kbN ksN ktN)) (ndv kN (.slice kaN kiN kjN) mnN mxN lzN gN (.slice kbN ksN ktN)) (n) from node_laid HS0.out HB.out.size HNL.out)
  have HBF := Lib.hid (below_set7 HB.out (by omega : w.heap.size ≤ w.heap.size + 1) (.int .i64 kN) (.slice kaN kiN kjN) (.int .i64 mnN) (.int .i64 mxN) (.bool lzN) (.int .i64 gN) (.slice kbN ksN ktN))
  go_wp2_with fail
  change bodyPost _ _ _ _ _ (set7 w1 (w.heap.size + 1) (.int .i64 kN) (.slice kaN kiN kjN) (.int .i64 mnN) (.int .i64 mxN) (.bool lzN) (.int .i64 gN) (.slice kbN ksN ktN))
  obtain ⟨z0, z1, z2, z3, z4, z5, z6⟩ := h7
  simp only [Nat.zero_add] at z0 z1 z2 z3 z4 z5 z6
  generalize (set7 w1 (w.heap.size + 1) (.int .i64 kN) (.slice kaN kiN kjN) (.int .i64 mnN) (.int .i64 mxN) (.bool lzN) (.int .i64 gN) (.slice kbN ksN ktN)) = wf at *
  exact bodyPost_ret (v := ndv kN (.slice kaN kiN kjN) mnN mxN lzN gN (.slice kbN ksN ktN)) (by unfold ndv; simp [results, Tryz.results96, go_sem, *]) rfl ⟨_, rfl, HN.out, HBF.out⟩
set_option maxRecDepth 20000 in
set_option maxHeartbeats 4000000 in
theorem over_eight (kN : Int) (kaN : Option Addr) (kiN kjN : Nat) (mnN mxN : Int) (lzN : Bool) (gN : Int) (kbN : Option Addr) (ksN ktN : Nat) {n : Nd} (x : Nd) (q : Option Addr) (cap : Nat) (S : Nat → Prop) (w : World) (hn : NodeS S w kN (.slice kaN kiN kjN) mnN mxN lzN gN (.slice kbN ksN ktN) n) (hks : KidsS S w q 0 [x]) (hS0 : ∀ b, S b → b < w.heap.size) (h8 : kN = 8) (hx4 : nsz x ≤ 400) (m0 : 0 ≤ mnN) (m1 : mnN ≤ 20) (m2 : mxN = -1 ∨ mnN ≤ mxN ∧ mxN ≤ 20) :
    Calls Tryz.prog 96 #[ndv kN (.slice kaN kiN kjN) mnN mxN lzN gN (.slice kbN ksN ktN), .slice q 1 cap] w fun e w' => ∃ u, e = .returned u ∧ NodeVS (Joined S w w') w' u (Sx.rept mnN mxN lzN x) ∧ Below w.heap.size w w' := by
  subst h8
  obtain ⟨hx, hz, hb, hs, hnw⟩ := boxes2 w 8 kaN kiN kjN mnN mxN lzN gN kbN ksN ktN hn hS0
  have hkw := hks.mono (S' := S) (w' := (w.alloc (.cells #[.int .i64 8, .slice kaN kiN kjN, .int .i64 mnN, .int .i64 mxN, .bool lzN, .int .i64 gN, .slice kbN ksN ktN] 29)).alloc (.cells #[.int .i64 0, .slice none 0 0, .int .i64 0, .int .i64 0, .bool false, .int .i64 0, .slice none 0 0] 29)) (fun b h => ⟨h, hb.block b (hS0 b h)⟩)
  have HX := Lib.hid hx
  have HZ := Lib.hid hz
  have HB := Lib.hid hb
  have HSZ := Lib.hid hs
  have HN := Lib.hid hnw
  have HKS := Lib.hid hkw
  have HS0 := Lib.hid hS0
  clear hx hz hb hs hnw hkw hn hks hS0
  unfold ndv
  go_enter Tryz.func96, Tryz.ntmps96
  go_upto_region 1 with fail
  generalize ((w.alloc (.cells #[.int .i64 8, .slice kaN kiN kjN, .int .i64 mnN, .int .i64 mxN, .bool lzN, .int .i64 gN, .slice kbN ksN ktN] 29)).alloc (.cells #[.int .i64 0, .slice none 0 0, .int .i64 0, .int .i64 0, .bool false, .int .i64 0, .slice none 0 0] 29)) = w1 at *
  have HS1 := Lib.hid (show ∀ b, S b → b < w1.heap.size from fun b hb => by have := HS0.out b hb; have := HSZ.out; omega)
  obtain ⟨a0, a1, a2, a3, a4, a5, a6, af⟩ := HX.out.cells
  obtain ⟨bq, oq, k, vc, mn, mx, lz, g, vl, rfl, hbq, f7, hxn⟩ := kidsS_get HKS.out (m := 0) (x := x) rfl
  obtain ⟨ka, ki, kj, kb, ks', kt, rfl, rfl⟩ := nodeS_shape hxn
  simp only [Nat.zero_mul, Nat.add_zero] at f7
  obtain ⟨f0, f1, f2, f3, f4, f5, f6⟩ := f7
  have hone : (0 : Int) < ((1 : Nat) : Int) := by decide
  have HXN := Lib.hid (show NodeS S w1.drew k (.slice ka ki kj) mn mx lz g (.slice kb ks' kt) x from NodeS.mono (w := w1) (w' := w1.drew) (fun b hb => ⟨hb, rfl⟩) hxn)
  have HC := Lib.hid (srep_any 8 kaN kiN kjN mnN mxN lzN gN kbN ksN ktN k ka ki kj mn mx lz g kb ks' kt x S w1.drew HXN.out HS1.out hx4 m0 m1 m2)
  have HBD := Lib.hid (show Below w.heap.size w w1.drew from HB.out.drew)
  have HZD := Lib.hid (show BoxN w1.drew (w.heap.size + 1) 0 (.slice none 0 0) 0 0 false 0 (.slice none 0 0) from HZ.out)
  have HSD := Lib.hid (show w1.drew.heap.size = w.heap.size + 2 from HSZ.out)
  unfold ndv at HC
  clear hxn hbq
  go_upto_region 9 with fail
  go_still_tail 4, (by kernel_rfl)
  change wpList _ _ _ _ _ w1.drew
  clear HB HZ HSZ HX HN HKS HS1 HXN a0 a1 a2 a3 a4 a5 a6 af f0 f1 f2 f3 f4 f5 f6
  generalize w1.drew = w2 at *
  have HB := HBD
  have HZ := HZD
  have HSZ := HSD
  go_wp2_with fail
  with_reducible refine HC.out.mono ?_
  rintro e w6 ⟨u6, rfl, hu6, hb6⟩
  have hbw := bvia HB.out hb6
  have hsz := HSZ.out
  obtain ⟨k6, ka6, ki6, kj6, mn6, mx6, lz6, g6, kb6, ks6, kt6, rfl, HN6⟩ := laid_end (B := w.heap.size + 1) HS0.out hbw.size (join_end HS0.out (by omega) ⟨by omega, by omega⟩ hu6)
  obtain ⟨y0, y1, y2, y3, y4, y5, y6, yf⟩ := (HZ.out.below hb6).cells
  unfold ndv
  have h7 := set7_seven w6 (w.heap.size + 1) k6 mn6 mx6 g6 lz6 (.slice ka6 ki6 kj6) (.slice kb6 ks6 kt6) y0 y1 y2 y3 y4 y5 y6
  have HBF := Lib.hid (below_set7 hbw (by omega : w.heap.size ≤ w.heap.size + 1) (.int .i64 k6) (.slice ka6 ki6 kj6) (.int .i64 mn6) (.int .i64 mx6) (.bool lz6) (.int .i64 g6) (.slice kb6 ks6 kt6))
  go_wp2_with fail
  with_reducible change bodyPost _ _ _ _ _ _
  refine (?_ : bodyPost _ _ _ _ _ (set7 w6 (w.heap.size + 1) (.int .i64 k6) (.slice ka6 ki6 kj6) (.int .i64 mn6) (.int .i64 mx6) (.bool lz6) (.int .i64 g6) (.slice kb6 ks6 kt6)))
  obtain ⟨z0, z1, z2, z3, z4, z5, z6⟩ := h7
  simp only [Nat.zero_add] at z0 z1 z2 z3 z4 z5 z6
  generalize (set7 w6 (w.heap.size + 1) (.int .i64 k6) (.slice ka6 ki6 kj6) (.int .i64 mn6) (.int .i64 mx6) (.bool lz6) (.int .i64 g6) (.slice kb6 ks6 kt6)) = wf at *
  exact bodyPost_ret (v := ndv k6 (.slice ka6 ki6 kj6) mn6 mx6 lz6 g6 (.slice kb6 ks6 kt6)) (by unfold ndv; simp [results, Tryz.results96, go_sem, *]) rfl ⟨_, rfl, HN6.out, HBF.out⟩
theorem over_any (kN : Int) (kaN : Option Addr) (kiN kjN : Nat) (mnN mxN : Int) (lzN : Bool) (gN : Int) (kbN : Option Addr) (ksN ktN : Nat) {c : List Cl.Rg} {l : List Nd} (ks : List Nd) (q : Option Addr) (cap : Nat) (S : Nat → Prop) (w : World) (hn : NodeS S w kN (.slice kaN kiN kjN) mnN mxN lzN gN (.slice kbN ksN ktN) (.mk kN c mnN mxN lzN gN l)) (hks : KidsS S w q 0 ks) (hS0 : ∀ b, S b → b < w.heap.size) (hr : Sx.right (.mk kN c mnN mxN lzN gN l)) (hl : ks.length = l.length) (h4 : ∀ x ∈ ks, nsz x ≤ 400) (hlo : Sx.lo ks ≤ 400) (hll : l.length ≤ 500000) :
    Calls Tryz.prog 96 #[ndv kN (.slice kaN kiN kjN) mnN mxN lzN gN (.slice kbN ksN ktN), .slice q ks.length cap] w fun e w' => ∃ u, e = .returned u ∧ NodeVS (Joined S w w') w' u (Sx.over (.mk kN c mnN mxN lzN gN l) ks) ∧ Below w.heap.size w w' := by
  have hr' := hr
  rw [Sx.right] at hr'
  obtain ⟨r1, r2, r3, r4, r5, r6, r7, r8⟩ := hr'
  have hz := Sx.lo_len ks
  rw [Sx.over_mk]
  by_cases h6 : kN = 6
  · rw [if_pos h6]; exact over_six kN kaN kiN kjN mnN mxN lzN gN kbN ksN ktN ks q cap S w hn hks hS0 h6 (by omega) (by have := flat6_len ks; omega)
  rw [if_neg h6]
  by_cases h7 : kN = 7
  · rw [if_pos h7]; exact over_seven kN kaN kiN kjN mnN mxN lzN gN kbN ksN ktN ks q cap S w hn hks hS0 h7 (by omega) (by have := flat7_len ks; omega)
  rw [if_neg h7]
  by_cases h9 : kN = 9
  · rw [if_pos h9]; exact over_nine kN kaN kiN kjN mnN mxN lzN gN kbN ksN ktN ks q cap S w hn hks hS0 h9 (by omega)
  rw [if_neg h9]
  by_cases h8 : kN = 8
  · rw [if_pos h8]
    rw [if_pos h8] at r6
    rw [if_neg (by omega), if_pos (.inl h8)] at r8
    match ks, hl, h4, hks with
    | [x], _, h4, hks => exact over_eight kN kaN kiN kjN mnN mxN lzN gN kbN ksN ktN x q cap S w hn hks hS0 h8 (h4 x (List.mem_cons_self ..)) r6.1 r6.2.1 r6.2.2
    | [], hl, _, _ => simp at hl; omega
    | _ :: _ :: _, hl, _, _ => simp at hl; omega
  rw [if_neg h8]
  exact over_leaf kN kaN kiN kjN mnN mxN lzN gN kbN ksN ktN ks q cap S w hn hks hS0 h6 h7 h8 h9
end Go.Proofs.YtdoapojmenojoaaGreatDoor
end

section
/- Unrolled: the program's own. -/
set_option linter.unusedVariables false
namespace Go.Proofs.YtdoapojmenojoaaGreatDoor
open Go.RowKit
open Sx (Nd)

def UnPost (S : Nat → Prop) (w : World) (n : Nd) (e : Ending) (w' : World) : Prop :=
  (∃ u t, Sx.un n = some t ∧ e = .returned (.tuple #[u, .bool true]) ∧ NodeVS (Joined S w w') w' u t ∧ Below w.heap.size w w') ∨ (Sx.un n = none ∧ e = .returned (.tuple #[ndv 0 (.slice none 0 0) 0 0 false 0 (.slice none 0 0), .bool false]) ∧ Below w.heap.size w w')
def UnAt (N : Nat) : Prop := ∀ n, nsz n ≤ N → Sx.right n → nsz n ≤ 500000 → ∀ (u : Value) (S : Nat → Prop) (w : World), NodeVS S w u n → (∀ b, S b → b < w.heap.size) → Calls Tryz.prog 64 #[u] w (UnPost S w n)
def UnLPost (S : Nat → Prop) (w : World) (l : List Nd) (e : Ending) (w' : World) : Prop :=
  (∃ p cap ks, Sx.unL l = some ks ∧ Sx.lo ks ≤ 400 ∧ e = .returned (.tuple #[.slice p ks.length cap, .bool true]) ∧ KidsS (Joined S w w') w' p 0 ks ∧ Below w.heap.size w w') ∨
  ((∀ ks, Sx.unL l = some ks → 400 < Sx.lo ks) ∧ e = .returned (.tuple #[.slice none 0 0, .bool false]) ∧ Below w.heap.size w w')
theorem lo_take {ks : List Nd} (i : Nat) : Sx.lo (ks.take i) ≤ Sx.lo ks := by
  have := Sx.lo_app (ks.take i) (ks.drop i)
  rw [List.take_append_drop] at this
  have := Sx.lo_pos (ks.drop i)
  omega
theorem nodeS_nsz {S : Nat → Prop} {w : World} {u : Value} {n : Nd} (h : NodeVS S w u n) (hS : ∀ b, S b → b < w.heap.size) : NodeV w u n := h.is hS
/- a row that is made, none in it -/
theorem own_made (S : Nat → Prop) (w : World) (c : Nat) (hc : c ≤ 1000000) : ∃ w1, (Instr.makeSlice 27 (.int .i64 0) (.int .i64 (c : Int))).run Tryz.prog w = .ok (.slice (some ⟨w.heap.size, 0, none⟩) 0 c) w1 ∧ OwnN S w1 w.heap.size 29 (.slice (some ⟨w.heap.size, 0, none⟩) 0 c) [] ∧ Below w.heap.size w w1 ∧ w.heap.size < w1.heap.size := by
  obtain ⟨i0, hi, hz0, hz1, hz2⟩ := info_parts Tryz.infoSN
  obtain ⟨w1, hr, ho, hg⟩ := run_make_own (P := Tryz.prog) w w.heap.size 27 29 i0 _ 7 Tryz.underlying27 hi hz0 hz1 .i64 .i64 c (by rw [hz2]; omega) (by unfold maxLen; omega) (Nat.le_refl _)
  exact ⟨w1, hr, ⟨[], ho, fun i n h => by simp at h⟩, ⟨hg.os, hg.tape, hg.output, hg.size, fun i hi => hg.block i hi (by simp)⟩, (ho.lt w.heap.size rfl).2⟩
set_option maxRecDepth 20000 in
set_option maxHeartbeats 4000000 in
theorem unAll_any (N : Nat) (ih : UnAt N) (l : List Nd) (q : Option Addr) (cap : Nat) (S : Nat → Prop) (w : World) (hks : KidsS S w q 0 l) (hS0 : ∀ b, S b → b < w.heap.size) (hr : Sx.rights l) (hN : nszs l ≤ N) (hz : nszs l ≤ 500000) (hl : l.length ≤ 500000) :
    Calls Tryz.prog 95 #[.slice q l.length cap] w (UnLPost S w l) := by
  obtain ⟨wm, hm, ho, hbm, hsm⟩ := own_made (fun b => S b ∨ w.heap.size ≤ b) w l.length (by omega)
  have IH := Lib.hid ih
  have HK := Lib.hid hks
  have HS0 := Lib.hid hS0
  have HR := Lib.hid ((Sx.rights_iff l).1 hr)
  have HO := Lib.hid ho
  have HBM := Lib.hid hbm
  have HSM := Lib.hid hsm
  clear ih hks hS0 hr ho hbm hsm
  go_enter Tryz.func95, Tryz.ntmps95
  go_wp2_with fail
  clear hm
  go_loopw [4, 5, 15] (fun v s i wr => ∃ (m : Nat) (ks : List Nd), i = .int .i64 (m : Int) ∧ m ≤ l.length ∧ s = .int .i64 (Sx.lo ks : Int) ∧ Sx.lo ks ≤ 400 ∧ Hid (Sx.unL (l.take m) = some ks) ∧ Hid (OwnN (fun b => S b ∨ w.heap.size ≤ b) wr w.heap.size 29 v ks) ∧ Hid (Below w.heap.size w wr) ∧ Hid (w.heap.size ≤ wr.heap.size)) (fun _ _ i _ => l.length - (intOf i).toNat)
  case atStart => exact ⟨0, [], rfl, Nat.zero_le _, rfl, by decide, Lib.hid (by rw [List.take_zero, Sx.unL]), HO, HBM, Lib.hid HBM.out.size⟩
  case round =>
    obtain ⟨m, ks, rfl, hm, rfl, hlo, HU, HOr, HBr, HZr⟩ := hrel
    by_cases hlt : m < l.length
    · obtain ⟨x, hx⟩ : ∃ x, l[m]? = some x := ⟨_, List.getElem?_eq_getElem hlt⟩
      obtain ⟨b, o, k, vc, mn, mx, lz, g, vl, rfl, hb, f7, hxn⟩ := kidsS_get HK.out hx
      obtain ⟨ka, ki, kj, kb, ks1, kt, rfl, rfl⟩ := nodeS_shape hxn
      have hml : (m : Int) < (l.length : Int) := by omega
      have hbl := HS0.out b hb
      obtain ⟨f0, f1, f2, f3, f4, f5, f6⟩ := f7.below HBr.out hbl
      have hxsz := nszs_mem hx
      have HXR := Lib.hid (HR.out x (List.mem_of_getElem? hx))
      have HX := Lib.hid hx
      have HUT := Lib.hid (Sx.unL_take hx)
      obtain ⟨p5, c5, hv5, hc5⟩ := own_slice_le HOr.out
      have hb1 := below_new wr (.cells #[.int .i64 k, .slice ka ki kj, .int .i64 mn, .int .i64 mx, .bool lz, .int .i64 g, .slice kb ks1 kt] 29)
      have HB1 := Lib.hid (bvia HBr.out hb1)
      have HO1 := Lib.hid (HOr.out.kept hb1)
      have HXN := Lib.hid (hxn.mono (S' := S) (w' := wr.alloc (.cells #[.int .i64 k, .slice ka ki kj, .int .i64 mn, .int .i64 mx, .bool lz, .int .i64 g, .slice kb ks1 kt] 29)) (fun b hb => ⟨hb, (bvia HBr.out hb1).block b (HS0.out b hb)⟩))
      have HS1 := Lib.hid (show ∀ b, S b → b < (wr.alloc (.cells #[.int .i64 k, .slice ka ki kj, .int .i64 mn, .int .i64 mx, .bool lz, .int .i64 g, .slice kb ks1 kt] 29)).heap.size from fun b hb => Nat.lt_of_lt_of_le (HS0.out b hb) (bvia HBr.out hb1).size)
      have HC := Lib.hid (IH.out x (by omega) HXR.out (by omega) (ndv k (.slice ka ki kj) mn mx lz g (.slice kb ks1 kt)) S (wr.alloc (.cells #[.int .i64 k, .slice ka ki kj, .int .i64 mn, .int .i64 mx, .bool lz, .int .i64 g, .slice kb ks1 kt] 29)) ⟨k, _, mn, mx, lz, g, _, rfl, HXN.out⟩ HS1.out)
      unfold ndv at HC
      clear hx f7 hxn hb1 HOr
      obtain ⟨n5, hn5⟩ : ∃ n5, n5 = ks.length := ⟨_, rfl⟩
      rw [← hn5] at hv5 hc5
      subst hv5
      have HN5 := Lib.hid hn5
      clear hn5
      go_wp2_with fail
      with_reducible refine HC.out.mono ?_
      rintro e w2 hpost
      generalize (wr.alloc (.cells #[.int .i64 k, .slice ka ki kj, .int .i64 mn, .int .i64 mx, .bool lz, .int .i64 g, .slice kb ks1 kt] 29)) = w1 at *
      clear HC f0 f1 f2 f3 f4 f5 f6 HXN HK
      rcases hpost with ⟨u, t, hut, rfl, hu, hb2⟩ | ⟨hun, rfl, hb2⟩
      · obtain ⟨k2, ka2, ki2, kj2, mn2, mx2, lz2, g2, kb2, ks2, kt2, rfl, hn2⟩ := nodeVS_open hu
        unfold ndv
        have HB2 := Lib.hid (bvia HB1.out hb2)
        have HO2 := Lib.hid (HO1.out.kept hb2)
        have hz12 := hb2.size
        have HT4 := Lib.hid (Sx.un_small hut)
        have HUN := Lib.hid hut
        have hlo2 : Sx.lo (ks ++ [t]) = Sx.lo ks + (nsz t - 1) := by
          have := Sx.lo_app ks [t]; simp only [Sx.lo] at this; omega
        have hpt := nsz_pos t
        have HLO2 := Lib.hid hlo2
        have hsub : IntKind.i64.wrap ((nsz t : Int) - 1) = ((nsz t - 1 : Nat) : Int) := by rw [IntWalk.i64_in _ ⟨by omega, by have := HT4.out; omega⟩]; omega
        have hadd : IntKind.i64.wrap ((Sx.lo ks : Int) + ((nsz t - 1 : Nat) : Int)) = (Sx.lo (ks ++ [t]) : Int) := by rw [IntWalk.i64_in _ ⟨by omega, by have := HT4.out; omega⟩, HLO2.out]; omega
        have hn2v : NodeV w2 (ndv k2 (.slice ka2 ki2 kj2) mn2 mx2 lz2 g2 (.slice kb2 ks2 kt2)) t := NodeVS.is (S := Joined S w1 w2) (w := w2) (v := ndv k2 (.slice ka2 ki2 kj2) mn2 mx2 lz2 g2 (.slice kb2 ks2 kt2)) (n := t) ⟨k2, _, mn2, mx2, lz2, g2, _, rfl, hn2⟩ (fun b hb => Joined.lt HS1.out hz12 hb)
        have hb3 := below_new w2 (.cells #[.int .i64 k2, .slice ka2 ki2 kj2, .int .i64 mn2, .int .i64 mx2, .bool lz2, .int .i64 g2, .slice kb2 ks2 kt2] 29)
        have HC := Lib.hid (size_any (nsz t) t (Nat.le_refl _) _ (w2.alloc (.cells #[.int .i64 k2, .slice ka2 ki2 kj2, .int .i64 mn2, .int .i64 mx2, .bool lz2, .int .i64 g2, .slice kb2 ks2 kt2] 29)) (hn2v.below hb3) (by have := HT4.out; omega))
        have HBX := Lib.hid (BoxN.new w2 k2 (.slice ka2 ki2 kj2) mn2 mx2 lz2 g2 (.slice kb2 ks2 kt2))
        have HN2 := Lib.hid hn2
        have HBB := Lib.hid hb3
        unfold ndv at HC
        clear hn2v hn2 hu hut hb3 hlo2
        go_wp2_with fail
        with_reducible refine HC.out.mono ?_
        rintro e w3 ⟨rfl, hb3⟩
        have HB3 := Lib.hid (bvia (bvia HB2.out HBB.out) hb3)
        have HO3 := Lib.hid ((HO2.out.kept HBB.out).kept hb3)
        have hz23 := Nat.le_trans HBB.out.size hb3.size
        have HN3 := Lib.hid (HN2.out.mono (S' := fun b => (S b ∨ w.heap.size ≤ b) ∧ b < w3.heap.size ∧ Value.ownBlock (.slice p5 n5 c5) ≠ some b) (w' := w3) (fun b hb => by
          have hlt2 : b < w2.heap.size := Joined.lt HS1.out hz12 hb
          refine ⟨⟨?_, by omega, ?_⟩, ((HBB.out.trans (hb3.mono HBB.out.size)).block b hlt2)⟩
          · rcases hb with hb | hb
            · exact .inl hb
            · exact .inr (by have := hb.1; have := HB1.out.size; omega)
          · rcases hb with hb | hb
            · exact own_ne HO1.out (HS0.out b hb)
            · exact own_block_lt HO1.out hb.1))
        have HBX3 := HBX.out.below hb3
        obtain ⟨x0, x1, x2, x3, x4, x5, x6, xf⟩ := HBX3.cells
        clear HC HBX HBB hb3 HN2 HO1 HO2 HB1 HB2 HS1 HBX3
        by_cases hbig : 400 < Sx.lo (ks ++ [t])
        · have hd : decide ((400 : Int) < (Sx.lo (ks ++ [t]) : Int)) = true := by rw [decide_eq_true_iff]; omega
          have hd' : (400 : Int) < (Sx.lo (ks ++ [t]) : Int) := by omega
          have HBIG := Lib.hid hbig
          clear hbig
          go_wp2_with fail
          refine bodyPost_ret (v := .tuple #[.slice none 0 0, .bool false]) (by simp [results, Tryz.results95, go_sem, *]) rfl (.inr ⟨fun ks' hk' => ?_, rfl, HB3.out⟩)
          have h1 := HUT.out
          rw [HU.out, HUN.out] at h1
          have h2 := Sx.unL_some (m + 1) hk'
          rw [h1] at h2
          have h3 : ks ++ [t] = ks'.take (m + 1) := Option.some.inj h2
          have h4 := lo_take (ks := ks') (m + 1)
          rw [← h3] at h4
          have := HBIG.out
          omega
        · have hd : decide ((400 : Int) < (Sx.lo (ks ++ [t]) : Int)) = false := by rw [decide_eq_false_iff_not]; omega
          have hd' : ¬ ((400 : Int) < (Sx.lo (ks ++ [t]) : Int)) := by omega
          have HLE := Lib.hid (show Sx.lo (ks ++ [t]) ≤ 400 by omega)
          clear hbig
          have hkl : ks.length ≤ 1000000 := by
            have := Sx.unL_len HU.out
            rw [List.length_take] at this; omega
          have HKL := Lib.hid hkl
          clear hkl
          go_wp2_with (at_builtin; refine wpList_append_node rfl _ _ 27 rfl w.heap.size 29 Tryz.underlying27 Tryz.infoSN (fun b => S b ∨ w.heap.size ≤ b) _ _ ks k2 ka2 ki2 kj2 mn2 mx2 lz2 g2 kb2 ks2 kt2 t rfl (by exact HO3.out) rfl (by exact HN3.out) (by exact HKL.out) (by exact HB3.out.size) ?_)
          intro v' w' hown' hg'
          have HO4 := Lib.hid hown'
          have HB4 := Lib.hid (own_below_grown HO3.out HB3.out (Nat.le_refl _) hg')
          have HUU := Lib.hid (show Sx.unL (l.take (m + 1)) = some (ks ++ [t]) by rw [HUT.out, HU.out, HUN.out])
          clear hown' hg' HO3 HB3 HN3 x0 x1 x2 x3 x4 x5 x6 xf
          go_wp2_with fail
          go_roundw
          case rel => exact ⟨m + 1, ks ++ [t], by go_num, by omega, rfl, HLE.out, HUU, HO4, HB4, Lib.hid HB4.out.size⟩
          case measure => simp [intOf]; omega
      · have HB2 := Lib.hid (bvia HB1.out hb2)
        have HUN := Lib.hid hun
        have hb3 := below_new w2 (.cells #[.int .i64 0, .slice none 0 0, .int .i64 0, .int .i64 0, .bool false, .int .i64 0, .slice none 0 0] 29)
        have hez : NodeV (w2.alloc (.cells #[.int .i64 0, .slice none 0 0, .int .i64 0, .int .i64 0, .bool false, .int .i64 0, .slice none 0 0] 29)) (ndv 0 (.slice none 0 0) 0 0 false 0 (.slice none 0 0)) Sx.empty := ⟨0, _, 0, 0, false, 0, _, rfl, node_mk (c := []) (kids := []) ⟨by decide, by decide⟩ ⟨by decide, by decide⟩ ⟨by decide, by decide⟩ ⟨by decide, by decide⟩ (by simp) (fun k r hr => by simp at hr) (by simp) (RowP.nil _ _) (fun i n h => by simp at h)⟩
        have HC := Lib.hid (size_any 1 Sx.empty (by decide) _ (w2.alloc (.cells #[.int .i64 0, .slice none 0 0, .int .i64 0, .int .i64 0, .bool false, .int .i64 0, .slice none 0 0] 29)) hez (by decide))
        rw [show nsz Sx.empty = 1 from rfl] at HC
        have HBB := Lib.hid hb3
        unfold ndv at HC ⊢
        clear hez hb3 hun hb2
        go_wp2_with fail
        with_reducible refine HC.out.mono ?_
        rintro e w3 ⟨rfl, hb3⟩
        have HB3 := Lib.hid (bvia (bvia HB2.out HBB.out) hb3)
        clear HC HBB hb3
        go_wp2_with fail
        refine bodyPost_ret (v := .tuple #[.slice none 0 0, .bool false]) (by simp [results, Tryz.results95, go_sem, *]) rfl (.inr ⟨fun ks' hk' => ?_, rfl, HB3.out⟩)
        have h1 := HUT.out
        rw [HU.out, HUN.out] at h1
        have h2 := Sx.unL_some (m + 1) hk'
        rw [h1] at h2
        cases h2
    · obtain rfl : m = l.length := by omega
      have HUE := Lib.hid (show Sx.unL l = some ks by have := HU.out; rwa [List.take_length] at this)
      obtain ⟨p9, c9, hv9, _, hk9⟩ := own_kids (S' := Joined S w wr) HOr.out (fun b h1 h2 => by
        rcases h1 with h1 | h1
        · exact .inl h1
        · exact .inr ⟨h1, h2⟩) (fun b h1 h2 => .inr ⟨h1, h2⟩)
      have HK9 := Lib.hid hk9
      subst hv9
      have hlt' : ¬ ((l.length : Int) < (l.length : Int)) := by omega
      clear hk9
      go_wp2_with fail
      exact bodyPost_ret (v := .tuple #[.slice p9 ks.length c9, .bool true]) (by simp [results, Tryz.results95, go_sem, *]) rfl (.inl ⟨p9, c9, ks, HUE.out, hlo, rfl, HK9.out, HBr.out⟩)
end Go.Proofs.YtdoapojmenojoaaGreatDoor
end

section
/- Unrolled: a node; all that Of tells. -/
set_option linter.unusedVariables false
namespace Go.Proofs.YtdoapojmenojoaaGreatDoor
open Go.RowKit
open Sx (Nd)

theorem un_no {k : Int} {c : List Cl.Rg} {mn mx : Int} {lz : Bool} {g : Int} {l : List Nd} (hr : Sx.right (.mk k c mn mx lz g l)) (h : ∀ ks, Sx.unL l = some ks → 400 < Sx.lo ks) : Sx.un (.mk k c mn mx lz g l) = none := by
  cases hl : Sx.unL l with
  | none => rw [Sx.un, hl]
  | some ks => exact Sx.un_lo hr (ks := ks) hl (h ks hl)
theorem un_big {k : Int} {c : List Cl.Rg} {mn mx : Int} {lz : Bool} {g : Int} {l ks : List Nd} (hl : Sx.unL l = some ks) (h : ¬ nsz (Sx.over (.mk k c mn mx lz g l) ks) ≤ 400) : Sx.un (.mk k c mn mx lz g l) = none := by
  rw [Sx.un, hl]; simp only; rw [if_neg h]
theorem un_ok {k : Int} {c : List Cl.Rg} {mn mx : Int} {lz : Bool} {g : Int} {l ks : List Nd} (hl : Sx.unL l = some ks) (h : nsz (Sx.over (.mk k c mn mx lz g l) ks) ≤ 400) : Sx.un (.mk k c mn mx lz g l) = some (Sx.over (.mk k c mn mx lz g l) ks) := by
  rw [Sx.un, hl]; simp only; rw [if_pos h]
theorem over_small {n : Nd} {ks : List Nd} (hr : Sx.right n) (hl : ks.length = n.kids.length) (h4 : ∀ x ∈ ks, nsz x ≤ 400) (hlo : Sx.lo ks ≤ 400) (hz : ks.length ≤ 500000) : nsz (Sx.over n ks) ≤ 1000000000 := by
  obtain ⟨k, c, mn, mx, lz, g, l⟩ := n
  have hz2 := Sx.lo_len ks
  rw [Sx.right] at hr
  obtain ⟨r1, r2, r3, r4, r5, r6, r7, r8⟩ := hr
  simp only [Sx.Nd.kids] at hl
  rw [Sx.over_mk]
  by_cases h6 : k = 6
  · rw [if_pos h6]; have := Sx.sequence_size ks; omega
  rw [if_neg h6]
  by_cases h7 : k = 7
  · rw [if_pos h7]
    rw [if_pos (.inr h7)] at r8
    rw [Sx.choice0_many (by omega), nsz]
    have := Sx.flat7_size ks; omega
  rw [if_neg h7]
  by_cases h9 : k = 9
  · rw [if_pos h9, nsz]; omega
  rw [if_neg h9]
  by_cases h8 : k = 8
  · rw [if_pos h8]
    rw [if_pos h8] at r6
    match ks, h4 with
    | [], _ => simp [Sx.empty, nsz, nszs]
    | x :: t, h4 =>
      have hx := h4 x (List.mem_cons_self ..)
      simp only
      unfold Sx.rept
      split
      · rw [Sx.again, nsz, nszs, nszs]; omega
      · split
        · have h1 := Sx.sequence_size (List.replicate (mn - 1).toNat x ++ [Sx.again 1 (-1) lz x])
          have h2 : (mn - 1).toNat * nsz x ≤ 20 * 400 := Nat.mul_le_mul (by omega) hx
          rw [nszs_app, Sx.nszs_rep, nszs, nszs, Sx.again, nsz, nszs, nszs] at h1
          rw [Sx.again]; omega
        · have h1 := Sx.sequence_size (List.replicate mn.toNat x ++ [Sx.perh (mx - mn).toNat lz x])
          have h2 : mn.toNat * nsz x ≤ 20 * 400 := Nat.mul_le_mul (by omega) hx
          have h3 := perh_nsz lz x (mx - mn).toNat
          have h4 : (mx - mn).toNat * (nsz x + 2) ≤ 20 * 402 := Nat.mul_le_mul (by omega) (by omega)
          rw [nszs_app, Sx.nszs_rep, nszs, nszs] at h1
          omega
  rw [if_neg h8]
  rw [if_neg (by omega), if_neg (by omega)] at r8
  subst r8
  rw [nsz, nszs]; omega
set_option maxRecDepth 20000 in
set_option maxHeartbeats 4000000 in
theorem unroll_mk (N : Nat) (ih : UnAt N) (kN : Int) (kaN : Option Addr) (kiN kjN : Nat) (mnN mxN : Int) (lzN : Bool) (gN : Int) (qN : Option Addr) (ktN : Nat) (c : List Cl.Rg) (l : List Nd) (hN : nszs l ≤ N) (hr : Sx.right (.mk kN c mnN mxN lzN gN l)) (hz : nszs l ≤ 500000) (S : Nat → Prop) (w : World) (hn : NodeS S w kN (.slice kaN kiN kjN) mnN mxN lzN gN (.slice qN l.length ktN) (.mk kN c mnN mxN lzN gN l)) (hks : KidsS S w qN 0 l) (hS0 : ∀ b, S b → b < w.heap.size) :
    Calls Tryz.prog 64 #[ndv kN (.slice kaN kiN kjN) mnN mxN lzN gN (.slice qN l.length ktN)] w (UnPost S w (.mk kN c mnN mxN lzN gN l)) := by
  have hll : l.length ≤ nszs l := by
    have : ∀ t : List Nd, t.length ≤ nszs t := fun t => by
      induction t with
      | nil => simp
      | cons y t ih => have := nsz_pos y; rw [nszs, List.length_cons]; omega
    exact this l
  obtain ⟨hx, hzb, hb, hs, hnw⟩ := boxes2 w kN kaN kiN kjN mnN mxN lzN gN qN l.length ktN hn hS0
  have hkw := hks.mono (S' := S) (w' := (w.alloc (.cells #[.int .i64 kN, .slice kaN kiN kjN, .int .i64 mnN, .int .i64 mxN, .bool lzN, .int .i64 gN, .slice qN l.length ktN] 29)).alloc (.cells #[.int .i64 0, .slice none 0 0, .int .i64 0, .int .i64 0, .bool false, .int .i64 0, .slice none 0 0] 29)) (fun b h => ⟨h, hb.block b (hS0 b h)⟩)
  have HX := Lib.hid hx
  have HZ := Lib.hid hzb
  have HB := Lib.hid hb
  have HSZ := Lib.hid hs
  have HN := Lib.hid hnw
  have HKS := Lib.hid hkw
  have HS0 := Lib.hid hS0
  have HR := Lib.hid hr
  have IH := Lib.hid ih
  clear hx hzb hb hs hnw hkw hn hks hS0 hr ih
  unfold ndv
  go_enter Tryz.func64, Tryz.ntmps64
  go_upto_region 1 with fail
  generalize ((w.alloc (.cells #[.int .i64 kN, .slice kaN kiN kjN, .int .i64 mnN, .int .i64 mxN, .bool lzN, .int .i64 gN, .slice qN l.length ktN] 29)).alloc (.cells #[.int .i64 0, .slice none 0 0, .int .i64 0, .int .i64 0, .bool false, .int .i64 0, .slice none 0 0] 29)) = w1 at *
  have HS1 := Lib.hid (show ∀ b, S b → b < w1.heap.size from fun b hb => by have := HS0.out b hb; have := HSZ.out; omega)
  obtain ⟨a0, a1, a2, a3, a4, a5, a6, af⟩ := HX.out.cells
  have HC := Lib.hid (unAll_any N IH.out l qN ktN S w1 HKS.out HS1.out (Sx.right_kids HR.out) hN hz (by omega))
  go_wp2_with fail
  with_reducible refine HC.out.mono ?_
  rintro e w2 hpost
  clear HC a0 a1 a2 a3 a4 a5 a6 af
  rcases hpost with ⟨p, cap, ks, hu, hlo, rfl, hk2, hb2⟩ | ⟨hno, rfl, hb2⟩
  · have hlen := Sx.unL_len hu
    have HU := Lib.hid hu
    have HLO := Lib.hid hlo
    have H4 := Lib.hid (Sx.unL_small hu)
    have hz12 := hb2.size
    have HB2 := Lib.hid (bvia HB.out hb2)
    have HX2 := Lib.hid (HX.out.below hb2)
    have HZ2 := Lib.hid (HZ.out.below hb2)
    have HS2 := Lib.hid (show ∀ b, Joined S w1 w2 b → b < w2.heap.size from fun b hb => Joined.lt HS1.out hz12 hb)
    have HN2 := Lib.hid (HN.out.mono (S' := Joined S w1 w2) (w' := w2) (fun b hb => ⟨.inl hb, hb2.block b (HS1.out b hb)⟩))
    have hov := over_small HR.out (ks := ks) hlen H4.out hlo (by omega)
    have HC := Lib.hid (over_any kN kaN kiN kjN mnN mxN lzN gN qN l.length ktN ks p cap (Joined S w1 w2) w2 HN2.out hk2 HS2.out HR.out hlen H4.out hlo (by omega))
    have HOV := Lib.hid hov
    obtain ⟨Ov, hOv⟩ : ∃ Ov, Ov = Sx.over (.mk kN c mnN mxN lzN gN l) ks := ⟨_, rfl⟩
    rw [← hOv] at HC HOV
    have HOE := Lib.hid hOv
    unfold ndv at HC
    clear hu hlo hk2 hb2 hov hOv hlen HN2 HKS
    obtain ⟨a0, a1, a2, a3, a4, a5, a6, af⟩ := HX2.out.cells
    go_wp2_with fail
    with_reducible refine HC.out.mono ?_
    rintro e w3 ⟨u3, rfl, hu3, hb3⟩
    obtain ⟨k6, ka6, ki6, kj6, mn6, mx6, lz6, g6, kb6, ks6, kt6, rfl, hn6⟩ := nodeVS_open hu3
    have hz23 := hb3.size
    have HB3 := Lib.hid (bvia HB2.out hb3)
    have HZ3 := Lib.hid (HZ2.out.below hb3)
    have hv3 : NodeV w3 (ndv k6 (.slice ka6 ki6 kj6) mn6 mx6 lz6 g6 (.slice kb6 ks6 kt6)) Ov := NodeVS.is hu3 (fun b hb => Joined.lt HS2.out hz23 hb)
    have hb4 := below_new w3 (.cells #[.int .i64 k6, .slice ka6 ki6 kj6, .int .i64 mn6, .int .i64 mx6, .bool lz6, .int .i64 g6, .slice kb6 ks6 kt6] 29)
    have HC2 := Lib.hid (size_any (nsz Ov) Ov (Nat.le_refl _) _ (w3.alloc (.cells #[.int .i64 k6, .slice ka6 ki6 kj6, .int .i64 mn6, .int .i64 mx6, .bool lz6, .int .i64 g6, .slice kb6 ks6 kt6] 29)) (hv3.below hb4) (by have := HOV.out; omega))
    have HBX := Lib.hid (BoxN.new w3 k6 (.slice ka6 ki6 kj6) mn6 mx6 lz6 g6 (.slice kb6 ks6 kt6))
    have HB4 := Lib.hid hb4
    have HN6 := Lib.hid hn6
    unfold ndv at HC2 ⊢
    clear hu3 hn6 hv3 hb4 HC hb3 a0 a1 a2 a3 a4 a5 a6 af HX2 HX
    go_wp2_with fail
    with_reducible refine HC2.out.mono ?_
    rintro e w4 ⟨rfl, hb5⟩
    have HBB := Lib.hid (bvia HB4.out hb5)
    have hz34 := HBB.out.size
    have HBE := Lib.hid (bvia HB3.out HBB.out)
    have HBX4 := HBX.out.below hb5
    obtain ⟨x0, x1, x2, x3, x4, x5, x6, xf⟩ := HBX4.cells
    obtain ⟨y0, y1, y2, y3, y4, y5, y6, yf⟩ := (HZ3.out.below HBB.out).cells
    have hsz := HSZ.out
    clear HC2 HBX HBX4 hb5 HB4 HB3 HB2 HB
    by_cases hbig : 400 < nsz Ov
    · have hd : decide ((400 : Int) < (nsz Ov : Int)) = true := by rw [decide_eq_true_iff]; omega
      have hd' : (400 : Int) < (nsz Ov : Int) := by omega
      have HNONE := Lib.hid (un_big (k := kN) (c := c) (mn := mnN) (mx := mxN) (lz := lzN) (g := gN) HU.out (by rw [← HOE.out]; omega))
      clear hbig
      have h7 := set7_seven w4 (w.heap.size + 1) 0 0 0 0 false (.slice none 0 0) (.slice none 0 0) y0 y1 y2 y3 y4 y5 y6
      have HBF := Lib.hid (below_set7 HBE.out (by omega : w.heap.size ≤ w.heap.size + 1) (.int .i64 0) (.slice none 0 0) (.int .i64 0) (.int .i64 0) (.bool false) (.int .i64 0) (.slice none 0 0))
      go_wp2_with fail
      with_reducible change bodyPost _ _ _ _ _ _
      refine (?_ : bodyPost _ _ _ _ _ (set7 w4 (w.heap.size + 1) (.int .i64 0) (.slice none 0 0) (.int .i64 0) (.int .i64 0) (.bool false) (.int .i64 0) (.slice none 0 0)))
      obtain ⟨z0, z1, z2, z3, z4, z5, z6⟩ := h7
      simp only [Nat.zero_add] at z0 z1 z2 z3 z4 z5 z6
      generalize (set7 w4 (w.heap.size + 1) (.int .i64 0) (.slice none 0 0) (.int .i64 0) (.int .i64 0) (.bool false) (.int .i64 0) (.slice none 0 0)) = wf at *
      exact bodyPost_ret (v := .tuple #[ndv 0 (.slice none 0 0) 0 0 false 0 (.slice none 0 0), .bool false]) (by unfold ndv; simp [results, Tryz.results64, go_sem, *]) rfl (.inr ⟨HNONE.out, rfl, HBF.out⟩)
    · have hd : decide ((400 : Int) < (nsz Ov : Int)) = false := by rw [decide_eq_false_iff_not]; omega
      have hd' : ¬ ((400 : Int) < (nsz Ov : Int)) := by omega
      have HSOME := Lib.hid (show Sx.un (.mk kN c mnN mxN lzN gN l) = some Ov by rw [HOE.out]; exact un_ok HU.out (by rw [← HOE.out]; omega))
      have HNR := Lib.hid (show NodeVS (Joined S w (set7 w4 (w.heap.size + 1) (.int .i64 k6) (.slice ka6 ki6 kj6) (.int .i64 mn6) (.int .i64 mx6) (.bool lz6) (.int .i64 g6) (.slice kb6 ks6 kt6))) (set7 w4 (w.heap.size + 1) (.int .i64 k6) (.slice ka6 ki6 kj6) (.int .i64 mn6) (.int .i64 mx6) (.bool lz6) (.int .i64 g6) (.slice kb6 ks6 kt6)) (ndv k6 (.slice ka6 ki6 kj6) mn6 mx6 lz6 g6 (.slice kb6 ks6 kt6)) Ov from node_laid HS0.out HBE.out.size (HN6.out.mono (fun b hb => by
        have hlt3 : b < w3.heap.size := Joined.lt HS2.out hz23 hb
        refine ⟨?_, HBB.out.block b hlt3⟩
        rcases hb with hb | hb
        · rcases hb with hb | hb
          · have := HS0.out b hb
            exact ⟨.inl hb, by omega⟩
          · have := hb.1
            exact ⟨.inr ⟨by omega, by omega⟩, by omega⟩
        · have := hb.1
          exact ⟨.inr ⟨by omega, by omega⟩, by omega⟩)))
      clear hbig
      have h7 := set7_seven w4 (w.heap.size + 1) k6 mn6 mx6 g6 lz6 (.slice ka6 ki6 kj6) (.slice kb6 ks6 kt6) y0 y1 y2 y3 y4 y5 y6
      have HBF := Lib.hid (below_set7 HBE.out (by omega : w.heap.size ≤ w.heap.size + 1) (.int .i64 k6) (.slice ka6 ki6 kj6) (.int .i64 mn6) (.int .i64 mx6) (.bool lz6) (.int .i64 g6) (.slice kb6 ks6 kt6))
      go_wp2_with fail
      with_reducible change bodyPost _ _ _ _ _ _
      refine (?_ : bodyPost _ _ _ _ _ (set7 w4 (w.heap.size + 1) (.int .i64 k6) (.slice ka6 ki6 kj6) (.int .i64 mn6) (.int .i64 mx6) (.bool lz6) (.int .i64 g6) (.slice kb6 ks6 kt6)))
      obtain ⟨z0, z1, z2, z3, z4, z5, z6⟩ := h7
      simp only [Nat.zero_add] at z0 z1 z2 z3 z4 z5 z6
      generalize (set7 w4 (w.heap.size + 1) (.int .i64 k6) (.slice ka6 ki6 kj6) (.int .i64 mn6) (.int .i64 mx6) (.bool lz6) (.int .i64 g6) (.slice kb6 ks6 kt6)) = wf at *
      exact bodyPost_ret (v := .tuple #[ndv k6 (.slice ka6 ki6 kj6) mn6 mx6 lz6 g6 (.slice kb6 ks6 kt6), .bool true]) (by unfold ndv; simp [results, Tryz.results64, go_sem, *]) rfl (.inl ⟨_, Ov, HSOME.out, rfl, HNR.out, HBF.out⟩)
  · have HNONE := Lib.hid (un_no HR.out hno)
    have HB2 := Lib.hid (bvia HB.out hb2)
    obtain ⟨y0, y1, y2, y3, y4, y5, y6, yf⟩ := (HZ.out.below hb2).cells
    have hsz := HSZ.out
    clear hno hb2 HX HZ HN HKS
    have h7 := set7_seven w2 (w.heap.size + 1) 0 0 0 0 false (.slice none 0 0) (.slice none 0 0) y0 y1 y2 y3 y4 y5 y6
    have HBF := Lib.hid (below_set7 HB2.out (by omega : w.heap.size ≤ w.heap.size + 1) (.int .i64 0) (.slice none 0 0) (.int .i64 0) (.int .i64 0) (.bool false) (.int .i64 0) (.slice none 0 0))
    go_wp2_with fail
    with_reducible change bodyPost _ _ _ _ _ _
    refine (?_ : bodyPost _ _ _ _ _ (set7 w2 (w.heap.size + 1) (.int .i64 0) (.slice none 0 0) (.int .i64 0) (.int .i64 0) (.bool false) (.int .i64 0) (.slice none 0 0)))
    obtain ⟨z0, z1, z2, z3, z4, z5, z6⟩ := h7
    simp only [Nat.zero_add] at z0 z1 z2 z3 z4 z5 z6
    generalize (set7 w2 (w.heap.size + 1) (.int .i64 0) (.slice none 0 0) (.int .i64 0) (.int .i64 0) (.bool false) (.int .i64 0) (.slice none 0 0)) = wf at *
    exact bodyPost_ret (v := .tuple #[ndv 0 (.slice none 0 0) 0 0 false 0 (.slice none 0 0), .bool false]) (by unfold ndv; simp [results, Tryz.results64, go_sem, *]) rfl (.inr ⟨HNONE.out, rfl, HBF.out⟩)
theorem unroll_any : ∀ N : Nat, UnAt N := by
  intro N
  induction N with
  | zero => intro n hn; have := nsz_pos n; omega
  | succ N ih =>
    intro n hN hr hz u S w hu hS
    obtain ⟨k, ka, ki, kj, mn, mx, lz, g, kb, ks, kt, rfl, hn⟩ := nodeVS_open hu
    obtain ⟨hk, p, cap, e, hkids⟩ := nodeS_kids hn
    obtain ⟨k', c, mn', mx', lz', g', l⟩ := n
    have hn' := hn
    rw [NodeS] at hn'
    obtain ⟨rfl, rfl, rfl, rfl, rfl, _⟩ := hn'
    simp only [Sx.Nd.kids, Value.slice.injEq] at e hkids
    obtain ⟨rfl, rfl, rfl⟩ := e
    rw [nsz] at hN hz
    exact unroll_mk N ih k ka ki kj mn mx lz g kb kt c l (by omega) hr (by omega) S w hn hkids hS
end Go.Proofs.YtdoapojmenojoaaGreatDoor
end

section
/- Trees in memory: their blocks are among those that are there. -/
set_option linter.unusedVariables false
namespace Go.Proofs.YtdoapojmenojoaaGreatDoor
open Go.RowKit
open Sx (Nd)

def All (w : World) (b : Nat) : Prop := b < w.heap.size
theorem RowP.toS {w : World} {p : Option Addr} {l : List Cl.Rg} (h : RowP w p l) : RowS (All w) w p l := fun k x hx => by
  obtain ⟨g, off, e, hg, h1, h2⟩ := h k x hx
  exact ⟨g, off, e, hg, h1, h2⟩
mutual
theorem NodeIs.toS {w : World} : ∀ {n : Nd} {k : Int} {vc : Value} {mn mx : Int} {lz : Bool} {g : Int} {vl : Value}, NodeIs w k vc mn mx lz g vl n → NodeS (All w) w k vc mn mx lz g vl n
  | .mk k' c mn' mx' lz' g' kids, k, vc, mn, mx, lz, g, vl, h => by
    rw [NodeIs] at h
    rw [NodeS]
    obtain ⟨h1, h2, h3, h4, h5, i1, i2, i3, i4, hc, hr, hk, ⟨p, cap, e, hp⟩, q, cap', e', hq⟩ := h
    exact ⟨h1, h2, h3, h4, h5, i1, i2, i3, i4, hc, hr, hk, ⟨p, cap, e, RowP.toS hp⟩, q, cap', e', KidsFrom.toS hq⟩
theorem KidsFrom.toS {w : World} : ∀ {l : List Nd} {p : Option Addr} {i : Nat}, KidsFrom w p i l → KidsS (All w) w p i l
  | [], p, i, h => by rw [KidsS]; trivial
  | n :: t, p, i, h => by
    rw [KidsFrom] at h
    rw [KidsS]
    obtain ⟨⟨b, o, k, vc, mn, mx, lz, g, vl, e, hs, h7, hn⟩, ht⟩ := h
    exact ⟨⟨b, o, k, vc, mn, mx, lz, g, vl, e, hs, h7, NodeIs.toS hn⟩, KidsFrom.toS ht⟩
end
theorem Kids.toS {w : World} {p : Option Addr} {l : List Nd} (h : Kids w p l) : KidsS (All w) w p 0 l := KidsFrom.toS ((kids_iff _ _ _).2 h)
theorem KidsS.kids {S : Nat → Prop} {w : World} {p : Option Addr} {l : List Nd} (h : KidsS S w p 0 l) (hS : ∀ b, S b → b < w.heap.size) : Kids w p l := (kids_iff _ _ _).1 (KidsS.is hS h)
theorem NodeV.toS {w : World} {v : Value} {n : Nd} (h : NodeV w v n) : NodeVS (All w) w v n := by
  obtain ⟨k, vc, mn, mx, lz, g, vl, e, h⟩ := h
  exact ⟨k, vc, mn, mx, lz, g, vl, e, NodeIs.toS h⟩
theorem Kids.nil (w : World) (p : Option Addr) : Kids w p [] := fun i n h => by simp at h
/- a node's value, opened -/
theorem NodeV.open {w : World} {u : Value} {n : Nd} (h : NodeV w u n) : ∃ k ka ki kj mn mx lz g kb ks kt, u = nv k ka ki kj mn mx lz g kb ks kt ∧ NodeV w (nv k ka ki kj mn mx lz g kb ks kt) n := by
  obtain ⟨k, vc, mn, mx, lz, g, vl, rfl, hn⟩ := h
  obtain ⟨ka, ki, kj, kb, ks, kt, rfl, rfl⟩ := nodeS_shape (NodeIs.toS hn)
  exact ⟨k, ka, ki, kj, mn, mx, lz, g, kb, ks, kt, rfl, k, _, mn, mx, lz, g, _, rfl, hn⟩
/- a node that has no class -/
theorem node_row {w : World} {k mn mx g : Int} {lz : Bool} {kids : List Nd} {q : Option Addr} {cap : Nat} (i1 : I64 k) (i2 : I64 mn) (i3 : I64 mx) (i4 : I64 g) (hl : kids.length ≤ 1000000) (h : Kids w q kids) : NodeV w (nv k none 0 0 mn mx lz g q kids.length cap) (.mk k [] mn mx lz g kids) :=
  ⟨k, _, mn, mx, lz, g, _, rfl, node_mk (c := []) i1 i2 i3 i4 (by simp) (fun k r hr => by simp at hr) hl (RowP.nil _ _) h⟩
/- one node in a block of its own -/
theorem kids_one {w : World} {B : Nat} {k : Int} {ka : Option Addr} {ki kj : Nat} {mn mx : Int} {lz : Bool} {g : Int} {kb : Option Addr} {ks kt : Nat} {n : Nd} (h : NBx w B k ka ki kj mn mx lz g kb ks kt n) : Kids w (some ⟨B, 0, none⟩) [n] := fun i m hm => by
  match i, hm with
  | 0, hm =>
    simp at hm
    subst hm
    obtain ⟨k', vc, mn', mx', lz', g', vl, e, hi⟩ := h.nd
    unfold ndv at e
    simp only [Value.agg.injEq, Array.mk.injEq, List.cons.injEq, Value.int.injEq, Value.bool.injEq, true_and, and_true] at e
    obtain ⟨rfl, rfl, rfl, rfl, rfl, rfl, rfl⟩ := e
    exact ⟨B, 0, k, _, mn, mx, lz, g, _, rfl, h.lt, by simpa using h.box, hi⟩
  | i + 1, hm => simp at hm
end Go.Proofs.YtdoapojmenojoaaGreatDoor
end

section
/- Of, and Is. -/
set_option linter.unusedVariables false
namespace Go.Proofs.YtdoapojmenojoaaGreatDoor
open Go.RowKit
open Sx (Nd)

def OfPost (S : Nat → Prop) (w : World) (n : Nd) (e : Ending) (w' : World) : Prop :=
  (∃ u t, Sx.right n ∧ Sx.un n = some t ∧ e = .returned (.tuple #[u, .int .i64 0]) ∧ NodeVS (Joined S w w') w' u t ∧ Below w.heap.size w w') ∨ (Sx.right n ∧ Sx.un n = none ∧ e = .returned (.tuple #[ndv 0 (.slice none 0 0) 0 0 false 0 (.slice none 0 0), .int .i64 3]) ∧ Below w.heap.size w w') ∨ (¬ Sx.right n ∧ e = .returned (.tuple #[ndv 0 (.slice none 0 0) 0 0 false 0 (.slice none 0 0), .int .i64 1]) ∧ Below w.heap.size w w')
set_option maxRecDepth 20000 in
set_option maxHeartbeats 4000000 in
theorem of_mk (kN : Int) (kaN : Option Addr) (kiN kjN : Nat) (mnN mxN : Int) (lzN : Bool) (gN : Int) (kbN : Option Addr) (ksN ktN : Nat) {n : Nd} (S : Nat → Prop) (w : World) (hn : NodeS S w kN (.slice kaN kiN kjN) mnN mxN lzN gN (.slice kbN ksN ktN) n) (hS0 : ∀ b, S b → b < w.heap.size) (hz : nsz n ≤ 500000) : Calls Tryz.prog 30 #[ndv kN (.slice kaN kiN kjN) mnN mxN lzN gN (.slice kbN ksN ktN)] w (OfPost S w n) := by
  obtain ⟨hx, hzb, hb, hs, hnw⟩ := boxes2 w kN kaN kiN kjN mnN mxN lzN gN kbN ksN ktN hn hS0
  have HX := Lib.hid hx
  have HZ := Lib.hid hzb
  have HB := Lib.hid hb
  have HSZ := Lib.hid hs
  have HN := Lib.hid hnw
  have HS0 := Lib.hid hS0
  obtain ⟨v, hv⟩ := rgt_some n
  have HV := Lib.hid hv
  clear hx hzb hb hs hnw hn hS0 hv
  unfold ndv
  go_enter Tryz.func30, Tryz.ntmps30
  go_upto_region 1 with fail
  generalize ((w.alloc (.cells #[.int .i64 kN, .slice kaN kiN kjN, .int .i64 mnN, .int .i64 mxN, .bool lzN, .int .i64 gN, .slice kbN ksN ktN] 29)).alloc (.cells #[.int .i64 0, .slice none 0 0, .int .i64 0, .int .i64 0, .bool false, .int .i64 0, .slice none 0 0] 29)) = w1 at *
  have HS1 := Lib.hid (show ∀ b, S b → b < w1.heap.size from fun b hb => by have := HS0.out b hb; have := HSZ.out; omega)
  have hnv : NodeV w1 (ndv kN (.slice kaN kiN kjN) mnN mxN lzN gN (.slice kbN ksN ktN)) n := NodeVS.is ⟨kN, _, mnN, mxN, lzN, gN, _, rfl, HN.out⟩ HS1.out
  have HC := Lib.hid (pright_any n _ v w1 hnv HV.out)
  unfold ndv at HC
  obtain ⟨a0, a1, a2, a3, a4, a5, a6, af⟩ := HX.out.cells
  clear hnv
  cases v with
  | false =>
    have HNR := Lib.hid (show ¬ Sx.right n from fun h => by have := HV.out.2 h; cases this)
    go_wp2_with fail
    with_reducible refine HC.out.mono ?_
    rintro e w2 ⟨rfl, hb2⟩
    have HB2 := Lib.hid (bvia HB.out hb2)
    obtain ⟨y0, y1, y2, y3, y4, y5, y6, yf⟩ := (HZ.out.below hb2).cells
    have hsz := HSZ.out
    clear HC hb2 HX HZ HN a0 a1 a2 a3 a4 a5 a6 af
    have h7 := set7_seven w2 (w.heap.size + 1) 0 0 0 0 false (.slice none 0 0) (.slice none 0 0) y0 y1 y2 y3 y4 y5 y6
    have HBF := Lib.hid (below_set7 HB2.out (by omega : w.heap.size ≤ w.heap.size + 1) (.int .i64 0) (.slice none 0 0) (.int .i64 0) (.int .i64 0) (.bool false) (.int .i64 0) (.slice none 0 0))
    go_wp2_with fail
    with_reducible change bodyPost _ _ _ _ _ _
    refine (?_ : bodyPost _ _ _ _ _ (set7 w2 (w.heap.size + 1) (.int .i64 0) (.slice none 0 0) (.int .i64 0) (.int .i64 0) (.bool false) (.int .i64 0) (.slice none 0 0)))
    obtain ⟨z0, z1, z2, z3, z4, z5, z6⟩ := h7
    simp only [Nat.zero_add] at z0 z1 z2 z3 z4 z5 z6
    generalize (set7 w2 (w.heap.size + 1) (.int .i64 0) (.slice none 0 0) (.int .i64 0) (.int .i64 0) (.bool false) (.int .i64 0) (.slice none 0 0)) = wf at *
    exact bodyPost_ret (v := .tuple #[ndv 0 (.slice none 0 0) 0 0 false 0 (.slice none 0 0), .int .i64 1]) (by unfold ndv; simp [results, Tryz.results30, go_sem, *]) rfl (.inr (.inr ⟨HNR.out, rfl, HBF.out⟩))
  | true =>
    have HRR := Lib.hid (show Sx.right n from HV.out.1 rfl)
    go_wp2_with fail
    with_reducible refine HC.out.mono ?_
    rintro e w2 ⟨rfl, hb2⟩
    have HB2 := Lib.hid (bvia HB.out hb2)
    have HX2 := Lib.hid (HX.out.below hb2)
    have HZ2 := Lib.hid (HZ.out.below hb2)
    have hz12 := hb2.size
    have HS2 := Lib.hid (show ∀ b, S b → b < w2.heap.size from fun b hb => Nat.lt_of_lt_of_le (HS1.out b hb) hz12)
    have HN2 := Lib.hid (HN.out.mono (S' := S) (w' := w2) (fun b hb => ⟨hb, hb2.block b (HS1.out b hb)⟩))
    clear HC hb2 HX HZ HN HB a0 a1 a2 a3 a4 a5 a6 af
    obtain ⟨a0, a1, a2, a3, a4, a5, a6, af⟩ := HX2.out.cells
    have HC := Lib.hid (unroll_any (nsz n) n (Nat.le_refl _) HRR.out hz (ndv kN (.slice kaN kiN kjN) mnN mxN lzN gN (.slice kbN ksN ktN)) S w2 ⟨kN, _, mnN, mxN, lzN, gN, _, rfl, HN2.out⟩ HS2.out)
    unfold ndv at HC
    go_wp2_with fail
    with_reducible refine HC.out.mono ?_
    rintro e w3 hpost
    have hsz := HSZ.out
    clear HC a0 a1 a2 a3 a4 a5 a6 af
    rcases hpost with ⟨u, t, hut, rfl, hu, hb3⟩ | ⟨hun, rfl, hb3⟩
    · obtain ⟨k6, ka6, ki6, kj6, mn6, mx6, lz6, g6, kb6, ks6, kt6, rfl, hn6⟩ := nodeVS_open hu
      have HUT := Lib.hid hut
      have HB3 := Lib.hid (bvia HB2.out hb3)
      have hzb3 := HZ2.out.below hb3
      have hz23 := hb3.size
      have HN6 := Lib.hid hn6
      obtain ⟨y0, y1, y2, y3, y4, y5, y6, yf⟩ := hzb3.cells
      unfold ndv
      go_upto_region 4 with fail
      have hbox := hzb3.set7 k6 mn6 mx6 g6 (.slice ka6 ki6 kj6) (.slice kb6 ks6 kt6) lz6
      have hbs := below_set7 HB3.out (by omega : w.heap.size ≤ w.heap.size + 1) (.int .i64 k6) (.slice ka6 ki6 kj6) (.int .i64 mn6) (.int .i64 mx6) (.bool lz6) (.int .i64 g6) (.slice kb6 ks6 kt6)
      have hn7 : NodeS (fun b => (S b ∨ (w.heap.size ≤ b ∧ b < (set7 w3 (w.heap.size + 1) (.int .i64 k6) (.slice ka6 ki6 kj6) (.int .i64 mn6) (.int .i64 mx6) (.bool lz6) (.int .i64 g6) (.slice kb6 ks6 kt6)).heap.size)) ∧ b ≠ w.heap.size + 1) (set7 w3 (w.heap.size + 1) (.int .i64 k6) (.slice ka6 ki6 kj6) (.int .i64 mn6) (.int .i64 mx6) (.bool lz6) (.int .i64 g6) (.slice kb6 ks6 kt6)) k6 (.slice ka6 ki6 kj6) mn6 mx6 lz6 g6 (.slice kb6 ks6 kt6) t := HN6.out.mono (fun b hb => by
        have hh : (S b ∨ (w.heap.size ≤ b ∧ b < w3.heap.size)) ∧ b ≠ w.heap.size + 1 := by
          rcases hb with hb | hb
          · have := HS0.out b hb; exact ⟨.inl hb, by omega⟩
          · have := hb.1; exact ⟨.inr ⟨by omega, hb.2⟩, by omega⟩
        exact ⟨⟨by rw [set7_size]; exact hh.1, hh.2⟩, set7_block _ _ _ _ _ _ _ _ _ b hh.2⟩)
      refine (?_ : Code.wp _ _ _ _ (set7 w3 (w.heap.size + 1) (.int .i64 k6) (.slice ka6 ki6 kj6) (.int .i64 mn6) (.int .i64 mx6) (.bool lz6) (.int .i64 g6) (.slice kb6 ks6 kt6)))
      clear y0 y1 y2 y3 y4 y5 y6 yf HB2 HX2 HZ2 hb3 hu hn6 hzb3
      generalize (set7 w3 (w.heap.size + 1) (.int .i64 k6) (.slice ka6 ki6 kj6) (.int .i64 mn6) (.int .i64 mx6) (.bool lz6) (.int .i64 g6) (.slice kb6 ks6 kt6)) = w4 at *
      have HB4 := Lib.hid hbs
      have HN7 := Lib.hid hn7
      obtain ⟨y0, y1, y2, y3, y4, y5, y6, yf⟩ := hbox.cells
      clear hbs hn7 hbox
      have h7 := set7_seven w4 (w.heap.size + 1) k6 mn6 mx6 g6 lz6 (.slice ka6 ki6 kj6) (.slice kb6 ks6 kt6) y0 y1 y2 y3 y4 y5 y6
      have HBF := Lib.hid (below_set7 HB4.out (by omega : w.heap.size ≤ w.heap.size + 1) (.int .i64 k6) (.slice ka6 ki6 kj6) (.int .i64 mn6) (.int .i64 mx6) (.bool lz6) (.int .i64 g6) (.slice kb6 ks6 kt6))
      have HNR := Lib.hid (show NodeVS (Joined S w (set7 w4 (w.heap.size + 1) (.int .i64 k6) (.slice ka6 ki6 kj6) (.int .i64 mn6) (.int .i64 mx6) (.bool lz6) (.int .i64 g6) (.slice kb6 ks6 kt6))) (set7 w4 (w.heap.size + 1) (.int .i64 k6) (.slice ka6 ki6 kj6) (.int .i64 mn6) (.int .i64 mx6) (.bool lz6) (.int .i64 g6) (.slice kb6 ks6 kt6)) (ndv k6 (.slice ka6 ki6 kj6) mn6 mx6 lz6 g6 (.slice kb6 ks6 kt6)) t from node_laid HS0.out HB4.out.size HN7.out)
      go_wp2_with fail
      with_reducible change bodyPost _ _ _ _ _ _
      refine (?_ : bodyPost _ _ _ _ _ (set7 w4 (w.heap.size + 1) (.int .i64 k6) (.slice ka6 ki6 kj6) (.int .i64 mn6) (.int .i64 mx6) (.bool lz6) (.int .i64 g6) (.slice kb6 ks6 kt6)))
      obtain ⟨z0, z1, z2, z3, z4, z5, z6⟩ := h7
      simp only [Nat.zero_add] at z0 z1 z2 z3 z4 z5 z6
      generalize (set7 w4 (w.heap.size + 1) (.int .i64 k6) (.slice ka6 ki6 kj6) (.int .i64 mn6) (.int .i64 mx6) (.bool lz6) (.int .i64 g6) (.slice kb6 ks6 kt6)) = wf at *
      exact bodyPost_ret (v := .tuple #[ndv k6 (.slice ka6 ki6 kj6) mn6 mx6 lz6 g6 (.slice kb6 ks6 kt6), .int .i64 0]) (by unfold ndv; simp [results, Tryz.results30, go_sem, *]) rfl (.inl ⟨_, t, HRR.out, HUT.out, rfl, HNR.out, HBF.out⟩)
    · have HUN := Lib.hid hun
      have HB3 := Lib.hid (bvia HB2.out hb3)
      have hzb3 := HZ2.out.below hb3
      obtain ⟨y0, y1, y2, y3, y4, y5, y6, yf⟩ := hzb3.cells
      unfold ndv
      go_upto_region 4 with fail
      have hbox := hzb3.set7 0 0 0 0 (.slice none 0 0) (.slice none 0 0) false
      have hbs := below_set7 HB3.out (by omega : w.heap.size ≤ w.heap.size + 1) (.int .i64 0) (.slice none 0 0) (.int .i64 0) (.int .i64 0) (.bool false) (.int .i64 0) (.slice none 0 0)
      refine (?_ : Code.wp _ _ _ _ (set7 w3 (w.heap.size + 1) (.int .i64 0) (.slice none 0 0) (.int .i64 0) (.int .i64 0) (.bool false) (.int .i64 0) (.slice none 0 0)))
      clear y0 y1 y2 y3 y4 y5 y6 yf HB2 HX2 HZ2 hb3 hzb3
      generalize (set7 w3 (w.heap.size + 1) (.int .i64 0) (.slice none 0 0) (.int .i64 0) (.int .i64 0) (.bool false) (.int .i64 0) (.slice none 0 0)) = w4 at *
      have HB4 := Lib.hid hbs
      obtain ⟨y0, y1, y2, y3, y4, y5, y6, yf⟩ := hbox.cells
      clear hbs hbox
      have h7 := set7_seven w4 (w.heap.size + 1) 0 0 0 0 false (.slice none 0 0) (.slice none 0 0) y0 y1 y2 y3 y4 y5 y6
      have HBF := Lib.hid (below_set7 HB4.out (by omega : w.heap.size ≤ w.heap.size + 1) (.int .i64 0) (.slice none 0 0) (.int .i64 0) (.int .i64 0) (.bool false) (.int .i64 0) (.slice none 0 0))
      go_wp2_with fail
      with_reducible change bodyPost _ _ _ _ _ _
      refine (?_ : bodyPost _ _ _ _ _ (set7 w4 (w.heap.size + 1) (.int .i64 0) (.slice none 0 0) (.int .i64 0) (.int .i64 0) (.bool false) (.int .i64 0) (.slice none 0 0)))
      obtain ⟨z0, z1, z2, z3, z4, z5, z6⟩ := h7
      simp only [Nat.zero_add] at z0 z1 z2 z3 z4 z5 z6
      generalize (set7 w4 (w.heap.size + 1) (.int .i64 0) (.slice none 0 0) (.int .i64 0) (.int .i64 0) (.bool false) (.int .i64 0) (.slice none 0 0)) = wf at *
      exact bodyPost_ret (v := .tuple #[ndv 0 (.slice none 0 0) 0 0 false 0 (.slice none 0 0), .int .i64 3]) (by unfold ndv; simp [results, Tryz.results30, go_sem, *]) rfl (.inr (.inl ⟨HRR.out, HUN.out, rfl, HBF.out⟩))
theorem sof_any (n : Nd) (u : Value) (w : World) (h : NodeV w u n) (hz : nsz n ≤ 500000) : Calls Tryz.prog 30 #[u] w (OfPost (All w) w n) := by
  obtain ⟨k, ka, ki, kj, mn, mx, lz, g, kb, ks, kt, rfl, hn⟩ := nodeVS_open h.toS
  exact of_mk k ka ki kj mn mx lz g kb ks kt (All w) w hn (fun b hb => hb) hz
end Go.Proofs.YtdoapojmenojoaaGreatDoor
end

section
/- Is: the program's own. -/
set_option linter.unusedVariables false
namespace Go.Proofs.YtdoapojmenojoaaGreatDoor
open Go.RowKit
open Sx (Nd)

def IsU (n : Nd) (v : Bool) : Prop := v = true ↔ Sx.isUn n
theorem isu_some (n : Nd) : ∃ v, IsU n v := by
  by_cases h : Sx.isUn n
  · exact ⟨true, fun _ => h, fun _ => rfl⟩
  · exact ⟨false, fun e => (by cases e), fun e => absurd e h⟩
theorem isUnL_take {l : List Nd} {i : Nat} {n : Nd} (h : l[i]? = some n) : Sx.isUnL (l.take (i + 1)) ↔ Sx.isUnL (l.take i) ∧ Sx.isUn n := by
  have hi := (List.getElem?_eq_some_iff.1 h).1
  have hv := (List.getElem?_eq_some_iff.1 h).2
  rw [List.take_succ_eq_append_getElem hi, hv, Sx.isUnL_iff, Sx.isUnL_iff]
  constructor
  · exact fun h => ⟨fun m hm => h m (List.mem_append.2 (.inl hm)), h n (by simp)⟩
  · rintro ⟨h1, h2⟩ m hm
    rcases List.mem_append.1 hm with hm | hm
    · exact h1 m hm
    · simp at hm; subst hm; exact h2
theorem isun_mem {l : List Nd} {i : Nat} {n : Nd} (h : l[i]? = some n) (hl : Sx.isUnL l) : Sx.isUn n := (Sx.isUnL_iff l).1 hl n (List.mem_of_getElem? h)
set_option maxRecDepth 20000 in
set_option maxHeartbeats 4000000 in
theorem isun_any : ∀ (N : Nat) (n : Nd), nsz n ≤ N → ∀ (u : Value) (v : Bool) (w : World), NodeV w u n → IsU n v → Calls Tryz.prog 67 #[u] w fun e w' => e = .returned (.bool v) ∧ Below w.heap.size w w' := by
  intro N
  induction N with
  | zero => intro n hn; have := nsz_pos n; omega
  | succ N ih =>
    intro n hN u v w hu hv
    obtain ⟨kN, c, mnN, mxN, lzN, gN, kids, kaN, kjN, q, cap, rfl, rfl, i1, i2, i3, i4, hc, hr, hk, hp, hq⟩ := node_open hu
    obtain ⟨kiN, hki⟩ : ∃ kiN, kiN = c.length := ⟨_, rfl⟩
    rw [← hki]
    have HQ := Lib.hid hq
    have IH := Lib.hid ih
    have hN' : nszs kids ≤ N := by rw [nsz] at hN; omega
    have hvv : v = true ↔ (kN = 8 → Sx.stay mnN mxN = true) ∧ Sx.isUnL kids := by have := hv; unfold IsU at this; rwa [Sx.isUn] at this
    have HB := Lib.hid (below_new w (.cells #[.int .i64 kN, .slice kaN kiN kjN, .int .i64 mnN, .int .i64 mxN, .bool lzN, .int .i64 gN, .slice q kids.length cap] 29))
    clear hu hp hq hr i1 i2 i3 i4 ih hN hc hki hv
    unfold ndv
    by_cases h8 : kN = 8
    · subst h8
      have HC := Lib.hid (stays_any 8 (.slice kaN kiN kjN) (.slice q kids.length cap) mnN mxN gN lzN (w.alloc (.cells #[.int .i64 8, .slice kaN kiN kjN, .int .i64 mnN, .int .i64 mxN, .bool lzN, .int .i64 gN, .slice q kids.length cap] 29)) ⟨_, _, _, _, _, _, rfl, rfl⟩)
      unfold ndv at HC
      cases hst : Sx.stay mnN mxN with
      | false =>
        have hvf : v = false := by
          cases v with
          | false => rfl
          | true => have := (hvv.1 rfl).1 rfl; rw [hst] at this; cases this
        subst hvf
        rw [hst] at HC
        clear hst hvv
        go_enter Tryz.func67, Tryz.ntmps67
        go_wp2_with fail
        with_reducible refine HC.out.mono ?_
        rintro e w2 ⟨rfl, hb2⟩
        have HW := Lib.hid (bvia HB.out hb2)
        clear HC hb2
        go_wp2_with fail
        go_ret
        exact ⟨rfl, HW.out⟩
      | true =>
        have HV2 := Lib.hid (show v = true ↔ Sx.isUnL kids from hvv.trans ⟨fun h => h.2, fun h => ⟨fun _ => hst, h⟩⟩)
        rw [hst] at HC
        clear hst hvv
        go_enter Tryz.func67, Tryz.ntmps67
        go_wp2_with fail
        with_reducible refine HC.out.mono ?_
        rintro e w2 ⟨rfl, hb2⟩
        have hbox := (BoxN.new w 8 (.slice kaN kiN kjN) mnN mxN lzN gN (.slice q kids.length cap)).below hb2
        obtain ⟨c0, c1, c2, c3, c4, c5, c6, cf⟩ := hbox.cells
        have HW := Lib.hid (bvia HB.out hb2)
        clear HC hb2 hbox HB
        have HB := HW
        go_wp2_with fail
        go_loopw [16] (fun i wr => ∃ m : Nat, i = .int .i64 (m : Int) ∧ m ≤ kids.length ∧ Hid (Sx.isUnL (kids.take m)) ∧ Hid (Below w.heap.size w wr)) (fun i _ => kids.length - (intOf i).toNat)
        case atStart => exact ⟨0, rfl, Nat.zero_le _, Lib.hid (by rw [List.take_zero, Sx.isUnL]; trivial), HB⟩
        case round =>
          obtain ⟨m, rfl, hm, ht, HBr⟩ := hrel
          have br := HBr.out
          by_cases hlt : m < kids.length
          · obtain ⟨x, hx⟩ : ∃ x, kids[m]? = some x := ⟨_, List.getElem?_eq_getElem hlt⟩
            obtain ⟨b, o, k', vc', mn', mx', lz', g', vl', rfl, hb, f7, hx'⟩ := (HQ.out.below br).get hx
            have hle := nszs_mem hx
            have hml : (m : Int) < (kids.length : Int) := by omega
            obtain ⟨a1, i1, j1, b1, s1, t1, rfl, rfl⟩ := node_shape hx'
            obtain ⟨r, hr⟩ := isu_some x
            have HC := Lib.hid (IH.out x (by omega) _ r _ (hx'.below (below_new wr (.cells #[.int .i64 k', .slice a1 i1 j1, .int .i64 mn', .int .i64 mx', .bool lz', .int .i64 g', .slice b1 s1 t1] 29))) hr)
            have HXX := Lib.hid hx
            have HR := Lib.hid hr
            have HB1 := Lib.hid (bvia br (below_new wr (.cells #[.int .i64 k', .slice a1 i1 j1, .int .i64 mn', .int .i64 mx', .bool lz', .int .i64 g', .slice b1 s1 t1] 29)))
            unfold ndv at HC
            clear hx hx' hr
            obtain ⟨f0, f1, f2, f3, f4, f5, f6⟩ := f7
            cases r with
            | true =>
              go_wp2_with fail
              with_reducible refine HC.out.mono ?_
              rintro e w9 ⟨rfl, hw9⟩
              have HW := Lib.hid (bvia HB1.out hw9)
              clear hw9 HC
              go_wp2_with fail
              go_roundw
              case rel => exact ⟨m + 1, by go_num, by omega, Lib.hid ((isUnL_take HXX.out).2 ⟨ht.out, HR.out.1 rfl⟩), HW⟩
              case measure => simp [intOf]; omega
            | false =>
              have hvf : v = false := by
                cases v with
                | false => rfl
                | true => have := HR.out.2 (isun_mem HXX.out (HV2.out.1 rfl)); cases this
              subst hvf
              go_wp2_with fail
              with_reducible refine HC.out.mono ?_
              rintro e w9 ⟨rfl, hw9⟩
              have HW := Lib.hid (bvia HB1.out hw9)
              clear hw9 HC
              go_wp2_with fail
              go_ret
              exact ⟨rfl, HW.out⟩
          · obtain rfl : m = kids.length := by omega
            obtain rfl : v = true := HV2.out.2 (by have := ht.out; rwa [List.take_length] at this)
            have hlt' : ¬ ((kids.length : Int) < (kids.length : Int)) := by omega
            go_wp2_with fail
            go_ret
            exact ⟨rfl, br⟩
    · have e8 : (kN == 8) = false := by rw [beq_eq_false_iff_ne]; exact h8
      have HV2 := Lib.hid (show v = true ↔ Sx.isUnL kids from hvv.trans ⟨fun h => h.2, fun h => ⟨fun e => absurd e h8, h⟩⟩)
      clear h8 hvv
      go_enter Tryz.func67, Tryz.ntmps67
      go_wp2_with fail
      go_loopw [16] (fun i wr => ∃ m : Nat, i = .int .i64 (m : Int) ∧ m ≤ kids.length ∧ Hid (Sx.isUnL (kids.take m)) ∧ Hid (Below w.heap.size w wr)) (fun i _ => kids.length - (intOf i).toNat)
      case atStart => exact ⟨0, rfl, Nat.zero_le _, Lib.hid (by rw [List.take_zero, Sx.isUnL]; trivial), HB⟩
      case round =>
        obtain ⟨m, rfl, hm, ht, HBr⟩ := hrel
        have br := HBr.out
        by_cases hlt : m < kids.length
        · obtain ⟨x, hx⟩ : ∃ x, kids[m]? = some x := ⟨_, List.getElem?_eq_getElem hlt⟩
          obtain ⟨b, o, k', vc', mn', mx', lz', g', vl', rfl, hb, f7, hx'⟩ := (HQ.out.below br).get hx
          have hle := nszs_mem hx
          have hml : (m : Int) < (kids.length : Int) := by omega
          obtain ⟨a1, i1, j1, b1, s1, t1, rfl, rfl⟩ := node_shape hx'
          obtain ⟨r, hr⟩ := isu_some x
          have HC := Lib.hid (IH.out x (by omega) _ r _ (hx'.below (below_new wr (.cells #[.int .i64 k', .slice a1 i1 j1, .int .i64 mn', .int .i64 mx', .bool lz', .int .i64 g', .slice b1 s1 t1] 29))) hr)
          have HXX := Lib.hid hx
          have HR := Lib.hid hr
          have HB1 := Lib.hid (bvia br (below_new wr (.cells #[.int .i64 k', .slice a1 i1 j1, .int .i64 mn', .int .i64 mx', .bool lz', .int .i64 g', .slice b1 s1 t1] 29)))
          unfold ndv at HC
          clear hx hx' hr
          obtain ⟨f0, f1, f2, f3, f4, f5, f6⟩ := f7
          cases r with
          | true =>
            go_wp2_with fail
            with_reducible refine HC.out.mono ?_
            rintro e w9 ⟨rfl, hw9⟩
            have HW := Lib.hid (bvia HB1.out hw9)
            clear hw9 HC
            go_wp2_with fail
            go_roundw
            case rel => exact ⟨m + 1, by go_num, by omega, Lib.hid ((isUnL_take HXX.out).2 ⟨ht.out, HR.out.1 rfl⟩), HW⟩
            case measure => simp [intOf]; omega
          | false =>
            have hvf : v = false := by
              cases v with
              | false => rfl
              | true => have := HR.out.2 (isun_mem HXX.out (HV2.out.1 rfl)); cases this
            subst hvf
            go_wp2_with fail
            with_reducible refine HC.out.mono ?_
            rintro e w9 ⟨rfl, hw9⟩
            have HW := Lib.hid (bvia HB1.out hw9)
            clear hw9 HC
            go_wp2_with fail
            go_ret
            exact ⟨rfl, HW.out⟩
        · obtain rfl : m = kids.length := by omega
          obtain rfl : v = true := HV2.out.2 (by have := ht.out; rwa [List.take_length] at this)
          have hlt' : ¬ ((kids.length : Int) < (kids.length : Int)) := by omega
          go_wp2_with fail
          go_ret
          exact ⟨rfl, br⟩
set_option maxRecDepth 20000 in
set_option maxHeartbeats 4000000 in
theorem is_any (n : Nd) (u : Value) (v : Bool) (w : World) (hu : NodeV w u n) (hv : v = true ↔ Sx.right n ∧ Sx.isUn n) : Calls Tryz.prog 38 #[u] w fun e w' => e = .returned (.bool v) ∧ Below w.heap.size w w' := by
  obtain ⟨k, ka, ki, kj, mn, mx, lz, g, kb, ks, kt, rfl, hn⟩ := hu.open
  obtain ⟨r, hr⟩ := rgt_some n
  have HB := Lib.hid (below_new w (.cells #[.int .i64 k, .slice ka ki kj, .int .i64 mn, .int .i64 mx, .bool lz, .int .i64 g, .slice kb ks kt] 29))
  have hn1 := hn.below HB.out
  have HC := Lib.hid (pright_any n _ r (w.alloc (.cells #[.int .i64 k, .slice ka ki kj, .int .i64 mn, .int .i64 mx, .bool lz, .int .i64 g, .slice kb ks kt] 29)) hn1 hr)
  have HBX := Lib.hid (BoxN.new w k (.slice ka ki kj) mn mx lz g (.slice kb ks kt))
  have HN := Lib.hid hn1
  have HRG := Lib.hid hr
  clear hn hn1 hr hu
  cases r with
  | false =>
    have hvf : v = false := by
      cases v with
      | false => rfl
      | true => have := HRG.out.2 (hv.1 rfl).1; cases this
    subst hvf
    clear hv
    go_enter Tryz.func38, Tryz.ntmps38
    go_wp2_with fail
    with_reducible refine HC.out.mono ?_
    rintro e w2 ⟨rfl, hb2⟩
    have HW := Lib.hid (bvia HB.out hb2)
    clear HC hb2
    go_wp2_with fail
    go_ret
    exact ⟨rfl, HW.out⟩
  | true =>
    have HV := Lib.hid (show IsU n v from hv.trans ⟨fun h => h.2, fun h => ⟨HRG.out.1 rfl, h⟩⟩)
    clear hv
    go_enter Tryz.func38, Tryz.ntmps38
    go_wp2_with fail
    with_reducible refine HC.out.mono ?_
    rintro e w2 ⟨rfl, hb2⟩
    have HW := Lib.hid (bvia HB.out hb2)
    have HN2 := Lib.hid (HN.out.below hb2)
    obtain ⟨c0, c1, c2, c3, c4, c5, c6, cf⟩ := (HBX.out.below hb2).cells
    have HC2 := Lib.hid (isun_any (nsz n) n (Nat.le_refl _) _ v w2 HN2.out HV.out)
    clear HC hb2
    go_wp2_with fail
    with_reducible refine HC2.out.mono ?_
    rintro e w3 ⟨rfl, hb3⟩
    have HW3 := Lib.hid (bvia HW.out hb3)
    clear HC2 hb3
    go_wp2_with fail
    go_ret
    exact ⟨rfl, HW3.out⟩
end Go.Proofs.YtdoapojmenojoaaGreatDoor
end
