import Derived.Test.YtdoapojmenojoaaGreatDoorJPFlat
import Derived.Test.YtdoapojmenojoaaGreatDoorJSimM
set_option linter.unusedSimpArgs false
set_option linter.unusedVariables false
section
/- Nothing is appended. -/
set_option linter.unusedVariables false
namespace Go.Proofs.YtdoapojmenojoaaGreatDoor
open Go.RowKit
open Sx (Nd)

theorem run_append_nothing {P : Program} (w : World) (t ty e : TypeId) (i : TypeInfo) (ht : P.underlying t = some (.slice e)) (hi : P.info? e = some i) (p : Option Addr) (n c : Nat) (q : Option Addr) (cx : Nat) (hnc : n ≤ c) :
    (Builtin.append_ #[t, t] ty #[.slice p n c, .slice q 0 cx]).run P w = .ok (.slice p n c) w := by
  cases q <;> cases p <;> simp [Builtin.append_, run_underlying ht, sizeOf, typeInfo, hi, Builtin.lenOf, hnc, Builtin.firstCells, loadCells, loadCellsFrom, storeCells]
theorem wp_append_nothing {P : Program} (w : World) {o : Oper} {a : Act} {K : Act → World → Prop} {Q : Exit → Act → World → Prop} (s x : Operand) (t : TypeId)
    (ho : o.op = .call { callee := .builtin .append, args := #[s, x], argTypes := #[t, t] }) (e : TypeId) (ht : P.underlying t = some (.slice e))
    (hi : (P.info? e).map (fun i => (i.zero, i.size, i.bytes)) = some (some (ndv 0 (.slice none 0 0) 0 0 false 0 (.slice none 0 0)), 7, 88)) (p : Option Addr) (n c : Nat) (q : Option Addr) (cx : Nat) (hs : a.eval s = .slice p n c) (hx : a.eval x = .slice q 0 cx) (hnc : n ≤ c)
    (h : K (a.put o.dst (.slice p n c)) w) : o.wp P a w K Q := by
  obtain ⟨i0, hi, hz0, hz1, hz2⟩ := info_parts hi
  have hr := run_append_nothing (P := P) w t o.type e i0 ht hi p n c q cx hnc
  unfold Oper.wp execOp
  simp only [ho, resolve, invoke, builtin, Sem.run_bind, Sem.run_pure, Result.andThen_ok, List.map_toArray, List.map_cons, List.map_nil, hs, hx, hr]
  exact h
theorem wpList_append_nothing {P : Program} (w : World) {ops : Array Oper} {rest : List Oper} {o : Oper} {a : Act} {Q : Exit → Act → World → Prop} (hgd : o.guard = none) (s x : Operand) (t : TypeId)
    (ho : o.op = .call { callee := .builtin .append, args := #[s, x], argTypes := #[t, t] }) (e : TypeId) (ht : P.underlying t = some (.slice e))
    (hi : (P.info? e).map (fun i => (i.zero, i.size, i.bytes)) = some (some (ndv 0 (.slice none 0 0) 0 0 false 0 (.slice none 0 0)), 7, 88)) (p : Option Addr) (n c : Nat) (q : Option Addr) (cx : Nat) (hs : a.eval s = .slice p n c) (hx : a.eval x = .slice q 0 cx) (hnc : n ≤ c)
    (h : wpList P ops Q rest (a.put o.dst (.slice p n c)) w) : wpList P ops Q (o :: rest) a w :=
  wpList_plain hgd fun _ hK => wp_append_nothing w s x t ho e ht hi p n c q cx hs hx hnc (hK _ _ h)
theorem own_slice_le {S : Nat → Prop} {w : World} {base : Nat} {ty : TypeId} {v : Value} {l : List Nd} (h : OwnN S w base ty v l) : ∃ p cap, v = .slice p l.length cap ∧ l.length ≤ cap := by
  obtain ⟨p, cap, e, hc, _⟩ := own_kids (S' := fun _ => True) h (fun _ _ _ => trivial) (fun _ _ _ => trivial)
  exact ⟨p, cap, e, hc⟩
theorem Joined.le {S : Nat → Prop} {w w1 w2 : World} (h : w1.heap.size ≤ w2.heap.size) {b : Nat} (hb : Joined S w w1 b) : Joined S w w2 b := by
  rcases hb with hb | hb
  · exact .inl hb
  · exact .inr ⟨hb.1, Nat.lt_of_lt_of_le hb.2 h⟩
theorem Joined.lt {S : Nat → Prop} {w w1 : World} (hS : ∀ b, S b → b < w.heap.size) (hz : w.heap.size ≤ w1.heap.size) {b : Nat} (hb : Joined S w w1 b) : b < w1.heap.size := by
  rcases hb with hb | hb
  · exact Nat.lt_of_lt_of_le (hS b hb) hz
  · exact hb.2
/- a node that is laid into a box of its own -/
theorem node_laid {S : Nat → Prop} {w w1 : World} {B : Nat} {n : Nd} {k mn mx g : Int} {vc vl : Value} {lz : Bool} (hS : ∀ b, S b → b < w.heap.size) (hz : w.heap.size ≤ w1.heap.size)
    (h : NodeS (fun b => (S b ∨ (w.heap.size ≤ b ∧ b < w1.heap.size)) ∧ b ≠ B) w1 k vc mn mx lz g vl n) :
    NodeVS (Joined S w (set7 w1 B (.int .i64 k) vc (.int .i64 mn) (.int .i64 mx) (.bool lz) (.int .i64 g) vl)) (set7 w1 B (.int .i64 k) vc (.int .i64 mn) (.int .i64 mx) (.bool lz) (.int .i64 g) vl) (ndv k vc mn mx lz g vl) n :=
  NodeVS.set7 h (fun b hb => ⟨by
    rcases hb.1 with hb' | hb'
    · exact .inl hb'
    · exact .inr ⟨hb'.1, by rw [set7_size]; exact hb'.2⟩, hb.2⟩) _ _ _ _ _ _ _
end Go.Proofs.YtdoapojmenojoaaGreatDoor
end

section
/- Variables that hold nodes; a repetition that stays. -/
set_option linter.unusedVariables false
namespace Go.Proofs.YtdoapojmenojoaaGreatDoor
open Go.RowKit
open Sx (Nd)

theorem heap_setCell {w : World} {B o : Nat} {c : Array Value} {t : TypeId} {fr : Nat × Nat} (h : w.heap[B]? = some (.cells c t fr)) (v : Value) : (w.setCell ⟨B, o, none⟩ v).heap[B]? = some (.cells (c.setIfInBounds o v) t fr) := by
  simp [World.setCell, Array.getElem?_modify, h]
/- a variable of the call's own that holds a node, and may be written -/
def BoxN (w : World) (B : Nat) (k : Int) (vc : Value) (mn mx : Int) (lz : Bool) (g : Int) (vl : Value) : Prop := w.heap[B]? = some (.cells #[.int .i64 k, vc, .int .i64 mn, .int .i64 mx, .bool lz, .int .i64 g, vl] 29 (0, 0))
theorem BoxN.new (w : World) (k : Int) (vc : Value) (mn mx : Int) (lz : Bool) (g : Int) (vl : Value) : BoxN (w.alloc (.cells #[.int .i64 k, vc, .int .i64 mn, .int .i64 mx, .bool lz, .int .i64 g, vl] 29)) w.heap.size k vc mn mx lz g vl := new_block w _
theorem BoxN.block {w w' : World} {B : Nat} {k mn mx g : Int} {vc vl : Value} {lz : Bool} (h : BoxN w B k vc mn mx lz g vl) (e : w'.heap[B]? = w.heap[B]?) : BoxN w' B k vc mn mx lz g vl := e.trans h
theorem BoxN.lt {w : World} {B : Nat} {k mn mx g : Int} {vc vl : Value} {lz : Bool} (h : BoxN w B k vc mn mx lz g vl) : B < w.heap.size := (Array.getElem?_eq_some_iff.1 h).1
theorem BoxN.below {w w' : World} {B : Nat} {k mn mx g : Int} {vc vl : Value} {lz : Bool} (h : BoxN w B k vc mn mx lz g vl) (b : Below w.heap.size w w') : BoxN w' B k vc mn mx lz g vl := h.block (b.block B h.lt)
theorem BoxN.cells {w : World} {B : Nat} {k mn mx g : Int} {vc vl : Value} {lz : Bool} (h : BoxN w B k vc mn mx lz g vl) : w.cell? ⟨B, 0, none⟩ = some (.int .i64 k) ∧ w.cell? ⟨B, 1, none⟩ = some vc ∧ w.cell? ⟨B, 2, none⟩ = some (.int .i64 mn) ∧ w.cell? ⟨B, 3, none⟩ = some (.int .i64 mx) ∧ w.cell? ⟨B, 4, none⟩ = some (.bool lz) ∧ w.cell? ⟨B, 5, none⟩ = some (.int .i64 g) ∧ w.cell? ⟨B, 6, none⟩ = some vl ∧ ∀ o, w.frozen? ⟨B, o, none⟩ = false := by
  refine ⟨?_, ?_, ?_, ?_, ?_, ?_, ?_, fun o => Lib.frozen_of_heap h o⟩ <;> (rw [Lib.cell_of_heap h]; rfl)
theorem BoxN.seven {w : World} {B : Nat} {k mn mx g : Int} {vc vl : Value} {lz : Bool} (h : BoxN w B k vc mn mx lz g vl) : Seven w B 0 k vc mn mx lz g vl := by
  obtain ⟨y0, y1, y2, y3, y4, y5, y6, _⟩ := h.cells
  exact ⟨y0, y1, y2, y3, y4, y5, y6⟩
theorem BoxN.set7 {w : World} {B : Nat} {k mn mx g : Int} {vc vl : Value} {lz : Bool} (h : BoxN w B k vc mn mx lz g vl) (k' mn' mx' g' : Int) (vc' vl' : Value) (lz' : Bool) : BoxN (set7 w B (.int .i64 k') vc' (.int .i64 mn') (.int .i64 mx') (.bool lz') (.int .i64 g') vl') B k' vc' mn' mx' lz' g' vl' := by
  unfold Go.Proofs.YtdoapojmenojoaaGreatDoor.set7 BoxN
  have e := heap_setCell (o := 6) (heap_setCell (o := 5) (heap_setCell (o := 4) (heap_setCell (o := 3) (heap_setCell (o := 2) (heap_setCell (o := 1) (heap_setCell (o := 0) h (.int .i64 k')) vc') (.int .i64 mn')) (.int .i64 mx')) (.bool lz')) (.int .i64 g')) vl'
  rw [e]
  rfl
theorem BoxN.other {w : World} {B C : Nat} {k mn mx g : Int} {vc vl : Value} {lz : Bool} (h : BoxN w B k vc mn mx lz g vl) (hn : B ≠ C) (x0 x1 x2 x3 x4 x5 x6 : Value) : BoxN (Go.Proofs.YtdoapojmenojoaaGreatDoor.set7 w C x0 x1 x2 x3 x4 x5 x6) B k vc mn mx lz g vl := h.block (set7_block _ _ _ _ _ _ _ _ _ B hn)
theorem Seven0.box {w : World} {B : Nat} (h : Seven0 w B) : BoxN w B 0 (.slice none 0 0) 0 0 false 0 (.slice none 0 0) := h
/- a Repeat of a node, in memory -/
theorem nodeS_again1 {S : Nat → Prop} {w : World} {mn mx : Int} {lz : Bool} {n : Nd} {q : Option Addr} {cap : Nat} (h1 : I64 mn) (h2 : I64 mx) (h : KidsS S w q 0 [n]) : NodeS S w 8 (.slice none 0 0) mn mx lz 0 (.slice q 1 cap) (Sx.again mn mx lz n) := by
  rw [Sx.again, NodeS]
  exact ⟨rfl, rfl, rfl, rfl, rfl, ⟨by omega, by omega⟩, h1, h2, ⟨by decide, by decide⟩, by simp, (fun k r hr => by simp at hr), by simp, ⟨none, 0, rfl, rows_nil _ _ _⟩, q, cap, rfl, h⟩
theorem kidsS_one {S : Nat → Prop} {w : World} {B : Nat} {k mn mx g : Int} {vc vl : Value} {lz : Bool} {n : Nd} (hb : Seven w B 0 k vc mn mx lz g vl) (hB : S B) (h : NodeS S w k vc mn mx lz g vl n) : KidsS S w (some ⟨B, 0, none⟩) 0 [n] := by
  rw [KidsS, KidsS]
  exact ⟨⟨B, 0, k, vc, mn, mx, lz, g, vl, rfl, hB, by simpa using hb, h⟩, trivial⟩
set_option maxRecDepth 20000 in
set_option maxHeartbeats 1600000 in
theorem stays_any (k : Int) (vc vl : Value) (mn mx g : Int) (lz : Bool) (w : World) (hs : ∃ a i j b s t, vc = .slice a i j ∧ vl = .slice b s t) : Calls Tryz.prog 98 #[ndv k vc mn mx lz g vl] w fun e w' => e = .returned (.bool (Sx.stay mn mx)) ∧ Below w.heap.size w w' := by
  obtain ⟨a, i, j, b, s, t, rfl, rfl⟩ := hs
  unfold ndv Sx.stay
  by_cases hx : mx = -1
  · subst hx
    rw [if_pos rfl]
    go_enter Tryz.func98, Tryz.ntmps98
    go_wp2_with fail
    go_ret
    exact ⟨rfl, below_new w _⟩
  · have hx' : (mx == -1) = false := by rw [beq_eq_false_iff_ne]; exact hx
    rw [if_neg hx]
    clear hx
    by_cases hm : mn = 0
    · subst hm
      have hd : decide ((0 : Int) = 0 ∧ mx = 1) = (mx == 1) := by by_cases h : mx = 1 <;> simp [h]
      rw [hd]
      clear hd
      go_enter Tryz.func98, Tryz.ntmps98
      go_wp2_with fail
      go_ret
      exact ⟨rfl, below_new w _⟩
    · have hm' : (mn == 0) = false := by rw [beq_eq_false_iff_ne]; exact hm
      have hd : decide (mn = 0 ∧ mx = 1) = false := by simp [hm]
      rw [hd]
      clear hd hm
      go_enter Tryz.func98, Tryz.ntmps98
      go_wp2_with fail
      go_ret
      exact ⟨rfl, below_new w _⟩
end Go.Proofs.YtdoapojmenojoaaGreatDoor
end

section
/- A repetition of a node: the program's own. -/
set_option linter.unusedVariables false
namespace Go.Proofs.YtdoapojmenojoaaGreatDoor
open Go.RowKit
open Sx (Nd)

set_option maxRecDepth 20000 in
set_option maxHeartbeats 4000000 in
theorem again_any (m M : Int) (z : Bool) (k : Int) (ka : Option Addr) (ki kj : Nat) (mn mx : Int) (lz : Bool) (g : Int) (kb : Option Addr) (ks kt : Nat) (n : Nd) (S : Nat → Prop) (w : World) (hk : NodeS S w k (.slice ka ki kj) mn mx lz g (.slice kb ks kt) n) (hS0 : ∀ b, S b → b < w.heap.size) (h1 : I64 m) (h2 : I64 M) :
    Calls Tryz.prog 147 #[.int .i64 m, .int .i64 M, .bool z, ndv k (.slice ka ki kj) mn mx lz g (.slice kb ks kt)] w fun e w' => ∃ u, e = .returned u ∧ NodeVS (Joined S w w') w' u (Sx.again m M z n) ∧ Below w.heap.size w w' := by
  unfold ndv
  go_enter Tryz.func147, Tryz.ntmps147
  go_upto_region 1 with fail
  have b1 := below_new w (.cells #[.int .i64 k, .slice ka ki kj, .int .i64 mn, .int .i64 mx, .bool lz, .int .i64 g, .slice kb ks kt] 29)
  have b2 := below_new (w.alloc (.cells #[.int .i64 k, .slice ka ki kj, .int .i64 mn, .int .i64 mx, .bool lz, .int .i64 g, .slice kb ks kt] 29)) (.cells #[.int .i64 0, .slice none 0 0, .int .i64 0, .int .i64 0, .bool false, .int .i64 0, .slice none 0 0] 29)
  have hx := (BoxN.new w k (.slice ka ki kj) mn mx lz g (.slice kb ks kt)).below b2
  have hz := (seven0_new (w.alloc (.cells #[.int .i64 k, .slice ka ki kj, .int .i64 mn, .int .i64 mx, .bool lz, .int .i64 g, .slice kb ks kt] 29))).box
  have hs : ((w.alloc (.cells #[.int .i64 k, .slice ka ki kj, .int .i64 mn, .int .i64 mx, .bool lz, .int .i64 g, .slice kb ks kt] 29)).alloc (.cells #[.int .i64 0, .slice none 0 0, .int .i64 0, .int .i64 0, .bool false, .int .i64 0, .slice none 0 0] 29)).heap.size = w.heap.size + 2 := by simp
  have he : (w.alloc (.cells #[.int .i64 k, .slice ka ki kj, .int .i64 mn, .int .i64 mx, .bool lz, .int .i64 g, .slice kb ks kt] 29)).heap.size = w.heap.size + 1 := by simp
  rw [he] at hz
  have hb := bvia b1 b2
  have hm := hk.mono (S' := S) (fun b hb' => ⟨hb', hb.block b (hS0 b hb')⟩)
  try rw [he]
  generalize ((w.alloc (.cells #[.int .i64 k, .slice ka ki kj, .int .i64 mn, .int .i64 mx, .bool lz, .int .i64 g, .slice kb ks kt] 29)).alloc (.cells #[.int .i64 0, .slice none 0 0, .int .i64 0, .int .i64 0, .bool false, .int .i64 0, .slice none 0 0] 29)) = w1 at *
  clear b1 b2 hk he
  have b3 := below_new w1 (.cells #[.int .i64 k, .slice ka ki kj, .int .i64 mn, .int .i64 mx, .bool lz, .int .i64 g, .slice kb ks kt] 29)
  have HX := Lib.hid (hx.below b3)
  have HY := Lib.hid (hz.below b3)
  have HN := Lib.hid (BoxN.new w1 k (.slice ka ki kj) mn mx lz g (.slice kb ks kt))
  have HB := Lib.hid (bvia hb b3)
  have HS := Lib.hid (show (w1.alloc (.cells #[.int .i64 k, .slice ka ki kj, .int .i64 mn, .int .i64 mx, .bool lz, .int .i64 g, .slice kb ks kt] 29)).heap.size = w.heap.size + 3 by simp; omega)
  have HK := Lib.hid (kidsS_one (S := fun b => (S b ∨ (w.heap.size ≤ b ∧ b < (w1.alloc (.cells #[.int .i64 k, .slice ka ki kj, .int .i64 mn, .int .i64 mx, .bool lz, .int .i64 g, .slice kb ks kt] 29)).heap.size)) ∧ b ≠ w.heap.size + 1) HN.out.seven (by have := HS.out; exact ⟨.inr ⟨by omega, by omega⟩, by omega⟩) (hm.mono (fun b hb' => ⟨⟨.inl hb', by have := hS0 b hb'; omega⟩, b3.block b (by have := hS0 b hb'; omega)⟩)))
  have HZ := Lib.hid hs
  have HS0 := Lib.hid hS0
  have H1 := Lib.hid h1
  have H2 := Lib.hid h2
  obtain ⟨x0, x1, x2, x3, x4, x5, x6, xf⟩ := hx.cells
  obtain ⟨u0, u1, u2, u3, u4, u5, u6, uf⟩ := hz.cells
  obtain ⟨y0, y1, y2, y3, y4, y5, y6, yf⟩ := HY.out.cells
  have hlt : w.heap.size + 1 < w1.heap.size := by omega
  have hlt2 : w.heap.size < w1.heap.size := by omega
  clear hx hz hb hm b3 hS0 h1 h2 hs
  have h7 := set7_seven (w1.alloc (.cells #[.int .i64 k, .slice ka ki kj, .int .i64 mn, .int .i64 mx, .bool lz, .int .i64 g, .slice kb ks kt] 29)) (w.heap.size + 1) 8 m M 0 z (.slice none 0 0) (.slice (some ⟨w1.heap.size, 0, none⟩) 1 1) y0 y1 y2 y3 y4 y5 y6
  have HNR := Lib.hid (show NodeVS (Joined S w (set7 (w1.alloc (.cells #[.int .i64 k, .slice ka ki kj, .int .i64 mn, .int .i64 mx, .bool lz, .int .i64 g, .slice kb ks kt] 29)) (w.heap.size + 1) (.int .i64 8) (.slice none 0 0) (.int .i64 m) (.int .i64 M) (.bool z) (.int .i64 0) (.slice (some ⟨w1.heap.size, 0, none⟩) 1 1))) (set7 (w1.alloc (.cells #[.int .i64 k, .slice ka ki kj, .int .i64 mn, .int .i64 mx, .bool lz, .int .i64 g, .slice kb ks kt] 29)) (w.heap.size + 1) (.int .i64 8) (.slice none 0 0) (.int .i64 m) (.int .i64 M) (.bool z) (.int .i64 0) (.slice (some ⟨w1.heap.size, 0, none⟩) 1 1)) (ndv 8 (.slice none 0 0) m M z 0 (.slice (some ⟨w1.heap.size, 0, none⟩) 1 1)) (Sx.again m M z n) from node_laid HS0.out (by rw [HS.out]; omega) (nodeS_again1 H1.out H2.out HK.out))
  have HBF := Lib.hid (below_set7 HB.out (by omega : w.heap.size ≤ w.heap.size + 1) (.int .i64 8) (.slice none 0 0) (.int .i64 m) (.int .i64 M) (.bool z) (.int .i64 0) (.slice (some ⟨w1.heap.size, 0, none⟩) 1 1))
  go_wp2_with fail
  change bodyPost _ _ _ _ _ ((set7 w1 (w.heap.size + 1) (.int .i64 8) (.slice none 0 0) (.int .i64 m) (.int .i64 M) (.bool z) (.int .i64 0) (.slice (some ⟨w1.heap.size, 0, none⟩) 1 1)).alloc (.cells #[.int .i64 k, .slice ka ki kj, .int .i64 mn, .int .i64 mx, .bool lz, .int .i64 g, .slice kb ks kt] 29))
  rw [← set7_alloc w1 _ (w.heap.size + 1) hlt]
  obtain ⟨z0, z1, z2, z3, z4, z5, z6⟩ := h7
  simp only [Nat.zero_add] at z0 z1 z2 z3 z4 z5 z6
  generalize (set7 (w1.alloc (.cells #[.int .i64 k, .slice ka ki kj, .int .i64 mn, .int .i64 mx, .bool lz, .int .i64 g, .slice kb ks kt] 29)) (w.heap.size + 1) (.int .i64 8) (.slice none 0 0) (.int .i64 m) (.int .i64 M) (.bool z) (.int .i64 0) (.slice (some ⟨w1.heap.size, 0, none⟩) 1 1)) = wf at *
  exact bodyPost_ret (v := ndv 8 (.slice none 0 0) m M z 0 (.slice (some ⟨w1.heap.size, 0, none⟩) 1 1)) (by unfold ndv; simp [results, Tryz.results147, go_sem, *]) rfl ⟨_, rfl, HNR.out, HBF.out⟩
end Go.Proofs.YtdoapojmenojoaaGreatDoor
end

section
/- Nodes one behind the other, as one: the program's own. -/
set_option linter.unusedVariables false
namespace Go.Proofs.YtdoapojmenojoaaGreatDoor
open Go.RowKit
open Sx (Nd)

set_option maxRecDepth 20000 in
set_option maxHeartbeats 4000000 in
theorem sseq_any (l : List Nd) (q : Option Addr) (cap : Nat) (S : Nat → Prop) (w : World) (hK : KidsS S w q 0 l) (hS0 : ∀ b, S b → b < w.heap.size) (hl : l.length ≤ 600000) (hfl : (flatK 6 l).length ≤ 600000) :
    Calls Tryz.prog 34 #[.slice q l.length cap] w fun e w' => ∃ u, e = .returned u ∧ NodeVS (Joined S w w') w' u (Sx.sequence l) ∧ Below w.heap.size w w' := by
  go_enter Tryz.func34, Tryz.ntmps34
  go_upto_region 1 with fail
  have hS := seven0_new w
  have hb := below_new w (.cells #[.int .i64 0, .slice none 0 0, .int .i64 0, .int .i64 0, .bool false, .int .i64 0, .slice none 0 0] 29)
  have hz : (w.alloc (.cells #[.int .i64 0, .slice none 0 0, .int .i64 0, .int .i64 0, .bool false, .int .i64 0, .slice none 0 0] 29)).heap.size = w.heap.size + 1 := by simp
  have hk1 := hK.mono (S' := S) (w' := w.alloc (.cells #[.int .i64 0, .slice none 0 0, .int .i64 0, .int .i64 0, .bool false, .int .i64 0, .slice none 0 0] 29)) (fun b hb => ⟨hb, Below.heap_alloc _ _ _ (hS0 b hb)⟩)
  generalize (w.alloc (.cells #[.int .i64 0, .slice none 0 0, .int .i64 0, .int .i64 0, .bool false, .int .i64 0, .slice none 0 0] 29)) = w1 at *
  have HZS := Lib.hid hS
  have HB := Lib.hid hb
  have HZ := Lib.hid hz
  have HK := Lib.hid hk1
  have HS0 := Lib.hid hS0
  have HS := Lib.hid (show ∀ b, S b → b < w1.heap.size from fun b hb => by have := hS0 b hb; omega)
  clear hS hb hz hk1 hK hS0
  go_wp2_with fail
  go_loopw [3, 8] (fun v i wr => ∃ m : Nat, i = .int .i64 (m : Int) ∧ m ≤ l.length ∧ FL S w1 v (flatK 6 (l.take m)) wr) (fun _ i _ => l.length - (intOf i).toNat)
  case atStart => exact ⟨0, rfl, Nat.zero_le _, by rw [List.take_zero]; exact OwnN.nil' _ _ _ _, Below.refl _ _⟩
  case round =>
    obtain ⟨m, rfl, hm, hF⟩ := hrel
    have HF := Lib.hid hF
    clear hF
    by_cases hlt : m < l.length
    · obtain ⟨x, hx⟩ : ∃ x, l[m]? = some x := ⟨_, List.getElem?_eq_getElem hlt⟩
      obtain ⟨b, o, k, vc, mn, mx, lz, g, vl, rfl, hb, f7, hxn⟩ := kidsS_get HK.out hx
      obtain ⟨hxk, kp, kcap, rfl, hkids⟩ := nodeS_kids hxn
      obtain ⟨ka, ki, kj, kb, ks, kt, rfl, hvl⟩ := nodeS_shape hxn
      have hbl := HS.out b hb
      have hml : (m : Int) < (l.length : Int) := by omega
      have hw2 := HF.out.2
      have hz2 := hw2.size
      obtain ⟨f0, f1, f2, f3, f4, f5, f6⟩ := f7.below hw2 hbl
      have hst := flatK_take (kind := 6) hx
      have hfm := flatK_len 6 l (m + 1)
      have hfm0 := flatK_len 6 l m
      have HST := Lib.hid hst
      have HXN := Lib.hid hxn
      have HKD := Lib.hid hkids
      obtain ⟨p5, c5, hu5, hc5⟩ := own_slice_le HF.out.1
      obtain ⟨n5, hn5⟩ : ∃ n5, n5 = (flatK 6 (l.take m)).length := ⟨_, rfl⟩
      have HN5 := Lib.hid hn5
      rw [← hn5] at hu5 hc5
      subst hu5
      have HMV := Lib.hid (show ∀ c, S c → (S c ∧ c < wr.heap.size ∧ Value.ownBlock (.slice p5 n5 c5) ≠ some c) ∧ wr.heap[c]? = w1.heap[c]? from fun c hc => ⟨⟨hc, Nat.lt_of_lt_of_le (HS.out c hc) hz2, own_ne HF.out.1 (HS.out c hc)⟩, hw2.block c (HS.out c hc)⟩)
      clear hxn hkids f7 hst hvl hn5
      have HO1 := Lib.hid (HF.out.1.kept (below_new wr (.cells #[.int .i64 k, .slice ka ki kj, .int .i64 mn, .int .i64 mx, .bool lz, .int .i64 g, .slice kp x.kids.length kcap] 29)))
      have HB1 := Lib.hid (bvia hw2 (below_new wr (.cells #[.int .i64 k, .slice ka ki kj, .int .i64 mn, .int .i64 mx, .bool lz, .int .i64 g, .slice kp x.kids.length kcap] 29)))
      have HM1 := Lib.hid (show ∀ c, S c → (S c ∧ c < (wr.alloc (.cells #[.int .i64 k, .slice ka ki kj, .int .i64 mn, .int .i64 mx, .bool lz, .int .i64 g, .slice kp x.kids.length kcap] 29)).heap.size ∧ Value.ownBlock (.slice p5 n5 c5) ≠ some c) ∧ (wr.alloc (.cells #[.int .i64 k, .slice ka ki kj, .int .i64 mn, .int .i64 mx, .bool lz, .int .i64 g, .slice kp x.kids.length kcap] 29)).heap[c]? = w1.heap[c]? from fun c hc => ⟨⟨hc, by have := (HMV.out c hc).1.2.1; simp; omega, (HMV.out c hc).1.2.2⟩, (Below.heap_alloc _ _ _ (HMV.out c hc).1.2.1).trans (HMV.out c hc).2⟩)
      by_cases hkk : k = 6
      · subst hkk
        have HFL := Lib.hid (show flatK 6 (l.take (m + 1)) = flatK 6 (l.take m) ++ x.kids by rw [HST.out, if_pos hxk])
        by_cases hkn : x.kids = []
        · have HKN := Lib.hid hkn
          have hk0 : x.kids.length = 0 := by rw [hkn]; rfl
          rw [hk0] at HO1 HB1 HM1 f6
          clear hkn hk0
          go_wp2_with (at_builtin; refine wpList_append_nothing _ rfl _ _ 27 rfl 29 Tryz.underlying27 Tryz.infoSN p5 n5 c5 kp kcap rfl rfl hc5 ?_)
          go_wp2_with fail
          go_roundw
          case rel => exact ⟨m + 1, by go_num, by omega, by rw [HFL.out, HKN.out, List.append_nil]; exact HO1.out, HB1.out⟩
          case measure => simp [intOf]; omega
        · obtain ⟨y, hy⟩ : ∃ y, x.kids[0]? = some y := by
            cases hh : x.kids with
            | nil => exact absurd hh hkn
            | cons y t => exact ⟨y, rfl⟩
          obtain ⟨kb, ko, _, _, _, _, _, _, _, rfl, _⟩ := kidsS_get HKD.out hy
          have hlen := congrArg List.length HFL.out
          rw [List.length_append] at hlen
          have hkl : (flatK 6 (l.take m)).length + x.kids.length ≤ 1000000 := by omega
          have HKL := Lib.hid hkl
          clear hlen hkl hy hfm hfm0 hxk hkn
          go_wp2_with (at_builtin; refine wpList_append_nodes rfl _ _ 27 rfl w1.heap.size 29 Tryz.underlying27 Tryz.infoSN S _ _ (flatK 6 (l.take m)) x.kids kb ko kcap rfl (by exact HO1.out) rfl (by exact HKD.out.mono HM1.out) (by exact HKL.out) (by exact HB1.out.size) ?_)
          intro v' w' hown' hg'
          have HO3 := Lib.hid hown'
          have b3 := own_below_grown HO1.out HB1.out (Nat.le_refl _) hg'
          clear hown' hg' HO1 HB1 HM1 HF HMV hw2
          go_wp2_with fail
          go_roundw
          case rel => exact ⟨m + 1, by go_num, by omega, by rw [HFL.out]; exact HO3.out, b3⟩
          case measure => simp [intOf]; omega
      · have t1 : (k == 6) = false := by rw [beq_eq_false_iff_ne]; exact hkk
        by_cases h0 : k = 0
        · subst h0
          have HFL := Lib.hid (show flatK 6 (l.take (m + 1)) = flatK 6 (l.take m) by rw [HST.out, if_neg (by rw [hxk]; decide), if_pos ⟨hxk, rfl⟩, List.append_nil])
          clear hkk hfm hfm0 hxk
          go_wp2_with fail
          go_roundw
          case rel => exact ⟨m + 1, by go_num, by omega, by rw [HFL.out]; exact HO1.out, HB1.out⟩
          case measure => simp [intOf]; omega
        · have t0 : (k == 0) = false := by rw [beq_eq_false_iff_ne]; exact h0
          have HFL := Lib.hid (show flatK 6 (l.take (m + 1)) = flatK 6 (l.take m) ++ [x] by rw [HST.out, if_neg (by rw [hxk]; exact hkk), if_neg (by rw [hxk]; exact fun e => h0 e.1)])
          have HKL := Lib.hid (show (flatK 6 (l.take m)).length ≤ 1000000 by omega)
          have HXM := Lib.hid (HXN.out.mono HM1.out)
          clear hkk hfm hfm0 hxk
          go_wp2_with (at_builtin; refine wpList_append_node rfl _ _ 27 rfl w1.heap.size 29 Tryz.underlying27 Tryz.infoSN S _ _ (flatK 6 (l.take m)) k ka ki kj mn mx lz g kp x.kids.length kcap x rfl (by exact HO1.out) (by rw [World.size_alloc]; rfl) (by exact HXM.out) (by exact HKL.out) (by exact HB1.out.size) ?_)
          intro v' w' hown' hg'
          have HO3 := Lib.hid hown'
          have b3 := own_below_grown HO1.out HB1.out (Nat.le_refl _) hg'
          clear hown' hg' HO1 HB1 HM1 HF HMV hw2 HXM
          go_wp2_with fail
          go_roundw
          case rel => exact ⟨m + 1, by go_num, by omega, by rw [HFL.out]; exact HO3.out, b3⟩
          case measure => simp [intOf]; omega
    · obtain rfl : m = l.length := by omega
      rw [List.take_length] at HF
      obtain ⟨p9, cap9, hv9, hc9, hk9⟩ := own_kids (S' := fun b => (S b ∨ (w.heap.size ≤ b ∧ b < wr.heap.size)) ∧ b ≠ w.heap.size) HF.out.1 (fun b h1 h2 => ⟨.inl h1, fun e => by have := HS0.out b h1; omega⟩) (fun b h1 h2 => by have := HZ.out; exact ⟨.inr ⟨by omega, h2⟩, by omega⟩)
      subst hv9
      have HK9 := Lib.hid hk9
      have HBB := Lib.hid (bvia HB.out HF.out.2)
      have S1 := HZS.out.below HF.out.2
      obtain ⟨y0, y1, y2, y3, y4, y5, y6, yf⟩ := S1.cells
      clear S1 hk9 HF HB
      have HB := HBB
      clear HBB
      obtain ⟨Fl, hF⟩ : ∃ Fl, Fl = flatK 6 l := ⟨_, rfl⟩
      have HSE := Lib.hid (show Sx.sequence l = seqOf Fl by rw [hF, flatK6]; rfl)
      rw [← hF] at HK9 hfl ⊢
      have HFL := Lib.hid hfl
      have HZW := Lib.hid (show w.heap.size ≤ wr.heap.size from HB.out.size)
      clear hF hfl
      match Fl, HK9, HSE, HFL with
      | [], HK9, HSE, HFL =>
        have h7 := set7_seven wr w.heap.size 0 0 0 0 false (.slice none 0 0) (.slice none 0 0) y0 y1 y2 y3 y4 y5 y6
        have HN := Lib.hid (show NodeVS (Joined S w (set7 wr w.heap.size (.int .i64 0) (.slice none 0 0) (.int .i64 0) (.int .i64 0) (.bool false) (.int .i64 0) (.slice none 0 0))) (set7 wr w.heap.size (.int .i64 0) (.slice none 0 0) (.int .i64 0) (.int .i64 0) (.bool false) (.int .i64 0) (.slice none 0 0)) (ndv 0 (.slice none 0 0) 0 0 false 0 (.slice none 0 0)) (Sx.sequence l) from by rw [HSE.out]; unfold seqOf; exact node_laid HS0.out HZW.out (nodeS_mk (kids := []) (by decide) (by simp) (by rw [KidsS]; trivial)))
        have HBF := Lib.hid (below_set7 HB.out (Nat.le_refl _) (.int .i64 0) (.slice none 0 0) (.int .i64 0) (.int .i64 0) (.bool false) (.int .i64 0) (.slice none 0 0))
        go_wp2_with fail
        change bodyPost _ _ _ _ _ (set7 wr w.heap.size (.int .i64 0) (.slice none 0 0) (.int .i64 0) (.int .i64 0) (.bool false) (.int .i64 0) (.slice none 0 0))
        obtain ⟨z0, z1, z2, z3, z4, z5, z6⟩ := h7
        simp only [Nat.zero_add] at z0 z1 z2 z3 z4 z5 z6
        generalize (set7 wr w.heap.size (.int .i64 0) (.slice none 0 0) (.int .i64 0) (.int .i64 0) (.bool false) (.int .i64 0) (.slice none 0 0)) = wf at *
        exact bodyPost_ret (v := ndv 0 (.slice none 0 0) 0 0 false 0 (.slice none 0 0)) (by unfold ndv; simp [results, Tryz.results34, go_sem, *]) rfl ⟨_, rfl, HN.out, HBF.out⟩
      | [x], HK9, HSE, HFL =>
        obtain ⟨b, o, k, vc, mn, mx, lz, g, vl, rfl, hb, f7, hxn⟩ := kidsS_get HK9.out (m := 0) (x := x) rfl
        obtain ⟨ka, ki, kj, kb, ks, kt, rfl, rfl⟩ := nodeS_shape hxn
        simp only [Nat.zero_mul, Nat.add_zero] at f7
        obtain ⟨f0, f1, f2, f3, f4, f5, f6⟩ := f7
        have HXN := Lib.hid hxn
        have hone : (0 : Int) < ((1 : Nat) : Int) := by decide
        clear hxn
        have h7 := set7_seven wr w.heap.size k mn mx g lz (.slice ka ki kj) (.slice kb ks kt) y0 y1 y2 y3 y4 y5 y6
        have HN := Lib.hid (show NodeVS (Joined S w (set7 wr w.heap.size (.int .i64 k) (.slice ka ki kj) (.int .i64 mn) (.int .i64 mx) (.bool lz) (.int .i64 g) (.slice kb ks kt))) (set7 wr w.heap.size (.int .i64 k) (.slice ka ki kj) (.int .i64 mn) (.int .i64 mx) (.bool lz) (.int .i64 g) (.slice kb ks kt)) (ndv k (.slice ka ki kj) mn mx lz g (.slice kb ks kt)) (Sx.sequence l) from by rw [HSE.out]; unfold seqOf; exact node_laid HS0.out HZW.out HXN.out)
        have HBF := Lib.hid (below_set7 HB.out (Nat.le_refl _) (.int .i64 k) (.slice ka ki kj) (.int .i64 mn) (.int .i64 mx) (.bool lz) (.int .i64 g) (.slice kb ks kt))
        go_wp2_with fail
        change bodyPost _ _ _ _ _ (set7 wr w.heap.size (.int .i64 k) (.slice ka ki kj) (.int .i64 mn) (.int .i64 mx) (.bool lz) (.int .i64 g) (.slice kb ks kt))
        obtain ⟨z0, z1, z2, z3, z4, z5, z6⟩ := h7
        simp only [Nat.zero_add] at z0 z1 z2 z3 z4 z5 z6
        generalize (set7 wr w.heap.size (.int .i64 k) (.slice ka ki kj) (.int .i64 mn) (.int .i64 mx) (.bool lz) (.int .i64 g) (.slice kb ks kt)) = wf at *
        exact bodyPost_ret (v := ndv k (.slice ka ki kj) mn mx lz g (.slice kb ks kt)) (by unfold ndv; simp [results, Tryz.results34, go_sem, *]) rfl ⟨_, rfl, HN.out, HBF.out⟩
      | x :: y :: t, HK9, HSE, HFL =>
        obtain ⟨n, hn⟩ : ∃ n, n = (x :: y :: t).length := ⟨_, rfl⟩
        have hn2 : 2 ≤ n := by rw [hn]; simp
        have e0 : (((n : Nat) : Int) == 0) = false := by rw [beq_eq_false_iff_ne]; omega
        have e1 : (((n : Nat) : Int) == 1) = false := by rw [beq_eq_false_iff_ne]; omega
        have HNN := Lib.hid hn
        rw [← hn]
        clear hn
        have h7 := set7_seven wr w.heap.size 6 0 0 0 false (.slice none 0 0) (.slice p9 n cap9) y0 y1 y2 y3 y4 y5 y6
        have HN := Lib.hid (show NodeVS (Joined S w (set7 wr w.heap.size (.int .i64 6) (.slice none 0 0) (.int .i64 0) (.int .i64 0) (.bool false) (.int .i64 0) (.slice p9 n cap9))) (set7 wr w.heap.size (.int .i64 6) (.slice none 0 0) (.int .i64 0) (.int .i64 0) (.bool false) (.int .i64 0) (.slice p9 n cap9)) (ndv 6 (.slice none 0 0) 0 0 false 0 (.slice p9 n cap9)) (Sx.sequence l) from by rw [HSE.out, HNN.out]; unfold seqOf; exact node_laid HS0.out HZW.out (nodeS_mk (kids := x :: y :: t) (by decide) (by have := HFL.out; omega) HK9.out))
        have HBF := Lib.hid (below_set7 HB.out (Nat.le_refl _) (.int .i64 6) (.slice none 0 0) (.int .i64 0) (.int .i64 0) (.bool false) (.int .i64 0) (.slice p9 n cap9))
        go_wp2_with fail
        change bodyPost _ _ _ _ _ (set7 wr w.heap.size (.int .i64 6) (.slice none 0 0) (.int .i64 0) (.int .i64 0) (.bool false) (.int .i64 0) (.slice p9 n cap9))
        obtain ⟨z0, z1, z2, z3, z4, z5, z6⟩ := h7
        simp only [Nat.zero_add] at z0 z1 z2 z3 z4 z5 z6
        generalize (set7 wr w.heap.size (.int .i64 6) (.slice none 0 0) (.int .i64 0) (.int .i64 0) (.bool false) (.int .i64 0) (.slice p9 n cap9)) = wf at *
        exact bodyPost_ret (v := ndv 6 (.slice none 0 0) 0 0 false 0 (.slice p9 n cap9)) (by unfold ndv; simp [results, Tryz.results34, go_sem, *]) rfl ⟨_, rfl, HN.out, HBF.out⟩
end Go.Proofs.YtdoapojmenojoaaGreatDoor
end

section
/- Any one of some nodes, as one: the program's own. -/
set_option linter.unusedVariables false
namespace Go.Proofs.YtdoapojmenojoaaGreatDoor
open Go.RowKit
open Sx (Nd)

set_option maxRecDepth 20000 in
set_option maxHeartbeats 4000000 in
theorem scho_any (l : List Nd) (q : Option Addr) (cap : Nat) (S : Nat → Prop) (w : World) (hK : KidsS S w q 0 l) (hS0 : ∀ b, S b → b < w.heap.size) (hl : l.length ≤ 600000) (hfl : (flatK 7 l).length ≤ 600000) :
    Calls Tryz.prog 36 #[.slice q l.length cap] w fun e w' => ∃ u, e = .returned u ∧ NodeVS (Joined S w w') w' u (Sx.choice0 l) ∧ Below w.heap.size w w' := by
  go_enter Tryz.func36, Tryz.ntmps36
  go_upto_region 1 with fail
  have hS := seven0_new w
  have hb := below_new w (.cells #[.int .i64 0, .slice none 0 0, .int .i64 0, .int .i64 0, .bool false, .int .i64 0, .slice none 0 0] 29)
  have hz : (w.alloc (.cells #[.int .i64 0, .slice none 0 0, .int .i64 0, .int .i64 0, .bool false, .int .i64 0, .slice none 0 0] 29)).heap.size = w.heap.size + 1 := by simp
  have hk1 := hK.mono (S' := S) (w' := w.alloc (.cells #[.int .i64 0, .slice none 0 0, .int .i64 0, .int .i64 0, .bool false, .int .i64 0, .slice none 0 0] 29)) (fun b hb => ⟨hb, Below.heap_alloc _ _ _ (hS0 b hb)⟩)
  generalize (w.alloc (.cells #[.int .i64 0, .slice none 0 0, .int .i64 0, .int .i64 0, .bool false, .int .i64 0, .slice none 0 0] 29)) = w1 at *
  have HZS := Lib.hid hS
  have HB := Lib.hid hb
  have HZ := Lib.hid hz
  have HK := Lib.hid hk1
  have HS0 := Lib.hid hS0
  have HS := Lib.hid (show ∀ b, S b → b < w1.heap.size from fun b hb => by have := hS0 b hb; omega)
  clear hS hb hz hk1 hK hS0
  have HZW1 := Lib.hid (show w.heap.size ≤ w1.heap.size from HB.out.size)
  rcases (show l.length = 0 ∨ l.length = 1 ∨ 2 ≤ l.length by omega) with hlen | hlen | hlen
  · obtain rfl : l = [] := List.eq_nil_of_length_eq_zero hlen
    obtain ⟨y0, y1, y2, y3, y4, y5, y6, yf⟩ := HZS.out.cells
    have h7 := set7_seven w1 w.heap.size 0 0 0 0 false (.slice none 0 0) (.slice none 0 0) y0 y1 y2 y3 y4 y5 y6
    have HN := Lib.hid (show NodeVS (Joined S w (set7 w1 w.heap.size (.int .i64 0) (.slice none 0 0) (.int .i64 0) (.int .i64 0) (.bool false) (.int .i64 0) (.slice none 0 0))) (set7 w1 w.heap.size (.int .i64 0) (.slice none 0 0) (.int .i64 0) (.int .i64 0) (.bool false) (.int .i64 0) (.slice none 0 0)) (ndv 0 (.slice none 0 0) 0 0 false 0 (.slice none 0 0)) (Sx.choice0 []) from by exact node_laid HS0.out HZW1.out (nodeS_mk (kids := []) (by decide) (by simp) (by rw [KidsS]; trivial)))
    have HBF := Lib.hid (below_set7 HB.out (Nat.le_refl _) (.int .i64 0) (.slice none 0 0) (.int .i64 0) (.int .i64 0) (.bool false) (.int .i64 0) (.slice none 0 0))
    go_wp2_with fail
    change bodyPost _ _ _ _ _ (set7 w1 w.heap.size (.int .i64 0) (.slice none 0 0) (.int .i64 0) (.int .i64 0) (.bool false) (.int .i64 0) (.slice none 0 0))
    obtain ⟨z0, z1, z2, z3, z4, z5, z6⟩ := h7
    simp only [Nat.zero_add] at z0 z1 z2 z3 z4 z5 z6
    generalize (set7 w1 w.heap.size (.int .i64 0) (.slice none 0 0) (.int .i64 0) (.int .i64 0) (.bool false) (.int .i64 0) (.slice none 0 0)) = wf at *
    exact bodyPost_ret (v := ndv 0 (.slice none 0 0) 0 0 false 0 (.slice none 0 0)) (by unfold ndv; simp [results, Tryz.results36, go_sem, *]) rfl ⟨_, rfl, HN.out, HBF.out⟩
  · obtain ⟨x, rfl⟩ : ∃ x, l = [x] := by
      match l, hlen with
      | [x], _ => exact ⟨x, rfl⟩
    obtain ⟨b, o, k, vc, mn, mx, lz, g, vl, rfl, hb, f7, hxn⟩ := kidsS_get HK.out (m := 0) (x := x) rfl
    obtain ⟨ka, ki, kj, kb, ks, kt, rfl, rfl⟩ := nodeS_shape hxn
    simp only [Nat.zero_mul, Nat.add_zero] at f7
    obtain ⟨f0, f1, f2, f3, f4, f5, f6⟩ := f7
    have HXN := Lib.hid (hxn.mono (S' := fun b => (S b ∨ (w.heap.size ≤ b ∧ b < w1.heap.size)) ∧ b ≠ w.heap.size) (fun b hb => ⟨⟨.inl hb, fun e => by have := HS0.out b hb; omega⟩, rfl⟩))
    have hone : (0 : Int) < ((1 : Nat) : Int) := by decide
    clear hxn hlen
    obtain ⟨y0, y1, y2, y3, y4, y5, y6, yf⟩ := HZS.out.cells
    have h7 := set7_seven w1 w.heap.size k mn mx g lz (.slice ka ki kj) (.slice kb ks kt) y0 y1 y2 y3 y4 y5 y6
    have HN := Lib.hid (show NodeVS (Joined S w (set7 w1 w.heap.size (.int .i64 k) (.slice ka ki kj) (.int .i64 mn) (.int .i64 mx) (.bool lz) (.int .i64 g) (.slice kb ks kt))) (set7 w1 w.heap.size (.int .i64 k) (.slice ka ki kj) (.int .i64 mn) (.int .i64 mx) (.bool lz) (.int .i64 g) (.slice kb ks kt)) (ndv k (.slice ka ki kj) mn mx lz g (.slice kb ks kt)) (Sx.choice0 [x]) from by exact node_laid HS0.out HZW1.out HXN.out)
    have HBF := Lib.hid (below_set7 HB.out (Nat.le_refl _) (.int .i64 k) (.slice ka ki kj) (.int .i64 mn) (.int .i64 mx) (.bool lz) (.int .i64 g) (.slice kb ks kt))
    go_wp2_with fail
    change bodyPost _ _ _ _ _ (set7 w1 w.heap.size (.int .i64 k) (.slice ka ki kj) (.int .i64 mn) (.int .i64 mx) (.bool lz) (.int .i64 g) (.slice kb ks kt))
    obtain ⟨z0, z1, z2, z3, z4, z5, z6⟩ := h7
    simp only [Nat.zero_add] at z0 z1 z2 z3 z4 z5 z6
    generalize (set7 w1 w.heap.size (.int .i64 k) (.slice ka ki kj) (.int .i64 mn) (.int .i64 mx) (.bool lz) (.int .i64 g) (.slice kb ks kt)) = wf at *
    exact bodyPost_ret (v := ndv k (.slice ka ki kj) mn mx lz g (.slice kb ks kt)) (by unfold ndv; simp [results, Tryz.results36, go_sem, *]) rfl ⟨_, rfl, HN.out, HBF.out⟩
  · have e0 : (((l.length : Nat) : Int) == 0) = false := by rw [beq_eq_false_iff_ne]; omega
    have e1 : (((l.length : Nat) : Int) == 1) = false := by rw [beq_eq_false_iff_ne]; omega
    have HLL := Lib.hid hlen
    clear hlen
    go_wp2_with fail
    go_loopw [3, 18] (fun v i wr => ∃ m : Nat, i = .int .i64 (m : Int) ∧ m ≤ l.length ∧ FL S w1 v (flatK 7 (l.take m)) wr) (fun _ i _ => l.length - (intOf i).toNat)
    case atStart => exact ⟨0, rfl, Nat.zero_le _, by rw [List.take_zero]; exact OwnN.nil' _ _ _ _, Below.refl _ _⟩
    case round =>
      obtain ⟨m, rfl, hm, hF⟩ := hrel
      have HF := Lib.hid hF
      clear hF
      by_cases hlt : m < l.length
      · obtain ⟨x, hx⟩ : ∃ x, l[m]? = some x := ⟨_, List.getElem?_eq_getElem hlt⟩
        obtain ⟨b, o, k, vc, mn, mx, lz, g, vl, rfl, hb, f7, hxn⟩ := kidsS_get HK.out hx
        obtain ⟨hxk, kp, kcap, rfl, hkids⟩ := nodeS_kids hxn
        obtain ⟨ka, ki, kj, kb, ks, kt, rfl, hvl⟩ := nodeS_shape hxn
        have hbl := HS.out b hb
        have hml : (m : Int) < (l.length : Int) := by omega
        have hw2 := HF.out.2
        have hz2 := hw2.size
        obtain ⟨f0, f1, f2, f3, f4, f5, f6⟩ := f7.below hw2 hbl
        have hst := flatK_take (kind := 7) hx
        have hfm := flatK_len 7 l (m + 1)
        have hfm0 := flatK_len 7 l m
        have HST := Lib.hid hst
        have HXN := Lib.hid hxn
        have HKD := Lib.hid hkids
        obtain ⟨p5, c5, hu5, hc5⟩ := own_slice_le HF.out.1
        obtain ⟨n5, hn5⟩ : ∃ n5, n5 = (flatK 7 (l.take m)).length := ⟨_, rfl⟩
        have HN5 := Lib.hid hn5
        rw [← hn5] at hu5 hc5
        subst hu5
        have HMV := Lib.hid (show ∀ c, S c → (S c ∧ c < wr.heap.size ∧ Value.ownBlock (.slice p5 n5 c5) ≠ some c) ∧ wr.heap[c]? = w1.heap[c]? from fun c hc => ⟨⟨hc, Nat.lt_of_lt_of_le (HS.out c hc) hz2, own_ne HF.out.1 (HS.out c hc)⟩, hw2.block c (HS.out c hc)⟩)
        clear hxn hkids f7 hst hvl hn5
        have HO1 := Lib.hid (HF.out.1.kept (below_new wr (.cells #[.int .i64 k, .slice ka ki kj, .int .i64 mn, .int .i64 mx, .bool lz, .int .i64 g, .slice kp x.kids.length kcap] 29)))
        have HB1 := Lib.hid (bvia hw2 (below_new wr (.cells #[.int .i64 k, .slice ka ki kj, .int .i64 mn, .int .i64 mx, .bool lz, .int .i64 g, .slice kp x.kids.length kcap] 29)))
        have HM1 := Lib.hid (show ∀ c, S c → (S c ∧ c < (wr.alloc (.cells #[.int .i64 k, .slice ka ki kj, .int .i64 mn, .int .i64 mx, .bool lz, .int .i64 g, .slice kp x.kids.length kcap] 29)).heap.size ∧ Value.ownBlock (.slice p5 n5 c5) ≠ some c) ∧ (wr.alloc (.cells #[.int .i64 k, .slice ka ki kj, .int .i64 mn, .int .i64 mx, .bool lz, .int .i64 g, .slice kp x.kids.length kcap] 29)).heap[c]? = w1.heap[c]? from fun c hc => ⟨⟨hc, by have := (HMV.out c hc).1.2.1; simp; omega, (HMV.out c hc).1.2.2⟩, (Below.heap_alloc _ _ _ (HMV.out c hc).1.2.1).trans (HMV.out c hc).2⟩)
        by_cases hkk : k = 7
        · subst hkk
          have HFL := Lib.hid (show flatK 7 (l.take (m + 1)) = flatK 7 (l.take m) ++ x.kids by rw [HST.out, if_pos hxk])
          by_cases hkn : x.kids = []
          · have HKN := Lib.hid hkn
            have hk0 : x.kids.length = 0 := by rw [hkn]; rfl
            rw [hk0] at HO1 HB1 HM1 f6
            clear hkn hk0
            go_wp2_with (at_builtin; refine wpList_append_nothing _ rfl _ _ 27 rfl 29 Tryz.underlying27 Tryz.infoSN p5 n5 c5 kp kcap rfl rfl hc5 ?_)
            go_wp2_with fail
            go_roundw
            case rel => exact ⟨m + 1, by go_num, by omega, by rw [HFL.out, HKN.out, List.append_nil]; exact HO1.out, HB1.out⟩
            case measure => simp [intOf]; omega
          · obtain ⟨y, hy⟩ : ∃ y, x.kids[0]? = some y := by
              cases hh : x.kids with
              | nil => exact absurd hh hkn
              | cons y t => exact ⟨y, rfl⟩
            obtain ⟨kb, ko, _, _, _, _, _, _, _, rfl, _⟩ := kidsS_get HKD.out hy
            have hlen := congrArg List.length HFL.out
            rw [List.length_append] at hlen
            have hkl : (flatK 7 (l.take m)).length + x.kids.length ≤ 1000000 := by omega
            have HKL := Lib.hid hkl
            clear hlen hkl hy hfm hfm0 hxk hkn
            go_wp2_with (at_builtin; refine wpList_append_nodes rfl _ _ 27 rfl w1.heap.size 29 Tryz.underlying27 Tryz.infoSN S _ _ (flatK 7 (l.take m)) x.kids kb ko kcap rfl (by exact HO1.out) rfl (by exact HKD.out.mono HM1.out) (by exact HKL.out) (by exact HB1.out.size) ?_)
            intro v' w' hown' hg'
            have HO3 := Lib.hid hown'
            have b3 := own_below_grown HO1.out HB1.out (Nat.le_refl _) hg'
            clear hown' hg' HO1 HB1 HM1 HF HMV hw2
            go_wp2_with fail
            go_roundw
            case rel => exact ⟨m + 1, by go_num, by omega, by rw [HFL.out]; exact HO3.out, b3⟩
            case measure => simp [intOf]; omega
        · have t1 : (k == 7) = false := by rw [beq_eq_false_iff_ne]; exact hkk
          have HFL := Lib.hid (show flatK 7 (l.take (m + 1)) = flatK 7 (l.take m) ++ [x] by rw [HST.out, if_neg (by rw [hxk]; exact hkk), if_neg (by exact fun e => by have := e.2; omega)])
          have HKL := Lib.hid (show (flatK 7 (l.take m)).length ≤ 1000000 by omega)
          have HXM := Lib.hid (HXN.out.mono HM1.out)
          clear hkk hfm hfm0 hxk
          go_wp2_with (at_builtin; refine wpList_append_node rfl _ _ 27 rfl w1.heap.size 29 Tryz.underlying27 Tryz.infoSN S _ _ (flatK 7 (l.take m)) k ka ki kj mn mx lz g kp x.kids.length kcap x rfl (by exact HO1.out) (by rw [World.size_alloc]; rfl) (by exact HXM.out) (by exact HKL.out) (by exact HB1.out.size) ?_)
          intro v' w' hown' hg'
          have HO3 := Lib.hid hown'
          have b3 := own_below_grown HO1.out HB1.out (Nat.le_refl _) hg'
          clear hown' hg' HO1 HB1 HM1 HF HMV hw2 HXM
          go_wp2_with fail
          go_roundw
          case rel => exact ⟨m + 1, by go_num, by omega, by rw [HFL.out]; exact HO3.out, b3⟩
          case measure => simp [intOf]; omega
      · obtain rfl : m = l.length := by omega
        rw [List.take_length] at HF
        obtain ⟨p9, cap9, hv9, hc9, hk9⟩ := own_kids (S' := fun b => (S b ∨ (w.heap.size ≤ b ∧ b < wr.heap.size)) ∧ b ≠ w.heap.size) HF.out.1 (fun b h1 h2 => ⟨.inl h1, fun e => by have := HS0.out b h1; omega⟩) (fun b h1 h2 => by have := HZ.out; exact ⟨.inr ⟨by omega, h2⟩, by omega⟩)
        subst hv9
        have HK9 := Lib.hid hk9
        have HBB := Lib.hid (bvia HB.out HF.out.2)
        have S1 := HZS.out.below HF.out.2
        obtain ⟨y0, y1, y2, y3, y4, y5, y6, yf⟩ := S1.cells
        clear S1 hk9 HF HB
        have HB := HBB
        clear HBB
        obtain ⟨n, hn⟩ : ∃ n, n = (flatK 7 l).length := ⟨_, rfl⟩
        have HNN := Lib.hid hn
        have HFL := Lib.hid hfl
        have HZW := Lib.hid (show w.heap.size ≤ wr.heap.size from HB.out.size)
        rw [← hn]
        clear hn hfl
        have h7 := set7_seven wr w.heap.size 7 0 0 0 false (.slice none 0 0) (.slice p9 n cap9) y0 y1 y2 y3 y4 y5 y6
        have HN := Lib.hid (show NodeVS (Joined S w (set7 wr w.heap.size (.int .i64 7) (.slice none 0 0) (.int .i64 0) (.int .i64 0) (.bool false) (.int .i64 0) (.slice p9 n cap9))) (set7 wr w.heap.size (.int .i64 7) (.slice none 0 0) (.int .i64 0) (.int .i64 0) (.bool false) (.int .i64 0) (.slice p9 n cap9)) (ndv 7 (.slice none 0 0) 0 0 false 0 (.slice p9 n cap9)) (Sx.choice0 l) from by rw [HNN.out, Sx.choice0_many HLL.out, ← flatK7]; exact node_laid HS0.out HZW.out (nodeS_mk (kids := flatK 7 l) (by decide) (by have := HFL.out; omega) HK9.out))
        have HBF := Lib.hid (below_set7 HB.out (Nat.le_refl _) (.int .i64 7) (.slice none 0 0) (.int .i64 0) (.int .i64 0) (.bool false) (.int .i64 0) (.slice p9 n cap9))
        go_wp2_with fail
        change bodyPost _ _ _ _ _ (set7 wr w.heap.size (.int .i64 7) (.slice none 0 0) (.int .i64 0) (.int .i64 0) (.bool false) (.int .i64 0) (.slice p9 n cap9))
        obtain ⟨z0, z1, z2, z3, z4, z5, z6⟩ := h7
        simp only [Nat.zero_add] at z0 z1 z2 z3 z4 z5 z6
        generalize (set7 wr w.heap.size (.int .i64 7) (.slice none 0 0) (.int .i64 0) (.int .i64 0) (.bool false) (.int .i64 0) (.slice p9 n cap9)) = wf at *
        exact bodyPost_ret (v := ndv 7 (.slice none 0 0) 0 0 false 0 (.slice p9 n cap9)) (by unfold ndv; simp [results, Tryz.results36, go_sem, *]) rfl ⟨_, rfl, HN.out, HBF.out⟩
end Go.Proofs.YtdoapojmenojoaaGreatDoor
end
