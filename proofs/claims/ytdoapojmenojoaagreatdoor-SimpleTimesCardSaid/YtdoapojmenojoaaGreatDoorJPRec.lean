import Derived.Test.YtdoapojmenojoaaGreatDoorJPPat
import Derived.Defers
import Derived.Recover
import Derived.BigRegion
set_option linter.unusedSimpArgs false
set_option linter.unusedVariables false
section
/- What is wrong is recovered: the deferred closure. -/
set_option linter.unusedVariables false
namespace Go.Proofs.YtdoapojmenojoaaGreatDoor
open Go.RowKit
open Sx (Nd)

theorem run_fault (v : Value) (xT : TypeId) (w : World) : (Instr.typeAssert (.iface 70 v) xT 70 true).run Tryz.prog w = .ok (.tuple #[v, .bool true]) w := by
  simp [Instr.typeAssert, run_underlying Tryz.underlying70]
theorem run_fault_nil (xT : TypeId) (w : World) : (Instr.typeAssert .nilIface xT 70 true).run Tryz.prog w = .ok (.tuple #[.agg #[.int .i64 0, .int .i64 0], .bool false]) w := by
  have hz : (Tryz.prog.info? 70).map (fun i => i.zero) = some (some (.agg #[.int .i64 0, .int .i64 0])) := by kernel_rfl
  obtain ⟨i, hi, hz'⟩ := Option.map_eq_some_iff.1 hz
  simp [Instr.typeAssert, run_underlying Tryz.underlying70, typeInfo, zeroValue, hi, hz']
set_option maxRecDepth 20000 in
set_option maxHeartbeats 1000000 in
theorem rec_panicking (A E : Nat) (x y b k : Int) (w : World) (hA : w.cell? ⟨A, 0, none⟩ = some (.int .i64 x)) (hE : w.cell? ⟨E, 0, none⟩ = some (.int .i64 y)) (fA : w.frozen? ⟨A, 0, none⟩ = false) (fE : w.frozen? ⟨E, 0, none⟩ = false) (hAE : A ≠ E) (hAl : A < w.heap.size) (hEl : E < w.heap.size) :
    CallsD Tryz.prog 41 #[.pointer (some ⟨A, 0, none⟩), .pointer (some ⟨E, 0, none⟩)] (.panicking [{ v := .iface 70 (.agg #[.int .i64 b, .int .i64 k]), recovered := false }]) w fun e u' w' =>
      e = .returned (.tuple #[]) ∧ u' = .panicking [{ v := .iface 70 (.agg #[.int .i64 b, .int .i64 k]), recovered := true }] ∧ Kp (fun c => c = A ∨ c = E) w w' ∧ w'.cell? ⟨A, 0, none⟩ = some (.int .i64 b) ∧ w'.cell? ⟨E, 0, none⟩ = some (.int .i64 k) := by
  have hAn : ¬ A = w.heap.size := Nat.ne_of_lt hAl
  have hEn : ¬ E = w.heap.size := Nat.ne_of_lt hEl
  have hta := fun w => run_fault (.agg #[.int .i64 b, .int .i64 k]) 20 w
  refine callsD_of_wpS Tryz.func41 rfl fun c₀ cs hu => ?_
  change Code.wpS _ _ _ ⟨#[.pointer (some ⟨A, 0, none⟩), .pointer (some ⟨E, 0, none⟩), undef, undef, undef, undef, undef, undef, undef, undef, undef, undef, undef, undef], []⟩ _ _
  apply wpS_seq
  apply wpS_region
  simp [wpOpsS, go_sem, recoverD, hu, Exit.thenS, hta]
  refine wpS_of_wp ?_
  have hb0 : (w.alloc (.cells #[.int .i64 b, .int .i64 k] 70)).heap[w.heap.size]? = some (.cells #[.int .i64 b, .int .i64 k] 70 (0, 0)) := new_block w _
  have x0 : (w.alloc (.cells #[.int .i64 b, .int .i64 k] 70)).cell? ⟨w.heap.size, 0, none⟩ = some (.int .i64 b) := by rw [Lib.cell_of_heap hb0]; rfl
  have x1 : (w.alloc (.cells #[.int .i64 b, .int .i64 k] 70)).cell? ⟨w.heap.size, 1, none⟩ = some (.int .i64 k) := by rw [Lib.cell_of_heap hb0]; rfl
  have hA' := (cell_alloc_old hAl (.cells #[.int .i64 b, .int .i64 k] 70) 0).trans hA
  have hE' := (cell_alloc_old hEl (.cells #[.int .i64 b, .int .i64 k] 70) 0).trans hE
  have fA' := (frozen_of_block (w := w) (a := ⟨A, 0, none⟩) (Below.heap_alloc w (.cells #[.int .i64 b, .int .i64 k] 70) A hAl)).trans fA
  have fE' := (frozen_of_block (w := w) (a := ⟨E, 0, none⟩) (Below.heap_alloc w (.cells #[.int .i64 b, .int .i64 k] 70) E hEl)).trans fE
  have hk0 := (Kp.refl (fun c => c = A ∨ c = E) w).alloc (.cells #[.int .i64 b, .int .i64 k] 70)
  clear hA hE fA fE hb0
  generalize (w.alloc (.cells #[.int .i64 b, .int .i64 k] 70)) = w1 at *
  generalize w.heap.size = B at *
  go_wp2_with fail
  have hBA : ¬ B = A := fun e => hAn e.symm
  have hBE : ¬ B = E := fun e => hEn e.symm
  have hEA : ¬ E = A := fun e => hAE e.symm
  have hAE' : ¬ A = E := hAE
  go_region
  have hkf := ((hk0.set ⟨A, 0, none⟩ (.inl (.inl rfl)) (.int .i64 b)).set ⟨E, 0, none⟩ (.inl (.inr rfl)) (.int .i64 k)).drew
  have cA : ((w1.setCell ⟨A, 0, none⟩ (.int .i64 b)).setCell ⟨E, 0, none⟩ (.int .i64 k)).drew.cell? ⟨A, 0, none⟩ = some (.int .i64 b) := by
    show ((w1.setCell ⟨A, 0, none⟩ (.int .i64 b)).setCell ⟨E, 0, none⟩ (.int .i64 k)).cell? ⟨A, 0, none⟩ = _
    rw [World.cell?_setCell_other _ _ _ _ (by intro e; exact hAE (congrArg Addr.block e).symm)]
    exact World.cell?_setCell_same w1 _ _ hA'
  have cE : ((w1.setCell ⟨A, 0, none⟩ (.int .i64 b)).setCell ⟨E, 0, none⟩ (.int .i64 k)).drew.cell? ⟨E, 0, none⟩ = some (.int .i64 k) :=
    World.cell?_setCell_same (w1.setCell ⟨A, 0, none⟩ (.int .i64 b)) _ _ (by rw [World.cell?_setCell_other _ _ _ _ (by intro e; exact hAE (congrArg Addr.block e))]; exact hE')
  generalize ((w1.setCell ⟨A, 0, none⟩ (.int .i64 b)).setCell ⟨E, 0, none⟩ (.int .i64 k)).drew = wf at hkf cA cE ⊢
  show bodyPostS _ _ c₀ cs _ Exit.normal _ _ _
  cases c₀
  simp_all [bodyPostS, results, Tryz.results41]
set_option maxRecDepth 20000 in
set_option maxHeartbeats 1000000 in
theorem rec_idle (A E : Nat) (w : World) :
    CallsD Tryz.prog 41 #[.pointer (some ⟨A, 0, none⟩), .pointer (some ⟨E, 0, none⟩)] .returning w fun e u' w' => e = .returned (.tuple #[]) ∧ u' = .returning ∧ Below w.heap.size w w' := by
  have hta := fun w => run_fault_nil 20 w
  have hb := below_new w (.cells #[.int .i64 0, .int .i64 0] 70)
  refine callsD_of_wpS Tryz.func41 rfl fun c₀ cs hu => ?_
  change Code.wpS _ _ _ ⟨#[.pointer (some ⟨A, 0, none⟩), .pointer (some ⟨E, 0, none⟩), undef, undef, undef, undef, undef, undef, undef, undef, undef, undef, undef, undef], []⟩ _ _
  apply wpS_seq
  apply wpS_region
  simp [wpOpsS, go_sem, recoverD, hu, Exit.thenS, hta]
  refine wpS_of_wp ?_
  generalize (w.alloc (.cells #[.int .i64 0, .int .i64 0] 70)) = w1 at *
  go_wp2_with fail
  show bodyPostS _ _ c₀ cs _ Exit.normal _ _ _
  cases c₀
  simp_all [bodyPostS, results, Tryz.results41]
end Go.Proofs.YtdoapojmenojoaaGreatDoor
end

section
/- A pattern is parsed. -/
set_option linter.unusedVariables false
namespace Go.Proofs.YtdoapojmenojoaaGreatDoor
open Go.RowKit
open Sx (Nd)

def ParsePost (s : ByteArray) (w : World) (e : Ending) (w' : World) : Prop :=
  ∃ u n at' k, e = .returned (.tuple #[u, .int .i64 at', .int .i64 k]) ∧ NodeVS (New w w') w' u n ∧ Sx.Parsed s n at' k ∧ Below w.heap.size w w'
/- its three named results -/
abbrev W3 (w : World) : World := ((w.alloc (.cells #[.int .i64 0, .slice none 0 0, .int .i64 0, .int .i64 0, .bool false, .int .i64 0, .slice none 0 0] 29)).alloc (.cells #[.int .i64 0] 3)).alloc (.cells #[.int .i64 0] 30)
structure Res (w wr : World) (x y : Int) : Prop where
  sev : Seven0 wr w.heap.size
  cA : wr.cell? ⟨w.heap.size + 1, 0, none⟩ = some (.int .i64 x)
  cE : wr.cell? ⟨w.heap.size + 1 + 1, 0, none⟩ = some (.int .i64 y)
  fA : wr.frozen? ⟨w.heap.size + 1, 0, none⟩ = false
  fE : wr.frozen? ⟨w.heap.size + 1 + 1, 0, none⟩ = false
  lt : w.heap.size + 1 + 1 < wr.heap.size
  below : Below w.heap.size w wr
theorem res_start (w : World) : Res w (W3 w) 0 0 := by
  have b1 := Below.alloc (Below.refl w.heap.size w) (Nat.le_refl _) (.cells #[.int .i64 0, .slice none 0 0, .int .i64 0, .int .i64 0, .bool false, .int .i64 0, .slice none 0 0] 29)
  have b2 := b1.alloc b1.size (.cells #[.int .i64 0] 3)
  have b3 := b2.alloc b2.size (.cells #[.int .i64 0] 30)
  have hA : (W3 w).heap[w.heap.size + 1]? = some (.cells #[.int .i64 0] 3 (0, 0)) := by
    have h1 := new_block (w.alloc (.cells #[.int .i64 0, .slice none 0 0, .int .i64 0, .int .i64 0, .bool false, .int .i64 0, .slice none 0 0] 29)) (.cells #[.int .i64 0] 3)
    rw [World.size_alloc] at h1
    exact (Below.heap_alloc _ _ _ (by simp)).trans h1
  have hE : (W3 w).heap[w.heap.size + 1 + 1]? = some (.cells #[.int .i64 0] 30 (0, 0)) := by
    have h1 := new_block ((w.alloc (.cells #[.int .i64 0, .slice none 0 0, .int .i64 0, .int .i64 0, .bool false, .int .i64 0, .slice none 0 0] 29)).alloc (.cells #[.int .i64 0] 3)) (.cells #[.int .i64 0] 30)
    rw [World.size_alloc, World.size_alloc] at h1
    exact h1
  refine ⟨?_, by rw [Lib.cell_of_heap hA]; rfl, by rw [Lib.cell_of_heap hE]; rfl, Lib.frozen_of_heap hA 0, Lib.frozen_of_heap hE 0, by simp, b3⟩
  exact ((Below.heap_alloc _ _ _ (by simp <;> omega)).trans (Below.heap_alloc _ _ _ (by simp))).trans (seven0_new w)
theorem Res.kp {X : Nat → Prop} {w wr w' : World} {x y : Int} (h : Res w wr x y) (k : Kp X wr w') (hX : ∀ b, b < w.heap.size + 3 → ¬ X b) : Res w w' x y := by
  have hb : ∀ b, b < w.heap.size + 3 → w'.heap[b]? = wr.heap[b]? := fun b hb => k.block b (by have := h.lt; omega) (hX b hb)
  have hA := hb (w.heap.size + 1) (by omega)
  have hE := hb (w.heap.size + 1 + 1) (by omega)
  exact ⟨(hb _ (by omega)).trans h.sev, (cell_of_block (a := ⟨w.heap.size + 1, 0, none⟩) hA).trans h.cA, (cell_of_block (a := ⟨w.heap.size + 1 + 1, 0, none⟩) hE).trans h.cE,
    (frozen_of_block (a := ⟨w.heap.size + 1, 0, none⟩) hA).trans h.fA, (frozen_of_block (a := ⟨w.heap.size + 1 + 1, 0, none⟩) hE).trans h.fE, Nat.lt_of_lt_of_le h.lt k.size, h.below.trans (k.to h.below.size (fun i hi => hX i (by omega)))⟩
/- what is wrong, told -/
theorem told_bad {s : ByteArray} {w wr w2 : World} {x y b k : Int} (h : Res w wr x y) (hk : Kp (fun c => c = w.heap.size + 1 ∨ c = w.heap.size + 1 + 1) wr w2) : w2.cell? ⟨w.heap.size, 0, none⟩ = some (.int .i64 0) ∧ w2.cell? ⟨w.heap.size, 1, none⟩ = some (.slice none 0 0) ∧ w2.cell? ⟨w.heap.size, 2, none⟩ = some (.int .i64 0) ∧ w2.cell? ⟨w.heap.size, 3, none⟩ = some (.int .i64 0) ∧ w2.cell? ⟨w.heap.size, 4, none⟩ = some (.bool false) ∧ w2.cell? ⟨w.heap.size, 5, none⟩ = some (.int .i64 0) ∧ w2.cell? ⟨w.heap.size, 6, none⟩ = some (.slice none 0 0) ∧ Below w.heap.size w w2 ∧ NodeVS (New w w2) w2 (ndv 0 (.slice none 0 0) 0 0 false 0 (.slice none 0 0)) Sx.empty := by
  have h7 := (h.sev.kp hk (by omega)).cells
  exact ⟨h7.1, h7.2.1, h7.2.2.1, h7.2.2.2.1, h7.2.2.2.2.1, h7.2.2.2.2.2.1, h7.2.2.2.2.2.2.1, h.below.trans (hk.to h.below.size (fun i hi e => by omega)), _, _, _, _, _, _, _, rfl, nodeS_mk (kids := []) (by decide) (by simp) (by rw [KidsS]; trivial)⟩
set_option maxRecDepth 20000 in
set_option maxHeartbeats 1000000 in
theorem parse_long (s : ByteArray) (w : World) (hs : 200 < s.size) (hz : s.size ≤ 1000000000000) : Calls Tryz.prog 14 #[.string s] w (ParsePost s w) := by
  have hmf : ∀ (fn : Fn) (first cap : Array Value) (w : World), (Instr.makeFunc fn first cap).run Tryz.prog w = .ok (.func fn first cap) w := fun _ _ _ _ => rfl
  have hd : decide ((s.size : Int) > 200) = true := by rw [decide_eq_true_iff]; omega
  go_enter_defers Tryz.func14, Tryz.ntmps14
  go_wp2
  have hR := res_start w
  generalize hw3 : W3 w = w3 at hR
  unfold W3 at hw3
  rw [hw3]
  clear hw3
  refine leaves_cons (f := 41) (args := #[.pointer (some ⟨w.heap.size + 1, 0, none⟩), .pointer (some ⟨w.heap.size + 1 + 1, 0, none⟩)]) (by simp) (by simp [go_sem]) ?_
  refine (rec_panicking (w.heap.size + 1) (w.heap.size + 1 + 1) 0 0 200 3 w3 hR.cA hR.cE hR.fA hR.fE (by omega) (by have := hR.lt; omega) hR.lt).mono ?_
  rintro e u' w2 ⟨rfl, rfl, hk, dA, dE⟩
  obtain ⟨y0, y1, y2, y3, y4, y5, y6, hb, hn⟩ := told_bad (s := s) (b := 0) (k := 0) hR hk
  clear hk hR
  have HF := Lib.hid (show ParsePost s w (.returned (.tuple #[ndv 0 (.slice none 0 0) 0 0 false 0 (.slice none 0 0), .int .i64 200, .int .i64 3])) w2 from ⟨_, Sx.empty, 200, 3, rfl, hn, .long hs, hb⟩)
  unfold ndv at HF
  clear hb hn
  simp [Leaves, settle, results, Tryz.results14, go_sem, *]
  exact HF.out
abbrev OS (w : World) : Value := .slice (some ⟨w.heap.size + 1 + 1 + 1, 0, none⟩) 1 1
abbrev W5 (s : ByteArray) (w : World) : World := ((W3 w).alloc (.cells #[.int .i64 0, .slice none 0 0, .slice none 0 0, .bool false] 73)).alloc (.cells #[.string s, .int .i64 0, .int .i64 0, .int .i64 0, OS w] 76)
theorem w3_size (w : World) : (W3 w).heap.size = w.heap.size + 1 + 1 + 1 := by rw [World.size_alloc, World.size_alloc, World.size_alloc]
theorem parse_start (B0 : Nat) (s : ByteArray) (w : World) (hs : s.size ≤ 200) (hG : Errs B0 w) (hB : B0 ≤ w.heap.size) :
    Env (w.heap.size + 3) (fun b => b = w.heap.size + 1 + 1 + 1 + 1) (w.heap.size + 1 + 1 + 1 + 1) s (W5 s w) ∧ PB (W5 s w) (w.heap.size + 1 + 1 + 1 + 1) s 0 0 0 (OS w) ∧ SK (w.heap.size + 3) (W5 s w) (fun b => b = w.heap.size + 1 + 1 + 1 + 1) (OS w) [entN 0] ∧ Res w (W5 s w) 0 0 := by
  have hz3 := w3_size w
  have hR := res_start w
  unfold W5
  generalize W3 w = w3 at *
  have hg : ((w3.alloc (.cells #[.int .i64 0, .slice none 0 0, .slice none 0 0, .bool false] 73)).alloc (.cells #[.string s, .int .i64 0, .int .i64 0, .int .i64 0, OS w] 76)).heap[w.heap.size + 1 + 1 + 1]? = some (.cells #[.int .i64 0, .slice none 0 0, .slice none 0 0, .bool false] 73 (0, 0)) := by
    have h1 := new_block w3 (.cells #[.int .i64 0, .slice none 0 0, .slice none 0 0, .bool false] 73)
    rw [hz3] at h1
    exact (Below.heap_alloc _ _ _ (by simp [hz3])).trans h1
  have hp : ((w3.alloc (.cells #[.int .i64 0, .slice none 0 0, .slice none 0 0, .bool false] 73)).alloc (.cells #[.string s, .int .i64 0, .int .i64 0, .int .i64 0, OS w] 76)).heap[w.heap.size + 1 + 1 + 1 + 1]? = some (.cells #[.string s, .int .i64 0, .int .i64 0, .int .i64 0, OS w] 76 (0, 0)) := by
    have h1 := new_block (w3.alloc (.cells #[.int .i64 0, .slice none 0 0, .slice none 0 0, .bool false] 73)) (.cells #[.string s, .int .i64 0, .int .i64 0, .int .i64 0, OS w] 76)
    rw [World.size_alloc, hz3] at h1
    exact h1
  have hk : Kp (fun _ => False) w3 ((w3.alloc (.cells #[.int .i64 0, .slice none 0 0, .slice none 0 0, .bool false] 73)).alloc (.cells #[.string s, .int .i64 0, .int .i64 0, .int .i64 0, OS w] 76)) := ((Kp.refl _ w3).alloc _).alloc _
  have hsz : ((w3.alloc (.cells #[.int .i64 0, .slice none 0 0, .slice none 0 0, .bool false] 73)).alloc (.cells #[.string s, .int .i64 0, .int .i64 0, .int .i64 0, OS w] 76)).heap.size = w.heap.size + 5 := by rw [World.size_alloc, World.size_alloc, hz3]
  have hRR := hR.kp hk (fun b _ h => h)
  refine ⟨⟨by omega, fun b hb => by omega, rfl, hs, by omega, B0, hG.below (hRR.below.mono hB), by omega⟩, hp, ⟨?_, fun x hx => ?_, ?_, fun u hu g hgu e => ?_⟩, hRR⟩
  · exact ⟨rfl, .inr ⟨_, 1, _, rfl, by omega, hg, Nat.le_refl _, by decide, rfl, rfl⟩⟩
  · rw [List.mem_singleton] at hx; subst hx; exact ⟨OwnN.nil _ _ _ _, OwnN.nil _ _ _ _⟩
  · have hno : ∀ g, (Value.slice none 0 0).ownBlock ≠ some g := fun g e => by simp [Value.ownBlock] at e
    show List.Pairwise Ap [OS w, .slice none 0 0, .slice none 0 0]
    simp only [List.pairwise_cons, List.mem_cons, List.not_mem_nil, or_false]
    refine ⟨fun u hu g _ e => ?_, fun u hu g e => absurd e (hno g), fun u hu => hu.elim, List.Pairwise.nil⟩
    rcases hu with rfl | rfl <;> exact hno g e
  · have hno : ∀ g, (Value.slice none 0 0).ownBlock ≠ some g := fun g e => by simp [Value.ownBlock] at e
    have hu' : u ∈ [OS w, .slice none 0 0, .slice none 0 0] := hu
    simp only [List.mem_cons, List.not_mem_nil, or_false] at hu'
    rcases hu' with rfl | rfl | rfl
    · simp [Value.ownBlock] at hgu; omega
    · exact hno g hgu
    · exact hno g hgu
/- what is parsed, told -/
theorem told_ok {w w6 w9 : World} {k9 : Int} {ka : Option Addr} {ki kj : Nat} {mn mx : Int} {lz : Bool} {gn : Int} {kb : Option Addr} {ks kt : Nat} {n : Nd} {x y : Int} {S : Nat → Prop} (h : Res w w6 0 0) (hn : NodeS S w6 k9 (.slice ka ki kj) mn mx lz gn (.slice kb ks kt) n) (hS : ∀ b, S b → w.heap.size + 3 ≤ b ∧ b < w6.heap.size)
    (hb : Below (((set7 w6 w.heap.size (.int .i64 k9) (.slice ka ki kj) (.int .i64 mn) (.int .i64 mx) (.bool lz) (.int .i64 gn) (.slice kb ks kt)).setCell ⟨w.heap.size + 1, 0, none⟩ (.int .i64 x)).setCell ⟨w.heap.size + 1 + 1, 0, none⟩ (.int .i64 y)).heap.size (((set7 w6 w.heap.size (.int .i64 k9) (.slice ka ki kj) (.int .i64 mn) (.int .i64 mx) (.bool lz) (.int .i64 gn) (.slice kb ks kt)).setCell ⟨w.heap.size + 1, 0, none⟩ (.int .i64 x)).setCell ⟨w.heap.size + 1 + 1, 0, none⟩ (.int .i64 y)) w9) :
    (w9.cell? ⟨w.heap.size, 0, none⟩ = some (.int .i64 k9) ∧ w9.cell? ⟨w.heap.size, 1, none⟩ = some (.slice ka ki kj) ∧ w9.cell? ⟨w.heap.size, 2, none⟩ = some (.int .i64 mn) ∧ w9.cell? ⟨w.heap.size, 3, none⟩ = some (.int .i64 mx) ∧ w9.cell? ⟨w.heap.size, 4, none⟩ = some (.bool lz) ∧ w9.cell? ⟨w.heap.size, 5, none⟩ = some (.int .i64 gn) ∧ w9.cell? ⟨w.heap.size, 6, none⟩ = some (.slice kb ks kt)) ∧
    w9.cell? ⟨w.heap.size + 1, 0, none⟩ = some (.int .i64 x) ∧ w9.cell? ⟨w.heap.size + 1 + 1, 0, none⟩ = some (.int .i64 y) ∧ Below w.heap.size w w9 ∧ NodeVS (New w w9) w9 (ndv k9 (.slice ka ki kj) mn mx lz gn (.slice kb ks kt)) n := by
  obtain ⟨y0, y1, y2, y3, y4, y5, y6, yf⟩ := h.sev.cells
  have h7 := set7_seven w6 w.heap.size k9 mn mx gn lz (.slice ka ki kj) (.slice kb ks kt) y0 y1 y2 y3 y4 y5 y6
  obtain ⟨wq, hq⟩ : ∃ wq, wq = set7 w6 w.heap.size (.int .i64 k9) (.slice ka ki kj) (.int .i64 mn) (.int .i64 mx) (.bool lz) (.int .i64 gn) (.slice kb ks kt) := ⟨_, rfl⟩
  have hqb : ∀ b, b ≠ w.heap.size → wq.heap[b]? = w6.heap[b]? := fun b hb => by rw [hq]; exact set7_block _ _ _ _ _ _ _ _ _ b hb
  have hqz : wq.heap.size = w6.heap.size := by rw [hq]; exact set7_size ..
  have hqk : Kp (fun b => b = w.heap.size) w6 wq := by rw [hq]; exact Kp.set7X (X := fun b => b = w.heap.size) (Kp.refl _ _) rfl _ _ _ _ _ _ _
  rw [← hq] at hb h7
  clear hq y0 y1 y2 y3 y4 y5 y6 yf
  have hlt := h.lt
  have hz : ((wq.setCell ⟨w.heap.size + 1, 0, none⟩ (.int .i64 x)).setCell ⟨w.heap.size + 1 + 1, 0, none⟩ (.int .i64 y)).heap.size = w6.heap.size := by simp [World.setCell, hqz]
  have hold : ∀ b, b < w6.heap.size → b ≠ w.heap.size + 1 → b ≠ w.heap.size + 1 + 1 → w9.heap[b]? = wq.heap[b]? := fun b hb1 h1 h2 =>
    (hb.block b (by rw [hz]; exact hb1)).trans ((Below.heap_setCell _ _ _ _ h2).trans (Below.heap_setCell _ _ _ _ h1))
  have h7' := h7.block (hold w.heap.size (by omega) (by omega) (by omega))
  obtain ⟨z0, z1, z2, z3, z4, z5, z6⟩ := h7'
  simp only [Nat.zero_add] at z0 z1 z2 z3 z4 z5 z6
  have cA : wq.cell? ⟨w.heap.size + 1, 0, none⟩ = some (.int .i64 0) := (cell_of_block (a := ⟨w.heap.size + 1, 0, none⟩) (hqb _ (by simp))).trans h.cA
  have cE : wq.cell? ⟨w.heap.size + 1 + 1, 0, none⟩ = some (.int .i64 0) := (cell_of_block (a := ⟨w.heap.size + 1 + 1, 0, none⟩) (hqb _ (by simp <;> omega))).trans h.cE
  have dA : ((wq.setCell ⟨w.heap.size + 1, 0, none⟩ (.int .i64 x)).setCell ⟨w.heap.size + 1 + 1, 0, none⟩ (.int .i64 y)).cell? ⟨w.heap.size + 1, 0, none⟩ = some (.int .i64 x) := by
    rw [World.cell?_setCell_other _ _ _ _ (by intro e; have := congrArg Addr.block e; simp at this)]
    exact World.cell?_setCell_same _ _ _ cA
  have dE : ((wq.setCell ⟨w.heap.size + 1, 0, none⟩ (.int .i64 x)).setCell ⟨w.heap.size + 1 + 1, 0, none⟩ (.int .i64 y)).cell? ⟨w.heap.size + 1 + 1, 0, none⟩ = some (.int .i64 y) :=
    World.cell?_setCell_same _ _ _ (by rw [World.cell?_setCell_other _ _ _ _ (by intro e; have := congrArg Addr.block e; simp at this)]; exact cE)
  have hkz : Kp (fun b => w.heap.size ≤ b) w6 w9 := (((hqk.mono (fun b _ e => by omega)).set ⟨w.heap.size + 1, 0, none⟩ (.inl (by simp)) (.int .i64 x)).set ⟨w.heap.size + 1 + 1, 0, none⟩ (.inl (by simp; omega)) (.int .i64 y)).below hb
  refine ⟨⟨z0, z1, z2, z3, z4, z5, z6⟩, (hb.cell (p := ⟨w.heap.size + 1, 0, none⟩) (by rw [hz]; simp; omega)).trans dA, (hb.cell (p := ⟨w.heap.size + 1 + 1, 0, none⟩) (by rw [hz]; exact hlt)).trans dE, h.below.trans (hkz.to h.below.size (fun i hi e => by omega)), _, _, _, _, _, _, _, rfl, ?_⟩
  refine NodeS.mono ?_ hn
  intro b hb'
  have := hS b hb'
  exact ⟨⟨by omega, Nat.lt_of_lt_of_le this.2 hkz.size⟩, (hold b this.2 (by omega) (by omega)).trans (hqb b (by omega))⟩
theorem parsed_bad {s : ByteArray} {k : Int} {left : Nat} (hs : s.size ≤ 200) (h : Sx.whole (Sx.toks s) (.bad k left)) : Sx.Parsed s Sx.empty (Sx.plc s left) k := by
  rcases Sx.whole_bad h with h | ⟨n, t, g, he, ht, rfl, rfl⟩
  · exact .bad k left hs h
  · cases t with
    | nil => exact absurd rfl ht
    | cons x u => exact .close n x u g hs he
set_option maxRecDepth 20000 in
set_option maxHeartbeats 1000000 in
theorem parse_short (B0 : Nat) (s : ByteArray) (w : World) (hs : s.size ≤ 200) (hG : Errs B0 w) (hB : B0 ≤ w.heap.size) : Calls Tryz.prog 14 #[.string s] w (ParsePost s w) := by
  have hmf : ∀ (fn : Fn) (first cap : Array Value) (w : World), (Instr.makeFunc fn first cap).run Tryz.prog w = .ok (.func fn first cap) w := fun _ _ _ _ => rfl
  have hd : decide ((s.size : Int) > 200) = false := by rw [decide_eq_false_iff_not]; omega
  go_enter_defers Tryz.func14, Tryz.ntmps14
  go_wp2_with fail
  obtain ⟨hE, hpb, hsk, hR⟩ := parse_start B0 s w hs hG hB
  change Calls _ _ _ (W5 s w) _
  have HP := Lib.hid (pattern_any _ _ _ s _ (W5 s w) hE hpb hsk)
  clear hE hpb hsk
  generalize W5 s w = w5 at *
  refine HP.out.mono ?_
  rintro e w6 ⟨⟨u, n, g, rfl, hn, hwh⟩ | ⟨k, left, rfl, hk23, hwh⟩, hkp⟩
  · obtain ⟨k9, vc, mn, mx, lz, gn, vl, rfl, hnd⟩ := hn
    obtain ⟨ka, ki, kj, kb, ks, kt, rfl, rfl⟩ := nodeS_shape hnd
    have hR6 := hR.kp hkp (fun b hb hx => by have := hx.1; omega)
    obtain ⟨y0, y1, y2, y3, y4, y5, y6, yf⟩ := hR6.sev.cells
    have cA := hR6.cA
    have cE := hR6.cE
    have fA := hR6.fA
    have fE := hR6.fE
    have HR := Lib.hid hR6
    have HN := Lib.hid hnd
    have HW := Lib.hid hwh
    clear hR6 hnd hwh hkp hR HP
    unfold ndv
    go_wp2_with fail
    change bodyPostD _ _ _ _ _ (((set7 w6 w.heap.size (.int .i64 k9) (.slice ka ki kj) (.int .i64 mn) (.int .i64 mx) (.bool lz) (.int .i64 gn) (.slice kb ks kt)).setCell ⟨w.heap.size + 1, 0, none⟩ (.int .i64 (s.size : Int))).setCell ⟨w.heap.size + 1 + 1, 0, none⟩ (.int .i64 0))
    have HTO := Lib.hid (fun w9 hb => told_ok (w9 := w9) (x := (s.size : Int)) (y := 0) HR.out HN.out (fun b hb => ⟨hb.1, hb.2.2⟩) hb)
    clear y0 y1 y2 y3 y4 y5 y6 yf cA cE fA fE
    generalize (((set7 w6 w.heap.size (.int .i64 k9) (.slice ka ki kj) (.int .i64 mn) (.int .i64 mx) (.bool lz) (.int .i64 gn) (.slice kb ks kt)).setCell ⟨w.heap.size + 1, 0, none⟩ (.int .i64 (s.size : Int))).setCell ⟨w.heap.size + 1 + 1, 0, none⟩ (.int .i64 0)) = wf at *
    refine leaves_cons (f := 41) (args := #[.pointer (some ⟨w.heap.size + 1, 0, none⟩), .pointer (some ⟨w.heap.size + 1 + 1, 0, none⟩)]) (by simp) (by simp [go_sem]) ?_
    refine (rec_idle (w.heap.size + 1) (w.heap.size + 1 + 1) wf).mono ?_
    rintro e u' w9 ⟨rfl, rfl, hb⟩
    obtain ⟨⟨z0, z1, z2, z3, z4, z5, z6⟩, dA, dE, hbw, hnv⟩ := HTO.out w9 hb
    have HF := Lib.hid (show ParsePost s w (.returned (.tuple #[ndv k9 (.slice ka ki kj) mn mx lz gn (.slice kb ks kt), .int .i64 (s.size : Int), .int .i64 0])) w9 from ⟨_, n, _, _, rfl, hnv, .ok n g hs (Sx.whole_ok HW.out), hbw⟩)
    unfold ndv at HF
    clear hb hbw hnv HTO HW HN HR
    simp [Leaves, settle, results, Tryz.results14, go_sem, *]
    exact HF.out
  · have hR6 := hR.kp hkp (fun b hb hx => by have := hx.1; omega)
    have HPB := Lib.hid (parsed_bad hs hwh)
    generalize Sx.plc s left = at' at *
    clear hR hwh hkp HP
    unfold pan
    go_wp2_with fail
    refine leaves_cons (f := 41) (args := #[.pointer (some ⟨w.heap.size + 1, 0, none⟩), .pointer (some ⟨w.heap.size + 1 + 1, 0, none⟩)]) (by simp) (by simp [go_sem]) ?_
    refine (rec_panicking (w.heap.size + 1) (w.heap.size + 1 + 1) 0 0 at' k w6 hR6.cA hR6.cE hR6.fA hR6.fE (by omega) (by have := hR6.lt; omega) hR6.lt).mono ?_
    rintro e u' w2 ⟨rfl, rfl, hk, dA, dE⟩
    obtain ⟨y0, y1, y2, y3, y4, y5, y6, hb, hn⟩ := told_bad (s := s) (b := 0) (k := 0) hR6 hk
    clear hk hR6
    have HF := Lib.hid (show ParsePost s w (.returned (.tuple #[ndv 0 (.slice none 0 0) 0 0 false 0 (.slice none 0 0), .int .i64 at', .int .i64 k])) w2 from ⟨_, Sx.empty, at', k, rfl, hn, HPB.out, hb⟩)
    unfold ndv at HF
    clear hb hn HPB
    simp [Leaves, settle, results, Tryz.results14, go_sem, *]
    exact HF.out
/- any text -/
theorem parse_any (B0 : Nat) (s : ByteArray) (w : World) (hz : s.size ≤ 1000000000000) (hG : Errs B0 w) (hB : B0 ≤ w.heap.size) : Calls Tryz.prog 14 #[.string s] w (ParsePost s w) := by
  by_cases h : s.size ≤ 200
  · exact parse_short B0 s w h hG hB
  · exact parse_long s w (by omega) hz
end Go.Proofs.YtdoapojmenojoaaGreatDoor
end
