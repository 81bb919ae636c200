import Derived.Test.YtdoapojmenojoaaGreatDoorJCPut
import Derived.Test.YtdoapojmenojoaaGreatDoorJSynV
set_option linter.unusedSimpArgs false
set_option linter.unusedVariables false
section
/- Two classes compared: the document's own, and the library's. -/
set_option linter.unusedVariables false
namespace Go.Proofs.YtdoapojmenojoaaGreatDoor
open Go.RowKit

theorem list_more {l m : List Cl.Rg} {k : Nat} {r : Cl.Rg} (h : l.take k = m.take k) (h1 : l[k]? = some r) (h2 : m[k]? = some r) : l.take (k + 1) = m.take (k + 1) := by rw [take_app h1, take_app h2, h]
theorem list_ne {l m : List Cl.Rg} {k : Nat} {r s : Cl.Rg} (h1 : l[k]? = some r) (h2 : m[k]? = some s) (hn : r ≠ s) : ¬ l = m := fun e => by
  subst e; rw [h1] at h2; exact hn (Option.some.inj h2)

theorem Tryz.eqn_leq (a b c d : Int) (v : Bool) (h : (decide (a = c) && decide (b = d)) = v) (w : World) : (Op.equalIn 10000 116 (.agg #[.int .i32 a, .int .i32 b]) (.agg #[.int .i32 c, .int .i32 d])).run Tryz.prog w = .ok v w := by
  subst h
  rw [show (10000 : Nat) = 9999 + 1 from rfl, run_equalIn_struct w 9999 _ _ _ (by kernel_rfl) (by kernel_rfl)]
  by_cases h1 : a = c
  · subst h1
    by_cases h2 : b = d
    · subst h2
      simp [Program.fieldsOf, Tryz.underlying116, Op.eqFields, part, run_equalIn_int, Sem.run_bind, go_sem, Tryz.underlying21]
    · simp [Program.fieldsOf, Tryz.underlying116, Op.eqFields, part, run_equalIn_int, Sem.run_bind, go_sem, Tryz.underlying21, h2]
  · simp [Program.fieldsOf, Tryz.underlying116, Op.eqFields, part, run_equalIn_int, Sem.run_bind, go_sem, Tryz.underlying21, h1]
theorem Tryz.neq_leq (a b c d : Int) (v : Bool) (h : (decide (a = c) && decide (b = d)) = v) (w : World) : (binOp .neq 116 (.agg #[.int .i32 a, .int .i32 b]) (.agg #[.int .i32 c, .int .i32 d])).run Tryz.prog w = .ok (.bool (!v)) w := by
  rw [run_neq_struct, Tryz.eqn_leq a b c d v h w]
  rfl
set_option maxRecDepth 20000 in
set_option maxHeartbeats 4000000 in
theorem leq_any (p q : Option Addr) (cap cap' : Nat) (l m : List Cl.Rg) (v : Bool) (w : World) (hp : RowP w p l) (hq : RowP w q m) (hl : l.length ≤ 1000000) (hm : m.length ≤ 1000000) (hv : decide (l = m) = v) :
    Calls Tryz.prog 92 #[.slice p l.length cap, .slice q m.length cap'] w fun e w' => e = .returned (.bool v) ∧ Below w.heap.size w w' := by
  have HP := Lib.hid hp
  have HQ := Lib.hid hq
  have HV := Lib.hid hv
  clear hp hq hv
  by_cases hlm : l.length = m.length
  · have hlm' : (l.length : Int) = (m.length : Int) := by omega
    go_enter Tryz.func92, Tryz.ntmps92
    go_wp2_with fail
    go_loopw [5, 13] (fun _ i wr => ∃ k : Nat, i = .int .i64 (k : Int) ∧ k ≤ l.length ∧ Hid (l.take k = m.take k) ∧ Below w.heap.size w wr) (fun _ i _ => l.length - (intOf i).toNat)
    case atStart => exact ⟨0, rfl, Nat.zero_le _, Lib.hid rfl, Below.refl _ _⟩
    case round =>
      obtain ⟨k, rfl, hk, hs, br⟩ := hrel
      by_cases hlt : k < l.length
      · obtain ⟨g, off, a, b, rfl, hg, hab, c1, c2⟩ := (HP.out.below br).get hlt
        obtain ⟨g', off', c, d, rfl, hg', hcd, d1, d2⟩ := (HQ.out.below br).get (show k < m.length by omega)
        have hkl : (k : Int) < (l.length : Int) := by omega
        have hkm : (k : Int) < (m.length : Int) := by omega
        have hk0 : (0 : Int) ≤ (k : Int) := by omega
        by_cases he : a = c ∧ b = d
        · obtain ⟨rfl, rfl⟩ := he
          have hneq := Tryz.neq_leq a b a b true (by simp)
          have heqn := Tryz.eqn_leq a b a b true (by simp)
          have HS := Lib.hid (list_more hs.out hab hcd)
          clear hab hcd
          go_wp2_with fail
          go_quiet (fail)
          go_wp2_with fail
          go_roundw
          case rel => exact ⟨k + 1, by go_num, by omega, HS, bdrewN br⟩
          case measure => simp [intOf]; omega
        · have hne : (decide (a = c) && decide (b = d)) = false := by
            simp only [Bool.and_eq_false_iff, decide_eq_false_iff_not]
            by_cases h1 : a = c
            · exact .inr (fun h2 => he ⟨h1, h2⟩)
            · exact .inl h1
          have hneq := Tryz.neq_leq a b c d false hne
          have heqn := Tryz.eqn_leq a b c d false hne
          have hv : v = false := by
            rw [← HV.out, decide_eq_false (list_ne hab hcd (fun e => he ⟨congrArg Prod.fst e, congrArg Prod.snd e⟩))]
          subst hv
          clear hab hcd hne HV he
          go_wp2_with fail
          go_quiet (fail)
          go_wp2_with fail
          go_ret
          exact ⟨rfl, bdrewN br⟩
      · obtain rfl : k = l.length := by omega
        have hv : v = true := by
          rw [← HV.out]
          have := hs.out
          rw [List.take_length, hlm, List.take_length] at this
          exact decide_eq_true this
        subst hv
        clear HV
        go_wp2_with fail
        go_ret
        exact ⟨rfl, br⟩
  · have hlm' : ¬ (l.length : Int) = (m.length : Int) := by omega
    have hv : v = false := by
      rw [← HV.out]
      exact decide_eq_false (fun e => hlm (by rw [e]))
    subst hv
    go_enter Tryz.func92, Tryz.ntmps92
    go_wp2_with fail
    go_ret
    exact ⟨rfl, Below.refl _ _⟩

theorem same_any (p q : Option Addr) (cap cap' : Nat) (l m : List Cl.Rg) (v : Bool) (w : World) (hp : RowP w p l) (hq : RowP w q m) (hl : l.length ≤ 1000000) (hm : m.length ≤ 1000000) (hv : decide (l = m) = v) :
    Calls Tryz.prog 55 #[.slice p l.length cap, .slice q m.length cap'] w fun e w' => e = .returned (.bool v) ∧ Below w.heap.size w w' := by
  go_enter Tryz.func55, Tryz.ntmps55
  go_wp2_with fail
  refine (leq_any p q cap cap' l m v _ hp hq hl hm hv).mono ?_
  rintro e w1 ⟨rfl, hw1⟩
  clear hp hq hv
  go_wp2_with fail
  go_ret
  exact ⟨rfl, hw1⟩
end Go.Proofs.YtdoapojmenojoaaGreatDoor
end

section
/- The document's own answer to patterns: which are the same. -/
set_option linter.unusedVariables false
namespace Go.Proofs.YtdoapojmenojoaaGreatDoor
open Go.RowKit
open Sx (Nd)

theorem nd_ne {k k' mn mn' mx mx' g g' : Int} {lz lz' : Bool} {c c' : List Cl.Rg} {l l' : List Nd} (h : ¬ (k = k' ∧ mn = mn' ∧ mx = mx' ∧ lz = lz' ∧ g = g' ∧ l.length = l'.length ∧ c = c' ∧ l = l')) : ¬ (Nd.mk k c mn mx lz g l = Nd.mk k' c' mn' mx' lz' g' l') := by
  intro e
  injection e with e1 e2 e3 e4 e5 e6 e7
  exact h ⟨e1, e3, e4, e5, e6, congrArg List.length e7, e2, e7⟩
/- v tells whether they are the same -/
def Sm (a b : Nd) (v : Bool) : Prop := v = true ↔ a = b
theorem sm_some (a b : Nd) : ∃ v, Sm a b v := by
  by_cases h : a = b
  · exact ⟨true, by simp [Sm, h]⟩
  · exact ⟨false, by simp only [Sm, h]; simp⟩
theorem sm_false {a b : Nd} {v : Bool} (h : Sm a b v) (hn : ¬ a = b) : v = false := by
  cases v with
  | false => rfl
  | true => exact absurd (h.1 rfl) hn
/- what is held while two kids are compared -/
def Bel4 (b b' : Nat) (w0 w : World) : Prop := Below w0.heap.size w0 w ∧ b < w.heap.size ∧ b' < w.heap.size ∧ w0.heap.size + 1 < w.heap.size
theorem take_same {l m : List Nd} {i : Nat} {x y : Nd} (h : l.take i = m.take i) (hx : l[i]? = some x) (hy : m[i]? = some y) (e : x = y) : l.take (i + 1) = m.take (i + 1) := by
  subst e
  have hi := (List.getElem?_eq_some_iff.1 hx).1
  have hv := (List.getElem?_eq_some_iff.1 hx).2
  have hi' := (List.getElem?_eq_some_iff.1 hy).1
  have hv' := (List.getElem?_eq_some_iff.1 hy).2
  rw [List.take_succ_eq_append_getElem hi, List.take_succ_eq_append_getElem hi', hv, hv', h]
theorem kid_ne {l m : List Nd} {i : Nat} {x y : Nd} (hx : l[i]? = some x) (hy : m[i]? = some y) (e : ¬ x = y) : ¬ l = m := fun h => by
  subst h; rw [hx] at hy; cases hy; exact e rfl
theorem Seven.box_at (w : World) (ob : Obj) (k : Int) (c : Value) (mn mx : Int) (lz : Bool) (g : Int) (l : Value) (t : TypeId) : Seven ((w.alloc ob).alloc (.cells #[.int .i64 k, c, .int .i64 mn, .int .i64 mx, .bool lz, .int .i64 g, l] t)) (w.heap.size + 1) 0 k c mn mx lz g l := by
  have := Seven.box (w.alloc ob) k c mn mx lz g l t
  rw [World.size_alloc] at this
  exact this
end Go.Proofs.YtdoapojmenojoaaGreatDoor
end
