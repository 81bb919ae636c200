/- VaryOne. -/
import Derived.Test.YtimfgefpcbnalaaWTexts
import Derived.Deep.RegionWith
import Derived.Deep.RegionHeld3
import Derived.BigQuiet
import Derived.Deep.QuietTactic
import Derived.WalkSmall
set_option linter.unusedVariables false
namespace Go.Proofs.Ytimfgefpcbnalaa
open Go.RowKit
/- a reader's variable, of which is known what it holds -/
theorem held_drew {g : Nat} {r : ByteArray} {e : Int} {w0 w' : World} (h : w'.cell? ⟨g, 0, none⟩ = some (.string r) ∧ w'.cell? ⟨g, 1, none⟩ = some (.int .i64 e) ∧ Below w0.heap.size w0 w' ∧ g < w'.heap.size) :
    w'.drew.cell? ⟨g, 0, none⟩ = some (.string r) ∧ w'.drew.cell? ⟨g, 1, none⟩ = some (.int .i64 e) ∧ Below w0.heap.size w0 w'.drew ∧ g < w'.drew.heap.size := ⟨h.1, h.2.1, h.2.2.1.drew, h.2.2.2⟩
theorem held_call {g : Nat} {r : ByteArray} {e : Int} {w0 w' w1 : World} (hb : Below w'.heap.size w' w1) (h : w'.cell? ⟨g, 0, none⟩ = some (.string r) ∧ w'.cell? ⟨g, 1, none⟩ = some (.int .i64 e) ∧ Below w0.heap.size w0 w' ∧ g < w'.heap.size) :
    w1.cell? ⟨g, 0, none⟩ = some (.string r) ∧ w1.cell? ⟨g, 1, none⟩ = some (.int .i64 e) ∧ Below w0.heap.size w0 w1 ∧ g < w1.heap.size :=
  ⟨(hb.cell (p := ⟨g, 0, none⟩) h.2.2.2).trans h.1, (hb.cell (p := ⟨g, 1, none⟩) h.2.2.2).trans h.2.1, h.2.2.1.trans (hb.mono h.2.2.1.size), Nat.lt_of_lt_of_le h.2.2.2 hb.size⟩
set_option maxHeartbeats 8000000 in
theorem one_ok (a b n : Nat) (s r A B P : ByteArray) (e : Int) (w : World) (ha : a < 18446744073709551616) (hb : b < 18446744073709551616)
    (hs : s.size ≤ 140737488351232) (h1 : Vr.next s 0 = (n, r, e)) (he : e = 0) (hA : ⟨(Vr.put a).toArray⟩ = A) (hB : ⟨(Vr.put b).toArray⟩ = B) (hP : ⟨(Vr.put n).toArray⟩ = P) :
    Calls Try.prog 5 #[.int .u64 (a : Nat), .int .u64 (b : Nat), .string s, .bool false] w fun e w' => e = .returned (.bool true) ∧ Below w.heap.size w w' := by
  subst he
  have hx := Vr.next_good h1
  rw [hP] at hx
  obtain ⟨x1, x2, x3⟩ := hx
  have HX := Lib.hid x2
  clear x2
  have sA : A.size = (Vr.put a).length := by rw [← hA, put_size]
  have a1 : A.size ≤ 10 := by rw [sA]; exact Vr.put_len_le ha
  have z1 : (a : Int) / 2 ^ (7 * A.size) = 0 := by
    have := @Vr.put_shift a
    rw [← sA] at this
    have e2 : ((a / 2 ^ (7 * A.size) : Nat) : Int) = 0 := by rw [this]; rfl
    simpa using e2
  have z2 : 1 < A.size → ((a : Int) / 2 ^ (7 * (A.size - 1)) == 0) = false := by
    intro hl
    rw [sA] at hl
    have := Vr.put_shift' hl
    rw [← sA] at this
    have e2 : ¬ ((a / 2 ^ (7 * (A.size - 1)) : Nat) : Int) = 0 := by omega
    simpa using e2
  have hne : ¬ a = b → (A.toList == B.toList) = false ∧ ((a : Int) == (b : Int)) = false := by
    intro hab
    refine ⟨?_, by rw [beq_eq_false_iff_ne]; omega⟩
    rw [beq_eq_false_iff_ne]
    intro hAB
    rw [ByteArray.toList_eq, ByteArray.toList_eq, ← hA, ← hB] at hAB
    exact hab (Vr.put_inj ha hb (by simpa using hAB))
  have heq : a = b → (A.toList == B.toList) = true ∧ ((a : Int) == (b : Int)) = true := by
    intro hab
    subst hab
    rw [← hA, ← hB]; exact ⟨beq_self_eq_true _, beq_self_eq_true _⟩
  have H1 := Lib.hid h1
  have HA := Lib.hid hA
  have HB := Lib.hid hB
  have HP := Lib.hid hP
  have Z1 := Lib.hid z1
  have Z2 := Lib.hid z2
  have HQ : Hid (∃ x : Bool, (A.toList == B.toList) = x ∧ ((a : Int) == (b : Int)) = x) := Lib.hid (by
    rcases Decidable.em (a = b) with hab | hab
    · exact ⟨true, heq hab⟩
    · exact ⟨false, hne hab⟩)
  have sm1 : Hid (s.size ≤ maxLen) := Lib.hid (by unfold maxLen; omega)
  clear h1 hA hB hP sA z1 z2 hne heq
  go_enter Try.func5, Try.ntmps5
  go_wp2_with fail
  refine (vary_examples _).mono ?_
  rintro e w1 ⟨rfl, hw1⟩
  have zw1 := hw1.size
  try simp at zw1
  go_wp2_with fail
  refine (next_at s r 0 0 n _ sm1.out H1.out).mono ?_
  rintro e w2 ⟨rfl, hw2⟩
  have zw2 := hw2.size
  try simp at zw2
  go_wp2_with fail
  have hb0 : Below w.heap.size w (w2.alloc (Obj.cells #[Value.string r, Value.int IntKind.i64 0] 24)) := (by repeat' (first | exact Below.refl _ _ | (refine Below.drew ?_) | (refine Below.alloc ?_ (by first | omega | (simp <;> omega)) _) | (refine Below.setCell ?_ (by first | omega | (simp <;> omega)) _) | (refine Below.trans ?_ (Below.mono (by assumption) (by first | omega | (simp <;> omega))))))
  have hr0 : (w2.alloc (Obj.cells #[Value.string r, Value.int IntKind.i64 0] 24)).cell? ⟨w2.heap.size, 0, none⟩ = some (.string r) ∧ (w2.alloc (Obj.cells #[Value.string r, Value.int IntKind.i64 0] 24)).cell? ⟨w2.heap.size, 1, none⟩ = some (.int .i64 0) ∧ Below w.heap.size w (w2.alloc (Obj.cells #[Value.string r, Value.int IntKind.i64 0] 24)) ∧ w2.heap.size < (w2.alloc (Obj.cells #[Value.string r, Value.int IntKind.i64 0] 24)).heap.size := ⟨by simp, by simp, hb0, by simp⟩
  have k0 : IntKind.i64.wrap ((s.size : Int) - (r.size : Int)) = (s.size : Int) - (r.size : Int) := IntWalk.i64_in _ ⟨by omega, by omega⟩
  have k1 : 0 ≤ (s.size : Int) - (r.size : Int) := by omega
  have k2 : (s.size : Int) - (r.size : Int) ≤ (s.size : Int) := by omega
  have k3 : ((s.size : Int) - (r.size : Int)).toNat = s.size - r.size := by omega
  have k4 := HX.out
  have k5 : r.size ≤ s.size := by omega
  go_region_held3 (fun w' => w'.cell? ⟨w2.heap.size, 0, none⟩ = some (.string r) ∧ w'.cell? ⟨w2.heap.size, 1, none⟩ = some (.int .i64 0) ∧ Below w.heap.size w w' ∧ w2.heap.size < w'.heap.size) (first | assumption | (refine held_drew ?_; assumption) | (refine held_call (by assumption) ?_; assumption))
    (first | (go_at_call 10; refine (put_at n P _ x3 HP.out).mono ?_; rintro e' w3 ⟨rfl, hw3⟩))
  all_goals
    obtain ⟨s0, s1, sb, sz⟩ : w3.cell? ⟨w2.heap.size, 0, none⟩ = some (.string r) ∧ w3.cell? ⟨w2.heap.size, 1, none⟩ = some (.int .i64 0) ∧ Below w.heap.size w w3 ∧ w2.heap.size < w3.heap.size := by assumption
    clear k0 k1 k2 k3 k4 k5 hr0 hb0
    go_wp2_with fail
    rcases Nat.lt_or_ge 1 A.size with hl | hl
    all_goals
      try have z3 := Z2.out hl
      have z1 := Z1.out
      refine (put_at a A _ ha HA.out).mono ?_
      rintro e' w4 ⟨rfl, hw4⟩
      have zw4 := Nat.lt_of_lt_of_le sz hw4.size
      have cw4_0 := (hw4.cell (p := ⟨w2.heap.size, 0, none⟩) sz).trans s0
      have cw4_1 := (hw4.cell (p := ⟨w2.heap.size, 1, none⟩) sz).trans s1
      have hb4 := sb.trans (hw4.mono sb.size)
      clear hw4 sb s0 s1
      go_wp2_with fail
      all_goals
        refine (put_at b B _ hb HB.out).mono ?_
        rintro e' w5 ⟨rfl, hw5⟩
        have cw5_0 := (hw5.cell (p := ⟨w2.heap.size, 0, none⟩) zw4).trans cw4_0
        have cw5_1 := (hw5.cell (p := ⟨w2.heap.size, 1, none⟩) zw4).trans cw4_1
        have hb5 := hb4.trans (hw5.mono hb4.size)
        clear hw5 hb4 cw4_0 cw4_1 z1
        try clear z3
        obtain ⟨x, y1, y2⟩ := HQ.out
        cases x
        all_goals
          go_wp2_with fail
          go_ret
          exact ⟨rfl, hb5⟩
set_option maxHeartbeats 8000000 in
theorem one_ok_same (a b n : Nat) (s r A B P : ByteArray) (e : Int) (w : World) (ha : a < 18446744073709551616) (hb : b < 18446744073709551616)
    (hs : s.size ≤ 140737488351232) (h1 : Vr.next s 0 = (n, r, e)) (he : e = 0) (hA : ⟨(Vr.put a).toArray⟩ = A) (hB : ⟨(Vr.put b).toArray⟩ = B) (hP : ⟨(Vr.put n).toArray⟩ = P) :
    Calls Try.prog 5 #[.int .u64 (a : Nat), .int .u64 (b : Nat), .string s, .bool true] w fun e w' => e = .returned (.bool true) ∧ Below w.heap.size w w' := by
  subst he
  have hx := Vr.next_good h1
  rw [hP] at hx
  obtain ⟨x1, x2, x3⟩ := hx
  have HX := Lib.hid x2
  clear x2
  have sA : A.size = (Vr.put a).length := by rw [← hA, put_size]
  have a1 : A.size ≤ 10 := by rw [sA]; exact Vr.put_len_le ha
  have z1 : (a : Int) / 2 ^ (7 * A.size) = 0 := by
    have := @Vr.put_shift a
    rw [← sA] at this
    have e2 : ((a / 2 ^ (7 * A.size) : Nat) : Int) = 0 := by rw [this]; rfl
    simpa using e2
  have z2 : 1 < A.size → ((a : Int) / 2 ^ (7 * (A.size - 1)) == 0) = false := by
    intro hl
    rw [sA] at hl
    have := Vr.put_shift' hl
    rw [← sA] at this
    have e2 : ¬ ((a / 2 ^ (7 * (A.size - 1)) : Nat) : Int) = 0 := by omega
    simpa using e2
  have hne : ¬ a = b → (A.toList == B.toList) = false ∧ ((a : Int) == (b : Int)) = false := by
    intro hab
    refine ⟨?_, by rw [beq_eq_false_iff_ne]; omega⟩
    rw [beq_eq_false_iff_ne]
    intro hAB
    rw [ByteArray.toList_eq, ByteArray.toList_eq, ← hA, ← hB] at hAB
    exact hab (Vr.put_inj ha hb (by simpa using hAB))
  have heq : a = b → (A.toList == B.toList) = true ∧ ((a : Int) == (b : Int)) = true := by
    intro hab
    subst hab
    rw [← hA, ← hB]; exact ⟨beq_self_eq_true _, beq_self_eq_true _⟩
  have H1 := Lib.hid h1
  have HA := Lib.hid hA
  have HB := Lib.hid hB
  have HP := Lib.hid hP
  have Z1 := Lib.hid z1
  have Z2 := Lib.hid z2
  have HQ : Hid (∃ x : Bool, (A.toList == B.toList) = x ∧ ((a : Int) == (b : Int)) = x) := Lib.hid (by
    rcases Decidable.em (a = b) with hab | hab
    · exact ⟨true, heq hab⟩
    · exact ⟨false, hne hab⟩)
  have sm1 : Hid (s.size ≤ maxLen) := Lib.hid (by unfold maxLen; omega)
  clear h1 hA hB hP sA z1 z2 hne heq
  go_enter Try.func5, Try.ntmps5
  go_wp2_with fail
  refine (vary_examples _).mono ?_
  rintro e w1 ⟨rfl, hw1⟩
  have zw1 := hw1.size
  try simp at zw1
  go_wp2_with fail
  refine (next_at s r 0 0 n _ sm1.out H1.out).mono ?_
  rintro e w2 ⟨rfl, hw2⟩
  have zw2 := hw2.size
  try simp at zw2
  go_wp2_with fail
  have hb0 : Below w.heap.size w (w2.alloc (Obj.cells #[Value.string r, Value.int IntKind.i64 0] 24)) := (by repeat' (first | exact Below.refl _ _ | (refine Below.drew ?_) | (refine Below.alloc ?_ (by first | omega | (simp <;> omega)) _) | (refine Below.setCell ?_ (by first | omega | (simp <;> omega)) _) | (refine Below.trans ?_ (Below.mono (by assumption) (by first | omega | (simp <;> omega))))))
  have hr0 : (w2.alloc (Obj.cells #[Value.string r, Value.int IntKind.i64 0] 24)).cell? ⟨w2.heap.size, 0, none⟩ = some (.string r) ∧ (w2.alloc (Obj.cells #[Value.string r, Value.int IntKind.i64 0] 24)).cell? ⟨w2.heap.size, 1, none⟩ = some (.int .i64 0) ∧ Below w.heap.size w (w2.alloc (Obj.cells #[Value.string r, Value.int IntKind.i64 0] 24)) ∧ w2.heap.size < (w2.alloc (Obj.cells #[Value.string r, Value.int IntKind.i64 0] 24)).heap.size := ⟨by simp, by simp, hb0, by simp⟩
  have k0 : IntKind.i64.wrap ((s.size : Int) - (r.size : Int)) = (s.size : Int) - (r.size : Int) := IntWalk.i64_in _ ⟨by omega, by omega⟩
  have k1 : 0 ≤ (s.size : Int) - (r.size : Int) := by omega
  have k2 : (s.size : Int) - (r.size : Int) ≤ (s.size : Int) := by omega
  have k3 : ((s.size : Int) - (r.size : Int)).toNat = s.size - r.size := by omega
  have k4 := HX.out
  have k5 : r.size ≤ s.size := by omega
  go_region_held3 (fun w' => w'.cell? ⟨w2.heap.size, 0, none⟩ = some (.string r) ∧ w'.cell? ⟨w2.heap.size, 1, none⟩ = some (.int .i64 0) ∧ Below w.heap.size w w' ∧ w2.heap.size < w'.heap.size) (first | assumption | (refine held_drew ?_; assumption) | (refine held_call (by assumption) ?_; assumption))
    (first | (go_at_call 10; refine (put_at n P _ x3 HP.out).mono ?_; rintro e' w3 ⟨rfl, hw3⟩))
  all_goals
    obtain ⟨s0, s1, sb, sz⟩ : w3.cell? ⟨w2.heap.size, 0, none⟩ = some (.string r) ∧ w3.cell? ⟨w2.heap.size, 1, none⟩ = some (.int .i64 0) ∧ Below w.heap.size w w3 ∧ w2.heap.size < w3.heap.size := by assumption
    clear k0 k1 k2 k3 k4 k5 hr0 hb0
    go_wp2_with fail
    rcases Nat.lt_or_ge 1 A.size with hl | hl
    all_goals
      try have z3 := Z2.out hl
      have z1 := Z1.out
      refine (put_at a A _ ha HA.out).mono ?_
      rintro e' w4 ⟨rfl, hw4⟩
      have zw4 := Nat.lt_of_lt_of_le sz hw4.size
      have cw4_0 := (hw4.cell (p := ⟨w2.heap.size, 0, none⟩) sz).trans s0
      have cw4_1 := (hw4.cell (p := ⟨w2.heap.size, 1, none⟩) sz).trans s1
      have hb4 := sb.trans (hw4.mono sb.size)
      clear hw4 sb s0 s1
      go_wp2_with fail
      all_goals
        refine (put_at a A _ ha HA.out).mono ?_
        rintro e' w5 ⟨rfl, hw5⟩
        have cw5_0 := (hw5.cell (p := ⟨w2.heap.size, 0, none⟩) zw4).trans cw4_0
        have cw5_1 := (hw5.cell (p := ⟨w2.heap.size, 1, none⟩) zw4).trans cw4_1
        have hb5 := hb4.trans (hw5.mono hb4.size)
        clear hw5 hb4 cw4_0 cw4_1 z1
        try clear z3
        go_wp2_with fail
        go_ret
        exact ⟨rfl, hb5⟩
end Go.Proofs.Ytimfgefpcbnalaa
