/- VaryOne. -/
import Derived.Test.YtimfgefpcbnalaaWOne
import Derived.Deep.RegionWith
import Derived.Deep.RegionHeld3
import Derived.BigQuiet
import Derived.Deep.QuietTactic
import Derived.WalkSmall
set_option linter.unusedVariables false
namespace Go.Proofs.Ytimfgefpcbnalaa
open Go.RowKit
set_option maxHeartbeats 8000000 in
theorem one_bad (a b n : Nat) (s r A B P : ByteArray) (e : Int) (w : World) (ha : a < 18446744073709551616) (hb : b < 18446744073709551616)
    (hs : s.size ≤ 140737488351232) (h1 : Vr.next s 0 = (n, r, e)) (he : ¬ e = 0) (hA : ⟨(Vr.put a).toArray⟩ = A) (hB : ⟨(Vr.put b).toArray⟩ = B) (hP : ⟨(Vr.put n).toArray⟩ = P) :
    Calls Try.prog 5 #[.int .u64 (a : Nat), .int .u64 (b : Nat), .string s, .bool false] w fun e w' => e = .returned (.bool true) ∧ Below w.heap.size w w' := by
  obtain ⟨rfl, rfl⟩ := Vr.next_fail h1 he
  have hd : ((e : Int) == 0) = false := by rw [beq_eq_false_iff_ne]; exact he
  clear he
  have sA : A.size = (Vr.put a).length := by rw [← hA, put_size]
  have a1 : A.size ≤ 10 := by rw [sA]; exact Vr.put_len_le ha
  have z1 : (a : Int) / 2 ^ (7 * A.size) = 0 := by
    have := @Vr.put_shift a
    rw [← sA] at this
    have e2 : ((a / 2 ^ (7 * A.size) : Nat) : Int) = 0 := by rw [this]; rfl
    simpa using e2
  have z2 : 1 < A.size → ((a : Int) / 2 ^ (7 * (A.size - 1)) == 0) = false := by
    intro hl
    rw [sA] at hl
    have := Vr.put_shift' hl
    rw [← sA] at this
    have e2 : ¬ ((a / 2 ^ (7 * (A.size - 1)) : Nat) : Int) = 0 := by omega
    simpa using e2
  have hne : ¬ a = b → (A.toList == B.toList) = false ∧ ((a : Int) == (b : Int)) = false := by
    intro hab
    refine ⟨?_, by rw [beq_eq_false_iff_ne]; omega⟩
    rw [beq_eq_false_iff_ne]
    intro hAB
    rw [ByteArray.toList_eq, ByteArray.toList_eq, ← hA, ← hB] at hAB
    exact hab (Vr.put_inj ha hb (by simpa using hAB))
  have heq : a = b → (A.toList == B.toList) = true ∧ ((a : Int) == (b : Int)) = true := by
    intro hab
    subst hab
    rw [← hA, ← hB]; exact ⟨beq_self_eq_true _, beq_self_eq_true _⟩
  have H1 := Lib.hid h1
  have HA := Lib.hid hA
  have HB := Lib.hid hB
  have HP := Lib.hid hP
  have Z1 := Lib.hid z1
  have Z2 := Lib.hid z2
  have HQ : Hid (∃ x : Bool, (A.toList == B.toList) = x ∧ ((a : Int) == (b : Int)) = x) := Lib.hid (by
    rcases Decidable.em (a = b) with hab | hab
    · exact ⟨true, heq hab⟩
    · exact ⟨false, hne hab⟩)
  have sm1 : Hid (s.size ≤ maxLen) := Lib.hid (by unfold maxLen; omega)
  clear h1 hA hB hP sA z1 z2 hne heq
  go_enter Try.func5, Try.ntmps5
  go_wp2_with fail
  refine (vary_examples _).mono ?_
  rintro e w1 ⟨rfl, hw1⟩
  have zw1 := hw1.size
  try simp at zw1
  go_wp2_with fail
  refine (next_at s ⟨#[]⟩ 0 e 0 _ sm1.out H1.out).mono ?_
  rintro e w2 ⟨rfl, hw2⟩
  have zw2 := hw2.size
  try simp at zw2
  go_wp2_with fail
  have hb0 : Below w.heap.size w (w2.alloc (Obj.cells #[Value.string ⟨#[]⟩, Value.int IntKind.i64 e] 24)) := (by repeat' (first | exact Below.refl _ _ | (refine Below.drew ?_) | (refine Below.alloc ?_ (by first | omega | (simp <;> omega)) _) | (refine Below.setCell ?_ (by first | omega | (simp <;> omega)) _) | (refine Below.trans ?_ (Below.mono (by assumption) (by first | omega | (simp <;> omega))))))
  have hz2 : w2.heap.size < (w2.alloc (Obj.cells #[Value.string ⟨#[]⟩, Value.int IntKind.i64 e] 24)).heap.size := by simp
  have hc0 : (w2.alloc (Obj.cells #[Value.string ⟨#[]⟩, Value.int IntKind.i64 e] 24)).cell? ⟨w2.heap.size, 0, none⟩ = some (.string ⟨#[]⟩) := by simp
  have hc1 : (w2.alloc (Obj.cells #[Value.string ⟨#[]⟩, Value.int IntKind.i64 e] 24)).cell? ⟨w2.heap.size, 1, none⟩ = some (.int .i64 e) := by simp
  generalize w2.alloc (Obj.cells #[Value.string ⟨#[]⟩, Value.int IntKind.i64 e] 24) = w3 at *
  go_quiet (fail)
  have s0 : (w3.drewN nq).cell? ⟨w2.heap.size, 0, none⟩ = some (.string ⟨#[]⟩) := hc0
  have s1 : (w3.drewN nq).cell? ⟨w2.heap.size, 1, none⟩ = some (.int .i64 e) := hc1
  have sb : Below w.heap.size w (w3.drewN nq) := below_drewN hb0 nq
  have sz : w2.heap.size < (w3.drewN nq).heap.size := hz2
  clear hc0 hc1 hb0 hz2
  generalize w3.drewN nq = w3' at *
  go_wp2_with fail
  rcases Nat.lt_or_ge 1 A.size with hl | hl
  all_goals
    try have z3 := Z2.out hl
    have z1 := Z1.out
    refine (put_at a A _ ha HA.out).mono ?_
    rintro e' w4 ⟨rfl, hw4⟩
    have zw4 := Nat.lt_of_lt_of_le sz hw4.size
    have cw4_0 := (hw4.cell (p := ⟨w2.heap.size, 0, none⟩) sz).trans s0
    have cw4_1 := (hw4.cell (p := ⟨w2.heap.size, 1, none⟩) sz).trans s1
    have hb4 := sb.trans (hw4.mono sb.size)
    clear hw4 sb s0 s1
    go_wp2_with fail
    all_goals
      refine (put_at b B _ hb HB.out).mono ?_
      rintro e' w5 ⟨rfl, hw5⟩
      have cw5_0 := (hw5.cell (p := ⟨w2.heap.size, 0, none⟩) zw4).trans cw4_0
      have cw5_1 := (hw5.cell (p := ⟨w2.heap.size, 1, none⟩) zw4).trans cw4_1
      have hb5 := hb4.trans (hw5.mono hb4.size)
      clear hw5 hb4 cw4_0 cw4_1 z1
      try clear z3
      obtain ⟨x, y1, y2⟩ := HQ.out
      cases x
      all_goals
        go_wp2_with fail
        go_ret
        exact ⟨rfl, hb5⟩
set_option maxHeartbeats 8000000 in
theorem one_bad_same (a b n : Nat) (s r A B P : ByteArray) (e : Int) (w : World) (ha : a < 18446744073709551616) (hb : b < 18446744073709551616)
    (hs : s.size ≤ 140737488351232) (h1 : Vr.next s 0 = (n, r, e)) (he : ¬ e = 0) (hA : ⟨(Vr.put a).toArray⟩ = A) (hB : ⟨(Vr.put b).toArray⟩ = B) (hP : ⟨(Vr.put n).toArray⟩ = P) :
    Calls Try.prog 5 #[.int .u64 (a : Nat), .int .u64 (b : Nat), .string s, .bool true] w fun e w' => e = .returned (.bool true) ∧ Below w.heap.size w w' := by
  obtain ⟨rfl, rfl⟩ := Vr.next_fail h1 he
  have hd : ((e : Int) == 0) = false := by rw [beq_eq_false_iff_ne]; exact he
  clear he
  have sA : A.size = (Vr.put a).length := by rw [← hA, put_size]
  have a1 : A.size ≤ 10 := by rw [sA]; exact Vr.put_len_le ha
  have z1 : (a : Int) / 2 ^ (7 * A.size) = 0 := by
    have := @Vr.put_shift a
    rw [← sA] at this
    have e2 : ((a / 2 ^ (7 * A.size) : Nat) : Int) = 0 := by rw [this]; rfl
    simpa using e2
  have z2 : 1 < A.size → ((a : Int) / 2 ^ (7 * (A.size - 1)) == 0) = false := by
    intro hl
    rw [sA] at hl
    have := Vr.put_shift' hl
    rw [← sA] at this
    have e2 : ¬ ((a / 2 ^ (7 * (A.size - 1)) : Nat) : Int) = 0 := by omega
    simpa using e2
  have hne : ¬ a = b → (A.toList == B.toList) = false ∧ ((a : Int) == (b : Int)) = false := by
    intro hab
    refine ⟨?_, by rw [beq_eq_false_iff_ne]; omega⟩
    rw [beq_eq_false_iff_ne]
    intro hAB
    rw [ByteArray.toList_eq, ByteArray.toList_eq, ← hA, ← hB] at hAB
    exact hab (Vr.put_inj ha hb (by simpa using hAB))
  have heq : a = b → (A.toList == B.toList) = true ∧ ((a : Int) == (b : Int)) = true := by
    intro hab
    subst hab
    rw [← hA, ← hB]; exact ⟨beq_self_eq_true _, beq_self_eq_true _⟩
  have H1 := Lib.hid h1
  have HA := Lib.hid hA
  have HB := Lib.hid hB
  have HP := Lib.hid hP
  have Z1 := Lib.hid z1
  have Z2 := Lib.hid z2
  have HQ : Hid (∃ x : Bool, (A.toList == B.toList) = x ∧ ((a : Int) == (b : Int)) = x) := Lib.hid (by
    rcases Decidable.em (a = b) with hab | hab
    · exact ⟨true, heq hab⟩
    · exact ⟨false, hne hab⟩)
  have sm1 : Hid (s.size ≤ maxLen) := Lib.hid (by unfold maxLen; omega)
  clear h1 hA hB hP sA z1 z2 hne heq
  go_enter Try.func5, Try.ntmps5
  go_wp2_with fail
  refine (vary_examples _).mono ?_
  rintro e w1 ⟨rfl, hw1⟩
  have zw1 := hw1.size
  try simp at zw1
  go_wp2_with fail
  refine (next_at s ⟨#[]⟩ 0 e 0 _ sm1.out H1.out).mono ?_
  rintro e w2 ⟨rfl, hw2⟩
  have zw2 := hw2.size
  try simp at zw2
  go_wp2_with fail
  have hb0 : Below w.heap.size w (w2.alloc (Obj.cells #[Value.string ⟨#[]⟩, Value.int IntKind.i64 e] 24)) := (by repeat' (first | exact Below.refl _ _ | (refine Below.drew ?_) | (refine Below.alloc ?_ (by first | omega | (simp <;> omega)) _) | (refine Below.setCell ?_ (by first | omega | (simp <;> omega)) _) | (refine Below.trans ?_ (Below.mono (by assumption) (by first | omega | (simp <;> omega))))))
  have hz2 : w2.heap.size < (w2.alloc (Obj.cells #[Value.string ⟨#[]⟩, Value.int IntKind.i64 e] 24)).heap.size := by simp
  have hc0 : (w2.alloc (Obj.cells #[Value.string ⟨#[]⟩, Value.int IntKind.i64 e] 24)).cell? ⟨w2.heap.size, 0, none⟩ = some (.string ⟨#[]⟩) := by simp
  have hc1 : (w2.alloc (Obj.cells #[Value.string ⟨#[]⟩, Value.int IntKind.i64 e] 24)).cell? ⟨w2.heap.size, 1, none⟩ = some (.int .i64 e) := by simp
  generalize w2.alloc (Obj.cells #[Value.string ⟨#[]⟩, Value.int IntKind.i64 e] 24) = w3 at *
  go_quiet (fail)
  have s0 : (w3.drewN nq).cell? ⟨w2.heap.size, 0, none⟩ = some (.string ⟨#[]⟩) := hc0
  have s1 : (w3.drewN nq).cell? ⟨w2.heap.size, 1, none⟩ = some (.int .i64 e) := hc1
  have sb : Below w.heap.size w (w3.drewN nq) := below_drewN hb0 nq
  have sz : w2.heap.size < (w3.drewN nq).heap.size := hz2
  clear hc0 hc1 hb0 hz2
  generalize w3.drewN nq = w3' at *
  go_wp2_with fail
  rcases Nat.lt_or_ge 1 A.size with hl | hl
  all_goals
    try have z3 := Z2.out hl
    have z1 := Z1.out
    refine (put_at a A _ ha HA.out).mono ?_
    rintro e' w4 ⟨rfl, hw4⟩
    have zw4 := Nat.lt_of_lt_of_le sz hw4.size
    have cw4_0 := (hw4.cell (p := ⟨w2.heap.size, 0, none⟩) sz).trans s0
    have cw4_1 := (hw4.cell (p := ⟨w2.heap.size, 1, none⟩) sz).trans s1
    have hb4 := sb.trans (hw4.mono sb.size)
    clear hw4 sb s0 s1
    go_wp2_with fail
    all_goals
      refine (put_at a A _ ha HA.out).mono ?_
      rintro e' w5 ⟨rfl, hw5⟩
      have cw5_0 := (hw5.cell (p := ⟨w2.heap.size, 0, none⟩) zw4).trans cw4_0
      have cw5_1 := (hw5.cell (p := ⟨w2.heap.size, 1, none⟩) zw4).trans cw4_1
      have hb5 := hb4.trans (hw5.mono hb4.size)
      clear hw5 hb4 cw4_0 cw4_1 z1
      try clear z3
      go_wp2_with fail
      go_ret
      exact ⟨rfl, hb5⟩
theorem law_VaryOne (a b : Int) (s : ByteArray) (same : Bool) (w : World) (a0 : 0 ≤ a) (a1 : a ≤ 18446744073709551615) (b0 : 0 ≤ b) (b1 : b ≤ 18446744073709551615) (hs : s.size ≤ 140737488351232) :
    Calls Try.prog 5 #[.int .u64 a, .int .u64 b, .string s, .bool same] w fun e w' => e = .returned (.bool true) ∧ Below w.heap.size w w' := by
  obtain ⟨a, rfl⟩ := Int.eq_ofNat_of_zero_le a0
  obtain ⟨b, rfl⟩ := Int.eq_ofNat_of_zero_le b0
  obtain ⟨n, r, e, h⟩ : ∃ n r e, Vr.next s 0 = (n, r, e) := ⟨_, _, _, rfl⟩
  by_cases he : e = 0
  · cases same
    · exact one_ok a b n s r _ _ _ e w (by omega) (by omega) hs h he rfl rfl rfl
    · exact one_ok_same a b n s r _ _ _ e w (by omega) (by omega) hs h he rfl rfl rfl
  · cases same
    · exact one_bad a b n s r _ _ _ e w (by omega) (by omega) hs h he rfl rfl rfl
    · exact one_bad_same a b n s r _ _ _ e w (by omega) (by omega) hs h he rfl rfl rfl
end Go.Proofs.Ytimfgefpcbnalaa
