/- VaryTexts. -/
import Derived.Test.YtimfgefpcbnalaaVaryLaws
import Derived.Test.YtimfgefpcbnalaaVaryM2
set_option linter.unusedVariables false
namespace Go.Proofs.Ytimfgefpcbnalaa
open Go.RowKit
theorem str_some {T : ByteArray} (h : 0 < T.size) : T.toList.isEmpty = false := by
  rw [ByteArray.toList_eq]
  have : T.data.toList.length = T.size := by rw [Array.length_toList]; rfl
  cases h2 : T.data.toList with
  | nil => rw [h2] at this; simp at this; omega
  | cons a l => rfl
set_option maxHeartbeats 1600000 in
theorem law_VaryTexts (s : ByteArray) (most cut : Int) (w : World) (hs : s.size ≤ 140737488351232) (m0 : 0 ≤ most) (m1 : most ≤ 255) (c0 : 0 ≤ cut) (c1 : cut ≤ 65535) :
    Calls Try.prog 8 #[.string s, .int .u8 most, .int .u16 cut] w fun e w' => e = .returned (.bool true) ∧ Below w.heap.size w w' := by
  have hp := Vr.put_len_le (n := s.size) (by omega)
  have hp0 := Vr.put_pos s.size
  obtain ⟨T, hT⟩ : ∃ T, (⟨(Vr.put s.size).toArray⟩ : ByteArray) ++ s = T := ⟨_, rfl⟩
  have hTs : T.size = (Vr.put s.size).length + s.size := by rw [← hT, ByteArray.size_append, put_size]
  obtain ⟨m, hm⟩ : ∃ m : Nat, most % 40 = (m : Int) := ⟨(most % 40).toNat, by rw [Int.toNat_of_nonneg (Int.emod_nonneg _ (by omega))]⟩
  obtain ⟨K, hK⟩ : ∃ K : Nat, cut % (T.size : Int) = (K : Int) := ⟨(cut % (T.size : Int)).toNat, by rw [Int.toNat_of_nonneg (Int.emod_nonneg _ (by omega))]⟩
  have hKl : K < T.size := by have := Int.emod_lt_of_pos cut (b := (T.size : Int)) (by omega); omega
  have hml : m < 40 := by omega
  obtain ⟨t1, t2, t3, t4⟩ := Vr.texts (m := m) (k := K) (by omega) hT hKl
  have hTe := str_some (T := T) (by omega)
  have HT := Lib.hid hT
  have hTb : T.size ≤ 140737488351232 + 10 := by omega
  have sx : (T ++ (⟨#[120]⟩ : ByteArray)).size ≤ maxLen := by rw [ByteArray.size_append]; unfold maxLen; show T.size + 1 ≤ _; omega
  have sk : (T.extract 0 K).size ≤ maxLen := by have := Vr.size_extract_le T 0 K; unfold maxLen; omega
  have SX := Lib.hid sx
  have SK := Lib.hid sk
  have g1 : T.size ≤ (Vr.put s.size).length + s.size := by omega
  have g2 : (Vr.put s.size).length + s.size ≤ T.size := by omega
  by_cases hf : s.size ≤ m
  · rw [if_neg (by omega)] at t4
    have T4 := Lib.hid t4
    have T2 := Lib.hid (t2 hf)
    clear t1 t2 t3 t4 hT sx sk hTs
    go_enter Try.func8, Try.ntmps8
    go_wp2_with fail
    refine (vary_examples _).mono ?_
    rintro e w1 ⟨rfl, hw1⟩
    have zw1 := hw1.size
    try simp at zw1
    go_wp2_with fail
    refine (ptext_at s T _ hs HT.out).mono ?_
    rintro e w2 ⟨rfl, hw2⟩
    have zw2 := hw2.size
    try simp at zw2
    go_wp2_with fail
    refine (text_at _ s ⟨#[120]⟩ 0 0 m _ SX.out T2.out).mono ?_
    rintro e w3 ⟨rfl, hw3⟩
    have zw3 := hw3.size
    try simp at zw3
    go_wp2_with fail
    refine (text_at (T.extract 0 K) ⟨#[]⟩ ⟨#[]⟩ 0 4 m _ SK.out T4.out).mono ?_
    rintro e w4 ⟨rfl, hw4⟩
    have zw4 := hw4.size
    try simp at zw4
    have zw4_0 : w3.heap.size < w4.heap.size := by omega
    have cw4_0 := fun o => hw4.cell (p := ⟨w3.heap.size, o, none⟩) (by first | omega | (simp <;> omega))
    have fw4_0 := fun o => hw4.frozen (p := ⟨w3.heap.size, o, none⟩) (by first | omega | (simp <;> omega))
    go_wp2_with fail
    all_goals
      go_ret
      exact ⟨rfl, (by repeat' (first | exact Below.refl _ _ | (refine Below.drew ?_) | (refine Below.alloc ?_ (by first | omega | (simp <;> omega)) _) | (refine Below.setCell ?_ (by first | omega | (simp <;> omega)) _) | (refine Below.trans ?_ (Below.mono (by assumption) (by first | omega | (simp <;> omega))))))⟩
  · by_cases hk : (Vr.put s.size).length ≤ K
    · rw [if_pos (by omega)] at t4
      have T4 := Lib.hid t4
      have T2 := Lib.hid (t3 (by omega))
      clear t1 t2 t3 t4 hT sx sk hTs
      go_enter Try.func8, Try.ntmps8
      go_wp2_with fail
      refine (vary_examples _).mono ?_
      rintro e w1 ⟨rfl, hw1⟩
      have zw1 := hw1.size
      try simp at zw1
      go_wp2_with fail
      refine (ptext_at s T _ hs HT.out).mono ?_
      rintro e w2 ⟨rfl, hw2⟩
      have zw2 := hw2.size
      try simp at zw2
      go_wp2_with fail
      refine (text_at _ ⟨#[]⟩ ⟨#[]⟩ 0 3 m _ SX.out T2.out).mono ?_
      rintro e w3 ⟨rfl, hw3⟩
      have zw3 := hw3.size
      try simp at zw3
      go_wp2_with fail
      refine (text_at (T.extract 0 K) ⟨#[]⟩ ⟨#[]⟩ 0 3 m _ SK.out T4.out).mono ?_
      rintro e w4 ⟨rfl, hw4⟩
      have zw4 := hw4.size
      try simp at zw4
      have zw4_0 : w3.heap.size < w4.heap.size := by omega
      have cw4_0 := fun o => hw4.cell (p := ⟨w3.heap.size, o, none⟩) (by first | omega | (simp <;> omega))
      have fw4_0 := fun o => hw4.frozen (p := ⟨w3.heap.size, o, none⟩) (by first | omega | (simp <;> omega))
      go_wp2_with fail
      go_ret
      exact ⟨rfl, (by repeat' (first | exact Below.refl _ _ | (refine Below.drew ?_) | (refine Below.alloc ?_ (by first | omega | (simp <;> omega)) _) | (refine Below.setCell ?_ (by first | omega | (simp <;> omega)) _) | (refine Below.trans ?_ (Below.mono (by assumption) (by first | omega | (simp <;> omega))))))⟩
    · rw [if_neg (by omega)] at t4
      have T4 := Lib.hid t4
      have T2 := Lib.hid (t3 (by omega))
      clear t1 t2 t3 t4 hT sx sk hTs
      go_enter Try.func8, Try.ntmps8
      go_wp2_with fail
      refine (vary_examples _).mono ?_
      rintro e w1 ⟨rfl, hw1⟩
      have zw1 := hw1.size
      try simp at zw1
      go_wp2_with fail
      refine (ptext_at s T _ hs HT.out).mono ?_
      rintro e w2 ⟨rfl, hw2⟩
      have zw2 := hw2.size
      try simp at zw2
      go_wp2_with fail
      refine (text_at _ ⟨#[]⟩ ⟨#[]⟩ 0 3 m _ SX.out T2.out).mono ?_
      rintro e w3 ⟨rfl, hw3⟩
      have zw3 := hw3.size
      try simp at zw3
      go_wp2_with fail
      refine (text_at (T.extract 0 K) ⟨#[]⟩ ⟨#[]⟩ 0 4 m _ SK.out T4.out).mono ?_
      rintro e w4 ⟨rfl, hw4⟩
      have zw4 := hw4.size
      try simp at zw4
      have zw4_0 : w3.heap.size < w4.heap.size := by omega
      have cw4_0 := fun o => hw4.cell (p := ⟨w3.heap.size, o, none⟩) (by first | omega | (simp <;> omega))
      have fw4_0 := fun o => hw4.frozen (p := ⟨w3.heap.size, o, none⟩) (by first | omega | (simp <;> omega))
      go_wp2_with fail
      go_ret
      exact ⟨rfl, (by repeat' (first | exact Below.refl _ _ | (refine Below.drew ?_) | (refine Below.alloc ?_ (by first | omega | (simp <;> omega)) _) | (refine Below.setCell ?_ (by first | omega | (simp <;> omega)) _) | (refine Below.trans ?_ (Below.mono (by assumption) (by first | omega | (simp <;> omega))))))⟩
end Go.Proofs.Ytimfgefpcbnalaa
