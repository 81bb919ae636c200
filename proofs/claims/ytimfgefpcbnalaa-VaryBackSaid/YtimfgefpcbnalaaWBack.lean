/- VaryBack. -/
import Derived.Test.YtimfgefpcbnalaaWTexts
set_option linter.unusedVariables false
namespace Go.Proofs.Ytimfgefpcbnalaa
open Go.RowKit
theorem bk_one {s A C T behind : ByteArray} {S2 : ByteArray} {a b : Nat} (ha : a < 18446744073709551616) (hb : b < 18446744073709551616) (hs : s.size < 18446744073709551616)
    (hA : ⟨(Vr.put a).toArray⟩ = A) (hS : (⟨(Vr.put s.size).toArray⟩ : ByteArray) ++ s = S2) (hC : ⟨(Vr.put b).toArray⟩ = C) (hT : A ++ S2 ++ C = T) :
    T = Vr.str (Vr.row a s.data.toList b) ∧ ∃ R : ByteArray, R.size ≤ (T ++ behind).size ∧ Vr.next (T ++ behind) 0 = (a, R, 0) ∧ ∃ R2 : ByteArray, R2.size ≤ (T ++ behind).size ∧ Vr.text R 0 s.size = (s, R2, 0) ∧ Vr.next R2 0 = (b, behind, 0) := by
  have e1 : s.size = s.data.toList.length := by rw [Array.length_toList]; rfl
  have e2 : T = Vr.str (Vr.row a s.data.toList b) := by
    rw [← hT, ← hA, ← hS, ← hC]
    show Vr.str (Vr.put a) ++ (Vr.str (Vr.put s.size) ++ s) ++ Vr.str (Vr.put b) = _
    rw [← Vr.str_toList s]
    rw [Vr.str_append, Vr.str_append, Vr.str_append, Vr.str_data, Vr.str_size]
    unfold Vr.row
    rw [List.append_assoc, List.append_assoc]
  have e3 : T ++ behind = Vr.str (Vr.put a ++ (Vr.put s.data.toList.length ++ (s.data.toList ++ (Vr.put b ++ behind.data.toList)))) := by
    rw [e2, ← Vr.str_toList behind, Vr.str_append, Vr.str_data]
    unfold Vr.row
    simp only [List.append_assoc]
  refine ⟨e2, Vr.str (Vr.put s.data.toList.length ++ (s.data.toList ++ (Vr.put b ++ behind.data.toList))), ?_, ?_, Vr.str (Vr.put b ++ behind.data.toList), ?_, ?_, ?_⟩
  · rw [e3, Vr.str_size, Vr.str_size]; simp
  · rw [e3]; exact Vr.next_str ha _
  · rw [e3, Vr.str_size, Vr.str_size]; simp; omega
  · rw [e1, Vr.text_str (by omega) (Nat.le_refl _), Vr.str_toList]
  · rw [Vr.next_str hb, Vr.str_toList]
theorem law_VaryBack (a b : Int) (s behind : ByteArray) (cut : Int) (w : World) (a0 : 0 ≤ a) (a1 : a ≤ 18446744073709551615) (b0 : 0 ≤ b) (b1 : b ≤ 18446744073709551615)
    (hs : s.size ≤ 140737488351232) (hb : behind.size ≤ 140737488351232) (c0 : 0 ≤ cut) (c1 : cut ≤ 65535) :
    Calls Try.prog 4 #[.int .u64 a, .int .u64 b, .string s, .string behind, .int .u16 cut] w fun e w' => e = .returned (.bool true) ∧ Below w.heap.size w w' := by
  obtain ⟨a, rfl⟩ := Int.eq_ofNat_of_zero_le a0
  obtain ⟨b, rfl⟩ := Int.eq_ofNat_of_zero_le b0
  have pa := Vr.put_len_le (n := a) (by omega)
  have pb := Vr.put_len_le (n := b) (by omega)
  have ps := Vr.put_len_le (n := s.size) (by omega)
  have pa0 := Vr.put_pos a
  have pb0 := Vr.put_pos b
  have ps0 := Vr.put_pos s.size
  obtain ⟨A, hA⟩ : ∃ A : ByteArray, ⟨(Vr.put a).toArray⟩ = A := ⟨_, rfl⟩
  obtain ⟨C, hC⟩ : ∃ C : ByteArray, ⟨(Vr.put b).toArray⟩ = C := ⟨_, rfl⟩
  obtain ⟨S2, hS⟩ : ∃ S2 : ByteArray, (⟨(Vr.put s.size).toArray⟩ : ByteArray) ++ s = S2 := ⟨_, rfl⟩
  obtain ⟨T, hT⟩ : ∃ T : ByteArray, A ++ S2 ++ C = T := ⟨_, rfl⟩
  obtain ⟨e0, R, r1, r2, R2, r3, r4, r5⟩ := bk_one (behind := behind) (by omega) (by omega) (by omega) hA hS hC hT
  have sA : A.size = (Vr.put a).length := by rw [← hA, put_size]
  have sC : C.size = (Vr.put b).length := by rw [← hC, put_size]
  have sS : S2.size = (Vr.put s.size).length + s.size := by rw [← hS, ByteArray.size_append, put_size]
  have sT : T.size = A.size + S2.size + C.size := by rw [← hT, ByteArray.size_append, ByteArray.size_append]
  have g0 : A.size ≤ 10 := by omega
  have g1 : C.size ≤ 10 := by omega
  have g2 : S2.size ≤ 140737488351242 := by omega
  have g3 : T.size ≤ 140737488351262 := by omega
  have g4 : 3 ≤ T.size := by omega
  have gg : (T ++ behind).size ≤ maxLen := by rw [ByteArray.size_append]; unfold maxLen; omega
  obtain ⟨K, hK⟩ : ∃ K : Nat, cut % (T.size : Int) = (K : Int) := ⟨(cut % (T.size : Int)).toNat, by rw [Int.toNat_of_nonneg (Int.emod_nonneg _ (by omega))]⟩
  have hKl : K < T.size := by have := Int.emod_lt_of_pos cut (b := (T.size : Int)) (by omega); omega
  have sK : (T.extract 0 K).size ≤ maxLen := by have := Vr.size_extract_le T 0 K; unfold maxLen; omega
  obtain ⟨v1, q1, x1, h1⟩ : ∃ v1 q1 x1, Vr.next (T.extract 0 K) 0 = (v1, q1, x1) := ⟨_, _, _, rfl⟩
  obtain ⟨u2, q2, x2, h2⟩ : ∃ u2 q2 x2, Vr.text q1 x1 s.size = (u2, q2, x2) := ⟨_, _, _, rfl⟩
  obtain ⟨v3, q3, x3, h3⟩ : ∃ v3 q3 x3, Vr.next q2 x2 = (v3, q3, x3) := ⟨_, _, _, rfl⟩
  obtain rfl : x3 = 4 := by
    have e1 : s.size = s.data.toList.length := by rw [Array.length_toList]; rfl
    rw [e0, Vr.str_extract, List.drop_zero] at h1
    rw [e1] at h2
    refine Vr.row_cut (by omega) (by omega) (by omega) ?_ h1 h2 h3
    rw [e0, Vr.str_size] at hKl; exact hKl
  have n1 := Vr.next_bd h1
  have n2 := Vr.text_bd h2
  have HA := Lib.hid hA
  have HC := Lib.hid hC
  have HS := Lib.hid hS
  have H1 := Lib.hid h1
  have H2 := Lib.hid h2
  have H3 := Lib.hid h3
  have K2 := Lib.hid r2
  have K4 := Lib.hid r4
  have K5 := Lib.hid r5
  have L1 : Hid (R.size ≤ maxLen) := Lib.hid (by omega)
  have L2 : Hid (R2.size ≤ maxLen) := Lib.hid (by omega)
  have L3 : Hid (q1.size ≤ maxLen) := Lib.hid (by omega)
  have L4 : Hid (q2.size ≤ maxLen) := Lib.hid (by omega)
  have LG := Lib.hid gg
  have LK := Lib.hid sK
  clear hA hC hS h1 h2 h3 r1 r2 r3 r4 r5 gg sK e0 sA sC sS sT n1 n2 pa pb ps pa0 pb0 ps0
  go_enter Try.func4, Try.ntmps4
  go_wp2_with fail
  refine (vary_examples _).mono ?_
  rintro e w1 ⟨rfl, hw1⟩
  have zw1 := hw1.size
  try simp at zw1
  go_wp2_with fail
  refine (put_at a A _ (by omega) HA.out).mono ?_
  rintro e w2 ⟨rfl, hw2⟩
  have zw2 := hw2.size
  try simp at zw2
  go_wp2_with fail
  refine (ptext_at s S2 _ hs HS.out).mono ?_
  rintro e w3 ⟨rfl, hw3⟩
  have zw3 := hw3.size
  try simp at zw3
  go_wp2_with fail
  refine (put_at b C _ (by omega) HC.out).mono ?_
  rintro e w4 ⟨rfl, hw4⟩
  have zw4 := hw4.size
  try simp at zw4
  go_wp2_with fail
  refine (next_at _ R 0 0 a _ LG.out K2.out).mono ?_
  rintro e w5 ⟨rfl, hw5⟩
  have zw5 := hw5.size
  try simp at zw5
  go_wp2_with fail
  refine (text_at R s R2 0 0 s.size _ L1.out K4.out).mono ?_
  rintro e w6 ⟨rfl, hw6⟩
  have zw6 := hw6.size
  try simp at zw6
  have zw6_0 : w5.heap.size < w6.heap.size := by omega
  have cw6_0_0 : w6.cell? ⟨w5.heap.size, 0, none⟩ = some (.string R) := (hw6.cell (p := ⟨w5.heap.size, 0, none⟩) (by first | omega | (simp <;> omega))).trans (by simp [go_sem, *])
  have cw6_0_1 : w6.cell? ⟨w5.heap.size, 1, none⟩ = some (.int .i64 0) := (hw6.cell (p := ⟨w5.heap.size, 1, none⟩) (by first | omega | (simp <;> omega))).trans (by simp [go_sem, *])
  have fw6_0 := fun o => hw6.frozen (p := ⟨w5.heap.size, o, none⟩) (by first | omega | (simp <;> omega))
  go_wp2_with fail
  refine (next_at R2 behind 0 0 b _ L2.out K5.out).mono ?_
  rintro e w7 ⟨rfl, hw7⟩
  have zw7 := hw7.size
  try simp at zw7
  have zw7_0 : w5.heap.size < w7.heap.size := by omega
  have cw7_0_0 : w7.cell? ⟨w5.heap.size, 0, none⟩ = some (.string R2) := (hw7.cell (p := ⟨w5.heap.size, 0, none⟩) (by first | omega | (simp <;> omega))).trans (by simp [go_sem, *])
  have cw7_0_1 : w7.cell? ⟨w5.heap.size, 1, none⟩ = some (.int .i64 0) := (hw7.cell (p := ⟨w5.heap.size, 1, none⟩) (by first | omega | (simp <;> omega))).trans (by simp [go_sem, *])
  have fw7_0 := fun o => hw7.frozen (p := ⟨w5.heap.size, o, none⟩) (by first | omega | (simp <;> omega))
  go_wp2_with fail
  refine (next_at (T.extract 0 K) q1 0 x1 v1 _ LK.out H1.out).mono ?_
  rintro e w8 ⟨rfl, hw8⟩
  have zw8 := hw8.size
  try simp at zw8
  have zw8_0 : w5.heap.size < w8.heap.size := by omega
  have cw8_0_0 : w8.cell? ⟨w5.heap.size, 0, none⟩ = some (.string behind) := (hw8.cell (p := ⟨w5.heap.size, 0, none⟩) (by first | omega | (simp <;> omega))).trans (by simp [go_sem, *])
  have cw8_0_1 : w8.cell? ⟨w5.heap.size, 1, none⟩ = some (.int .i64 0) := (hw8.cell (p := ⟨w5.heap.size, 1, none⟩) (by first | omega | (simp <;> omega))).trans (by simp [go_sem, *])
  have fw8_0 := fun o => hw8.frozen (p := ⟨w5.heap.size, o, none⟩) (by first | omega | (simp <;> omega))
  go_wp2_with fail
  refine (text_at q1 u2 q2 x1 x2 s.size _ L3.out H2.out).mono ?_
  rintro e w9 ⟨rfl, hw9⟩
  have zw9 := hw9.size
  try simp at zw9
  have zw9_0 : w5.heap.size < w9.heap.size := by omega
  have cw9_0_0 : w9.cell? ⟨w5.heap.size, 0, none⟩ = some (.string behind) := (hw9.cell (p := ⟨w5.heap.size, 0, none⟩) (by first | omega | (simp <;> omega))).trans (by simp [go_sem, *])
  have cw9_0_1 : w9.cell? ⟨w5.heap.size, 1, none⟩ = some (.int .i64 0) := (hw9.cell (p := ⟨w5.heap.size, 1, none⟩) (by first | omega | (simp <;> omega))).trans (by simp [go_sem, *])
  have fw9_0 := fun o => hw9.frozen (p := ⟨w5.heap.size, o, none⟩) (by first | omega | (simp <;> omega))
  have zw9_1 : w8.heap.size < w9.heap.size := by omega
  have cw9_1_0 : w9.cell? ⟨w8.heap.size, 0, none⟩ = some (.string q1) := (hw9.cell (p := ⟨w8.heap.size, 0, none⟩) (by first | omega | (simp <;> omega))).trans (by simp [go_sem, *])
  have cw9_1_1 : w9.cell? ⟨w8.heap.size, 1, none⟩ = some (.int .i64 x1) := (hw9.cell (p := ⟨w8.heap.size, 1, none⟩) (by first | omega | (simp <;> omega))).trans (by simp [go_sem, *])
  have fw9_1 := fun o => hw9.frozen (p := ⟨w8.heap.size, o, none⟩) (by first | omega | (simp <;> omega))
  go_wp2_with fail
  refine (next_at q2 q3 x2 4 v3 _ L4.out H3.out).mono ?_
  rintro e w10 ⟨rfl, hw10⟩
  have zw10 := hw10.size
  try simp at zw10
  have zw10_0 : w5.heap.size < w10.heap.size := by omega
  have cw10_0_0 : w10.cell? ⟨w5.heap.size, 0, none⟩ = some (.string behind) := (hw10.cell (p := ⟨w5.heap.size, 0, none⟩) (by first | omega | (simp <;> omega))).trans (by simp [go_sem, *])
  have cw10_0_1 : w10.cell? ⟨w5.heap.size, 1, none⟩ = some (.int .i64 0) := (hw10.cell (p := ⟨w5.heap.size, 1, none⟩) (by first | omega | (simp <;> omega))).trans (by simp [go_sem, *])
  have fw10_0 := fun o => hw10.frozen (p := ⟨w5.heap.size, o, none⟩) (by first | omega | (simp <;> omega))
  have zw10_1 : w8.heap.size < w10.heap.size := by omega
  have cw10_1_0 : w10.cell? ⟨w8.heap.size, 0, none⟩ = some (.string q2) := (hw10.cell (p := ⟨w8.heap.size, 0, none⟩) (by first | omega | (simp <;> omega))).trans (by simp [go_sem, *])
  have cw10_1_1 : w10.cell? ⟨w8.heap.size, 1, none⟩ = some (.int .i64 x2) := (hw10.cell (p := ⟨w8.heap.size, 1, none⟩) (by first | omega | (simp <;> omega))).trans (by simp [go_sem, *])
  have fw10_1 := fun o => hw10.frozen (p := ⟨w8.heap.size, o, none⟩) (by first | omega | (simp <;> omega))
  go_wp2_with fail
  go_ret
  exact ⟨rfl, (by repeat' (first | exact Below.refl _ _ | (refine Below.drew ?_) | (refine Below.alloc ?_ (by first | omega | (simp <;> omega)) _) | (refine Below.setCell ?_ (by first | omega | (simp <;> omega)) _) | (refine Below.trans ?_ (Below.mono (by assumption) (by first | omega | (simp <;> omega))))))⟩
end Go.Proofs.Ytimfgefpcbnalaa
