/- The laws of numbers of few bytes: each walk answers true. -/
import Derived.Test.YtahckijanjbagaaRNext
import Derived.Test.YtahckijanjbagaaPut
set_option linter.unusedVariables false
namespace Go.Proofs.Ytahckijanjbagaa
open Go.RowKit

theorem put_at (n : Nat) (v : ByteArray) (w : World) (hn : n < 18446744073709551616) (h : ⟨(Vr.put n).toArray⟩ = v) :
    Calls Try.prog 5 #[.int .u64 (n : Int)] w fun x w' => x = .returned (.string v) ∧ Below w.heap.size w w' := by
  subst h; exact put_any n w hn
theorem ptext_at (s v : ByteArray) (w : World) (hs : s.size ≤ 140737488351232) (h : ⟨(Vr.put s.size).toArray⟩ ++ s = v) :
    Calls Try.prog 6 #[.string s] w fun x w' => x = .returned (.string v) ∧ Below w.heap.size w w' := by
  subst h; exact ptext_any s w hs
theorem end_at (s : ByteArray) (e v : Int) (w : World) (h : Vr.fin s e = v) :
    Calls Try.prog 18 #[.agg #[.string s, .int .i64 e]] w fun x w' => x = .returned (.int .i64 v) ∧ Below w.heap.size w w' := by
  subst h; exact end_any s e w
theorem put_300 : (⟨(Vr.put 300).toArray⟩ : ByteArray) = ⟨#[172, 2]⟩ := by rw [Vr.put_ge (by decide), Vr.put_lt (by decide)]; decide +kernel
theorem text_ab : (⟨(Vr.put (ByteArray.size ⟨#[97, 98]⟩)).toArray⟩ : ByteArray) ++ ⟨#[97, 98]⟩ = ⟨#[2, 97, 98]⟩ := by rw [Vr.put_lt (by decide)]; decide +kernel
theorem ref_any (s : ByteArray) (e : Int) (w : World) :
    Calls Try.prog 7 #[.agg #[.string s, .int .i64 e]] w fun x w' => x = .returned (.agg #[.string s, .int .i64 e]) ∧ Below w.heap.size w w' := by
  go_enter Try.func7, Try.ntmps7
  go_wp2_with fail
  exact bodyPost_ret (v := .agg #[.string s, .int .i64 e]) (by simp [results, Try.results7, go_sem, *]) rfl ⟨rfl, (by repeat' (first | exact Below.refl _ _ | (refine Below.drew ?_) | (refine Below.alloc ?_ (by first | omega | (simp <;> omega)) _) | (refine Below.setCell ?_ (by first | omega | (simp <;> omega)) _) | (refine Below.trans ?_ (Below.mono (by assumption) (by first | omega | (simp <;> omega))))))⟩
theorem field_E (s : ByteArray) (e : Int) (w : World) : (Instr.field 24 (.agg #[.string s, .int .i64 e]) 1).run Try.prog w = .ok (.int .i64 e) w := by kernel_rfl
theorem field_R (s : ByteArray) (e : Int) (w : World) : (Instr.field 24 (.agg #[.string s, .int .i64 e]) 0).run Try.prog w = .ok (.string s) w := by kernel_rfl
set_option maxHeartbeats 1600000 in
theorem vary_examples (w : World) :
    Calls Try.prog 4 #[] w fun x w' => x = .returned (.bool true) ∧ Below w.heap.size w w' := by
  have fE := field_E
  have fR := field_R
  go_enter Try.func4, Try.ntmps4
  go_wp2_with fail
  refine (put_at 300 _ _ (by decide) put_300).mono ?_
  rintro e w1 ⟨rfl, hw1⟩
  have zw1 := hw1.size
  try simp at zw1
  go_wp2_with fail
  refine (ptext_at _ _ _ (by decide) text_ab).mono ?_
  rintro e w2 ⟨rfl, hw2⟩
  have zw2 := hw2.size
  try simp at zw2
  go_wp2_with fail
  refine (next_at _ ⟨#[2, 97, 98, 0, 0, 120]⟩ 0 0 300 _ (by decide) (by decide +kernel)).mono ?_
  rintro e w3 ⟨rfl, hw3⟩
  have zw3 := hw3.size
  try simp at zw3
  go_wp2_with fail
  refine (text_at _ ⟨#[97, 98]⟩ ⟨#[0, 0, 120]⟩ 0 0 2 _ (by decide) (by decide +kernel)).mono ?_
  rintro e w4 ⟨rfl, hw4⟩
  have zw4 := hw4.size
  try simp at zw4
  have zw4_0 : w3.heap.size < w4.heap.size := by omega
  have cw4_0_0 : w4.cell? ⟨w3.heap.size, 0, none⟩ = some (.string ⟨#[2, 97, 98, 0, 0, 120]⟩) := (hw4.cell (p := ⟨w3.heap.size, 0, none⟩) (by first | omega | (simp <;> omega))).trans (by simp [go_sem, *])
  have cw4_0_1 : w4.cell? ⟨w3.heap.size, 1, none⟩ = some (.int .i64 0) := (hw4.cell (p := ⟨w3.heap.size, 1, none⟩) (by first | omega | (simp <;> omega))).trans (by simp [go_sem, *])
  have fw4_0 := fun o => hw4.frozen (p := ⟨w3.heap.size, o, none⟩) (by first | omega | (simp <;> omega))
  go_wp2_with fail
  refine (pad_at _ ⟨#[120]⟩ 0 0 2 _ (by decide) (by decide +kernel)).mono ?_
  rintro e w5 ⟨rfl, hw5⟩
  have zw5 := hw5.size
  try simp at zw5
  have zw5_0 : w3.heap.size < w5.heap.size := by omega
  have cw5_0_0 : w5.cell? ⟨w3.heap.size, 0, none⟩ = some (.string ⟨#[0, 0, 120]⟩) := (hw5.cell (p := ⟨w3.heap.size, 0, none⟩) (by first | omega | (simp <;> omega))).trans (by simp [go_sem, *])
  have cw5_0_1 : w5.cell? ⟨w3.heap.size, 1, none⟩ = some (.int .i64 0) := (hw5.cell (p := ⟨w3.heap.size, 1, none⟩) (by first | omega | (simp <;> omega))).trans (by simp [go_sem, *])
  have fw5_0 := fun o => hw5.frozen (p := ⟨w3.heap.size, o, none⟩) (by first | omega | (simp <;> omega))
  go_wp2_with fail
  refine (bytes_at _ ⟨#[120]⟩ ⟨#[]⟩ 0 0 1 _ (by decide +kernel)).mono ?_
  rintro e w6 ⟨rfl, hw6⟩
  have zw6 := hw6.size
  try simp at zw6
  have zw6_0 : w3.heap.size < w6.heap.size := by omega
  have cw6_0_0 : w6.cell? ⟨w3.heap.size, 0, none⟩ = some (.string ⟨#[120]⟩) := (hw6.cell (p := ⟨w3.heap.size, 0, none⟩) (by first | omega | (simp <;> omega))).trans (by simp [go_sem, *])
  have cw6_0_1 : w6.cell? ⟨w3.heap.size, 1, none⟩ = some (.int .i64 0) := (hw6.cell (p := ⟨w3.heap.size, 1, none⟩) (by first | omega | (simp <;> omega))).trans (by simp [go_sem, *])
  have fw6_0 := fun o => hw6.frozen (p := ⟨w3.heap.size, o, none⟩) (by first | omega | (simp <;> omega))
  go_wp2_with fail
  refine (next_at _ ⟨#[]⟩ 0 5 0 _ (by decide) (by decide +kernel)).mono ?_
  rintro e w7 ⟨rfl, hw7⟩
  have zw7 := hw7.size
  try simp at zw7
  have zw7_0 : w3.heap.size < w7.heap.size := by omega
  have cw7_0 := fun o => hw7.cell (p := ⟨w3.heap.size, o, none⟩) (by first | omega | (simp <;> omega))
  have fw7_0 := fun o => hw7.frozen (p := ⟨w3.heap.size, o, none⟩) (by first | omega | (simp <;> omega))
  have zw7_1 : w6.heap.size < w7.heap.size := by omega
  have cw7_1 := fun o => hw7.cell (p := ⟨w6.heap.size, o, none⟩) (by first | omega | (simp <;> omega))
  have fw7_1 := fun o => hw7.frozen (p := ⟨w6.heap.size, o, none⟩) (by first | omega | (simp <;> omega))
  go_wp2_with fail
  refine (next_at _ ⟨#[]⟩ 0 4 0 _ (by decide) (by decide +kernel)).mono ?_
  rintro e w8 ⟨rfl, hw8⟩
  have zw8 := hw8.size
  try simp at zw8
  have zw8_0 : w3.heap.size < w8.heap.size := by omega
  have cw8_0 := fun o => hw8.cell (p := ⟨w3.heap.size, o, none⟩) (by first | omega | (simp <;> omega))
  have fw8_0 := fun o => hw8.frozen (p := ⟨w3.heap.size, o, none⟩) (by first | omega | (simp <;> omega))
  have zw8_1 : w6.heap.size < w8.heap.size := by omega
  have cw8_1 := fun o => hw8.cell (p := ⟨w6.heap.size, o, none⟩) (by first | omega | (simp <;> omega))
  have fw8_1 := fun o => hw8.frozen (p := ⟨w6.heap.size, o, none⟩) (by first | omega | (simp <;> omega))
  have zw8_2 : w7.heap.size < w8.heap.size := by omega
  have cw8_2 := fun o => hw8.cell (p := ⟨w7.heap.size, o, none⟩) (by first | omega | (simp <;> omega))
  have fw8_2 := fun o => hw8.frozen (p := ⟨w7.heap.size, o, none⟩) (by first | omega | (simp <;> omega))
  go_wp2_with fail
  refine (text_at _ ⟨#[]⟩ ⟨#[]⟩ 0 3 2 _ (by decide) (by decide +kernel)).mono ?_
  rintro e w9 ⟨rfl, hw9⟩
  have zw9 := hw9.size
  try simp at zw9
  have zw9_0 : w3.heap.size < w9.heap.size := by omega
  have cw9_0 := fun o => hw9.cell (p := ⟨w3.heap.size, o, none⟩) (by first | omega | (simp <;> omega))
  have fw9_0 := fun o => hw9.frozen (p := ⟨w3.heap.size, o, none⟩) (by first | omega | (simp <;> omega))
  have zw9_1 : w6.heap.size < w9.heap.size := by omega
  have cw9_1 := fun o => hw9.cell (p := ⟨w6.heap.size, o, none⟩) (by first | omega | (simp <;> omega))
  have fw9_1 := fun o => hw9.frozen (p := ⟨w6.heap.size, o, none⟩) (by first | omega | (simp <;> omega))
  have zw9_2 : w7.heap.size < w9.heap.size := by omega
  have cw9_2 := fun o => hw9.cell (p := ⟨w7.heap.size, o, none⟩) (by first | omega | (simp <;> omega))
  have fw9_2 := fun o => hw9.frozen (p := ⟨w7.heap.size, o, none⟩) (by first | omega | (simp <;> omega))
  have zw9_3 : w8.heap.size < w9.heap.size := by omega
  have cw9_3 := fun o => hw9.cell (p := ⟨w8.heap.size, o, none⟩) (by first | omega | (simp <;> omega))
  have fw9_3 := fun o => hw9.frozen (p := ⟨w8.heap.size, o, none⟩) (by first | omega | (simp <;> omega))
  go_wp2_with fail
  refine (put_at 300 _ _ (by decide) put_300).mono ?_
  rintro e w10 ⟨rfl, hw10⟩
  have zw10 := hw10.size
  try simp at zw10
  have zw10_0 : w3.heap.size < w10.heap.size := by omega
  have cw10_0 := fun o => hw10.cell (p := ⟨w3.heap.size, o, none⟩) (by first | omega | (simp <;> omega))
  have fw10_0 := fun o => hw10.frozen (p := ⟨w3.heap.size, o, none⟩) (by first | omega | (simp <;> omega))
  have zw10_1 : w6.heap.size < w10.heap.size := by omega
  have cw10_1 := fun o => hw10.cell (p := ⟨w6.heap.size, o, none⟩) (by first | omega | (simp <;> omega))
  have fw10_1 := fun o => hw10.frozen (p := ⟨w6.heap.size, o, none⟩) (by first | omega | (simp <;> omega))
  have zw10_2 : w7.heap.size < w10.heap.size := by omega
  have cw10_2 := fun o => hw10.cell (p := ⟨w7.heap.size, o, none⟩) (by first | omega | (simp <;> omega))
  have fw10_2 := fun o => hw10.frozen (p := ⟨w7.heap.size, o, none⟩) (by first | omega | (simp <;> omega))
  have zw10_3 : w8.heap.size < w10.heap.size := by omega
  have cw10_3 := fun o => hw10.cell (p := ⟨w8.heap.size, o, none⟩) (by first | omega | (simp <;> omega))
  have fw10_3 := fun o => hw10.frozen (p := ⟨w8.heap.size, o, none⟩) (by first | omega | (simp <;> omega))
  have zw10_4 : w9.heap.size < w10.heap.size := by omega
  have cw10_4 := fun o => hw10.cell (p := ⟨w9.heap.size, o, none⟩) (by first | omega | (simp <;> omega))
  have fw10_4 := fun o => hw10.frozen (p := ⟨w9.heap.size, o, none⟩) (by first | omega | (simp <;> omega))
  go_wp2_with fail
  refine (end_at _ 0 0 _ (by decide +kernel)).mono ?_
  rintro e w11 ⟨rfl, hw11⟩
  have zw11 := hw11.size
  try simp at zw11
  have zw11_0 : w3.heap.size < w11.heap.size := by omega
  have cw11_0 := fun o => hw11.cell (p := ⟨w3.heap.size, o, none⟩) (by first | omega | (simp <;> omega))
  have fw11_0 := fun o => hw11.frozen (p := ⟨w3.heap.size, o, none⟩) (by first | omega | (simp <;> omega))
  have zw11_1 : w6.heap.size < w11.heap.size := by omega
  have cw11_1 := fun o => hw11.cell (p := ⟨w6.heap.size, o, none⟩) (by first | omega | (simp <;> omega))
  have fw11_1 := fun o => hw11.frozen (p := ⟨w6.heap.size, o, none⟩) (by first | omega | (simp <;> omega))
  have zw11_2 : w7.heap.size < w11.heap.size := by omega
  have cw11_2 := fun o => hw11.cell (p := ⟨w7.heap.size, o, none⟩) (by first | omega | (simp <;> omega))
  have fw11_2 := fun o => hw11.frozen (p := ⟨w7.heap.size, o, none⟩) (by first | omega | (simp <;> omega))
  have zw11_3 : w8.heap.size < w11.heap.size := by omega
  have cw11_3 := fun o => hw11.cell (p := ⟨w8.heap.size, o, none⟩) (by first | omega | (simp <;> omega))
  have fw11_3 := fun o => hw11.frozen (p := ⟨w8.heap.size, o, none⟩) (by first | omega | (simp <;> omega))
  have zw11_4 : w9.heap.size < w11.heap.size := by omega
  have cw11_4 := fun o => hw11.cell (p := ⟨w9.heap.size, o, none⟩) (by first | omega | (simp <;> omega))
  have fw11_4 := fun o => hw11.frozen (p := ⟨w9.heap.size, o, none⟩) (by first | omega | (simp <;> omega))
  go_wp2_with fail
  refine (end_at _ 0 8 _ (by decide +kernel)).mono ?_
  rintro e w12 ⟨rfl, hw12⟩
  have zw12 := hw12.size
  try simp at zw12
  have zw12_0 : w3.heap.size < w12.heap.size := by omega
  have cw12_0 := fun o => hw12.cell (p := ⟨w3.heap.size, o, none⟩) (by first | omega | (simp <;> omega))
  have fw12_0 := fun o => hw12.frozen (p := ⟨w3.heap.size, o, none⟩) (by first | omega | (simp <;> omega))
  have zw12_1 : w6.heap.size < w12.heap.size := by omega
  have cw12_1 := fun o => hw12.cell (p := ⟨w6.heap.size, o, none⟩) (by first | omega | (simp <;> omega))
  have fw12_1 := fun o => hw12.frozen (p := ⟨w6.heap.size, o, none⟩) (by first | omega | (simp <;> omega))
  have zw12_2 : w7.heap.size < w12.heap.size := by omega
  have cw12_2 := fun o => hw12.cell (p := ⟨w7.heap.size, o, none⟩) (by first | omega | (simp <;> omega))
  have fw12_2 := fun o => hw12.frozen (p := ⟨w7.heap.size, o, none⟩) (by first | omega | (simp <;> omega))
  have zw12_3 : w8.heap.size < w12.heap.size := by omega
  have cw12_3 := fun o => hw12.cell (p := ⟨w8.heap.size, o, none⟩) (by first | omega | (simp <;> omega))
  have fw12_3 := fun o => hw12.frozen (p := ⟨w8.heap.size, o, none⟩) (by first | omega | (simp <;> omega))
  have zw12_4 : w9.heap.size < w12.heap.size := by omega
  have cw12_4 := fun o => hw12.cell (p := ⟨w9.heap.size, o, none⟩) (by first | omega | (simp <;> omega))
  have fw12_4 := fun o => hw12.frozen (p := ⟨w9.heap.size, o, none⟩) (by first | omega | (simp <;> omega))
  go_wp2_with fail
  refine (pad_at _ ⟨#[]⟩ 0 9 1 _ (by decide) (by decide +kernel)).mono ?_
  rintro e w13 ⟨rfl, hw13⟩
  have zw13 := hw13.size
  try simp at zw13
  go_wp2_with fail
  go_ret
  exact ⟨rfl, (by repeat' (first | exact Below.refl _ _ | (refine Below.drew ?_) | (refine Below.alloc ?_ (by first | omega | (simp <;> omega)) _) | (refine Below.setCell ?_ (by first | omega | (simp <;> omega)) _) | (refine Below.trans ?_ (Below.mono (by assumption) (by first | omega | (simp <;> omega))))))⟩
end Go.Proofs.Ytahckijanjbagaa
