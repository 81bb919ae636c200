/- A reader's calls, at whatever error it has. -/
import Derived.Test.YtahckijanjbagaaNext
set_option linter.unusedVariables false
namespace Go.Proofs.Ytahckijanjbagaa
open Go.RowKit

theorem next_err (s : ByteArray) (e : Int) (w : World) (he : ¬ e = 0) :
    Calls Try.prog 10 #[.agg #[.string s, .int .i64 e]] w fun x w' => x = .returned (.tuple #[.int .u64 0, .agg #[.string ⟨#[]⟩, .int .i64 e]]) ∧ Below w.heap.size w w' := by
  go_enter Try.func10, Try.ntmps10
  go_wp2_with fail
  refine (broken_any _ _).mono ?_
  rintro e w1 ⟨rfl, hw1⟩
  have zw1 := hw1.size
  try simp at zw1
  have zw1_0 : w.heap.size < w1.heap.size := by omega
  have cw1_0 := fun o => hw1.cell (p := ⟨w.heap.size, o, none⟩) (by first | omega | (simp <;> omega))
  have fw1_0 := fun o => hw1.frozen (p := ⟨w.heap.size, o, none⟩) (by first | omega | (simp <;> omega))
  have zw1_1 : w.heap.size + 1 < w1.heap.size := by omega
  have cw1_1 := fun o => hw1.cell (p := ⟨w.heap.size + 1, o, none⟩) (by first | omega | (simp <;> omega))
  have fw1_1 := fun o => hw1.frozen (p := ⟨w.heap.size + 1, o, none⟩) (by first | omega | (simp <;> omega))
  go_wp2_with fail
  exact bodyPost_ret (v := .tuple #[.int .u64 0, .agg #[.string ⟨#[]⟩, .int .i64 e]]) (by simp [results, Try.results10, go_sem, *]) rfl ⟨rfl, (by repeat' (first | exact Below.refl _ _ | (refine Below.drew ?_) | (refine Below.alloc ?_ (by first | omega | (simp <;> omega)) _) | (refine Below.setCell ?_ (by first | omega | (simp <;> omega)) _) | (refine Below.trans ?_ (Below.mono (by assumption) (by first | omega | (simp <;> omega))))))⟩
theorem next_at (s r : ByteArray) (e e' : Int) (v : Nat) (w : World) (hs : s.size ≤ maxLen) (h : Vr.next s e = (v, r, e')) :
    Calls Try.prog 10 #[.agg #[.string s, .int .i64 e]] w fun x w' => x = .returned (.tuple #[.int .u64 (v : Nat), .agg #[.string r, .int .i64 e']]) ∧ Below w.heap.size w w' := by
  by_cases he : e = 0
  · subst he; rw [Vr.next_zero] at h; simp only [Prod.mk.injEq] at h; obtain ⟨rfl, rfl, rfl⟩ := h; exact next_any s w hs
  · rw [Vr.next_err s he] at h; simp only [Prod.mk.injEq] at h; obtain ⟨rfl, rfl, rfl⟩ := h; exact next_err s e w he
theorem bytes_at (s a r : ByteArray) (e e' n : Int) (w : World) (h : Vr.bytes s e n = (a, r, e')) :
    Calls Try.prog 14 #[.agg #[.string s, .int .i64 e], .int .i64 n] w fun x w' => x = .returned (.tuple #[.string a, .agg #[.string r, .int .i64 e']]) ∧ Below w.heap.size w w' := by
  by_cases he : e = 0
  · subst he
    by_cases hn : n < 0 ∨ (s.size : Int) < n
    · rw [Vr.bytes_short s hn] at h; simp only [Prod.mk.injEq] at h; obtain ⟨rfl, rfl, rfl⟩ := h; exact bytes_short s n w hn
    · rw [Vr.bytes_zero s (by omega) (by omega)] at h; simp only [Prod.mk.injEq] at h; obtain ⟨rfl, rfl, rfl⟩ := h; exact bytes_ok s n w (by omega) (by omega)
  · rw [Vr.bytes_err s n he] at h; simp only [Prod.mk.injEq] at h; obtain ⟨rfl, rfl, rfl⟩ := h; exact bytes_err s e n w he

theorem text_at (s a r : ByteArray) (e e' : Int) (m : Nat) (w : World) (hs : s.size ≤ maxLen) (h : Vr.text s e m = (a, r, e')) :
    Calls Try.prog 12 #[.agg #[.string s, .int .i64 e], .int .u64 (m : Nat)] w fun x w' => x = .returned (.tuple #[.string a, .agg #[.string r, .int .i64 e']]) ∧ Below w.heap.size w w' := by
  generalize hx : Vr.next s e = x
  obtain ⟨v, q, e1⟩ := x
  obtain ⟨b1, b2⟩ := Vr.next_bd hx
  have hx' := Lib.hid hx
  have hs' := hs
  unfold maxLen at hs'
  by_cases h1 : m < v
  · rw [Vr.text_big hx h1] at h; simp only [Prod.mk.injEq] at h; obtain ⟨rfl, rfl, rfl⟩ := h
    clear hx
    go_enter Try.func12, Try.ntmps12
    go_wp2_with fail
    refine (next_at s q e e1 v _ hs hx'.out).mono ?_
    rintro e w1 ⟨rfl, hw1⟩
    have zw1 := hw1.size
    try simp at zw1
    have zw1_0 : w.heap.size < w1.heap.size := by omega
    have cw1_0 := fun o => hw1.cell (p := ⟨w.heap.size, o, none⟩) (by first | omega | (simp <;> omega))
    have fw1_0 := fun o => hw1.frozen (p := ⟨w.heap.size, o, none⟩) (by first | omega | (simp <;> omega))
    have zw1_1 : w.heap.size + 1 < w1.heap.size := by omega
    have cw1_1 := fun o => hw1.cell (p := ⟨w.heap.size + 1, o, none⟩) (by first | omega | (simp <;> omega))
    have fw1_1 := fun o => hw1.frozen (p := ⟨w.heap.size + 1, o, none⟩) (by first | omega | (simp <;> omega))
    go_wp2_with fail
    refine (broken_any _ _).mono ?_
    rintro e w2 ⟨rfl, hw2⟩
    have zw2 := hw2.size
    try simp at zw2
    have zw2_0 : w.heap.size < w2.heap.size := by omega
    have cw2_0 := fun o => hw2.cell (p := ⟨w.heap.size, o, none⟩) (by first | omega | (simp <;> omega))
    have fw2_0 := fun o => hw2.frozen (p := ⟨w.heap.size, o, none⟩) (by first | omega | (simp <;> omega))
    have zw2_1 : w.heap.size + 1 < w2.heap.size := by omega
    have cw2_1 := fun o => hw2.cell (p := ⟨w.heap.size + 1, o, none⟩) (by first | omega | (simp <;> omega))
    have fw2_1 := fun o => hw2.frozen (p := ⟨w.heap.size + 1, o, none⟩) (by first | omega | (simp <;> omega))
    have zw2_2 : w1.heap.size < w2.heap.size := by omega
    have cw2_2 := fun o => hw2.cell (p := ⟨w1.heap.size, o, none⟩) (by first | omega | (simp <;> omega))
    have fw2_2 := fun o => hw2.frozen (p := ⟨w1.heap.size, o, none⟩) (by first | omega | (simp <;> omega))
    go_wp2_with fail
    exact bodyPost_ret (v := .tuple #[.string ⟨#[]⟩, .agg #[.string ⟨#[]⟩, .int .i64 3]]) (by simp [results, Try.results12, go_sem, *]) rfl ⟨rfl, (by repeat' (first | exact Below.refl _ _ | (refine Below.drew ?_) | (refine Below.alloc ?_ (by first | omega | (simp <;> omega)) _) | (refine Below.setCell ?_ (by first | omega | (simp <;> omega)) _) | (refine Below.trans ?_ (Below.mono (by assumption) (by first | omega | (simp <;> omega))))))⟩
  · by_cases h2 : q.size < v
    · rw [Vr.text_short hx (by omega) h2] at h; simp only [Prod.mk.injEq] at h; obtain ⟨rfl, rfl, rfl⟩ := h
      clear hx
      go_enter Try.func12, Try.ntmps12
      go_wp2_with fail
      refine (next_at s q e e1 v _ hs hx'.out).mono ?_
      rintro e w1 ⟨rfl, hw1⟩
      have zw1 := hw1.size
      try simp at zw1
      have zw1_0 : w.heap.size < w1.heap.size := by omega
      have cw1_0 := fun o => hw1.cell (p := ⟨w.heap.size, o, none⟩) (by first | omega | (simp <;> omega))
      have fw1_0 := fun o => hw1.frozen (p := ⟨w.heap.size, o, none⟩) (by first | omega | (simp <;> omega))
      have zw1_1 : w.heap.size + 1 < w1.heap.size := by omega
      have cw1_1 := fun o => hw1.cell (p := ⟨w.heap.size + 1, o, none⟩) (by first | omega | (simp <;> omega))
      have fw1_1 := fun o => hw1.frozen (p := ⟨w.heap.size + 1, o, none⟩) (by first | omega | (simp <;> omega))
      go_wp2_with fail
      refine (broken_any _ _).mono ?_
      rintro e w2 ⟨rfl, hw2⟩
      have zw2 := hw2.size
      try simp at zw2
      have zw2_0 : w.heap.size < w2.heap.size := by omega
      have cw2_0 := fun o => hw2.cell (p := ⟨w.heap.size, o, none⟩) (by first | omega | (simp <;> omega))
      have fw2_0 := fun o => hw2.frozen (p := ⟨w.heap.size, o, none⟩) (by first | omega | (simp <;> omega))
      have zw2_1 : w.heap.size + 1 < w2.heap.size := by omega
      have cw2_1 := fun o => hw2.cell (p := ⟨w.heap.size + 1, o, none⟩) (by first | omega | (simp <;> omega))
      have fw2_1 := fun o => hw2.frozen (p := ⟨w.heap.size + 1, o, none⟩) (by first | omega | (simp <;> omega))
      have zw2_2 : w1.heap.size < w2.heap.size := by omega
      have cw2_2 := fun o => hw2.cell (p := ⟨w1.heap.size, o, none⟩) (by first | omega | (simp <;> omega))
      have fw2_2 := fun o => hw2.frozen (p := ⟨w1.heap.size, o, none⟩) (by first | omega | (simp <;> omega))
      go_wp2_with fail
      exact bodyPost_ret (v := .tuple #[.string ⟨#[]⟩, .agg #[.string ⟨#[]⟩, .int .i64 4]]) (by simp [results, Try.results12, go_sem, *]) rfl ⟨rfl, (by repeat' (first | exact Below.refl _ _ | (refine Below.drew ?_) | (refine Below.alloc ?_ (by first | omega | (simp <;> omega)) _) | (refine Below.setCell ?_ (by first | omega | (simp <;> omega)) _) | (refine Below.trans ?_ (Below.mono (by assumption) (by first | omega | (simp <;> omega))))))⟩
    · rw [Vr.text_ok hx (by omega) (by omega)] at h
      have H := Lib.hid h
      clear hx h
      go_enter Try.func12, Try.ntmps12
      go_wp2_with fail
      refine (next_at s q e e1 v _ hs hx'.out).mono ?_
      rintro e w1 ⟨rfl, hw1⟩
      have zw1 := hw1.size
      try simp at zw1
      have zw1_0 : w.heap.size < w1.heap.size := by omega
      have cw1_0 := fun o => hw1.cell (p := ⟨w.heap.size, o, none⟩) (by first | omega | (simp <;> omega))
      have fw1_0 := fun o => hw1.frozen (p := ⟨w.heap.size, o, none⟩) (by first | omega | (simp <;> omega))
      have zw1_1 : w.heap.size + 1 < w1.heap.size := by omega
      have cw1_1 := fun o => hw1.cell (p := ⟨w.heap.size + 1, o, none⟩) (by first | omega | (simp <;> omega))
      have fw1_1 := fun o => hw1.frozen (p := ⟨w.heap.size + 1, o, none⟩) (by first | omega | (simp <;> omega))
      go_wp2_with fail
      refine (bytes_at q a r e1 e' v _ H.out).mono ?_
      rintro e w2 ⟨rfl, hw2⟩
      have zw2 := hw2.size
      try simp at zw2
      have zw2_0 : w.heap.size < w2.heap.size := by omega
      have cw2_0 := fun o => hw2.cell (p := ⟨w.heap.size, o, none⟩) (by first | omega | (simp <;> omega))
      have fw2_0 := fun o => hw2.frozen (p := ⟨w.heap.size, o, none⟩) (by first | omega | (simp <;> omega))
      have zw2_1 : w.heap.size + 1 < w2.heap.size := by omega
      have cw2_1 := fun o => hw2.cell (p := ⟨w.heap.size + 1, o, none⟩) (by first | omega | (simp <;> omega))
      have fw2_1 := fun o => hw2.frozen (p := ⟨w.heap.size + 1, o, none⟩) (by first | omega | (simp <;> omega))
      have zw2_2 : w1.heap.size < w2.heap.size := by omega
      have cw2_2 := fun o => hw2.cell (p := ⟨w1.heap.size, o, none⟩) (by first | omega | (simp <;> omega))
      have fw2_2 := fun o => hw2.frozen (p := ⟨w1.heap.size, o, none⟩) (by first | omega | (simp <;> omega))
      go_wp2_with fail
      exact bodyPost_ret (v := .tuple #[.string a, .agg #[.string r, .int .i64 e']]) (by simp [results, Try.results12, go_sem, *]) rfl ⟨rfl, (by repeat' (first | exact Below.refl _ _ | (refine Below.drew ?_) | (refine Below.alloc ?_ (by first | omega | (simp <;> omega)) _) | (refine Below.setCell ?_ (by first | omega | (simp <;> omega)) _) | (refine Below.trans ?_ (Below.mono (by assumption) (by first | omega | (simp <;> omega))))))⟩
end Go.Proofs.Ytahckijanjbagaa
