/- Padding; the document's own reader. -/
import Derived.Test.YtahckijanjbagaaRead
set_option linter.unusedVariables false
namespace Go.Proofs.Ytahckijanjbagaa
open Go.RowKit

theorem pret {s r q : ByteArray} {e n e' e2 : Int} (h : Vr.pad s e n = (r, e')) (h2 : Vr.pad s e n = (q, e2)) :
    Ending.returned (.agg #[.string q, .int .i64 e2]) = .returned (.agg #[.string r, .int .i64 e']) := by
  rw [h] at h2; simp only [Prod.mk.injEq] at h2; rw [h2.1, h2.2]
theorem u8_zero {a : ByteArray} {k : Nat} (h : k < a.size) (h0 : a[k].toNat = 0) (hz : Vr.zeros (a.data.toList.take k) = true) : Vr.zeros (a.data.toList.take (k + 1)) = true :=
  Vr.zeros_take hz (by simpa using h) h0
theorem u8_not {a : ByteArray} {k : Nat} (h : k < a.size) (h0 : ¬ a[k].toNat = 0) : Vr.zeros a.data.toList = false :=
  Vr.zeros_not (by simpa using h) h0
theorem zeros_all {a : ByteArray} {k : Nat} (h : k = a.size) (hz : Vr.zeros (a.data.toList.take k) = true) : Vr.zeros a.data.toList = true := by
  rwa [List.take_of_length_le (by simp; omega)] at hz
theorem pad_at (s r : ByteArray) (e e' n : Int) (w : World) (hs : s.size ≤ maxLen) (h : Vr.pad s e n = (r, e')) :
    Calls Try.prog 16 #[.agg #[.string s, .int .i64 e], .int .i64 n] w fun x w' => x = .returned (.agg #[.string r, .int .i64 e']) ∧ Below w.heap.size w w' := by
  generalize hx : Vr.bytes s e n = x
  obtain ⟨a, q, e1⟩ := x
  obtain ⟨b1, b2⟩ := Vr.bytes_bd hx
  have HX := Lib.hid hx
  have H := Lib.hid h
  have hs' : a.size ≤ maxLen := by omega
  clear hx h
  unfold maxLen at hs'
  go_enter Try.func16, Try.ntmps16
  go_wp2_with fail
  refine (bytes_at s a q e e1 n _ HX.out).mono ?_
  rintro e w1 ⟨rfl, hw1⟩
  have zw1 := hw1.size
  try simp at zw1
  have zw1_0 : w.heap.size < w1.heap.size := by omega
  have cw1_0 := fun o => hw1.cell (p := ⟨w.heap.size, o, none⟩) (by first | omega | (simp <;> omega))
  have fw1_0 := fun o => hw1.frozen (p := ⟨w.heap.size, o, none⟩) (by first | omega | (simp <;> omega))
  have zw1_1 : w.heap.size + 1 < w1.heap.size := by omega
  have cw1_1 := fun o => hw1.cell (p := ⟨w.heap.size + 1, o, none⟩) (by first | omega | (simp <;> omega))
  have fw1_1 := fun o => hw1.frozen (p := ⟨w.heap.size + 1, o, none⟩) (by first | omega | (simp <;> omega))
  go_wp2_with fail
  go_loop [16] (fun i => ∃ k : Nat, k ≤ a.size ∧ Vr.zeros (a.data.toList.take k) = true ∧ i = .int .i64 k) (fun i => a.size - (intOf i).toNat)
  case atStart => exact ⟨0, Nat.zero_le _, rfl, rfl⟩
  case round =>
    obtain ⟨k, hk, hz, rfl⟩ := hrel
    have HZ := Lib.hid hz
    clear hz
    by_cases hlt : k < a.size
    · by_cases h0 : a[k].toNat = 0
      · have h1 : (a[k].toNat : Int) ≤ 0 := by omega
        have H0 := Lib.hid h0
        clear h0
        go_wp2_with fail
        go_round
        case rel => exact ⟨k + 1, by omega, u8_zero hlt H0.out HZ.out, by go_num⟩
        case measure => simp [intOf]; omega
      · have h1 : 0 < (a[k].toNat : Int) := by omega
        have H0 := Lib.hid (u8_not hlt h0)
        clear h0
        go_wp2_with fail
        refine (broken_any _ _).mono ?_
        rintro e w2 ⟨rfl, hw2⟩
        have zw2 := hw2.size
        try simp at zw2
        have zw2_0 : w.heap.size < w2.heap.size := by omega
        have cw2_0 := fun o => hw2.cell (p := ⟨w.heap.size, o, none⟩) (by first | omega | (simp <;> omega))
        have fw2_0 := fun o => hw2.frozen (p := ⟨w.heap.size, o, none⟩) (by first | omega | (simp <;> omega))
        have zw2_1 : w.heap.size + 1 < w2.heap.size := by omega
        have cw2_1 := fun o => hw2.cell (p := ⟨w.heap.size + 1, o, none⟩) (by first | omega | (simp <;> omega))
        have fw2_1 := fun o => hw2.frozen (p := ⟨w.heap.size + 1, o, none⟩) (by first | omega | (simp <;> omega))
        have zw2_2 : w1.heap.size < w2.heap.size := by omega
        have cw2_2 := fun o => hw2.cell (p := ⟨w1.heap.size, o, none⟩) (by first | omega | (simp <;> omega))
        have fw2_2 := fun o => hw2.frozen (p := ⟨w1.heap.size, o, none⟩) (by first | omega | (simp <;> omega))
        go_wp2_with fail
        exact bodyPost_ret (v := .agg #[.string ⟨#[]⟩, .int .i64 9]) (by simp [results, Try.results16, go_sem, *]) rfl ⟨pret H.out (Vr.pad_bad HX.out H0.out), (by repeat' (first | exact Below.refl _ _ | (refine Below.drew ?_) | (refine Below.alloc ?_ (by first | omega | (simp <;> omega)) _) | (refine Below.setCell ?_ (by first | omega | (simp <;> omega)) _) | (refine Below.trans ?_ (Below.mono (by assumption) (by first | omega | (simp <;> omega))))))⟩
    · have H0 := Lib.hid (zeros_all (show k = a.size by omega) HZ.out)
      go_wp2_with fail
      exact bodyPost_ret (v := .agg #[.string q, .int .i64 e1]) (by simp [results, Try.results16, go_sem, *]) rfl ⟨pret H.out (Vr.pad_ok HX.out H0.out), (by repeat' (first | exact Below.refl _ _ | (refine Below.drew ?_) | (refine Below.alloc ?_ (by first | omega | (simp <;> omega)) _) | (refine Below.setCell ?_ (by first | omega | (simp <;> omega)) _) | (refine Below.trans ?_ (Below.mono (by assumption) (by first | omega | (simp <;> omega))))))⟩

-- the document's own answer
theorem rfail_err (s : ByteArray) (e n : Int) (w : World) (he : ¬ e = 0) :
    Calls Try.prog 22 #[.agg #[.string s, .int .i64 e], .int .i64 n] w fun x w' => x = .returned (.agg #[.string ⟨#[]⟩, .int .i64 e]) ∧ Below w.heap.size w w' := by
  go_enter Try.func22, Try.ntmps22
  go_wp2_with fail
  exact bodyPost_ret (v := .agg #[.string ⟨#[]⟩, .int .i64 e]) (by simp [results, Try.results22, go_sem, *]) rfl ⟨rfl, (by repeat' (first | exact Below.refl _ _ | (refine Below.drew ?_) | (refine Below.alloc ?_ (by first | omega | (simp <;> omega)) _) | (refine Below.setCell ?_ (by first | omega | (simp <;> omega)) _) | (refine Below.trans ?_ (Below.mono (by assumption) (by first | omega | (simp <;> omega))))))⟩
theorem rfail_ok (s : ByteArray) (n : Int) (w : World) :
    Calls Try.prog 22 #[.agg #[.string s, .int .i64 0], .int .i64 n] w fun x w' => x = .returned (.agg #[.string ⟨#[]⟩, .int .i64 n]) ∧ Below w.heap.size w w' := by
  go_enter Try.func22, Try.ntmps22
  go_wp2_with fail
  exact bodyPost_ret (v := .agg #[.string ⟨#[]⟩, .int .i64 n]) (by simp [results, Try.results22, go_sem, *]) rfl ⟨rfl, (by repeat' (first | exact Below.refl _ _ | (refine Below.drew ?_) | (refine Below.alloc ?_ (by first | omega | (simp <;> omega)) _) | (refine Below.setCell ?_ (by first | omega | (simp <;> omega)) _) | (refine Below.trans ?_ (Below.mono (by assumption) (by first | omega | (simp <;> omega))))))⟩
theorem rend_any (s : ByteArray) (e : Int) (w : World) :
    Calls Try.prog 19 #[.agg #[.string s, .int .i64 e]] w fun x w' => x = .returned (.int .i64 (Vr.fin s e)) ∧ Below w.heap.size w w' := by
  by_cases he : e = 0
  · subst he
    by_cases hs : s.toList = []
    · have hf : Vr.fin s 0 = 0 := Vr.fin_none hs
      have hi : s.toList.isEmpty = true := by rw [hs]; rfl
      rw [hf]
      clear hf
      go_enter Try.func19, Try.ntmps19
      go_wp2_with fail
      go_ret
      exact ⟨rfl, (by repeat' (first | exact Below.refl _ _ | (refine Below.drew ?_) | (refine Below.alloc ?_ (by first | omega | (simp <;> omega)) _) | (refine Below.setCell ?_ (by first | omega | (simp <;> omega)) _) | (refine Below.trans ?_ (Below.mono (by assumption) (by first | omega | (simp <;> omega))))))⟩
    · have hf : Vr.fin s 0 = 8 := Vr.fin_some hs
      have hi : s.toList.isEmpty = false := by simpa using hs
      rw [hf]
      clear hf
      go_enter Try.func19, Try.ntmps19
      go_wp2_with fail
      go_ret
      exact ⟨rfl, (by repeat' (first | exact Below.refl _ _ | (refine Below.drew ?_) | (refine Below.alloc ?_ (by first | omega | (simp <;> omega)) _) | (refine Below.setCell ?_ (by first | omega | (simp <;> omega)) _) | (refine Below.trans ?_ (Below.mono (by assumption) (by first | omega | (simp <;> omega))))))⟩
  · have hf : Vr.fin s e = e := Vr.fin_err he
    rw [hf]
    clear hf
    go_enter Try.func19, Try.ntmps19
    go_wp2_with fail
    go_ret
    exact ⟨rfl, (by repeat' (first | exact Below.refl _ _ | (refine Below.drew ?_) | (refine Below.alloc ?_ (by first | omega | (simp <;> omega)) _) | (refine Below.setCell ?_ (by first | omega | (simp <;> omega)) _) | (refine Below.trans ?_ (Below.mono (by assumption) (by first | omega | (simp <;> omega))))))⟩
theorem rbytes_at (s a r : ByteArray) (e e' n : Int) (w : World) (h : Vr.bytes s e n = (a, r, e')) :
    Calls Try.prog 15 #[.agg #[.string s, .int .i64 e], .int .i64 n] w fun x w' => x = .returned (.tuple #[.string a, .agg #[.string r, .int .i64 e']]) ∧ Below w.heap.size w w' := by
  by_cases he : e = 0
  · subst he
    by_cases hn : n < 0 ∨ (s.size : Int) < n
    · rw [Vr.bytes_short s hn] at h; simp only [Prod.mk.injEq] at h; obtain ⟨rfl, rfl, rfl⟩ := h
      rcases hn with hn | hn
      all_goals
        go_enter Try.func15, Try.ntmps15
        go_wp2_with fail
        refine (rfail_ok _ _ _).mono ?_
        rintro e w1 ⟨rfl, hw1⟩
        have zw1 := hw1.size
        try simp at zw1
        have zw1_0 : w.heap.size < w1.heap.size := by omega
        have cw1_0 := fun o => hw1.cell (p := ⟨w.heap.size, o, none⟩) (by first | omega | (simp <;> omega))
        have fw1_0 := fun o => hw1.frozen (p := ⟨w.heap.size, o, none⟩) (by first | omega | (simp <;> omega))
        have zw1_1 : w.heap.size + 1 < w1.heap.size := by omega
        have cw1_1 := fun o => hw1.cell (p := ⟨w.heap.size + 1, o, none⟩) (by first | omega | (simp <;> omega))
        have fw1_1 := fun o => hw1.frozen (p := ⟨w.heap.size + 1, o, none⟩) (by first | omega | (simp <;> omega))
        go_wp2_with fail
        exact bodyPost_ret (v := .tuple #[.string ⟨#[]⟩, .agg #[.string ⟨#[]⟩, .int .i64 4]]) (by simp [results, Try.results15, go_sem, *]) rfl ⟨rfl, (by repeat' (first | exact Below.refl _ _ | (refine Below.drew ?_) | (refine Below.alloc ?_ (by first | omega | (simp <;> omega)) _) | (refine Below.setCell ?_ (by first | omega | (simp <;> omega)) _) | (refine Below.trans ?_ (Below.mono (by assumption) (by first | omega | (simp <;> omega))))))⟩
    · rw [Vr.bytes_zero s (by omega) (by omega)] at h; simp only [Prod.mk.injEq] at h; obtain ⟨rfl, rfl, rfl⟩ := h
      have h0 : 0 ≤ n := by omega
      have h1 : n ≤ (s.size : Int) := by omega
      clear hn
      go_enter Try.func15, Try.ntmps15
      go_wp2_with fail
      go_region
      go_wp2_with fail
      exact bodyPost_ret (v := .tuple #[.string (s.extract 0 n.toNat), .agg #[.string (s.extract n.toNat s.size), .int .i64 0]]) (by simp [results, Try.results15, go_sem, *]) rfl ⟨rfl, (by repeat' (first | exact Below.refl _ _ | (refine Below.drew ?_) | (refine Below.alloc ?_ (by first | omega | (simp <;> omega)) _) | (refine Below.setCell ?_ (by first | omega | (simp <;> omega)) _) | (refine Below.trans ?_ (Below.mono (by assumption) (by first | omega | (simp <;> omega))))))⟩
  · rw [Vr.bytes_err s n he] at h; simp only [Prod.mk.injEq] at h; obtain ⟨rfl, rfl, rfl⟩ := h
    go_enter Try.func15, Try.ntmps15
    go_wp2_with fail
    refine (rfail_err _ _ _ _ he).mono ?_
    rintro e w1 ⟨rfl, hw1⟩
    have zw1 := hw1.size
    try simp at zw1
    have zw1_0 : w.heap.size < w1.heap.size := by omega
    have cw1_0 := fun o => hw1.cell (p := ⟨w.heap.size, o, none⟩) (by first | omega | (simp <;> omega))
    have fw1_0 := fun o => hw1.frozen (p := ⟨w.heap.size, o, none⟩) (by first | omega | (simp <;> omega))
    have zw1_1 : w.heap.size + 1 < w1.heap.size := by omega
    have cw1_1 := fun o => hw1.cell (p := ⟨w.heap.size + 1, o, none⟩) (by first | omega | (simp <;> omega))
    have fw1_1 := fun o => hw1.frozen (p := ⟨w.heap.size + 1, o, none⟩) (by first | omega | (simp <;> omega))
    go_wp2_with fail
    exact bodyPost_ret (v := .tuple #[.string ⟨#[]⟩, .agg #[.string ⟨#[]⟩, .int .i64 e]]) (by simp [results, Try.results15, go_sem, *]) rfl ⟨rfl, (by repeat' (first | exact Below.refl _ _ | (refine Below.drew ?_) | (refine Below.alloc ?_ (by first | omega | (simp <;> omega)) _) | (refine Below.setCell ?_ (by first | omega | (simp <;> omega)) _) | (refine Below.trans ?_ (Below.mono (by assumption) (by first | omega | (simp <;> omega))))))⟩
theorem rpad_at (s r : ByteArray) (e e' n : Int) (w : World) (hs : s.size ≤ maxLen) (h : Vr.pad s e n = (r, e')) :
    Calls Try.prog 17 #[.agg #[.string s, .int .i64 e], .int .i64 n] w fun x w' => x = .returned (.agg #[.string r, .int .i64 e']) ∧ Below w.heap.size w w' := by
  generalize hx : Vr.bytes s e n = x
  obtain ⟨a, q, e1⟩ := x
  obtain ⟨b1, b2⟩ := Vr.bytes_bd hx
  have hz1 : ∀ k (hk : k < a.size), ¬ e1 = 0 → False := by
    intro k hk he
    have := Vr.bytes_zero_of hx he
    rw [this] at hk; exact absurd hk (by simp [ByteArray.size])
  have Z1 := Lib.hid hz1
  have HX := Lib.hid hx
  have H := Lib.hid h
  have hs' : a.size ≤ maxLen := by omega
  clear hx h hz1
  unfold maxLen at hs'
  go_enter Try.func17, Try.ntmps17
  go_wp2_with fail
  refine (rbytes_at s a q e e1 n _ HX.out).mono ?_
  rintro e w1 ⟨rfl, hw1⟩
  have zw1 := hw1.size
  try simp at zw1
  have zw1_0 : w.heap.size < w1.heap.size := by omega
  have cw1_0 := fun o => hw1.cell (p := ⟨w.heap.size, o, none⟩) (by first | omega | (simp <;> omega))
  have fw1_0 := fun o => hw1.frozen (p := ⟨w.heap.size, o, none⟩) (by first | omega | (simp <;> omega))
  have zw1_1 : w.heap.size + 1 < w1.heap.size := by omega
  have cw1_1 := fun o => hw1.cell (p := ⟨w.heap.size + 1, o, none⟩) (by first | omega | (simp <;> omega))
  have fw1_1 := fun o => hw1.frozen (p := ⟨w.heap.size + 1, o, none⟩) (by first | omega | (simp <;> omega))
  go_wp2_with fail
  go_loop [7] (fun i => ∃ k : Nat, k ≤ a.size ∧ Vr.zeros (a.data.toList.take k) = true ∧ i = .int .i64 k) (fun i => a.size - (intOf i).toNat)
  case atStart => exact ⟨0, Nat.zero_le _, rfl, rfl⟩
  case round =>
    obtain ⟨k, hk, hz, rfl⟩ := hrel
    have HZ := Lib.hid hz
    clear hz
    by_cases hlt : k < a.size
    · by_cases h0 : a[k].toNat = 0
      · have h1 : (a[k].toNat : Int) ≤ 0 := by omega
        have H0 := Lib.hid h0
        clear h0
        go_wp2_with fail
        go_round
        case rel => exact ⟨k + 1, by omega, u8_zero hlt H0.out HZ.out, by go_num⟩
        case measure => simp [intOf]; omega
      · have h1 : 0 < (a[k].toNat : Int) := by omega
        have H0 := Lib.hid (u8_not hlt h0)
        clear h0
        by_cases he1 : e1 = 0
        · subst he1
          go_wp2_with fail
          refine (rfail_ok _ _ _).mono ?_
          rintro e w2 ⟨rfl, hw2⟩
          have zw2 := hw2.size
          try simp at zw2
          have zw2_0 : w.heap.size < w2.heap.size := by omega
          have cw2_0 := fun o => hw2.cell (p := ⟨w.heap.size, o, none⟩) (by first | omega | (simp <;> omega))
          have fw2_0 := fun o => hw2.frozen (p := ⟨w.heap.size, o, none⟩) (by first | omega | (simp <;> omega))
          have zw2_1 : w.heap.size + 1 < w2.heap.size := by omega
          have cw2_1 := fun o => hw2.cell (p := ⟨w.heap.size + 1, o, none⟩) (by first | omega | (simp <;> omega))
          have fw2_1 := fun o => hw2.frozen (p := ⟨w.heap.size + 1, o, none⟩) (by first | omega | (simp <;> omega))
          have zw2_2 : w1.heap.size < w2.heap.size := by omega
          have cw2_2 := fun o => hw2.cell (p := ⟨w1.heap.size, o, none⟩) (by first | omega | (simp <;> omega))
          have fw2_2 := fun o => hw2.frozen (p := ⟨w1.heap.size, o, none⟩) (by first | omega | (simp <;> omega))
          go_wp2_with fail
          exact bodyPost_ret (v := .agg #[.string ⟨#[]⟩, .int .i64 9]) (by simp [results, Try.results17, go_sem, *]) rfl ⟨pret H.out (Vr.pad_bad HX.out H0.out), (by repeat' (first | exact Below.refl _ _ | (refine Below.drew ?_) | (refine Below.alloc ?_ (by first | omega | (simp <;> omega)) _) | (refine Below.setCell ?_ (by first | omega | (simp <;> omega)) _) | (refine Below.trans ?_ (Below.mono (by assumption) (by first | omega | (simp <;> omega))))))⟩
        · exact (Z1.out k hlt he1).elim
    · have H0 := Lib.hid (zeros_all (show k = a.size by omega) HZ.out)
      go_wp2_with fail
      exact bodyPost_ret (v := .agg #[.string q, .int .i64 e1]) (by simp [results, Try.results17, go_sem, *]) rfl ⟨pret H.out (Vr.pad_ok HX.out H0.out), (by repeat' (first | exact Below.refl _ _ | (refine Below.drew ?_) | (refine Below.alloc ?_ (by first | omega | (simp <;> omega)) _) | (refine Below.setCell ?_ (by first | omega | (simp <;> omega)) _) | (refine Below.trans ?_ (Below.mono (by assumption) (by first | omega | (simp <;> omega))))))⟩
end Go.Proofs.Ytahckijanjbagaa
