/- The rune that ends at a place; what is asked of a rune alone; edges. -/
import Derived.Test.YtaaheinjalakmaaRPlace
set_option linter.unusedVariables false
namespace Go.Proofs.Ytaaheinjalakmaa
open Go.RowKit

set_option maxHeartbeats 1600000 in
theorem ahead_any (s : ByteArray) (x : Int) (r a z : Nat) (b : Bool) (w : World) (hs : s.size ≤ 281474976710656) (x0 : -9223372036854775808 ≤ x) (x1 : x ≤ 9223372036854775807) (h : Rn.EndsT s x r a z b) :
    Calls Try.prog 14 #[.string s, .int .i64 x] w fun e w' => e = .returned (.tuple #[.agg #[.int .i32 (r : Int), .int .i64 (a : Int), .int .i64 (z : Int)], .bool b]) ∧ Below w.heap.size w w' := by
  obtain ⟨c, hc⟩ := Rn.placed_some s x
  cases c with
  | false =>
    obtain ⟨rfl, rfl, rfl, rfl⟩ := Rn.endsT_no h (fun p e hr hp => by subst e; exact Rn.placed_not hc (Rn.reach_next hr hp))
    have HC := Lib.hid hc
    clear hc h
    go_enter Try.func14, Try.ntmps14
    go_wp2_with fail
    refine (place_any s x false _ hs x0 x1 HC.out).mono ?_
    rintro e w1 ⟨rfl, hw1⟩
    have zw1 := hw1.size
    try simp at zw1
    have zw1_0 : w.heap.size < w1.heap.size := by omega
    have cw1_0_0 : w1.cell? ⟨w.heap.size, 0, none⟩ = some (.int .i32 0) := (hw1.cell (p := ⟨w.heap.size, 0, none⟩) (by first | omega | (simp <;> omega))).trans (by simp [go_sem, *])
    have cw1_0_1 : w1.cell? ⟨w.heap.size, 1, none⟩ = some (.int .i64 0) := (hw1.cell (p := ⟨w.heap.size, 1, none⟩) (by first | omega | (simp <;> omega))).trans (by simp [go_sem, *])
    have cw1_0_2 : w1.cell? ⟨w.heap.size, 2, none⟩ = some (.int .i64 0) := (hw1.cell (p := ⟨w.heap.size, 2, none⟩) (by first | omega | (simp <;> omega))).trans (by simp [go_sem, *])
    have fw1_0 := fun o => hw1.frozen (p := ⟨w.heap.size, o, none⟩) (by first | omega | (simp <;> omega))
    go_wp2_with fail
    exact bodyPost_ret (v := .tuple #[.agg #[.int .i32 0, .int .i64 0, .int .i64 0], .bool false]) (by simp [results, Try.results14, go_sem, *]) rfl ⟨rfl, (by repeat' (first | exact Below.refl _ _ | (refine Below.drew ?_) | (refine bdrewN ?_) | (refine Below.alloc ?_ (by first | omega | (simp <;> omega)) _) | (refine Below.setCell ?_ (by first | omega | (simp <;> omega)) _) | (refine Below.trans ?_ (Below.mono (by assumption) (by first | omega | (simp <;> omega))))))⟩
  | true =>
    obtain ⟨q, rfl, hq⟩ := hc.1 rfl
    have hqs := Rn.reach_le hq
    have HC := Lib.hid hc
    have H := Lib.hid h
    clear hc h
    go_enter Try.func14, Try.ntmps14
    go_wp2_with fail
    refine (place_any s _ true _ hs x0 x1 HC.out).mono ?_
    rintro e w1 ⟨rfl, hw1⟩
    have zw1 := hw1.size
    try simp at zw1
    have zw1_0 : w.heap.size < w1.heap.size := by omega
    have cw1_0_0 : w1.cell? ⟨w.heap.size, 0, none⟩ = some (.int .i32 0) := (hw1.cell (p := ⟨w.heap.size, 0, none⟩) (by first | omega | (simp <;> omega))).trans (by simp [go_sem, *])
    have cw1_0_1 : w1.cell? ⟨w.heap.size, 1, none⟩ = some (.int .i64 0) := (hw1.cell (p := ⟨w.heap.size, 1, none⟩) (by first | omega | (simp <;> omega))).trans (by simp [go_sem, *])
    have cw1_0_2 : w1.cell? ⟨w.heap.size, 2, none⟩ = some (.int .i64 0) := (hw1.cell (p := ⟨w.heap.size, 2, none⟩) (by first | omega | (simp <;> omega))).trans (by simp [go_sem, *])
    have fw1_0 := fun o => hw1.frozen (p := ⟨w.heap.size, o, none⟩) (by first | omega | (simp <;> omega))
    go_wp2_with fail
    have hT : Three w1 w.heap.size (.int .i32 0) (.int .i64 0) (.int .i64 0) := ⟨cw1_0_0, cw1_0_1, cw1_0_2, fun o => (fw1_0 o).trans (by simp [go_sem]), zw1_0⟩
    have hB : Below w.heap.size w w1 := ((Below.refl _ _).alloc (Nat.le_refl _) _).trans (hw1.mono (by simp))
    clear cw1_0_0 cw1_0_1 cw1_0_2 fw1_0 zw1 zw1_0 hw1
    go_loopw [6] (fun i wr => ∃ k : Nat, k ≤ q ∧ i = .int .i64 ((k : Int) - 1) ∧ Hid (∀ p, k ≤ p → p < q → ¬ Rn.Reach s p) ∧ Three wr w.heap.size (.int .i32 0) (.int .i64 0) (.int .i64 0) ∧ Below w.heap.size w wr) (fun i _ => (intOf i + 1).toNat)
    case atStart => exact ⟨q, Nat.le_refl _, rfl, Lib.hid fun p h1 h2 => by omega, hT, hB⟩
    case round =>
      obtain ⟨k, hk, rfl, hn, t0, b0⟩ := hrel
      clear hT hB
      by_cases hk0 : k = 0
      · subst hk0
        obtain ⟨rfl, rfl, rfl, rfl⟩ := Rn.back_none hn.out H.out
        have hm : (((0 : Nat) : Int) - 1) = -1 := rfl
        obtain ⟨t10, t11, t12, t13, t14⟩ := t0
        go_wp2_with fail
        exact bodyPost_ret (v := .tuple #[.agg #[.int .i32 0, .int .i64 0, .int .i64 0], .bool false]) (by simp [results, Try.results14, go_sem, *]) rfl ⟨rfl, (by repeat' (first | exact Below.refl _ _ | (refine Below.drew ?_) | (refine bdrewN ?_) | (refine Below.alloc ?_ (by first | omega | (simp <;> omega)) _) | (refine Below.setCell ?_ (by first | omega | (simp <;> omega)) _) | (refine Below.trans ?_ (Below.mono (by assumption) (by first | omega | (simp <;> omega))))))⟩
      · obtain ⟨j, rfl⟩ : ∃ j, k = j + 1 := ⟨k - 1, by omega⟩
        have hj : (((j + 1 : Nat) : Int) - 1) = (j : Int) := by omega
        have T0 := Lib.hid t0
        have tz := t0.2.2.2.2
        clear t0
        rw [hj]
        clear hj hk0
        by_cases hr : Rn.Reach s j
        · obtain ⟨rfl, rfl, rfl, rfl⟩ := Rn.back_hit hq (by omega) hr hn.out H.out
          have hb : Hid (Rn.BeginsT s ((a : Nat) : Int) (Rn.dR s a) a (Rn.dW s a) true) := Lib.hid ⟨_, .inl ⟨a, rfl, hr, by omega, rfl⟩, .inl ⟨_, rfl, rfl, rfl, rfl, rfl⟩⟩
          have HR := Lib.hid hr
          clear hr
          go_wp2_with fail
          refine (at_any s _ _ _ _ _ _ hs (by omega) (by omega) hb.out).mono ?_
          rintro e w2 ⟨rfl, hw2⟩
          obtain ⟨t10, t11, t12, t13, t14⟩ := T0.out.below hw2 tz
          have b2 : Below w.heap.size w w2 := b0.trans (hw2.mono b0.size)
          have zz := b2.size
          have z2 : w.heap.size < w2.heap.size := by have := hw2.size; omega
          go_wp2_with fail
          exact bodyPost_ret (v := .tuple #[.agg #[.int .i32 (Rn.dR s a : Int), .int .i64 (a : Int), .int .i64 (Rn.dW s a : Int)], .bool true]) (by simp [results, Try.results14, go_sem, *]) rfl ⟨rfl, (by repeat' (first | exact Below.refl _ _ | (refine Below.drew ?_) | (refine bdrewN ?_) | (refine Below.alloc ?_ (by first | omega | (simp <;> omega)) _) | (refine Below.setCell ?_ (by first | omega | (simp <;> omega)) _) | (refine Below.trans ?_ (Below.mono (by assumption) (by first | omega | (simp <;> omega))))))⟩
        · have hb : Hid (Rn.BeginsT s ((j : Nat) : Int) 0 0 0 false) := Lib.hid ⟨_, .inr ⟨rfl, fun p e hp _ => by obtain rfl : j = p := (by omega); exact hr hp⟩, .inr ⟨rfl, rfl, rfl, rfl, rfl⟩⟩
          have HR := Lib.hid hr
          clear hr
          go_wp2_with fail
          refine (at_any s _ _ _ _ _ _ hs (by omega) (by omega) hb.out).mono ?_
          rintro e w2 ⟨rfl, hw2⟩
          have t2 := Lib.hid ((T0.out.below hw2 tz).alloc (.cells #[.int .i32 0, .int .i64 0, .int .i64 0] 30))
          have b2 : Below w.heap.size w w2 := b0.trans (hw2.mono b0.size)
          go_wp2_with fail
          go_roundw
          case rel => exact ⟨j, by omega, rfl, Lib.hid fun p h1 h2 => by
            by_cases e : p = j
            · subst e; exact HR.out
            · exact hn.out p (by omega) h2, t2.out, b2.alloc b2.size _⟩
          case measure => simp [intOf]
theorem right_yes {r : Int} (h : (0 ≤ r ∧ r < 55296) ∨ (57343 < r ∧ r ≤ 1114111)) : Rn.rightB r = true := (Rn.right_iff r).2 h
theorem right_no {r : Int} (h : ¬ ((0 ≤ r ∧ r < 55296) ∨ (57343 < r ∧ r ≤ 1114111))) : Rn.rightB r = false := Bool.eq_false_iff.2 (fun k => h ((Rn.right_iff r).1 k))
theorem word_yes {r : Int} (h : (48 ≤ r ∧ r ≤ 57) ∨ (65 ≤ r ∧ r ≤ 90) ∨ (97 ≤ r ∧ r ≤ 122) ∨ r = 95) : Rn.wordB r = true := (Rn.word_iff r).2 h
theorem word_no {r : Int} (h : ¬ ((48 ≤ r ∧ r ≤ 57) ∨ (65 ≤ r ∧ r ≤ 90) ∨ (97 ≤ r ∧ r ≤ 122) ∨ r = 95)) : Rn.wordB r = false := Bool.eq_false_iff.2 (fun k => h ((Rn.word_iff r).1 k))
theorem right_cases (r : Int) : (r < 0 ∧ Rn.rightB r = false) ∨ ((0 ≤ r ∧ r < 55296) ∧ Rn.rightB r = true) ∨ ((55296 ≤ r ∧ r ≤ 57343) ∧ Rn.rightB r = false) ∨ ((57343 < r ∧ r ≤ 1114111) ∧ Rn.rightB r = true) ∨ (1114111 < r ∧ Rn.rightB r = false) := by
  rcases (show r < 0 ∨ (0 ≤ r ∧ r < 55296) ∨ (55296 ≤ r ∧ r ≤ 57343) ∨ (57343 < r ∧ r ≤ 1114111) ∨ 1114111 < r by omega) with h | h | h | h | h
  · exact .inl ⟨h, right_no (by omega)⟩
  · exact .inr (.inl ⟨h, right_yes (by omega)⟩)
  · exact .inr (.inr (.inl ⟨h, right_no (by omega)⟩))
  · exact .inr (.inr (.inr (.inl ⟨h, right_yes (by omega)⟩)))
  · exact .inr (.inr (.inr (.inr ⟨h, right_no (by omega)⟩)))
set_option maxHeartbeats 800000 in
theorem right_any (r : Int) (w : World) : Calls Try.prog 20 #[.int .i32 r] w fun e w' => e = .returned (.bool (Rn.rightB r)) ∧ w = w' := by
  rcases right_cases r with ⟨h, hv⟩ | ⟨⟨h, h'⟩, hv⟩ | ⟨⟨h, h'⟩, hv⟩ | ⟨⟨h, h'⟩, hv⟩ | ⟨h, hv⟩
  all_goals
    have HV := Lib.hid hv
    clear hv
    go_enter Try.func20, Try.ntmps20
    go_wp2_with fail
    go_ret
    refine ⟨ret_bool ?_, rfl⟩
    rw [HV.out] <;> (first | rfl | (simp; done) | (simp; omega))
theorem word_cases (r : Int) : (r < 48 ∧ Rn.wordB r = false) ∨ ((48 ≤ r ∧ r ≤ 57) ∧ Rn.wordB r = true) ∨ ((58 ≤ r ∧ r ≤ 64) ∧ Rn.wordB r = false) ∨ ((65 ≤ r ∧ r ≤ 90) ∧ Rn.wordB r = true) ∨ ((91 ≤ r ∧ r ≤ 94) ∧ Rn.wordB r = false) ∨ (r = 95 ∧ Rn.wordB r = true) ∨ ((96 ≤ r ∧ r ≤ 96) ∧ Rn.wordB r = false) ∨ ((97 ≤ r ∧ r ≤ 122) ∧ Rn.wordB r = true) ∨ (122 < r ∧ Rn.wordB r = false) := by
  rcases (show r < 48 ∨ (48 ≤ r ∧ r ≤ 57) ∨ (58 ≤ r ∧ r ≤ 64) ∨ (65 ≤ r ∧ r ≤ 90) ∨ (91 ≤ r ∧ r ≤ 94) ∨ r = 95 ∨ (96 ≤ r ∧ r ≤ 96) ∨ (97 ≤ r ∧ r ≤ 122) ∨ 122 < r by omega) with h | h | h | h | h | h | h | h | h
  · exact .inl ⟨h, word_no (by omega)⟩
  · exact .inr (.inl ⟨h, word_yes (by omega)⟩)
  · exact .inr (.inr (.inl ⟨h, word_no (by omega)⟩))
  · exact .inr (.inr (.inr (.inl ⟨h, word_yes (by omega)⟩)))
  · exact .inr (.inr (.inr (.inr (.inl ⟨h, word_no (by omega)⟩))))
  · exact .inr (.inr (.inr (.inr (.inr (.inl ⟨h, word_yes (by omega)⟩)))))
  · exact .inr (.inr (.inr (.inr (.inr (.inr (.inl ⟨h, word_no (by omega)⟩))))))
  · exact .inr (.inr (.inr (.inr (.inr (.inr (.inr (.inl ⟨h, word_yes (by omega)⟩)))))))
  · exact .inr (.inr (.inr (.inr (.inr (.inr (.inr (.inr ⟨h, word_no (by omega)⟩)))))))
set_option maxHeartbeats 1600000 in
theorem word_any (r : Int) (w : World) : Calls Try.prog 24 #[.int .i32 r] w fun e w' => e = .returned (.bool (Rn.wordB r)) ∧ w = w' := by
  rcases word_cases r with ⟨h, hv⟩ | ⟨⟨h, h'⟩, hv⟩ | ⟨⟨h, h'⟩, hv⟩ | ⟨⟨h, h'⟩, hv⟩ | ⟨⟨h, h'⟩, hv⟩ | ⟨rfl, hv⟩ | ⟨⟨h, h'⟩, hv⟩ | ⟨⟨h, h'⟩, hv⟩ | ⟨h, hv⟩
  all_goals
    have HV := Lib.hid hv
    clear hv
    try have hne : (r == 95) = false := by simp; omega
    go_enter Try.func24, Try.ntmps24
    go_wp2_with fail
    go_ret
    refine ⟨ret_bool ?_, rfl⟩
    rw [HV.out] <;> (first | rfl | (simp; done) | (simp; omega))
theorem put_any (r : Int) (w : World) : Calls Try.prog 22 #[.int .i32 r] w fun e w' => e = .returned (.string (Utf8.encode r)) ∧ w = w' := by
  go_enter Try.func22, Try.ntmps22
  go_wp2_with fail
  go_ret
  exact ⟨rfl, rfl⟩
set_option maxHeartbeats 1600000 in
theorem edge_any (s : ByteArray) (x : Int) (r a z r' a' z' : Nat) (b b' : Bool) (w : World) (hs : s.size ≤ 281474976710656) (x0 : -9223372036854775808 ≤ x) (x1 : x ≤ 9223372036854775807) (h : Rn.EndsT s x r a z b) (h' : Rn.BeginsT s x r' a' z' b') :
    Calls Try.prog 18 #[.string s, .int .i64 x] w fun e w' => e = .returned (.bool ((b && Rn.wordB r) != (b' && Rn.wordB r'))) ∧ Below w.heap.size w w' := by
  have H := Lib.hid h
  have H' := Lib.hid h'
  clear h h'
  cases b <;> cases b'
  all_goals
    go_enter Try.func18, Try.ntmps18
    go_wp2_with fail
    refine (ahead_any s _ _ _ _ _ _ hs x0 x1 H.out).mono ?_
    rintro e w1 ⟨rfl, hw1⟩
    have zw1 := hw1.size
    try simp at zw1
    go_wp2_with fail
    refine (at_any s _ _ _ _ _ _ hs x0 x1 H'.out).mono ?_
    rintro e w2 ⟨rfl, hw2⟩
    have zw2 := hw2.size
    try simp at zw2
    have zw2_0 : w1.heap.size < w2.heap.size := by omega
    have cw2_0 := fun o => hw2.cell (p := ⟨w1.heap.size, o, none⟩) (by first | omega | (simp <;> omega))
    have fw2_0 := fun o => hw2.frozen (p := ⟨w1.heap.size, o, none⟩) (by first | omega | (simp <;> omega))
    go_wp2_with fail
  · go_ret
    exact ⟨rfl, (by repeat' (first | exact Below.refl _ _ | (refine Below.drew ?_) | (refine bdrewN ?_) | (refine Below.alloc ?_ (by first | omega | (simp <;> omega)) _) | (refine Below.setCell ?_ (by first | omega | (simp <;> omega)) _) | (refine Below.trans ?_ (Below.mono (by assumption) (by first | omega | (simp <;> omega))))))⟩
  · refine (word_any _ _).mono ?_
    rintro e w' ⟨rfl, rfl⟩
    go_wp2_with fail
    go_ret
    exact ⟨ret_bool (by simp), (by repeat' (first | exact Below.refl _ _ | (refine Below.drew ?_) | (refine bdrewN ?_) | (refine Below.alloc ?_ (by first | omega | (simp <;> omega)) _) | (refine Below.setCell ?_ (by first | omega | (simp <;> omega)) _) | (refine Below.trans ?_ (Below.mono (by assumption) (by first | omega | (simp <;> omega))))))⟩
  · refine (word_any _ _).mono ?_
    rintro e w' ⟨rfl, rfl⟩
    go_wp2_with fail
    go_ret
    exact ⟨ret_bool (by simp), (by repeat' (first | exact Below.refl _ _ | (refine Below.drew ?_) | (refine bdrewN ?_) | (refine Below.alloc ?_ (by first | omega | (simp <;> omega)) _) | (refine Below.setCell ?_ (by first | omega | (simp <;> omega)) _) | (refine Below.trans ?_ (Below.mono (by assumption) (by first | omega | (simp <;> omega))))))⟩
  · refine (word_any _ _).mono ?_
    rintro e w' ⟨rfl, rfl⟩
    go_wp2_with fail
    refine (word_any _ _).mono ?_
    rintro e w' ⟨rfl, rfl⟩
    go_wp2_with fail
    go_ret
    exact ⟨ret_bool (by simp; cases Rn.wordB r <;> cases Rn.wordB r' <;> rfl), (by repeat' (first | exact Below.refl _ _ | (refine Below.drew ?_) | (refine bdrewN ?_) | (refine Below.alloc ?_ (by first | omega | (simp <;> omega)) _) | (refine Below.setCell ?_ (by first | omega | (simp <;> omega)) _) | (refine Below.trans ?_ (Below.mono (by assumption) (by first | omega | (simp <;> omega))))))⟩
end Go.Proofs.Ytaaheinjalakmaa
