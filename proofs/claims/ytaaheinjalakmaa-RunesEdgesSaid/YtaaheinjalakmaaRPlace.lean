/- Places, and the runes that begin and end there. -/
import Derived.Test.YtaaheinjalakmaaRFirst
set_option linter.unusedVariables false
namespace Go.Proofs.Ytaaheinjalakmaa
open Go.RowKit

theorem first_at (s : ByteArray) (p : Nat) (w : World) (hs : s.size ≤ 281474976710656) (hp : p < s.size) :
    Calls Try.prog 28 #[.string s, .int .i64 (p : Int)] w fun e w' => e = .returned (.agg #[.int .i32 (Rn.dR s p : Int), .int .i64 (p : Int), .int .i64 (Rn.dW s p : Int)]) ∧ Below w.heap.size w w' := first_any s p w hs hp
theorem field_0 (x y z : Value) (w : World) : (Instr.field 30 (.agg #[x, y, z]) 0).run Try.prog w = .ok x w := by kernel_rfl
theorem field_1 (x y z : Value) (w : World) : (Instr.field 30 (.agg #[x, y, z]) 1).run Try.prog w = .ok y w := by kernel_rfl
theorem field_2 (x y z : Value) (w : World) : (Instr.field 30 (.agg #[x, y, z]) 2).run Try.prog w = .ok z w := by kernel_rfl
set_option maxHeartbeats 1600000 in
theorem place_any (s : ByteArray) (x : Int) (b : Bool) (w : World) (hs : s.size ≤ 281474976710656) (x0 : -9223372036854775808 ≤ x) (x1 : x ≤ 9223372036854775807) (h : Rn.Placed s x b) :
    Calls Try.prog 16 #[.string s, .int .i64 x] w fun e w' => e = .returned (.bool b) ∧ Below w.heap.size w w' := by
  rcases (show x < 0 ∨ (s.size : Int) < x ∨ (0 ≤ x ∧ x ≤ (s.size : Int)) by omega) with hx | hx | ⟨h0, h1⟩
  · obtain rfl := Rn.placed_out h (.inl hx)
    go_enter Try.func16, Try.ntmps16
    go_wp2_with fail
    go_ret
    exact ⟨rfl, (by repeat' (first | exact Below.refl _ _ | (refine Below.drew ?_) | (refine bdrewN ?_) | (refine Below.alloc ?_ (by first | omega | (simp <;> omega)) _) | (refine Below.setCell ?_ (by first | omega | (simp <;> omega)) _) | (refine Below.trans ?_ (Below.mono (by assumption) (by first | omega | (simp <;> omega))))))⟩
  · obtain rfl := Rn.placed_out h (.inr hx)
    have hx0 : (0 : Int) ≤ x := by omega
    go_enter Try.func16, Try.ntmps16
    go_wp2_with fail
    go_ret
    exact ⟨rfl, (by repeat' (first | exact Below.refl _ _ | (refine Below.drew ?_) | (refine bdrewN ?_) | (refine Below.alloc ?_ (by first | omega | (simp <;> omega)) _) | (refine Below.setCell ?_ (by first | omega | (simp <;> omega)) _) | (refine Below.trans ?_ (Below.mono (by assumption) (by first | omega | (simp <;> omega))))))⟩
  · obtain ⟨q, rfl⟩ : ∃ q : Nat, x = q := ⟨x.toNat, by omega⟩
    have H := Lib.hid h
    clear h
    have f2 := field_2
    go_enter Try.func16, Try.ntmps16
    go_wp2_with fail
    all_goals
      go_loopw [5] (fun i wr => ∃ k : Nat, q ≤ k + 3 ∧ k ≤ q ∧ i = .int .i64 (k : Int) ∧ Hid (∀ p, p < k → q ≤ p + 3 → p + Rn.dW s p ≤ q) ∧ Below w.heap.size w wr) (fun i _ => q - (intOf i).toNat)
      case atStart => first | exact ⟨q - 3, by omega, by omega, val_int (by omega), Lib.hid fun p h1 h2 => by omega, Below.refl _ _⟩ | exact ⟨0, by omega, by omega, rfl, Lib.hid fun p h1 h2 => by omega, Below.refl _ _⟩
      case round =>
        obtain ⟨k, hk, hk', rfl, hb, bl⟩ := hrel
        by_cases hlt : k < q
        · have hks : k < s.size := by omega
          by_cases hw : q < k + Rn.dW s k
          · have hbf := Rn.placed_no H.out hlt hw (by omega)
            have HF := Lib.hid hbf
            clear hbf
            have hw' : (q : Int) < (k : Int) + (Rn.dW s k : Int) := by omega
            have hwd := Rn.dW_le s k hks
            go_wp2_with fail
            refine (first_at s k _ hs hks).mono ?_
            rintro e w1 ⟨rfl, hw1⟩
            have zw1 := hw1.size
            try simp at zw1
            go_wp2_with fail
            go_ret
            exact ⟨ret_bool HF.out.symm, bl.trans (hw1.mono bl.size)⟩
          · have hw' : ¬ (q : Int) < (k : Int) + (Rn.dW s k : Int) := by omega
            have hwd := Rn.dW_le s k hks
            go_wp2_with fail
            refine (first_at s k _ hs hks).mono ?_
            rintro e w1 ⟨rfl, hw1⟩
            have zw1 := hw1.size
            try simp at zw1
            go_wp2_with fail
            go_roundw
            case rel => exact ⟨k + 1, by omega, by omega, by go_num, Lib.hid fun p h1 h2 => by
              by_cases e : p = k
              · subst e; omega
              · exact hb.out p (by omega) h2, bl.trans (hw1.mono bl.size)⟩
            case measure => simp [intOf]; omega
        · have hkq : k = q := by omega
          subst hkq
          have hbt := Rn.placed_yes H.out (by omega) hb.out
          have HF := Lib.hid hbt
          clear hbt
          go_wp2_with fail
          go_ret
          exact ⟨ret_bool HF.out.symm, bl⟩

def Tl (r a z : Nat) (b : Bool) : Value := .tuple #[.agg #[.int .i32 (r : Int), .int .i64 (a : Int), .int .i64 (z : Int)], .bool b]
set_option maxHeartbeats 1600000 in
theorem at_any (s : ByteArray) (x : Int) (r a z : Nat) (b : Bool) (w : World) (hs : s.size ≤ 281474976710656) (x0 : -9223372036854775808 ≤ x) (x1 : x ≤ 9223372036854775807) (h : Rn.BeginsT s x r a z b) :
    Calls Try.prog 12 #[.string s, .int .i64 x] w fun e w' => e = .returned (.tuple #[.agg #[.int .i32 (r : Int), .int .i64 (a : Int), .int .i64 (z : Int)], .bool b]) ∧ Below w.heap.size w w' := by
  by_cases hx : x = (s.size : Int)
  · obtain ⟨rfl, rfl, rfl, rfl⟩ := Rn.beginsT_no h (fun p e _ hp => by omega)
    subst hx
    go_enter Try.func12, Try.ntmps12
    go_wp2_with fail
    exact bodyPost_ret (v := .tuple #[.agg #[.int .i32 0, .int .i64 0, .int .i64 0], .bool false]) (by simp [results, Try.results12, go_sem]) rfl ⟨rfl, (by repeat' (first | exact Below.refl _ _ | (refine Below.drew ?_) | (refine bdrewN ?_) | (refine Below.alloc ?_ (by first | omega | (simp <;> omega)) _) | (refine Below.setCell ?_ (by first | omega | (simp <;> omega)) _) | (refine Below.trans ?_ (Below.mono (by assumption) (by first | omega | (simp <;> omega))))))⟩
  · obtain ⟨c, hc⟩ := Rn.placed_some s x
    cases c with
    | false =>
      obtain ⟨rfl, rfl, rfl, rfl⟩ := Rn.beginsT_no h (fun p e hr _ => by subst e; exact Rn.placed_not hc hr)
      have HC := Lib.hid hc
      clear hc h
      go_enter Try.func12, Try.ntmps12
      go_wp2_with fail
      refine (place_any s x false _ hs x0 x1 HC.out).mono ?_
      rintro e w1 ⟨rfl, hw1⟩
      have zw1 := hw1.size
      try simp at zw1
      have zw1_0 : w.heap.size < w1.heap.size := by omega
      have cw1_0_0 : w1.cell? ⟨w.heap.size, 0, none⟩ = some (.int .i32 0) := (hw1.cell (p := ⟨w.heap.size, 0, none⟩) (by first | omega | (simp <;> omega))).trans (by simp [go_sem, *])
      have cw1_0_1 : w1.cell? ⟨w.heap.size, 1, none⟩ = some (.int .i64 0) := (hw1.cell (p := ⟨w.heap.size, 1, none⟩) (by first | omega | (simp <;> omega))).trans (by simp [go_sem, *])
      have cw1_0_2 : w1.cell? ⟨w.heap.size, 2, none⟩ = some (.int .i64 0) := (hw1.cell (p := ⟨w.heap.size, 2, none⟩) (by first | omega | (simp <;> omega))).trans (by simp [go_sem, *])
      have fw1_0 := fun o => hw1.frozen (p := ⟨w.heap.size, o, none⟩) (by first | omega | (simp <;> omega))
      go_wp2_with fail
      exact bodyPost_ret (v := .tuple #[.agg #[.int .i32 0, .int .i64 0, .int .i64 0], .bool false]) (by simp [results, Try.results12, go_sem, *]) rfl ⟨rfl, (by repeat' (first | exact Below.refl _ _ | (refine Below.drew ?_) | (refine bdrewN ?_) | (refine Below.alloc ?_ (by first | omega | (simp <;> omega)) _) | (refine Below.setCell ?_ (by first | omega | (simp <;> omega)) _) | (refine Below.trans ?_ (Below.mono (by assumption) (by first | omega | (simp <;> omega))))))⟩
    | true =>
      obtain ⟨p, rfl, hr⟩ := hc.1 rfl
      have hp : p < s.size := by have := Rn.reach_le hr; omega
      obtain ⟨rfl, rfl, rfl, rfl⟩ := Rn.beginsT_yes h rfl hr hp
      have HC := Lib.hid hc
      clear hc h
      go_enter Try.func12, Try.ntmps12
      go_wp2_with fail
      refine (place_any s _ true _ hs x0 x1 HC.out).mono ?_
      rintro e w1 ⟨rfl, hw1⟩
      have zw1 := hw1.size
      try simp at zw1
      have zw1_0 : w.heap.size < w1.heap.size := by omega
      have cw1_0_0 : w1.cell? ⟨w.heap.size, 0, none⟩ = some (.int .i32 0) := (hw1.cell (p := ⟨w.heap.size, 0, none⟩) (by first | omega | (simp <;> omega))).trans (by simp [go_sem, *])
      have cw1_0_1 : w1.cell? ⟨w.heap.size, 1, none⟩ = some (.int .i64 0) := (hw1.cell (p := ⟨w.heap.size, 1, none⟩) (by first | omega | (simp <;> omega))).trans (by simp [go_sem, *])
      have cw1_0_2 : w1.cell? ⟨w.heap.size, 2, none⟩ = some (.int .i64 0) := (hw1.cell (p := ⟨w.heap.size, 2, none⟩) (by first | omega | (simp <;> omega))).trans (by simp [go_sem, *])
      have fw1_0 := fun o => hw1.frozen (p := ⟨w.heap.size, o, none⟩) (by first | omega | (simp <;> omega))
      go_wp2_with fail
      refine (first_at s _ _ hs hp).mono ?_
      rintro e w2 ⟨rfl, hw2⟩
      have zw2 := hw2.size
      try simp at zw2
      have zw2_0 : w.heap.size < w2.heap.size := by omega
      have cw2_0_0 : w2.cell? ⟨w.heap.size, 0, none⟩ = some (.int .i32 0) := (hw2.cell (p := ⟨w.heap.size, 0, none⟩) (by first | omega | (simp <;> omega))).trans (by simp [go_sem, *])
      have cw2_0_1 : w2.cell? ⟨w.heap.size, 1, none⟩ = some (.int .i64 0) := (hw2.cell (p := ⟨w.heap.size, 1, none⟩) (by first | omega | (simp <;> omega))).trans (by simp [go_sem, *])
      have cw2_0_2 : w2.cell? ⟨w.heap.size, 2, none⟩ = some (.int .i64 0) := (hw2.cell (p := ⟨w.heap.size, 2, none⟩) (by first | omega | (simp <;> omega))).trans (by simp [go_sem, *])
      have fw2_0 := fun o => hw2.frozen (p := ⟨w.heap.size, o, none⟩) (by first | omega | (simp <;> omega))
      go_wp2_with fail
      exact bodyPost_ret (v := .tuple #[.agg #[.int .i32 (Rn.dR s a : Int), .int .i64 (a : Int), .int .i64 (Rn.dW s a : Int)], .bool true]) (by simp [results, Try.results12, go_sem, *]) rfl ⟨rfl, (by repeat' (first | exact Below.refl _ _ | (refine Below.drew ?_) | (refine bdrewN ?_) | (refine Below.alloc ?_ (by first | omega | (simp <;> omega)) _) | (refine Below.setCell ?_ (by first | omega | (simp <;> omega)) _) | (refine Below.trans ?_ (Below.mono (by assumption) (by first | omega | (simp <;> omega))))))⟩
end Go.Proofs.Ytaaheinjalakmaa
