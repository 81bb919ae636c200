/- The rune that begins at a place. -/
import Derived.Test.YtnbgldlahidjbaaIter
import Derived.Test.YtnbgldlahidjbaaRunesM
import Derived.WalkKit
import Derived.WalkSpells
import Derived.Outline
set_option linter.unusedVariables false
namespace Go.Proofs.Ytnbgldlahidjbaa
open Go.RowKit

def rv (x : Rn.Rec) : Value := .agg #[.int .i32 (x.1 : Int), .int .i64 (x.2.1 : Int), .int .i64 (x.2.2 : Int)]
def FS (w0 : World) (T : ByteArray) (p pos x : Nat) (w : World) : Prop :=
  Cur w (w0.heap.size + 2) T pos ∧ Three w (w0.heap.size + 1) (.int .i32 (x : Int)) (.int .i64 (p : Int)) (.int .i64 0) ∧ Three w w0.heap.size (.int .i32 0) (.int .i64 0) (.int .i64 0) ∧ Below w0.heap.size w0 w
theorem rv_eq (s : ByteArray) (p : Nat) {z : Int} (h : z = Rn.dW s p) : Ending.returned (.agg #[.int .i32 (Rn.dR s p : Int), .int .i64 (p : Int), .int .i64 z]) = .returned (rv (Rn.recAt s p)) := by rw [h]; rfl
set_option maxHeartbeats 1600000 in
theorem first_any (s : ByteArray) (p : Nat) (w : World) (hs : s.size ≤ 281474976710656) (hp : p < s.size) :
    Calls Try.prog 26 #[.string s, .int .i64 (p : Int)] w fun e w' => e = .returned (rv (Rn.recAt s p)) ∧ Below w.heap.size w w' := by
  obtain ⟨m, hm, hm', hmi⟩ : ∃ m : Nat, (m = p + 4 ∧ (p : Int) + 4 ≤ (s.size : Int) ∨ m = s.size ∧ (s.size : Int) < (p : Int) + 4) ∧ min (p + 4) s.size = m ∧ (m : Int) ≤ (s.size : Int) := ⟨_, by omega, rfl, by omega⟩
  have hpm : p < m := by omega
  have hms : m ≤ s.size := by omega
  have hd := Rn.dec_first s p hp
  rw [hm'] at hd
  have hz := Rn.size_ext s p m (by omega) hms
  have hw := Rn.dW_le s p hp
  have hw0 := Rn.dW_pos s p
  obtain ⟨T, hT⟩ : ∃ T, s.extract p m = T := ⟨_, rfl⟩
  rw [hT] at hd hz
  have HD := Lib.hid hd
  have h1 : 1 ≤ T.size := by omega
  have h2 : Rn.dW s p ≤ T.size := by omega
  clear hd hz hm'
  rcases hm with ⟨rfl, hm⟩ | ⟨rfl, hm⟩
  all_goals
    go_enter Try.func26, Try.ntmps26
    go_wp2_with fail
    have HT := Lib.hid hT
    clear hT
    have hB0 : FS w T p 0 0 (((w.alloc (.cells #[.int .i32 0, .int .i64 0, .int .i64 0] 29)).alloc (.cells #[.int .i32 0, .int .i64 (p : Int), .int .i64 0] 29)).iter T 0) := by
      refine ⟨?_, ?_, ?_, ?_⟩
      · have := Cur.new ((w.alloc (.cells #[.int .i32 0, .int .i64 0, .int .i64 0] 29)).alloc (.cells #[.int .i32 0, .int .i64 (p : Int), .int .i64 0] 29)) T
        simpa using this
      · have := Three.alloc (Three.new (w.alloc (.cells #[.int .i32 0, .int .i64 0, .int .i64 0] 29)) (.int .i32 0) (.int .i64 (p : Int)) (.int .i64 0) 29) (.stringIter T 0)
        simp at this
        exact this
      · exact Three.alloc (Three.alloc (Three.new w (.int .i32 0) (.int .i64 0) (.int .i64 0) 29) _) _
      · exact Below.alloc (Below.alloc (Below.alloc (Below.refl _ _) (Nat.le_refl _) _) (by simp) _) (by simp; omega) _
    go_loopw [7, 8] (fun _ _ wr => ∃ q x : Nat, (q = 0 ∧ x = 0 ∨ q = Rn.dW s p ∧ x = Rn.dR s p) ∧ FS w T p q x wr) (fun _ _ wr => T.size - wr.iterPos (w.heap.size + 2))
    case atStart => exact ⟨0, 0, .inl ⟨rfl, rfl⟩, by assumption⟩
    case round =>
      obtain ⟨q, x, hq, hF⟩ := hrel
      clear hB0
      obtain ⟨i0, t0, r0, b0⟩ := hF
      have bz := b0.size
      have tz := t0.2.2.2.2
      have iz := i0.lt
      by_cases hl : q < T.size
      · obtain ⟨w1, hn, i1, c1, f1, z1, b1, o1, _⟩ := next_spec (P := Try.prog) _ _ _ _ i0 hl
        have t1 := t0.same (fun o => c1 _ o (by omega)) (fun o => f1 _ o (by omega)) (by omega)
        have r1 := r0.same (fun o => c1 _ o (by omega)) (fun o => f1 _ o (by omega)) (by omega)
        have b1' := b1 _ _ b0 (by omega)
        have I1 := Lib.hid i1
        have H0 := Lib.hid i0.at
        have Z0 := Lib.hid z1
        have z2 : w.heap.size + 2 < w1.heap.size := by omega
        have T1 := Lib.hid t1
        have R1 := Lib.hid r1
        obtain ⟨t10, t11, t12, t13, t14⟩ := t1
        obtain ⟨r10, r11, r12, r13, r14⟩ := r1
        clear i0 i1 t0 r0 c1 f1 z1 b1 o1 b0
        rcases hq with ⟨rfl, rfl⟩ | ⟨rfl, rfl⟩
        · go_wp2_with fail
          go_roundw
          case rel => exact ⟨Rn.dW s p, Rn.dR s p, .inr ⟨rfl, rfl⟩, by
            have i1 := I1.out
            rw [HD.out] at i1
            simp only [Nat.zero_add] at i1
            refine ⟨i1.setCell (by simp) _, ?_, R1.out.other (by simp) _, b1'.setCell (by simp) _⟩
            have t2 := T1.out.set0 (.int .i32 ((Utf8.decode T 0).1 : Int))
            rw [HD.out] at t2 ⊢
            exact t2⟩
          case measure =>
            have i1 := I1.out
            rw [HD.out] at i1
            have := (i1.setCell (a := ⟨w.heap.size + 1, 0, none⟩) (by simp) (.int .i32 ((Utf8.decode T 0).1 : Int))).at
            have hi := H0.out
            rw [this, hi]
            have := Rn.dec_pair s p
            rw [this]
            simp
            omega
        · have hq0 : (0 : Int) < (Rn.dW s p : Int) := by omega
          go_wp2_with fail
          exact bodyPost_ret (v := .agg #[.int .i32 (Rn.dR s p : Int), .int .i64 (p : Int), .int .i64 (Rn.dW s p : Int)]) (by simp [results, Try.results26, go_sem, *]) rfl ⟨rfl, (by repeat' (first | exact Below.refl _ _ | (refine Below.drew ?_) | (refine bdrewN ?_) | (refine Below.alloc ?_ (by first | omega | (simp <;> omega)) _) | (refine Below.setCell ?_ (by first | omega | (simp <;> omega)) _) | (refine Below.trans ?_ (Below.mono (by assumption) (by first | omega | (simp <;> omega))))))⟩
      · rcases hq with ⟨rfl, rfl⟩ | ⟨rfl, rfl⟩
        · omega
        · have hn := next_end (P := Try.prog) _ _ _ _ i0 hl
          have T1 := Lib.hid t0
          have R1 := Lib.hid r0
          obtain ⟨t10, t11, t12, t13, t14⟩ := t0
          obtain ⟨r10, r11, r12, r13, r14⟩ := r0
          have hlen : (T.size : Int) = (Rn.dW s p : Int) := by omega
          clear i0
          go_wp2_with fail
          have hlen2 := hlen
          rw [← HT.out, Rn.size_ext _ _ _ (by omega) hms] at hlen2
          have HL := Lib.hid hlen2
          clear hlen hlen2
          first
            | exact bodyPost_ret (v := .agg #[.int .i32 (Rn.dR s p : Int), .int .i64 (p : Int), .int .i64 4]) (by simp [results, Try.results26, go_sem, *]) rfl ⟨rv_eq _ _ (by have := HL.out; omega), (by repeat' (first | exact Below.refl _ _ | (refine Below.drew ?_) | (refine bdrewN ?_) | (refine Below.alloc ?_ (by first | omega | (simp <;> omega)) _) | (refine Below.setCell ?_ (by first | omega | (simp <;> omega)) _) | (refine Below.trans ?_ (Below.mono (by assumption) (by first | omega | (simp <;> omega))))))⟩
            | exact bodyPost_ret (v := .agg #[.int .i32 (Rn.dR s p : Int), .int .i64 (p : Int), .int .i64 (Rn.dW s p : Int)]) (by simp [results, Try.results26, go_sem, *]) rfl ⟨rv_eq _ _ (by have := HL.out; omega), (by repeat' (first | exact Below.refl _ _ | (refine Below.drew ?_) | (refine bdrewN ?_) | (refine Below.alloc ?_ (by first | omega | (simp <;> omega)) _) | (refine Below.setCell ?_ (by first | omega | (simp <;> omega)) _) | (refine Below.trans ?_ (Below.mono (by assumption) (by first | omega | (simp <;> omega))))))⟩
end Go.Proofs.Ytnbgldlahidjbaa
