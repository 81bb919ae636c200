import Derived.Test.YtdoapojmenojoaaGreatDoorJKit
import Derived.Test.YtdoapojmenojoaaGreatDoorJRunesM
import Derived.WalkKit
import Derived.WalkSpells
import Derived.Outline
import Derived.Lib.SlBytesConst
set_option linter.unusedSimpArgs false
set_option linter.unusedVariables false
section
/- The rune that begins at a place. -/
set_option linter.unusedVariables false
namespace Go.Proofs.YtdoapojmenojoaaGreatDoor
open Go.RowKit

def rv (x : Rn.Rec) : Value := .agg #[.int .i32 (x.1 : Int), .int .i64 (x.2.1 : Int), .int .i64 (x.2.2 : Int)]
def FS (w0 : World) (T : ByteArray) (p pos x : Nat) (w : World) : Prop :=
  Cur w (w0.heap.size + 2) T pos ∧ Three w (w0.heap.size + 1) (.int .i32 (x : Int)) (.int .i64 (p : Int)) (.int .i64 0) ∧ Three w w0.heap.size (.int .i32 0) (.int .i64 0) (.int .i64 0) ∧ Below w0.heap.size w0 w
theorem rv_eq (s : ByteArray) (p : Nat) {z : Int} (h : z = Rn.dW s p) : Ending.returned (.agg #[.int .i32 (Rn.dR s p : Int), .int .i64 (p : Int), .int .i64 z]) = .returned (rv (Rn.recAt s p)) := by rw [h]; rfl
set_option maxHeartbeats 1600000 in
theorem first_any (s : ByteArray) (p : Nat) (w : World) (hs : s.size ≤ 281474976710656) (hp : p < s.size) :
    Calls Tryz.prog 173 #[.string s, .int .i64 (p : Int)] w fun e w' => e = .returned (rv (Rn.recAt s p)) ∧ Below w.heap.size w w' := by
  obtain ⟨m, hm, hm', hmi⟩ : ∃ m : Nat, (m = p + 4 ∧ (p : Int) + 4 ≤ (s.size : Int) ∨ m = s.size ∧ (s.size : Int) < (p : Int) + 4) ∧ min (p + 4) s.size = m ∧ (m : Int) ≤ (s.size : Int) := ⟨_, by omega, rfl, by omega⟩
  have hpm : p < m := by omega
  have hms : m ≤ s.size := by omega
  have hd := Rn.dec_first s p hp
  rw [hm'] at hd
  have hz := Rn.size_ext s p m (by omega) hms
  have hw := Rn.dW_le s p hp
  have hw0 := Rn.dW_pos s p
  obtain ⟨T, hT⟩ : ∃ T, s.extract p m = T := ⟨_, rfl⟩
  rw [hT] at hd hz
  have HD := Lib.hid hd
  have h1 : 1 ≤ T.size := by omega
  have h2 : Rn.dW s p ≤ T.size := by omega
  clear hd hz hm'
  rcases hm with ⟨rfl, hm⟩ | ⟨rfl, hm⟩
  all_goals
    go_enter Tryz.func173, Tryz.ntmps173
    go_wp2_with fail
    have HT := Lib.hid hT
    clear hT
    have hB0 : FS w T p 0 0 (((w.alloc (.cells #[.int .i32 0, .int .i64 0, .int .i64 0] 170)).alloc (.cells #[.int .i32 0, .int .i64 (p : Int), .int .i64 0] 170)).iter T 0) := by
      refine ⟨?_, ?_, ?_, ?_⟩
      · have := Cur.new ((w.alloc (.cells #[.int .i32 0, .int .i64 0, .int .i64 0] 170)).alloc (.cells #[.int .i32 0, .int .i64 (p : Int), .int .i64 0] 170)) T
        simpa using this
      · have := Three.alloc (Three.new (w.alloc (.cells #[.int .i32 0, .int .i64 0, .int .i64 0] 170)) (.int .i32 0) (.int .i64 (p : Int)) (.int .i64 0) 170) (.stringIter T 0)
        simp at this
        exact this
      · exact Three.alloc (Three.alloc (Three.new w (.int .i32 0) (.int .i64 0) (.int .i64 0) 170) _) _
      · exact Below.alloc (Below.alloc (Below.alloc (Below.refl _ _) (Nat.le_refl _) _) (by simp) _) (by simp; omega) _
    go_loopw [7, 8] (fun _ _ wr => ∃ q x : Nat, (q = 0 ∧ x = 0 ∨ q = Rn.dW s p ∧ x = Rn.dR s p) ∧ FS w T p q x wr) (fun _ _ wr => T.size - wr.iterPos (w.heap.size + 2))
    case atStart => exact ⟨0, 0, .inl ⟨rfl, rfl⟩, by assumption⟩
    case round =>
      obtain ⟨q, x, hq, hF⟩ := hrel
      clear hB0
      obtain ⟨i0, t0, r0, b0⟩ := hF
      have bz := b0.size
      have tz := t0.2.2.2.2
      have iz := i0.lt
      by_cases hl : q < T.size
      · obtain ⟨w1, hn, i1, c1, f1, z1, b1, o1, _⟩ := next_spec (P := Tryz.prog) _ _ _ _ i0 hl
        have t1 := t0.same (fun o => c1 _ o (by omega)) (fun o => f1 _ o (by omega)) (by omega)
        have r1 := r0.same (fun o => c1 _ o (by omega)) (fun o => f1 _ o (by omega)) (by omega)
        have b1' := b1 _ _ b0 (by omega)
        have I1 := Lib.hid i1
        have H0 := Lib.hid i0.at
        have Z0 := Lib.hid z1
        have z2 : w.heap.size + 2 < w1.heap.size := by omega
        have T1 := Lib.hid t1
        have R1 := Lib.hid r1
        obtain ⟨t10, t11, t12, t13, t14⟩ := t1
        obtain ⟨r10, r11, r12, r13, r14⟩ := r1
        clear i0 i1 t0 r0 c1 f1 z1 b1 o1 b0
        rcases hq with ⟨rfl, rfl⟩ | ⟨rfl, rfl⟩
        · go_wp2_with fail
          go_roundw
          case rel => exact ⟨Rn.dW s p, Rn.dR s p, .inr ⟨rfl, rfl⟩, by
            have i1 := I1.out
            rw [HD.out] at i1
            simp only [Nat.zero_add] at i1
            refine ⟨i1.setCell (by simp) _, ?_, R1.out.other (by simp) _, b1'.setCell (by simp) _⟩
            have t2 := T1.out.set0 (.int .i32 ((Utf8.decode T 0).1 : Int))
            rw [HD.out] at t2 ⊢
            exact t2⟩
          case measure =>
            have i1 := I1.out
            rw [HD.out] at i1
            have := (i1.setCell (a := ⟨w.heap.size + 1, 0, none⟩) (by simp) (.int .i32 ((Utf8.decode T 0).1 : Int))).at
            have hi := H0.out
            rw [this, hi]
            have := Rn.dec_pair s p
            rw [this]
            simp
            omega
        · have hq0 : (0 : Int) < (Rn.dW s p : Int) := by omega
          go_wp2_with fail
          exact bodyPost_ret (v := .agg #[.int .i32 (Rn.dR s p : Int), .int .i64 (p : Int), .int .i64 (Rn.dW s p : Int)]) (by simp [results, Tryz.results173, go_sem, *]) rfl ⟨rfl, (by repeat' (first | exact Below.refl _ _ | (refine Below.drew ?_) | (refine bdrewN ?_) | (refine Below.alloc ?_ (by first | omega | (simp <;> omega)) _) | (refine Below.setCell ?_ (by first | omega | (simp <;> omega)) _) | (refine Below.trans ?_ (Below.mono (by assumption) (by first | omega | (simp <;> omega))))))⟩
      · rcases hq with ⟨rfl, rfl⟩ | ⟨rfl, rfl⟩
        · omega
        · have hn := next_end (P := Tryz.prog) _ _ _ _ i0 hl
          have T1 := Lib.hid t0
          have R1 := Lib.hid r0
          obtain ⟨t10, t11, t12, t13, t14⟩ := t0
          obtain ⟨r10, r11, r12, r13, r14⟩ := r0
          have hlen : (T.size : Int) = (Rn.dW s p : Int) := by omega
          clear i0
          go_wp2_with fail
          have hlen2 := hlen
          rw [← HT.out, Rn.size_ext _ _ _ (by omega) hms] at hlen2
          have HL := Lib.hid hlen2
          clear hlen hlen2
          first
            | exact bodyPost_ret (v := .agg #[.int .i32 (Rn.dR s p : Int), .int .i64 (p : Int), .int .i64 4]) (by simp [results, Tryz.results173, go_sem, *]) rfl ⟨rv_eq _ _ (by have := HL.out; omega), (by repeat' (first | exact Below.refl _ _ | (refine Below.drew ?_) | (refine bdrewN ?_) | (refine Below.alloc ?_ (by first | omega | (simp <;> omega)) _) | (refine Below.setCell ?_ (by first | omega | (simp <;> omega)) _) | (refine Below.trans ?_ (Below.mono (by assumption) (by first | omega | (simp <;> omega))))))⟩
            | exact bodyPost_ret (v := .agg #[.int .i32 (Rn.dR s p : Int), .int .i64 (p : Int), .int .i64 (Rn.dW s p : Int)]) (by simp [results, Tryz.results173, go_sem, *]) rfl ⟨rv_eq _ _ (by have := HL.out; omega), (by repeat' (first | exact Below.refl _ _ | (refine Below.drew ?_) | (refine bdrewN ?_) | (refine Below.alloc ?_ (by first | omega | (simp <;> omega)) _) | (refine Below.setCell ?_ (by first | omega | (simp <;> omega)) _) | (refine Below.trans ?_ (Below.mono (by assumption) (by first | omega | (simp <;> omega))))))⟩
end Go.Proofs.YtdoapojmenojoaaGreatDoor
end

section
/- Places, and the runes that begin and end there. -/
set_option linter.unusedVariables false
namespace Go.Proofs.YtdoapojmenojoaaGreatDoor
open Go.RowKit

theorem first_at (s : ByteArray) (p : Nat) (w : World) (hs : s.size ≤ 281474976710656) (hp : p < s.size) :
    Calls Tryz.prog 173 #[.string s, .int .i64 (p : Int)] w fun e w' => e = .returned (.agg #[.int .i32 (Rn.dR s p : Int), .int .i64 (p : Int), .int .i64 (Rn.dW s p : Int)]) ∧ Below w.heap.size w w' := first_any s p w hs hp
theorem field_2 (x y z : Value) (w : World) : (Instr.field 170 (.agg #[x, y, z]) 2).run Tryz.prog w = .ok z w := by kernel_rfl
set_option maxHeartbeats 1600000 in
theorem place_any (s : ByteArray) (x : Int) (b : Bool) (w : World) (hs : s.size ≤ 281474976710656) (x0 : -9223372036854775808 ≤ x) (x1 : x ≤ 9223372036854775807) (h : Rn.Placed s x b) :
    Calls Tryz.prog 172 #[.string s, .int .i64 x] w fun e w' => e = .returned (.bool b) ∧ Below w.heap.size w w' := by
  rcases (show x < 0 ∨ (s.size : Int) < x ∨ (0 ≤ x ∧ x ≤ (s.size : Int)) by omega) with hx | hx | ⟨h0, h1⟩
  · obtain rfl := Rn.placed_out h (.inl hx)
    go_enter Tryz.func172, Tryz.ntmps172
    go_wp2_with fail
    go_ret
    exact ⟨rfl, (by repeat' (first | exact Below.refl _ _ | (refine Below.drew ?_) | (refine bdrewN ?_) | (refine Below.alloc ?_ (by first | omega | (simp <;> omega)) _) | (refine Below.setCell ?_ (by first | omega | (simp <;> omega)) _) | (refine Below.trans ?_ (Below.mono (by assumption) (by first | omega | (simp <;> omega))))))⟩
  · obtain rfl := Rn.placed_out h (.inr hx)
    have hx0 : (0 : Int) ≤ x := by omega
    go_enter Tryz.func172, Tryz.ntmps172
    go_wp2_with fail
    go_ret
    exact ⟨rfl, (by repeat' (first | exact Below.refl _ _ | (refine Below.drew ?_) | (refine bdrewN ?_) | (refine Below.alloc ?_ (by first | omega | (simp <;> omega)) _) | (refine Below.setCell ?_ (by first | omega | (simp <;> omega)) _) | (refine Below.trans ?_ (Below.mono (by assumption) (by first | omega | (simp <;> omega))))))⟩
  · obtain ⟨q, rfl⟩ : ∃ q : Nat, x = q := ⟨x.toNat, by omega⟩
    have H := Lib.hid h
    clear h
    have f2 := field_2
    go_enter Tryz.func172, Tryz.ntmps172
    go_wp2_with fail
    all_goals
      go_loopw [5] (fun i wr => ∃ k : Nat, q ≤ k + 3 ∧ k ≤ q ∧ i = .int .i64 (k : Int) ∧ Hid (∀ p, p < k → q ≤ p + 3 → p + Rn.dW s p ≤ q) ∧ Below w.heap.size w wr) (fun i _ => q - (intOf i).toNat)
      case atStart => first | exact ⟨q - 3, by omega, by omega, val_int (by omega), Lib.hid fun p h1 h2 => by omega, Below.refl _ _⟩ | exact ⟨0, by omega, by omega, rfl, Lib.hid fun p h1 h2 => by omega, Below.refl _ _⟩
      case round =>
        obtain ⟨k, hk, hk', rfl, hb, bl⟩ := hrel
        by_cases hlt : k < q
        · have hks : k < s.size := by omega
          by_cases hw : q < k + Rn.dW s k
          · have hbf := Rn.placed_no H.out hlt hw (by omega)
            have HF := Lib.hid hbf
            clear hbf
            have hw' : (q : Int) < (k : Int) + (Rn.dW s k : Int) := by omega
            have hwd := Rn.dW_le s k hks
            go_wp2_with fail
            refine (first_at s k _ hs hks).mono ?_
            rintro e w1 ⟨rfl, hw1⟩
            have zw1 := hw1.size
            try simp at zw1
            go_wp2_with fail
            go_ret
            exact ⟨ret_bool HF.out.symm, bl.trans (hw1.mono bl.size)⟩
          · have hw' : ¬ (q : Int) < (k : Int) + (Rn.dW s k : Int) := by omega
            have hwd := Rn.dW_le s k hks
            go_wp2_with fail
            refine (first_at s k _ hs hks).mono ?_
            rintro e w1 ⟨rfl, hw1⟩
            have zw1 := hw1.size
            try simp at zw1
            go_wp2_with fail
            go_roundw
            case rel => exact ⟨k + 1, by omega, by omega, by go_num, Lib.hid fun p h1 h2 => by
              by_cases e : p = k
              · subst e; omega
              · exact hb.out p (by omega) h2, bl.trans (hw1.mono bl.size)⟩
            case measure => simp [intOf]; omega
        · have hkq : k = q := by omega
          subst hkq
          have hbt := Rn.placed_yes H.out (by omega) hb.out
          have HF := Lib.hid hbt
          clear hbt
          go_wp2_with fail
          go_ret
          exact ⟨ret_bool HF.out.symm, bl⟩

def Tl (r a z : Nat) (b : Bool) : Value := .tuple #[.agg #[.int .i32 (r : Int), .int .i64 (a : Int), .int .i64 (z : Int)], .bool b]
set_option maxHeartbeats 1600000 in
theorem at_any (s : ByteArray) (x : Int) (r a z : Nat) (b : Bool) (w : World) (hs : s.size ≤ 281474976710656) (x0 : -9223372036854775808 ≤ x) (x1 : x ≤ 9223372036854775807) (h : Rn.BeginsT s x r a z b) :
    Calls Tryz.prog 153 #[.string s, .int .i64 x] w fun e w' => e = .returned (.tuple #[.agg #[.int .i32 (r : Int), .int .i64 (a : Int), .int .i64 (z : Int)], .bool b]) ∧ Below w.heap.size w w' := by
  by_cases hx : x = (s.size : Int)
  · obtain ⟨rfl, rfl, rfl, rfl⟩ := Rn.beginsT_no h (fun p e _ hp => by omega)
    subst hx
    go_enter Tryz.func153, Tryz.ntmps153
    go_wp2_with fail
    exact bodyPost_ret (v := .tuple #[.agg #[.int .i32 0, .int .i64 0, .int .i64 0], .bool false]) (by simp [results, Tryz.results153, go_sem]) rfl ⟨rfl, (by repeat' (first | exact Below.refl _ _ | (refine Below.drew ?_) | (refine bdrewN ?_) | (refine Below.alloc ?_ (by first | omega | (simp <;> omega)) _) | (refine Below.setCell ?_ (by first | omega | (simp <;> omega)) _) | (refine Below.trans ?_ (Below.mono (by assumption) (by first | omega | (simp <;> omega))))))⟩
  · obtain ⟨c, hc⟩ := Rn.placed_some s x
    cases c with
    | false =>
      obtain ⟨rfl, rfl, rfl, rfl⟩ := Rn.beginsT_no h (fun p e hr _ => by subst e; exact Rn.placed_not hc hr)
      have HC := Lib.hid hc
      clear hc h
      go_enter Tryz.func153, Tryz.ntmps153
      go_wp2_with fail
      refine (place_any s x false _ hs x0 x1 HC.out).mono ?_
      rintro e w1 ⟨rfl, hw1⟩
      have zw1 := hw1.size
      try simp at zw1
      have zw1_0 : w.heap.size < w1.heap.size := by omega
      have cw1_0_0 : w1.cell? ⟨w.heap.size, 0, none⟩ = some (.int .i32 0) := (hw1.cell (p := ⟨w.heap.size, 0, none⟩) (by first | omega | (simp <;> omega))).trans (by simp [go_sem, *])
      have cw1_0_1 : w1.cell? ⟨w.heap.size, 1, none⟩ = some (.int .i64 0) := (hw1.cell (p := ⟨w.heap.size, 1, none⟩) (by first | omega | (simp <;> omega))).trans (by simp [go_sem, *])
      have cw1_0_2 : w1.cell? ⟨w.heap.size, 2, none⟩ = some (.int .i64 0) := (hw1.cell (p := ⟨w.heap.size, 2, none⟩) (by first | omega | (simp <;> omega))).trans (by simp [go_sem, *])
      have fw1_0 := fun o => hw1.frozen (p := ⟨w.heap.size, o, none⟩) (by first | omega | (simp <;> omega))
      go_wp2_with fail
      exact bodyPost_ret (v := .tuple #[.agg #[.int .i32 0, .int .i64 0, .int .i64 0], .bool false]) (by simp [results, Tryz.results153, go_sem, *]) rfl ⟨rfl, (by repeat' (first | exact Below.refl _ _ | (refine Below.drew ?_) | (refine bdrewN ?_) | (refine Below.alloc ?_ (by first | omega | (simp <;> omega)) _) | (refine Below.setCell ?_ (by first | omega | (simp <;> omega)) _) | (refine Below.trans ?_ (Below.mono (by assumption) (by first | omega | (simp <;> omega))))))⟩
    | true =>
      obtain ⟨p, rfl, hr⟩ := hc.1 rfl
      have hp : p < s.size := by have := Rn.reach_le hr; omega
      obtain ⟨rfl, rfl, rfl, rfl⟩ := Rn.beginsT_yes h rfl hr hp
      have HC := Lib.hid hc
      clear hc h
      go_enter Tryz.func153, Tryz.ntmps153
      go_wp2_with fail
      refine (place_any s _ true _ hs x0 x1 HC.out).mono ?_
      rintro e w1 ⟨rfl, hw1⟩
      have zw1 := hw1.size
      try simp at zw1
      have zw1_0 : w.heap.size < w1.heap.size := by omega
      have cw1_0_0 : w1.cell? ⟨w.heap.size, 0, none⟩ = some (.int .i32 0) := (hw1.cell (p := ⟨w.heap.size, 0, none⟩) (by first | omega | (simp <;> omega))).trans (by simp [go_sem, *])
      have cw1_0_1 : w1.cell? ⟨w.heap.size, 1, none⟩ = some (.int .i64 0) := (hw1.cell (p := ⟨w.heap.size, 1, none⟩) (by first | omega | (simp <;> omega))).trans (by simp [go_sem, *])
      have cw1_0_2 : w1.cell? ⟨w.heap.size, 2, none⟩ = some (.int .i64 0) := (hw1.cell (p := ⟨w.heap.size, 2, none⟩) (by first | omega | (simp <;> omega))).trans (by simp [go_sem, *])
      have fw1_0 := fun o => hw1.frozen (p := ⟨w.heap.size, o, none⟩) (by first | omega | (simp <;> omega))
      go_wp2_with fail
      refine (first_at s _ _ hs hp).mono ?_
      rintro e w2 ⟨rfl, hw2⟩
      have zw2 := hw2.size
      try simp at zw2
      have zw2_0 : w.heap.size < w2.heap.size := by omega
      have cw2_0_0 : w2.cell? ⟨w.heap.size, 0, none⟩ = some (.int .i32 0) := (hw2.cell (p := ⟨w.heap.size, 0, none⟩) (by first | omega | (simp <;> omega))).trans (by simp [go_sem, *])
      have cw2_0_1 : w2.cell? ⟨w.heap.size, 1, none⟩ = some (.int .i64 0) := (hw2.cell (p := ⟨w.heap.size, 1, none⟩) (by first | omega | (simp <;> omega))).trans (by simp [go_sem, *])
      have cw2_0_2 : w2.cell? ⟨w.heap.size, 2, none⟩ = some (.int .i64 0) := (hw2.cell (p := ⟨w.heap.size, 2, none⟩) (by first | omega | (simp <;> omega))).trans (by simp [go_sem, *])
      have fw2_0 := fun o => hw2.frozen (p := ⟨w.heap.size, o, none⟩) (by first | omega | (simp <;> omega))
      go_wp2_with fail
      exact bodyPost_ret (v := .tuple #[.agg #[.int .i32 (Rn.dR s a : Int), .int .i64 (a : Int), .int .i64 (Rn.dW s a : Int)], .bool true]) (by simp [results, Tryz.results153, go_sem, *]) rfl ⟨rfl, (by repeat' (first | exact Below.refl _ _ | (refine Below.drew ?_) | (refine bdrewN ?_) | (refine Below.alloc ?_ (by first | omega | (simp <;> omega)) _) | (refine Below.setCell ?_ (by first | omega | (simp <;> omega)) _) | (refine Below.trans ?_ (Below.mono (by assumption) (by first | omega | (simp <;> omega))))))⟩
end Go.Proofs.YtdoapojmenojoaaGreatDoor
end

section
/- The rune that ends at a place; what is asked of a rune alone; edges. -/
set_option linter.unusedVariables false
namespace Go.Proofs.YtdoapojmenojoaaGreatDoor
open Go.RowKit

theorem word_yes {r : Int} (h : (48 ≤ r ∧ r ≤ 57) ∨ (65 ≤ r ∧ r ≤ 90) ∨ (97 ≤ r ∧ r ≤ 122) ∨ r = 95) : Rn.wordB r = true := (Rn.word_iff r).2 h
theorem word_no {r : Int} (h : ¬ ((48 ≤ r ∧ r ≤ 57) ∨ (65 ≤ r ∧ r ≤ 90) ∨ (97 ≤ r ∧ r ≤ 122) ∨ r = 95)) : Rn.wordB r = false := Bool.eq_false_iff.2 (fun k => h ((Rn.word_iff r).1 k))
theorem word_cases (r : Int) : (r < 48 ∧ Rn.wordB r = false) ∨ ((48 ≤ r ∧ r ≤ 57) ∧ Rn.wordB r = true) ∨ ((58 ≤ r ∧ r ≤ 64) ∧ Rn.wordB r = false) ∨ ((65 ≤ r ∧ r ≤ 90) ∧ Rn.wordB r = true) ∨ ((91 ≤ r ∧ r ≤ 94) ∧ Rn.wordB r = false) ∨ (r = 95 ∧ Rn.wordB r = true) ∨ ((96 ≤ r ∧ r ≤ 96) ∧ Rn.wordB r = false) ∨ ((97 ≤ r ∧ r ≤ 122) ∧ Rn.wordB r = true) ∨ (122 < r ∧ Rn.wordB r = false) := by
  rcases (show r < 48 ∨ (48 ≤ r ∧ r ≤ 57) ∨ (58 ≤ r ∧ r ≤ 64) ∨ (65 ≤ r ∧ r ≤ 90) ∨ (91 ≤ r ∧ r ≤ 94) ∨ r = 95 ∨ (96 ≤ r ∧ r ≤ 96) ∨ (97 ≤ r ∧ r ≤ 122) ∨ 122 < r by omega) with h | h | h | h | h | h | h | h | h
  · exact .inl ⟨h, word_no (by omega)⟩
  · exact .inr (.inl ⟨h, word_yes (by omega)⟩)
  · exact .inr (.inr (.inl ⟨h, word_no (by omega)⟩))
  · exact .inr (.inr (.inr (.inl ⟨h, word_yes (by omega)⟩)))
  · exact .inr (.inr (.inr (.inr (.inl ⟨h, word_no (by omega)⟩))))
  · exact .inr (.inr (.inr (.inr (.inr (.inl ⟨h, word_yes (by omega)⟩)))))
  · exact .inr (.inr (.inr (.inr (.inr (.inr (.inl ⟨h, word_no (by omega)⟩))))))
  · exact .inr (.inr (.inr (.inr (.inr (.inr (.inr (.inl ⟨h, word_yes (by omega)⟩)))))))
  · exact .inr (.inr (.inr (.inr (.inr (.inr (.inr (.inr ⟨h, word_no (by omega)⟩)))))))
set_option maxHeartbeats 1600000 in
theorem word_any (r : Int) (w : World) : Calls Tryz.prog 154 #[.int .i32 r] w fun e w' => e = .returned (.bool (Rn.wordB r)) ∧ w = w' := by
  rcases word_cases r with ⟨h, hv⟩ | ⟨⟨h, h'⟩, hv⟩ | ⟨⟨h, h'⟩, hv⟩ | ⟨⟨h, h'⟩, hv⟩ | ⟨⟨h, h'⟩, hv⟩ | ⟨rfl, hv⟩ | ⟨⟨h, h'⟩, hv⟩ | ⟨⟨h, h'⟩, hv⟩ | ⟨h, hv⟩
  all_goals
    have HV := Lib.hid hv
    clear hv
    try have hne : (r == 95) = false := by simp; omega
    go_enter Tryz.func154, Tryz.ntmps154
    go_wp2_with fail
    go_ret
    refine ⟨ret_bool ?_, rfl⟩
    rw [HV.out] <;> (first | rfl | (simp; done) | (simp; omega))
theorem put_any (r : Int) (w : World) : Calls Tryz.prog 101 #[.int .i32 r] w fun e w' => e = .returned (.string (Utf8.encode r)) ∧ w = w' := by
  go_enter Tryz.func101, Tryz.ntmps101
  go_wp2_with fail
  go_ret
  exact ⟨rfl, rfl⟩
end Go.Proofs.YtdoapojmenojoaaGreatDoor
end

section
/- All runes of a text. -/
set_option linter.unusedVariables false
namespace Go.Proofs.YtdoapojmenojoaaGreatDoor
open Go.RowKit

def rcells (l : List Rn.Rec) : List Value := l.flatMap fun x => [.int .i32 (x.1 : Int), .int .i64 (x.2.1 : Int), .int .i64 (x.2.2 : Int)]
/- behind k runes, the last one's bytes not counted yet -/
def opn (s : ByteArray) : Nat → List Rn.Rec
  | 0 => []
  | k + 1 => Rn.pre s k ++ [(Rn.dR s (Rn.pos s k), Rn.pos s k, 0)]
def EndedL (base : Nat) (ty : TypeId) (v : Value) (k : Nat) (xs : List Value) (wr w' : World) : Prop :=
  w'.ownsRow base ty 3 v k xs ∧ w'.heap.size = wr.heap.size ∧ (∀ j, j < base → w'.heap[j]? = wr.heap[j]?) ∧ (∀ B a, Below B a wr → B ≤ base → Below B a w')
theorem Cur.grown {w w' : World} {k : Nat} {s : ByteArray} {pos : Nat} (h : Cur w k s pos) {row : Option Nat} (hg : w.grownBy w' row) (hr : row ≠ some k) : Cur w' k s pos := (hg.block k h.lt (fun e => hr e.symm)).trans h
/- all runes -/
def Alls (base : Nat) (ty : TypeId) (l : List Rn.Rec) (w : World) (e : Ending) (w' : World) : Prop := ∃ v, e = .returned v ∧ w'.ownsRow base ty 3 v l.length (rcells l) ∧ Below base w w'
def AS (s : ByteArray) (w0 : World) (k : Nat) (v : Value) (w : World) : Prop :=
  k ≤ Rn.cnt s ∧ Cur w w0.heap.size s (Rn.pos s k) ∧ w.ownsRow (w0.heap.size + 1) 170 3 v k (rcells (opn s k)) ∧ (k = 0 → v = .slice none 0 0) ∧ Below w0.heap.size w0 w
end Go.Proofs.YtdoapojmenojoaaGreatDoor
end

section
/- The document's own answer: a rune alone. -/
set_option linter.unusedVariables false
namespace Go.Proofs.YtdoapojmenojoaaGreatDoor
open Go.RowKit

end Go.Proofs.YtdoapojmenojoaaGreatDoor
end
