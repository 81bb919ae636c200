/- The document's own answer: the first rune. -/
import Derived.Test.YtnbgldlahidjbaaRRef
import Derived.Test.YtnbgldlahidjbaaRunesM2
import Derived.Deep.RegionHeld3
import Derived.Deep.QuietTactic
import Derived.BigQuiet
import Derived.Deep.DeepCutAuto
import Derived.Deep.CutBlock
import Derived.IntWalk
set_option linter.unusedVariables false
namespace Go.Proofs.Ytnbgldlahidjbaa
open Go.RowKit

theorem at8_toNat (s : ByteArray) (i : Nat) (h : i < s.size) : s[i].toNat = Rn.at8 s i := by
  rw [Rn.at8_get s i h]
  have := Rn.at8_lt s i
  simp [Rn.b8]; omega
theorem bdrewN {B : Nat} {a w : World} {n : Nat} (h : Below B a w) : Below B a (w.drewN n) := h.trans ⟨rfl, rfl, rfl, Nat.le_refl _, fun _ _ => rfl⟩
theorem rright_at (r : Int) (b : Bool) (w : World) (h : Rn.rightB r = b) : Calls Try.prog 22 #[.int .i32 r] w fun e w' => e = .returned (.bool b) ∧ w = w' := by subst h; exact rright_any r w
theorem rput_at (r : Int) (v : ByteArray) (w : World) (h : Utf8.encode r = v) : Calls Try.prog 23 #[.int .i32 r] w fun e w' => e = .returned (.string v) ∧ Below w.heap.size w w' := by subst h; exact rput_any r w
theorem bytes_ne {v x : ByteArray} (h : ¬ v = x) : (v.toList == x.toList) = false := by
  rw [ByteArray.toList_eq, ByteArray.toList_eq]
  exact beq_eq_false_iff_ne.2 (fun e => h (ByteArray.ext (Array.ext' e)))
theorem bytes_eq (v : ByteArray) : (v.toList == v.toList) = true := by rw [ByteArray.toList_eq]; exact beq_self_eq_true _
theorem bvia {a w w' : World} (h : Below a.heap.size a w) (h' : Below w.heap.size w w') : Below a.heap.size a w' := h.trans (h'.mono h.size)
theorem rright_same (r : Int) (b : Bool) (w : World) (h : Rn.rightB r = b) : Calls Try.prog 22 #[.int .i32 r] w fun e w' => e = .returned (.bool b) ∧ w' = w := (rright_at r b w h).mono fun _ _ h => ⟨h.1, h.2.symm⟩
def FstCase (s : ByteArray) (z m : Nat) (r d : Int) : Prop :=
  (s.size < z ∧ r = 65533 ∧ d = 1) ∨ (z ≤ s.size ∧ ((1114111 < Rn.acc s m (z - 1) ∧ r = 65533 ∧ d = 1) ∨ ((Rn.acc s m (z - 1) : Int) ≤ 1114111 ∧ Rn.rightB (Rn.acc s m (z - 1) : Nat) = false ∧ r = 65533 ∧ d = 1) ∨
      ((Rn.acc s m (z - 1) : Int) ≤ 1114111 ∧ Rn.rightB (Rn.acc s m (z - 1) : Nat) = true ∧ ¬ Utf8.encode (Rn.acc s m (z - 1) : Nat) = s.extract 0 z ∧ r = 65533 ∧ d = 1) ∨
      ((Rn.acc s m (z - 1) : Int) ≤ 1114111 ∧ Rn.rightB (Rn.acc s m (z - 1) : Nat) = true ∧ Utf8.encode (Rn.acc s m (z - 1) : Nat) = s.extract 0 z ∧ r = (Rn.acc s m (z - 1) : Nat) ∧ d = z)))
set_option maxRecDepth 20000 in
set_option maxHeartbeats 16000000 in
theorem rfirst_walk (s : ByteArray) (z m : Nat) (r : Int) (d : Int) (w : World) (hp : 0 < s.size) (hs : s.size ≤ 281474976710656) (hl : Rn.Lead s z m) (hC : FstCase s z m r d) :
    Calls Try.prog 28 #[.string s] w fun e w' => e = .returned (.tuple #[.int .i32 r, .int .i64 d]) ∧ Below w.heap.size w w' := by
  have hL := Lib.hid hl
  have ha := at8_toNat s
  have h0 := Rn.at8_lt s 0
  have HC := Lib.hid hC
  clear hC hl
  go_enter Try.func28, Try.ntmps28
  go_upto_block 0 with fail
  go_cut [5, 6] from 12 to 26 (fun z' n' wx => z' = .int .i64 (z : Int) ∧ n' = .int .u32 (Rn.acc s m 0 : Int) ∧ wx = w)
  case first =>
    rcases hL.out with ⟨rfl, rfl, l0⟩ | ⟨rfl, rfl, l0, l1⟩ | ⟨rfl, rfl, l0, l1⟩ | ⟨rfl, rfl, l0⟩
    all_goals
      go_wp2_with fail
      go_meet
      case rel => first | exact ⟨rfl, rfl, rfl⟩ | exact ⟨rfl, by show Value.int .u32 _ = Value.int .u32 ((Rn.at8 s 0 % 256 : Nat) : Int); rw [Nat.mod_eq_of_lt h0], rfl⟩
  case rest =>
    obtain ⟨rfl, rfl, rfl⟩ := hcut
    have hz1 : 1 ≤ z ∧ z ≤ 4 := by have := hL.out; unfold Rn.Lead at this; omega
    rcases HC.out with ⟨hz, rfl, rfl⟩ | ⟨hz, hC⟩
    · have hz' : (s.size : Int) < (z : Int) := by omega
      clear HC
      go_wp2_with fail
      go_ret2
      exact ⟨rfl, (by repeat' (first | exact Below.refl _ _ | (refine Below.drew ?_) | (refine bdrewN ?_) | (refine Below.alloc ?_ (by first | omega | (simp <;> omega)) _) | (refine Below.setCell ?_ (by first | omega | (simp <;> omega)) _) | (refine Below.trans ?_ (Below.mono (by assumption) (by first | omega | (simp <;> omega))))))⟩
    · have hz' : ¬ (s.size : Int) < (z : Int) := by omega
      have hC := Lib.hid hC
      clear HC
      go_wp2_with fail
      go_loop [6, 7] (fun n i => ∃ k : Nat, k < z ∧ i = .int .i64 ((k + 1 : Nat) : Int) ∧ n = .int .u32 (Rn.acc s m k : Int)) (fun _ i => z - (intOf i).toNat)
      case atStart => exact ⟨0, by omega, rfl, rfl⟩
      case round =>
        obtain ⟨k, hk, rfl, rfl⟩ := hrel
        have hb := Rn.acc_bd s z m hL.out k (by omega)
        by_cases hlt : k + 1 < z
        · have h1 := Rn.at8_lt s (k + 1)
          have hks : k + 1 < s.size := by omega
          go_wp2_with fail
          go_round
          case rel => exact ⟨k + 1, by omega, by go_num, rfl⟩
          case measure => simp [intOf]; omega
        · obtain rfl : z = k + 1 := by omega
          rw [Nat.add_sub_cancel] at hC
          go_wp2_with fail
          clear ha hlt
          generalize Rn.acc s m k = N at *
          have hN : (N : Int) < 2097152 := by omega
          rcases hC.out with ⟨hA, rfl, rfl⟩ | ⟨hA, hB, rfl, rfl⟩ | ⟨hA, hB, hD, rfl, rfl⟩ | ⟨hA, hB, hD, rfl, rfl⟩
          · as_aux_lemma =>
              have hA' : (1114111 : Int) < (N : Int) := by omega
              have hd : decide ((1114111 : Int) < (N : Int)) = true := decide_eq_true hA'
              clear hC hA
              go_quiet (fail)
              all_goals
                go_wp2_with fail
                go_ret2
                exact ⟨rfl, ⟨rfl, rfl, rfl, Nat.le_refl _, fun _ _ => rfl⟩⟩
          · as_aux_lemma =>
              have hA' : (N : Int) ≤ 1114111 := hA
              have hd : decide ((1114111 : Int) < (N : Int)) = false := decide_eq_false (by omega)
              have hwr : IntKind.i32.wrap (N : Int) = (N : Int) := IntWalk.i32_in _ ⟨by omega, by omega⟩
              have hB' := Lib.hid hB
              clear hC hA hB
              go_quiet ((go_at_call 22; exact Calls.quiet_of_same (rright_same (N : Int) false _ hB'.out)))
              all_goals
                go_wp2_with fail
                go_ret2
                exact ⟨rfl, ⟨rfl, rfl, rfl, Nat.le_refl _, fun _ _ => rfl⟩⟩
          · as_aux_lemma =>
              have hA' : (N : Int) ≤ 1114111 := hA
              have hd : decide ((1114111 : Int) < (N : Int)) = false := decide_eq_false (by omega)
              have hwr : IntKind.i32.wrap (N : Int) = (N : Int) := IntWalk.i32_in _ ⟨by omega, by omega⟩
              have hB' := Lib.hid hB
              obtain ⟨v, hv⟩ : ∃ v, Utf8.encode (N : Int) = v := ⟨_, rfl⟩
              rw [hv] at hD
              obtain ⟨X, hX⟩ : ∃ X, s.extract 0 (k + 1) = X := ⟨_, rfl⟩
              rw [hX] at hD
              have hne := bytes_ne hD
              have hk0 : (0 : Int) ≤ (k : Int) + 1 := by omega
              have hk1 : (k : Int) + 1 ≤ (s.size : Int) := by omega
              have hk2 : ((k : Int) + 1).toNat = k + 1 := by omega
              have hne' : (v.toList != X.toList) = true := by rw [bne, hne]; rfl
              have HV := Lib.hid hv
              clear hC hA hB hD hv
              first | (go_region_held3 (fun w' => Below wc.heap.size wc w') (first | assumption | exact Below.refl _ _ | exact (Below.refl _ _).drew | (refine Below.drew ?_; assumption) | (refine bvia ?_ (by assumption); assumption)) (first | (go_at_call 22; refine (rright_at (N : Int) true _ hB'.out).mono ?_; rintro e w' ⟨rfl, rfl⟩) | (go_at_call 23; refine (rput_at (N : Int) v _ HV.out).mono ?_; rintro e w1 ⟨rfl, hw1⟩))) | fail
              all_goals
                go_wp2_with fail
                go_ret2
                exact ⟨rfl, by assumption⟩
          · as_aux_lemma =>
              have hA' : (N : Int) ≤ 1114111 := hA
              have hd : decide ((1114111 : Int) < (N : Int)) = false := decide_eq_false (by omega)
              have hwr : IntKind.i32.wrap (N : Int) = (N : Int) := IntWalk.i32_in _ ⟨by omega, by omega⟩
              have hB' := Lib.hid hB
              obtain ⟨X, hX⟩ : ∃ X, s.extract 0 (k + 1) = X := ⟨_, rfl⟩
              rw [hX] at hD
              have heq := bytes_eq X
              have hk0 : (0 : Int) ≤ (k : Int) + 1 := by omega
              have hk1 : (k : Int) + 1 ≤ (s.size : Int) := by omega
              have hk2 : ((k : Int) + 1).toNat = k + 1 := by omega
              have HV := Lib.hid hD
              clear hC hA hB hD
              first | (go_region_held3 (fun w' => Below wc.heap.size wc w') (first | assumption | exact Below.refl _ _ | exact (Below.refl _ _).drew | (refine Below.drew ?_; assumption) | (refine bvia ?_ (by assumption); assumption)) (first | (go_at_call 22; refine (rright_at (N : Int) true _ hB'.out).mono ?_; rintro e w' ⟨rfl, rfl⟩) | (go_at_call 23; refine (rput_at (N : Int) X _ HV.out).mono ?_; rintro e w1 ⟨rfl, hw1⟩))) | fail
              all_goals
                go_wp2_with fail
                go_ret2
                exact ⟨rfl, by assumption⟩
theorem fst_case (s : ByteArray) (z m : Nat) (hp : 0 < s.size) (hl : Rn.Lead s z m) : FstCase s z m (Rn.dR s 0 : Int) (Rn.dW s 0 : Int) := by
  by_cases hz : s.size < z
  · obtain ⟨a, b⟩ := Rn.rf_bad hp hl (.inl hz)
    exact .inl ⟨hz, by rw [a]; rfl, by rw [b]; rfl⟩
  · have hz' : z ≤ s.size := by omega
    refine .inr ⟨hz', ?_⟩
    by_cases hA : 1114111 < Rn.acc s m (z - 1)
    · obtain ⟨a, b⟩ := Rn.rf_bad hp hl (.inr ⟨hz', .inl hA⟩)
      exact .inl ⟨hA, by rw [a]; rfl, by rw [b]; rfl⟩
    · have hA' : (Rn.acc s m (z - 1) : Int) ≤ 1114111 := by omega
      cases hB : Rn.rightB (Rn.acc s m (z - 1) : Nat) with
      | false =>
        obtain ⟨a, b⟩ := Rn.rf_bad hp hl (.inr ⟨hz', .inr (.inl hB)⟩)
        exact .inr (.inl ⟨hA', rfl, by rw [a]; rfl, by rw [b]; rfl⟩)
      | true =>
        by_cases hD : Utf8.encode (Rn.acc s m (z - 1) : Nat) = s.extract 0 z
        · obtain ⟨a, b⟩ := Rn.rf_good hl hz' hB hD
          exact .inr (.inr (.inr ⟨hA', rfl, hD, by rw [a], by rw [b]⟩))
        · obtain ⟨a, b⟩ := Rn.rf_bad hp hl (.inr ⟨hz', .inr (.inr hD)⟩)
          exact .inr (.inr (.inl ⟨hA', rfl, hD, by rw [a]; rfl, by rw [b]; rfl⟩))
theorem rfirst_any (s : ByteArray) (w : World) (hp : 0 < s.size) (hs : s.size ≤ 281474976710656) :
    Calls Try.prog 28 #[.string s] w fun e w' => e = .returned (.tuple #[.int .i32 (Rn.dR s 0 : Int), .int .i64 (Rn.dW s 0 : Int)]) ∧ Below w.heap.size w w' := by
  obtain ⟨z, m, hl⟩ := Rn.lead_some s
  exact rfirst_walk s z m _ _ w hp hs hl (fst_case s z m hp hl)
end Go.Proofs.Ytnbgldlahidjbaa
