/- What is read of a number. -/
import Derived.Test.YtahckijanjbagaaVary
set_option linter.unusedVariables false
namespace Go.Proofs.Ytahckijanjbagaa
open Go.RowKit

theorem u8_at (s : ByteArray) (k : Nat) (h : k < s.size) : s.data.toList[k]'(by simpa using h) = s[k] := rfl
theorem nret {s r : ByteArray} {v : Nat} {e : Int} (h : Vr.nV s = v ∧ Vr.nE s = e ∧ Vr.nR s = r) :
    Ending.returned (.tuple #[.int .u64 (v : Nat), .agg #[.string r, .int .i64 e]]) = .returned (.tuple #[.int .u64 (Vr.nV s : Nat), .agg #[.string (Vr.nR s), .int .i64 (Vr.nE s)]]) := by
  rw [h.1, h.2.1, h.2.2]
set_option maxRecDepth 20000 in
set_option maxHeartbeats 1600000 in
theorem next_any (s : ByteArray) (w : World) (hs : s.size ≤ maxLen) :
    Calls Try.prog 10 #[.agg #[.string s, .int .i64 0]] w fun x w' => x = .returned (.tuple #[.int .u64 (Vr.nV s : Nat), .agg #[.string (Vr.nR s), .int .i64 (Vr.nE s)]]) ∧ Below w.heap.size w w' := by
  unfold maxLen at hs
  have h10 : (10 : Int) < (s.size : Int) ∨ (s.size : Int) ≤ 10 := by omega
  rcases h10 with h10 | h10
  all_goals
    go_enter Try.func10, Try.ntmps10
    go_wp2_with fail
    go_loop [2, 16] (fun t i => ∃ k acc : Nat, k ≤ s.size ∧ Vr.At s.data.toList k acc ∧ i = .int .i64 k ∧ t = .int .u64 acc) (fun _ i => s.size - (intOf i).toNat)
    case atStart => exact ⟨0, 0, Nat.zero_le _, Vr.At.start _, rfl, rfl⟩
    case round =>
      obtain ⟨k, acc, hk, hn, rfl, rfl⟩ := hrel
      have hk9 := hn.2.1
      have HN := Lib.hid hn
      by_cases hlt : (k : Int) < (s.size : Int)
      · have hlt2 : k < s.size := by omega
        have hlt3 : k < s.data.toList.length := by simpa using hlt2
        have c1 := u8_lt s[k]
        obtain ⟨v, hv, hA⟩ : ∃ v : Nat, v = s[k].toNat % 128 ∧ bits .andNot .u8 (s[k].toNat : Int) 128 = (v : Int) := ⟨_, rfl, Vr.and_not s[k].toNat s[k].toNat_lt⟩
        have v1 : v < 128 := by omega
        have HS := Lib.hid (u8_at s k hlt2)
        rcases (show (9 ≤ k ∧ 1 < s[k].toNat) ∨ (1 ≤ k ∧ s[k].toNat ≤ 0) ∨ (k ≤ 8 ∧ 128 ≤ s[k].toNat) ∨ (s[k].toNat < 128 ∧ (k ≤ 0 ∨ 0 < s[k].toNat) ∧ (k ≤ 8 ∨ s[k].toNat ≤ 1)) by omega) with ⟨g1, g2⟩ | ⟨g1, g2⟩ | ⟨g1, g2⟩ | ⟨g1, g2, g3⟩
        · have E := Lib.hid (Vr.n_bad (hn.over hlt3 g1 g2) (by decide))
          clear hn hA HN hv
          go_wp2_with fail
          refine (broken_any _ _).mono ?_
          rintro e w1 ⟨rfl, hw1⟩
          have zw1 := hw1.size
          try simp at zw1
          have zw1_0 : w.heap.size < w1.heap.size := by omega
          have cw1_0 := fun o => hw1.cell (p := ⟨w.heap.size, o, none⟩) (by first | omega | (simp <;> omega))
          have fw1_0 := fun o => hw1.frozen (p := ⟨w.heap.size, o, none⟩) (by first | omega | (simp <;> omega))
          have zw1_1 : w.heap.size + 1 < w1.heap.size := by omega
          have cw1_1 := fun o => hw1.cell (p := ⟨w.heap.size + 1, o, none⟩) (by first | omega | (simp <;> omega))
          have fw1_1 := fun o => hw1.frozen (p := ⟨w.heap.size + 1, o, none⟩) (by first | omega | (simp <;> omega))
          go_wp2_with fail
          exact bodyPost_ret (v := .tuple #[.int .u64 0, .agg #[.string ⟨#[]⟩, .int .i64 3]]) (by simp [results, Try.results10, go_sem, *]) rfl ⟨nret E.out, (by repeat' (first | exact Below.refl _ _ | (refine Below.drew ?_) | (refine Below.alloc ?_ (by first | omega | (simp <;> omega)) _) | (refine Below.setCell ?_ (by first | omega | (simp <;> omega)) _) | (refine Below.trans ?_ (Below.mono (by assumption) (by first | omega | (simp <;> omega))))))⟩
        · have E := Lib.hid (Vr.n_bad (hn.long hlt3 g1 (show s[k].toNat = 0 by omega)) (by decide))
          have hO := Vr.or_at acc v k hn.2.2.1 (Vr.mul_fits' hk9 (by omega)) (Vr.acc_fits' hn.2.2.1 hk9 (by omega))
          clear hn HN hv
          generalize acc + v * 128 ^ k = T at hO
          go_wp2_with fail
          all_goals
            refine (broken_any _ _).mono ?_
            rintro e w1 ⟨rfl, hw1⟩
            have zw1 := hw1.size
            try simp at zw1
            have zw1_0 : w.heap.size < w1.heap.size := by omega
            have cw1_0 := fun o => hw1.cell (p := ⟨w.heap.size, o, none⟩) (by first | omega | (simp <;> omega))
            have fw1_0 := fun o => hw1.frozen (p := ⟨w.heap.size, o, none⟩) (by first | omega | (simp <;> omega))
            have zw1_1 : w.heap.size + 1 < w1.heap.size := by omega
            have cw1_1 := fun o => hw1.cell (p := ⟨w.heap.size + 1, o, none⟩) (by first | omega | (simp <;> omega))
            have fw1_1 := fun o => hw1.frozen (p := ⟨w.heap.size + 1, o, none⟩) (by first | omega | (simp <;> omega))
            go_wp2_with fail
            exact bodyPost_ret (v := .tuple #[.int .u64 0, .agg #[.string ⟨#[]⟩, .int .i64 5]]) (by simp [results, Try.results10, go_sem, *]) rfl ⟨nret E.out, (by repeat' (first | exact Below.refl _ _ | (refine Below.drew ?_) | (refine Below.alloc ?_ (by first | omega | (simp <;> omega)) _) | (refine Below.setCell ?_ (by first | omega | (simp <;> omega)) _) | (refine Below.trans ?_ (Below.mono (by assumption) (by first | omega | (simp <;> omega))))))⟩
        · have hm := hn.more hlt3 g1 g2
          rw [u8_at s k hlt2, ← hv] at hm
          have hO := Vr.or_at acc v k hn.2.2.1 (Vr.mul_fits g1 (by omega)) (Vr.acc_fits hn.2.2.1 g1 (by omega))
          generalize acc + v * 128 ^ k = T at hO hm
          have HM := Lib.hid hm
          clear hn HN hm hv
          go_wp2_with fail
          go_round
          case rel => exact ⟨k + 1, _, by omega, HM.out, by go_num, rfl⟩
          case measure => simp [intOf]; omega
        · have E := Vr.n_good (hn.done hlt3 g1 g2 g3)
          have hO := Vr.or_at acc v k hn.2.2.1 (Vr.mul_any hk9 hv g3) (Vr.acc_any hn.2.2.1 hk9 hv g3)
          rw [u8_at s k hlt2, ← hv] at E
          generalize acc + v * 128 ^ k = T at hO E
          clear hn HN hv
          have E := Lib.hid E
          rcases (show (k ≤ 0 ∧ s[k].toNat ≤ 0) ∨ 0 < s[k].toNat by omega) with ⟨g2, g4⟩ | g2
          · go_wp2_with fail
            go_region
            go_wp2_with fail
            exact bodyPost_ret (v := .tuple #[.int .u64 T, .agg #[.string (s.extract (k + 1) s.size), .int .i64 0]]) (by simp [results, Try.results10, go_sem, *]) rfl ⟨nret E.out, (by repeat' (first | exact Below.refl _ _ | (refine Below.drew ?_) | (refine Below.alloc ?_ (by first | omega | (simp <;> omega)) _) | (refine Below.setCell ?_ (by first | omega | (simp <;> omega)) _) | (refine Below.trans ?_ (Below.mono (by assumption) (by first | omega | (simp <;> omega))))))⟩
          · rcases (show k ≤ 8 ∨ k = 9 by omega) with g4 | g4
            · go_wp2_with fail
              go_region
              go_wp2_with fail
              exact bodyPost_ret (v := .tuple #[.int .u64 T, .agg #[.string (s.extract (k + 1) s.size), .int .i64 0]]) (by simp [results, Try.results10, go_sem, *]) rfl ⟨nret E.out, (by repeat' (first | exact Below.refl _ _ | (refine Below.drew ?_) | (refine Below.alloc ?_ (by first | omega | (simp <;> omega)) _) | (refine Below.setCell ?_ (by first | omega | (simp <;> omega)) _) | (refine Below.trans ?_ (Below.mono (by assumption) (by first | omega | (simp <;> omega))))))⟩
            · subst g4
              have g3 : s[9].toNat ≤ 1 := by omega
              have hO : bits .or .u64 (acc : Int) (IntKind.u64.wrap ((v : Int) * 9223372036854775808)) = (T : Int) := by simpa using hO
              go_wp2_with fail
              go_region
              go_wp2_with fail
              exact bodyPost_ret (v := .tuple #[.int .u64 T, .agg #[.string (s.extract (10) s.size), .int .i64 0]]) (by simp [results, Try.results10, go_sem, *]) rfl ⟨nret E.out, (by repeat' (first | exact Below.refl _ _ | (refine Below.drew ?_) | (refine Below.alloc ?_ (by first | omega | (simp <;> omega)) _) | (refine Below.setCell ?_ (by first | omega | (simp <;> omega)) _) | (refine Below.trans ?_ (Below.mono (by assumption) (by first | omega | (simp <;> omega))))))⟩
      · have e : (k : Int) = (s.size : Int) := by omega
        try (exfalso; omega)
        all_goals
          have E := Lib.hid (Vr.n_bad (hn.stop (by simp; omega)) (by decide))
          clear hlt hn HN
          go_wp2_with fail
          refine (broken_any _ _).mono ?_
          rintro e w1 ⟨rfl, hw1⟩
          have zw1 := hw1.size
          try simp at zw1
          have zw1_0 : w.heap.size < w1.heap.size := by omega
          have cw1_0 := fun o => hw1.cell (p := ⟨w.heap.size, o, none⟩) (by first | omega | (simp <;> omega))
          have fw1_0 := fun o => hw1.frozen (p := ⟨w.heap.size, o, none⟩) (by first | omega | (simp <;> omega))
          have zw1_1 : w.heap.size + 1 < w1.heap.size := by omega
          have cw1_1 := fun o => hw1.cell (p := ⟨w.heap.size + 1, o, none⟩) (by first | omega | (simp <;> omega))
          have fw1_1 := fun o => hw1.frozen (p := ⟨w.heap.size + 1, o, none⟩) (by first | omega | (simp <;> omega))
          go_wp2_with fail
          exact bodyPost_ret (v := .tuple #[.int .u64 0, .agg #[.string ⟨#[]⟩, .int .i64 4]]) (by simp [results, Try.results10, go_sem, *]) rfl ⟨nret E.out, (by repeat' (first | exact Below.refl _ _ | (refine Below.drew ?_) | (refine Below.alloc ?_ (by first | omega | (simp <;> omega)) _) | (refine Below.setCell ?_ (by first | omega | (simp <;> omega)) _) | (refine Below.trans ?_ (Below.mono (by assumption) (by first | omega | (simp <;> omega))))))⟩
end Go.Proofs.Ytahckijanjbagaa
