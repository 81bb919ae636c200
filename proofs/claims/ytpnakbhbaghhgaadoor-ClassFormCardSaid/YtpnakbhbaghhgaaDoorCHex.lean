/- A number in digits: the document's own, and the library's. -/
import Derived.Test.YtpnakbhbaghhgaaDoorCRef
import Derived.Test.YtpnakbhbaghhgaaDoorClassM2
set_option linter.unusedVariables false
namespace Go.Proofs.YtpnakbhbaghhgaaDoor
open Go.RowKit

theorem dig_one (d : Nat) (h : d < 16) : (⟨#[48, 49, 50, 51, 52, 53, 54, 55, 56, 57, 97, 98, 99, 100, 101, 102]⟩ : ByteArray).extract d (d + 1) = ⟨#[Cl.hexC d]⟩ := by
  match d, h with
  | 0, _ => decide +kernel
  | 1, _ => decide +kernel
  | 2, _ => decide +kernel
  | 3, _ => decide +kernel
  | 4, _ => decide +kernel
  | 5, _ => decide +kernel
  | 6, _ => decide +kernel
  | 7, _ => decide +kernel
  | 8, _ => decide +kernel
  | 9, _ => decide +kernel
  | 10, _ => decide +kernel
  | 11, _ => decide +kernel
  | 12, _ => decide +kernel
  | 13, _ => decide +kernel
  | 14, _ => decide +kernel
  | 15, _ => decide +kernel
  | n + 16, h => exact absurd h (by omega)
/- the digits t, and those of N ahead of them, are those of n -/
def DigAt (n N : Nat) (t : List UInt8) : Prop := (t = [] ∧ N = n) ∨ (t ≠ [] ∧ (0 < N ∧ Cl.hexD N ++ t = Cl.hexD n ∨ N = 0 ∧ t = Cl.hexD n))
theorem digat_step {n N : Nat} {t : List UInt8} (h : DigAt n N t) (hN : 0 < N ∨ t = []) : DigAt n (N / 16) (Cl.hexC (N % 16) :: t) := by
  refine .inr ⟨by simp, ?_⟩
  have key : Cl.hexD N ++ t = Cl.hexD n := by
    rcases h with ⟨rfl, rfl⟩ | ⟨ht, ⟨_, h⟩ | ⟨h0, _⟩⟩
    · simp
    · exact h
    · rcases hN with h1 | h1
      · omega
      · exact absurd h1 ht
  by_cases h16 : N < 16
  · refine .inr ⟨by omega, ?_⟩
    rw [← key, Cl.hexD_small h16, Nat.mod_eq_of_lt h16]; rfl
  · refine .inl ⟨by omega, ?_⟩
    rw [← key, Cl.hexD_big h16]; simp
theorem digat_len {n N : Nat} {t : List UInt8} (h : DigAt n N t) : t.length ≤ (Cl.hexD n).length := by
  rcases h with ⟨rfl, _⟩ | ⟨_, ⟨_, h⟩ | ⟨_, h⟩⟩
  · simp
  · rw [← h]; simp
  · rw [h]; exact Nat.le_refl _
theorem hexD_small9 (n : Nat) (h : n ≤ 4294967296) : (Cl.hexD n).length ≤ 9 := Cl.hexD_len 8 n (by omega)
def strMore : Value → Nat
  | .string t => 1 - t.size
  | _ => 0
theorem str_len0 {t : ByteArray} (h : t.data.toList = []) : t = ⟨#[]⟩ := by
  apply ByteArray.ext; apply Array.ext'; simpa using h
set_option maxRecDepth 20000 in
set_option maxHeartbeats 4000000 in
theorem rdigits_any (n : Nat) (w : World) (hn : n ≤ 4294967296) : Calls Tryd.prog 45 #[.int .i64 (n : Int)] w fun e w' => e = .returned (.string ⟨(Cl.hexD n).toArray⟩) ∧ w = w' := by
  go_enter Tryd.func45, Tryd.ntmps45
  go_wp2_with fail
  go_loop [0, 3] (fun i s => ∃ (N : Nat) (t : ByteArray), i = .int .i64 (N : Int) ∧ s = .string t ∧ N ≤ n ∧ Hid (DigAt n N t.data.toList)) (fun i s => 2 * (intOf i).toNat + strMore s)
  case atStart => exact ⟨n, ⟨#[]⟩, rfl, rfl, Nat.le_refl _, Lib.hid (.inl ⟨rfl, rfl⟩)⟩
  case round =>
    obtain ⟨N, t, rfl, rfl, hN, hd⟩ := hrel
    have hm16 : N % 16 < 16 := Nat.mod_lt _ (by decide)
    have hx := dig_one (N % 16) hm16
    have hts : t.size ≤ 9 := by
      have h1 := digat_len hd.out
      have h2 := hexD_small9 n hn
      have h3 : t.data.toList.length = t.size := by rw [Array.length_toList]; rfl
      omega
    by_cases h0 : 0 < N
    · have h0' : (0 : Int) < (N : Int) := by omega
      have HS := Lib.hid (digat_step hd.out (.inl h0))
      go_wp2_with fail
      go_round
      case rel => exact ⟨N / 16, _, val_int (by omega), rfl, by omega, Lib.hid (by rw [ByteArray.data_append, Array.toList_append]; exact HS.out)⟩
      case measure => simp only [intOf, strMore, ByteArray.size_append]; rw [show (⟨#[Cl.hexC (N % 16)]⟩ : ByteArray).size = 1 from rfl]; omega
    · obtain rfl : N = 0 := by omega
      by_cases ht : t = ⟨#[]⟩
      · subst ht
        have HS := Lib.hid (digat_step hd.out (.inr rfl))
        have hE := bytes_eq (⟨#[]⟩ : ByteArray)
        go_wp2_with fail
        go_round
        case rel => exact ⟨0, _, rfl, rfl, by omega, Lib.hid (by rw [ByteArray.data_append, Array.toList_append]; exact HS.out)⟩
        case measure => decide
      · have hE : t.toList.isEmpty = false := by
          rw [ByteArray.toList_eq]
          cases hc : t.data.toList with
          | nil => exact absurd (str_len0 hc) ht
          | cons _ _ => rfl
        have hv : t = ⟨(Cl.hexD n).toArray⟩ := by
          rcases hd.out with ⟨h1, _⟩ | ⟨_, ⟨h1, _⟩ | ⟨_, h1⟩⟩
          · exact absurd (str_len0 h1) ht
          · omega
          · apply ByteArray.ext; apply Array.ext'; simpa using h1
        have HV := Lib.hid hv
        clear hd hv
        go_wp2_with fail
        go_ret
        exact ⟨by rw [← HV.out]; rfl, rfl⟩
theorem rhex_any (r : Int) (w : World) (h0 : -2147483648 ≤ r) (h1 : r ≤ 2147483647) : Calls Tryd.prog 38 #[.int .i32 r] w fun e w' => e = .returned (.string ⟨(Cl.hexI r).toArray⟩) ∧ w = w' := by
  by_cases hr : r < 0
  · obtain ⟨n, rfl⟩ : ∃ n : Nat, r = -(n : Int) := ⟨(-r).toNat, by omega⟩
    have e1 : Cl.hexI (-(n : Int)) = 45 :: Cl.hexD n := by
      unfold Cl.hexI; rw [if_pos hr]; congr 2; omega
    have w1 : IntKind.i64.wrap (-(n : Int)) = -(n : Int) := IntWalk.i64_in _ ⟨by omega, by omega⟩
    have w2 : IntKind.i64.wrap (n : Int) = (n : Int) := IntWalk.i64_in _ ⟨by omega, by omega⟩
    have hcon := rdigits_any n w (by omega)
    have hDl := hexD_small9 n (by omega)
    rw [e1]
    generalize Cl.hexD n = D at *
    have hD3 : ¬ 9223372036854775807 < 1 + D.length := by omega
    go_enter Tryd.func38, Tryd.ntmps38
    go_wp2_with fail
    refine (hcon).mono ?_
    rintro e w' ⟨rfl, rfl⟩
    go_wp2_with fail
    go_ret
    refine ⟨?_, rfl⟩
    congr 2
  · obtain ⟨n, rfl⟩ : ∃ n : Nat, r = (n : Int) := ⟨r.toNat, by omega⟩
    have e1 : Cl.hexI (n : Int) = Cl.hexD n := by
      unfold Cl.hexI; rw [if_neg hr]; congr 1
    have w1 : IntKind.i64.wrap (n : Int) = (n : Int) := IntWalk.i64_in _ ⟨by omega, by omega⟩
    have hcon := rdigits_any n w (by omega)
    have hDl := hexD_small9 n (by omega)
    rw [e1]
    generalize Cl.hexD n = D at *
    go_enter Tryd.func38, Tryd.ntmps38
    go_wp2_with fail
    refine (hcon).mono ?_
    rintro e w' ⟨rfl, rfl⟩
    go_wp2_with fail
    go_ret
    exact ⟨rfl, rfl⟩
end Go.Proofs.YtpnakbhbaghhgaaDoor
