/- The contracts of package sum and of the document's own answer to its chapter, as plain functions on numbers. -/
import Derived.Test.YtikojhcnafnjoaaKit
import Derived.Test.YtikojhcnafnjoaaSumM
import Derived.WalkKit
import Derived.WalkSpells
import Derived.WalkLawsBesides
import Derived.Lib.Hide
namespace Go.Proofs.Ytikojhcnafnjoaa
open Go.RowKit

theorem ret_u32 {a b : Int} (h : a = b) : Ending.returned (.int .u32 a) = .returned (.int .u32 b) := by rw [h]
theorem val_u32 {a b : Int} (h : a = b) : Value.int .u32 a = .int .u32 b := by rw [h]
theorem and_low (x : Int) (h0 : 0 ≤ x) (h1 : x < 4294967296) : bits .and .u32 x 65535 = x % 65536 := by
  rw [u32_and x 65535 h0 h1 (by omega) (by omega)]
  have : (65535 : Int).toNat = 2 ^ 16 - 1 := rfl
  rw [this, Nat.and_two_pow_sub_one_eq_mod]; omega
theorem or_join (a b : Int) (h0 : 0 ≤ a) (h1 : a < 65536) (h2 : 0 ≤ b) (h3 : b < 65536) : bits .or .u32 (b * 65536) a = b * 65536 + a := by
  rw [u32_or _ _ (by omega) (by omega) (by omega) (by omega), nat_join 16 _ _ (by omega) (by omega)]; omega

theorem halves_any (x : Int) (w : World) (h0 : 0 ≤ x) (h1 : x < 4294967296) :
    Calls Try.prog 17 #[.int .u32 x] w fun e w' => e = .returned (.tuple #[.int .u32 (Sm.lo x), .int .u32 (Sm.hi x)]) ∧ w = w' := by
  have e := and_low x h0 h1
  go_enter Try.func17, Try.ntmps17
  go_wp2
  go_ret2
  refine ⟨?_, rfl⟩
  simp [Sm.lo, Sm.hi]

theorem wrap_any (x : Int) (w : World) (h0 : 0 ≤ x) (h1 : x < 131042) :
    Calls Try.prog 18 #[.int .u32 x] w fun e w' => e = .returned (.int .u32 (x % 65521)) ∧ w = w' := by
  by_cases h : 65521 ≤ x
  all_goals
    go_enter Try.func18, Try.ntmps18
    go_wp2
    go_ret
    exact ⟨ret_u32 (by omega), rfl⟩

theorem whole_any (a b : Int) (w : World) (h0 : 0 ≤ a) (h1 : a < 65521) (h2 : 0 ≤ b) (h3 : b < 65521) :
    Calls Try.prog 19 #[.int .u32 a, .int .u32 b] w fun e w' => e = .returned (.int .u32 (b * 65536 + a)) ∧ w = w' := by
  have e := or_join a b h0 (by omega) h2 (by omega)
  go_enter Try.func19, Try.ntmps19
  go_wp2
  go_ret
  exact ⟨rfl, rfl⟩

theorem times_any (n many : Int) (w : World) (h0 : 0 ≤ n) (h1 : n < 65521) (h2 : -9223372036854775808 ≤ many) (h3 : many < 9223372036854775808) :
    Calls Try.prog 20 #[.int .u32 n, .int .i64 many] w fun e w' => e = .returned (.int .u32 (n * (max many 0 % 65521) % 65521)) ∧ w = w' := by
  by_cases hm : 0 ≤ many
  · have hp : 0 ≤ n * (many % 65521) := Int.mul_nonneg h0 (by omega)
    have hq : n * (many % 65521) ≤ 65520 * 65520 := Int.mul_le_mul (by omega) (by omega) (by omega) (by omega)
    have hmx : max many 0 = many := by omega
    have H := Lib.hid hmx
    clear hmx
    go_enter Try.func20, Try.ntmps20
    go_wp2
    go_ret
    exact ⟨ret_u32 (by rw [H.out]), rfl⟩
  · have hmx : max many 0 = 0 := by omega
    have H := Lib.hid hmx
    clear hmx
    go_enter Try.func20, Try.ntmps20
    go_wp2
    go_ret
    exact ⟨ret_u32 (by rw [H.out]; simp), rfl⟩

theorem take_snoc (s : ByteArray) (k : Nat) (h : k < s.size) : s.data.toList.take (k + 1) = s.data.toList.take k ++ [s[k]] := by
  rw [List.take_succ_eq_append_getElem (by simpa using h)]; rfl

theorem add_any (x : Int) (s : ByteArray) (w : World) (h0 : 0 ≤ x) (h1 : x < 4294967296) (hs : s.size ≤ maxLen) :
    Calls Try.prog 12 #[.int .u32 x, .string s] w fun e w' => e = .returned (.int .u32 (Sm.addS x s.data.toList)) ∧ w = w' := by
  unfold maxLen at hs
  have hlo := Sm.lo_bd x
  have hhi := Sm.hi_bd x
  go_enter Try.func12, Try.ntmps12
  go_wp2_with fail
  refine (halves_any _ _ h0 h1).mono ?_
  rintro e w' ⟨rfl, rfl⟩
  go_wp2_with fail
  go_loop [5, 6, 15] (fun a b i => ∃ k : Nat, k ≤ s.size ∧ i = .int .i64 k ∧ a = .int .u32 (Sm.run (Sm.lo x) (Sm.hi x) (s.data.toList.take k)).1 ∧ b = .int .u32 (Sm.run (Sm.lo x) (Sm.hi x) (s.data.toList.take k)).2) (fun _ _ i => s.size - (intOf i).toNat)
  case atStart => exact ⟨0, Nat.zero_le _, rfl, rfl, rfl⟩
  case round =>
    obtain ⟨k, hk, rfl, rfl, rfl⟩ := hrel
    have hb := Sm.run_bd (s.data.toList.take k) _ _ hlo.1 hlo.2 hhi.1 hhi.2
    by_cases hlt : k < s.size
    · have hc := Nat.le_of_lt_succ s[k].toNat_lt
      have hsn := take_snoc s k hlt
      have HS := Lib.hid hsn
      clear hsn
      go_wp2_with fail
      refine (wrap_any _ _ (by omega) (by omega)).mono ?_
      rintro e w' ⟨rfl, rfl⟩
      go_wp2_with fail
      refine (wrap_any _ _ (by omega) (by omega)).mono ?_
      rintro e w' ⟨rfl, rfl⟩
      go_wp2_with fail
      go_round
      case rel => exact ⟨k + 1, by omega, by go_num, by rw [HS.out, Sm.run_append]; rfl, val_u32 (by rw [HS.out, Sm.run_append]; simp only [Sm.run]; omega)⟩
      case measure => simp [intOf]; omega
    · go_wp2_with fail
      refine (whole_any _ _ _ hb.1 hb.2.1 hb.2.2.1 hb.2.2.2).mono ?_
      rintro e w' ⟨rfl, rfl⟩
      go_wp2_with fail
      go_ret
      exact ⟨ret_u32 (by rw [List.take_of_length_le (by simp; omega)]; rfl), rfl⟩

theorem of_any (s : ByteArray) (w : World) (hs : s.size ≤ maxLen) :
    Calls Try.prog 10 #[.string s] w fun e w' => e = .returned (.int .u32 (Sm.addS 1 s.data.toList)) ∧ w = w' := by
  go_enter Try.func10, Try.ntmps10
  go_wp2_with fail
  refine (add_any _ _ _ (by omega) (by omega) hs).mono ?_
  rintro e w' ⟨rfl, rfl⟩
  go_wp2_with fail
  go_ret
  exact ⟨rfl, rfl⟩

theorem check_any (s : ByteArray) (y : Int) (w : World) (hs : s.size ≤ maxLen) :
    Calls Try.prog 16 #[.string s, .int .u32 y] w fun e w' => e = .returned (.bool (Sm.addS 1 s.data.toList == y)) ∧ w = w' := by
  go_enter Try.func16, Try.ntmps16
  go_wp2_with fail
  refine (of_any _ _ hs).mono ?_
  rintro e w' ⟨rfl, rfl⟩
  go_wp2_with fail
  go_ret
  exact ⟨rfl, rfl⟩

theorem join_any (x y many : Int) (w : World) (h0 : 0 ≤ x) (h1 : x < 4294967296) (h2 : 0 ≤ y) (h3 : y < 4294967296) (h4 : -9223372036854775808 ≤ many) (h5 : many < 9223372036854775808) :
    Calls Try.prog 14 #[.int .u32 x, .int .u32 y, .int .i64 many] w fun e w' => e = .returned (.int .u32 (Sm.joinS x y many)) ∧ w = w' := by
  have a1 := Sm.lo_bd x
  have a2 := Sm.hi_bd x
  have a3 := Sm.lo_bd y
  have a4 := Sm.hi_bd y
  go_enter Try.func14, Try.ntmps14
  go_wp2_with fail
  refine (halves_any _ _ h0 h1).mono ?_
  rintro e w' ⟨rfl, rfl⟩
  go_wp2_with fail
  refine (halves_any _ _ h2 h3).mono ?_
  rintro e w' ⟨rfl, rfl⟩
  go_wp2_with fail
  refine (wrap_any _ _ (by omega) (by omega)).mono ?_
  rintro e w' ⟨rfl, rfl⟩
  go_wp2_with fail
  refine (wrap_any _ _ (by omega) (by omega)).mono ?_
  rintro e w' ⟨rfl, rfl⟩
  go_wp2_with fail
  refine (wrap_any _ _ (by omega) (by omega)).mono ?_
  rintro e w' ⟨rfl, rfl⟩
  go_wp2_with fail
  refine (times_any _ _ _ (by omega) (by omega) h4 h5).mono ?_
  rintro e w' ⟨rfl, rfl⟩
  go_wp2_with fail
  refine (wrap_any _ _ (by omega) (by omega)).mono ?_
  rintro e w' ⟨rfl, rfl⟩
  go_wp2_with fail
  refine (whole_any _ _ _ (by omega) (by omega) (by omega) (by omega)).mono ?_
  rintro e w' ⟨rfl, rfl⟩
  go_wp2_with fail
  go_ret
  exact ⟨ret_u32 (by unfold Sm.joinS; rw [show Sm.lo x + 65521 - 1 = Sm.lo x + 65520 from by omega]; omega), rfl⟩

-- the document's own answer
theorem radd_any (x : Int) (s : ByteArray) (w : World) (h0 : 0 ≤ x) (h1 : x < 4294967296) (hs : s.size ≤ maxLen) :
    Calls Try.prog 13 #[.int .u32 x, .string s] w fun e w' => e = .returned (.int .u32 (Sm.addS x s.data.toList)) ∧ w = w' := by
  unfold maxLen at hs
  have hlo := Sm.lo_bd x
  have hhi := Sm.hi_bd x
  go_enter Try.func13, Try.ntmps13
  go_wp2_with fail
  go_loop [5, 6, 7] (fun a b i => ∃ k : Nat, k ≤ s.size ∧ i = .int .i64 k ∧ a = .int .u32 (Sm.run (Sm.lo x) (Sm.hi x) (s.data.toList.take k)).1 ∧ b = .int .u32 (Sm.run (Sm.lo x) (Sm.hi x) (s.data.toList.take k)).2) (fun _ _ i => s.size - (intOf i).toNat)
  case atStart => exact ⟨0, Nat.zero_le _, rfl, rfl, rfl⟩
  case round =>
    obtain ⟨k, hk, rfl, rfl, rfl⟩ := hrel
    have hb := Sm.run_bd (s.data.toList.take k) _ _ hlo.1 hlo.2 hhi.1 hhi.2
    by_cases hlt : k < s.size
    · have hc := Nat.le_of_lt_succ s[k].toNat_lt
      have hsn := take_snoc s k hlt
      have HS := Lib.hid hsn
      clear hsn
      go_wp2_with fail
      go_round
      case rel => exact ⟨k + 1, by omega, by go_num, by rw [HS.out, Sm.run_append]; rfl, val_u32 (by rw [HS.out, Sm.run_append]; simp only [Sm.run])⟩
      case measure => simp [intOf]; omega
    · go_wp2_with fail
      go_ret
      exact ⟨ret_u32 (by rw [List.take_of_length_le (by simp; omega)]; rfl), rfl⟩
theorem rof_any (s : ByteArray) (w : World) (hs : s.size ≤ maxLen) :
    Calls Try.prog 11 #[.string s] w fun e w' => e = .returned (.int .u32 (Sm.addS 1 s.data.toList)) ∧ w = w' := by
  go_enter Try.func11, Try.ntmps11
  go_wp2_with fail
  refine (radd_any _ _ _ (by omega) (by omega) hs).mono ?_
  rintro e w' ⟨rfl, rfl⟩
  go_wp2_with fail
  go_ret
  exact ⟨rfl, rfl⟩
theorem rjoin_any (x y many : Int) (w : World) (h0 : 0 ≤ x) (h1 : x < 4294967296) (h2 : 0 ≤ y) (h3 : y < 4294967296) (h4 : -9223372036854775808 ≤ many) (h5 : many < 9223372036854775808) :
    Calls Try.prog 15 #[.int .u32 x, .int .u32 y, .int .i64 many] w fun e w' => e = .returned (.int .u32 (Sm.joinS x y many)) ∧ w = w' := by
  have hp : 0 ≤ many % 65521 * ((x % 65536 + 65520) % 65521) := Int.mul_nonneg (by omega) (by omega)
  have hq : many % 65521 * ((x % 65536 + 65520) % 65521) ≤ 65520 * 65520 := Int.mul_le_mul (by omega) (by omega) (by omega) (by omega)
  have hu : (x % 65536 + 65520) % 65521 = (Sm.lo x + 65520) % 65521 := by unfold Sm.lo; omega
  have hc := Int.mul_comm (many % 65521) ((x % 65536 + 65520) % 65521)
  rcases Int.lt_or_le many 0 with hm | hm
  · have hx : max many 0 = 0 := by omega
    have H := Lib.hid hx
    clear hx hc hu hp hq
    go_enter Try.func15, Try.ntmps15
    go_wp2_with fail
    go_ret
    exact ⟨ret_u32 (by unfold Sm.joinS Sm.lo Sm.hi; rw [H.out]; simp), rfl⟩
  · have hx : max many 0 = many := by omega
    have H := Lib.hid hx
    have HC := Lib.hid hc
    have HU := Lib.hid hu
    clear hx hc hu
    go_enter Try.func15, Try.ntmps15
    go_wp2_with fail
    go_ret
    exact ⟨ret_u32 (by unfold Sm.joinS; rw [H.out, HC.out, HU.out]; unfold Sm.lo Sm.hi; omega), rfl⟩
end Go.Proofs.Ytikojhcnafnjoaa
