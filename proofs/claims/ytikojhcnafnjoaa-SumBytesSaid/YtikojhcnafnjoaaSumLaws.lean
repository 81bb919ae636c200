/- The laws of the checksum: each walk answers true. -/
import Derived.Test.YtikojhcnafnjoaaSum
import Derived.Below
set_option linter.unusedVariables false
namespace Go.Proofs.Ytikojhcnafnjoaa
open Go.RowKit

theorem of_at (s : ByteArray) (v : Int) (w : World) (hs : s.size ≤ maxLen) (hv : Sm.addS 1 s.data.toList = v) :
    Calls Try.prog 10 #[.string s] w fun e w' => e = .returned (.int .u32 v) ∧ w = w' := by
  subst hv; exact of_any s w hs
theorem add_at (x : Int) (s : ByteArray) (v : Int) (w : World) (h0 : 0 ≤ x) (h1 : x < 4294967296) (hs : s.size ≤ maxLen) (hv : Sm.addS x s.data.toList = v) :
    Calls Try.prog 12 #[.int .u32 x, .string s] w fun e w' => e = .returned (.int .u32 v) ∧ w = w' := by
  subst hv; exact add_any x s w h0 h1 hs
theorem check_at (s : ByteArray) (y : Int) (v : Bool) (w : World) (hs : s.size ≤ maxLen) (hv : (Sm.addS 1 s.data.toList == y) = v) :
    Calls Try.prog 16 #[.string s, .int .u32 y] w fun e w' => e = .returned (.bool v) ∧ w = w' := by
  subst hv; exact check_any s y w hs
theorem join_at (x y many v : Int) (w : World) (h0 : 0 ≤ x) (h1 : x < 4294967296) (h2 : 0 ≤ y) (h3 : y < 4294967296) (h4 : -9223372036854775808 ≤ many) (h5 : many < 9223372036854775808) (hv : Sm.joinS x y many = v) :
    Calls Try.prog 14 #[.int .u32 x, .int .u32 y, .int .i64 many] w fun e w' => e = .returned (.int .u32 v) ∧ w = w' := by
  subst hv; exact join_any x y many w h0 h1 h2 h3 h4 h5

theorem sum_examples (w : World) :
    Calls Try.prog 9 #[] w fun e w' => e = .returned (.bool true) ∧ w = w' := by
  go_enter Try.func9, Try.ntmps9
  go_wp2_with fail
  refine (of_at _ 38600999 _ (by decide) (by decide)).mono ?_
  rintro e w' ⟨rfl, rfl⟩
  go_wp2_with fail
  refine (of_at _ 1 _ (by decide) (by decide)).mono ?_
  rintro e w' ⟨rfl, rfl⟩
  go_wp2_with fail
  refine (add_at _ _ 38600999 _ (by decide) (by decide) (by decide) (by decide)).mono ?_
  rintro e w' ⟨rfl, rfl⟩
  go_wp2_with fail
  refine (check_at _ _ true _ (by decide) (by decide)).mono ?_
  rintro e w' ⟨rfl, rfl⟩
  go_wp2_with fail
  refine (check_at _ _ false _ (by decide) (by decide)).mono ?_
  rintro e w' ⟨rfl, rfl⟩
  go_wp2_with fail
  refine (of_at _ 19267780 _ (by decide) (by decide)).mono ?_
  rintro e w' ⟨rfl, rfl⟩
  go_wp2_with fail
  refine (of_at _ 6553700 _ (by decide) (by decide)).mono ?_
  rintro e w' ⟨rfl, rfl⟩
  go_wp2_with fail
  refine (join_at _ _ _ 38600999 _ (by decide) (by decide) (by decide) (by decide) (by decide) (by decide) (by decide)).mono ?_
  rintro e w' ⟨rfl, rfl⟩
  go_wp2_with fail
  refine (of_at _ 38600999 _ (by decide) (by decide)).mono ?_
  rintro e w' ⟨rfl, rfl⟩
  go_wp2_with fail
  go_ret
  exact ⟨rfl, rfl⟩


theorem tmod_bd (m : Int) : -200000 < m.tmod 200000 ∧ m.tmod 200000 < 200000 :=
  ⟨Int.lt_tmod_of_pos m (by decide), Int.tmod_lt_of_pos m (by decide)⟩
theorem tells_walk (s : ByteArray) (a b c many : Int) (near : Bool) (w : World) (hs : s.size ≤ 140737488351232) (a0 : 0 ≤ a) (a1 : a ≤ 4294967295) (b0 : 0 ≤ b) (b1 : b ≤ 4294967295) (c0 : 0 ≤ c) (c1 : c ≤ 4294967295)
    (m0 : -9223372036854775808 ≤ many) (m1 : many ≤ 9223372036854775807) :
    Calls Try.prog 3 #[.string s, .int .u32 a, .int .u32 b, .int .u32 c, .int .i64 many, .bool near] w fun e w' => e = .returned (.bool true) ∧ Below w.heap.size w w' := by
  have hm : s.size ≤ maxLen := by unfold maxLen; omega
  have ht := tmod_bd many
  cases near
  all_goals
    go_enter Try.func3, Try.ntmps3
    go_wp2_with fail
    refine (sum_examples _).mono ?_
    rintro e w' ⟨rfl, rfl⟩
    go_wp2_with fail
    refine (of_any _ _ hm).mono ?_
    rintro e w' ⟨rfl, rfl⟩
    go_wp2_with fail
    refine (rof_any _ _ hm).mono ?_
    rintro e w' ⟨rfl, rfl⟩
    go_wp2_with fail
    refine (add_any _ _ _ (by omega) (by omega) hm).mono ?_
    rintro e w' ⟨rfl, rfl⟩
    go_wp2_with fail
    refine (radd_any _ _ _ (by omega) (by omega) hm).mono ?_
    rintro e w' ⟨rfl, rfl⟩
    go_wp2_with fail
    refine (join_any _ _ _ _ (by omega) (by omega) (by omega) (by omega) (by omega) (by omega)).mono ?_
    rintro e w' ⟨rfl, rfl⟩
    go_wp2_with fail
    refine (rjoin_any _ _ _ _ (by omega) (by omega) (by omega) (by omega) (by omega) (by omega)).mono ?_
    rintro e w' ⟨rfl, rfl⟩
    go_wp2_with fail
    refine (check_any _ _ _ hm).mono ?_
    rintro e w' ⟨rfl, rfl⟩
    go_wp2_with fail
    refine (rof_any _ _ hm).mono ?_
    rintro e w' ⟨rfl, rfl⟩
    go_wp2_with fail
    go_ret
    exact ⟨ret_bool (by simp), Below.refl _ _⟩


theorem data_add (a b : ByteArray) : (a ++ b).data.toList = a.data.toList ++ b.data.toList := by rw [ByteArray.data_append, Array.toList_append]
theorem len_of (a : ByteArray) : (a.size : Int) = (a.data.toList.length : Int) := by rw [Array.length_toList]; rfl
theorem joins_walk (a b c : ByteArray) (w : World) (ha : a.size ≤ 140737488351232) (hb : b.size ≤ 140737488351232) (hc : c.size ≤ 140737488351232) :
    Calls Try.prog 4 #[.string a, .string b, .string c] w fun e w' => e = .returned (.bool true) ∧ Below w.heap.size w w' := by
  have ma : a.size ≤ maxLen := by unfold maxLen; omega
  have mb : b.size ≤ maxLen := by unfold maxLen; omega
  have mc : c.size ≤ maxLen := by unfold maxLen; omega
  have mab : (a ++ b).size ≤ maxLen := by rw [ByteArray.size_append]; unfold maxLen; omega
  have mabc : (a ++ b ++ c).size ≤ maxLen := by rw [ByteArray.size_append, ByteArray.size_append]; unfold maxLen; omega
  have e1 : Sm.joinS (Sm.addS 1 a.data.toList) (Sm.addS 1 b.data.toList) (b.size : Int) = Sm.addS 1 (a ++ b).data.toList := by
    rw [Sm.join_of _ _ _ _ (len_of b), data_add]
  have e2 : Sm.joinS (Sm.addS 1 b.data.toList) (Sm.addS 1 c.data.toList) (c.size : Int) = Sm.addS 1 (b ++ c).data.toList := by
    rw [Sm.join_of _ _ _ _ (len_of c), data_add]
  have e3 : Sm.addS (Sm.addS 1 a.data.toList) b.data.toList = Sm.addS 1 (a ++ b).data.toList := by
    rw [← Sm.addS_append, data_add]
  have e4 : Sm.joinS (Sm.addS 1 (a ++ b).data.toList) (Sm.addS 1 c.data.toList) (c.size : Int) = Sm.addS 1 (a ++ b ++ c).data.toList := by
    rw [Sm.join_of _ _ _ _ (len_of c), data_add _ c]
  have e5 : Sm.joinS (Sm.addS 1 a.data.toList) (Sm.addS 1 (b ++ c).data.toList) ((b.size : Int) + (c.size : Int)) = Sm.addS 1 (a ++ b ++ c).data.toList := by
    rw [Sm.join_of _ _ _ _ (by rw [data_add, List.length_append, len_of b, len_of c]; rfl)]; rw [data_add b c, data_add _ c, data_add a b, List.append_assoc]
  have E1 := Lib.hid e1
  have E2 := Lib.hid e2
  have E3 := Lib.hid e3
  have E4 := Lib.hid e4
  have E5 := Lib.hid e5
  clear e1 e2 e3 e4 e5
  have b1 : ∀ l, 0 ≤ Sm.addS 1 l ∧ Sm.addS 1 l < 4294967296 := fun l => Sm.addS_bd 1 l
  have B := Lib.hid b1
  clear b1
  go_enter Try.func4, Try.ntmps4
  go_wp2_with fail
  refine (sum_examples _).mono ?_
  rintro e w' ⟨rfl, rfl⟩
  go_wp2_with fail
  refine (of_any _ _ ma).mono ?_
  rintro e w' ⟨rfl, rfl⟩
  go_wp2_with fail
  refine (of_any _ _ mb).mono ?_
  rintro e w' ⟨rfl, rfl⟩
  go_wp2_with fail
  refine (join_at _ _ _ _ _ (B.out _).1 (B.out _).2 (B.out _).1 (B.out _).2 (by omega) (by omega) E1.out).mono ?_
  rintro e w' ⟨rfl, rfl⟩
  go_wp2_with fail
  refine (of_any _ _ mb).mono ?_
  rintro e w' ⟨rfl, rfl⟩
  go_wp2_with fail
  refine (of_any _ _ mc).mono ?_
  rintro e w' ⟨rfl, rfl⟩
  go_wp2_with fail
  refine (join_at _ _ _ _ _ (B.out _).1 (B.out _).2 (B.out _).1 (B.out _).2 (by omega) (by omega) E2.out).mono ?_
  rintro e w' ⟨rfl, rfl⟩
  go_wp2_with fail
  refine (of_any _ _ mab).mono ?_
  rintro e w' ⟨rfl, rfl⟩
  go_wp2_with fail
  refine (add_at _ _ _ _ (B.out _).1 (B.out _).2 mb E3.out).mono ?_
  rintro e w' ⟨rfl, rfl⟩
  go_wp2_with fail
  refine (of_any _ _ mc).mono ?_
  rintro e w' ⟨rfl, rfl⟩
  go_wp2_with fail
  refine (join_at _ _ _ _ _ (B.out _).1 (B.out _).2 (B.out _).1 (B.out _).2 (by omega) (by omega) E4.out).mono ?_
  rintro e w' ⟨rfl, rfl⟩
  go_wp2_with fail
  refine (of_any _ _ mabc).mono ?_
  rintro e w' ⟨rfl, rfl⟩
  go_wp2_with fail
  refine (join_at _ _ _ _ _ (B.out _).1 (B.out _).2 (B.out _).1 (B.out _).2 (by omega) (by omega) E5.out).mono ?_
  rintro e w' ⟨rfl, rfl⟩
  go_wp2_with fail
  refine (of_any _ _ mabc).mono ?_
  rintro e w' ⟨rfl, rfl⟩
  go_wp2_with fail
  refine (check_at _ _ true _ mab (by simp)).mono ?_
  rintro e w' ⟨rfl, rfl⟩
  go_wp2_with fail
  go_ret
  exact ⟨rfl, Below.refl _ _⟩

theorem joinsby_walk (x y many : Int) (w : World) (x0 : 0 ≤ x) (x1 : x ≤ 4294967295) (y0 : 0 ≤ y) (y1 : y ≤ 4294967295) (m0 : -9223372036854775808 ≤ many) (m1 : many ≤ 9223372036854775807) :
    Calls Try.prog 8 #[.int .u32 x, .int .u32 y, .int .i64 many] w fun e w' => e = .returned (.bool true) ∧ Below w.heap.size w w' := by
  have B1 := Sm.joinS_bd x 1 0
  have B2 := Sm.addS_bd y []
  by_cases hm : 0 ≤ many
  · go_enter Try.func8, Try.ntmps8
    go_wp2_with fail
    refine (sum_examples _).mono ?_
    rintro e w' ⟨rfl, rfl⟩
    go_wp2_with fail
    refine (join_any _ _ _ _ (by omega) (by omega) (by omega) (by omega) (by omega) (by omega)).mono ?_
    rintro e w' ⟨rfl, rfl⟩
    go_wp2_with fail
    refine (add_at _ _ (Sm.joinS x 1 0) _ (by omega) (by omega) (by decide) (Sm.join_nothing x).symm).mono ?_
    rintro e w' ⟨rfl, rfl⟩
    go_wp2_with fail
    refine (join_at _ _ _ _ _ (by omega) (by omega) (by omega) (by omega) (by omega) (by omega) (Sm.join_first y)).mono ?_
    rintro e w' ⟨rfl, rfl⟩
    go_wp2_with fail
    refine (add_any _ _ _ (by omega) (by omega) (by decide)).mono ?_
    rintro e w' ⟨rfl, rfl⟩
    go_wp2_with fail
    refine (add_any _ _ _ (by omega) (by omega) (by decide)).mono ?_
    rintro e w' ⟨rfl, rfl⟩
    go_wp2_with fail
    refine (join_at _ _ _ _ _ B1.1 B1.2 B2.1 B2.2 (by omega) (by omega) (Sm.join_less x y)).mono ?_
    rintro e w' ⟨rfl, rfl⟩
    go_wp2_with fail
    refine (join_any _ _ _ _ (by omega) (by omega) (by omega) (by omega) (by omega) (by omega)).mono ?_
    rintro e w' ⟨rfl, rfl⟩
    go_wp2_with fail
    go_ret
    exact ⟨ret_bool (by simp), Below.refl _ _⟩
  · go_enter Try.func8, Try.ntmps8
    go_wp2_with fail
    refine (sum_examples _).mono ?_
    rintro e w' ⟨rfl, rfl⟩
    go_wp2_with fail
    refine (join_any _ _ _ _ (by omega) (by omega) (by omega) (by omega) (by omega) (by omega)).mono ?_
    rintro e w' ⟨rfl, rfl⟩
    go_wp2_with fail
    refine (add_at _ _ (Sm.joinS x 1 0) _ (by omega) (by omega) (by decide) (Sm.join_nothing x).symm).mono ?_
    rintro e w' ⟨rfl, rfl⟩
    go_wp2_with fail
    refine (join_at _ _ _ _ _ (by omega) (by omega) (by omega) (by omega) (by omega) (by omega) (Sm.join_neg x y many (by omega))).mono ?_
    rintro e w' ⟨rfl, rfl⟩
    go_wp2_with fail
    refine (join_any _ _ _ _ (by omega) (by omega) (by omega) (by omega) (by omega) (by omega)).mono ?_
    rintro e w' ⟨rfl, rfl⟩
    go_wp2_with fail
    refine (join_at _ _ _ _ _ (by omega) (by omega) (by omega) (by omega) (by omega) (by omega) (Sm.join_first y)).mono ?_
    rintro e w' ⟨rfl, rfl⟩
    go_wp2_with fail
    refine (add_any _ _ _ (by omega) (by omega) (by decide)).mono ?_
    rintro e w' ⟨rfl, rfl⟩
    go_wp2_with fail
    refine (add_any _ _ _ (by omega) (by omega) (by decide)).mono ?_
    rintro e w' ⟨rfl, rfl⟩
    go_wp2_with fail
    refine (join_at _ _ _ _ _ B1.1 B1.2 B2.1 B2.2 (by omega) (by omega) (Sm.join_less x y)).mono ?_
    rintro e w' ⟨rfl, rfl⟩
    go_wp2_with fail
    refine (join_any _ _ _ _ (by omega) (by omega) (by omega) (by omega) (by omega) (by omega)).mono ?_
    rintro e w' ⟨rfl, rfl⟩
    go_wp2_with fail
    go_ret
    exact ⟨ret_bool (by simp), Below.refl _ _⟩
end Go.Proofs.Ytikojhcnafnjoaa
