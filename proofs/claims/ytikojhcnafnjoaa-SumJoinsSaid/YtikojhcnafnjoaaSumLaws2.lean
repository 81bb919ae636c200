/- The laws of the checksum that make bytes. -/
import Derived.Test.YtikojhcnafnjoaaSumLaws
import Derived.LoopN
import Derived.Handy
set_option linter.unusedVariables false
namespace Go.Proofs.Ytikojhcnafnjoaa
open Go.RowKit

theorem set_two (L : List UInt8) (a b x y : UInt8) (R : List UInt8) : ((L ++ a :: b :: R).set L.length x).set (L.length + 1) y = L ++ x :: y :: R := by
  simp
theorem xor_u8 (a b : UInt8) : bits .xor .u8 (a.toNat : Int) (b.toNat : Int) = ((a ^^^ b).toNat : Int) := by
  rw [u8_xor_nat _ _ a.toNat_lt b.toNat_lt, UInt8.toNat_xor]
theorem size_mk (l : List UInt8) : ByteArray.size ⟨l.toArray⟩ = l.length := by simp [ByteArray.size]
theorem Try.uBytes : Try.prog.underlying 31 = some (.slice 5) := Try.underlying31
theorem turns_walk (s : ByteArray) (k : Int) (u : UInt8) (w : World) (hs : s.size ≤ 140737488351232) (k0 : 0 ≤ k) (k1 : k ≤ 65535) :
    Calls Try.prog 5 #[.string s, .int .u16 k, .int .u8 (u.toNat : Int)] w fun e w' => e = .returned (.bool true) ∧ Below w.heap.size w w' := by
  obtain ⟨w1, cap, hr, c1, c2, hz, hb, hB⟩ := bytes_spec (P := Try.prog) w 9 31 5 (s ++ ⟨#[121, 122]⟩) Try.underlying9 Try.uBytes Try.underlying5
  obtain ⟨K, hK⟩ : ∃ K : Nat, k % ((s.size : Int) + 2 - 1) = (K : Int) := ⟨(k % ((s.size : Int) + 2 - 1)).toNat, by rw [Int.toNat_of_nonneg (Int.emod_nonneg _ (by omega))]⟩
  have hlt : (K : Int) < (s.size : Int) + 1 := by rw [← hK]; have := Int.emod_lt_of_pos k (b := (s.size : Int) + 2 - 1) (by omega); omega
  have hk2 : K + 1 < (s ++ ⟨#[121, 122]⟩).data.toList.length := by
    rw [data_add, List.length_append, ← Int.ofNat_lt, Int.natCast_add, Int.natCast_add, ← len_of s]; simp; omega
  generalize hl : (s ++ ⟨#[121, 122]⟩).data.toList = l at *
  obtain ⟨L, x, y, R, rfl, hL⟩ : ∃ L x y R, l = L ++ x :: y :: R ∧ L.length = K := by
    refine ⟨l.take K, l[K], l[K + 1], l.drop (K + 2), ?_, by simp; omega⟩
    rw [← List.drop_eq_getElem_cons, ← List.drop_eq_getElem_cons, List.take_append_drop]
  subst hL
  have g1 := hB.get L.length (by simp) (x := x) (by simp)
  have g2 := hB.get (L.length + 1) (by simp) (x := y) (by simp)
  have f1 := hB.free L.length (by simp)
  have f2 := hB.free (L.length + 1) (by simp)
  have HL := Lib.hid hl
  have HB := Lib.hid hB
  have hn : s.size + 2 = (L ++ x :: y :: R).length := by rw [← hl, data_add, List.length_append, Array.length_toList]; rfl
  have HN := Lib.hid hn
  have sr := string_spec (P := Try.prog) w1 31 9 5 w.heap.size (s.size + 2) cap (L ++ x :: y :: R) Try.uBytes Try.underlying5 Try.underlying9 hB.1 hn
  have hm : ByteArray.size ⟨(L ++ x :: y :: R).toArray⟩ ≤ maxLen := by rw [size_mk, ← hn]; unfold maxLen; omega
  clear hl hB hk2 hn
  go_enter Try.func5, Try.ntmps5
  go_wp2_with fail
  refine (sum_examples _).mono ?_
  rintro e w' ⟨rfl, rfl⟩
  go_wp2_with fail
  refine (of_any _ _ hm).mono ?_
  rintro e w' ⟨rfl, rfl⟩
  go_wp2_with fail
  clear sr hr
  have B1 := (HB.out.set L.length (by simp) y).set (L.length + 1) (by simp) x
  have b1 : Below w.heap.size w ((w1.setCell ⟨w.heap.size, L.length, none⟩ (.int .u8 (y.toNat : Int))).setCell ⟨w.heap.size, L.length + 1, none⟩ (.int .u8 (x.toNat : Int))) :=
    (hb.setCell (Nat.le_refl _) _).setCell (Nat.le_refl _) _
  rw [set_two] at B1
  have hm2 : ByteArray.size ⟨(L ++ y :: x :: R).toArray⟩ ≤ maxLen := by rw [size_mk] at hm ⊢; simpa using hm
  have hm3 : ByteArray.size ⟨(L ++ (x ^^^ u) :: y :: R).toArray⟩ ≤ maxLen := by rw [size_mk] at hm ⊢; simpa using hm
  have hx := xor_u8 x u
  clear g1 g2 f1 f2 HB
  generalize (w1.setCell ⟨w.heap.size, L.length, none⟩ (.int .u8 (y.toNat : Int))).setCell ⟨w.heap.size, L.length + 1, none⟩ (.int .u8 (x.toNat : Int)) = w2 at *
  have g1 := B1.get L.length (by simp) (x := y) (by simp)
  have g2 := B1.get (L.length + 1) (by simp) (x := x) (by simp)
  have f1 := B1.free L.length (by simp)
  have f2 := B1.free (L.length + 1) (by simp)
  rw [string_spec (P := Try.prog) w2 31 9 5 w.heap.size (s.size + 2) cap (L ++ y :: x :: R) Try.uBytes Try.underlying5 Try.underlying9 B1.1 (by rw [HN.out]; simp)]
  have HB := Lib.hid B1
  clear B1 hb hz
  go_wp2_with fail
  refine (of_any _ _ hm2).mono ?_
  rintro e w' ⟨rfl, rfl⟩
  go_wp2_with fail
  have B2 := (HB.out.set L.length (by simp) (x ^^^ u)).set (L.length + 1) (by simp) y
  rw [set_two, UInt8.toNat_xor] at B2
  have b2 : Below w.heap.size w ((w2.setCell ⟨w.heap.size, L.length, none⟩ (.int .u8 ((x.toNat ^^^ u.toNat : Nat) : Int))).setCell ⟨w.heap.size, L.length + 1, none⟩ (.int .u8 (y.toNat : Int))) :=
    (b1.setCell (Nat.le_refl _) _).setCell (Nat.le_refl _) _
  generalize (w2.setCell ⟨w.heap.size, L.length, none⟩ (.int .u8 ((x.toNat ^^^ u.toNat : Nat) : Int))).setCell ⟨w.heap.size, L.length + 1, none⟩ (.int .u8 (y.toNat : Int)) = w3 at *
  rw [string_spec (P := Try.prog) w3 31 9 5 w.heap.size (s.size + 2) cap (L ++ (x ^^^ u) :: y :: R) Try.uBytes Try.underlying5 Try.underlying9 B2.1 (by rw [HN.out]; simp)]
  clear B2 g1 g2 f1 f2 b1 HB hx
  have e1 : (Sm.addS 1 (L ++ (x ^^^ u) :: y :: R) == Sm.addS 1 (L ++ x :: y :: R)) = ((u.toNat : Int) == 0) := by
    rw [Bool.eq_iff_iff, beq_iff_eq, beq_iff_eq, Sm.other_one]
    constructor
    · intro h
      have : x ^^^ x = x ^^^ (x ^^^ u) := congrArg (x ^^^ ·) h
      rw [← UInt8.xor_assoc, UInt8.xor_self, UInt8.zero_xor] at this
      rw [← this]; rfl
    · intro h
      have : u = 0 := UInt8.toNat_inj.1 (by simpa using h)
      rw [this, UInt8.xor_zero]
  have e2 : (Sm.addS 1 (L ++ y :: x :: R) == Sm.addS 1 (L ++ x :: y :: R)) = ((x.toNat : Int) == (y.toNat : Int)) := by
    rw [Bool.eq_iff_iff, beq_iff_eq, beq_iff_eq, Sm.other_way]
    constructor
    · rintro rfl; rfl
    · intro h; exact UInt8.toNat_inj.1 (by omega)
  go_wp2_with fail
  refine (of_any _ _ hm3).mono ?_
  rintro e w' ⟨rfl, rfl⟩
  go_wp2_with fail
  go_ret
  exact ⟨ret_bool (by simp), b2⟩
theorem zeros_walk (many x : Int) (s : ByteArray) (w : World) (m0 : 0 ≤ many) (m1 : many ≤ 255) (hs : s.size ≤ 140737488351232) (x0 : 0 ≤ x) (x1 : x ≤ 4294967295) :
    Calls Try.prog 7 #[.int .u8 many, .string s, .int .u32 x] w fun e w' => e = .returned (.bool true) ∧ Below w.heap.size w w' := by
  obtain ⟨n, rfl⟩ := Int.eq_ofNat_of_zero_le m0
  obtain ⟨w1, hr, hz, hb, hB⟩ := make_bytes_spec (P := Try.prog) w 31 5 n Try.uBytes (by kernel_rfl) (by omega)
  have sr := string_spec (P := Try.prog) w1 31 9 5 w.heap.size n n (List.replicate n 0) Try.uBytes Try.underlying5 Try.underlying9 hB.1 (by simp)
  have hm : ByteArray.size ⟨(List.replicate n (0 : UInt8)).toArray⟩ ≤ maxLen := by rw [size_mk]; simp; unfold maxLen; omega
  have hm2 : ((⟨(List.replicate n (0 : UInt8)).toArray⟩ : ByteArray) ++ s).size ≤ maxLen := by rw [ByteArray.size_append, size_mk]; simp; unfold maxLen; omega
  have ms : s.size ≤ maxLen := by unfold maxLen; omega
  have e1 : Sm.addS 1 ((⟨(List.replicate n (0 : UInt8)).toArray⟩ : ByteArray)).data.toList = (n : Int) * 65536 + 1 := Sm.of_zeros n (by omega)
  have e2 : Sm.joinS ((n : Int) * 65536 + 1) (Sm.addS 1 s.data.toList) (s.size : Int) = Sm.addS 1 ((⟨(List.replicate n (0 : UInt8)).toArray⟩ : ByteArray) ++ s).data.toList := by
    rw [← e1, Sm.join_of _ _ _ _ (len_of s), data_add]
  have e3 := Sm.add_less x s.data.toList
  have e4 := Sm.add_less x []
  have e5 := Sm.addS_bd x []
  have e6 := Sm.addS_bd 1 s.data.toList
  have e7 := and_low (Sm.addS x []) e5.1 e5.2
  have e8 := or_join 1 (n : Int) (by omega) (by omega) (by omega) (by omega)
  have l1 := Sm.lo_bd x
  have l2 := Sm.hi_bd x
  have e9 : Sm.addS x [] = Sm.hi x * 65536 + Sm.lo x := Sm.add_nil x
  have t1 : decide (Sm.addS x [] / 65536 < 65521) = true := by rw [e9]; simp; omega
  have t2 : decide (Sm.addS x [] % 65536 < 65521) = true := by rw [e9]; simp; omega
  have E1 := Lib.hid e1
  have E2 := Lib.hid e2
  have E3 := Lib.hid e3
  have E4 := Lib.hid e4
  clear e1 e2 e3 e4 e9
  go_enter Try.func7, Try.ntmps7
  go_wp2_with fail
  refine (sum_examples _).mono ?_
  rintro e w' ⟨rfl, rfl⟩
  go_wp2_with fail
  refine (add_any _ _ _ (by omega) (by omega) (by decide)).mono ?_
  rintro e w' ⟨rfl, rfl⟩
  go_wp2_with fail
  refine (of_at _ _ _ hm E1.out).mono ?_
  rintro e w' ⟨rfl, rfl⟩
  go_wp2_with fail
  refine (of_any _ _ hm2).mono ?_
  rintro e w' ⟨rfl, rfl⟩
  go_wp2_with fail
  refine (of_any _ _ ms).mono ?_
  rintro e w' ⟨rfl, rfl⟩
  go_wp2_with fail
  refine (join_at _ _ _ _ _ (by omega) (by omega) e6.1 e6.2 (by omega) (by omega) E2.out).mono ?_
  rintro e w' ⟨rfl, rfl⟩
  go_wp2_with fail
  refine (add_at _ _ _ _ e5.1 e5.2 ms E3.out).mono ?_
  rintro e w' ⟨rfl, rfl⟩
  go_wp2_with fail
  refine (add_any _ _ _ (by omega) (by omega) ms).mono ?_
  rintro e w' ⟨rfl, rfl⟩
  go_wp2_with fail
  refine (add_at _ _ _ _ e5.1 e5.2 (by decide) E4.out).mono ?_
  rintro e w' ⟨rfl, rfl⟩
  go_wp2_with fail
  go_ret
  exact ⟨ret_bool (by simp), hb⟩

theorem few_walk (g off n cap : Nat) (len : Nat) (l : List UInt8) (w : World) (hl : len ≤ cap) (hc : cap ≤ 140737488351232) (hn : n = min len 12) (hL : l.length = n) (hB : Bts w g off l) :
    Calls Try.prog 6 #[.slice (some ⟨g, off, none⟩) len cap] w fun e w' => e = .returned (.bool true) ∧ Below w.heap.size w w' := by
  have sr := string_at (P := Try.prog) w 31 9 5 g off n cap l Try.uBytes Try.underlying5 Try.underlying9 hB hL.symm
  have hmin : min (len : Int) 12 = (n : Int) := by omega
  have n12 : n ≤ 12 := by omega
  have nl : n ≤ len := by omega
  have h1 := Sm.total_le l
  have h2 := Sm.weigh_le l
  have h3 := Sm.total_nonneg l
  have h4 := Sm.weigh_nonneg l
  have h5 : (l.length : Int) * (l.length : Int) ≤ 12 * 12 := Int.mul_le_mul (by omega) (by omega) (by omega) (by omega)
  have hm : ByteArray.size ⟨l.toArray⟩ ≤ maxLen := by rw [size_mk, hL]; unfold maxLen; omega
  have few := Sm.of_few l (by omega)
  rw [hL] at few h1 h2 h5
  have HF := Lib.hid few
  have HL := Lib.hid hL
  have HB := Lib.hid hB
  clear few hL hn hB
  have hs : ∃ N : Int, N = (n : Int) ∧ ((12 < len ∧ N = 12) ∨ (len ≤ 12 ∧ N = (len : Int))) := by
    rcases Nat.lt_or_ge 12 len with h | h
    · exact ⟨n, rfl, .inl ⟨h, by omega⟩⟩
    · exact ⟨n, rfl, .inr ⟨h, by omega⟩⟩
  obtain ⟨N, hN, hc2⟩ := hs
  have h12 : (12 : Int) < (len : Int) ∨ (len : Int) ≤ 12 := by omega
  have HN := Lib.hid hN
  rcases hc2 with ⟨g1, rfl⟩ | ⟨g1, rfl⟩
  · obtain rfl : n = 12 := by omega
    clear hN hmin h12
    go_enter Try.func6, Try.ntmps6
    go_wp2_with fail
    refine (sum_examples _).mono ?_
    rintro e w' ⟨rfl, rfl⟩
    go_wp2_with fail
    go_loop [4, 5, 6] (fun a b i => ∃ k : Nat, k ≤ 12 ∧ i = .int .i64 k ∧ a = .int .u32 (1 + Sm.total l - Sm.total (l.drop k)) ∧ b = .int .u32 (12 + Sm.weigh l - Sm.weigh (l.drop k))) (fun _ _ i => 12 - (intOf i).toNat)
    case atStart => exact ⟨0, Nat.zero_le _, rfl, val_int (by simp), val_int (by simp)⟩
    case round =>
      obtain ⟨k, hk, rfl, rfl, rfl⟩ := hrel
      have d := Sm.drop_bd l k
      by_cases hlt : k < 12
      · have d' := Sm.drop_bd l (k + 1)
        have hlt' : k < l.length := by have := HL.out; omega
        have st := Sm.drop_step l k hlt'
        have gc := HB.out k hlt'
        have c1 := u8_lt l[k]
        generalize l[k] = c at *
        have p1 : 0 ≤ (c.toNat : Int) * ((12 : Int) - (k : Int)) := Int.mul_nonneg c1.1 (by omega)
        have p2 : (c.toNat : Int) * ((12 : Int) - (k : Int)) ≤ 255 * 12 := Int.mul_le_mul (by omega) (by omega) (by omega) (by omega)
        have hw : ((l.length : Int) - (k : Int)) = (12 : Int) - (k : Int) := by rw [HL.out]; omega
        rw [hw] at st
        have ST := Lib.hid st
        clear st hw
        go_wp2_with fail
        go_round
        case rel => exact ⟨k + 1, by omega, by go_num, val_int (by rw [ST.out.1]; omega), val_int (by rw [ST.out.2]; omega)⟩
        case measure => simp [intOf]; omega
      · obtain rfl : k = 12 := by omega
        have hd : l.drop 12 = [] := List.drop_eq_nil_of_le (by rw [HL.out]; omega)
        have z1 : Sm.total (l.drop 12) = 0 := by rw [hd]; rfl
        have z2 : Sm.weigh (l.drop 12) = 0 := by rw [hd]; rfl
        have e1 : bits .or .u32 ((12 + Sm.weigh l) * 65536) (1 + Sm.total l) = (12 + Sm.weigh l) * 65536 + (1 + Sm.total l) := or_join _ _ (by omega) (by omega) (by omega) (by omega)
        clear hlt hd
        go_wp2_with fail
        refine (of_at _ ((12 + Sm.weigh l) * 65536 + (1 + Sm.total l)) _ hm (by have := HF.out; simpa using this)).mono ?_
        rintro e w' ⟨rfl, rfl⟩
        go_wp2_with fail
        go_ret
        exact ⟨rfl, Below.refl _ _⟩
  · obtain rfl : len = n := by omega
    clear hN hmin h12
    go_enter Try.func6, Try.ntmps6
    go_wp2_with fail
    refine (sum_examples _).mono ?_
    rintro e w' ⟨rfl, rfl⟩
    go_wp2_with fail
    go_loop [4, 5, 6] (fun a b i => ∃ k : Nat, k ≤ len ∧ i = .int .i64 k ∧ a = .int .u32 (1 + Sm.total l - Sm.total (l.drop k)) ∧ b = .int .u32 ((len : Int) + Sm.weigh l - Sm.weigh (l.drop k))) (fun _ _ i => len - (intOf i).toNat)
    case atStart => exact ⟨0, Nat.zero_le _, rfl, val_int (by simp), val_int (by simp)⟩
    case round =>
      obtain ⟨k, hk, rfl, rfl, rfl⟩ := hrel
      have d := Sm.drop_bd l k
      by_cases hlt : k < len
      · have d' := Sm.drop_bd l (k + 1)
        have hlt' : k < l.length := by have := HL.out; omega
        have st := Sm.drop_step l k hlt'
        have gc := HB.out k hlt'
        have c1 := u8_lt l[k]
        generalize l[k] = c at *
        have p1 : 0 ≤ (c.toNat : Int) * ((len : Int) - (k : Int)) := Int.mul_nonneg c1.1 (by omega)
        have p2 : (c.toNat : Int) * ((len : Int) - (k : Int)) ≤ 255 * 12 := Int.mul_le_mul (by omega) (by omega) (by omega) (by omega)
        have hw : ((l.length : Int) - (k : Int)) = (len : Int) - (k : Int) := by rw [HL.out]
        rw [hw] at st
        have ST := Lib.hid st
        clear st hw
        go_wp2_with fail
        go_round
        case rel => exact ⟨k + 1, by omega, by go_num, val_int (by rw [ST.out.1]; omega), val_int (by rw [ST.out.2]; omega)⟩
        case measure => simp [intOf]; omega
      · obtain rfl : len = k := by omega
        have hd : l.drop len = [] := List.drop_eq_nil_of_le (by rw [HL.out]; omega)
        have z1 : Sm.total (l.drop len) = 0 := by rw [hd]; rfl
        have z2 : Sm.weigh (l.drop len) = 0 := by rw [hd]; rfl
        have e1 : bits .or .u32 (((len : Int) + Sm.weigh l) * 65536) (1 + Sm.total l) = ((len : Int) + Sm.weigh l) * 65536 + (1 + Sm.total l) := or_join _ _ (by omega) (by omega) (by omega) (by omega)
        clear hlt hd
        go_wp2_with fail
        refine (of_at _ (((len : Int) + Sm.weigh l) * 65536 + (1 + Sm.total l)) _ hm (by have := HF.out; simpa using this)).mono ?_
        rintro e w' ⟨rfl, rfl⟩
        go_wp2_with fail
        go_ret
        exact ⟨rfl, Below.refl _ _⟩
theorem none_walk (a : Option Addr) (w : World) :
    Calls Try.prog 6 #[.slice a 0 0] w fun e w' => e = .returned (.bool true) ∧ Below w.heap.size w w' := by
  have sr : (convert 31 9 (.slice a 0 0)).run Try.prog w = .ok (.string ⟨#[]⟩) w := by
    cases a with
    | none => kernel_rfl
    | some x => exact run_convert_bytes_back w _ _ _ x 0 [] Try.uBytes Try.underlying5 Try.underlying9 (fun j hj => by cases hj)
  have h0 : decide ((0 : Nat) < 0) = false := rfl
  go_enter Try.func6, Try.ntmps6
  go_wp2_with fail
  refine (sum_examples _).mono ?_
  rintro e w' ⟨rfl, rfl⟩
  go_wp2_with fail
  refine wp_loop_rounds 1 ?_
  rw [rounds_succ]
  go_wp2_with fail
  refine (of_at _ 1 _ (by decide) (by decide)).mono ?_
  rintro e w' ⟨rfl, rfl⟩
  go_wp2_with fail
  go_ret
  exact ⟨rfl, Below.refl _ _⟩
theorem law_SumBytes (a : Option Addr) (len cap : Nat) (l : List UInt8) (w : World) (h : BArg w a len cap l) :
    Calls Try.prog 6 #[.slice a len cap] w fun e w' => e = .returned (.bool true) ∧ Below w.heap.size w w' := by
  rcases h with ⟨rfl, rfl, rfl⟩ | ⟨g, off, rfl, hL, hl, hc, hB⟩
  · exact none_walk a w
  · exact few_walk g off _ cap len (l.take (min len 12)) w hl hc rfl (by simp; omega) (hB.take _)
theorem law_SumTurns (s : ByteArray) (k b : Int) (w : World) (hs : s.size ≤ 140737488351232) (k0 : 0 ≤ k) (k1 : k ≤ 65535) (b0 : 0 ≤ b) (b1 : b ≤ 255) :
    Calls Try.prog 5 #[.string s, .int .u16 k, .int .u8 b] w fun e w' => e = .returned (.bool true) ∧ Below w.heap.size w w' := by
  obtain ⟨u, rfl⟩ : ∃ u : UInt8, b = (u.toNat : Int) := ⟨UInt8.ofNat b.toNat, by simp; omega⟩
  exact turns_walk s k u w hs k0 k1
theorem law_SumZeros (many : Int) (s : ByteArray) (x : Int) (w : World) (m0 : 0 ≤ many) (m1 : many ≤ 255) (hs : s.size ≤ 140737488351232) (x0 : 0 ≤ x) (x1 : x ≤ 4294967295) :
    Calls Try.prog 7 #[.int .u8 many, .string s, .int .u32 x] w fun e w' => e = .returned (.bool true) ∧ Below w.heap.size w w' :=
  zeros_walk many x s w m0 m1 hs x0 x1
theorem law_SumTells (s : ByteArray) (a b c many : Int) (near : Bool) (w : World) (hs : s.size ≤ 140737488351232) (a0 : 0 ≤ a) (a1 : a ≤ 4294967295) (b0 : 0 ≤ b) (b1 : b ≤ 4294967295) (c0 : 0 ≤ c) (c1 : c ≤ 4294967295)
    (m0 : -9223372036854775808 ≤ many) (m1 : many ≤ 9223372036854775807) :
    Calls Try.prog 3 #[.string s, .int .u32 a, .int .u32 b, .int .u32 c, .int .i64 many, .bool near] w fun e w' => e = .returned (.bool true) ∧ Below w.heap.size w w' :=
  tells_walk s a b c many near w hs a0 a1 b0 b1 c0 c1 m0 m1
theorem law_SumJoins (a b c : ByteArray) (w : World) (ha : a.size ≤ 140737488351232) (hb : b.size ≤ 140737488351232) (hc : c.size ≤ 140737488351232) :
    Calls Try.prog 4 #[.string a, .string b, .string c] w fun e w' => e = .returned (.bool true) ∧ Below w.heap.size w w' :=
  joins_walk a b c w ha hb hc
theorem law_SumJoinsBy (x y many : Int) (w : World) (x0 : 0 ≤ x) (x1 : x ≤ 4294967295) (y0 : 0 ≤ y) (y1 : y ≤ 4294967295) (m0 : -9223372036854775808 ≤ many) (m1 : many ≤ 9223372036854775807) :
    Calls Try.prog 8 #[.int .u32 x, .int .u32 y, .int .i64 many] w fun e w' => e = .returned (.bool true) ∧ Below w.heap.size w w' :=
  joinsby_walk x y many w x0 x1 y0 y1 m0 m1
end Go.Proofs.Ytikojhcnafnjoaa
