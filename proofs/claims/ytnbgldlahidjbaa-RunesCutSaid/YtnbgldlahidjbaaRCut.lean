/- RunesCut. -/
import Derived.Test.YtnbgldlahidjbaaRRow
import Derived.Test.YtnbgldlahidjbaaRCutM
set_option linter.unusedVariables false
namespace Go.Proofs.Ytnbgldlahidjbaa
open Go.RowKit

set_option maxRecDepth 200000 in
set_option maxHeartbeats 8000000 in
theorem law_RunesCut (a : Option Addr) (len cap : Nat) (l : List UInt8) (at' : Int) (w : World) (hB0 : BArg w a len cap l) (a0 : 0 ≤ at') (a1 : at' ≤ 255) :
    Calls Try.prog 3 #[.slice a len cap, .int .u8 at'] w fun e w' => e = .returned (.bool true) ∧ Below w.heap.size w w' := by
  have HB := Lib.hid (bcells_of hB0)
  have hl := (barg_len hB0).1
  clear hB0
  go_enter Try.func3, Try.ntmps3
  go_wp2_with fail
  refine (runes_examples _).mono ?_
  rintro e' w1 ⟨rfl, hw1⟩
  go_wp2_with fail
  refine (text_any a len cap _ (HB.out.below hw1) hl).mono ?_
  rintro e' w2 ⟨S, rfl, hS, hw2⟩
  have b2 := bvia hw1 hw2
  clear hw1 hw2 HB
  obtain ⟨K, hK⟩ : ∃ K : Nat, at' % ((S.size : Int) + 1) = (K : Int) := ⟨(at' % ((S.size : Int) + 1)).toNat, by rw [Int.toNat_of_nonneg (Int.emod_nonneg _ (by omega))]⟩
  have hKs : K ≤ S.size := by have := Int.emod_lt_of_pos at' (b := (S.size : Int) + 1) (by omega); omega
  obtain ⟨pb, hpb⟩ := Rn.placed_some S (K : Int)
  have PB := Lib.hid hpb
  have hn0 : ((S.size : Int) + 1 == 0) = false := by simp; omega
  cases pb with
  | false =>
    clear hpb
    go_wp2_with fail
    refine (place_any S _ false _ (by omega) (by omega) (by omega) PB.out).mono ?_
    rintro e w3 ⟨rfl, hw3⟩
    go_wp2_with fail
    go_ret
    exact ⟨rfl, bvia b2 hw3⟩
  | true =>
    have hR := Rn.placed_is hpb
    clear hpb
    obtain ⟨j, hj, rfl⟩ := Rn.reach_idx hR
    clear hR
    have hH := Rn.cut_head hj
    have hT := Rn.cut_tail hj
    obtain ⟨A, hA⟩ : ∃ A, S.extract 0 (Rn.pos S j) = A := ⟨_, rfl⟩
    obtain ⟨B, hB⟩ : ∃ B, S.extract (Rn.pos S j) S.size = B := ⟨_, rfl⟩
    have hAz := Rn.size_ext S 0 (Rn.pos S j) (by omega) hKs
    have hBz := Rn.size_ext S (Rn.pos S j) S.size hKs (Nat.le_refl _)
    rw [hA] at hH hAz
    rw [hB] at hT hBz
    have HH := Lib.hid hH
    have HT := Lib.hid hT
    have hAs : A.size ≤ 96 := by omega
    have hBs : B.size ≤ 96 := by omega
    have hcA : Rn.cnt A ≤ 96 := by have := Rn.cnt_le A; omega
    have hcB : Rn.cnt B ≤ 96 := by have := Rn.cnt_le B; omega
    have hcS : Rn.cnt S ≤ 96 := by have := Rn.cnt_le S; omega
    have hsum : (Rn.cnt S : Int) = (Rn.cnt A : Int) + (Rn.cnt B : Int) := by rw [hH.2.2, hT.2.1]; omega
    clear hH hT hAz hBz
    go_wp2_with fail
    refine (place_any S _ true _ (by omega) (by omega) (by omega) PB.out).mono ?_
    rintro e w3 ⟨rfl, hw3⟩
    have b3 := bvia b2 hw3
    clear hw3 b2
    go_wp2_with fail
    refine (all_u A _ (by omega)).mono ?_
    rintro e' w4 ⟨p1, cap1, rfl, hc1, hu1, hw4⟩
    have b4 := bvia b3 hw4
    have U1 := Lib.hid hu1
    clear hw4 b3 hu1
    go_wp2_with fail
    refine (all_u B _ (by omega)).mono ?_
    rintro e' w5 ⟨p2, cap2, rfl, hc2, hu2, hw5⟩
    have b5 := bvia b4 hw5
    have U1' := Lib.hid (U1.out.below hw5)
    have U2 := Lib.hid hu2
    clear hw5 b4 hu2 U1
    go_wp2_with fail
    refine (all_u S _ (by omega)).mono ?_
    rintro e' w6 ⟨p3, cap3, rfl, hc3, hu3, hw6⟩
    have b6 := bvia b5 hw6
    have U1 := Lib.hid (U1'.out.below hw6)
    have U2' := Lib.hid (U2.out.below hw6)
    have U3 := Lib.hid hu3
    clear hw6 b5 hu3 U1' U2 hA hB PB hn0
    have hsum' := hsum
    go_wp2_with fail
    have HS := Lib.hid hsum'
    clear hsum hsum'
    go_loopw [11] (fun i wr => ∃ k : Nat, k ≤ Rn.cnt S ∧ i = .int .i64 (k : Int) ∧ Below w6.heap.size w6 wr) (fun i _ => Rn.cnt S - (intOf i).toNat)
    case atStart => exact ⟨0, Nat.zero_le _, rfl, Below.refl _ _⟩
    case round =>
      obtain ⟨k, hk, rfl, br⟩ := hrel
      by_cases hlt : k < Rn.cnt S
      · have hkl : (k : Int) < (Rn.cnt S : Int) := by omega
        have hps := (Rn.cnt_lt S k).1 hlt
        have hW := Rn.dW_le S _ hps
        obtain ⟨g, rfl, hg, c1, c2, c3⟩ := (U3.out.below br).get hlt
        have b7 := bvia b6 br
        by_cases hA : k < Rn.cnt A
        · have hAl : (k : Int) < (Rn.cnt A : Int) := by omega
          obtain ⟨h, rfl, hh, d1, d2, d3⟩ := (U1.out.below br).get hA
          have hkj : k < j := by have := HH.out.2.2; omega
          rw [HH.out.1 k (by omega)] at d1 d2 d3
          rw [(HH.out.2.1 k hkj).1] at d1
          rw [(HH.out.2.1 k hkj).2] at d3
          generalize Rn.dR S (Rn.pos S k) = R at *
          generalize Rn.dW S (Rn.pos S k) = D at *
          generalize Rn.pos S k = P at *
          have hneq := neq_rune R P D
          have heqn := eqn_rune' R P D
          have hn1 : h ≠ wr.heap.size := by omega
          go_wp2_with fail
          go_quiet (fail)
          go_wp2_with fail
          go_roundw
          case rel => exact ⟨k + 1, by omega, by go_num, bdrewN (br.alloc br.size _)⟩
          case measure => simp [intOf]; omega
        · have hAl : (Rn.cnt A : Int) ≤ (k : Int) := by omega
          have hjA := HH.out.2.2
          obtain ⟨q, hq⟩ : ∃ q, k = j + q := ⟨k - j, by omega⟩
          have hqB : q < Rn.cnt B := by have := HT.out.2.1; omega
          obtain ⟨h, rfl, hh, d1, d2, d3⟩ := (U2'.out.below br).get hqB
          obtain ⟨e1, e2⟩ := HT.out.2.2 q (by omega)
          have e3 := HT.out.1 q
          rw [e1] at d1
          rw [e2] at d3
          rw [← hq] at d1 d3 e3
          have hsub : (k : Int) - (Rn.cnt A : Int) = (q : Int) := by omega
          have hqi : (q : Int) < (Rn.cnt B : Int) := by omega
          have hn1 : h ≠ wr.heap.size := by omega
          have hpe : (Rn.pos B q : Int) + (Rn.pos S j : Int) = (Rn.pos S k : Int) := by omega
          have E3 := Lib.hid e3
          have HQ := Lib.hid hq
          have HJ := Lib.hid hjA
          clear e1 e2 e3 hq hjA
          go_wp2_with fail
          go_quiet (fail)
          go_wp2_with fail
          go_roundw
          case rel => exact ⟨k + 1, by omega, by go_num, (bdrewN (br.alloc br.size _)).alloc (by have := br.size; simp; omega) _⟩
          case measure => simp [intOf]; omega
      · obtain rfl : k = Rn.cnt S := by omega
        have b7 := bvia b6 br
        go_wp2_with fail
        go_ret
        exact ⟨rfl, b7⟩
end Go.Proofs.Ytnbgldlahidjbaa
