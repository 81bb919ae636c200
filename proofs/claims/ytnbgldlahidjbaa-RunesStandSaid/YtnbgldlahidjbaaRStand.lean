/- RunesStand. -/
import Derived.Test.YtnbgldlahidjbaaRRow
set_option linter.unusedVariables false
namespace Go.Proofs.Ytnbgldlahidjbaa
open Go.RowKit

theorem ext_ext (s : ByteArray) (p d : Nat) (h : p + d ≤ s.size) : (s.extract p s.size).extract 0 d = s.extract p (p + d) := by
  apply ByteArray.ext
  simp only [ByteArray.data_extract]
  rw [Array.extract_extract]
  congr 1
  have : s.data.size = s.size := rfl
  omega
theorem enc_dec0 (s : ByteArray) (hp : 0 < s.size) (h : ¬ (Rn.dR s 0 = 65533 ∧ Rn.dW s 0 = 1)) : Utf8.encode (Rn.dR s 0 : Nat) = s.extract 0 (Rn.dW s 0) := by
  have hr := (Rn.dR_right s 0 hp).2
  have h0 := Rn.at8_lt s 0
  have h1 := Rn.at8_lt s 1
  have h2 := Rn.at8_lt s 2
  have h3 := Rn.at8_lt s 3
  rcases Rn.shape s 0 hp with ⟨c, e, f⟩ | ⟨c, c1, c2, e, f, g⟩ | ⟨c, c1, c2, c3, e, f, g, g'⟩ | ⟨c, c1, c2, c3, c4, e, f, g, g'⟩ | ⟨_, e, f⟩
  · rw [f, Rn.enc1 hr (by omega) (by omega), Rn.ext1 s (by omega), e]
    simp only [ByteArray.mk.injEq, Array.mk.injEq, List.cons.injEq, and_true]
    rw [Rn.b8_of (by omega)]; omega
  · simp only [Nat.zero_add] at c2 e c1
    rw [f, Rn.enc2 hr (by omega) (by omega), Rn.ext2 s (by omega)]
    simp only [ByteArray.mk.injEq, Array.mk.injEq, List.cons.injEq, and_true]
    rw [Rn.b8_of (by omega), Rn.b8_of (by omega)]; omega
  · simp only [Nat.zero_add] at c2 c3 e c1
    rw [f, Rn.enc3 hr (by omega) (by omega), Rn.ext3 s (by omega)]
    simp only [ByteArray.mk.injEq, Array.mk.injEq, List.cons.injEq, and_true]
    rw [Rn.b8_of (by omega), Rn.b8_of (by omega), Rn.b8_of (by omega)]; omega
  · simp only [Nat.zero_add] at c2 c3 c4 e c1
    rw [f, Rn.enc4 hr (by omega), Rn.ext4 s (by omega)]
    simp only [ByteArray.mk.injEq, Array.mk.injEq, List.cons.injEq, and_true]
    rw [Rn.b8_of (by omega), Rn.b8_of (by omega), Rn.b8_of (by omega), Rn.b8_of (by omega)]; omega
  · exact absurd ⟨e, f⟩ h
theorem enc_dec (s : ByteArray) (p : Nat) (hp : p < s.size) (h : ¬ (Rn.dR s p = 65533 ∧ Rn.dW s p = 1)) : Utf8.encode (Rn.dR s p : Nat) = s.extract p (p + Rn.dW s p) := by
  have hz := Rn.size_ext s p s.size (by omega) (Nat.le_refl _)
  have hd := Rn.dec_tail s p 0 (by omega)
  have h1 : Rn.dR (s.extract p s.size) 0 = Rn.dR s p := congrArg Prod.fst hd
  have h2 : Rn.dW (s.extract p s.size) 0 = Rn.dW s p := congrArg Prod.snd hd
  have := enc_dec0 (s.extract p s.size) (by omega) (by rw [h1, h2]; exact h)
  rw [h1, h2, ext_ext s p _ (Rn.dW_le s p hp).2] at this
  exact this
theorem stand_bad (s : ByteArray) (p : Nat) (hp : p < s.size) (h1 : Rn.dR s p = 65533) (h2 : Rn.dW s p = 1) : ¬ s.extract p (p + Rn.dW s p) = Utf8.encode (Rn.dR s p : Nat) := by
  intro h
  have hz := congrArg ByteArray.size h
  rw [Rn.size_ext s _ _ (by omega) (Rn.dW_le s p hp).2, h2, h1] at hz
  have : (Utf8.encode ((65533 : Nat) : Int)).size = 3 := by decide +kernel
  omega
set_option maxRecDepth 200000 in
set_option maxHeartbeats 8000000 in
theorem law_RunesStand (s : ByteArray) (own : Bool) (a : Option Addr) (len cap : Nat) (l : List UInt8) (w : World) (hs : s.size ≤ 140737488351232) (hB0 : BArg w a len cap l) :
    Calls Try.prog 6 #[.string s, .bool own, .slice a len cap] w fun e w' => e = .returned (.bool true) ∧ Below w.heap.size w w' := by
  have HB := Lib.hid (bcells_of hB0)
  have hl := (barg_len hB0).1
  clear hB0
  go_enter Try.func6, Try.ntmps6
  go_wp2_with fail
  refine (runes_examples _).mono ?_
  rintro e' w1 ⟨rfl, hw1⟩
  go_upto_if 19 with fail
  go_cut [0] (fun s0 wx => Txt 140737488351232 s0 w wx)
  case first =>
    cases own
    · go_wp2_with fail
      go_meet
      case rel => exact ⟨s, hs, rfl, hw1⟩
    · go_wp2_with fail
      refine (text_any a len cap _ (HB.out.below hw1) hl).mono ?_
      rintro e' w2 ⟨t, rfl, ht, hw2⟩
      go_wp2_with fail
      go_meet
      case rel => exact ⟨t, by omega, rfl, bvia hw1 hw2⟩
  case rest =>
    obtain ⟨S, hS, rfl, b0⟩ := hcut
    go_upto_region 6 with fail
    go_cut [0] (fun s0 wx => (∃ T : ByteArray, T.size ≤ 200 ∧ s0 = .string T) ∧ wx = wc)
    case first =>
      by_cases h2 : (S.size : Int) ≤ 200
      · go_wp2_with fail
        go_meet
        case rel => exact ⟨⟨_, by omega, rfl⟩, rfl⟩
      · go_wp2_with fail
        go_meet
        case rel => exact ⟨⟨_, by rw [Rn.size_ext _ _ _ (by omega) (by omega)]; omega, rfl⟩, rfl⟩
    case rest =>
      obtain ⟨⟨T, hT, rfl⟩, rfl⟩ := hcut
      have hc := Rn.cnt_le T
      go_wp2_with fail
      refine (all_u T _ (by omega)).mono ?_
      rintro e' w2 ⟨p, cap1, rfl, hc1, hu1, hw2⟩
      have b2 := bvia b0 hw2
      have HU := Lib.hid hu1
      clear hu1 hw2 b0
      go_wp2_with fail
      go_loopw [9, 10] (fun at' i wr => ∃ k : Nat, k ≤ Rn.cnt T ∧ i = .int .i64 (k : Int) ∧ at' = .int .i64 (Rn.pos T k : Int) ∧ Below w2.heap.size w2 wr) (fun _ i _ => Rn.cnt T - (intOf i).toNat)
      case atStart => exact ⟨0, Nat.zero_le _, rfl, rfl, Below.refl _ _⟩
      case round =>
        obtain ⟨k, hk, rfl, rfl, br⟩ := hrel
        by_cases hlt : k < Rn.cnt T
        · have hps := (Rn.cnt_lt T k).1 hlt
          have hW := Rn.dW_le T _ hps
          have hW1 := Rn.dW_pos T (Rn.pos T k)
          have hr := Lib.hid (Rn.dR_right T _ hps).2
          have hP := Lib.hid (Rn.pos_succ T k hps)
          have hQ : Hid (Rn.BeginsT T (Rn.pos T k : Int) (Rn.dR T (Rn.pos T k)) (Rn.pos T k) (Rn.dW T (Rn.pos T k)) true) := Lib.hid (begins_at k _ _ _ rfl hps rfl rfl)
          have hE : Hid (Rn.EndsT T ((Rn.pos T k : Int) + (Rn.dW T (Rn.pos T k) : Int)) (Rn.dR T (Rn.pos T k)) (Rn.pos T k) (Rn.dW T (Rn.pos T k)) true) := Lib.hid (ends_at k _ _ _ rfl hps rfl rfl)
          have hPl := Lib.hid (Rn.placed_true ⟨k, rfl⟩ : Rn.Placed T (Rn.pos T k : Int) true)
          have hD : Hid (¬ (Rn.dR T (Rn.pos T k) = 65533 ∧ Rn.dW T (Rn.pos T k) = 1) → T.extract (Rn.pos T k) (Rn.pos T k + Rn.dW T (Rn.pos T k)) = Utf8.encode (Rn.dR T (Rn.pos T k) : Nat)) := Lib.hid (fun h => (enc_dec T _ hps h).symm)
          have hN : Hid (Rn.dR T (Rn.pos T k) = 65533 → Rn.dW T (Rn.pos T k) = 1 → ¬ T.extract (Rn.pos T k) (Rn.pos T k + Rn.dW T (Rn.pos T k)) = Utf8.encode (Rn.dR T (Rn.pos T k) : Nat)) := Lib.hid (stand_bad T _ hps)
          obtain ⟨g, rfl, hg, c1, c2, c3⟩ := (HU.out.below br).get hlt
          have b3 := bvia b2 br
          clear b2
          generalize Rn.dR T (Rn.pos T k) = R at *
          generalize Rn.dW T (Rn.pos T k) = D at *
          generalize Rn.pos T k = P at *
          go_wp2_with fail
          refine (at_any T _ _ _ _ _ _ (by omega) (by omega) (by omega) hQ.out).mono ?_
          rintro e w5 ⟨rfl, hw5⟩
          have x5 := Lib.hid ((Three.new wr (.int .i32 (R : Int)) (.int .i64 (P : Int)) (.int .i64 (D : Int)) 29).below hw5 (by simp))
          have s5 := hw5.size
          simp at s5
          have b5 := bvia (b3.alloc b3.size (.cells #[.int .i32 (R : Int), .int .i64 (P : Int), .int .i64 (D : Int)] 29)) hw5
          have br5 := (br.alloc br.size (.cells #[.int .i32 (R : Int), .int .i64 (P : Int), .int .i64 (D : Int)] 29)).trans (hw5.mono (by have := br.size; simp; omega))
          obtain ⟨x50, x51, x52, _, x54⟩ := x5.out
          clear hw5 c1 c2 c3 b3 br
          go_wp2_with fail
          refine (ahead_any T _ _ _ _ _ _ (by omega) (by omega) (by omega) hE.out).mono ?_
          rintro e w6 ⟨rfl, hw6⟩
          have y6 := Lib.hid ((Three.new w5 (.int .i32 (R : Int)) (.int .i64 (P : Int)) (.int .i64 (D : Int)) 29).below hw6 (by simp))
          have x6 := Lib.hid ((x5.out.alloc (.cells #[.int .i32 (R : Int), .int .i64 (P : Int), .int .i64 (D : Int)] 29)).below hw6 (by simp; omega))
          have s6 := hw6.size
          simp at s6
          have b6 := bvia (b5.alloc b5.size (.cells #[.int .i32 (R : Int), .int .i64 (P : Int), .int .i64 (D : Int)] 29)) hw6
          have br6 := (br5.alloc br5.size (.cells #[.int .i32 (R : Int), .int .i64 (P : Int), .int .i64 (D : Int)] 29)).trans (hw6.mono (by have := br5.size; simp; omega))
          clear x50 x51 x52 x54 x5 hw6 b5 br5
          obtain ⟨x60, x61, x62, _, x64⟩ := x6.out
          obtain ⟨y60, y61, y62, _, y64⟩ := y6.out
          have hb8 := b6.alloc b6.size (.cells #[.int .i32 (R : Int), .int .i64 (P : Int), .int .i64 (D : Int)] 29)
          have hbr8 := br6.alloc br6.size (.cells #[.int .i32 (R : Int), .int .i64 (P : Int), .int .i64 (D : Int)] 29)
          have hx8 := Lib.hid (x6.out.alloc (.cells #[.int .i32 (R : Int), .int .i64 (P : Int), .int .i64 (D : Int)] 29))
          clear b6 br6
          have hneq := neq_rune R P D
          have heqn := eqn_rune' R P D
          have hi1 : (1 : Int) ≤ (D : Int) := by omega
          have hi2 : (D : Int) ≤ 4 := by omega
          have hi3 : (P : Int) + (D : Int) ≤ (T.size : Int) := by omega
          have hj1 : decide ((D : Int) < 1) = false := decide_eq_false (by omega)
          have hj2 : decide ((4 : Int) < (D : Int)) = false := decide_eq_false (by omega)
          have hj3 : decide ((T.size : Int) < (P : Int) + (D : Int)) = false := decide_eq_false (by omega)
          go_wp2_with fail
          refine (right_at _ true _ hr.out).mono ?_
          rintro e w' ⟨rfl, rfl⟩
          go_wp2_with fail
          refine (place_any T _ true _ (by omega) (by omega) (by omega) hPl.out).mono ?_
          rintro e w7 ⟨rfl, hw7⟩
          obtain ⟨x70, x71, x72, _, x74⟩ := hx8.out.below hw7 (by simp; omega)
          have b7 := bvia hb8 hw7
          have br7 := bvia hbr8 hw7
          clear x60 x61 x62 x64 y60 y61 y62 y64 hb8 hbr8 hx8 x6 y6 hw7
          go_wp2_with fail
          clear hneq heqn hj1 hj2 hj3 hQ hE hPl hr
          obtain ⟨X, hX⟩ : ∃ X, T.extract P (P + D) = X := ⟨_, rfl⟩
          obtain ⟨v, hv⟩ : ∃ v, Utf8.encode (R : Int) = v := ⟨_, rfl⟩
          have hwp : IntKind.i64.wrap ((P : Int) + (D : Int)) = (P : Int) + (D : Int) := IntWalk.i64_in _ ⟨by omega, by omega⟩
          have ht : ((P : Int) + (D : Int)).toNat = P + D := by omega
          have hi0 : (0 : Int) ≤ (P : Int) + (D : Int) := by omega
          have hi4 : (P : Int) ≤ (P : Int) + (D : Int) := by omega
          have HV := Lib.hid hv
          have HD : Hid (¬ (R = 65533 ∧ D = 1) → X = v) := Lib.hid (by rw [← hX, ← hv]; exact hD.out)
          have HN : Hid (R = 65533 → D = 1 → ¬ X = v) := Lib.hid (by rw [← hX, ← hv]; exact hN.out)
          clear hD hN hv
          rcases (show ¬ R = 65533 ∨ (R = 65533 ∧ ¬ D = 1) ∨ (R = 65533 ∧ D = 1) by omega) with h1 | ⟨h1, h2⟩ | ⟨h1, h2⟩
          · have hR : ((R : Int) == 65533) = false := by simp; omega
            have heq : X = v := HD.out (fun h => h1 h.1)
            have hne : (X.toList == v.toList) = true := by rw [heq]; exact bytes_eq v
            clear heq h1
            go_quiet ((go_at_call 13; exact Calls.quiet_of_same ((put_at (R : Int) v _ HV.out).mono fun _ _ h => ⟨h.1, h.2.symm⟩)))
            go_wp2_with fail
            go_roundw
            case rel => exact ⟨k + 1, by omega, by go_num, by rw [hP.out]; go_num, bdrewN br7⟩
            case measure => simp [intOf]; omega
          · have hR : ((R : Int) == 65533) = true := by simp; omega
            have hDb : ((D : Int) == 1) = false := by simp; omega
            have heq : X = v := HD.out (fun h => h2 h.2)
            have hne : (X.toList == v.toList) = true := by rw [heq]; exact bytes_eq v
            clear heq h1 h2
            go_quiet ((go_at_call 13; exact Calls.quiet_of_same ((put_at (R : Int) v _ HV.out).mono fun _ _ h => ⟨h.1, h.2.symm⟩)))
            go_wp2_with fail
            go_roundw
            case rel => exact ⟨k + 1, by omega, by go_num, by rw [hP.out]; go_num, bdrewN br7⟩
            case measure => simp [intOf]; omega
          · have hR : ((R : Int) == 65533) = true := by simp; omega
            have hDb : ((D : Int) == 1) = true := by simp; omega
            have hne : (X.toList == v.toList) = false := bytes_ne (HN.out h1 h2)
            clear h1 h2
            go_quiet ((go_at_call 13; exact Calls.quiet_of_same ((put_at (R : Int) v _ HV.out).mono fun _ _ h => ⟨h.1, h.2.symm⟩)))
            go_wp2_with fail
            go_roundw
            case rel => exact ⟨k + 1, by omega, by go_num, by rw [hP.out]; go_num, bdrewN br7⟩
            case measure => simp [intOf]; omega
        · obtain rfl : k = Rn.cnt T := by omega
          have hp := Lib.hid (Rn.pos_cnt T)
          have hq : (Rn.pos T (Rn.cnt T) : Int) = (T.size : Int) := by have := hp.out; omega
          have b4 := bvia b2 br
          go_wp2_with fail
          refine (place_any T _ true _ (by omega) (by omega) (by omega) (Rn.placed_true ⟨_, hp.out⟩)).mono ?_
          rintro e w3 ⟨rfl, hw3⟩
          go_wp2_with fail
          go_ret
          exact ⟨rfl, bvia b4 hw3⟩
end Go.Proofs.Ytnbgldlahidjbaa
