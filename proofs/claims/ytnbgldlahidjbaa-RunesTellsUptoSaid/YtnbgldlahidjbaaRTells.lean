/- RunesTells. -/
import Derived.Test.YtnbgldlahidjbaaRRow
set_option linter.unusedVariables false
namespace Go.Proofs.Ytnbgldlahidjbaa
open Go.RowKit

def Plc (a : Value) : Prop := ∃ A : Int, a = .int .i64 A ∧ -9223372036854775808 ≤ A ∧ A ≤ 9223372036854775807
theorem mod_bd (a : Int) (n : Nat) (h0 : -9223372036854775808 ≤ a) (h1 : a ≤ 9223372036854775807) (hn : n ≤ 4398046511104) : -9223372036854775808 ≤ a.tmod ((n : Int) + 2) ∧ a.tmod ((n : Int) + 2) ≤ 9223372036854775807 := by
  rcases (show 0 ≤ a ∨ a < 0 by omega) with h | h
  · have := Int.tmod_nonneg ((n : Int) + 2) h
    have := Int.tmod_lt_of_pos a (b := (n : Int) + 2) (by omega)
    omega
  · have := Int.tmod_lt_of_pos (-a) (b := (n : Int) + 2) (by omega)
    have h2 := Int.tmod_nonneg (a := -a) ((n : Int) + 2) (by omega)
    rw [Int.neg_tmod] at *
    omega
theorem rword_at (r : Int) (b : Bool) (w : World) (h : Rn.wordB r = b) : Calls Try.prog 25 #[.int .i32 r] w fun e w' => e = .returned (.bool b) ∧ w = w' := by subst h; exact rword_any r w
theorem redge_at (s : ByteArray) (x : Int) (r a z r' a' z' : Nat) (b b' c : Bool) (w : World) (hs : s.size ≤ 4398046511104) (x0 : -9223372036854775808 ≤ x) (x1 : x ≤ 9223372036854775807) (h : Rn.EndsT s x r a z b) (h' : Rn.BeginsT s x r' a' z' b') (hc : ((b && Rn.wordB r) != (b' && Rn.wordB r')) = c) :
    Calls Try.prog 21 #[.string s, .int .i64 x] w fun e w' => e = .returned (.bool c) ∧ Below w.heap.size w w' := by subst hc; exact redge_any s x r a z r' a' z' b b' w hs x0 x1 h h'
set_option maxRecDepth 20000 in
set_option maxHeartbeats 8000000 in
theorem tells_walk (s : ByteArray) (own : Bool) (a : Option Addr) (len cap : Nat) (at' : Int) (near : Bool) (r : Int) (w : World) (hs : s.size ≤ 1048576) (hB : BCells w a len) (hl : len ≤ 140737488351232)
    (x0 : -9223372036854775808 ≤ at') (x1 : at' ≤ 9223372036854775807) (r0 : -2147483648 ≤ r) (r1 : r ≤ 2147483647) :
    Calls Try.prog 7 #[.string s, .bool own, .slice a len cap, .int .i64 at', .bool near, .int .i32 r] w fun e w' => e = .returned (.bool true) ∧ Below w.heap.size w w' := by
  have HB := Lib.hid hB
  clear hB
  go_enter Try.func7, Try.ntmps7
  go_wp2_with fail
  refine (runes_examples _).mono ?_
  rintro e' w1 ⟨rfl, hw1⟩
  go_upto_if 28 with fail
  go_cut [0] (fun s0 wx => Txt 1048576 s0 w wx)
  case first =>
    cases own
    · go_wp2_with fail
      go_meet
      case rel => exact ⟨s, hs, rfl, hw1⟩
    · go_wp2_with fail
      refine (text_any a len cap _ (HB.out.below hw1) hl).mono ?_
      rintro e' w2 ⟨t, rfl, ht, hw2⟩
      go_wp2_with fail
      go_meet
      case rel => exact ⟨t, by omega, rfl, bvia hw1 hw2⟩
  case rest =>
    obtain ⟨S, hS, rfl, b0⟩ := hcut
    go_upto_if 31 with fail
    go_cut [3] (fun a0 wx => Plc a0 ∧ wx = wc)
    case first =>
      cases near
      · go_wp2_with fail
        go_meet
        case rel => exact ⟨⟨_, rfl, x0, x1⟩, rfl⟩
      · go_wp2_with fail
        go_meet
        case rel => exact ⟨⟨_, rfl, (mod_bd at' S.size x0 x1 (by omega)).1, (mod_bd at' S.size x0 x1 (by omega)).2⟩, rfl⟩
    case rest =>
      obtain ⟨⟨A, rfl, a0, a1⟩, rfl⟩ := hcut
      clear HB x0 x1
      have hc := Rn.cnt_le S
      go_wp2_with fail
      refine (all_u S _ (by omega)).mono ?_
      rintro e' w2 ⟨p, cap1, rfl, hc1, hu1, hw2⟩
      have b2 := bvia b0 hw2
      go_wp2_with fail
      refine (rall_u S _ (by omega)).mono ?_
      rintro e' w3 ⟨q, cap2, rfl, hc2, hu2, hw3⟩
      have b3 := bvia b2 hw3
      have hu1' := hu1.below hw3
      have HU1 := Lib.hid hu1'
      have HU2 := Lib.hid hu2
      clear hu1 hu1' hu2 hw2 hw3 b2 b0
      go_wp2_with fail
      go_loopw [16] (fun i wr => ∃ k : Nat, k ≤ Rn.cnt S ∧ i = .int .i64 (k : Int) ∧ Below w3.heap.size w3 wr) (fun i _ => Rn.cnt S - (intOf i).toNat)
      case atStart => exact ⟨0, Nat.zero_le _, rfl, Below.refl _ _⟩
      case round =>
        obtain ⟨k, hk, rfl, br⟩ := hrel
        by_cases hlt : k < Rn.cnt S
        · obtain ⟨g, rfl, hg, c1, c2, c3⟩ := (HU1.out.below br).get hlt
          obtain ⟨h, rfl, hh, d1, d2, d3⟩ := (HU2.out.below br).get hlt
          have hkl : (k : Int) < (Rn.cnt S : Int) := by omega
          go_wp2_with fail
          go_quiet (fail)
          go_wp2_with fail
          go_roundw
          case rel => exact ⟨k + 1, by omega, by go_num, bdrewN br⟩
          case measure => simp [intOf]; omega
        · obtain rfl : k = Rn.cnt S := by omega
          have b4 := bvia b3 br
          have H1 := Lib.hid hc1
          clear HU1 HU2 br b3 hlt
          obtain ⟨r1', z1, z2, z3, hq⟩ := Rn.beginsT_some S A
          obtain ⟨r2', y1, y2, y3, hp⟩ := Rn.endsT_some S A
          obtain ⟨pb, hpb⟩ := Rn.placed_some S A
          have Q := Lib.hid hq
          have P := Lib.hid hp
          have PB := Lib.hid hpb
          clear hq hp hpb
          go_wp2_with fail
          refine (at_any S A _ _ _ _ _ (by omega) a0 a1 Q.out).mono ?_
          rintro e w5 ⟨rfl, hw5⟩
          have t5 := Three.new w5 (.int .i32 (r1' : Int)) (.int .i64 (z1 : Int)) (.int .i64 (z2 : Int)) 29
          have b5 := (bvia b4 hw5).alloc (bvia b4 hw5).size (.cells #[.int .i32 (r1' : Int), .int .i64 (z1 : Int), .int .i64 (z2 : Int)] 29)
          have T5 := Lib.hid t5
          clear t5 hw5 b4
          go_wp2_with fail
          refine (rat_any S A _ _ _ _ _ (by omega) a0 a1 Q.out).mono ?_
          rintro e w6 ⟨rfl, hw6⟩
          have t6 := Three.new w6 (.int .i32 (r1' : Int)) (.int .i64 (z1 : Int)) (.int .i64 (z2 : Int)) 44
          have b6 := (bvia b5 hw6).alloc (bvia b5 hw6).size (.cells #[.int .i32 (r1' : Int), .int .i64 (z1 : Int), .int .i64 (z2 : Int)] 44)
          have T5' := Lib.hid ((T5.out.below hw6 (by simp)).alloc (.cells #[.int .i32 (r1' : Int), .int .i64 (z1 : Int), .int .i64 (z2 : Int)] 44))
          have T6 := Lib.hid t6
          have s6 := hw6.size
          simp at s6
          clear t6 hw6 b5 T5
          go_wp2_with fail
          refine (ahead_any S A _ _ _ _ _ (by omega) a0 a1 P.out).mono ?_
          rintro e w7 ⟨rfl, hw7⟩
          have t7 := Three.new w7 (.int .i32 (r2' : Int)) (.int .i64 (y1 : Int)) (.int .i64 (y2 : Int)) 29
          have b7 := (bvia b6 hw7).alloc (bvia b6 hw7).size (.cells #[.int .i32 (r2' : Int), .int .i64 (y1 : Int), .int .i64 (y2 : Int)] 29)
          have T5 := Lib.hid ((T5'.out.below hw7 (by simp; omega)).alloc (.cells #[.int .i32 (r2' : Int), .int .i64 (y1 : Int), .int .i64 (y2 : Int)] 29))
          have T6' := Lib.hid ((T6.out.below hw7 (by simp)).alloc (.cells #[.int .i32 (r2' : Int), .int .i64 (y1 : Int), .int .i64 (y2 : Int)] 29))
          have T7 := Lib.hid t7
          have s7 := hw7.size
          simp at s7
          clear t7 hw7 b6 T5' T6
          go_wp2_with fail
          refine (rahead_any S A _ _ _ _ _ (by omega) a0 a1 P.out).mono ?_
          rintro e w8 ⟨rfl, hw8⟩
          obtain ⟨t50, t51, t52, t53, t54⟩ := T5.out.below hw8 (by simp; omega)
          obtain ⟨t60, t61, t62, t63, t64⟩ := T6'.out.below hw8 (by simp; omega)
          obtain ⟨t70, t71, t72, t73, t74⟩ := T7.out.below hw8 (by simp)
          have b8 := bvia b7 hw8
          have b8' := b8.alloc b8.size (.cells #[.int .i32 (r2' : Int), .int .i64 (y1 : Int), .int .i64 (y2 : Int)] 44)
          clear hw8 b7 T5 T6' T7 b8
          go_wp2_with fail
          clear t50 t51 t52 t53 t54 t60 t61 t62 t63 t64 t70 t71 t72 t73 t74
          generalize hv : Rn.rightB r = vr
          obtain ⟨vw, hvw⟩ : ∃ v, Rn.wordB r = v := ⟨_, rfl⟩
          obtain ⟨ve, hve⟩ : ∃ v, ((y3 && Rn.wordB r2') != (z3 && Rn.wordB r1')) = v := ⟨_, rfl⟩
          obtain ⟨vp, hvp⟩ : ∃ v, Utf8.encode r = v := ⟨_, rfl⟩
          have VR := Lib.hid hv
          have VW := Lib.hid hvw
          have VE := Lib.hid hve
          have VP := Lib.hid hvp
          have VS := bytes_eq vp
          clear hv hvw hve hvp
          refine (place_any S A pb _ (by omega) a0 a1 PB.out).mono ?_
          rintro e w9 ⟨rfl, hw9⟩
          have b9 := bvia b8' hw9
          clear b8' hw9
          go_wp2_with fail
          refine (rplace_any S A pb _ (by omega) a0 a1 PB.out).mono ?_
          rintro e w10 ⟨rfl, hw10⟩
          have b10 := bvia b9 hw10
          clear b9 hw10
          go_wp2_with fail
          refine (edge_at S A _ _ _ _ _ _ _ _ ve _ (by omega) a0 a1 P.out Q.out VE.out).mono ?_
          rintro e w11 ⟨rfl, hw11⟩
          have b11 := bvia b10 hw11
          clear b10 hw11
          go_wp2_with fail
          refine (redge_at S A _ _ _ _ _ _ _ _ ve _ (by omega) a0 a1 P.out Q.out VE.out).mono ?_
          rintro e w12 ⟨rfl, hw12⟩
          have b12 := bvia b11 hw12
          clear b11 hw12
          go_wp2_with fail
          refine (right_at r vr _ VR.out).mono ?_
          rintro e w' ⟨rfl, rfl⟩
          go_wp2_with fail
          refine (rright_at r vr _ VR.out).mono ?_
          rintro e w' ⟨rfl, rfl⟩
          go_wp2_with fail
          refine (put_at r vp _ VP.out).mono ?_
          rintro e w' ⟨rfl, rfl⟩
          go_wp2_with fail
          refine (rput_at r vp _ VP.out).mono ?_
          rintro e w13 ⟨rfl, hw13⟩
          have b13 := bvia b12 hw13
          clear b12 hw13
          go_wp2_with fail
          refine (word_at r vw _ VW.out).mono ?_
          rintro e w' ⟨rfl, rfl⟩
          go_wp2_with fail
          refine (rword_at r vw _ VW.out).mono ?_
          rintro e w' ⟨rfl, rfl⟩
          go_wp2_with fail
          go_ret
          exact ⟨rfl, b13⟩
end Go.Proofs.Ytnbgldlahidjbaa
