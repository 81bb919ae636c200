/- VaryReads. -/
import Derived.Test.YtahckijanjbagaaRd
set_option linter.unusedVariables false
namespace Go.Proofs.Ytahckijanjbagaa
open Go.RowKit

def DArg (w : World) (a : Option Addr) (len : Nat) : Prop :=
  len = 0 ∨ ∃ b off, a = some ⟨b, off, none⟩ ∧ b < w.heap.size ∧ ∀ i, i < len → ∃ k n : Int, 0 ≤ k ∧ k ≤ 255 ∧ -9223372036854775808 ≤ n ∧ n ≤ 9223372036854775807 ∧
    w.cell? ⟨b, off + i * 2, none⟩ = some (.int .u8 k) ∧ w.cell? ⟨b, off + i * 2 + 1, none⟩ = some (.int .i64 n)
theorem rput_at (n : Nat) (v : ByteArray) (w : World) (hn : n < 18446744073709551616) (h : ⟨(Vr.put n).toArray⟩ = v) :
    Calls Try.prog 8 #[.int .u64 (n : Int)] w fun x w' => x = .returned (.string v) ∧ Below w.heap.size w w' := by
  subst h; exact rput_any n w hn
theorem rptext_at (s v : ByteArray) (w : World) (hs : s.size ≤ 140737488351232) (h : ⟨(Vr.put s.size).toArray⟩ ++ s = v) :
    Calls Try.prog 9 #[.string s] w fun x w' => x = .returned (.string v) ∧ Below w.heap.size w w' := by
  subst h; exact rtext_any s w hs
theorem rend_at (s : ByteArray) (e v : Int) (w : World) (h : Vr.fin s e = v) :
    Calls Try.prog 19 #[.agg #[.string s, .int .i64 e]] w fun x w' => x = .returned (.int .i64 v) ∧ Below w.heap.size w w' := by
  subst h; exact rend_any s e w
/- what x begins as -/
def Begun (g : Nat) (w0 w : World) : Prop := ∃ (S : ByteArray) (E : Int), S.size ≤ 422212465065984 ∧ -9223372036854775808 ≤ E ∧ E ≤ 9223372036854775807 ∧ XC g S E w ∧ Below w0.heap.size w0 w
set_option maxRecDepth 20000 in
set_option maxHeartbeats 20000000 in
theorem reads_walk (X s P T : ByteArray) (E0 : Int) (a : Option Addr) (len cap n : Nat) (own : Bool) (w : World) (hX : X.size ≤ 140737488351232) (e0 : -9223372036854775808 ≤ E0) (e1 : E0 ≤ 9223372036854775807)
    (hl : len ≤ 9223372036854775807) (hD : DArg w a len) (hn : n < 18446744073709551616) (hs : s.size ≤ 140737488351232) (hP : ⟨(Vr.put n).toArray⟩ = P) (hT : ⟨(Vr.put s.size).toArray⟩ ++ s = T) :
    Calls Try.prog 3 #[.agg #[.string X, .int .i64 E0], .slice a len cap, .int .u64 (n : Nat), .string s, .bool own] w fun e w' => e = .returned (.bool true) ∧ Below w.heap.size w w' := by
  have hPs : P.size ≤ 10 := by rw [← hP, put_size]; exact Vr.put_len_le hn
  have hTs : T.size ≤ 140737488351242 := by rw [← hT, ByteArray.size_append, put_size]; have := Vr.put_len_le (n := s.size) (by omega); omega
  have HP := Lib.hid hP
  have HT := Lib.hid hT
  have HD := Lib.hid hD
  have HN := Lib.hid hn
  clear hP hT hD hn
  go_enter Try.func3, Try.ntmps3
  go_wp2_with fail
  refine (vary_examples _).mono ?_
  rintro e' w1 ⟨rfl, hw1⟩
  have x0 : XC w.heap.size X E0 w1 := (XC.new _).below hw1
  have b0 : Below w.heap.size w w1 := ((Below.refl _ _).alloc (Nat.le_refl _) _).trans (hw1.mono (by simp))
  clear hw1
  go_upto_if 30 with fail
  go_cut [] (fun wx => Begun w.heap.size w wx)
  case first =>
    cases own
    · go_wp2_with fail
      go_meet
      case rel => exact ⟨X, E0, by omega, e0, e1, x0, b0⟩
    · as_aux_lemma =>
        have x0' := x0
        obtain ⟨c0, c1, f0, f1, z0⟩ := x0'
        have hXs : Hid (((P ++ T) ++ X).size ≤ 422212465065984) := Lib.hid (by rw [ByteArray.size_append, ByteArray.size_append]; omega)
        go_wp2_with fail
        go_region_with (first | (go_at_call 5; refine (put_at n P _ HN.out HP.out).mono ?_; rintro e' w2 ⟨rfl, hw2⟩; have x2 := XC.via hw2 (by first | exact x0 | exact x0.drew); have b2 := bvia hw2 (by first | exact b0 | exact b0.drew); have x2' := x2; obtain ⟨c02, c12, f02, f12, z02⟩ := x2') | (go_at_call 6; refine (ptext_at s T _ hs HT.out).mono ?_; rintro e' w3 ⟨rfl, hw3⟩; have x3 := XC.via hw3 (by first | exact x2 | exact x2.drew); have b3 := bvia hw3 (by first | exact b2 | exact b2.drew); have x3' := x3; obtain ⟨c03, c13, f03, f13, z03⟩ := x3'))
        all_goals
          go_wp2_with fail
          go_meet
          case rel => first | exact ⟨P ++ T ++ X, 0, hXs.out, by omega, by omega, x3.put _ _, (b3.setCell (p := ⟨w.heap.size, 0, none⟩) (Nat.le_refl _) _).setCell (p := ⟨w.heap.size, 1, none⟩) (Nat.le_refl _) _⟩ | exact ⟨P ++ T ++ X, 0, hXs.out, by omega, by omega, (x3.put _ _).drew, ((b3.setCell (p := ⟨w.heap.size, 0, none⟩) (Nat.le_refl _) _).setCell (p := ⟨w.heap.size, 1, none⟩) (Nat.le_refl _) _).drew⟩
  case rest =>
    obtain ⟨S0, F0, hS0, f1, f2, y0, yb⟩ := hcut
    have y0' := y0
    obtain ⟨c0, c1, c2, c3, c4⟩ := y0'
    go_wp2_with fail
    refine (ref_any S0 F0 _).mono ?_
    rintro e' w2 ⟨rfl, hw2⟩
    have y2 := XC.via hw2 y0
    have yb2 := bvia hw2 yb
    have y3 := y2.alloc (.cells #[.string S0, .int .i64 F0] 31)
    have z3 := XC.new (S := S0) (E := F0) (w := w2) 31
    have yb3 := yb2.alloc yb2.size (.cells #[.string S0, .int .i64 F0] 31)
    have hg : w.heap.size ≠ w2.heap.size := by have := y2.2.2.2.2; omega
    clear c0 c1 c2 c3 c4 hw2
    have hB0 : Both w.heap.size w2.heap.size S0 F0 w (w2.alloc (.cells #[.string S0, .int .i64 F0] 31)) := ⟨y3, z3, hg, Nat.le_refl _, yb2.size, yb3⟩
    clear y0 yb y2 yb2 y3 z3 yb3 hg
    go_wp2_with fail
    refine (put_at n P _ HN.out HP.out).mono ?_
    rintro e' w3 ⟨rfl, hw3⟩
    have hB1 := Both.via hw3 hB0
    clear hB0 hw3
    go_wp2_with fail
    refine (rput_at n P _ HN.out HP.out).mono ?_
    rintro e' w4 ⟨rfl, hw4⟩
    have hB2 := Both.via hw4 hB1
    clear hB1 hw4
    go_wp2_with fail
    refine (ptext_at s T _ hs HT.out).mono ?_
    rintro e' w5 ⟨rfl, hw5⟩
    have hB3 := Both.via hw5 hB2
    clear hB2 hw5
    go_wp2_with fail
    refine (rptext_at s T _ hs HT.out).mono ?_
    rintro e' w6 ⟨rfl, hw6⟩
    have hB4 := Both.via hw6 hB3
    clear hB3 hw6
    go_wp2_with fail
    have hok0 : RdOk S0 F0 := ⟨hS0, f1, f2⟩
    clear hS0 f1 f2
    generalize w2.heap.size = h at *
    generalize hg : w.heap.size = g at *
    have HG := Lib.hid hg
    clear hg
    go_loopw [13, 14] (fun sm i wr => ∃ (k : Nat) (S : ByteArray) (E : Int), k ≤ len ∧ i = .int .i64 k ∧ sm = .bool true ∧ RdOk S E ∧ Both g h S E w wr) (fun _ i _ => len - (intOf i).toNat)
    case atStart => exact ⟨0, S0, F0, Nat.zero_le _, rfl, rfl, hok0, hB4⟩
    case round =>
      obtain ⟨k, S, E, hk, rfl, rfl, hok, hB⟩ := hrel
      clear hB4 hok0
      by_cases hlt : k < len ∧ k < 10
      · obtain ⟨hlt, hlt10⟩ := hlt
        rcases HD.out with hd | ⟨b, off, rfl, hbl, hd⟩
        · omega
        obtain ⟨kd, nd, k0, k1, n0, n1, d0, d1⟩ := hd k hlt
        have d0' := (hB.2.2.2.2.2.cell (p := ⟨b, off + k * 2, none⟩) hbl).trans d0
        have d1' := (hB.2.2.2.2.2.cell (p := ⟨b, off + k * 2 + 1, none⟩) hbl).trans d1
        obtain ⟨kk, hkk⟩ : ∃ kk : Int, kd % 4 = kk := ⟨_, rfl⟩
        have kb : 0 ≤ kk ∧ kk ≤ 3 := by omega
        have HBL : Hid (b < w.heap.size) := Lib.hid hbl
        have kc : kk = 0 ∨ kk = 1 ∨ kk = 2 ∨ kk = 3 := by omega
        have KC := Lib.hid kc
        have HB := Lib.hid hB
        have HOK := Lib.hid hok
        have HD1 := Lib.hid d1
        clear kc d0 d1 hd hB hok
        go_upto_block 2 with fail
        go_cut [13] from 54 to 175 (fun s13 wx => s13 = .bool true ∧ Turned g h w wx)
        case first =>
          rcases KC.out with rfl | rfl | rfl | rfl
          · as_aux_lemma =>
              obtain ⟨a0, a1, a2, a3, a4⟩ := HB.out.1
              obtain ⟨v, R, F, hN⟩ : ∃ v R F, Vr.next S E = (v, R, F) := ⟨_, _, _, rfl⟩
              have NX := Lib.hid hN
              clear hN
              go_wp2_with fail
              refine (next_at S R E F v _ HOK.out.len NX.out).mono ?_
              rintro e' w7 ⟨rfl, hw7⟩
              have B7 := Both.via hw7 HB.out
              have r8 := XC.new (S := R) (E := F) (w := w7) 24
              have B8 := B7.alloc (.cells #[.string R, .int .i64 F] 24)
              obtain ⟨p0, p1, p2, p3, p4⟩ := B7.2.1
              clear a0 a1 a2 a3 hw7
              have B7' := Lib.hid B7
              have B8' := Lib.hid B8
              clear B7 B8
              go_wp2_with fail
              refine (rnext_at S R E F v _ HOK.out.len NX.out).mono ?_
              rintro e' w8 ⟨rfl, hw8⟩
              have B9 := Both.via hw8 B8'.out
              have r9 := XC.via hw8 r8
              have hne := B9.2.2.1
              clear p0 p1 p2 p3 r8 B7' B8'
              obtain ⟨p0, p1, p2, p3, p4'⟩ := B9.2.1
              obtain ⟨q0, q1, q2, q3, q4⟩ := B9.1
              obtain ⟨s0, s1, s2, s3, s4⟩ := r9
              have B9' := Lib.hid B9
              clear B9 hw8
              go_wp2_with fail
              go_meet
              case rel => exact ⟨rfl, R, F, next_E NX.out HOK.out, (both_put B9'.out).alloc _⟩
          · as_aux_lemma =>
              obtain ⟨M, hM⟩ : ∃ M : Nat, IntKind.u64.wrap nd = (M : Int) := ⟨(IntKind.u64.wrap nd).toNat, by rw [IntKind.wrap_u64]; rw [Int.toNat_of_nonneg (Int.emod_nonneg _ (by omega))]⟩
              obtain ⟨A, R, F, hN⟩ : ∃ A R F, Vr.text S E M = (A, R, F) := ⟨_, _, _, rfl⟩
              have NX := Lib.hid hN
              clear hN
              go_upto_region 19 with fail
              go_cut [19, 20] from 54 to 175 (fun s1 s2 wx => s1 = .string A ∧ ∃ q : Nat, s2 = .pointer (some ⟨q, 0, none⟩) ∧ q ≠ g ∧ q ≠ h ∧ St [(q, R, F), (g, S, E), (h, S, E)] w wx)
              case first =>
                have ST0 := Lib.hid (St.two HB.out)
                obtain ⟨a0, a1, a2, a3, a4⟩ := (ST0.out.1 (g, S, E) (by simp)).2
                have hs0 : wr.cell? ⟨g, 0, none⟩ = some (.string S) ∧ wr.cell? ⟨g, 1, none⟩ = some (.int .i64 E) ∧ wr.cell? ⟨b, off + k * 2 + 1, none⟩ = some (.int .i64 nd) ∧ St [(g, S, E), (h, S, E)] w wr := ⟨a0, a1, (ST0.out.2.cell (p := ⟨b, off + k * 2 + 1, none⟩) HBL.out).trans HD1.out, ST0.out⟩
                have HQ := Lib.hid ST0.out.fresh
                have HQB : Hid (wr.heap.size ≠ b) := Lib.hid (Nat.ne_of_gt (Nat.lt_of_lt_of_le HBL.out ST0.out.2.size))
                go_region_held3 (fun w' => w'.cell? ⟨g, 0, none⟩ = some (.string S) ∧ w'.cell? ⟨g, 1, none⟩ = some (.int .i64 E) ∧ w'.cell? ⟨b, off + k * 2 + 1, none⟩ = some (.int .i64 nd) ∧ St [(g, S, E), (h, S, E)] w w') (first | assumption | (refine su_drew ?_; assumption) | (refine su_call HBL.out (by assumption) ?_; assumption) | (refine su_alloc HBL.out _ ?_; assumption) | (refine su_drew ?_; refine su_alloc HBL.out _ ?_; assumption) | (refine su_other HQ.out HQB.out ?_; assumption))
                  (first | (go_at_call 12; refine (text_at S A R E F M _ HOK.out.len NX.out).mono ?_; rintro e' w7 ⟨rfl, hw7⟩; have hS7 := su_call HBL.out hw7 (by assumption); have HS7 := Lib.hid hS7.2.2.2; first | (have r7 := (XC.via hw7 (XC.new (S := ⟨#[]⟩) (E := 0) (w := wr) 24)); have R7 := Lib.hid r7; obtain ⟨r0, r1, r2, r3, r4⟩ := r7) | (have r7 := (XC.via hw7 (XC.new (S := ⟨#[]⟩) (E := 0) (w := wr) 24).drew); have R7 := Lib.hid r7; obtain ⟨r0, r1, r2, r3, r4⟩ := r7) | skip))
                · go_wp2_with fail
                  go_meet
                  case rel => exact ⟨rfl, w7.heap.size, rfl, HS7.out.fresh.1 (g, S, E) (by simp), HS7.out.fresh.1 (h, S, E) (by simp), HS7.out.new R F _⟩
                · go_wp2_with fail
                  go_meet
                  case rel => exact ⟨rfl, wr.heap.size, rfl, HQ.out.1 (g, S, E) (by simp), HQ.out.1 (h, S, E) (by simp), HS7.out.made HQ.out R7.out R F⟩
              case rest =>
                obtain ⟨rfl, q, rfl, hqg, hqh, st1⟩ := hcut
                have st2 : St [(h, S, E), (q, R, F), (g, S, E)] w wc := ⟨fun p hp => st1.1 p (by simp only [List.mem_cons] at hp ⊢; rcases hp with h | h | h | h <;> simp [h]), st1.2⟩
                have ST0 := Lib.hid st2
                clear st1 st2
                go_upto_region 20 with fail
                go_cut [21, 22] from 54 to 175 (fun s1 s2 wx => s1 = .string A ∧ ∃ q2 : Nat, s2 = .pointer (some ⟨q2, 0, none⟩) ∧ q2 ≠ g ∧ q2 ≠ h ∧ q2 ≠ q ∧ St [(q2, R, F), (h, S, E), (q, R, F), (g, S, E)] w wx)
                case first =>
                  obtain ⟨a0, a1, a2, a3, a4⟩ := (ST0.out.1 (h, S, E) (by simp)).2
                  have hs0 : wc.cell? ⟨h, 0, none⟩ = some (.string S) ∧ wc.cell? ⟨h, 1, none⟩ = some (.int .i64 E) ∧ wc.cell? ⟨b, off + k * 2 + 1, none⟩ = some (.int .i64 nd) ∧ St [(h, S, E), (q, R, F), (g, S, E)] w wc := ⟨a0, a1, (ST0.out.2.cell (p := ⟨b, off + k * 2 + 1, none⟩) HBL.out).trans HD1.out, ST0.out⟩
                  have HQ := Lib.hid ST0.out.fresh
                  have HQB : Hid (wc.heap.size ≠ b) := Lib.hid (Nat.ne_of_gt (Nat.lt_of_lt_of_le HBL.out ST0.out.2.size))
                  go_region_held3 (fun w' => w'.cell? ⟨h, 0, none⟩ = some (.string S) ∧ w'.cell? ⟨h, 1, none⟩ = some (.int .i64 E) ∧ w'.cell? ⟨b, off + k * 2 + 1, none⟩ = some (.int .i64 nd) ∧ St [(h, S, E), (q, R, F), (g, S, E)] w w') (first | assumption | (refine su_drew ?_; assumption) | (refine su_call HBL.out (by assumption) ?_; assumption) | (refine su_alloc HBL.out _ ?_; assumption) | (refine su_drew ?_; refine su_alloc HBL.out _ ?_; assumption) | (refine su_other HQ.out HQB.out ?_; assumption))
                    (first | (go_at_call 13; refine (rtext_at S A R E F M _ HOK.out.len NX.out).mono ?_; rintro e' w7 ⟨rfl, hw7⟩; have hS7 := su_call HBL.out hw7 (by assumption); have HS7 := Lib.hid hS7.2.2.2; first | (have r7 := (XC.via hw7 (XC.new (S := ⟨#[]⟩) (E := 0) (w := wc) 31)); have R7 := Lib.hid r7; obtain ⟨r0, r1, r2, r3, r4⟩ := r7) | (have r7 := (XC.via hw7 (XC.new (S := ⟨#[]⟩) (E := 0) (w := wc) 31).drew); have R7 := Lib.hid r7; obtain ⟨r0, r1, r2, r3, r4⟩ := r7) | skip))
                  · go_wp2_with fail
                    go_meet
                    case rel => exact ⟨rfl, w7.heap.size, rfl, HS7.out.fresh.1 (g, S, E) (by simp), HS7.out.fresh.1 (h, S, E) (by simp), HS7.out.fresh.1 (q, R, F) (by simp), HS7.out.new R F _⟩
                  · go_wp2_with fail
                    go_meet
                    case rel => exact ⟨rfl, wc.heap.size, rfl, HQ.out.1 (g, S, E) (by simp), HQ.out.1 (h, S, E) (by simp), HQ.out.1 (q, R, F) (by simp), HS7.out.made HQ.out R7.out R F⟩
                case rest =>
                  obtain ⟨rfl, q2, rfl, n1', n2', n3', st3⟩ := hcut
                  have hne := HB.out.2.2.1
                  have B3 : Both g h S E w wc := ⟨(st3.1 (g, S, E) (by simp)).2, (st3.1 (h, S, E) (by simp)).2, HB.out.2.2.1, HB.out.2.2.2.1, HB.out.2.2.2.2.1, st3.2⟩
                  have B4 := Lib.hid B3
                  obtain ⟨x0, x1, x2, x3, x4⟩ := (st3.1 (g, S, E) (by simp)).2
                  obtain ⟨y0, y1, y2, y3, y4⟩ := (st3.1 (h, S, E) (by simp)).2
                  obtain ⟨v0, v1, v2, v3, v4⟩ := (st3.1 (q, R, F) (by simp)).2
                  obtain ⟨z0, z1, z2, z3, z4⟩ := (st3.1 (q2, R, F) (by simp)).2
                  have m1 : ¬ g = q2 := fun e => n1' e.symm
                  have m2 : ¬ g = h := hne
                  have m3 : ¬ h = g := fun e => hne e.symm
                  clear st3 B3
                  go_wp2_with fail
                  go_meet
                  case rel => exact ⟨rfl, R, F, text_E NX.out HOK.out, both_put B4.out⟩
          · as_aux_lemma =>
              obtain ⟨A, R, F, hN⟩ : ∃ A R F, Vr.bytes S E nd = (A, R, F) := ⟨_, _, _, rfl⟩
              have NX := Lib.hid hN
              clear hN
              go_upto_region 25 with fail
              go_cut [23, 24] from 54 to 175 (fun s1 s2 wx => s1 = .string A ∧ ∃ q : Nat, s2 = .pointer (some ⟨q, 0, none⟩) ∧ q ≠ g ∧ q ≠ h ∧ St [(q, R, F), (g, S, E), (h, S, E)] w wx)
              case first =>
                have ST0 := Lib.hid (St.two HB.out)
                obtain ⟨a0, a1, a2, a3, a4⟩ := (ST0.out.1 (g, S, E) (by simp)).2
                have hs0 : wr.cell? ⟨g, 0, none⟩ = some (.string S) ∧ wr.cell? ⟨g, 1, none⟩ = some (.int .i64 E) ∧ wr.cell? ⟨b, off + k * 2 + 1, none⟩ = some (.int .i64 nd) ∧ St [(g, S, E), (h, S, E)] w wr := ⟨a0, a1, (ST0.out.2.cell (p := ⟨b, off + k * 2 + 1, none⟩) HBL.out).trans HD1.out, ST0.out⟩
                have HQ := Lib.hid ST0.out.fresh
                have HQB : Hid (wr.heap.size ≠ b) := Lib.hid (Nat.ne_of_gt (Nat.lt_of_lt_of_le HBL.out ST0.out.2.size))
                go_region_held3 (fun w' => w'.cell? ⟨g, 0, none⟩ = some (.string S) ∧ w'.cell? ⟨g, 1, none⟩ = some (.int .i64 E) ∧ w'.cell? ⟨b, off + k * 2 + 1, none⟩ = some (.int .i64 nd) ∧ St [(g, S, E), (h, S, E)] w w') (first | assumption | (refine su_drew ?_; assumption) | (refine su_call HBL.out (by assumption) ?_; assumption) | (refine su_alloc HBL.out _ ?_; assumption) | (refine su_drew ?_; refine su_alloc HBL.out _ ?_; assumption) | (refine su_other HQ.out HQB.out ?_; assumption))
                  (first | (go_at_call 14; refine (bytes_at S A R E F nd _ NX.out).mono ?_; rintro e' w7 ⟨rfl, hw7⟩; have hS7 := su_call HBL.out hw7 (by assumption); have HS7 := Lib.hid hS7.2.2.2; first | (have r7 := (XC.via hw7 (XC.new (S := ⟨#[]⟩) (E := 0) (w := wr) 24)); have R7 := Lib.hid r7; obtain ⟨r0, r1, r2, r3, r4⟩ := r7) | (have r7 := (XC.via hw7 (XC.new (S := ⟨#[]⟩) (E := 0) (w := wr) 24).drew); have R7 := Lib.hid r7; obtain ⟨r0, r1, r2, r3, r4⟩ := r7) | skip))
                · go_wp2_with fail
                  go_meet
                  case rel => exact ⟨rfl, w7.heap.size, rfl, HS7.out.fresh.1 (g, S, E) (by simp), HS7.out.fresh.1 (h, S, E) (by simp), HS7.out.new R F _⟩
                · go_wp2_with fail
                  go_meet
                  case rel => exact ⟨rfl, wr.heap.size, rfl, HQ.out.1 (g, S, E) (by simp), HQ.out.1 (h, S, E) (by simp), HS7.out.made HQ.out R7.out R F⟩
              case rest =>
                obtain ⟨rfl, q, rfl, hqg, hqh, st1⟩ := hcut
                have st2 : St [(h, S, E), (q, R, F), (g, S, E)] w wc := ⟨fun p hp => st1.1 p (by simp only [List.mem_cons] at hp ⊢; rcases hp with h | h | h | h <;> simp [h]), st1.2⟩
                have ST0 := Lib.hid st2
                clear st1 st2
                go_upto_region 26 with fail
                go_cut [25, 26] from 54 to 175 (fun s1 s2 wx => s1 = .string A ∧ ∃ q2 : Nat, s2 = .pointer (some ⟨q2, 0, none⟩) ∧ q2 ≠ g ∧ q2 ≠ h ∧ q2 ≠ q ∧ St [(q2, R, F), (h, S, E), (q, R, F), (g, S, E)] w wx)
                case first =>
                  obtain ⟨a0, a1, a2, a3, a4⟩ := (ST0.out.1 (h, S, E) (by simp)).2
                  have hs0 : wc.cell? ⟨h, 0, none⟩ = some (.string S) ∧ wc.cell? ⟨h, 1, none⟩ = some (.int .i64 E) ∧ wc.cell? ⟨b, off + k * 2 + 1, none⟩ = some (.int .i64 nd) ∧ St [(h, S, E), (q, R, F), (g, S, E)] w wc := ⟨a0, a1, (ST0.out.2.cell (p := ⟨b, off + k * 2 + 1, none⟩) HBL.out).trans HD1.out, ST0.out⟩
                  have HQ := Lib.hid ST0.out.fresh
                  have HQB : Hid (wc.heap.size ≠ b) := Lib.hid (Nat.ne_of_gt (Nat.lt_of_lt_of_le HBL.out ST0.out.2.size))
                  go_region_held3 (fun w' => w'.cell? ⟨h, 0, none⟩ = some (.string S) ∧ w'.cell? ⟨h, 1, none⟩ = some (.int .i64 E) ∧ w'.cell? ⟨b, off + k * 2 + 1, none⟩ = some (.int .i64 nd) ∧ St [(h, S, E), (q, R, F), (g, S, E)] w w') (first | assumption | (refine su_drew ?_; assumption) | (refine su_call HBL.out (by assumption) ?_; assumption) | (refine su_alloc HBL.out _ ?_; assumption) | (refine su_drew ?_; refine su_alloc HBL.out _ ?_; assumption) | (refine su_other HQ.out HQB.out ?_; assumption))
                    (first | (go_at_call 15; refine (rbytes_at S A R E F nd _ NX.out).mono ?_; rintro e' w7 ⟨rfl, hw7⟩; have hS7 := su_call HBL.out hw7 (by assumption); have HS7 := Lib.hid hS7.2.2.2; first | (have r7 := (XC.via hw7 (XC.new (S := ⟨#[]⟩) (E := 0) (w := wc) 31)); have R7 := Lib.hid r7; obtain ⟨r0, r1, r2, r3, r4⟩ := r7) | (have r7 := (XC.via hw7 (XC.new (S := ⟨#[]⟩) (E := 0) (w := wc) 31).drew); have R7 := Lib.hid r7; obtain ⟨r0, r1, r2, r3, r4⟩ := r7) | skip))
                  · go_wp2_with fail
                    go_meet
                    case rel => exact ⟨rfl, w7.heap.size, rfl, HS7.out.fresh.1 (g, S, E) (by simp), HS7.out.fresh.1 (h, S, E) (by simp), HS7.out.fresh.1 (q, R, F) (by simp), HS7.out.new R F _⟩
                  · go_wp2_with fail
                    go_meet
                    case rel => exact ⟨rfl, wc.heap.size, rfl, HQ.out.1 (g, S, E) (by simp), HQ.out.1 (h, S, E) (by simp), HQ.out.1 (q, R, F) (by simp), HS7.out.made HQ.out R7.out R F⟩
                case rest =>
                  obtain ⟨rfl, q2, rfl, n1', n2', n3', st3⟩ := hcut
                  have hne := HB.out.2.2.1
                  have B3 : Both g h S E w wc := ⟨(st3.1 (g, S, E) (by simp)).2, (st3.1 (h, S, E) (by simp)).2, HB.out.2.2.1, HB.out.2.2.2.1, HB.out.2.2.2.2.1, st3.2⟩
                  have B4 := Lib.hid B3
                  obtain ⟨x0, x1, x2, x3, x4⟩ := (st3.1 (g, S, E) (by simp)).2
                  obtain ⟨y0, y1, y2, y3, y4⟩ := (st3.1 (h, S, E) (by simp)).2
                  obtain ⟨v0, v1, v2, v3, v4⟩ := (st3.1 (q, R, F) (by simp)).2
                  obtain ⟨z0, z1, z2, z3, z4⟩ := (st3.1 (q2, R, F) (by simp)).2
                  have m1 : ¬ g = q2 := fun e => n1' e.symm
                  have m2 : ¬ g = h := hne
                  have m3 : ¬ h = g := fun e => hne e.symm
                  clear st3 B3
                  go_wp2_with fail
                  go_meet
                  case rel => exact ⟨rfl, R, F, bytes_E NX.out HOK.out, both_put B4.out⟩
          · as_aux_lemma =>
              obtain ⟨R, F, hN⟩ : ∃ R F, Vr.pad S E nd = (R, F) := ⟨_, _, rfl⟩
              have NX := Lib.hid hN
              clear hN
              go_upto_region 31 with fail
              go_cut [] from 54 to 175 (fun wx => St [(g, R, F), (h, S, E)] w wx)
              case first =>
                have ST0 := Lib.hid (St.two HB.out)
                obtain ⟨a0, a1, a2, a3, a4⟩ := HB.out.1
                go_region_with (go_at_call 16; refine (pad_at S R E F nd _ HOK.out.len NX.out).mono ?_; rintro e' w7 ⟨rfl, hw7⟩; have S7 := St.via hw7 (by first | exact ST0.out | exact ST0.out.drew); have HS7 := Lib.hid S7; obtain ⟨q0, q1, q2, q3, q4⟩ := (S7.1 (g, S, E) (by simp)).2)
                all_goals
                  go_wp2_with fail
                  go_meet
                  case rel => first | exact HS7.out.put (by simpa using HB.out.2.2.1) R F | exact (HS7.out.put (by simpa using HB.out.2.2.1) R F).drew
              case rest =>
                have st2 : St [(h, S, E), (g, R, F)] w wc := ⟨fun p hp => hcut.1 p (by simp only [List.mem_cons] at hp ⊢; rcases hp with h | h | h <;> simp [h]), hcut.2⟩
                have ST0 := Lib.hid st2
                have d1'' := (st2.2.cell (p := ⟨b, off + k * 2 + 1, none⟩) HBL.out).trans HD1.out
                clear hcut st2 d1' d0'
                go_upto_region 32 with fail
                obtain ⟨a0, a1, a2, a3, a4⟩ := (ST0.out.1 (h, S, E) (by simp)).2
                have HGH : Hid (g ≠ h ∧ w.heap.size ≤ g ∧ w.heap.size ≤ h) := Lib.hid ⟨HB.out.2.2.1, HB.out.2.2.2.1, HB.out.2.2.2.2.1⟩
                go_region_with (go_at_call 17; refine (rpad_at S R E F nd _ HOK.out.len NX.out).mono ?_; rintro e' w7 ⟨rfl, hw7⟩; have S7 := St.via hw7 (by first | exact ST0.out | exact ST0.out.drew); have HS7 := Lib.hid S7; obtain ⟨q0, q1, q2, q3, q4⟩ := (S7.1 (h, S, E) (by simp)).2)
                all_goals
                  go_wp2_with fail
                  go_meet
                  case rel => first | exact ⟨rfl, R, F, pad_E NX.out HOK.out, both_of HGH.out (HS7.out.put (by simpa using HB.out.2.2.1.symm) R F)⟩ | exact ⟨rfl, R, F, pad_E NX.out HOK.out, both_of HGH.out (HS7.out.put (by simpa using HB.out.2.2.1.symm) R F).drew⟩
        case rest =>
         as_aux_lemma =>
          obtain ⟨rfl, hT2⟩ := hcut
          obtain ⟨S', E', hok', hB'⟩ := hT2
          have HB' := Lib.hid hB'
          have hq := tb_of hB'
          obtain ⟨v, hv⟩ : ∃ v, Vr.fin S' E' = v := ⟨_, rfl⟩
          have HV := Lib.hid hv
          clear hB' hv d0' d1'
          go_wp2_with fail
          go_region_held3 (fun w' => w'.cell? ⟨g, 0, none⟩ = some (.string S') ∧ w'.cell? ⟨g, 1, none⟩ = some (.int .i64 E') ∧ w'.cell? ⟨h, 0, none⟩ = some (.string S') ∧ w'.cell? ⟨h, 1, none⟩ = some (.int .i64 E') ∧ Both g h S' E' w w') (first | assumption | (refine tb_drew ?_; assumption) | (refine tb_call (by assumption) ?_; assumption))
            (first | (go_at_call 7; refine (ref_any S' E' _).mono ?_; rintro e' w7 ⟨rfl, hw7⟩) | (go_at_call 18; refine (end_at S' E' v _ HV.out).mono ?_; rintro e' w8 ⟨rfl, hw8⟩) | (go_at_call 19; refine (rend_at S' E' v _ HV.out).mono ?_; rintro e' w9 ⟨rfl, hw9⟩))
          all_goals
            go_wp2_with fail
            go_roundw
            case rel => exact ⟨k + 1, S', E', by omega, by go_num, rfl, hok', (by assumption : _ ∧ _ ∧ _ ∧ _ ∧ Both g h S' E' w _).2.2.2.2⟩
            case measure => simp [intOf]; omega
      · have hbw : Below w.heap.size w wr := hB.2.2.2.2.2
        clear hB
        rcases (show len ≤ k ∨ 10 ≤ k by omega) with hge | hge
        all_goals
          clear hlt
          go_wp2_with fail
          all_goals
            go_ret
            exact ⟨rfl, hbw⟩
end Go.Proofs.Ytahckijanjbagaa
