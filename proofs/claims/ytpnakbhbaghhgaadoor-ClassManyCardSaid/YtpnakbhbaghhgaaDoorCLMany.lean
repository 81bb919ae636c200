/- ClassMany. -/
import Derived.Test.YtpnakbhbaghhgaaDoorCLFacts
set_option linter.unusedVariables false
namespace Go.Proofs.YtpnakbhbaghhgaaDoor
open Go.RowKit

set_option maxRecDepth 20000 in
set_option maxHeartbeats 16000000 in
theorem law_ClassMany (low : Int) (long : Int) (r : Int) (x : Option Addr) (lx cx : Nat) (w : World) (hT : Tab w) (l0 : 0 ≤ low) (l1 : low ≤ 4294967295) (g0 : 0 ≤ long) (g1 : long ≤ 65535) (r0 : 0 ≤ r) (r1 : r ≤ 4294967295) (ha : RunArg w x lx) (hla : lx ≤ 9223372036854775807) :
    Calls Tryd.prog 7 #[.int .u32 low, .int .u16 long, .int .u32 r, .slice x lx cx] w fun e w' => e = .returned (.bool true) ∧ Below w.heap.size w w' := by
  have HT := Lib.hid hT
  have Ha := Lib.hid ha
  have bw := Below.refl w.heap.size w
  clear hT ha
  go_enter Tryd.func7, Tryd.ntmps7
  go_wp2_with fail
  refine (class_examples _ HT.out).mono ?_
  rintro e w1 ⟨rfl, hb1⟩
  have HT := Lib.hid (HT.out.below hb1)
  have Ha := Lib.hid (Ha.out.below hb1)
  have bw' := bvia bw hb1
  clear bw hb1
  have bw := bw'
  clear bw'
  obtain ⟨P, hP⟩ : ∃ P, low % 1048576 = P := ⟨_, rfl⟩
  have p0 : 0 ≤ P := by omega
  have p1 : P ≤ 1048575 := by omega
  go_wp2_with fail
  have hm : Cl.may (P, P + long) := ⟨p0, by show P + long ≤ 1114111; omega, by show P ≤ P + long; omega⟩
  have ho := Lib.hid (Cl.of_one hm)
  have hs := Lib.hid (show Cl.sumL (Cl.of [(P, P + long)]) = long + 1 by rw [Cl.of_one hm]; simp only [Cl.sumL]; omega)
  clear hm
  have bA := below_new w1 (.cells #[.int .i32 P, .int .i32 (P + long)] 48)
  have hC := lv_new w1 #[.int .i32 P, .int .i32 (P + long)] 48 1 [(P, P + long)] rfl
  have HT := Lib.hid (HT.out.below bA)
  have Ha := Lib.hid (Ha.out.below bA)
  have bw' := bvia bw bA
  clear bw bA
  have bw := bw'
  clear bw'
  generalize w1.alloc (.cells #[.int .i32 P, .int .i32 (P + long)] 48) = w2 at *
  have HC := Lib.hid hC
  clear hC
  refine (of_at _ _ [(P, P + long)] [(P, P + long)] _ HC.out (by simp) ho.out).mono ?_
  rintro e w3 hmk
  obtain ⟨qD, cD, rfl, hD, hb3⟩ := mk_u hmk
  have HC := Lib.hid (HC.out.below hb3)
  have HT := Lib.hid (HT.out.below hb3)
  have Ha := Lib.hid (Ha.out.below hb3)
  have bw' := bvia bw hb3
  clear bw hb3 hmk
  have bw := bw'
  clear bw'
  have HD := Lib.hid hD
  clear hD
  clear HC
  go_upto_if 37 with fail
  go_cut [13] (fun c wx => (∃ R, c = .int .i32 R) ∧ wx = w3)
  case first =>
    by_cases hev : r % 3 = 0
    · go_wp2_with fail
      go_meet
      case rel => exact ⟨⟨_, rfl⟩, rfl⟩
    · go_wp2_with fail
      go_meet
      case rel => exact ⟨⟨_, rfl⟩, rfl⟩
  case rest =>
    obtain ⟨⟨Y, rfl⟩, rfl⟩ := hcut
    clear r0 r1
    go_wp2_with fail
    refine (runs_any x lx cx 8 _ Ha.out (by omega) (by decide)).mono ?_
    rintro e w4 ⟨LX, hlX, hrX, hmk⟩
    obtain ⟨qX, cX, rfl, hX, hb4⟩ := mk_u hmk
    clear Ha
    have HD := Lib.hid (HD.out.below hb4)
    have HT := Lib.hid (HT.out.below hb4)
    have bw' := bvia bw hb4
    clear bw hb4 hmk
    have bw := bw'
    clear bw'
    have HX := Lib.hid hX
    clear hX hrX
    have sX : LX.length ≤ 1000 := by omega
    go_wp2_with fail
    obtain ⟨A, eA⟩ : ∃ A, Cl.of LX = A := ⟨_, rfl⟩
    have NA := Lib.hid (eA ▸ Cl.of_nf LX : Cl.NF A)
    have sA : A.length ≤ 8 := by have := Cl.of_len LX; rw [eA] at this; omega
    have EA := Lib.hid eA
    clear eA
    refine (of_at _ _ LX A _ HX.out sX EA.out).mono ?_
    rintro e w5 hmk
    obtain ⟨qA, cA, rfl, hA, hb5⟩ := mk_u hmk
    have HD := Lib.hid (HD.out.below hb5)
    have HX := Lib.hid (HX.out.below hb5)
    have HT := Lib.hid (HT.out.below hb5)
    have bw' := bvia bw hb5
    clear bw hb5 hmk
    have bw := bw'
    clear bw'
    have HA := Lib.hid hA
    clear hA
    clear HX
    go_wp2_with fail
    obtain ⟨n, hn⟩ : ∃ n, Cl.sumL A = n := ⟨_, rfl⟩
    have HN := Lib.hid hn
    have HB := Lib.hid (bd_nf NA.out)
    clear hn
    go_loopw [15, 16] (fun s i wr => ∃ (k : Nat) (z : Int), i = .int .i64 (k : Int) ∧ s = .int .i64 z ∧ k ≤ A.length ∧ Hid (SumAt A k z) ∧ Below w5.heap.size w5 wr) (fun _ i _ => A.length - (intOf i).toNat)
    case atStart => exact ⟨0, 0, rfl, rfl, Nat.zero_le _, Lib.hid (sumat_zero A), Below.refl _ _⟩
    case round =>
      obtain ⟨k, z, rfl, rfl, hk, hsz, br⟩ := hrel
      by_cases hlt : k < A.length
      · obtain ⟨g, off, a, b, rfl, hg, hab, c1, c2⟩ := (HA.out.below br).1.get hlt
        have hkl : (k : Int) < (A.length : Int) := by omega
        have hk0 : (0 : Int) ≤ (k : Int) := by omega
        have hm := HB.out k _ hab
        unfold Cl.may at hm
        simp only at hm
        have hs' := sumat_more hsz.out hab hm
        have hb1 := hsz.out.2
        have HS := Lib.hid hs'
        have w0 : IntKind.i32.wrap (b - a) = b - a := IntWalk.i32_in _ ⟨by omega, by omega⟩
        have w1' : IntKind.i64.wrap (b - a) = b - a := IntWalk.i64_in _ ⟨by omega, by omega⟩
        have w2' : IntKind.i64.wrap (z + (b - a)) = z + (b - a) := IntWalk.i64_in _ ⟨by omega, by omega⟩
        have w3' : IntKind.i64.wrap (z + (b - a) + 1) = z + (b - a) + 1 := IntWalk.i64_in _ ⟨by omega, by omega⟩
        clear hab hs'
        go_wp2_with fail
        go_quiet (fail)
        go_wp2_with fail
        go_roundw
        case rel => exact ⟨k + 1, z + (b - a) + 1, by go_num, rfl, by omega, HS, bdrewN br⟩
        case measure => simp [intOf]; omega
      · obtain rfl : k = A.length := by omega
        have hx : z = n := by
          have := hsz.out.1
          rw [List.take_length, HN.out] at this
          exact this
        subst hx
        clear hsz HB
        have HD := Lib.hid (HD.out.below br)
        have HA := Lib.hid (HA.out.below br)
        have HT := Lib.hid (HT.out.below br)
        have bw' := bvia bw br
        clear bw br
        have bw := bw'
        clear bw'
        have HM := Lib.hid (show Cl.sumL (Cl.of A) = z by rw [Cl.of_of NA.out]; exact HN.out)
        clear HN
        have hh : hasB [(P, P + long)] Y = (decide (P ≤ Y) && decide (Y ≤ P + long)) := has_one
        obtain ⟨vh, hvh⟩ : ∃ v, hasB [(P, P + long)] Y = v := ⟨_, rfl⟩
        have VH := Lib.hid hvh
        rw [hvh] at hh
        clear hvh
        have wl : IntKind.i64.wrap (long + 1) = long + 1 := IntWalk.i64_in _ ⟨by omega, by omega⟩
        go_wp2_with fail
        refine (many_at _ _ [(P, P + long)] (long + 1) _ HD.out (by simp) hs.out).mono ?_
        rintro e w6 ⟨rfl, hb6⟩
        have HD := Lib.hid (HD.out.below hb6)
        have HA := Lib.hid (HA.out.below hb6)
        have HT := Lib.hid (HT.out.below hb6)
        have bw' := bvia bw hb6
        clear bw hb6
        have bw := bw'
        clear bw'
        go_wp2_with fail
        refine (has_at _ _ [(P, P + long)] Y vh _ HD.out (by simp) VH.out).mono ?_
        rintro e w7 ⟨rfl, hb7⟩
        have HD := Lib.hid (HD.out.below hb7)
        have HA := Lib.hid (HA.out.below hb7)
        have HT := Lib.hid (HT.out.below hb7)
        have bw' := bvia bw hb7
        clear bw hb7
        have bw := bw'
        clear bw'
        have key : (P ≤ Y ∧ Y ≤ P + long ∧ vh = true) ∨ (P ≤ Y ∧ ¬ Y ≤ P + long ∧ vh = false) ∨ (¬ P ≤ Y ∧ vh = false) := by
          by_cases h1 : P ≤ Y <;> by_cases h2 : Y ≤ P + long <;> simp [h1, h2] at hh ⊢ <;> exact hh
        clear hh VH
        rcases key with ⟨k1, k2, rfl⟩ | ⟨k1, k2, rfl⟩ | ⟨k1, rfl⟩
        ·
          go_wp2_with fail
          refine (many_at _ _ A z _ HA.out (by omega) HM.out).mono ?_
          rintro e w8 ⟨rfl, hb8⟩
          have HD := Lib.hid (HD.out.below hb8)
          have HA := Lib.hid (HA.out.below hb8)
          have HT := Lib.hid (HT.out.below hb8)
          have bw' := bvia bw hb8
          clear bw hb8
          have bw := bw'
          clear bw'
          go_wp2_with fail
          refine (not_at _ _ [] (Cl.nots []) _ (lv_nil _) (by decide) rfl).mono ?_
          rintro e w9 hmk
          obtain ⟨qE, cE, rfl, hE, hb9⟩ := mk_u hmk
          have HD := Lib.hid (HD.out.below hb9)
          have HA := Lib.hid (HA.out.below hb9)
          have HT := Lib.hid (HT.out.below hb9)
          have bw' := bvia bw hb9
          clear bw hb9 hmk
          have bw := bw'
          clear bw'
          have HE := Lib.hid hE
          clear hE
          go_wp2_with fail
          refine (not_at _ _ (Cl.nots []) [] _ HE.out (by decide) Cl.nots_all).mono ?_
          rintro e w10 hmk
          obtain ⟨qF, cF, rfl, hF, hb10⟩ := mk_u hmk
          have HD := Lib.hid (HD.out.below hb10)
          have HA := Lib.hid (HA.out.below hb10)
          have HE := Lib.hid (HE.out.below hb10)
          have HT := Lib.hid (HT.out.below hb10)
          have bw' := bvia bw hb10
          clear bw hb10 hmk
          have bw := bw'
          clear bw'
          have HF := Lib.hid hF
          clear hF
          go_wp2_with fail
          refine (many_at _ _ [] 0 _ HF.out (by decide) rfl).mono ?_
          rintro e w11 ⟨rfl, hb11⟩
          have HD := Lib.hid (HD.out.below hb11)
          have HA := Lib.hid (HA.out.below hb11)
          have HE := Lib.hid (HE.out.below hb11)
          have HF := Lib.hid (HF.out.below hb11)
          have HT := Lib.hid (HT.out.below hb11)
          have bw' := bvia bw hb11
          clear bw hb11
          have bw := bw'
          clear bw'
          go_wp2_with fail
          go_ret
          exact ⟨rfl, bw⟩
        ·
          have k3 : decide (Y ≤ P + long) = false := decide_eq_false k2
          go_wp2_with fail
          refine (many_at _ _ A z _ HA.out (by omega) HM.out).mono ?_
          rintro e w8 ⟨rfl, hb8⟩
          have HD := Lib.hid (HD.out.below hb8)
          have HA := Lib.hid (HA.out.below hb8)
          have HT := Lib.hid (HT.out.below hb8)
          have bw' := bvia bw hb8
          clear bw hb8
          have bw := bw'
          clear bw'
          go_wp2_with fail
          refine (not_at _ _ [] (Cl.nots []) _ (lv_nil _) (by decide) rfl).mono ?_
          rintro e w9 hmk
          obtain ⟨qE, cE, rfl, hE, hb9⟩ := mk_u hmk
          have HD := Lib.hid (HD.out.below hb9)
          have HA := Lib.hid (HA.out.below hb9)
          have HT := Lib.hid (HT.out.below hb9)
          have bw' := bvia bw hb9
          clear bw hb9 hmk
          have bw := bw'
          clear bw'
          have HE := Lib.hid hE
          clear hE
          go_wp2_with fail
          refine (not_at _ _ (Cl.nots []) [] _ HE.out (by decide) Cl.nots_all).mono ?_
          rintro e w10 hmk
          obtain ⟨qF, cF, rfl, hF, hb10⟩ := mk_u hmk
          have HD := Lib.hid (HD.out.below hb10)
          have HA := Lib.hid (HA.out.below hb10)
          have HE := Lib.hid (HE.out.below hb10)
          have HT := Lib.hid (HT.out.below hb10)
          have bw' := bvia bw hb10
          clear bw hb10 hmk
          have bw := bw'
          clear bw'
          have HF := Lib.hid hF
          clear hF
          go_wp2_with fail
          refine (many_at _ _ [] 0 _ HF.out (by decide) rfl).mono ?_
          rintro e w11 ⟨rfl, hb11⟩
          have HD := Lib.hid (HD.out.below hb11)
          have HA := Lib.hid (HA.out.below hb11)
          have HE := Lib.hid (HE.out.below hb11)
          have HF := Lib.hid (HF.out.below hb11)
          have HT := Lib.hid (HT.out.below hb11)
          have bw' := bvia bw hb11
          clear bw hb11
          have bw := bw'
          clear bw'
          go_wp2_with fail
          go_ret
          exact ⟨rfl, bw⟩
        ·
          go_wp2_with fail
          refine (many_at _ _ A z _ HA.out (by omega) HM.out).mono ?_
          rintro e w8 ⟨rfl, hb8⟩
          have HD := Lib.hid (HD.out.below hb8)
          have HA := Lib.hid (HA.out.below hb8)
          have HT := Lib.hid (HT.out.below hb8)
          have bw' := bvia bw hb8
          clear bw hb8
          have bw := bw'
          clear bw'
          go_wp2_with fail
          refine (not_at _ _ [] (Cl.nots []) _ (lv_nil _) (by decide) rfl).mono ?_
          rintro e w9 hmk
          obtain ⟨qE, cE, rfl, hE, hb9⟩ := mk_u hmk
          have HD := Lib.hid (HD.out.below hb9)
          have HA := Lib.hid (HA.out.below hb9)
          have HT := Lib.hid (HT.out.below hb9)
          have bw' := bvia bw hb9
          clear bw hb9 hmk
          have bw := bw'
          clear bw'
          have HE := Lib.hid hE
          clear hE
          go_wp2_with fail
          refine (not_at _ _ (Cl.nots []) [] _ HE.out (by decide) Cl.nots_all).mono ?_
          rintro e w10 hmk
          obtain ⟨qF, cF, rfl, hF, hb10⟩ := mk_u hmk
          have HD := Lib.hid (HD.out.below hb10)
          have HA := Lib.hid (HA.out.below hb10)
          have HE := Lib.hid (HE.out.below hb10)
          have HT := Lib.hid (HT.out.below hb10)
          have bw' := bvia bw hb10
          clear bw hb10 hmk
          have bw := bw'
          clear bw'
          have HF := Lib.hid hF
          clear hF
          go_wp2_with fail
          refine (many_at _ _ [] 0 _ HF.out (by decide) rfl).mono ?_
          rintro e w11 ⟨rfl, hb11⟩
          have HD := Lib.hid (HD.out.below hb11)
          have HA := Lib.hid (HA.out.below hb11)
          have HE := Lib.hid (HE.out.below hb11)
          have HF := Lib.hid (HF.out.below hb11)
          have HT := Lib.hid (HT.out.below hb11)
          have bw' := bvia bw hb11
          clear bw hb11
          have bw := bw'
          clear bw'
          go_wp2_with fail
          go_ret
          exact ⟨rfl, bw⟩
end Go.Proofs.YtpnakbhbaghhgaaDoor
