/- ClassLaws. -/
import Derived.Test.YtpnakbhbaghhgaaDoorCLFacts
set_option linter.unusedVariables false
namespace Go.Proofs.YtpnakbhbaghhgaaDoor
open Go.RowKit

set_option maxRecDepth 20000 in
set_option maxHeartbeats 16000000 in
theorem law_ClassLaws (x : Option Addr) (lx cx : Nat) (y : Option Addr) (ly cy : Nat) (r : Int) (w : World) (hT : Tab w) (ha : RunArg w x lx) (hla : lx ≤ 9223372036854775807) (hb : RunArg w y ly) (hlb : ly ≤ 9223372036854775807) (r0 : 0 ≤ r) (r1 : r ≤ 4294967295) :
    Calls Tryd.prog 4 #[.slice x lx cx, .slice y ly cy, .int .u32 r] w fun e w' => e = .returned (.bool true) ∧ Below w.heap.size w w' := by
  have HT := Lib.hid hT
  have Ha := Lib.hid ha
  have Hb := Lib.hid hb
  have bw := Below.refl w.heap.size w
  clear hT ha hb
  go_enter Tryd.func4, Tryd.ntmps4
  go_wp2_with fail
  refine (class_examples _ HT.out).mono ?_
  rintro e w1 ⟨rfl, hb1⟩
  have HT := Lib.hid (HT.out.below hb1)
  have Ha := Lib.hid (Ha.out.below hb1)
  have Hb := Lib.hid (Hb.out.below hb1)
  have bw' := bvia bw hb1
  clear bw hb1
  have bw := bw'
  clear bw'
  go_wp2_with fail
  refine (runs_any x lx cx 12 _ Ha.out (by omega) (by decide)).mono ?_
  rintro e w2 ⟨LX, hlX, hrX, hmk⟩
  obtain ⟨qX, cX, rfl, hX, hb2⟩ := mk_u hmk
  clear Ha
  have HT := Lib.hid (HT.out.below hb2)
  have Hb := Lib.hid (Hb.out.below hb2)
  have bw' := bvia bw hb2
  clear bw hb2 hmk
  have bw := bw'
  clear bw'
  have HX := Lib.hid hX
  clear hX hrX
  have sX : LX.length ≤ 1000 := by omega
  go_wp2_with fail
  obtain ⟨A, eA⟩ : ∃ A, Cl.of LX = A := ⟨_, rfl⟩
  have NA := Lib.hid (eA ▸ Cl.of_nf LX : Cl.NF A)
  have sA : A.length ≤ 12 := by have := Cl.of_len LX; rw [eA] at this; omega
  have EA := Lib.hid eA
  clear eA
  refine (of_at _ _ LX A _ HX.out sX EA.out).mono ?_
  rintro e w3 hmk
  obtain ⟨qA, cA, rfl, hA, hb3⟩ := mk_u hmk
  have HX := Lib.hid (HX.out.below hb3)
  have HT := Lib.hid (HT.out.below hb3)
  have Hb := Lib.hid (Hb.out.below hb3)
  have bw' := bvia bw hb3
  clear bw hb3 hmk
  have bw := bw'
  clear bw'
  have HA := Lib.hid hA
  clear hA
  clear HX
  go_wp2_with fail
  refine (runs_any y ly cy 12 _ Hb.out (by omega) (by decide)).mono ?_
  rintro e w4 ⟨LY, hlY, hrY, hmk⟩
  obtain ⟨qY, cY, rfl, hY, hb4⟩ := mk_u hmk
  clear Hb
  have HA := Lib.hid (HA.out.below hb4)
  have HT := Lib.hid (HT.out.below hb4)
  have bw' := bvia bw hb4
  clear bw hb4 hmk
  have bw := bw'
  clear bw'
  have HY := Lib.hid hY
  clear hY hrY
  have sY : LY.length ≤ 1000 := by omega
  go_wp2_with fail
  obtain ⟨B, eB⟩ : ∃ B, Cl.of LY = B := ⟨_, rfl⟩
  have NB := Lib.hid (eB ▸ Cl.of_nf LY : Cl.NF B)
  have sB : B.length ≤ 12 := by have := Cl.of_len LY; rw [eB] at this; omega
  have EB := Lib.hid eB
  clear eB
  refine (of_at _ _ LY B _ HY.out sY EB.out).mono ?_
  rintro e w5 hmk
  obtain ⟨qB, cB, rfl, hB, hb5⟩ := mk_u hmk
  have HA := Lib.hid (HA.out.below hb5)
  have HY := Lib.hid (HY.out.below hb5)
  have HT := Lib.hid (HT.out.below hb5)
  have bw' := bvia bw hb5
  clear bw hb5 hmk
  have bw := bw'
  clear bw'
  have HB := Lib.hid hB
  clear hB
  clear HY
  go_upto_if 27 with fail
  go_cut [10] (fun c wx => (∃ R, c = .int .i32 R ∧ 0 ≤ R ∧ R ≤ 1114111) ∧ wx = w5)
  case first =>
    by_cases hev : r % 2 = 0
    · go_wp2_with fail
      go_meet
      case rel => exact ⟨⟨_, rfl, by omega, by omega⟩, rfl⟩
    · go_wp2_with fail
      go_meet
      case rel => exact ⟨⟨_, rfl, by omega, by omega⟩, rfl⟩
  case rest =>
    obtain ⟨⟨R, rfl, hR0, hR1⟩, rfl⟩ := hcut
    clear r0 r1
    go_wp2_with fail
    have lU : (Cl.of (A ++ B)).length ≤ 1000 := by have := Cl.of_len (A ++ B); simp at this; omega
    have lN : (Cl.nots A).length ≤ 1000 := by have := Cl.nots_len A; omega
    have gU := Cl.union_sum NA.out NB.out
    have gN := Cl.of_not_sum NA.out
    have gA := Cl.of_sum A
    have gB := Cl.of_sum B
    have gO : Cl.of (Cl.nots A) = Cl.nots A := Cl.of_of (Cl.nots_spec A).1
    have gV : Cl.of (Cl.of (A ++ B)) = Cl.of (A ++ B) := Cl.of_of (Cl.of_nf _)
    rw [Cl.of_of NA.out] at gA
    rw [Cl.of_of NB.out] at gB
    have gX := Cl.nots_nots NA.out
    have gY := Cl.union_comm A B
    have gZ := Cl.union_not NA.out
    have gW : ∀ u v, hasB A R = u → hasB B R = v → hasB (Cl.of (A ++ B)) R = (u || v) := fun u v => has_union NA.out NB.out
    have gT : ∀ u, hasB A R = u → hasB (Cl.nots A) R = !u := fun u h => has_not NA.out h hR0 hR1
    have gS : ∀ n, Cl.sumL (Cl.of (Cl.of (A ++ B))) = n → Cl.sumL (Cl.of (A ++ B)) = n := fun n h => by rw [gV] at h; exact h
    obtain ⟨U, eU⟩ : ∃ v, Cl.of (A ++ B) = v := ⟨_, rfl⟩
    obtain ⟨N, eN⟩ : ∃ v, Cl.nots A = v := ⟨_, rfl⟩
    obtain ⟨O, eO⟩ : ∃ v, Cl.nots [] = v := ⟨_, rfl⟩
    rw [eN, eO] at gZ
    rw [eN] at lN gN gX gO
    rw [eU] at lU gU gY gV
    simp only [eN] at gT
    simp only [eU] at gW
    have oA := Cl.of_of NA.out
    have oB := Cl.of_of NB.out
    obtain ⟨sa, ea⟩ : ∃ v, Cl.sumL A = v := ⟨_, rfl⟩
    obtain ⟨sb, eb⟩ : ∃ v, Cl.sumL B = v := ⟨_, rfl⟩
    obtain ⟨su, eu⟩ : ∃ v, Cl.sumL U = v := ⟨_, rfl⟩
    obtain ⟨sn, en⟩ : ∃ v, Cl.sumL N = v := ⟨_, rfl⟩
    rw [ea, eb, eu] at gU
    rw [ea, en] at gN
    rw [ea] at gA
    rw [eb] at gB
    have MA := Lib.hid (show Cl.sumL (Cl.of A) = sa by rw [oA, ea])
    have MB := Lib.hid (show Cl.sumL (Cl.of B) = sb by rw [oB, eb])
    have MU := Lib.hid (show Cl.sumL (Cl.of U) = su by rw [gV, eu])
    have MN := Lib.hid (show Cl.sumL (Cl.of N) = sn by rw [gO, en])
    have EU := Lib.hid eU
    have EN := Lib.hid eN
    have EO := Lib.hid eO
    have GX := Lib.hid gX
    have GY := Lib.hid gY
    have GZ := Lib.hid gZ
    have lO : O.length ≤ 1000 := by rw [← eO]; exact (by decide : (Cl.nots []).length ≤ 1000)
    obtain ⟨va, hva⟩ : ∃ v, hasB A R = v := ⟨_, rfl⟩
    obtain ⟨vb, hvb⟩ : ∃ v, hasB B R = v := ⟨_, rfl⟩
    have VU := Lib.hid (gW va vb hva hvb)
    have VN := Lib.hid (gT va hva)
    have VA := Lib.hid hva
    have VB := Lib.hid hvb
    clear hva hvb gW gT gS gX gY gZ gO gV oA oB ea eb eu en eU eN eO hR0 hR1
    have wN : IntKind.i64.wrap (sa + sn) = 1114112 := by rw [gN]; decide
    have wU : IntKind.i64.wrap (sa + sb) = sa + sb := IntWalk.i64_in _ ⟨by omega, by omega⟩
    clear gN gA gB
    refine (union_at _ _ _ _ A B U _ HA.out HB.out (by omega) (by omega) EU.out).mono ?_
    rintro e w6 hmk
    obtain ⟨qU, cU, rfl, hU, hb6⟩ := mk_u hmk
    have HA := Lib.hid (HA.out.below hb6)
    have HB := Lib.hid (HB.out.below hb6)
    have HT := Lib.hid (HT.out.below hb6)
    have bw' := bvia bw hb6
    clear bw hb6 hmk
    have bw := bw'
    clear bw'
    have HU := Lib.hid hU
    clear hU
    go_wp2_with fail
    refine (not_at _ _ A N _ HA.out (by omega) EN.out).mono ?_
    rintro e w7 hmk
    obtain ⟨qN, cN, rfl, hN, hb7⟩ := mk_u hmk
    have HA := Lib.hid (HA.out.below hb7)
    have HB := Lib.hid (HB.out.below hb7)
    have HU := Lib.hid (HU.out.below hb7)
    have HT := Lib.hid (HT.out.below hb7)
    have bw' := bvia bw hb7
    clear bw hb7 hmk
    have bw := bw'
    clear bw'
    have HN := Lib.hid hN
    clear hN
    have VU := Lib.hid VU.out
    cases va
    ·
      go_wp2_with fail
      refine (has_at _ _ U R vb _ HU.out (by omega) (by simpa using VU.out)).mono ?_
      rintro e w8 ⟨rfl, hb8⟩
      have HA := Lib.hid (HA.out.below hb8)
      have HB := Lib.hid (HB.out.below hb8)
      have HU := Lib.hid (HU.out.below hb8)
      have HN := Lib.hid (HN.out.below hb8)
      have HT := Lib.hid (HT.out.below hb8)
      have bw' := bvia bw hb8
      clear bw hb8
      have bw := bw'
      clear bw'
      go_wp2_with fail
      refine (has_at _ _ A R false _ HA.out (by omega) VA.out).mono ?_
      rintro e w9 ⟨rfl, hb9⟩
      have HA := Lib.hid (HA.out.below hb9)
      have HB := Lib.hid (HB.out.below hb9)
      have HU := Lib.hid (HU.out.below hb9)
      have HN := Lib.hid (HN.out.below hb9)
      have HT := Lib.hid (HT.out.below hb9)
      have bw' := bvia bw hb9
      clear bw hb9
      have bw := bw'
      clear bw'
      go_wp2_with fail
      refine (has_at _ _ B R vb _ HB.out (by omega) VB.out).mono ?_
      rintro e w10 ⟨rfl, hb10⟩
      have HA := Lib.hid (HA.out.below hb10)
      have HB := Lib.hid (HB.out.below hb10)
      have HU := Lib.hid (HU.out.below hb10)
      have HN := Lib.hid (HN.out.below hb10)
      have HT := Lib.hid (HT.out.below hb10)
      have bw' := bvia bw hb10
      clear bw hb10
      have bw := bw'
      clear bw'
      go_wp2_with fail
      refine (has_at _ _ N R true _ HN.out (by omega) (by simpa using VN.out)).mono ?_
      rintro e w11 ⟨rfl, hb11⟩
      have HA := Lib.hid (HA.out.below hb11)
      have HB := Lib.hid (HB.out.below hb11)
      have HU := Lib.hid (HU.out.below hb11)
      have HN := Lib.hid (HN.out.below hb11)
      have HT := Lib.hid (HT.out.below hb11)
      have bw' := bvia bw hb11
      clear bw hb11
      have bw := bw'
      clear bw'
      go_wp2_with fail
      refine (has_at _ _ A R false _ HA.out (by omega) VA.out).mono ?_
      rintro e w12 ⟨rfl, hb12⟩
      have HA := Lib.hid (HA.out.below hb12)
      have HB := Lib.hid (HB.out.below hb12)
      have HU := Lib.hid (HU.out.below hb12)
      have HN := Lib.hid (HN.out.below hb12)
      have HT := Lib.hid (HT.out.below hb12)
      have bw' := bvia bw hb12
      clear bw hb12
      have bw := bw'
      clear bw'
      go_wp2_with fail
      refine (not_at _ _ N A _ HN.out (by omega) GX.out).mono ?_
      rintro e w13 hmk
      obtain ⟨qM, cM, rfl, hM, hb13⟩ := mk_u hmk
      have HA := Lib.hid (HA.out.below hb13)
      have HB := Lib.hid (HB.out.below hb13)
      have HU := Lib.hid (HU.out.below hb13)
      have HN := Lib.hid (HN.out.below hb13)
      have HT := Lib.hid (HT.out.below hb13)
      have bw' := bvia bw hb13
      clear bw hb13 hmk
      have bw := bw'
      clear bw'
      have HM := Lib.hid hM
      clear hM
      go_wp2_with fail
      refine (same_at _ _ _ _ A A true _ HM.out HA.out (by omega) (by omega) (by simp)).mono ?_
      rintro e w14 ⟨rfl, hb14⟩
      have HA := Lib.hid (HA.out.below hb14)
      have HB := Lib.hid (HB.out.below hb14)
      have HU := Lib.hid (HU.out.below hb14)
      have HN := Lib.hid (HN.out.below hb14)
      have HM := Lib.hid (HM.out.below hb14)
      have HT := Lib.hid (HT.out.below hb14)
      have bw' := bvia bw hb14
      clear bw hb14
      have bw := bw'
      clear bw'
      clear HM
      go_wp2_with fail
      refine (many_at _ _ A sa _ HA.out (by omega) MA.out).mono ?_
      rintro e w15 ⟨rfl, hb15⟩
      have HA := Lib.hid (HA.out.below hb15)
      have HB := Lib.hid (HB.out.below hb15)
      have HU := Lib.hid (HU.out.below hb15)
      have HN := Lib.hid (HN.out.below hb15)
      have HT := Lib.hid (HT.out.below hb15)
      have bw' := bvia bw hb15
      clear bw hb15
      have bw := bw'
      clear bw'
      go_wp2_with fail
      refine (many_at _ _ N sn _ HN.out (by omega) MN.out).mono ?_
      rintro e w16 ⟨rfl, hb16⟩
      have HA := Lib.hid (HA.out.below hb16)
      have HB := Lib.hid (HB.out.below hb16)
      have HU := Lib.hid (HU.out.below hb16)
      have HN := Lib.hid (HN.out.below hb16)
      have HT := Lib.hid (HT.out.below hb16)
      have bw' := bvia bw hb16
      clear bw hb16
      have bw := bw'
      clear bw'
      go_wp2_with fail
      refine (union_at _ _ _ _ B A U _ HB.out HA.out (by omega) (by omega) GY.out).mono ?_
      rintro e w17 hmk
      obtain ⟨qM, cM, rfl, hM, hb17⟩ := mk_u hmk
      have HA := Lib.hid (HA.out.below hb17)
      have HB := Lib.hid (HB.out.below hb17)
      have HU := Lib.hid (HU.out.below hb17)
      have HN := Lib.hid (HN.out.below hb17)
      have HT := Lib.hid (HT.out.below hb17)
      have bw' := bvia bw hb17
      clear bw hb17 hmk
      have bw := bw'
      clear bw'
      have HM := Lib.hid hM
      clear hM
      go_wp2_with fail
      refine (same_at _ _ _ _ U U true _ HU.out HM.out (by omega) (by omega) (by simp)).mono ?_
      rintro e w18 ⟨rfl, hb18⟩
      have HA := Lib.hid (HA.out.below hb18)
      have HB := Lib.hid (HB.out.below hb18)
      have HU := Lib.hid (HU.out.below hb18)
      have HN := Lib.hid (HN.out.below hb18)
      have HM := Lib.hid (HM.out.below hb18)
      have HT := Lib.hid (HT.out.below hb18)
      have bw' := bvia bw hb18
      clear bw hb18
      have bw := bw'
      clear bw'
      clear HM
      go_wp2_with fail
      refine (many_at _ _ U su _ HU.out (by omega) MU.out).mono ?_
      rintro e w19 ⟨rfl, hb19⟩
      have HA := Lib.hid (HA.out.below hb19)
      have HB := Lib.hid (HB.out.below hb19)
      have HU := Lib.hid (HU.out.below hb19)
      have HN := Lib.hid (HN.out.below hb19)
      have HT := Lib.hid (HT.out.below hb19)
      have bw' := bvia bw hb19
      clear bw hb19
      have bw := bw'
      clear bw'
      go_wp2_with fail
      refine (many_at _ _ A sa _ HA.out (by omega) MA.out).mono ?_
      rintro e w20 ⟨rfl, hb20⟩
      have HA := Lib.hid (HA.out.below hb20)
      have HB := Lib.hid (HB.out.below hb20)
      have HU := Lib.hid (HU.out.below hb20)
      have HN := Lib.hid (HN.out.below hb20)
      have HT := Lib.hid (HT.out.below hb20)
      have bw' := bvia bw hb20
      clear bw hb20
      have bw := bw'
      clear bw'
      go_wp2_with fail
      refine (many_at _ _ B sb _ HB.out (by omega) MB.out).mono ?_
      rintro e w21 ⟨rfl, hb21⟩
      have HA := Lib.hid (HA.out.below hb21)
      have HB := Lib.hid (HB.out.below hb21)
      have HU := Lib.hid (HU.out.below hb21)
      have HN := Lib.hid (HN.out.below hb21)
      have HT := Lib.hid (HT.out.below hb21)
      have bw' := bvia bw hb21
      clear bw hb21
      have bw := bw'
      clear bw'
      go_wp2_with fail
      refine (union_at _ _ _ _ A N O _ HA.out HN.out (by omega) (by omega) GZ.out).mono ?_
      rintro e w22 hmk
      obtain ⟨qM, cM, rfl, hM, hb22⟩ := mk_u hmk
      have HA := Lib.hid (HA.out.below hb22)
      have HB := Lib.hid (HB.out.below hb22)
      have HU := Lib.hid (HU.out.below hb22)
      have HN := Lib.hid (HN.out.below hb22)
      have HT := Lib.hid (HT.out.below hb22)
      have bw' := bvia bw hb22
      clear bw hb22 hmk
      have bw := bw'
      clear bw'
      have HM := Lib.hid hM
      clear hM
      go_wp2_with fail
      refine (not_at _ _ [] O _ (lv_nil _) (by decide) EO.out).mono ?_
      rintro e w23 hmk
      obtain ⟨qW, cW, rfl, hW, hb23⟩ := mk_u hmk
      have HA := Lib.hid (HA.out.below hb23)
      have HB := Lib.hid (HB.out.below hb23)
      have HU := Lib.hid (HU.out.below hb23)
      have HN := Lib.hid (HN.out.below hb23)
      have HM := Lib.hid (HM.out.below hb23)
      have HT := Lib.hid (HT.out.below hb23)
      have bw' := bvia bw hb23
      clear bw hb23 hmk
      have bw := bw'
      clear bw'
      have HW := Lib.hid hW
      clear hW
      go_wp2_with fail
      refine (same_at _ _ _ _ O O true _ HM.out HW.out (by omega) (by omega) (by simp)).mono ?_
      rintro e w24 ⟨rfl, hb24⟩
      have HA := Lib.hid (HA.out.below hb24)
      have HB := Lib.hid (HB.out.below hb24)
      have HU := Lib.hid (HU.out.below hb24)
      have HN := Lib.hid (HN.out.below hb24)
      have HM := Lib.hid (HM.out.below hb24)
      have HW := Lib.hid (HW.out.below hb24)
      have HT := Lib.hid (HT.out.below hb24)
      have bw' := bvia bw hb24
      clear bw hb24
      have bw := bw'
      clear bw'
      go_wp2_with fail
      go_ret
      exact ⟨rfl, bw⟩
    ·
      go_wp2_with fail
      refine (has_at _ _ U R true _ HU.out (by omega) (by simpa using VU.out)).mono ?_
      rintro e w8 ⟨rfl, hb8⟩
      have HA := Lib.hid (HA.out.below hb8)
      have HB := Lib.hid (HB.out.below hb8)
      have HU := Lib.hid (HU.out.below hb8)
      have HN := Lib.hid (HN.out.below hb8)
      have HT := Lib.hid (HT.out.below hb8)
      have bw' := bvia bw hb8
      clear bw hb8
      have bw := bw'
      clear bw'
      go_wp2_with fail
      refine (has_at _ _ A R true _ HA.out (by omega) VA.out).mono ?_
      rintro e w9 ⟨rfl, hb9⟩
      have HA := Lib.hid (HA.out.below hb9)
      have HB := Lib.hid (HB.out.below hb9)
      have HU := Lib.hid (HU.out.below hb9)
      have HN := Lib.hid (HN.out.below hb9)
      have HT := Lib.hid (HT.out.below hb9)
      have bw' := bvia bw hb9
      clear bw hb9
      have bw := bw'
      clear bw'
      go_wp2_with fail
      refine (has_at _ _ N R false _ HN.out (by omega) (by simpa using VN.out)).mono ?_
      rintro e w10 ⟨rfl, hb10⟩
      have HA := Lib.hid (HA.out.below hb10)
      have HB := Lib.hid (HB.out.below hb10)
      have HU := Lib.hid (HU.out.below hb10)
      have HN := Lib.hid (HN.out.below hb10)
      have HT := Lib.hid (HT.out.below hb10)
      have bw' := bvia bw hb10
      clear bw hb10
      have bw := bw'
      clear bw'
      go_wp2_with fail
      refine (has_at _ _ A R true _ HA.out (by omega) VA.out).mono ?_
      rintro e w11 ⟨rfl, hb11⟩
      have HA := Lib.hid (HA.out.below hb11)
      have HB := Lib.hid (HB.out.below hb11)
      have HU := Lib.hid (HU.out.below hb11)
      have HN := Lib.hid (HN.out.below hb11)
      have HT := Lib.hid (HT.out.below hb11)
      have bw' := bvia bw hb11
      clear bw hb11
      have bw := bw'
      clear bw'
      go_wp2_with fail
      refine (not_at _ _ N A _ HN.out (by omega) GX.out).mono ?_
      rintro e w12 hmk
      obtain ⟨qM, cM, rfl, hM, hb12⟩ := mk_u hmk
      have HA := Lib.hid (HA.out.below hb12)
      have HB := Lib.hid (HB.out.below hb12)
      have HU := Lib.hid (HU.out.below hb12)
      have HN := Lib.hid (HN.out.below hb12)
      have HT := Lib.hid (HT.out.below hb12)
      have bw' := bvia bw hb12
      clear bw hb12 hmk
      have bw := bw'
      clear bw'
      have HM := Lib.hid hM
      clear hM
      go_wp2_with fail
      refine (same_at _ _ _ _ A A true _ HM.out HA.out (by omega) (by omega) (by simp)).mono ?_
      rintro e w13 ⟨rfl, hb13⟩
      have HA := Lib.hid (HA.out.below hb13)
      have HB := Lib.hid (HB.out.below hb13)
      have HU := Lib.hid (HU.out.below hb13)
      have HN := Lib.hid (HN.out.below hb13)
      have HM := Lib.hid (HM.out.below hb13)
      have HT := Lib.hid (HT.out.below hb13)
      have bw' := bvia bw hb13
      clear bw hb13
      have bw := bw'
      clear bw'
      clear HM
      go_wp2_with fail
      refine (many_at _ _ A sa _ HA.out (by omega) MA.out).mono ?_
      rintro e w14 ⟨rfl, hb14⟩
      have HA := Lib.hid (HA.out.below hb14)
      have HB := Lib.hid (HB.out.below hb14)
      have HU := Lib.hid (HU.out.below hb14)
      have HN := Lib.hid (HN.out.below hb14)
      have HT := Lib.hid (HT.out.below hb14)
      have bw' := bvia bw hb14
      clear bw hb14
      have bw := bw'
      clear bw'
      go_wp2_with fail
      refine (many_at _ _ N sn _ HN.out (by omega) MN.out).mono ?_
      rintro e w15 ⟨rfl, hb15⟩
      have HA := Lib.hid (HA.out.below hb15)
      have HB := Lib.hid (HB.out.below hb15)
      have HU := Lib.hid (HU.out.below hb15)
      have HN := Lib.hid (HN.out.below hb15)
      have HT := Lib.hid (HT.out.below hb15)
      have bw' := bvia bw hb15
      clear bw hb15
      have bw := bw'
      clear bw'
      go_wp2_with fail
      refine (union_at _ _ _ _ B A U _ HB.out HA.out (by omega) (by omega) GY.out).mono ?_
      rintro e w16 hmk
      obtain ⟨qM, cM, rfl, hM, hb16⟩ := mk_u hmk
      have HA := Lib.hid (HA.out.below hb16)
      have HB := Lib.hid (HB.out.below hb16)
      have HU := Lib.hid (HU.out.below hb16)
      have HN := Lib.hid (HN.out.below hb16)
      have HT := Lib.hid (HT.out.below hb16)
      have bw' := bvia bw hb16
      clear bw hb16 hmk
      have bw := bw'
      clear bw'
      have HM := Lib.hid hM
      clear hM
      go_wp2_with fail
      refine (same_at _ _ _ _ U U true _ HU.out HM.out (by omega) (by omega) (by simp)).mono ?_
      rintro e w17 ⟨rfl, hb17⟩
      have HA := Lib.hid (HA.out.below hb17)
      have HB := Lib.hid (HB.out.below hb17)
      have HU := Lib.hid (HU.out.below hb17)
      have HN := Lib.hid (HN.out.below hb17)
      have HM := Lib.hid (HM.out.below hb17)
      have HT := Lib.hid (HT.out.below hb17)
      have bw' := bvia bw hb17
      clear bw hb17
      have bw := bw'
      clear bw'
      clear HM
      go_wp2_with fail
      refine (many_at _ _ U su _ HU.out (by omega) MU.out).mono ?_
      rintro e w18 ⟨rfl, hb18⟩
      have HA := Lib.hid (HA.out.below hb18)
      have HB := Lib.hid (HB.out.below hb18)
      have HU := Lib.hid (HU.out.below hb18)
      have HN := Lib.hid (HN.out.below hb18)
      have HT := Lib.hid (HT.out.below hb18)
      have bw' := bvia bw hb18
      clear bw hb18
      have bw := bw'
      clear bw'
      go_wp2_with fail
      refine (many_at _ _ A sa _ HA.out (by omega) MA.out).mono ?_
      rintro e w19 ⟨rfl, hb19⟩
      have HA := Lib.hid (HA.out.below hb19)
      have HB := Lib.hid (HB.out.below hb19)
      have HU := Lib.hid (HU.out.below hb19)
      have HN := Lib.hid (HN.out.below hb19)
      have HT := Lib.hid (HT.out.below hb19)
      have bw' := bvia bw hb19
      clear bw hb19
      have bw := bw'
      clear bw'
      go_wp2_with fail
      refine (many_at _ _ B sb _ HB.out (by omega) MB.out).mono ?_
      rintro e w20 ⟨rfl, hb20⟩
      have HA := Lib.hid (HA.out.below hb20)
      have HB := Lib.hid (HB.out.below hb20)
      have HU := Lib.hid (HU.out.below hb20)
      have HN := Lib.hid (HN.out.below hb20)
      have HT := Lib.hid (HT.out.below hb20)
      have bw' := bvia bw hb20
      clear bw hb20
      have bw := bw'
      clear bw'
      go_wp2_with fail
      refine (union_at _ _ _ _ A N O _ HA.out HN.out (by omega) (by omega) GZ.out).mono ?_
      rintro e w21 hmk
      obtain ⟨qM, cM, rfl, hM, hb21⟩ := mk_u hmk
      have HA := Lib.hid (HA.out.below hb21)
      have HB := Lib.hid (HB.out.below hb21)
      have HU := Lib.hid (HU.out.below hb21)
      have HN := Lib.hid (HN.out.below hb21)
      have HT := Lib.hid (HT.out.below hb21)
      have bw' := bvia bw hb21
      clear bw hb21 hmk
      have bw := bw'
      clear bw'
      have HM := Lib.hid hM
      clear hM
      go_wp2_with fail
      refine (not_at _ _ [] O _ (lv_nil _) (by decide) EO.out).mono ?_
      rintro e w22 hmk
      obtain ⟨qW, cW, rfl, hW, hb22⟩ := mk_u hmk
      have HA := Lib.hid (HA.out.below hb22)
      have HB := Lib.hid (HB.out.below hb22)
      have HU := Lib.hid (HU.out.below hb22)
      have HN := Lib.hid (HN.out.below hb22)
      have HM := Lib.hid (HM.out.below hb22)
      have HT := Lib.hid (HT.out.below hb22)
      have bw' := bvia bw hb22
      clear bw hb22 hmk
      have bw := bw'
      clear bw'
      have HW := Lib.hid hW
      clear hW
      go_wp2_with fail
      refine (same_at _ _ _ _ O O true _ HM.out HW.out (by omega) (by omega) (by simp)).mono ?_
      rintro e w23 ⟨rfl, hb23⟩
      have HA := Lib.hid (HA.out.below hb23)
      have HB := Lib.hid (HB.out.below hb23)
      have HU := Lib.hid (HU.out.below hb23)
      have HN := Lib.hid (HN.out.below hb23)
      have HM := Lib.hid (HM.out.below hb23)
      have HW := Lib.hid (HW.out.below hb23)
      have HT := Lib.hid (HT.out.below hb23)
      have bw' := bvia bw hb23
      clear bw hb23
      have bw := bw'
      clear bw'
      go_wp2_with fail
      go_ret
      exact ⟨rfl, bw⟩
end Go.Proofs.YtpnakbhbaghhgaaDoor
