/- ClassTells. -/
import Derived.Test.YtpnakbhbaghhgaaDoorCEx
set_option linter.unusedVariables false
namespace Go.Proofs.YtpnakbhbaghhgaaDoor
open Go.RowKit

set_option maxRecDepth 20000 in
set_option maxHeartbeats 16000000 in
theorem law_ClassTells (a : Option Addr) (la ca : Nat) (b : Option Addr) (lb cb : Nat) (r : Int) (own : Bool) (w : World) (hT : Tab w) (ha : RunArg w a la) (hla : la ≤ 9223372036854775807) (hb : RunArg w b lb) (hlb : lb ≤ 9223372036854775807) (r0 : -2147483648 ≤ r) (r1 : r ≤ 2147483647) :
    Calls Tryd.prog 3 #[.slice a la ca, .slice b lb cb, .int .i32 r, .bool own] w fun e w' => e = .returned (.bool true) ∧ Below w.heap.size w w' := by
  have HT := Lib.hid hT
  have HA := Lib.hid ha
  have HB := Lib.hid hb
  have B := Below.refl w.heap.size w
  clear hT ha hb
  go_enter Tryd.func3, Tryd.ntmps3
  go_wp2_with fail
  refine (class_examples _ HT.out).mono ?_
  rintro e w1 ⟨rfl, hb1⟩
  have HT := Lib.hid (HT.out.below hb1)
  have HA := Lib.hid (HA.out.below hb1)
  have HB := Lib.hid (HB.out.below hb1)
  have B' := bvia B hb1
  clear B hb1
  have B := B'
  clear B'
  go_wp2_with fail
  refine (runs_any a la ca 20 _ HA.out (by omega) (by decide)).mono ?_
  rintro e w2 ⟨LX, hlX, hrX, hmk⟩
  obtain ⟨qX, cX, rfl, hX, hb2⟩ := mk_u hmk
  clear HA
  have HT := Lib.hid (HT.out.below hb2)
  have HB := Lib.hid (HB.out.below hb2)
  have B' := bvia B hb2
  clear B hb2 hmk
  have B := B'
  clear B'
  have HRX := Lib.hid hrX
  have HX := Lib.hid hX
  clear hX hrX
  go_wp2_with fail
  refine (runs_any b lb cb 20 _ HB.out (by omega) (by decide)).mono ?_
  rintro e w3 ⟨LY, hlY, hrY, hmk⟩
  obtain ⟨qY, cY, rfl, hY, hb3⟩ := mk_u hmk
  clear HB
  have HX := Lib.hid (HX.out.below hb3)
  have HT := Lib.hid (HT.out.below hb3)
  have B' := bvia B hb3
  clear B hb3 hmk
  have B := B'
  clear B'
  have HRY := Lib.hid hrY
  have HY := Lib.hid hY
  clear hY hrY
  go_wp2_with fail
  have sX : LX.length ≤ 1000 := by omega
  have sY : LY.length ≤ 1000 := by omega
  have sO : (Cl.of LX).length ≤ 1000 := by have := Cl.of_len LX; omega
  have sN : (Cl.nots LX).length ≤ 1000 := by have := Cl.nots_len LX; omega
  have sU : (Cl.of (LX ++ LY)).length ≤ 1000 := by have := Cl.of_len (LX ++ LY); simp at this; omega
  refine (refc_at _ _ LX _ HX.out sX).mono ?_
  rintro e w4 hmk
  obtain ⟨qP, cP, rfl, hP, hb4⟩ := mk_u hmk
  have HX := Lib.hid (HX.out.below hb4)
  have HY := Lib.hid (HY.out.below hb4)
  have HT := Lib.hid (HT.out.below hb4)
  have B' := bvia B hb4
  clear B hb4 hmk
  have B := B'
  clear B'
  have HP := Lib.hid hP
  clear hP
  go_wp2_with fail
  refine (refc_at _ _ LY _ HY.out sY).mono ?_
  rintro e w5 hmk
  obtain ⟨qQ, cQ, rfl, hQ, hb5⟩ := mk_u hmk
  have HX := Lib.hid (HX.out.below hb5)
  have HY := Lib.hid (HY.out.below hb5)
  have HP := Lib.hid (HP.out.below hb5)
  have HT := Lib.hid (HT.out.below hb5)
  have B' := bvia B hb5
  clear B hb5 hmk
  have B := B'
  clear B'
  have HQ := Lib.hid hQ
  clear hQ
  go_upto_if 28 with fail
  go_cut [2] (fun r2 wx => (∃ R, r2 = .int .i32 R) ∧ wx = w5)
  case first =>
    cases own
    · go_wp2_with fail
      go_meet
      case rel => exact ⟨⟨_, rfl⟩, rfl⟩
    · go_wp2_with fail
      go_meet
      case rel => exact ⟨⟨_, rfl⟩, rfl⟩
  case rest =>
    obtain ⟨⟨R, rfl⟩, rfl⟩ := hcut
    clear r0 r1
    try clear own
    go_wp2_with fail
    refine (of_at _ _ LX _ _ HX.out sX rfl).mono ?_
    rintro e w6 hmk
    obtain ⟨qO, cO, rfl, hO, hb6⟩ := mk_u hmk
    have HX := Lib.hid (HX.out.below hb6)
    have HY := Lib.hid (HY.out.below hb6)
    have HP := Lib.hid (HP.out.below hb6)
    have HQ := Lib.hid (HQ.out.below hb6)
    have HT := Lib.hid (HT.out.below hb6)
    have B' := bvia B hb6
    clear B hb6 hmk
    have B := B'
    clear B'
    have HO := Lib.hid hO
    clear hO
    go_wp2_with fail
    refine (refc_at _ _ (Cl.of LX) _ HO.out sO).mono ?_
    rintro e w7 hmk
    obtain ⟨qO1, cO1, rfl, hO1, hb7⟩ := mk_u hmk
    have HX := Lib.hid (HX.out.below hb7)
    have HY := Lib.hid (HY.out.below hb7)
    have HP := Lib.hid (HP.out.below hb7)
    have HQ := Lib.hid (HQ.out.below hb7)
    have HO := Lib.hid (HO.out.below hb7)
    have HT := Lib.hid (HT.out.below hb7)
    have B' := bvia B hb7
    clear B hb7 hmk
    have B := B'
    clear B'
    have HO1 := Lib.hid hO1
    clear hO1
    clear HO
    go_wp2_with fail
    refine (rof_at _ _ LX _ _ HP.out sX rfl).mono ?_
    rintro e w8 hmk
    obtain ⟨qO2, cO2, rfl, hO2, hb8⟩ := mk_u hmk
    have HX := Lib.hid (HX.out.below hb8)
    have HY := Lib.hid (HY.out.below hb8)
    have HP := Lib.hid (HP.out.below hb8)
    have HQ := Lib.hid (HQ.out.below hb8)
    have HO1 := Lib.hid (HO1.out.below hb8)
    have HT := Lib.hid (HT.out.below hb8)
    have B' := bvia B hb8
    clear B hb8 hmk
    have B := B'
    clear B'
    have HO2 := Lib.hid hO2
    clear hO2
    go_wp2_with fail
    refine (rsame_at _ _ _ _ (Cl.of LX) (Cl.of LX) true _ HO1.out HO2.out sO sO (by simp)).mono ?_
    rintro e w9 ⟨rfl, hb9⟩
    have HX := Lib.hid (HX.out.below hb9)
    have HY := Lib.hid (HY.out.below hb9)
    have HP := Lib.hid (HP.out.below hb9)
    have HQ := Lib.hid (HQ.out.below hb9)
    have HO1 := Lib.hid (HO1.out.below hb9)
    have HO2 := Lib.hid (HO2.out.below hb9)
    have HT := Lib.hid (HT.out.below hb9)
    have B' := bvia B hb9
    clear B hb9
    have B := B'
    clear B'
    clear HO1
    clear HO2
    go_wp2_with fail
    refine (union_at _ _ _ _ LX LY _ _ HX.out HY.out sX sY rfl).mono ?_
    rintro e w10 hmk
    obtain ⟨qU, cU, rfl, hU, hb10⟩ := mk_u hmk
    have HX := Lib.hid (HX.out.below hb10)
    have HY := Lib.hid (HY.out.below hb10)
    have HP := Lib.hid (HP.out.below hb10)
    have HQ := Lib.hid (HQ.out.below hb10)
    have HT := Lib.hid (HT.out.below hb10)
    have B' := bvia B hb10
    clear B hb10 hmk
    have B := B'
    clear B'
    have HU := Lib.hid hU
    clear hU
    go_wp2_with fail
    refine (refc_at _ _ (Cl.of (LX ++ LY)) _ HU.out sU).mono ?_
    rintro e w11 hmk
    obtain ⟨qU1, cU1, rfl, hU1, hb11⟩ := mk_u hmk
    have HX := Lib.hid (HX.out.below hb11)
    have HY := Lib.hid (HY.out.below hb11)
    have HP := Lib.hid (HP.out.below hb11)
    have HQ := Lib.hid (HQ.out.below hb11)
    have HU := Lib.hid (HU.out.below hb11)
    have HT := Lib.hid (HT.out.below hb11)
    have B' := bvia B hb11
    clear B hb11 hmk
    have B := B'
    clear B'
    have HU1 := Lib.hid hU1
    clear hU1
    clear HU
    go_wp2_with fail
    refine (runion_at _ _ _ _ LX LY _ _ HP.out HQ.out sX sY rfl).mono ?_
    rintro e w12 hmk
    obtain ⟨qU2, cU2, rfl, hU2, hb12⟩ := mk_u hmk
    have HX := Lib.hid (HX.out.below hb12)
    have HY := Lib.hid (HY.out.below hb12)
    have HP := Lib.hid (HP.out.below hb12)
    have HQ := Lib.hid (HQ.out.below hb12)
    have HU1 := Lib.hid (HU1.out.below hb12)
    have HT := Lib.hid (HT.out.below hb12)
    have B' := bvia B hb12
    clear B hb12 hmk
    have B := B'
    clear B'
    have HU2 := Lib.hid hU2
    clear hU2
    go_wp2_with fail
    refine (rsame_at _ _ _ _ (Cl.of (LX ++ LY)) (Cl.of (LX ++ LY)) true _ HU1.out HU2.out sU sU (by simp)).mono ?_
    rintro e w13 ⟨rfl, hb13⟩
    have HX := Lib.hid (HX.out.below hb13)
    have HY := Lib.hid (HY.out.below hb13)
    have HP := Lib.hid (HP.out.below hb13)
    have HQ := Lib.hid (HQ.out.below hb13)
    have HU1 := Lib.hid (HU1.out.below hb13)
    have HU2 := Lib.hid (HU2.out.below hb13)
    have HT := Lib.hid (HT.out.below hb13)
    have B' := bvia B hb13
    clear B hb13
    have B := B'
    clear B'
    clear HU1
    clear HU2
    go_wp2_with fail
    refine (not_at _ _ LX _ _ HX.out sX rfl).mono ?_
    rintro e w14 hmk
    obtain ⟨qN, cN, rfl, hN, hb14⟩ := mk_u hmk
    have HX := Lib.hid (HX.out.below hb14)
    have HY := Lib.hid (HY.out.below hb14)
    have HP := Lib.hid (HP.out.below hb14)
    have HQ := Lib.hid (HQ.out.below hb14)
    have HT := Lib.hid (HT.out.below hb14)
    have B' := bvia B hb14
    clear B hb14 hmk
    have B := B'
    clear B'
    have HN := Lib.hid hN
    clear hN
    go_wp2_with fail
    refine (refc_at _ _ (Cl.nots LX) _ HN.out sN).mono ?_
    rintro e w15 hmk
    obtain ⟨qN1, cN1, rfl, hN1, hb15⟩ := mk_u hmk
    have HX := Lib.hid (HX.out.below hb15)
    have HY := Lib.hid (HY.out.below hb15)
    have HP := Lib.hid (HP.out.below hb15)
    have HQ := Lib.hid (HQ.out.below hb15)
    have HN := Lib.hid (HN.out.below hb15)
    have HT := Lib.hid (HT.out.below hb15)
    have B' := bvia B hb15
    clear B hb15 hmk
    have B := B'
    clear B'
    have HN1 := Lib.hid hN1
    clear hN1
    clear HN
    go_wp2_with fail
    refine (rnot_at _ _ LX _ _ HP.out sX rfl).mono ?_
    rintro e w16 hmk
    obtain ⟨qN2, cN2, rfl, hN2, hb16⟩ := mk_u hmk
    have HX := Lib.hid (HX.out.below hb16)
    have HY := Lib.hid (HY.out.below hb16)
    have HP := Lib.hid (HP.out.below hb16)
    have HQ := Lib.hid (HQ.out.below hb16)
    have HN1 := Lib.hid (HN1.out.below hb16)
    have HT := Lib.hid (HT.out.below hb16)
    have B' := bvia B hb16
    clear B hb16 hmk
    have B := B'
    clear B'
    have HN2 := Lib.hid hN2
    clear hN2
    go_wp2_with fail
    refine (rsame_at _ _ _ _ (Cl.nots LX) (Cl.nots LX) true _ HN1.out HN2.out sN sN (by simp)).mono ?_
    rintro e w17 ⟨rfl, hb17⟩
    have HX := Lib.hid (HX.out.below hb17)
    have HY := Lib.hid (HY.out.below hb17)
    have HP := Lib.hid (HP.out.below hb17)
    have HQ := Lib.hid (HQ.out.below hb17)
    have HN1 := Lib.hid (HN1.out.below hb17)
    have HN2 := Lib.hid (HN2.out.below hb17)
    have HT := Lib.hid (HT.out.below hb17)
    have B' := bvia B hb17
    clear B hb17
    have B := B'
    clear B'
    clear HN1
    clear HN2
    obtain ⟨vr, hvr⟩ := rt_some LX
    obtain ⟨vh, hvh⟩ : ∃ v, hasB LX R = v := ⟨_, rfl⟩
    obtain ⟨vm, hvm⟩ : ∃ v, Cl.sumL (Cl.of LX) = v := ⟨_, rfl⟩
    obtain ⟨vs, hvs⟩ : ∃ v, decide (LX = LY) = v := ⟨_, rfl⟩
    obtain ⟨vp, hvp⟩ : ∃ v, (⟨(Cl.putL LX).toArray⟩ : ByteArray) = v := ⟨_, rfl⟩
    have VR := Lib.hid hvr
    have VH := Lib.hid hvh
    have VM := Lib.hid hvm
    have VS := Lib.hid hvs
    have VP := Lib.hid hvp
    have hE := bytes_eq vp
    clear hvr hvh hvm hvs hvp
    go_wp2_with fail
    refine (cright_at _ _ LX vr _ HX.out sX HRX.out VR.out).mono ?_
    rintro e w18 ⟨rfl, hb18⟩
    have HX := Lib.hid (HX.out.below hb18)
    have HY := Lib.hid (HY.out.below hb18)
    have HP := Lib.hid (HP.out.below hb18)
    have HQ := Lib.hid (HQ.out.below hb18)
    have HT := Lib.hid (HT.out.below hb18)
    have B' := bvia B hb18
    clear B hb18
    have B := B'
    clear B'
    go_wp2_with fail
    refine (crright_at _ _ LX vr _ HP.out sX HRX.out VR.out).mono ?_
    rintro e w19 ⟨rfl, hb19⟩
    have HX := Lib.hid (HX.out.below hb19)
    have HY := Lib.hid (HY.out.below hb19)
    have HP := Lib.hid (HP.out.below hb19)
    have HQ := Lib.hid (HQ.out.below hb19)
    have HT := Lib.hid (HT.out.below hb19)
    have B' := bvia B hb19
    clear B hb19
    have B := B'
    clear B'
    go_wp2_with fail
    refine (has_at _ _ LX R vh _ HX.out sX VH.out).mono ?_
    rintro e w20 ⟨rfl, hb20⟩
    have HX := Lib.hid (HX.out.below hb20)
    have HY := Lib.hid (HY.out.below hb20)
    have HP := Lib.hid (HP.out.below hb20)
    have HQ := Lib.hid (HQ.out.below hb20)
    have HT := Lib.hid (HT.out.below hb20)
    have B' := bvia B hb20
    clear B hb20
    have B := B'
    clear B'
    go_wp2_with fail
    refine (rhas_at _ _ LX R vh _ HP.out sX VH.out).mono ?_
    rintro e w21 ⟨rfl, hb21⟩
    have HX := Lib.hid (HX.out.below hb21)
    have HY := Lib.hid (HY.out.below hb21)
    have HP := Lib.hid (HP.out.below hb21)
    have HQ := Lib.hid (HQ.out.below hb21)
    have HT := Lib.hid (HT.out.below hb21)
    have B' := bvia B hb21
    clear B hb21
    have B := B'
    clear B'
    go_wp2_with fail
    refine (many_at _ _ LX vm _ HX.out sX VM.out).mono ?_
    rintro e w22 ⟨rfl, hb22⟩
    have HX := Lib.hid (HX.out.below hb22)
    have HY := Lib.hid (HY.out.below hb22)
    have HP := Lib.hid (HP.out.below hb22)
    have HQ := Lib.hid (HQ.out.below hb22)
    have HT := Lib.hid (HT.out.below hb22)
    have B' := bvia B hb22
    clear B hb22
    have B := B'
    clear B'
    go_wp2_with fail
    refine (rmany_at _ _ LX vm _ HP.out sX VM.out).mono ?_
    rintro e w23 ⟨rfl, hb23⟩
    have HX := Lib.hid (HX.out.below hb23)
    have HY := Lib.hid (HY.out.below hb23)
    have HP := Lib.hid (HP.out.below hb23)
    have HQ := Lib.hid (HQ.out.below hb23)
    have HT := Lib.hid (HT.out.below hb23)
    have B' := bvia B hb23
    clear B hb23
    have B := B'
    clear B'
    go_wp2_with fail
    refine (same_at _ _ _ _ LX LY vs _ HX.out HY.out sX sY VS.out).mono ?_
    rintro e w24 ⟨rfl, hb24⟩
    have HX := Lib.hid (HX.out.below hb24)
    have HY := Lib.hid (HY.out.below hb24)
    have HP := Lib.hid (HP.out.below hb24)
    have HQ := Lib.hid (HQ.out.below hb24)
    have HT := Lib.hid (HT.out.below hb24)
    have B' := bvia B hb24
    clear B hb24
    have B := B'
    clear B'
    go_wp2_with fail
    refine (rsame_at _ _ _ _ LX LY vs _ HP.out HQ.out sX sY VS.out).mono ?_
    rintro e w25 ⟨rfl, hb25⟩
    have HX := Lib.hid (HX.out.below hb25)
    have HY := Lib.hid (HY.out.below hb25)
    have HP := Lib.hid (HP.out.below hb25)
    have HQ := Lib.hid (HQ.out.below hb25)
    have HT := Lib.hid (HT.out.below hb25)
    have B' := bvia B hb25
    clear B hb25
    have B := B'
    clear B'
    go_wp2_with fail
    refine (cput_at _ _ LX vp _ HX.out sX HRX.out HT.out VP.out).mono ?_
    rintro e w26 ⟨rfl, hb26⟩
    have HX := Lib.hid (HX.out.below hb26)
    have HY := Lib.hid (HY.out.below hb26)
    have HP := Lib.hid (HP.out.below hb26)
    have HQ := Lib.hid (HQ.out.below hb26)
    have HT := Lib.hid (HT.out.below hb26)
    have B' := bvia B hb26
    clear B hb26
    have B := B'
    clear B'
    go_wp2_with fail
    refine (crput_at _ _ LX vp _ HP.out sX HRX.out VP.out).mono ?_
    rintro e w27 ⟨rfl, hb27⟩
    have HX := Lib.hid (HX.out.below hb27)
    have HY := Lib.hid (HY.out.below hb27)
    have HP := Lib.hid (HP.out.below hb27)
    have HQ := Lib.hid (HQ.out.below hb27)
    have HT := Lib.hid (HT.out.below hb27)
    have B' := bvia B hb27
    clear B hb27
    have B := B'
    clear B'
    go_wp2_with fail
    go_ret
    exact ⟨rfl, B⟩
end Go.Proofs.YtpnakbhbaghhgaaDoor
