/- ClassPuts. -/
import Derived.Test.YtpnakbhbaghhgaaDoorCLFacts
set_option linter.unusedVariables false
namespace Go.Proofs.YtpnakbhbaghhgaaDoor
open Go.RowKit

set_option maxRecDepth 20000 in
set_option maxHeartbeats 16000000 in
theorem law_ClassPuts (x : Option Addr) (lx cx : Nat) (y : Option Addr) (ly cy : Nat) (w : World) (hT : Tab w) (ha : RunArg w x lx) (hla : lx ≤ 9223372036854775807) (hb : RunArg w y ly) (hlb : ly ≤ 9223372036854775807) :
    Calls Tryd.prog 6 #[.slice x lx cx, .slice y ly cy] w fun e w' => e = .returned (.bool true) ∧ Below w.heap.size w w' := by
  have HT := Lib.hid hT
  have Ha := Lib.hid ha
  have Hb := Lib.hid hb
  have bw := Below.refl w.heap.size w
  clear hT ha hb
  go_enter Tryd.func6, Tryd.ntmps6
  go_wp2_with fail
  refine (class_examples _ HT.out).mono ?_
  rintro e w1 ⟨rfl, hb1⟩
  have HT := Lib.hid (HT.out.below hb1)
  have Ha := Lib.hid (Ha.out.below hb1)
  have Hb := Lib.hid (Hb.out.below hb1)
  have bw' := bvia bw hb1
  clear bw hb1
  have bw := bw'
  clear bw'
  go_wp2_with fail
  refine (runs_any x lx cx 8 _ Ha.out (by omega) (by decide)).mono ?_
  rintro e w2 ⟨LX, hlX, hrX, hmk⟩
  obtain ⟨qX, cX, rfl, hX, hb2⟩ := mk_u hmk
  clear Ha
  have HT := Lib.hid (HT.out.below hb2)
  have Hb := Lib.hid (Hb.out.below hb2)
  have bw' := bvia bw hb2
  clear bw hb2 hmk
  have bw := bw'
  clear bw'
  have HX := Lib.hid hX
  clear hX hrX
  have sX : LX.length ≤ 1000 := by omega
  go_wp2_with fail
  obtain ⟨A, eA⟩ : ∃ A, Cl.of LX = A := ⟨_, rfl⟩
  have NA := Lib.hid (eA ▸ Cl.of_nf LX : Cl.NF A)
  have sA : A.length ≤ 8 := by have := Cl.of_len LX; rw [eA] at this; omega
  have EA := Lib.hid eA
  clear eA
  refine (of_at _ _ LX A _ HX.out sX EA.out).mono ?_
  rintro e w3 hmk
  obtain ⟨qA, cA, rfl, hA, hb3⟩ := mk_u hmk
  have HX := Lib.hid (HX.out.below hb3)
  have HT := Lib.hid (HT.out.below hb3)
  have Hb := Lib.hid (Hb.out.below hb3)
  have bw' := bvia bw hb3
  clear bw hb3 hmk
  have bw := bw'
  clear bw'
  have HA := Lib.hid hA
  clear hA
  clear HX
  go_wp2_with fail
  refine (runs_any y ly cy 8 _ Hb.out (by omega) (by decide)).mono ?_
  rintro e w4 ⟨LY, hlY, hrY, hmk⟩
  obtain ⟨qY, cY, rfl, hY, hb4⟩ := mk_u hmk
  clear Hb
  have HA := Lib.hid (HA.out.below hb4)
  have HT := Lib.hid (HT.out.below hb4)
  have bw' := bvia bw hb4
  clear bw hb4 hmk
  have bw := bw'
  clear bw'
  have HY := Lib.hid hY
  clear hY hrY
  have sY : LY.length ≤ 1000 := by omega
  go_wp2_with fail
  obtain ⟨B, eB⟩ : ∃ B, Cl.of LY = B := ⟨_, rfl⟩
  have NB := Lib.hid (eB ▸ Cl.of_nf LY : Cl.NF B)
  have sB : B.length ≤ 8 := by have := Cl.of_len LY; rw [eB] at this; omega
  have EB := Lib.hid eB
  clear eB
  refine (of_at _ _ LY B _ HY.out sY EB.out).mono ?_
  rintro e w5 hmk
  obtain ⟨qB, cB, rfl, hB, hb5⟩ := mk_u hmk
  have HA := Lib.hid (HA.out.below hb5)
  have HY := Lib.hid (HY.out.below hb5)
  have HT := Lib.hid (HT.out.below hb5)
  have bw' := bvia bw hb5
  clear bw hb5 hmk
  have bw := bw'
  clear bw'
  have HB := Lib.hid hB
  clear hB
  clear HY
  obtain ⟨pa, hpa⟩ : ∃ v, (⟨(Cl.putL A).toArray⟩ : ByteArray) = v := ⟨_, rfl⟩
  obtain ⟨pb, hpb⟩ : ∃ v, (⟨(Cl.putL B).toArray⟩ : ByteArray) = v := ⟨_, rfl⟩
  obtain ⟨vs, hvs⟩ : ∃ v, decide (A = B) = v := ⟨_, rfl⟩
  have hE : (pa.toList == pb.toList) = vs := put_eq NA.out NB.out hpa hpb hvs
  have hA0 := put_empty hpa
  have PA := Lib.hid hpa
  have PB := Lib.hid hpb
  have VS := Lib.hid hvs
  have HA0 := Lib.hid hA0
  clear hpa hpb hvs hA0
  go_wp2_with fail
  refine (cput_at _ _ A pa _ HA.out (by omega) (nf_rin NA.out) HT.out PA.out).mono ?_
  rintro e w6 ⟨rfl, hb6⟩
  have HA := Lib.hid (HA.out.below hb6)
  have HB := Lib.hid (HB.out.below hb6)
  have HT := Lib.hid (HT.out.below hb6)
  have bw' := bvia bw hb6
  clear bw hb6
  have bw := bw'
  clear bw'
  go_wp2_with fail
  refine (cput_at _ _ B pb _ HB.out (by omega) (nf_rin NB.out) HT.out PB.out).mono ?_
  rintro e w7 ⟨rfl, hb7⟩
  have HA := Lib.hid (HA.out.below hb7)
  have HB := Lib.hid (HB.out.below hb7)
  have HT := Lib.hid (HT.out.below hb7)
  have bw' := bvia bw hb7
  clear bw hb7
  have bw := bw'
  clear bw'
  go_wp2_with fail
  refine (same_at _ _ _ _ A B vs _ HA.out HB.out (by omega) (by omega) VS.out).mono ?_
  rintro e w8 ⟨rfl, hb8⟩
  have HA := Lib.hid (HA.out.below hb8)
  have HB := Lib.hid (HB.out.below hb8)
  have HT := Lib.hid (HT.out.below hb8)
  have bw' := bvia bw hb8
  clear bw hb8
  have bw := bw'
  clear bw'
  go_wp2_with fail
  refine (cput_at _ _ A pa _ HA.out (by omega) (nf_rin NA.out) HT.out PA.out).mono ?_
  rintro e w9 ⟨rfl, hb9⟩
  have HA := Lib.hid (HA.out.below hb9)
  have HB := Lib.hid (HB.out.below hb9)
  have HT := Lib.hid (HT.out.below hb9)
  have bw' := bvia bw hb9
  clear bw hb9
  have bw := bw'
  clear bw'
  have hX := HA0.out
  by_cases hA : A = []
  · have hl : A.length = 0 := by rw [hA]; rfl
    have hq : pa.toList.isEmpty = true := by rw [hX]; simp [hA]
    clear hX hA
    go_wp2_with fail
    go_ret
    exact ⟨rfl, bw⟩
  · have hl : A.length ≠ 0 := fun h => hA (List.length_eq_zero_iff.1 h)
    have hq : pa.toList.isEmpty = false := by rw [hX]; simp [hA]
    have hz : ((A.length : Int) == 0) = false := by rw [beq_eq_false_iff_ne]; omega
    clear hX
    go_wp2_with fail
    go_ret
    exact ⟨rfl, bw⟩
end Go.Proofs.YtpnakbhbaghhgaaDoor
