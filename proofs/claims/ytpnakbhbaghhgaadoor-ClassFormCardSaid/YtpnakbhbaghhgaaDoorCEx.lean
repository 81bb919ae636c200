/- The chapter's own examples of classes. -/
import Derived.Test.YtpnakbhbaghhgaaDoorCU
set_option linter.unusedVariables false
namespace Go.Proofs.YtpnakbhbaghhgaaDoor
open Go.RowKit

theorem ex_put1 : (⟨(Cl.putL [(97, 102), (122, 122)]).toArray⟩ : ByteArray) = ⟨#[54, 49, 45, 54, 54, 44, 55, 97]⟩ := by
  have h : Cl.putL [(97, 102), (122, 122)] = [54, 49, 45, 54, 54, 44, 55, 97] := by
    simp [Cl.putL, Cl.putT, Cl.putR, Cl.hexI, Cl.hexD_small, Cl.hexD_big, Cl.hexC]
  rw [h]
theorem ex_put2 : (⟨(Cl.putL [(0, 96), (103, 121), (123, 1114111)]).toArray⟩ : ByteArray) = ⟨#[48, 45, 54, 48, 44, 54, 55, 45, 55, 57, 44, 55, 98, 45, 49, 48, 102, 102, 102, 102]⟩ := by
  have h : Cl.putL [(0, 96), (103, 121), (123, 1114111)] = [48, 45, 54, 48, 44, 54, 55, 45, 55, 57, 44, 55, 98, 45, 49, 48, 102, 102, 102, 102] := by
    simp [Cl.putL, Cl.putT, Cl.putR, Cl.hexI, Cl.hexD_small, Cl.hexD_big, Cl.hexC]
  rw [h]
theorem ex_put3 : (⟨(Cl.putL [(97, 103), (122, 122)]).toArray⟩ : ByteArray) = ⟨#[54, 49, 45, 54, 55, 44, 55, 97]⟩ := by
  have h : Cl.putL [(97, 103), (122, 122)] = [54, 49, 45, 54, 55, 44, 55, 97] := by
    simp [Cl.putL, Cl.putT, Cl.putR, Cl.hexI, Cl.hexD_small, Cl.hexD_big, Cl.hexC]
  rw [h]
theorem ex_of : Cl.of [(100, 102), (97, 99), (122, 122), (5, 1)] = [(97, 102), (122, 122)] := by decide +kernel
theorem ex_not : Cl.nots [(97, 102), (122, 122)] = [(0, 96), (103, 121), (123, 1114111)] := by decide +kernel
theorem ex_not2 : Cl.nots [(0, 96), (103, 121), (123, 1114111)] = [(97, 102), (122, 122)] := by decide +kernel
theorem ex_un : Cl.of ([(97, 102), (122, 122)] ++ [(103, 103)]) = [(97, 103), (122, 122)] := by decide +kernel
theorem ex_nf : Cl.NF [(97, 102), (122, 122)] := by rw [← ex_of]; exact Cl.of_nf _
theorem ex_nfn : Cl.NF [(0, 96), (103, 121), (123, 1114111)] := by rw [← ex_not]; exact (Cl.nots_spec _).1
theorem ex_nfu : Cl.NF [(97, 103), (122, 122)] := by rw [← ex_un]; exact Cl.of_nf _
theorem ex_bad : Rt [(1, 2), (3, 4)] false := ⟨(fun h => by cases h), fun h => absurd ((h.2 1 (by decide) (3, 4) rfl).2 0 (1, 2) rfl rfl) (by decide)⟩
set_option maxRecDepth 20000 in
set_option maxHeartbeats 16000000 in
theorem class_examples (w : World) (hT : Tab w) : Calls Tryd.prog 8 #[] w fun e w' => e = .returned (.bool true) ∧ Below w.heap.size w w' := by
  have HT := Lib.hid hT
  have B := Below.refl w.heap.size w
  clear hT
  go_enter Tryd.func8, Tryd.ntmps8
  go_wp2_with fail
  have bA := below_new w (.cells #[.int .i32 100, .int .i32 102, .int .i32 97, .int .i32 99, .int .i32 122, .int .i32 122, .int .i32 5, .int .i32 1] 48)
  have hI := lv_new w #[.int .i32 100, .int .i32 102, .int .i32 97, .int .i32 99, .int .i32 122, .int .i32 122, .int .i32 5, .int .i32 1] 48 4 [(100, 102), (97, 99), (122, 122), (5, 1)] rfl
  have HT := Lib.hid (HT.out.below bA)
  have B' := bvia B bA
  clear B bA
  have B := B'
  clear B'
  generalize w.alloc (.cells #[.int .i32 100, .int .i32 102, .int .i32 97, .int .i32 99, .int .i32 122, .int .i32 122, .int .i32 5, .int .i32 1] 48) = w1 at *
  have HI := Lib.hid hI
  clear hI
  refine (of_at _ _ [(100, 102), (97, 99), (122, 122), (5, 1)] [(97, 102), (122, 122)] _ HI.out (by decide) ex_of).mono ?_
  rintro e w2 hmk
  obtain ⟨qC, cC, rfl, hC, hb2⟩ := mk_u hmk
  have HI := Lib.hid (HI.out.below hb2)
  have HT := Lib.hid (HT.out.below hb2)
  have B' := bvia B hb2
  clear B hb2 hmk
  have B := B'
  clear B'
  have HC := Lib.hid hC
  clear hC
  clear HI
  go_wp2_with fail
  refine (not_at _ _ [(97, 102), (122, 122)] [(0, 96), (103, 121), (123, 1114111)] _ HC.out (by decide) ex_not).mono ?_
  rintro e w3 hmk
  obtain ⟨qN, cN, rfl, hN, hb3⟩ := mk_u hmk
  have HC := Lib.hid (HC.out.below hb3)
  have HT := Lib.hid (HT.out.below hb3)
  have B' := bvia B hb3
  clear B hb3 hmk
  have B := B'
  clear B'
  have HN := Lib.hid hN
  clear hN
  go_wp2_with fail
  refine (cput_at _ _ [(97, 102), (122, 122)] _ _ HC.out (by decide) (nf_rin ex_nf) HT.out ex_put1).mono ?_
  rintro e w4 ⟨rfl, hb4⟩
  have HC := Lib.hid (HC.out.below hb4)
  have HN := Lib.hid (HN.out.below hb4)
  have HT := Lib.hid (HT.out.below hb4)
  have B' := bvia B hb4
  clear B hb4
  have B := B'
  clear B'
  go_wp2_with fail
  refine (has_at _ _ [(97, 102), (122, 122)] 101 true _ HC.out (by decide) (by decide)).mono ?_
  rintro e w5 ⟨rfl, hb5⟩
  have HC := Lib.hid (HC.out.below hb5)
  have HN := Lib.hid (HN.out.below hb5)
  have HT := Lib.hid (HT.out.below hb5)
  have B' := bvia B hb5
  clear B hb5
  have B := B'
  clear B'
  go_wp2_with fail
  refine (has_at _ _ [(97, 102), (122, 122)] 103 false _ HC.out (by decide) (by decide)).mono ?_
  rintro e w6 ⟨rfl, hb6⟩
  have HC := Lib.hid (HC.out.below hb6)
  have HN := Lib.hid (HN.out.below hb6)
  have HT := Lib.hid (HT.out.below hb6)
  have B' := bvia B hb6
  clear B hb6
  have B := B'
  clear B'
  go_wp2_with fail
  refine (many_at _ _ [(97, 102), (122, 122)] 7 _ HC.out (by decide) (by decide +kernel)).mono ?_
  rintro e w7 ⟨rfl, hb7⟩
  have HC := Lib.hid (HC.out.below hb7)
  have HN := Lib.hid (HN.out.below hb7)
  have HT := Lib.hid (HT.out.below hb7)
  have B' := bvia B hb7
  clear B hb7
  have B := B'
  clear B'
  go_wp2_with fail
  refine (cput_at _ _ [(0, 96), (103, 121), (123, 1114111)] _ _ HN.out (by decide) (nf_rin ex_nfn) HT.out ex_put2).mono ?_
  rintro e w8 ⟨rfl, hb8⟩
  have HC := Lib.hid (HC.out.below hb8)
  have HN := Lib.hid (HN.out.below hb8)
  have HT := Lib.hid (HT.out.below hb8)
  have B' := bvia B hb8
  clear B hb8
  have B := B'
  clear B'
  go_wp2_with fail
  refine (cright_at _ _ [(97, 102), (122, 122)] true _ HC.out (by decide) (nf_rin ex_nf) (nf_right ex_nf (by decide))).mono ?_
  rintro e w9 ⟨rfl, hb9⟩
  have HC := Lib.hid (HC.out.below hb9)
  have HN := Lib.hid (HN.out.below hb9)
  have HT := Lib.hid (HT.out.below hb9)
  have B' := bvia B hb9
  clear B hb9
  have B := B'
  clear B'
  go_wp2_with fail
  have bA := below_new w9 (.cells #[.int .i32 1, .int .i32 2, .int .i32 3, .int .i32 4] 48)
  have hD := lv_new w9 #[.int .i32 1, .int .i32 2, .int .i32 3, .int .i32 4] 48 2 [(1, 2), (3, 4)] rfl
  have HC := Lib.hid (HC.out.below bA)
  have HN := Lib.hid (HN.out.below bA)
  have HT := Lib.hid (HT.out.below bA)
  have B' := bvia B bA
  clear B bA
  have B := B'
  clear B'
  generalize w9.alloc (.cells #[.int .i32 1, .int .i32 2, .int .i32 3, .int .i32 4] 48) = w10 at *
  have HD := Lib.hid hD
  clear hD
  refine (cright_at _ _ [(1, 2), (3, 4)] false _ HD.out (by decide) (rin_lit (by unfold RgB; decide)) ex_bad).mono ?_
  rintro e w11 ⟨rfl, hb11⟩
  have HC := Lib.hid (HC.out.below hb11)
  have HN := Lib.hid (HN.out.below hb11)
  have HD := Lib.hid (HD.out.below hb11)
  have HT := Lib.hid (HT.out.below hb11)
  have B' := bvia B hb11
  clear B hb11
  have B := B'
  clear B'
  clear HD
  go_wp2_with fail
  refine (not_at _ _ [(0, 96), (103, 121), (123, 1114111)] [(97, 102), (122, 122)] _ HN.out (by decide) ex_not2).mono ?_
  rintro e w12 hmk
  obtain ⟨qM, cM, rfl, hM, hb12⟩ := mk_u hmk
  have HC := Lib.hid (HC.out.below hb12)
  have HN := Lib.hid (HN.out.below hb12)
  have HT := Lib.hid (HT.out.below hb12)
  have B' := bvia B hb12
  clear B hb12 hmk
  have B := B'
  clear B'
  have HM := Lib.hid hM
  clear hM
  go_wp2_with fail
  refine (same_at _ _ _ _ [(97, 102), (122, 122)] [(97, 102), (122, 122)] true _ HM.out HC.out (by decide) (by decide) (by decide)).mono ?_
  rintro e w13 ⟨rfl, hb13⟩
  have HC := Lib.hid (HC.out.below hb13)
  have HN := Lib.hid (HN.out.below hb13)
  have HM := Lib.hid (HM.out.below hb13)
  have HT := Lib.hid (HT.out.below hb13)
  have B' := bvia B hb13
  clear B hb13
  have B := B'
  clear B'
  clear HM
  go_wp2_with fail
  have bA := below_new w13 (.cells #[.int .i32 103, .int .i32 103] 48)
  have hE := lv_new w13 #[.int .i32 103, .int .i32 103] 48 1 [(103, 103)] rfl
  have HC := Lib.hid (HC.out.below bA)
  have HN := Lib.hid (HN.out.below bA)
  have HT := Lib.hid (HT.out.below bA)
  have B' := bvia B bA
  clear B bA
  have B := B'
  clear B'
  generalize w13.alloc (.cells #[.int .i32 103, .int .i32 103] 48) = w14 at *
  have HE := Lib.hid hE
  clear hE
  refine (union_at _ _ _ _ [(97, 102), (122, 122)] [(103, 103)] [(97, 103), (122, 122)] _ HC.out HE.out (by decide) (by decide) ex_un).mono ?_
  rintro e w15 hmk
  obtain ⟨qU, cU, rfl, hU, hb15⟩ := mk_u hmk
  have HC := Lib.hid (HC.out.below hb15)
  have HN := Lib.hid (HN.out.below hb15)
  have HE := Lib.hid (HE.out.below hb15)
  have HT := Lib.hid (HT.out.below hb15)
  have B' := bvia B hb15
  clear B hb15 hmk
  have B := B'
  clear B'
  have HU := Lib.hid hU
  clear hU
  go_wp2_with fail
  refine (cput_at _ _ [(97, 103), (122, 122)] _ _ HU.out (by decide) (nf_rin ex_nfu) HT.out ex_put3).mono ?_
  rintro e w16 ⟨rfl, hb16⟩
  have HC := Lib.hid (HC.out.below hb16)
  have HN := Lib.hid (HN.out.below hb16)
  have HE := Lib.hid (HE.out.below hb16)
  have HU := Lib.hid (HU.out.below hb16)
  have HT := Lib.hid (HT.out.below hb16)
  have B' := bvia B hb16
  clear B hb16
  have B := B'
  clear B'
  go_wp2_with fail
  go_ret
  exact ⟨rfl, B⟩
end Go.Proofs.YtpnakbhbaghhgaaDoor
