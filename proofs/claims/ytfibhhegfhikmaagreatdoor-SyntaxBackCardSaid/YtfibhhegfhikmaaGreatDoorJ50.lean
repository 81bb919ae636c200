import Derived.Test.YtfibhhegfhikmaaGreatDoorJ48
import Derived.Test.YtfibhhegfhikmaaGreatDoorJ29
import Derived.Test.YtfibhhegfhikmaaGreatDoorJ49
set_option linter.unusedSimpArgs false
set_option linter.unusedVariables false
/- SyntaxBack: the walk. -/
set_option linter.unusedVariables false
namespace Go.Proofs.YtfibhhegfhikmaaGreatDoor
open Go.RowKit
open Sx (Nd)

set_option maxRecDepth 20000 in
set_option maxHeartbeats 1600000 in
theorem law_SyntaxBack (a0 : Option Addr) (len0 cap0 : Nat) (l0 : List UInt8) (w : World) (hT : Errs w.heap.size w) (hb0 : BArg w a0 len0 cap0 l0) : Calls Tryz.prog 5 #[.slice a0 len0 cap0] w fun e w' => e = .returned (.bool true) ∧ Below w.heap.size w w' := by
  have HB0 := Lib.hid (bcells_of hb0)
  have hl0 := (barg_len hb0).1
  clear hb0
  have HL0 := Lib.hid (show Lw w.heap.size w w from ⟨hT, Nat.le_refl _, Below.refl _ _⟩)
  clear hT
  go_enter Tryz.func5, Tryz.ntmps5
  go_wp2_with fail
  refine (examples_any _ HL0.out).mono ?_
  rintro e w1 ⟨rfl, hb1⟩
  have HL1 := Lib.hid (HL0.out.on hb1)
  clear hb1
  go_wp2_with fail
  refine (patterns_any a0 len0 cap0 _ (HB0.out.below HL1.out.bel) hl0).mono ?_
  rintro e w2 ⟨ta, wsa, rfl, hpta, hza, hb2⟩
  have HL2 := Lib.hid (HL1.out.on hb2)
  clear HL1
  clear hb2
  have HFa := Lib.hid (few_pat hpta)
  clear hpta
  go_wp2_with fail
  refine (ps_any ta _ HL2.out (by omega)).mono ?_
  rintro e w3 ⟨kN, kaN, kiN, kjN, mnN, mxN, lzN, gN, kbN, ksN, ktN, n, at1, er, rfl, hn, hp, hb3⟩
  have HL3 := Lib.hid (HL2.out.on hb3)
  clear HL2
  clear hb3
  by_cases he : er = 0
  · subst he
    obtain ⟨hs602, hri, hgr, hpz, rfl⟩ := ok_parsed hp HFa.out
    have HP := Lib.hid hp
    have HR := Lib.hid hri
    clear hp hri
    go_wp2_with fail
    have HN := Lib.hid (NBx.new hn)
    have hbv := below_new w3 (nc kN kaN kiN kjN mnN mxN lzN gN kbN ksN ktN)
    have HL4 := Lib.hid (HL3.out.on hbv)
    clear HL3
    clear hn hbv
    generalize w3.alloc (nc kN kaN kiN kjN mnN mxN lzN gN kbN ksN ktN) = v3 at *
    generalize w3.heap.size = bN at *
    obtain ⟨cN0, cN1, cN2, cN3, cN4, cN5, cN6⟩ := HN.out.cells
    obtain ⟨T, hTT⟩ : ∃ T, bs (Sx.put n) = T := ⟨_, rfl⟩
    have hTz : T.size ≤ 1360000 := by rw [← hTT]; exact hpz
    have HTT := Lib.hid hTT
    clear hTT hpz
    go_wp2_with fail
    refine (put_at _ HN.out.nd HR.out HTT.out (by omega)).mono ?_
    rintro e w5 ⟨rfl, hb5⟩
    clear cN0 cN1 cN2 cN3 cN4 cN5 cN6
    have HL5 := Lib.hid (HL4.out.on hb5)
    clear HL4
    replace HN := Lib.hid (HN.out.below hb5)
    clear hb5
    by_cases hbig : T.size ≤ 200
    · have hd : decide ((T.size : Int) > 200) = false := by rw [decide_eq_false_iff_not]; omega
      have HQ := Lib.hid (Sx.back_parsed (t := T) HP.out HFa.out (by rw [← HTT.out]; show (Rn.cat (Sx.put n)).toArray.toList = _; simp) hbig)
      go_wp2_with fail
      refine (pk_any _ HQ.out HL5.out (by omega)).mono ?_
      rintro e w6 ⟨kM, kaM, kiM, kjM, mnM, mxM, lzM, gM, kbM, ksM, ktM, rfl, hn, hb6⟩
      have HL6 := Lib.hid (HL5.out.on hb6)
      clear HL5
      replace HN := Lib.hid (HN.out.below hb6)
      clear hb6
      obtain ⟨cN0, cN1, cN2, cN3, cN4, cN5, cN6⟩ := HN.out.cells
      have qN : ¬ bN = w6.heap.size := Nat.ne_of_lt HN.out.lt
      have rN := HN.out.lt
      go_wp2_with fail
      clear cN0 cN1 cN2 cN3 cN4 cN5 cN6
      clear qN rN
      have HM := Lib.hid (NBx.new hn)
      have hbv := below_new w6 (nc kM kaM kiM kjM mnM mxM lzM gM kbM ksM ktM)
      have HL7 := Lib.hid (HL6.out.on hbv)
      clear HL6
      replace HN := Lib.hid (HN.out.below hbv)
      clear hn hbv
      generalize w6.alloc (nc kM kaM kiM kjM mnM mxM lzM gM kbM ksM ktM) = v6 at *
      generalize w6.heap.size = bM at *
      obtain ⟨cN0, cN1, cN2, cN3, cN4, cN5, cN6⟩ := HN.out.cells
      obtain ⟨cM0, cM1, cM2, cM3, cM4, cM5, cM6⟩ := HM.out.cells
      have hTe : (T.toList == T.toList) = true := bytes_eq _
      have hg8 : decide (Sx.groups n ≤ 8) = true := by rw [decide_eq_true_iff]; exact hgr.2
      refine (psame_any n n _ _ true _ HN.out.nd HM.out.nd ⟨fun _ => rfl, fun _ => rfl⟩).mono ?_
      rintro e w8 ⟨rfl, hb8⟩
      clear cM0 cM1 cM2 cM3 cM4 cM5 cM6 cN0 cN1 cN2 cN3 cN4 cN5 cN6
      have HL8 := Lib.hid (HL7.out.on hb8)
      clear HL7
      replace HN := Lib.hid (HN.out.below hb8)
      replace HM := Lib.hid (HM.out.below hb8)
      clear hb8
      obtain ⟨cN0, cN1, cN2, cN3, cN4, cN5, cN6⟩ := HN.out.cells
      obtain ⟨cM0, cM1, cM2, cM3, cM4, cM5, cM6⟩ := HM.out.cells
      go_wp2_with fail
      refine (put_at _ HM.out.nd HR.out HTT.out (by omega)).mono ?_
      rintro e w9 ⟨rfl, hb9⟩
      clear cM0 cM1 cM2 cM3 cM4 cM5 cM6 cN0 cN1 cN2 cN3 cN4 cN5 cN6
      have HL9 := Lib.hid (HL8.out.on hb9)
      clear HL8
      replace HN := Lib.hid (HN.out.below hb9)
      replace HM := Lib.hid (HM.out.below hb9)
      clear hb9
      obtain ⟨cN0, cN1, cN2, cN3, cN4, cN5, cN6⟩ := HN.out.cells
      obtain ⟨cM0, cM1, cM2, cM3, cM4, cM5, cM6⟩ := HM.out.cells
      go_wp2_with fail
      refine (right_at _ HN.out.nd HR.out).mono ?_
      rintro e w10 ⟨rfl, hb10⟩
      clear cM0 cM1 cM2 cM3 cM4 cM5 cM6 cN0 cN1 cN2 cN3 cN4 cN5 cN6
      have HL10 := Lib.hid (HL9.out.on hb10)
      clear HL9
      replace HN := Lib.hid (HN.out.below hb10)
      replace HM := Lib.hid (HM.out.below hb10)
      clear hb10
      obtain ⟨cN0, cN1, cN2, cN3, cN4, cN5, cN6⟩ := HN.out.cells
      obtain ⟨cM0, cM1, cM2, cM3, cM4, cM5, cM6⟩ := HM.out.cells
      go_wp2_with fail
      refine (groups_at _ HN.out.nd rfl).mono ?_
      rintro e w11 ⟨rfl, hb11⟩
      clear cM0 cM1 cM2 cM3 cM4 cM5 cM6 cN0 cN1 cN2 cN3 cN4 cN5 cN6
      have HL11 := Lib.hid (HL10.out.on hb11)
      clear HL10
      replace HN := Lib.hid (HN.out.below hb11)
      replace HM := Lib.hid (HM.out.below hb11)
      clear hb11
      go_wp2_with fail
      go_ret
      exact ⟨rfl, HL11.out.bel⟩
    · have hd : decide ((T.size : Int) > 200) = true := by rw [decide_eq_true_iff]; omega
      obtain ⟨cN0, cN1, cN2, cN3, cN4, cN5, cN6⟩ := HN.out.cells
      go_wp2_with fail
      refine (right_at _ HN.out.nd HR.out).mono ?_
      rintro e w6 ⟨rfl, hb6⟩
      clear cN0 cN1 cN2 cN3 cN4 cN5 cN6
      have HL6 := Lib.hid (HL5.out.on hb6)
      clear HL5
      replace HN := Lib.hid (HN.out.below hb6)
      clear hb6
      go_wp2_with fail
      go_ret
      exact ⟨rfl, HL6.out.bel⟩
  · obtain ⟨rfl, h0, h1⟩ := bad_parsed hp he (by omega)
    obtain ⟨rfl, rfl⟩ := nv_empty hn
    have hne : (er != 0) = true := by rw [bne_iff_ne]; exact he
    have hm : decide (at1 ≥ 0) = true := by rw [decide_eq_true_iff]; exact h0
    clear hp he
    go_wp2_with fail
    go_ret
    exact ⟨rfl, (HL3.out.on (below_new _ _)).bel⟩
end Go.Proofs.YtfibhhegfhikmaaGreatDoor
