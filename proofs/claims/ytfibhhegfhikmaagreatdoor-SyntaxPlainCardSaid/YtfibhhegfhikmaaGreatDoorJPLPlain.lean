import Derived.Test.YtfibhhegfhikmaaGreatDoorJPLPlainF
set_option linter.unusedSimpArgs false
set_option linter.unusedVariables false
/- SyntaxPlain: the walk. -/
set_option linter.unusedVariables false
namespace Go.Proofs.YtfibhhegfhikmaaGreatDoor
open Go.RowKit
open Sx (Nd)

set_option maxRecDepth 20000 in
set_option maxHeartbeats 8000000 in
theorem law_SyntaxPlain (a0 : Option Addr) (len0 cap0 : Nat) (l0 : List UInt8) (a1 : Int) (w : World) (hT : Errs w.heap.size w) (hb0 : BArg w a0 len0 cap0 l0) (ha0 : 0 ≤ a1) (ha1 : a1 ≤ 255) : Calls Tryz.prog 6 #[.slice a0 len0 cap0, .int .u8 a1] w fun e w' => e = .returned (.bool true) ∧ Below w.heap.size w w' := by
  have HB0 := Lib.hid (bcells_of hb0)
  have hl0 := (barg_len hb0).1
  clear hb0
  have HL0 := Lib.hid (show Lw w.heap.size w w from ⟨hT, Nat.le_refl _, Below.refl _ _⟩)
  clear hT
  go_enter Tryz.func6, Tryz.ntmps6
  go_wp2_with fail
  refine (examples_any _ HL0.out).mono ?_
  rintro e w1 ⟨rfl, hb1⟩
  have HL1 := Lib.hid (HL0.out.on hb1)
  clear hb1
  go_upto_block 0 with fail
  have HLL := HL1
  clear HL1
  go_cut [6] from 20 to 39 (fun s wx => Lets 40 len0 w.heap.size w s wx)
  case first =>
    go_wp2_with fail
    go_loopw [6, 7] (fun s i wr => ∃ (k : Nat) (t : ByteArray) (ws : List Int), k ≤ len0 ∧ k ≤ 40 ∧ i = .int .i64 (k : Int) ∧ s = .string t ∧ Hid (LetText k ws t) ∧ Hid (Lw w.heap.size w wr)) (fun _ i _ => len0 - (intOf i).toNat)
    case atStart => exact ⟨0, ⟨#[]⟩, [], by omega, by omega, rfl, rfl, Lib.hid LetText.nil, HLL⟩
    case round =>
      obtain ⟨k, t, ws, hk, hk2, rfl, rfl, HP, HLr⟩ := hrel
      have ht := HP.out.2.2.2.2.2
      by_cases hlt : k < len0 ∧ k < 40
      · obtain ⟨h1, h2⟩ := hlt
        rcases HB0.out.below HLr.out.bel with h0 | ⟨g, off, rfl, hg, hc⟩
        · omega
        obtain ⟨c, c0, c1, hcc⟩ := hc k h1
        have hkl : (k : Int) < (len0 : Int) := by omega
        have hk14 : (k : Int) < 40 := by omega
        clear hc
        rcases (show c % 8 = 0 ∨ c % 8 = 1 ∨ c % 8 = 2 ∨ c % 8 = 3 ∨ c % 8 = 4 ∨ c % 8 = 5 ∨ c % 8 = 6 ∨ c % 8 = 7 by omega) with hm | hm | hm | hm | hm | hm | hm | hm
        · go_wp2_with fail
          go_roundw
          case rel => exact ⟨k + 1, _, _, by omega, by omega, by go_num, rfl, Lib.hid (HP.out.more (q := ⟨#[97]⟩) 97 (by decide +kernel) (by decide +kernel) (by decide +kernel) (by decide) (by decide)), Lib.hid (HLr.out.on (below_new _ _))⟩
          case measure => simp [intOf]; omega
        · go_wp2_with fail
          go_roundw
          case rel => exact ⟨k + 1, _, _, by omega, by omega, by go_num, rfl, Lib.hid (HP.out.more (q := ⟨#[66]⟩) 66 (by decide +kernel) (by decide +kernel) (by decide +kernel) (by decide) (by decide)), Lib.hid (HLr.out.on (below_new _ _))⟩
          case measure => simp [intOf]; omega
        · go_wp2_with fail
          go_roundw
          case rel => exact ⟨k + 1, _, _, by omega, by omega, by go_num, rfl, Lib.hid (HP.out.more (q := ⟨#[55]⟩) 55 (by decide +kernel) (by decide +kernel) (by decide +kernel) (by decide) (by decide)), Lib.hid (HLr.out.on (below_new _ _))⟩
          case measure => simp [intOf]; omega
        · go_wp2_with fail
          go_roundw
          case rel => exact ⟨k + 1, _, _, by omega, by omega, by go_num, rfl, Lib.hid (HP.out.more (q := ⟨#[95]⟩) 95 (by decide +kernel) (by decide +kernel) (by decide +kernel) (by decide) (by decide)), Lib.hid (HLr.out.on (below_new _ _))⟩
          case measure => simp [intOf]; omega
        · go_wp2_with fail
          go_roundw
          case rel => exact ⟨k + 1, _, _, by omega, by omega, by go_num, rfl, Lib.hid (HP.out.more (q := ⟨#[32]⟩) 32 (by decide +kernel) (by decide +kernel) (by decide +kernel) (by decide) (by decide)), Lib.hid (HLr.out.on (below_new _ _))⟩
          case measure => simp [intOf]; omega
        · go_wp2_with fail
          go_roundw
          case rel => exact ⟨k + 1, _, _, by omega, by omega, by go_num, rfl, Lib.hid (HP.out.more (q := ⟨#[195, 169]⟩) 233 (by decide +kernel) (by decide +kernel) (by decide +kernel) (by decide) (by decide)), Lib.hid (HLr.out.on (below_new _ _))⟩
          case measure => simp [intOf]; omega
        · go_wp2_with fail
          go_roundw
          case rel => exact ⟨k + 1, _, _, by omega, by omega, by go_num, rfl, Lib.hid (HP.out.more (q := ⟨#[226, 130, 172]⟩) 8364 (by decide +kernel) (by decide +kernel) (by decide +kernel) (by decide) (by decide)), Lib.hid (HLr.out.on (below_new _ _))⟩
          case measure => simp [intOf]; omega
        · go_wp2_with fail
          go_roundw
          case rel => exact ⟨k + 1, _, _, by omega, by omega, by go_num, rfl, Lib.hid (HP.out.more (q := ⟨#[45]⟩) 45 (by decide +kernel) (by decide +kernel) (by decide +kernel) (by decide) (by decide)), Lib.hid (HLr.out.on (below_new _ _))⟩
          case measure => simp [intOf]; omega
      · rcases (show len0 ≤ k ∨ (k < len0 ∧ 40 ≤ k) by omega) with h1 | ⟨h1, h2⟩
        all_goals
          go_wp2_with fail
          go_meet
          case rel => exact ⟨k, t, ws, by omega, rfl, HP.out, HLr.out⟩
  case rest =>
    obtain ⟨k, t, ws, hk, rfl, ht, hlr⟩ := hcut
    have HP := Lib.hid ht
    have HL0 := Lib.hid hlr
    have htz := ht.2.2.2.2.2
    clear ht hlr
    go_upto_region 9 with fail
    go_cut [8] from 40 to 42 (fun s wx => s = .int .i64 (k : Int) ∧ wx = wc)
    case first =>
      rcases (show (len0 ≤ 40 ∧ k = len0) ∨ (40 < len0 ∧ k = 40) by omega) with ⟨hl, hkk⟩ | ⟨hl, hkk⟩
      · have hmin : min (len0 : Int) 40 = (k : Int) := by omega
        go_wp2_with fail
        go_meet
        case rel => exact ⟨by simp; omega, rfl⟩
      · have hmin : min (len0 : Int) 40 = (k : Int) := by omega
        go_wp2_with fail
        go_meet
        case rel => exact ⟨by simp; omega, rfl⟩
    case rest =>
      obtain ⟨rfl, rfl⟩ := hcut
      have hk40 : k ≤ 40 := by omega
      clear hk
      go_upto_region 10 with fail
      go_cut [9] from 43 to 49 (fun s wx => (∃ c T, s = .string T ∧ SpecText c T) ∧ wx = wc)
      case first =>
        rcases (show a1 % 14 = 0 ∨ a1 % 14 = 1 ∨ a1 % 14 = 2 ∨ a1 % 14 = 3 ∨ a1 % 14 = 4 ∨ a1 % 14 = 5 ∨ a1 % 14 = 6 ∨ a1 % 14 = 7 ∨ a1 % 14 = 8 ∨ a1 % 14 = 9 ∨ a1 % 14 = 10 ∨ a1 % 14 = 11 ∨ a1 % 14 = 12 ∨ a1 % 14 = 13 by omega) with hm | hm | hm | hm | hm | hm | hm | hm | hm | hm | hm | hm | hm | hm
        · go_wp2_with fail
          go_meet
          case rel => exact ⟨⟨92, _, rfl, by decide, by decide, by decide, by decide, by decide +kernel, by decide +kernel⟩, rfl⟩
        · go_wp2_with fail
          go_meet
          case rel => exact ⟨⟨46, _, rfl, by decide, by decide, by decide, by decide, by decide +kernel, by decide +kernel⟩, rfl⟩
        · go_wp2_with fail
          go_meet
          case rel => exact ⟨⟨91, _, rfl, by decide, by decide, by decide, by decide, by decide +kernel, by decide +kernel⟩, rfl⟩
        · go_wp2_with fail
          go_meet
          case rel => exact ⟨⟨93, _, rfl, by decide, by decide, by decide, by decide, by decide +kernel, by decide +kernel⟩, rfl⟩
        · go_wp2_with fail
          go_meet
          case rel => exact ⟨⟨40, _, rfl, by decide, by decide, by decide, by decide, by decide +kernel, by decide +kernel⟩, rfl⟩
        · go_wp2_with fail
          go_meet
          case rel => exact ⟨⟨41, _, rfl, by decide, by decide, by decide, by decide, by decide +kernel, by decide +kernel⟩, rfl⟩
        · go_wp2_with fail
          go_meet
          case rel => exact ⟨⟨42, _, rfl, by decide, by decide, by decide, by decide, by decide +kernel, by decide +kernel⟩, rfl⟩
        · go_wp2_with fail
          go_meet
          case rel => exact ⟨⟨43, _, rfl, by decide, by decide, by decide, by decide, by decide +kernel, by decide +kernel⟩, rfl⟩
        · go_wp2_with fail
          go_meet
          case rel => exact ⟨⟨63, _, rfl, by decide, by decide, by decide, by decide, by decide +kernel, by decide +kernel⟩, rfl⟩
        · go_wp2_with fail
          go_meet
          case rel => exact ⟨⟨123, _, rfl, by decide, by decide, by decide, by decide, by decide +kernel, by decide +kernel⟩, rfl⟩
        · go_wp2_with fail
          go_meet
          case rel => exact ⟨⟨125, _, rfl, by decide, by decide, by decide, by decide, by decide +kernel, by decide +kernel⟩, rfl⟩
        · go_wp2_with fail
          go_meet
          case rel => exact ⟨⟨124, _, rfl, by decide, by decide, by decide, by decide, by decide +kernel, by decide +kernel⟩, rfl⟩
        · go_wp2_with fail
          go_meet
          case rel => exact ⟨⟨94, _, rfl, by decide, by decide, by decide, by decide, by decide +kernel, by decide +kernel⟩, rfl⟩
        · go_wp2_with fail
          go_meet
          case rel => exact ⟨⟨36, _, rfl, by decide, by decide, by decide, by decide, by decide +kernel, by decide +kernel⟩, rfl⟩
      case rest =>
        obtain ⟨⟨c, T, rfl, hT⟩, rfl⟩ := hcut
        obtain ⟨n, hp, hr, hpt, hsn⟩ := let_plain HP.out hk40
        obtain ⟨m, hq, hr2, hpt2, hsm, hgm⟩ := let_special HP.out hk40 hT
        have HPN := Lib.hid hp
        have HPM := Lib.hid hq
        have HRN := Lib.hid hr
        have HRM := Lib.hid hr2
        have HTN := Lib.hid hpt
        have HTM := Lib.hid hpt2
        have HGM := Lib.hid hgm
        have hts := hT.2.2.2.2.2
        have htt : (t ++ T).size = t.size + 2 := by rw [ByteArray.size_append, hts]
        have e1 : (t.toList == t.toList) = true := bytes_eq _
        have e2 : ((t ++ T).toList == (t ++ T).toList) = true := bytes_eq _
        clear hp hq hr hr2 hpt hpt2 hT hgm
        rcases (show k = 0 ∨ k = 1 ∨ 2 ≤ k by omega) with hk | hk | hk
        · subst hk
          have HSN := Lib.hid (show (nsz n : Int) = 1 from by rw [hsn]; rfl)
          clear hsn hsm
          go_wp2_with fail
          refine (pk_any _ HPN.out HL0.out (by omega)).mono ?_
          rintro e w1 ⟨kN, kaN, kiN, kjN, mnN, mxN, lzN, gN, kbN, ksN, ktN, rfl, hn, hb1⟩
          have HL1 := Lib.hid (HL0.out.on hb1)
          clear hb1
          go_wp2_with fail
          have HN := Lib.hid (NBx.new hn)
          have hbv := below_new w1 (nc kN kaN kiN kjN mnN mxN lzN gN kbN ksN ktN)
          have HL2 := Lib.hid (HL1.out.on hbv)
          clear HL1
          clear hn hbv
          generalize w1.alloc (nc kN kaN kiN kjN mnN mxN lzN gN kbN ksN ktN) = v1 at *
          generalize w1.heap.size = bN at *
          refine (pk_any _ HPM.out HL2.out (by omega)).mono ?_
          rintro e w3 ⟨kM, kaM, kiM, kjM, mnM, mxM, lzM, gM, kbM, ksM, ktM, rfl, hn, hb3⟩
          have HL3 := Lib.hid (HL2.out.on hb3)
          clear HL2
          replace HN := Lib.hid (HN.out.below hb3)
          clear hb3
          obtain ⟨cN0, cN1, cN2, cN3, cN4, cN5, cN6⟩ := HN.out.cells
          have qN : ¬ bN = w3.heap.size := Nat.ne_of_lt HN.out.lt
          have rN := HN.out.lt
          go_wp2_with fail
          clear cN0 cN1 cN2 cN3 cN4 cN5 cN6
          clear qN rN
          have HM := Lib.hid (NBx.new hn)
          have hbv := below_new w3 (nc kM kaM kiM kjM mnM mxM lzM gM kbM ksM ktM)
          have HL4 := Lib.hid (HL3.out.on hbv)
          clear HL3
          replace HN := Lib.hid (HN.out.below hbv)
          clear hn hbv
          generalize w3.alloc (nc kM kaM kiM kjM mnM mxM lzM gM kbM ksM ktM) = v3 at *
          generalize w3.heap.size = bM at *
          obtain ⟨cN0, cN1, cN2, cN3, cN4, cN5, cN6⟩ := HN.out.cells
          obtain ⟨cM0, cM1, cM2, cM3, cM4, cM5, cM6⟩ := HM.out.cells
          go_wp2_with fail
          refine (put_at _ HN.out.nd HRN.out HTN.out (by omega)).mono ?_
          rintro e w5 ⟨rfl, hb5⟩
          clear cM0 cM1 cM2 cM3 cM4 cM5 cM6 cN0 cN1 cN2 cN3 cN4 cN5 cN6
          have HL5 := Lib.hid (HL4.out.on hb5)
          clear HL4
          replace HN := Lib.hid (HN.out.below hb5)
          replace HM := Lib.hid (HM.out.below hb5)
          clear hb5
          obtain ⟨cN0, cN1, cN2, cN3, cN4, cN5, cN6⟩ := HN.out.cells
          obtain ⟨cM0, cM1, cM2, cM3, cM4, cM5, cM6⟩ := HM.out.cells
          go_wp2_with fail
          refine (put_at _ HM.out.nd HRM.out HTM.out (by omega)).mono ?_
          rintro e w6 ⟨rfl, hb6⟩
          clear cM0 cM1 cM2 cM3 cM4 cM5 cM6 cN0 cN1 cN2 cN3 cN4 cN5 cN6
          have HL6 := Lib.hid (HL5.out.on hb6)
          clear HL5
          replace HN := Lib.hid (HN.out.below hb6)
          replace HM := Lib.hid (HM.out.below hb6)
          clear hb6
          obtain ⟨cN0, cN1, cN2, cN3, cN4, cN5, cN6⟩ := HN.out.cells
          obtain ⟨cM0, cM1, cM2, cM3, cM4, cM5, cM6⟩ := HM.out.cells
          go_wp2_with fail
          refine (size_at _ HN.out.nd HSN.out (by have := HSN.out; omega)).mono ?_
          rintro e w7 ⟨rfl, hb7⟩
          clear cM0 cM1 cM2 cM3 cM4 cM5 cM6 cN0 cN1 cN2 cN3 cN4 cN5 cN6
          have HL7 := Lib.hid (HL6.out.on hb7)
          clear HL6
          replace HN := Lib.hid (HN.out.below hb7)
          replace HM := Lib.hid (HM.out.below hb7)
          clear hb7
          obtain ⟨cN0, cN1, cN2, cN3, cN4, cN5, cN6⟩ := HN.out.cells
          obtain ⟨cM0, cM1, cM2, cM3, cM4, cM5, cM6⟩ := HM.out.cells
          go_wp2_with fail
          refine (groups_at _ HM.out.nd HGM.out).mono ?_
          rintro e w8 ⟨rfl, hb8⟩
          clear cM0 cM1 cM2 cM3 cM4 cM5 cM6 cN0 cN1 cN2 cN3 cN4 cN5 cN6
          have HL8 := Lib.hid (HL7.out.on hb8)
          clear HL7
          replace HN := Lib.hid (HN.out.below hb8)
          replace HM := Lib.hid (HM.out.below hb8)
          clear hb8
          go_wp2_with fail
          go_ret
          exact ⟨rfl, HL8.out.bel⟩
        · subst hk
          have HSN := Lib.hid (show (nsz n : Int) = 1 from by rw [hsn]; rfl)
          have HSM := Lib.hid (show (nsz m : Int) = 3 from by rw [hsm (by decide)]; rfl)
          clear hsn hsm
          go_wp2_with fail
          refine (pk_any _ HPN.out HL0.out (by omega)).mono ?_
          rintro e w1 ⟨kN, kaN, kiN, kjN, mnN, mxN, lzN, gN, kbN, ksN, ktN, rfl, hn, hb1⟩
          have HL1 := Lib.hid (HL0.out.on hb1)
          clear hb1
          go_wp2_with fail
          have HN := Lib.hid (NBx.new hn)
          have hbv := below_new w1 (nc kN kaN kiN kjN mnN mxN lzN gN kbN ksN ktN)
          have HL2 := Lib.hid (HL1.out.on hbv)
          clear HL1
          clear hn hbv
          generalize w1.alloc (nc kN kaN kiN kjN mnN mxN lzN gN kbN ksN ktN) = v1 at *
          generalize w1.heap.size = bN at *
          refine (pk_any _ HPM.out HL2.out (by omega)).mono ?_
          rintro e w3 ⟨kM, kaM, kiM, kjM, mnM, mxM, lzM, gM, kbM, ksM, ktM, rfl, hn, hb3⟩
          have HL3 := Lib.hid (HL2.out.on hb3)
          clear HL2
          replace HN := Lib.hid (HN.out.below hb3)
          clear hb3
          obtain ⟨cN0, cN1, cN2, cN3, cN4, cN5, cN6⟩ := HN.out.cells
          have qN : ¬ bN = w3.heap.size := Nat.ne_of_lt HN.out.lt
          have rN := HN.out.lt
          go_wp2_with fail
          clear cN0 cN1 cN2 cN3 cN4 cN5 cN6
          clear qN rN
          have HM := Lib.hid (NBx.new hn)
          have hbv := below_new w3 (nc kM kaM kiM kjM mnM mxM lzM gM kbM ksM ktM)
          have HL4 := Lib.hid (HL3.out.on hbv)
          clear HL3
          replace HN := Lib.hid (HN.out.below hbv)
          clear hn hbv
          generalize w3.alloc (nc kM kaM kiM kjM mnM mxM lzM gM kbM ksM ktM) = v3 at *
          generalize w3.heap.size = bM at *
          obtain ⟨cN0, cN1, cN2, cN3, cN4, cN5, cN6⟩ := HN.out.cells
          obtain ⟨cM0, cM1, cM2, cM3, cM4, cM5, cM6⟩ := HM.out.cells
          go_wp2_with fail
          refine (put_at _ HN.out.nd HRN.out HTN.out (by omega)).mono ?_
          rintro e w5 ⟨rfl, hb5⟩
          clear cM0 cM1 cM2 cM3 cM4 cM5 cM6 cN0 cN1 cN2 cN3 cN4 cN5 cN6
          have HL5 := Lib.hid (HL4.out.on hb5)
          clear HL4
          replace HN := Lib.hid (HN.out.below hb5)
          replace HM := Lib.hid (HM.out.below hb5)
          clear hb5
          obtain ⟨cN0, cN1, cN2, cN3, cN4, cN5, cN6⟩ := HN.out.cells
          obtain ⟨cM0, cM1, cM2, cM3, cM4, cM5, cM6⟩ := HM.out.cells
          go_wp2_with fail
          refine (put_at _ HM.out.nd HRM.out HTM.out (by omega)).mono ?_
          rintro e w6 ⟨rfl, hb6⟩
          clear cM0 cM1 cM2 cM3 cM4 cM5 cM6 cN0 cN1 cN2 cN3 cN4 cN5 cN6
          have HL6 := Lib.hid (HL5.out.on hb6)
          clear HL5
          replace HN := Lib.hid (HN.out.below hb6)
          replace HM := Lib.hid (HM.out.below hb6)
          clear hb6
          obtain ⟨cN0, cN1, cN2, cN3, cN4, cN5, cN6⟩ := HN.out.cells
          obtain ⟨cM0, cM1, cM2, cM3, cM4, cM5, cM6⟩ := HM.out.cells
          go_wp2_with fail
          refine (size_at _ HN.out.nd HSN.out (by have := HSN.out; omega)).mono ?_
          rintro e w7 ⟨rfl, hb7⟩
          clear cM0 cM1 cM2 cM3 cM4 cM5 cM6 cN0 cN1 cN2 cN3 cN4 cN5 cN6
          have HL7 := Lib.hid (HL6.out.on hb7)
          clear HL6
          replace HN := Lib.hid (HN.out.below hb7)
          replace HM := Lib.hid (HM.out.below hb7)
          clear hb7
          obtain ⟨cN0, cN1, cN2, cN3, cN4, cN5, cN6⟩ := HN.out.cells
          obtain ⟨cM0, cM1, cM2, cM3, cM4, cM5, cM6⟩ := HM.out.cells
          go_wp2_with fail
          refine (size_at _ HM.out.nd HSM.out (by have := HSM.out; omega)).mono ?_
          rintro e w8 ⟨rfl, hb8⟩
          clear cM0 cM1 cM2 cM3 cM4 cM5 cM6 cN0 cN1 cN2 cN3 cN4 cN5 cN6
          have HL8 := Lib.hid (HL7.out.on hb8)
          clear HL7
          replace HN := Lib.hid (HN.out.below hb8)
          replace HM := Lib.hid (HM.out.below hb8)
          clear hb8
          obtain ⟨cN0, cN1, cN2, cN3, cN4, cN5, cN6⟩ := HN.out.cells
          obtain ⟨cM0, cM1, cM2, cM3, cM4, cM5, cM6⟩ := HM.out.cells
          go_wp2_with fail
          refine (groups_at _ HM.out.nd HGM.out).mono ?_
          rintro e w9 ⟨rfl, hb9⟩
          clear cM0 cM1 cM2 cM3 cM4 cM5 cM6 cN0 cN1 cN2 cN3 cN4 cN5 cN6
          have HL9 := Lib.hid (HL8.out.on hb9)
          clear HL8
          replace HN := Lib.hid (HN.out.below hb9)
          replace HM := Lib.hid (HM.out.below hb9)
          clear hb9
          go_wp2_with fail
          go_ret
          exact ⟨rfl, HL9.out.bel⟩
        · have HSN := Lib.hid (show (nsz n : Int) = (k : Int) + 1 from by rw [hsn, if_neg (by omega)])
          have HSM := Lib.hid (hsm (by omega))
          have k1 : ¬ (k : Int) = 1 := by omega
          have k2 : ((k : Int) == 1) = false := by simp; omega
          have k3 : ¬ (k : Int) < 1 := by omega
          have k4 : decide ((k : Int) < 1) = false := by simp; omega
          clear hsn hsm
          go_wp2_with fail
          refine (pk_any _ HPN.out HL0.out (by omega)).mono ?_
          rintro e w1 ⟨kN, kaN, kiN, kjN, mnN, mxN, lzN, gN, kbN, ksN, ktN, rfl, hn, hb1⟩
          have HL1 := Lib.hid (HL0.out.on hb1)
          clear hb1
          go_wp2_with fail
          have HN := Lib.hid (NBx.new hn)
          have hbv := below_new w1 (nc kN kaN kiN kjN mnN mxN lzN gN kbN ksN ktN)
          have HL2 := Lib.hid (HL1.out.on hbv)
          clear HL1
          clear hn hbv
          generalize w1.alloc (nc kN kaN kiN kjN mnN mxN lzN gN kbN ksN ktN) = v1 at *
          generalize w1.heap.size = bN at *
          refine (pk_any _ HPM.out HL2.out (by omega)).mono ?_
          rintro e w3 ⟨kM, kaM, kiM, kjM, mnM, mxM, lzM, gM, kbM, ksM, ktM, rfl, hn, hb3⟩
          have HL3 := Lib.hid (HL2.out.on hb3)
          clear HL2
          replace HN := Lib.hid (HN.out.below hb3)
          clear hb3
          obtain ⟨cN0, cN1, cN2, cN3, cN4, cN5, cN6⟩ := HN.out.cells
          have qN : ¬ bN = w3.heap.size := Nat.ne_of_lt HN.out.lt
          have rN := HN.out.lt
          go_wp2_with fail
          clear cN0 cN1 cN2 cN3 cN4 cN5 cN6
          clear qN rN
          have HM := Lib.hid (NBx.new hn)
          have hbv := below_new w3 (nc kM kaM kiM kjM mnM mxM lzM gM kbM ksM ktM)
          have HL4 := Lib.hid (HL3.out.on hbv)
          clear HL3
          replace HN := Lib.hid (HN.out.below hbv)
          clear hn hbv
          generalize w3.alloc (nc kM kaM kiM kjM mnM mxM lzM gM kbM ksM ktM) = v3 at *
          generalize w3.heap.size = bM at *
          obtain ⟨cN0, cN1, cN2, cN3, cN4, cN5, cN6⟩ := HN.out.cells
          obtain ⟨cM0, cM1, cM2, cM3, cM4, cM5, cM6⟩ := HM.out.cells
          go_wp2_with fail
          refine (put_at _ HN.out.nd HRN.out HTN.out (by omega)).mono ?_
          rintro e w5 ⟨rfl, hb5⟩
          clear cM0 cM1 cM2 cM3 cM4 cM5 cM6 cN0 cN1 cN2 cN3 cN4 cN5 cN6
          have HL5 := Lib.hid (HL4.out.on hb5)
          clear HL4
          replace HN := Lib.hid (HN.out.below hb5)
          replace HM := Lib.hid (HM.out.below hb5)
          clear hb5
          obtain ⟨cN0, cN1, cN2, cN3, cN4, cN5, cN6⟩ := HN.out.cells
          obtain ⟨cM0, cM1, cM2, cM3, cM4, cM5, cM6⟩ := HM.out.cells
          go_wp2_with fail
          refine (put_at _ HM.out.nd HRM.out HTM.out (by omega)).mono ?_
          rintro e w6 ⟨rfl, hb6⟩
          clear cM0 cM1 cM2 cM3 cM4 cM5 cM6 cN0 cN1 cN2 cN3 cN4 cN5 cN6
          have HL6 := Lib.hid (HL5.out.on hb6)
          clear HL5
          replace HN := Lib.hid (HN.out.below hb6)
          replace HM := Lib.hid (HM.out.below hb6)
          clear hb6
          obtain ⟨cN0, cN1, cN2, cN3, cN4, cN5, cN6⟩ := HN.out.cells
          obtain ⟨cM0, cM1, cM2, cM3, cM4, cM5, cM6⟩ := HM.out.cells
          go_wp2_with fail
          refine (size_at _ HN.out.nd HSN.out (by have := HSN.out; omega)).mono ?_
          rintro e w7 ⟨rfl, hb7⟩
          clear cM0 cM1 cM2 cM3 cM4 cM5 cM6 cN0 cN1 cN2 cN3 cN4 cN5 cN6
          have HL7 := Lib.hid (HL6.out.on hb7)
          clear HL6
          replace HN := Lib.hid (HN.out.below hb7)
          replace HM := Lib.hid (HM.out.below hb7)
          clear hb7
          obtain ⟨cN0, cN1, cN2, cN3, cN4, cN5, cN6⟩ := HN.out.cells
          obtain ⟨cM0, cM1, cM2, cM3, cM4, cM5, cM6⟩ := HM.out.cells
          go_wp2_with fail
          refine (size_at _ HM.out.nd HSM.out (by have := HSM.out; omega)).mono ?_
          rintro e w8 ⟨rfl, hb8⟩
          clear cM0 cM1 cM2 cM3 cM4 cM5 cM6 cN0 cN1 cN2 cN3 cN4 cN5 cN6
          have HL8 := Lib.hid (HL7.out.on hb8)
          clear HL7
          replace HN := Lib.hid (HN.out.below hb8)
          replace HM := Lib.hid (HM.out.below hb8)
          clear hb8
          obtain ⟨cN0, cN1, cN2, cN3, cN4, cN5, cN6⟩ := HN.out.cells
          obtain ⟨cM0, cM1, cM2, cM3, cM4, cM5, cM6⟩ := HM.out.cells
          go_wp2_with fail
          refine (groups_at _ HM.out.nd HGM.out).mono ?_
          rintro e w9 ⟨rfl, hb9⟩
          clear cM0 cM1 cM2 cM3 cM4 cM5 cM6 cN0 cN1 cN2 cN3 cN4 cN5 cN6
          have HL9 := Lib.hid (HL8.out.on hb9)
          clear HL8
          replace HN := Lib.hid (HN.out.below hb9)
          replace HM := Lib.hid (HM.out.below hb9)
          clear hb9
          go_wp2_with fail
          go_ret
          exact ⟨rfl, HL9.out.bel⟩
end Go.Proofs.YtfibhhegfhikmaaGreatDoor
