import Derived.Test.YtfibhhegfhikmaaGreatDoorJPLSizesF
set_option linter.unusedSimpArgs false
set_option linter.unusedVariables false
/- SyntaxSizes: the walk. -/
set_option linter.unusedVariables false
namespace Go.Proofs.YtfibhhegfhikmaaGreatDoor
open Go.RowKit
open Sx (Nd)

set_option maxRecDepth 20000 in
set_option maxHeartbeats 8000000 in
theorem law_SyntaxSizes (a0 a1 a2 : Int) (w : World) (hT : Errs w.heap.size w) (h00 : 0 ≤ a0) (h01 : a0 ≤ 255) (h10 : 0 ≤ a1) (h11 : a1 ≤ 255) (h20 : 0 ≤ a2) (h21 : a2 ≤ 255) : Calls Tryz.prog 9 #[.int .u8 a0, .int .u8 a1, .int .u8 a2] w fun e w' => e = .returned (.bool true) ∧ Below w.heap.size w w' := by
  obtain ⟨n, hn0⟩ : ∃ n : Nat, a0 % 10 = (n : Int) := ⟨(a0 % 10).toNat, by omega⟩
  obtain ⟨m, hm0⟩ : ∃ m : Nat, a1 % 9 = (m : Int) := ⟨(a1 % 9).toNat, by omega⟩
  obtain ⟨k, hk0⟩ : ∃ k : Nat, a2 % 10 = (k : Int) := ⟨(a2 % 10).toNat, by omega⟩
  have hn9 : n ≤ 9 := by omega
  have hm8 : m ≤ 8 := by omega
  have hk9 : k ≤ 9 := by omega
  have HL0 := Lib.hid (show Lw w.heap.size w w from ⟨hT, Nat.le_refl _, Below.refl _ _⟩)
  clear hT
  go_enter Tryz.func9, Tryz.ntmps9
  go_wp2_with fail
  refine (examples_any _ HL0.out).mono ?_
  rintro e w1 ⟨rfl, hb1⟩
  have HLa := Lib.hid (HL0.out.on hb1)
  clear HL0 hb1
  have HL0 := HLa
  clear HLa
  go_upto_block 0 with fail
  clear hn0 hm0 hk0
  have HLL := HL0
  clear HL0
  go_cut [11] from 31 to 37 (fun s wx => ∃ t, s = .string t ∧ TxtIs (List.replicate (n + 2) (97 : Int)) (n + 2) t ∧ Lw w.heap.size w wx)
  case first =>
    go_wp2_with fail
    go_loopw [11, 12] (fun s i wr => ∃ (j : Nat) (t : ByteArray), j ≤ n + 2 ∧ i = .int .i64 (j : Int) ∧ s = .string t ∧ Hid (TxtIs (List.replicate (j) (97 : Int)) (j) t) ∧ Hid (Lw w.heap.size w wr)) (fun _ i _ => n + 2 - (intOf i).toNat)
    case atStart => exact ⟨0, _, by omega, rfl, rfl, Lib.hid (TxtIs.nil), HLL⟩
    case round =>
      obtain ⟨j, t, hj, rfl, rfl, HP, HLr⟩ := hrel
      have ht := HP.out.2
      by_cases hlt : j < n + 2
      · have hlt' : (j : Int) < 2 + (n : Int) := by omega
        go_wp2_with fail
        go_roundw
        case rel => exact ⟨j + 1, _, by omega, by go_num, rfl, Lib.hid ((HP.out.app (q := ⟨#[97]⟩) (us := [97]) (c := 1) (by decide +kernel) (by decide) (g1_next j)).le (by omega)), HLr⟩
        case measure => simp [intOf]; omega
      · have hlt' : ¬ ((j : Int) < 2 + (n : Int)) := by omega
        have hjc := Lib.hid (show j = n + 2 by omega)
        go_wp2_with fail
        go_meet
        case rel => exact ⟨t, rfl, by rw [← hjc.out]; exact HP.out, HLr.out⟩
  case rest =>
    obtain ⟨t, rfl, ht0, hlr⟩ := hcut
    have HT0 := Lib.hid ht0
    have HL0 := Lib.hid hlr
    have htz := ht0.2
    clear ht0 hlr
    go_upto_block 2 with fail
    have HLL := HL0
    clear HL0
    go_cut [11] from 38 to 44 (fun s wx => ∃ t, s = .string t ∧ TxtIs (Sx.szText (n + 2) (m) 0) (n + 2 + 3 * (m)) t ∧ Lw w.heap.size w wx)
    case first =>
      go_wp2_with fail
      go_loopw [11, 13] (fun s i wr => ∃ (j : Nat) (t : ByteArray), j ≤ m ∧ i = .int .i64 (j : Int) ∧ s = .string t ∧ Hid (TxtIs (Sx.szText (n + 2) (j) 0) (n + 2 + 3 * (j)) t) ∧ Hid (Lw w.heap.size w wr)) (fun _ i _ => m - (intOf i).toNat)
      case atStart => exact ⟨0, _, by omega, rfl, rfl, Lib.hid (by rw [← g2_zero]; exact HT0.out), HLL⟩
      case round =>
        obtain ⟨j, t, hj, rfl, rfl, HP, HLr⟩ := hrel
        have ht := HP.out.2
        by_cases hlt : j < m
        · have hlt' : (j : Int) < (m : Int) := by omega
          go_wp2_with fail
          go_roundw
          case rel => exact ⟨j + 1, _, by omega, by go_num, rfl, Lib.hid ((HP.out.app (q := ⟨#[40, 98, 41]⟩) (us := [40, 98, 41]) (c := 3) (by decide +kernel) (by decide) (g2_next (n + 2) j)).le (by omega)), HLr⟩
          case measure => simp [intOf]; omega
        · have hlt' : ¬ ((j : Int) < (m : Int)) := by omega
          have hjc := Lib.hid (show j = m by omega)
          go_wp2_with fail
          go_meet
          case rel => exact ⟨t, rfl, by rw [← hjc.out]; exact HP.out, HLr.out⟩
    case rest =>
      obtain ⟨t, rfl, ht0, hlr⟩ := hcut
      have HT0 := Lib.hid ht0
      have HL0 := Lib.hid hlr
      have htz := ht0.2
      clear ht0 hlr
      go_upto_block 4 with fail
      have HLL := HL0
      clear HL0
      go_cut [11] from 45 to 56 (fun s wx => ∃ t, s = .string t ∧ TxtIs (Sx.szText (n + 2) m (k)) (n + 2 + 3 * m + 4 * (k)) t ∧ Lw w.heap.size w wx)
      case first =>
        go_wp2_with fail
        go_loopw [11, 14] (fun s i wr => ∃ (j : Nat) (t : ByteArray), j ≤ k ∧ i = .int .i64 (j : Int) ∧ s = .string t ∧ Hid (TxtIs (Sx.szText (n + 2) m (j)) (n + 2 + 3 * m + 4 * (j)) t) ∧ Hid (Lw w.heap.size w wr)) (fun _ i _ => k - (intOf i).toNat)
        case atStart => exact ⟨0, _, by omega, rfl, rfl, Lib.hid (HT0.out), HLL⟩
        case round =>
          obtain ⟨j, t, hj, rfl, rfl, HP, HLr⟩ := hrel
          have ht := HP.out.2
          by_cases hlt : j < k
          · have hlt' : (j : Int) < (k : Int) := by omega
            rcases (show (j : Int) % 4 = 0 ∨ (j : Int) % 4 = 1 ∨ (j : Int) % 4 = 2 ∨ (j : Int) % 4 = 3 by omega) with hm | hm | hm | hm
            · go_wp2_with fail
              go_roundw
              case rel => exact ⟨j + 1, _, by omega, by go_num, rfl, Lib.hid ((HP.out.app (q := ⟨#[99, 42]⟩) (us := [99, 42]) (c := 4) (by decide +kernel) (by decide) (by rw [g3_next, show Sx.rtext j = [99, 42] from by unfold Sx.rtext; rw [if_pos (by omega)]])).le (by omega)), Lib.hid (HLr.out.on (below_new _ _))⟩
              case measure => simp [intOf]; omega
            · go_wp2_with fail
              go_roundw
              case rel => exact ⟨j + 1, _, by omega, by go_num, rfl, Lib.hid ((HP.out.app (q := ⟨#[99, 43, 63]⟩) (us := [99, 43, 63]) (c := 4) (by decide +kernel) (by decide) (by rw [g3_next, show Sx.rtext j = [99, 43, 63] from by unfold Sx.rtext; rw [if_neg (by omega), if_pos (by omega)]])).le (by omega)), Lib.hid (HLr.out.on (below_new _ _))⟩
              case measure => simp [intOf]; omega
            · go_wp2_with fail
              go_roundw
              case rel => exact ⟨j + 1, _, by omega, by go_num, rfl, Lib.hid ((HP.out.app (q := ⟨#[99, 123, 50, 125]⟩) (us := [99, 123, 50, 125]) (c := 4) (by decide +kernel) (by decide) (by rw [g3_next, show Sx.rtext j = [99, 123, 50, 125] from by unfold Sx.rtext; rw [if_neg (by omega), if_neg (by omega), if_pos (by omega)]])).le (by omega)), Lib.hid (HLr.out.on (below_new _ _))⟩
              case measure => simp [intOf]; omega
            · go_wp2_with fail
              go_roundw
              case rel => exact ⟨j + 1, _, by omega, by go_num, rfl, Lib.hid ((HP.out.app (q := ⟨#[99, 63, 63]⟩) (us := [99, 63, 63]) (c := 4) (by decide +kernel) (by decide) (by rw [g3_next, show Sx.rtext j = [99, 63, 63] from by unfold Sx.rtext; rw [if_neg (by omega), if_neg (by omega), if_neg (by omega)]])).le (by omega)), Lib.hid (HLr.out.on (below_new _ _))⟩
              case measure => simp [intOf]; omega
          · have hlt' : ¬ ((j : Int) < (k : Int)) := by omega
            have hjc := Lib.hid (show j = k by omega)
            go_wp2_with fail
            go_meet
            case rel => exact ⟨t, rfl, by rw [← hjc.out]; exact HP.out, HLr.out⟩
      case rest =>
        obtain ⟨t, rfl, ht0, hlr⟩ := hcut
        have HT0 := Lib.hid ht0
        have HL0 := Lib.hid hlr
        have htz := ht0.2
        clear ht0 hlr
        obtain ⟨N, hp, hr, hpt, hsn, hgn⟩ := sz_text HT0.out (by omega) (by omega) hm8
        have HPN := Lib.hid hp
        have HRN := Lib.hid hr
        have HTN := Lib.hid hpt
        have HGN := Lib.hid hgn
        have HSN := Lib.hid (show (nsz N : Int) = 1 + (2 + (n : Int)) + 2 * (m : Int) + 2 * (k : Int) from by rw [hsn]; omega)
        have e1 : (t.toList == t.toList) = true := bytes_eq _
        clear hp hr hpt hsn hgn
        go_wp2_with fail
        refine (pk_any _ HPN.out HL0.out (by omega)).mono ?_
        rintro e w1 ⟨kN, kaN, kiN, kjN, mnN, mxN, lzN, gN, kbN, ksN, ktN, rfl, hn, hb1⟩
        have HL1 := Lib.hid (HL0.out.on hb1)
        clear hb1
        go_wp2_with fail
        have HN := Lib.hid (NBx.new hn)
        have hbv := below_new w1 (nc kN kaN kiN kjN mnN mxN lzN gN kbN ksN ktN)
        have HL2 := Lib.hid (HL1.out.on hbv)
        clear HL1
        clear hn hbv
        generalize w1.alloc (nc kN kaN kiN kjN mnN mxN lzN gN kbN ksN ktN) = v1 at *
        generalize w1.heap.size = bN at *
        obtain ⟨cN0, cN1, cN2, cN3, cN4, cN5, cN6⟩ := HN.out.cells
        go_wp2_with fail
        refine (size_at _ HN.out.nd HSN.out (by have := HSN.out; omega)).mono ?_
        rintro e w3 ⟨rfl, hb3⟩
        clear cN0 cN1 cN2 cN3 cN4 cN5 cN6
        have HL3 := Lib.hid (HL2.out.on hb3)
        clear HL2
        replace HN := Lib.hid (HN.out.below hb3)
        clear hb3
        obtain ⟨cN0, cN1, cN2, cN3, cN4, cN5, cN6⟩ := HN.out.cells
        go_wp2_with fail
        refine (groups_at _ HN.out.nd HGN.out).mono ?_
        rintro e w4 ⟨rfl, hb4⟩
        clear cN0 cN1 cN2 cN3 cN4 cN5 cN6
        have HL4 := Lib.hid (HL3.out.on hb4)
        clear HL3
        replace HN := Lib.hid (HN.out.below hb4)
        clear hb4
        obtain ⟨cN0, cN1, cN2, cN3, cN4, cN5, cN6⟩ := HN.out.cells
        go_wp2_with fail
        refine (put_at _ HN.out.nd HRN.out HTN.out (by omega)).mono ?_
        rintro e w5 ⟨rfl, hb5⟩
        clear cN0 cN1 cN2 cN3 cN4 cN5 cN6
        have HL5 := Lib.hid (HL4.out.on hb5)
        clear HL4
        replace HN := Lib.hid (HN.out.below hb5)
        clear hb5
        go_wp2_with fail
        go_ret
        exact ⟨rfl, HL5.out.bel⟩
end Go.Proofs.YtfibhhegfhikmaaGreatDoor
