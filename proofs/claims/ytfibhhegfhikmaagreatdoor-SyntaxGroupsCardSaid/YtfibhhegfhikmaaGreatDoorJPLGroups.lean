import Derived.Test.YtfibhhegfhikmaaGreatDoorJPLLet
set_option linter.unusedSimpArgs false
set_option linter.unusedVariables false
/- SyntaxGroups: the walk. -/
set_option linter.unusedVariables false
namespace Go.Proofs.YtfibhhegfhikmaaGreatDoor
open Go.RowKit
open Sx (Nd)

set_option maxRecDepth 20000 in
set_option maxHeartbeats 8000000 in
theorem law_SyntaxGroups (a0 : Int) (a1 : Option Addr) (len1 cap1 : Nat) (w : World) (hT : Errs w.heap.size w) (h00 : 0 ≤ a0) (h01 : a0 ≤ 255) (hb1 : BoolArg w a1 len1) : Calls Tryz.prog 8 #[.int .u8 a0, .slice a1 len1 cap1] w fun e w' => e = .returned (.bool true) ∧ Below w.heap.size w w' := by
  obtain ⟨n, hn0⟩ : ∃ n : Nat, a0 % 12 = (n : Int) := ⟨(a0 % 12).toNat, by omega⟩
  have hn11 : n ≤ 11 := by omega
  have HB := Lib.hid hb1
  clear hb1
  have HL0 := Lib.hid (show Lw w.heap.size w w from ⟨hT, Nat.le_refl _, Below.refl _ _⟩)
  clear hT
  go_enter Tryz.func8, Tryz.ntmps8
  go_wp2_with fail
  refine (examples_any _ HL0.out).mono ?_
  rintro e w1 ⟨rfl, hb1⟩
  have HLa := Lib.hid (HL0.out.on hb1)
  clear HL0 hb1
  have HL0 := HLa
  clear HLa
  go_upto_block 0 with fail
  clear hn0
  have HLL := HL0
  clear HL0
  go_cut [7, 8, 9] from 21 to 47 (fun s o p wx => ∃ (t : ByteArray) (l : List Bool) (x : Nat) (q : Int), l.length = n ∧ s = .string t ∧ o = .int .i64 (x : Int) ∧ p = .int .i64 q ∧ x = Sx.nopen l ∧ GT l t ∧ (8 < n → q = ((Sx.preN 8 l : Nat) : Int)) ∧ Lw w.heap.size w wx)
  case first =>
    go_wp2_with fail
    go_loopw [7, 8, 9, 10] (fun s o p i wr => ∃ (j : Nat) (t : ByteArray) (l : List Bool) (x : Nat) (q : Int), j ≤ n ∧ Hid (l.length = j) ∧ i = .int .i64 (j : Int) ∧ s = .string t ∧ o = .int .i64 (x : Int) ∧ p = .int .i64 q ∧ Hid (x = Sx.nopen l) ∧ Hid (GT l t) ∧ Hid (8 < j → q = ((Sx.preN 8 l : Nat) : Int)) ∧ Hid (Lw w.heap.size w wr)) (fun _ _ _ i _ => n - (intOf i).toNat)
    case atStart => exact ⟨0, ⟨#[]⟩, [], 0, 0, by omega, Lib.hid rfl, rfl, rfl, rfl, rfl, Lib.hid rfl, Lib.hid GT.nil, Lib.hid (fun h => absurd h (by decide)), HLL⟩
    case round =>
      obtain ⟨j, t, l, x, q, hj, HLN, rfl, rfl, rfl, rfl, HX, HP, HQ, HLr⟩ := hrel
      have hx9 : x ≤ 11 := by have h1 := HX.out; have h2 := nopen_le l; have h3 := HLN.out; omega
      have ht : t.size ≤ 33 := by have h1 := HP.out.2; have h2 := gpre_len l; have h3 := HLN.out; omega
      by_cases hlt : j < n
      · have hlt' : (j : Int) < (n : Int) := by omega
        by_cases hj8 : j = 8
        · subst hj8
          rcases (show len1 ≤ 8 ∨ 8 < len1 by omega) with hlj | hlj
          · have hlj' : ¬ (8 : Int) < (len1 : Int) := by omega
            go_wp2_with fail
            go_roundw
            case rel => exact ⟨9, _, l ++ [false], x + 1, _, by omega, Lib.hid (by rw [List.length_append, HLN.out]; rfl), by go_num, rfl, by go_num, rfl, Lib.hid (by rw [nopen_more, HX.out]), Lib.hid HP.out.more, Lib.hid (fun _ => by rw [preN_at (b := false) HLN.out, HP.out.2]), HLr⟩
            case measure => simp [intOf]; omega
          · have hlj' : (8 : Int) < (len1 : Int) := by omega
            rcases HB.out.below HLr.out.bel with h0 | ⟨g, off, rfl, hg, hc⟩
            · omega
            obtain ⟨b, hcc⟩ := hc 8 hlj
            clear hc
            cases b with
            | false =>
              go_wp2_with fail
              go_roundw
              case rel => exact ⟨9, _, l ++ [false], x + 1, _, by omega, Lib.hid (by rw [List.length_append, HLN.out]; rfl), by go_num, rfl, by go_num, rfl, Lib.hid (by rw [nopen_more, HX.out]), Lib.hid HP.out.more, Lib.hid (fun _ => by rw [preN_at (b := false) HLN.out, HP.out.2]), HLr⟩
              case measure => simp [intOf]; omega
            | true =>
              go_wp2_with fail
              go_roundw
              case rel => exact ⟨9, _, l ++ [true], x, _, by omega, Lib.hid (by rw [List.length_append, HLN.out]; rfl), by go_num, rfl, by go_num, rfl, Lib.hid (by rw [nopen_shut, HX.out]), Lib.hid HP.out.shut, Lib.hid (fun _ => by rw [preN_at (b := true) HLN.out, HP.out.2]), HLr⟩
              case measure => simp [intOf]; omega
        · have hj8' : ¬ (j : Int) = 8 := by omega
          rcases (show len1 ≤ j ∨ j < len1 by omega) with hlj | hlj
          · have hlj' : ¬ (j : Int) < (len1 : Int) := by omega
            go_wp2_with fail
            go_roundw
            case rel => exact ⟨j + 1, _, l ++ [false], x + 1, _, by omega, Lib.hid (by rw [List.length_append, HLN.out]; rfl), by go_num, rfl, by go_num, rfl, Lib.hid (by rw [nopen_more, HX.out]), Lib.hid HP.out.more, Lib.hid (fun h8 => by rw [preN_on (b := false) (by have h3 := HLN.out; omega)]; exact HQ.out (by omega)), HLr⟩
            case measure => simp [intOf]; omega
          · have hlj' : (j : Int) < (len1 : Int) := by omega
            rcases HB.out.below HLr.out.bel with h0 | ⟨g, off, rfl, hg, hc⟩
            · omega
            obtain ⟨b, hcc⟩ := hc j hlj
            clear hc
            cases b with
            | false =>
              go_wp2_with fail
              go_roundw
              case rel => exact ⟨j + 1, _, l ++ [false], x + 1, _, by omega, Lib.hid (by rw [List.length_append, HLN.out]; rfl), by go_num, rfl, by go_num, rfl, Lib.hid (by rw [nopen_more, HX.out]), Lib.hid HP.out.more, Lib.hid (fun h8 => by rw [preN_on (b := false) (by have h3 := HLN.out; omega)]; exact HQ.out (by omega)), HLr⟩
              case measure => simp [intOf]; omega
            | true =>
              go_wp2_with fail
              go_roundw
              case rel => exact ⟨j + 1, _, l ++ [true], x, _, by omega, Lib.hid (by rw [List.length_append, HLN.out]; rfl), by go_num, rfl, by go_num, rfl, Lib.hid (by rw [nopen_shut, HX.out]), Lib.hid HP.out.shut, Lib.hid (fun h8 => by rw [preN_on (b := true) (by have h3 := HLN.out; omega)]; exact HQ.out (by omega)), HLr⟩
              case measure => simp [intOf]; omega
      · have hlt' : ¬ ((j : Int) < (n : Int)) := by omega
        have hjn := Lib.hid (show j = n by omega)
        go_wp2_with fail
        go_meet
        case rel => exact ⟨t, l, x, q, by rw [HLN.out]; exact hjn.out, rfl, rfl, rfl, HX.out, HP.out, fun h => HQ.out (by rw [hjn.out]; exact h), HLr.out⟩
  case rest =>
    obtain ⟨t, l, x, q, hln, rfl, rfl, rfl, hx, hgt, hq, hlr⟩ := hcut
    have HX := Lib.hid hx
    have HG := Lib.hid hgt
    have HQ := Lib.hid hq
    have HLN := Lib.hid hln
    have HL0 := Lib.hid hlr
    have hx9 : x ≤ 11 := by have h2 := nopen_le l; omega
    have ht : t.size ≤ 33 := by have h1 := hgt.2; have h2 := gpre_len l; omega
    clear hx hgt hq hln hlr
    go_upto_block 2 with fail
    have HLL := HL0
    clear HL0
    go_cut [7] from 48 to 54 (fun s wx => ∃ t', s = .string t' ∧ TxtIs (Sx.gpre l ++ List.replicate x 41) (33 + x) t' ∧ Lw w.heap.size w wx)
    case first =>
      go_wp2_with fail
      go_loopw [7, 11] (fun s i wr => ∃ (j : Nat) (t' : ByteArray), j ≤ x ∧ i = .int .i64 (j : Int) ∧ s = .string t' ∧ Hid (TxtIs (Sx.gpre l ++ List.replicate j 41) (33 + j) t') ∧ Hid (Lw w.heap.size w wr)) (fun _ i _ => x - (intOf i).toNat)
      case atStart => exact ⟨0, _, by omega, rfl, rfl, Lib.hid ⟨by rw [HG.out.1]; simp, by omega⟩, HLL⟩
      case round =>
        obtain ⟨j, t', hj, rfl, rfl, HP, HLr⟩ := hrel
        have ht' := HP.out.2
        by_cases hlt : j < x
        · have hlt' : (j : Int) < (x : Int) := by omega
          go_wp2_with fail
          go_roundw
          case rel => exact ⟨j + 1, _, by omega, by go_num, rfl, Lib.hid ((HP.out.app (q := ⟨#[41]⟩) (us := [41]) (c := 1) (by decide +kernel) (by decide) (by rw [List.replicate_succ', List.append_assoc])).le (by omega)), HLr⟩
          case measure => simp [intOf]; omega
        · have hlt' : ¬ ((j : Int) < (x : Int)) := by omega
          have hjx := Lib.hid (show j = x by omega)
          go_wp2_with fail
          go_meet
          case rel => exact ⟨t', rfl, by rw [← hjx.out]; exact HP.out, HLr.out⟩
    case rest =>
      obtain ⟨s, rfl, hs0, hlr⟩ := hcut
      rw [HX.out, ← Sx.gtext_pre] at hs0
      have hsz : s.size ≤ 200 := by have h1 := hs0.2; have h2 := nopen_le l; have h3 := HLN.out; omega
      have HS := Lib.hid hs0.1
      have HL0 := Lib.hid hlr
      clear hs0 hlr
      by_cases h8 : 8 < n
      · obtain rfl := HQ.out h8
        have HPN := Lib.hid (gr_bad HS.out hsz (by rw [HLN.out]; exact h8))
        generalize Sx.preN 8 l = pl at *
        have h8i : (n : Int) > 8 := by omega
        have h8j : (8 : Int) < (n : Int) := by omega
        go_wp2_with fail
        refine (pk_any _ HPN.out HL0.out (by omega)).mono ?_
        rintro e w1 ⟨kN, kaN, kiN, kjN, mnN, mxN, lzN, gN, kbN, ksN, ktN, rfl, hn, hb1⟩
        have HL1 := Lib.hid (HL0.out.on hb1)
        clear hb1
        go_wp2_with fail
        have HN := Lib.hid (NBx.new hn)
        have hbv := below_new w1 (nc kN kaN kiN kjN mnN mxN lzN gN kbN ksN ktN)
        have HL2 := Lib.hid (HL1.out.on hbv)
        clear HL1
        clear hn hbv
        generalize w1.alloc (nc kN kaN kiN kjN mnN mxN lzN gN kbN ksN ktN) = v1 at *
        generalize w1.heap.size = bN at *
        go_ret
        exact ⟨rfl, HL2.out.bel⟩
      · obtain ⟨N, hp, hgn, hgl⟩ := gr_ok HS.out hsz (by rw [HLN.out]; omega)
        rw [HLN.out] at hgn hgl
        have HPN := Lib.hid hp
        have HGN := Lib.hid hgn
        have HGL := Lib.hid hgl
        clear hp hgn hgl
        have h8i : ¬ (n : Int) > 8 := by omega
        have h8j : ¬ (8 : Int) < (n : Int) := by omega
        go_wp2_with fail
        refine (pk_any _ HPN.out HL0.out (by omega)).mono ?_
        rintro e w1 ⟨kN, kaN, kiN, kjN, mnN, mxN, lzN, gN, kbN, ksN, ktN, rfl, hn, hb1⟩
        have HL1 := Lib.hid (HL0.out.on hb1)
        clear hb1
        go_wp2_with fail
        have HN := Lib.hid (NBx.new hn)
        have hbv := below_new w1 (nc kN kaN kiN kjN mnN mxN lzN gN kbN ksN ktN)
        have HL2 := Lib.hid (HL1.out.on hbv)
        clear HL1
        clear hn hbv
        generalize w1.alloc (nc kN kaN kiN kjN mnN mxN lzN gN kbN ksN ktN) = v1 at *
        generalize w1.heap.size = bN at *
        obtain ⟨cN0, cN1, cN2, cN3, cN4, cN5, cN6⟩ := HN.out.cells
        go_wp2_with fail
        refine (groups_at _ HN.out.nd HGN.out).mono ?_
        rintro e w3 ⟨rfl, hb3⟩
        clear cN0 cN1 cN2 cN3 cN4 cN5 cN6
        have HL3 := Lib.hid (HL2.out.on hb3)
        clear HL2
        replace HN := Lib.hid (HN.out.below hb3)
        clear hb3
        obtain ⟨cN0, cN1, cN2, cN3, cN4, cN5, cN6⟩ := HN.out.cells
        go_wp2_with fail
        refine (ordered_any _ _ _ n HN.out.nd HGL.out (by omega)).mono ?_
        rintro e w4 ⟨rfl, hb4⟩
        clear cN0 cN1 cN2 cN3 cN4 cN5 cN6
        have HL4 := Lib.hid (HL3.out.on hb4)
        clear HL3
        replace HN := Lib.hid (HN.out.below hb4)
        clear hb4
        go_wp2_with fail
        go_ret
        exact ⟨rfl, HL4.out.bel⟩
end Go.Proofs.YtfibhhegfhikmaaGreatDoor
