import Derived.Test.YtdoapojmenojoaaGreatDoorJPLF
import Derived.Test.YtdoapojmenojoaaGreatDoorJSimM
import Derived.Test.YtdoapojmenojoaaGreatDoorJSynM12
set_option linter.unusedSimpArgs false
set_option linter.unusedVariables false
/- SimpleSame: the walk. -/
set_option linter.unusedVariables false
namespace Go.Proofs.YtdoapojmenojoaaGreatDoor
open Go.RowKit
open Sx (Nd)

theorem ptext_ok (i : Nat) : Sx.OkT (Sx.ptext i) ∧ (∀ x ∈ Sx.ptext i, x ≤ 12288) ∧ (Sx.ptext i).length ≤ 8 := by
  unfold Sx.ptext
  split <;> exact ⟨by unfold Sx.OkT; decide +kernel, by decide, by decide⟩
theorem ptexts_ok : ∀ ks : List Nat, Sx.OkT (ks.flatMap Sx.ptext) ∧ (∀ x ∈ ks.flatMap Sx.ptext, x ≤ 12288) ∧ (ks.flatMap Sx.ptext).length ≤ 8 * ks.length
  | [] => ⟨Sx.OkT.nil, (fun x h => by cases h), by simp⟩
  | i :: ks => by
    obtain ⟨h1, h2, h3⟩ := ptexts_ok ks
    obtain ⟨g1, g2, g3⟩ := ptext_ok i
    rw [List.flatMap_cons]
    exact ⟨g1.app h1, (fun x hx => (List.mem_append.1 hx).elim (g2 x) (h2 x)), by rw [List.length_append, List.length_cons]; omega⟩
theorem plain_text {ks : List Nat} {t : ByteArray} {b : Nat} (h : TxtIs (ks.flatMap Sx.ptext) b t) (hb : b ≤ 200) (hk : ks.length ≤ 12) : ∃ N, Sx.Parsed t N t.size 0 ∧ OfIs N N 0 ∧ Sx.right N ∧ Sx.isUn N ∧ nsz N ≤ 400 := by
  obtain ⟨h1, h2, h3⟩ := ptexts_ok ks
  obtain ⟨N, he, hu⟩ := Sx.plain_expr ks 0 [] [] (by rw [Sx.isUnL]; trivial) (by rw [Sx.isUnL]; trivial)
  have htk := (Sx.backT h1 h.1).2.2
  have hF := Sx.parsed_form he (fun x hx => by have := h2 x hx; omega)
  have hz := Sx.parsed_size he
  have hgd : Sx.Gd N := ⟨Sx.form_right hF (by decide), hu, Sx.form_nm hF⟩
  have hs : nsz N ≤ 400 := by omega
  refine ⟨N, .ok N 0 (by have := h.2; omega) (by rw [htk]; exact he), .inl ⟨hgd.right, Sx.un_id hgd hs, rfl⟩, hgd.right, hu, hs⟩
set_option maxRecDepth 20000 in
set_option maxHeartbeats 4000000 in
theorem law_SimpleSame (a0 : Option Addr) (len0 cap0 : Nat) (l0 : List UInt8) (w : World) (hT : Errs w.heap.size w) (hb0 : BArg w a0 len0 cap0 l0) : Calls Tryz.prog 10 #[.slice a0 len0 cap0] w fun e w' => e = .returned (.bool true) ∧ Below w.heap.size w w' := by
  have HB0 := Lib.hid (bcells_of hb0)
  have hl0 := (barg_len hb0).1
  clear hb0
  have HL0 := Lib.hid (show Lw w.heap.size w w from ⟨hT, Nat.le_refl _, Below.refl _ _⟩)
  clear hT
  go_enter Tryz.func10, Tryz.ntmps10
  go_wp2_with fail
  refine (sexamples_any _ HL0.out).mono ?_
  rintro e w1 ⟨rfl, hb1⟩
  have HL1 := Lib.hid (HL0.out.on hb1)
  clear hb1
  go_upto_block 0 with fail
  have HLL := HL1
  clear HL1
  go_cut [4] from 14 to 33 (fun s wx => ∃ (t : ByteArray) (ks : List Nat), s = .string t ∧ ks.length ≤ 12 ∧ TxtIs (ks.flatMap Sx.ptext) (8 * ks.length) t ∧ Lw w.heap.size w wx)
  case first =>
    go_wp2_with fail
    go_loopw [4, 5] (fun s i wr => ∃ (k : Nat) (t : ByteArray) (ks : List Nat), k ≤ len0 ∧ k ≤ 12 ∧ i = .int .i64 (k : Int) ∧ s = .string t ∧ Hid (ks.length = k) ∧ Hid (TxtIs (ks.flatMap Sx.ptext) (8 * k) t) ∧ Hid (Lw w.heap.size w wr)) (fun _ i _ => len0 - (intOf i).toNat)
    case atStart => exact ⟨0, ⟨#[]⟩, [], by omega, by omega, rfl, rfl, Lib.hid rfl, Lib.hid TxtIs.nil, HLL⟩
    case round =>
      obtain ⟨k, t, ks, hk, hk2, rfl, rfl, HKL, HP, HLr⟩ := hrel
      have ht := HP.out.2
      by_cases hlt : k < len0 ∧ k < 12
      · obtain ⟨h1, h2⟩ := hlt
        rcases HB0.out.below HLr.out.bel with h0 | ⟨g, off, rfl, hg, hc⟩
        · omega
        obtain ⟨c, c0, c1, hcc⟩ := hc k h1
        have hkl : (k : Int) < (len0 : Int) := by omega
        have hk14 : (k : Int) < 12 := by omega
        clear hc
        rcases (show c % 8 = 0 ∨ c % 8 = 1 ∨ c % 8 = 2 ∨ c % 8 = 3 ∨ c % 8 = 4 ∨ c % 8 = 5 ∨ c % 8 = 6 ∨ c % 8 = 7 by omega) with hm | hm | hm | hm | hm | hm | hm | hm
        · go_wp2_with fail
          go_roundw
          case rel => exact ⟨k + 1, _, ks ++ [0], by omega, by omega, by go_num, rfl, Lib.hid (by rw [List.length_append, HKL.out]; rfl), Lib.hid ((HP.out.app (q := ⟨#[97]⟩) (us := Sx.ptext 0) (c := 8) (by decide +kernel) (by decide) (by rw [List.flatMap_append, List.flatMap_cons, List.flatMap_nil, List.append_nil])).le (by omega)), Lib.hid (HLr.out.on (below_new _ _))⟩
          case measure => simp [intOf]; omega
        · go_wp2_with fail
          go_roundw
          case rel => exact ⟨k + 1, _, ks ++ [1], by omega, by omega, by go_num, rfl, Lib.hid (by rw [List.length_append, HKL.out]; rfl), Lib.hid ((HP.out.app (q := ⟨#[98, 42]⟩) (us := Sx.ptext 1) (c := 8) (by decide +kernel) (by decide) (by rw [List.flatMap_append, List.flatMap_cons, List.flatMap_nil, List.append_nil])).le (by omega)), Lib.hid (HLr.out.on (below_new _ _))⟩
          case measure => simp [intOf]; omega
        · go_wp2_with fail
          go_roundw
          case rel => exact ⟨k + 1, _, ks ++ [2], by omega, by omega, by go_num, rfl, Lib.hid (by rw [List.length_append, HKL.out]; rfl), Lib.hid ((HP.out.app (q := ⟨#[40, 63, 58, 97, 98, 41, 43, 63]⟩) (us := Sx.ptext 2) (c := 8) (by decide +kernel) (by decide) (by rw [List.flatMap_append, List.flatMap_cons, List.flatMap_nil, List.append_nil])).le (by omega)), Lib.hid (HLr.out.on (below_new _ _))⟩
          case measure => simp [intOf]; omega
        · go_wp2_with fail
          go_roundw
          case rel => exact ⟨k + 1, _, ks ++ [3], by omega, by omega, by go_num, rfl, Lib.hid (by rw [List.length_append, HKL.out]; rfl), Lib.hid ((HP.out.app (q := ⟨#[99, 63]⟩) (us := Sx.ptext 3) (c := 8) (by decide +kernel) (by decide) (by rw [List.flatMap_append, List.flatMap_cons, List.flatMap_nil, List.append_nil])).le (by omega)), Lib.hid (HLr.out.on (below_new _ _))⟩
          case measure => simp [intOf]; omega
        · go_wp2_with fail
          go_roundw
          case rel => exact ⟨k + 1, _, ks ++ [4], by omega, by omega, by go_num, rfl, Lib.hid (by rw [List.length_append, HKL.out]; rfl), Lib.hid ((HP.out.app (q := ⟨#[91, 94, 97, 93]⟩) (us := Sx.ptext 4) (c := 8) (by decide +kernel) (by decide) (by rw [List.flatMap_append, List.flatMap_cons, List.flatMap_nil, List.append_nil])).le (by omega)), Lib.hid (HLr.out.on (below_new _ _))⟩
          case measure => simp [intOf]; omega
        · go_wp2_with fail
          go_roundw
          case rel => exact ⟨k + 1, _, ks ++ [5], by omega, by omega, by go_num, rfl, Lib.hid (by rw [List.length_append, HKL.out]; rfl), Lib.hid ((HP.out.app (q := ⟨#[97, 124, 98]⟩) (us := Sx.ptext 5) (c := 8) (by decide +kernel) (by decide) (by rw [List.flatMap_append, List.flatMap_cons, List.flatMap_nil, List.append_nil])).le (by omega)), Lib.hid (HLr.out.on (below_new _ _))⟩
          case measure => simp [intOf]; omega
        · go_wp2_with fail
          go_roundw
          case rel => exact ⟨k + 1, _, ks ++ [6], by omega, by omega, by go_num, rfl, Lib.hid (by rw [List.length_append, HKL.out]; rfl), Lib.hid ((HP.out.app (q := ⟨#[94]⟩) (us := Sx.ptext 6) (c := 8) (by decide +kernel) (by decide) (by rw [List.flatMap_append, List.flatMap_cons, List.flatMap_nil, List.append_nil])).le (by omega)), Lib.hid (HLr.out.on (below_new _ _))⟩
          case measure => simp [intOf]; omega
        · go_wp2_with fail
          go_roundw
          case rel => exact ⟨k + 1, _, ks ++ [7], by omega, by omega, by go_num, rfl, Lib.hid (by rw [List.length_append, HKL.out]; rfl), Lib.hid ((HP.out.app (q := ⟨#[92, 98]⟩) (us := Sx.ptext 7) (c := 8) (by decide +kernel) (by decide) (by rw [List.flatMap_append, List.flatMap_cons, List.flatMap_nil, List.append_nil])).le (by omega)), Lib.hid (HLr.out.on (below_new _ _))⟩
          case measure => simp [intOf]; omega
      · rcases (show len0 ≤ k ∨ (k < len0 ∧ 12 ≤ k) by omega) with h1 | ⟨h1, h2⟩
        all_goals
          first
            | have hkl : ¬ ((k : Int) < (len0 : Int)) := by omega
            | (have hkl : (k : Int) < (len0 : Int) := by omega
               have hk14 : ¬ ((k : Int) < 12) := by omega)
          go_wp2_with fail
          go_meet
          case rel => exact ⟨t, ks, rfl, by rw [HKL.out]; exact hk2, by rw [HKL.out]; exact HP.out, HLr.out⟩
  case rest =>
    obtain ⟨t, ks, rfl, hk12, htx, hlr⟩ := hcut
    have HL0 := Lib.hid hlr
    obtain ⟨N, hp, hof, hri, hun, hs4⟩ := plain_text htx (by omega) hk12
    have htz := htx.2
    have HPN := Lib.hid hp
    have HOF := Lib.hid hof
    have HRI := Lib.hid hri
    have HUN := Lib.hid hun
    clear htx hlr hp hof hri hun
    go_wp2_with fail
    refine (pk_any _ HPN.out HL0.out (by omega)).mono ?_
    rintro e w1 ⟨kN, kaN, kiN, kjN, mnN, mxN, lzN, gN, kbN, ksN, ktN, rfl, hn, hb1⟩
    have HL1 := Lib.hid (HL0.out.on hb1)
    clear hb1
    go_wp2_with fail
    have HN := Lib.hid (NBx.new hn)
    have hbv := below_new w1 (nc kN kaN kiN kjN mnN mxN lzN gN kbN ksN ktN)
    have HL2 := Lib.hid (HL1.out.on hbv)
    clear HL1
    clear hn hbv
    generalize w1.alloc (nc kN kaN kiN kjN mnN mxN lzN gN kbN ksN ktN) = v1 at *
    generalize w1.heap.size = bN at *
    refine (po_any _ HN.out.nd HOF.out (by omega)).mono ?_
    rintro e w3 ⟨kM, kaM, kiM, kjM, mnM, mxM, lzM, gM, kbM, ksM, ktM, rfl, hn, hb3⟩
    have HL3 := Lib.hid (HL2.out.on hb3)
    clear HL2
    replace HN := Lib.hid (HN.out.below hb3)
    clear hb3
    obtain ⟨cN0, cN1, cN2, cN3, cN4, cN5, cN6⟩ := HN.out.cells
    have qN : ¬ bN = w3.heap.size := Nat.ne_of_lt HN.out.lt
    have rN := HN.out.lt
    go_wp2_with fail
    clear cN0 cN1 cN2 cN3 cN4 cN5 cN6
    clear qN rN
    have HM := Lib.hid (NBx.new hn)
    have hbv := below_new w3 (nc kM kaM kiM kjM mnM mxM lzM gM kbM ksM ktM)
    have HL4 := Lib.hid (HL3.out.on hbv)
    clear HL3
    replace HN := Lib.hid (HN.out.below hbv)
    clear hn hbv
    generalize w3.alloc (nc kM kaM kiM kjM mnM mxM lzM gM kbM ksM ktM) = v3 at *
    generalize w3.heap.size = bM at *
    obtain ⟨cN0, cN1, cN2, cN3, cN4, cN5, cN6⟩ := HN.out.cells
    obtain ⟨cM0, cM1, cM2, cM3, cM4, cM5, cM6⟩ := HM.out.cells
    refine (is_at true _ HN.out.nd ⟨fun _ => ⟨HRI.out, HUN.out⟩, fun _ => rfl⟩).mono ?_
    rintro e w5 ⟨rfl, hb5⟩
    clear cM0 cM1 cM2 cM3 cM4 cM5 cM6 cN0 cN1 cN2 cN3 cN4 cN5 cN6
    have HL5 := Lib.hid (HL4.out.on hb5)
    clear HL4
    replace HN := Lib.hid (HN.out.below hb5)
    replace HM := Lib.hid (HM.out.below hb5)
    clear hb5
    obtain ⟨cN0, cN1, cN2, cN3, cN4, cN5, cN6⟩ := HN.out.cells
    obtain ⟨cM0, cM1, cM2, cM3, cM4, cM5, cM6⟩ := HM.out.cells
    go_wp2_with fail
    refine (psame_any N N _ _ true _ HN.out.nd HM.out.nd ⟨fun _ => rfl, fun _ => rfl⟩).mono ?_
    rintro e w6 ⟨rfl, hb6⟩
    clear cM0 cM1 cM2 cM3 cM4 cM5 cM6 cN0 cN1 cN2 cN3 cN4 cN5 cN6
    have HL6 := Lib.hid (HL5.out.on hb6)
    clear HL5
    replace HN := Lib.hid (HN.out.below hb6)
    replace HM := Lib.hid (HM.out.below hb6)
    clear hb6
    go_wp2_with fail
    go_ret
    exact ⟨rfl, HL6.out.bel⟩
end Go.Proofs.YtdoapojmenojoaaGreatDoor
