import Derived.Test.YtfibhhegfhikmaaGreatDoorJPLLet
set_option linter.unusedSimpArgs false
set_option linter.unusedVariables false
/- SyntaxWrong: the walk. -/
set_option linter.unusedVariables false
namespace Go.Proofs.YtfibhhegfhikmaaGreatDoor
open Go.RowKit
open Sx (Nd)

set_option maxRecDepth 20000 in
set_option maxHeartbeats 8000000 in
theorem law_SyntaxWrong (a0 : Option Addr) (len0 cap0 : Nat) (l0 : List UInt8) (a1 : Int) (w : World) (hT : Errs w.heap.size w) (hb0 : BArg w a0 len0 cap0 l0) (ha0 : 0 ≤ a1) (ha1 : a1 ≤ 255) : Calls Tryz.prog 7 #[.slice a0 len0 cap0, .int .u8 a1] w fun e w' => e = .returned (.bool true) ∧ Below w.heap.size w w' := by
  have HB0 := Lib.hid (bcells_of hb0)
  have hl0 := (barg_len hb0).1
  clear hb0
  have HL0 := Lib.hid (show Lw w.heap.size w w from ⟨hT, Nat.le_refl _, Below.refl _ _⟩)
  clear hT
  go_enter Tryz.func7, Tryz.ntmps7
  go_wp2_with fail
  refine (examples_any _ HL0.out).mono ?_
  rintro e w1 ⟨rfl, hb1⟩
  have HL1 := Lib.hid (HL0.out.on hb1)
  clear hb1
  go_upto_block 0 with fail
  have HLL := HL1
  clear HL1
  go_cut [6] from 17 to 36 (fun s wx => Lets 20 len0 w.heap.size w s wx)
  case first =>
    go_wp2_with fail
    go_loopw [6, 7] (fun s i wr => ∃ (k : Nat) (t : ByteArray) (ws : List Int), k ≤ len0 ∧ k ≤ 20 ∧ i = .int .i64 (k : Int) ∧ s = .string t ∧ Hid (LetText k ws t) ∧ Hid (Lw w.heap.size w wr)) (fun _ i _ => len0 - (intOf i).toNat)
    case atStart => exact ⟨0, ⟨#[]⟩, [], by omega, by omega, rfl, rfl, Lib.hid LetText.nil, HLL⟩
    case round =>
      obtain ⟨k, t, ws, hk, hk2, rfl, rfl, HP, HLr⟩ := hrel
      have ht := HP.out.2.2.2.2.2
      by_cases hlt : k < len0 ∧ k < 20
      · obtain ⟨h1, h2⟩ := hlt
        rcases HB0.out.below HLr.out.bel with h0 | ⟨g, off, rfl, hg, hc⟩
        · omega
        obtain ⟨c, c0, c1, hcc⟩ := hc k h1
        have hkl : (k : Int) < (len0 : Int) := by omega
        have hk14 : (k : Int) < 20 := by omega
        clear hc
        rcases (show c % 4 = 0 ∨ c % 4 = 1 ∨ c % 4 = 2 ∨ c % 4 = 3 by omega) with hm | hm | hm | hm
        · go_wp2_with fail
          go_roundw
          case rel => exact ⟨k + 1, _, _, by omega, by omega, by go_num, rfl, Lib.hid (HP.out.more (q := ⟨#[97]⟩) 97 (by decide +kernel) (by decide +kernel) (by decide +kernel) (by decide) (by decide)), Lib.hid (HLr.out.on (below_new _ _))⟩
          case measure => simp [intOf]; omega
        · go_wp2_with fail
          go_roundw
          case rel => exact ⟨k + 1, _, _, by omega, by omega, by go_num, rfl, Lib.hid (HP.out.more (q := ⟨#[98]⟩) 98 (by decide +kernel) (by decide +kernel) (by decide +kernel) (by decide) (by decide)), Lib.hid (HLr.out.on (below_new _ _))⟩
          case measure => simp [intOf]; omega
        · go_wp2_with fail
          go_roundw
          case rel => exact ⟨k + 1, _, _, by omega, by omega, by go_num, rfl, Lib.hid (HP.out.more (q := ⟨#[195, 169]⟩) 233 (by decide +kernel) (by decide +kernel) (by decide +kernel) (by decide) (by decide)), Lib.hid (HLr.out.on (below_new _ _))⟩
          case measure => simp [intOf]; omega
        · go_wp2_with fail
          go_roundw
          case rel => exact ⟨k + 1, _, _, by omega, by omega, by go_num, rfl, Lib.hid (HP.out.more (q := ⟨#[55]⟩) 55 (by decide +kernel) (by decide +kernel) (by decide +kernel) (by decide) (by decide)), Lib.hid (HLr.out.on (below_new _ _))⟩
          case measure => simp [intOf]; omega
      · rcases (show len0 ≤ k ∨ (k < len0 ∧ 20 ≤ k) by omega) with h1 | ⟨h1, h2⟩
        all_goals
          go_wp2_with fail
          go_meet
          case rel => exact ⟨k, t, ws, by omega, rfl, HP.out, HLr.out⟩
  case rest =>
    obtain ⟨k, t, ws, hk, rfl, ht, hlr⟩ := hcut
    have HP := Lib.hid ht
    have HL0 := Lib.hid hlr
    have htz := ht.2.2.2.2.2
    clear ht hlr
    have hk20 : k ≤ 20 := by omega
    clear hk
    rcases (show a1 % 20 = 0 ∨ a1 % 20 = 1 ∨ a1 % 20 = 2 ∨ a1 % 20 = 3 ∨ a1 % 20 = 4 ∨ a1 % 20 = 5 ∨ a1 % 20 = 6 ∨ a1 % 20 = 7 ∨ a1 % 20 = 8 ∨ a1 % 20 = 9 ∨ a1 % 20 = 10 ∨ a1 % 20 = 11 ∨ a1 % 20 = 12 ∨ a1 % 20 = 13 ∨ a1 % 20 = 14 ∨ a1 % 20 = 15 ∨ a1 % 20 = 16 ∨ a1 % 20 = 17 ∨ a1 % 20 = 18 ∨ a1 % 20 = 19 by omega) with hm | hm | hm | hm | hm | hm | hm | hm | hm | hm | hm | hm | hm | hm | hm | hm | hm | hm | hm | hm
    · go_wp2_with fail
      refine (pk_any _ (wrong_text (a := (t.size : Int)) (x := ([41], 1)) (q := ⟨#[41]⟩) HP.out hk20 (by decide) (by decide +kernel) (by decide) (by simp)) ((HL0.out.on (below_new _ _)).on (below_new _ _)) (by rw [ByteArray.size_append]; have : (⟨#[41]⟩ : ByteArray).size ≤ 7 := (by decide); omega)).mono ?_
      rintro e w1 ⟨kN, kaN, kiN, kjN, mnN, mxN, lzN, gN, kbN, ksN, ktN, rfl, hn, hb1⟩
      have HL1 := Lib.hid (((HL0.out.on (below_new _ _)).on (below_new _ _)).on hb1)
      have ct : w1.cell? ⟨wc.heap.size + 1, 0, none⟩ = some (.int .i64 0) := (hb1.cell (p := ⟨wc.heap.size + 1, 0, none⟩) (by simp)).trans (by rw [World.cell?_alloc_at _ _ _ _ (by simp)]; rfl)
      have cr : wc.heap.size + 1 < w1.heap.size := by have := hb1.size; simp at this; omega
      have cq := Nat.ne_of_lt cr
      clear HL0 hb1
      go_wp2_with fail
      have HN := Lib.hid (NBx.new hn)
      have hbv := below_new w1 (nc kN kaN kiN kjN mnN mxN lzN gN kbN ksN ktN)
      have HL2 := Lib.hid (HL1.out.on hbv)
      clear HL1
      clear hn hbv
      generalize w1.alloc (nc kN kaN kiN kjN mnN mxN lzN gN kbN ksN ktN) = v1 at *
      generalize w1.heap.size = bN at *
      go_ret
      exact ⟨rfl, HL2.out.bel⟩
    · go_wp2_with fail
      refine (pk_any _ (wrong_text (a := (t.size : Int)) (x := ([93], 1)) (q := ⟨#[93]⟩) HP.out hk20 (by decide) (by decide +kernel) (by decide) (by simp)) ((HL0.out.on (below_new _ _)).on (below_new _ _)) (by rw [ByteArray.size_append]; have : (⟨#[93]⟩ : ByteArray).size ≤ 7 := (by decide); omega)).mono ?_
      rintro e w1 ⟨kN, kaN, kiN, kjN, mnN, mxN, lzN, gN, kbN, ksN, ktN, rfl, hn, hb1⟩
      have HL1 := Lib.hid (((HL0.out.on (below_new _ _)).on (below_new _ _)).on hb1)
      have ct : w1.cell? ⟨wc.heap.size + 1, 1, none⟩ = some (.int .i64 0) := (hb1.cell (p := ⟨wc.heap.size + 1, 1, none⟩) (by simp)).trans (by rw [World.cell?_alloc_at _ _ _ _ (by simp)]; rfl)
      have cr : wc.heap.size + 1 < w1.heap.size := by have := hb1.size; simp at this; omega
      have cq := Nat.ne_of_lt cr
      clear HL0 hb1
      go_wp2_with fail
      have HN := Lib.hid (NBx.new hn)
      have hbv := below_new w1 (nc kN kaN kiN kjN mnN mxN lzN gN kbN ksN ktN)
      have HL2 := Lib.hid (HL1.out.on hbv)
      clear HL1
      clear hn hbv
      generalize w1.alloc (nc kN kaN kiN kjN mnN mxN lzN gN kbN ksN ktN) = v1 at *
      generalize w1.heap.size = bN at *
      go_ret
      exact ⟨rfl, HL2.out.bel⟩
    · go_wp2_with fail
      refine (pk_any _ (wrong_text (a := (t.size : Int)) (x := ([125], 1)) (q := ⟨#[125]⟩) HP.out hk20 (by decide) (by decide +kernel) (by decide) (by simp)) ((HL0.out.on (below_new _ _)).on (below_new _ _)) (by rw [ByteArray.size_append]; have : (⟨#[125]⟩ : ByteArray).size ≤ 7 := (by decide); omega)).mono ?_
      rintro e w1 ⟨kN, kaN, kiN, kjN, mnN, mxN, lzN, gN, kbN, ksN, ktN, rfl, hn, hb1⟩
      have HL1 := Lib.hid (((HL0.out.on (below_new _ _)).on (below_new _ _)).on hb1)
      have ct : w1.cell? ⟨wc.heap.size + 1, 2, none⟩ = some (.int .i64 0) := (hb1.cell (p := ⟨wc.heap.size + 1, 2, none⟩) (by simp)).trans (by rw [World.cell?_alloc_at _ _ _ _ (by simp)]; rfl)
      have cr : wc.heap.size + 1 < w1.heap.size := by have := hb1.size; simp at this; omega
      have cq := Nat.ne_of_lt cr
      clear HL0 hb1
      go_wp2_with fail
      have HN := Lib.hid (NBx.new hn)
      have hbv := below_new w1 (nc kN kaN kiN kjN mnN mxN lzN gN kbN ksN ktN)
      have HL2 := Lib.hid (HL1.out.on hbv)
      clear HL1
      clear hn hbv
      generalize w1.alloc (nc kN kaN kiN kjN mnN mxN lzN gN kbN ksN ktN) = v1 at *
      generalize w1.heap.size = bN at *
      go_ret
      exact ⟨rfl, HL2.out.bel⟩
    · go_wp2_with fail
      refine (pk_any _ (wrong_text (a := (t.size : Int) + 1) (x := ([124, 42], 1)) (q := ⟨#[124, 42]⟩) HP.out hk20 (by decide) (by decide +kernel) (by decide) (by rfl)) ((HL0.out.on (below_new _ _)).on (below_new _ _)) (by rw [ByteArray.size_append]; have : (⟨#[124, 42]⟩ : ByteArray).size ≤ 7 := (by decide); omega)).mono ?_
      rintro e w1 ⟨kN, kaN, kiN, kjN, mnN, mxN, lzN, gN, kbN, ksN, ktN, rfl, hn, hb1⟩
      have HL1 := Lib.hid (((HL0.out.on (below_new _ _)).on (below_new _ _)).on hb1)
      have ct : w1.cell? ⟨wc.heap.size + 1, 3, none⟩ = some (.int .i64 1) := (hb1.cell (p := ⟨wc.heap.size + 1, 3, none⟩) (by simp)).trans (by rw [World.cell?_alloc_at _ _ _ _ (by simp)]; rfl)
      have cr : wc.heap.size + 1 < w1.heap.size := by have := hb1.size; simp at this; omega
      have cq := Nat.ne_of_lt cr
      clear HL0 hb1
      go_wp2_with fail
      have HN := Lib.hid (NBx.new hn)
      have hbv := below_new w1 (nc kN kaN kiN kjN mnN mxN lzN gN kbN ksN ktN)
      have HL2 := Lib.hid (HL1.out.on hbv)
      clear HL1
      clear hn hbv
      generalize w1.alloc (nc kN kaN kiN kjN mnN mxN lzN gN kbN ksN ktN) = v1 at *
      generalize w1.heap.size = bN at *
      go_ret
      exact ⟨rfl, HL2.out.bel⟩
    · go_wp2_with fail
      refine (pk_any _ (wrong_text (a := (t.size : Int)) (x := ([91], 1)) (q := ⟨#[91]⟩) HP.out hk20 (by decide) (by decide +kernel) (by decide) (by simp)) ((HL0.out.on (below_new _ _)).on (below_new _ _)) (by rw [ByteArray.size_append]; have : (⟨#[91]⟩ : ByteArray).size ≤ 7 := (by decide); omega)).mono ?_
      rintro e w1 ⟨kN, kaN, kiN, kjN, mnN, mxN, lzN, gN, kbN, ksN, ktN, rfl, hn, hb1⟩
      have HL1 := Lib.hid (((HL0.out.on (below_new _ _)).on (below_new _ _)).on hb1)
      have ct : w1.cell? ⟨wc.heap.size + 1, 4, none⟩ = some (.int .i64 0) := (hb1.cell (p := ⟨wc.heap.size + 1, 4, none⟩) (by simp)).trans (by rw [World.cell?_alloc_at _ _ _ _ (by simp)]; rfl)
      have cr : wc.heap.size + 1 < w1.heap.size := by have := hb1.size; simp at this; omega
      have cq := Nat.ne_of_lt cr
      clear HL0 hb1
      go_wp2_with fail
      have HN := Lib.hid (NBx.new hn)
      have hbv := below_new w1 (nc kN kaN kiN kjN mnN mxN lzN gN kbN ksN ktN)
      have HL2 := Lib.hid (HL1.out.on hbv)
      clear HL1
      clear hn hbv
      generalize w1.alloc (nc kN kaN kiN kjN mnN mxN lzN gN kbN ksN ktN) = v1 at *
      generalize w1.heap.size = bN at *
      go_ret
      exact ⟨rfl, HL2.out.bel⟩
    · go_wp2_with fail
      refine (pk_any _ (wrong_text (a := (t.size : Int)) (x := ([91, 93], 2)) (q := ⟨#[91, 93]⟩) HP.out hk20 (by decide) (by decide +kernel) (by decide) (by simp)) ((HL0.out.on (below_new _ _)).on (below_new _ _)) (by rw [ByteArray.size_append]; have : (⟨#[91, 93]⟩ : ByteArray).size ≤ 7 := (by decide); omega)).mono ?_
      rintro e w1 ⟨kN, kaN, kiN, kjN, mnN, mxN, lzN, gN, kbN, ksN, ktN, rfl, hn, hb1⟩
      have HL1 := Lib.hid (((HL0.out.on (below_new _ _)).on (below_new _ _)).on hb1)
      have ct : w1.cell? ⟨wc.heap.size + 1, 5, none⟩ = some (.int .i64 0) := (hb1.cell (p := ⟨wc.heap.size + 1, 5, none⟩) (by simp)).trans (by rw [World.cell?_alloc_at _ _ _ _ (by simp)]; rfl)
      have cr : wc.heap.size + 1 < w1.heap.size := by have := hb1.size; simp at this; omega
      have cq := Nat.ne_of_lt cr
      clear HL0 hb1
      go_wp2_with fail
      have HN := Lib.hid (NBx.new hn)
      have hbv := below_new w1 (nc kN kaN kiN kjN mnN mxN lzN gN kbN ksN ktN)
      have HL2 := Lib.hid (HL1.out.on hbv)
      clear HL1
      clear hn hbv
      generalize w1.alloc (nc kN kaN kiN kjN mnN mxN lzN gN kbN ksN ktN) = v1 at *
      generalize w1.heap.size = bN at *
      go_ret
      exact ⟨rfl, HL2.out.bel⟩
    · go_wp2_with fail
      refine (pk_any _ (wrong_text (a := (t.size : Int)) (x := ([91, 122, 45, 97, 93], 5)) (q := ⟨#[91, 122, 45, 97, 93]⟩) HP.out hk20 (by decide) (by decide +kernel) (by decide) (by simp)) ((HL0.out.on (below_new _ _)).on (below_new _ _)) (by rw [ByteArray.size_append]; have : (⟨#[91, 122, 45, 97, 93]⟩ : ByteArray).size ≤ 7 := (by decide); omega)).mono ?_
      rintro e w1 ⟨kN, kaN, kiN, kjN, mnN, mxN, lzN, gN, kbN, ksN, ktN, rfl, hn, hb1⟩
      have HL1 := Lib.hid (((HL0.out.on (below_new _ _)).on (below_new _ _)).on hb1)
      have ct : w1.cell? ⟨wc.heap.size + 1, 6, none⟩ = some (.int .i64 0) := (hb1.cell (p := ⟨wc.heap.size + 1, 6, none⟩) (by simp)).trans (by rw [World.cell?_alloc_at _ _ _ _ (by simp)]; rfl)
      have cr : wc.heap.size + 1 < w1.heap.size := by have := hb1.size; simp at this; omega
      have cq := Nat.ne_of_lt cr
      clear HL0 hb1
      go_wp2_with fail
      have HN := Lib.hid (NBx.new hn)
      have hbv := below_new w1 (nc kN kaN kiN kjN mnN mxN lzN gN kbN ksN ktN)
      have HL2 := Lib.hid (HL1.out.on hbv)
      clear HL1
      clear hn hbv
      generalize w1.alloc (nc kN kaN kiN kjN mnN mxN lzN gN kbN ksN ktN) = v1 at *
      generalize w1.heap.size = bN at *
      go_ret
      exact ⟨rfl, HL2.out.bel⟩
    · go_wp2_with fail
      refine (pk_any _ (wrong_text (a := (t.size : Int)) (x := ([92], 1)) (q := ⟨#[92]⟩) HP.out hk20 (by decide) (by decide +kernel) (by decide) (by simp)) ((HL0.out.on (below_new _ _)).on (below_new _ _)) (by rw [ByteArray.size_append]; have : (⟨#[92]⟩ : ByteArray).size ≤ 7 := (by decide); omega)).mono ?_
      rintro e w1 ⟨kN, kaN, kiN, kjN, mnN, mxN, lzN, gN, kbN, ksN, ktN, rfl, hn, hb1⟩
      have HL1 := Lib.hid (((HL0.out.on (below_new _ _)).on (below_new _ _)).on hb1)
      have ct : w1.cell? ⟨wc.heap.size + 1, 7, none⟩ = some (.int .i64 0) := (hb1.cell (p := ⟨wc.heap.size + 1, 7, none⟩) (by simp)).trans (by rw [World.cell?_alloc_at _ _ _ _ (by simp)]; rfl)
      have cr : wc.heap.size + 1 < w1.heap.size := by have := hb1.size; simp at this; omega
      have cq := Nat.ne_of_lt cr
      clear HL0 hb1
      go_wp2_with fail
      have HN := Lib.hid (NBx.new hn)
      have hbv := below_new w1 (nc kN kaN kiN kjN mnN mxN lzN gN kbN ksN ktN)
      have HL2 := Lib.hid (HL1.out.on hbv)
      clear HL1
      clear hn hbv
      generalize w1.alloc (nc kN kaN kiN kjN mnN mxN lzN gN kbN ksN ktN) = v1 at *
      generalize w1.heap.size = bN at *
      go_ret
      exact ⟨rfl, HL2.out.bel⟩
    · go_wp2_with fail
      refine (pk_any _ (wrong_text (a := (t.size : Int)) (x := ([92, 113], 2)) (q := ⟨#[92, 113]⟩) HP.out hk20 (by decide) (by decide +kernel) (by decide) (by simp)) ((HL0.out.on (below_new _ _)).on (below_new _ _)) (by rw [ByteArray.size_append]; have : (⟨#[92, 113]⟩ : ByteArray).size ≤ 7 := (by decide); omega)).mono ?_
      rintro e w1 ⟨kN, kaN, kiN, kjN, mnN, mxN, lzN, gN, kbN, ksN, ktN, rfl, hn, hb1⟩
      have HL1 := Lib.hid (((HL0.out.on (below_new _ _)).on (below_new _ _)).on hb1)
      have ct : w1.cell? ⟨wc.heap.size + 1, 8, none⟩ = some (.int .i64 0) := (hb1.cell (p := ⟨wc.heap.size + 1, 8, none⟩) (by simp)).trans (by rw [World.cell?_alloc_at _ _ _ _ (by simp)]; rfl)
      have cr : wc.heap.size + 1 < w1.heap.size := by have := hb1.size; simp at this; omega
      have cq := Nat.ne_of_lt cr
      clear HL0 hb1
      go_wp2_with fail
      have HN := Lib.hid (NBx.new hn)
      have hbv := below_new w1 (nc kN kaN kiN kjN mnN mxN lzN gN kbN ksN ktN)
      have HL2 := Lib.hid (HL1.out.on hbv)
      clear HL1
      clear hn hbv
      generalize w1.alloc (nc kN kaN kiN kjN mnN mxN lzN gN kbN ksN ktN) = v1 at *
      generalize w1.heap.size = bN at *
      go_ret
      exact ⟨rfl, HL2.out.bel⟩
    · go_wp2_with fail
      refine (pk_any _ (wrong_text (a := (t.size : Int) + 1) (x := ([40], 0)) (q := ⟨#[40]⟩) HP.out hk20 (by decide) (by decide +kernel) (by decide) (by rfl)) ((HL0.out.on (below_new _ _)).on (below_new _ _)) (by rw [ByteArray.size_append]; have : (⟨#[40]⟩ : ByteArray).size ≤ 7 := (by decide); omega)).mono ?_
      rintro e w1 ⟨kN, kaN, kiN, kjN, mnN, mxN, lzN, gN, kbN, ksN, ktN, rfl, hn, hb1⟩
      have HL1 := Lib.hid (((HL0.out.on (below_new _ _)).on (below_new _ _)).on hb1)
      have ct : w1.cell? ⟨wc.heap.size + 1, 9, none⟩ = some (.int .i64 1) := (hb1.cell (p := ⟨wc.heap.size + 1, 9, none⟩) (by simp)).trans (by rw [World.cell?_alloc_at _ _ _ _ (by simp)]; rfl)
      have cr : wc.heap.size + 1 < w1.heap.size := by have := hb1.size; simp at this; omega
      have cq := Nat.ne_of_lt cr
      clear HL0 hb1
      go_wp2_with fail
      have HN := Lib.hid (NBx.new hn)
      have hbv := below_new w1 (nc kN kaN kiN kjN mnN mxN lzN gN kbN ksN ktN)
      have HL2 := Lib.hid (HL1.out.on hbv)
      clear HL1
      clear hn hbv
      generalize w1.alloc (nc kN kaN kiN kjN mnN mxN lzN gN kbN ksN ktN) = v1 at *
      generalize w1.heap.size = bN at *
      go_ret
      exact ⟨rfl, HL2.out.bel⟩
    · go_wp2_with fail
      refine (pk_any _ (wrong_text (a := (t.size : Int) + 1) (x := ([40, 63], 1)) (q := ⟨#[40, 63]⟩) HP.out hk20 (by decide) (by decide +kernel) (by decide) (by rfl)) ((HL0.out.on (below_new _ _)).on (below_new _ _)) (by rw [ByteArray.size_append]; have : (⟨#[40, 63]⟩ : ByteArray).size ≤ 7 := (by decide); omega)).mono ?_
      rintro e w1 ⟨kN, kaN, kiN, kjN, mnN, mxN, lzN, gN, kbN, ksN, ktN, rfl, hn, hb1⟩
      have HL1 := Lib.hid (((HL0.out.on (below_new _ _)).on (below_new _ _)).on hb1)
      have ct : w1.cell? ⟨wc.heap.size + 1, 10, none⟩ = some (.int .i64 1) := (hb1.cell (p := ⟨wc.heap.size + 1, 10, none⟩) (by simp)).trans (by rw [World.cell?_alloc_at _ _ _ _ (by simp)]; rfl)
      have cr : wc.heap.size + 1 < w1.heap.size := by have := hb1.size; simp at this; omega
      have cq := Nat.ne_of_lt cr
      clear HL0 hb1
      go_wp2_with fail
      have HN := Lib.hid (NBx.new hn)
      have hbv := below_new w1 (nc kN kaN kiN kjN mnN mxN lzN gN kbN ksN ktN)
      have HL2 := Lib.hid (HL1.out.on hbv)
      clear HL1
      clear hn hbv
      generalize w1.alloc (nc kN kaN kiN kjN mnN mxN lzN gN kbN ksN ktN) = v1 at *
      generalize w1.heap.size = bN at *
      go_ret
      exact ⟨rfl, HL2.out.bel⟩
    · go_wp2_with fail
      refine (pk_any _ (wrong_text (a := (t.size : Int) + 1) (x := ([124, 123, 50, 125], 3)) (q := ⟨#[124, 123, 50, 125]⟩) HP.out hk20 (by decide) (by decide +kernel) (by decide) (by rfl)) ((HL0.out.on (below_new _ _)).on (below_new _ _)) (by rw [ByteArray.size_append]; have : (⟨#[124, 123, 50, 125]⟩ : ByteArray).size ≤ 7 := (by decide); omega)).mono ?_
      rintro e w1 ⟨kN, kaN, kiN, kjN, mnN, mxN, lzN, gN, kbN, ksN, ktN, rfl, hn, hb1⟩
      have HL1 := Lib.hid (((HL0.out.on (below_new _ _)).on (below_new _ _)).on hb1)
      have ct : w1.cell? ⟨wc.heap.size + 1, 11, none⟩ = some (.int .i64 1) := (hb1.cell (p := ⟨wc.heap.size + 1, 11, none⟩) (by simp)).trans (by rw [World.cell?_alloc_at _ _ _ _ (by simp)]; rfl)
      have cr : wc.heap.size + 1 < w1.heap.size := by have := hb1.size; simp at this; omega
      have cq := Nat.ne_of_lt cr
      clear HL0 hb1
      go_wp2_with fail
      have HN := Lib.hid (NBx.new hn)
      have hbv := below_new w1 (nc kN kaN kiN kjN mnN mxN lzN gN kbN ksN ktN)
      have HL2 := Lib.hid (HL1.out.on hbv)
      clear HL1
      clear hn hbv
      generalize w1.alloc (nc kN kaN kiN kjN mnN mxN lzN gN kbN ksN ktN) = v1 at *
      generalize w1.heap.size = bN at *
      go_ret
      exact ⟨rfl, HL2.out.bel⟩
    · go_wp2_with fail
      refine (pk_any _ (wrong_text (a := (t.size : Int)) (x := ([-1], 1)) (q := ⟨#[255]⟩) HP.out hk20 (by decide) (by decide +kernel) (by decide) (by simp)) ((HL0.out.on (below_new _ _)).on (below_new _ _)) (by rw [ByteArray.size_append]; have : (⟨#[255]⟩ : ByteArray).size ≤ 7 := (by decide); omega)).mono ?_
      rintro e w1 ⟨kN, kaN, kiN, kjN, mnN, mxN, lzN, gN, kbN, ksN, ktN, rfl, hn, hb1⟩
      have HL1 := Lib.hid (((HL0.out.on (below_new _ _)).on (below_new _ _)).on hb1)
      have ct : w1.cell? ⟨wc.heap.size + 1, 12, none⟩ = some (.int .i64 0) := (hb1.cell (p := ⟨wc.heap.size + 1, 12, none⟩) (by simp)).trans (by rw [World.cell?_alloc_at _ _ _ _ (by simp)]; rfl)
      have cr : wc.heap.size + 1 < w1.heap.size := by have := hb1.size; simp at this; omega
      have cq := Nat.ne_of_lt cr
      clear HL0 hb1
      go_wp2_with fail
      have HN := Lib.hid (NBx.new hn)
      have hbv := below_new w1 (nc kN kaN kiN kjN mnN mxN lzN gN kbN ksN ktN)
      have HL2 := Lib.hid (HL1.out.on hbv)
      clear HL1
      clear hn hbv
      generalize w1.alloc (nc kN kaN kiN kjN mnN mxN lzN gN kbN ksN ktN) = v1 at *
      generalize w1.heap.size = bN at *
      go_ret
      exact ⟨rfl, HL2.out.bel⟩
    · go_wp2_with fail
      refine (pk_any _ (wrong_text (a := (t.size : Int) + 3) (x := ([40, 63, 58], 0)) (q := ⟨#[40, 63, 58]⟩) HP.out hk20 (by decide) (by decide +kernel) (by decide) (by rfl)) ((HL0.out.on (below_new _ _)).on (below_new _ _)) (by rw [ByteArray.size_append]; have : (⟨#[40, 63, 58]⟩ : ByteArray).size ≤ 7 := (by decide); omega)).mono ?_
      rintro e w1 ⟨kN, kaN, kiN, kjN, mnN, mxN, lzN, gN, kbN, ksN, ktN, rfl, hn, hb1⟩
      have HL1 := Lib.hid (((HL0.out.on (below_new _ _)).on (below_new _ _)).on hb1)
      have ct : w1.cell? ⟨wc.heap.size + 1, 13, none⟩ = some (.int .i64 3) := (hb1.cell (p := ⟨wc.heap.size + 1, 13, none⟩) (by simp)).trans (by rw [World.cell?_alloc_at _ _ _ _ (by simp)]; rfl)
      have cr : wc.heap.size + 1 < w1.heap.size := by have := hb1.size; simp at this; omega
      have cq := Nat.ne_of_lt cr
      clear HL0 hb1
      go_wp2_with fail
      have HN := Lib.hid (NBx.new hn)
      have hbv := below_new w1 (nc kN kaN kiN kjN mnN mxN lzN gN kbN ksN ktN)
      have HL2 := Lib.hid (HL1.out.on hbv)
      clear HL1
      clear hn hbv
      generalize w1.alloc (nc kN kaN kiN kjN mnN mxN lzN gN kbN ksN ktN) = v1 at *
      generalize w1.heap.size = bN at *
      go_ret
      exact ⟨rfl, HL2.out.bel⟩
    · go_wp2_with fail
      refine (pk_any _ (wrong_text (a := (t.size : Int) + 4) (x := ([99, 123, 50, 125, 123, 50, 125], 3)) (q := ⟨#[99, 123, 50, 125, 123, 50, 125]⟩) HP.out hk20 (by decide) (by decide +kernel) (by decide) (by rfl)) ((HL0.out.on (below_new _ _)).on (below_new _ _)) (by rw [ByteArray.size_append]; have : (⟨#[99, 123, 50, 125, 123, 50, 125]⟩ : ByteArray).size ≤ 7 := (by decide); omega)).mono ?_
      rintro e w1 ⟨kN, kaN, kiN, kjN, mnN, mxN, lzN, gN, kbN, ksN, ktN, rfl, hn, hb1⟩
      have HL1 := Lib.hid (((HL0.out.on (below_new _ _)).on (below_new _ _)).on hb1)
      have ct : w1.cell? ⟨wc.heap.size + 1, 14, none⟩ = some (.int .i64 4) := (hb1.cell (p := ⟨wc.heap.size + 1, 14, none⟩) (by simp)).trans (by rw [World.cell?_alloc_at _ _ _ _ (by simp)]; rfl)
      have cr : wc.heap.size + 1 < w1.heap.size := by have := hb1.size; simp at this; omega
      have cq := Nat.ne_of_lt cr
      clear HL0 hb1
      go_wp2_with fail
      have HN := Lib.hid (NBx.new hn)
      have hbv := below_new w1 (nc kN kaN kiN kjN mnN mxN lzN gN kbN ksN ktN)
      have HL2 := Lib.hid (HL1.out.on hbv)
      clear HL1
      clear hn hbv
      generalize w1.alloc (nc kN kaN kiN kjN mnN mxN lzN gN kbN ksN ktN) = v1 at *
      generalize w1.heap.size = bN at *
      go_ret
      exact ⟨rfl, HL2.out.bel⟩
    · go_wp2_with fail
      refine (pk_any _ (wrong_text (a := (t.size : Int) + 3) (x := ([99, 63, 63, 63], 1)) (q := ⟨#[99, 63, 63, 63]⟩) HP.out hk20 (by decide) (by decide +kernel) (by decide) (by rfl)) ((HL0.out.on (below_new _ _)).on (below_new _ _)) (by rw [ByteArray.size_append]; have : (⟨#[99, 63, 63, 63]⟩ : ByteArray).size ≤ 7 := (by decide); omega)).mono ?_
      rintro e w1 ⟨kN, kaN, kiN, kjN, mnN, mxN, lzN, gN, kbN, ksN, ktN, rfl, hn, hb1⟩
      have HL1 := Lib.hid (((HL0.out.on (below_new _ _)).on (below_new _ _)).on hb1)
      have ct : w1.cell? ⟨wc.heap.size + 1, 15, none⟩ = some (.int .i64 3) := (hb1.cell (p := ⟨wc.heap.size + 1, 15, none⟩) (by simp)).trans (by rw [World.cell?_alloc_at _ _ _ _ (by simp)]; rfl)
      have cr : wc.heap.size + 1 < w1.heap.size := by have := hb1.size; simp at this; omega
      have cq := Nat.ne_of_lt cr
      clear HL0 hb1
      go_wp2_with fail
      have HN := Lib.hid (NBx.new hn)
      have hbv := below_new w1 (nc kN kaN kiN kjN mnN mxN lzN gN kbN ksN ktN)
      have HL2 := Lib.hid (HL1.out.on hbv)
      clear HL1
      clear hn hbv
      generalize w1.alloc (nc kN kaN kiN kjN mnN mxN lzN gN kbN ksN ktN) = v1 at *
      generalize w1.heap.size = bN at *
      go_ret
      exact ⟨rfl, HL2.out.bel⟩
    · go_wp2_with fail
      refine (pk_any _ (wrong_text (a := (t.size : Int)) (x := ([91, -1, 93], 3)) (q := ⟨#[91, 255, 93]⟩) HP.out hk20 (by decide) (by decide +kernel) (by decide) (by simp)) ((HL0.out.on (below_new _ _)).on (below_new _ _)) (by rw [ByteArray.size_append]; have : (⟨#[91, 255, 93]⟩ : ByteArray).size ≤ 7 := (by decide); omega)).mono ?_
      rintro e w1 ⟨kN, kaN, kiN, kjN, mnN, mxN, lzN, gN, kbN, ksN, ktN, rfl, hn, hb1⟩
      have HL1 := Lib.hid (((HL0.out.on (below_new _ _)).on (below_new _ _)).on hb1)
      have ct : w1.cell? ⟨wc.heap.size + 1, 16, none⟩ = some (.int .i64 0) := (hb1.cell (p := ⟨wc.heap.size + 1, 16, none⟩) (by simp)).trans (by rw [World.cell?_alloc_at _ _ _ _ (by simp)]; rfl)
      have cr : wc.heap.size + 1 < w1.heap.size := by have := hb1.size; simp at this; omega
      have cq := Nat.ne_of_lt cr
      clear HL0 hb1
      go_wp2_with fail
      have HN := Lib.hid (NBx.new hn)
      have hbv := below_new w1 (nc kN kaN kiN kjN mnN mxN lzN gN kbN ksN ktN)
      have HL2 := Lib.hid (HL1.out.on hbv)
      clear HL1
      clear hn hbv
      generalize w1.alloc (nc kN kaN kiN kjN mnN mxN lzN gN kbN ksN ktN) = v1 at *
      generalize w1.heap.size = bN at *
      go_ret
      exact ⟨rfl, HL2.out.bel⟩
    · go_wp2_with fail
      refine (pk_any _ (wrong_text (a := (t.size : Int)) (x := ([91, 92, 98, 93], 4)) (q := ⟨#[91, 92, 98, 93]⟩) HP.out hk20 (by decide) (by decide +kernel) (by decide) (by simp)) ((HL0.out.on (below_new _ _)).on (below_new _ _)) (by rw [ByteArray.size_append]; have : (⟨#[91, 92, 98, 93]⟩ : ByteArray).size ≤ 7 := (by decide); omega)).mono ?_
      rintro e w1 ⟨kN, kaN, kiN, kjN, mnN, mxN, lzN, gN, kbN, ksN, ktN, rfl, hn, hb1⟩
      have HL1 := Lib.hid (((HL0.out.on (below_new _ _)).on (below_new _ _)).on hb1)
      have ct : w1.cell? ⟨wc.heap.size + 1, 17, none⟩ = some (.int .i64 0) := (hb1.cell (p := ⟨wc.heap.size + 1, 17, none⟩) (by simp)).trans (by rw [World.cell?_alloc_at _ _ _ _ (by simp)]; rfl)
      have cr : wc.heap.size + 1 < w1.heap.size := by have := hb1.size; simp at this; omega
      have cq := Nat.ne_of_lt cr
      clear HL0 hb1
      go_wp2_with fail
      have HN := Lib.hid (NBx.new hn)
      have hbv := below_new w1 (nc kN kaN kiN kjN mnN mxN lzN gN kbN ksN ktN)
      have HL2 := Lib.hid (HL1.out.on hbv)
      clear HL1
      clear hn hbv
      generalize w1.alloc (nc kN kaN kiN kjN mnN mxN lzN gN kbN ksN ktN) = v1 at *
      generalize w1.heap.size = bN at *
      go_ret
      exact ⟨rfl, HL2.out.bel⟩
    · go_wp2_with fail
      refine (pk_any _ (wrong_text (a := (t.size : Int) + 1) (x := ([99, 123, 50, 44, 49, 125], 5)) (q := ⟨#[99, 123, 50, 44, 49, 125]⟩) HP.out hk20 (by decide) (by decide +kernel) (by decide) (by rfl)) ((HL0.out.on (below_new _ _)).on (below_new _ _)) (by rw [ByteArray.size_append]; have : (⟨#[99, 123, 50, 44, 49, 125]⟩ : ByteArray).size ≤ 7 := (by decide); omega)).mono ?_
      rintro e w1 ⟨kN, kaN, kiN, kjN, mnN, mxN, lzN, gN, kbN, ksN, ktN, rfl, hn, hb1⟩
      have HL1 := Lib.hid (((HL0.out.on (below_new _ _)).on (below_new _ _)).on hb1)
      have ct : w1.cell? ⟨wc.heap.size + 1, 18, none⟩ = some (.int .i64 1) := (hb1.cell (p := ⟨wc.heap.size + 1, 18, none⟩) (by simp)).trans (by rw [World.cell?_alloc_at _ _ _ _ (by simp)]; rfl)
      have cr : wc.heap.size + 1 < w1.heap.size := by have := hb1.size; simp at this; omega
      have cq := Nat.ne_of_lt cr
      clear HL0 hb1
      go_wp2_with fail
      have HN := Lib.hid (NBx.new hn)
      have hbv := below_new w1 (nc kN kaN kiN kjN mnN mxN lzN gN kbN ksN ktN)
      have HL2 := Lib.hid (HL1.out.on hbv)
      clear HL1
      clear hn hbv
      generalize w1.alloc (nc kN kaN kiN kjN mnN mxN lzN gN kbN ksN ktN) = v1 at *
      generalize w1.heap.size = bN at *
      go_ret
      exact ⟨rfl, HL2.out.bel⟩
    · go_wp2_with fail
      refine (pk_any _ (wrong_text (a := (t.size : Int) + 2) (x := ([40, 124], 0)) (q := ⟨#[40, 124]⟩) HP.out hk20 (by decide) (by decide +kernel) (by decide) (by rfl)) ((HL0.out.on (below_new _ _)).on (below_new _ _)) (by rw [ByteArray.size_append]; have : (⟨#[40, 124]⟩ : ByteArray).size ≤ 7 := (by decide); omega)).mono ?_
      rintro e w1 ⟨kN, kaN, kiN, kjN, mnN, mxN, lzN, gN, kbN, ksN, ktN, rfl, hn, hb1⟩
      have HL1 := Lib.hid (((HL0.out.on (below_new _ _)).on (below_new _ _)).on hb1)
      have ct : w1.cell? ⟨wc.heap.size + 1, 19, none⟩ = some (.int .i64 2) := (hb1.cell (p := ⟨wc.heap.size + 1, 19, none⟩) (by simp)).trans (by rw [World.cell?_alloc_at _ _ _ _ (by simp)]; rfl)
      have cr : wc.heap.size + 1 < w1.heap.size := by have := hb1.size; simp at this; omega
      have cq := Nat.ne_of_lt cr
      clear HL0 hb1
      go_wp2_with fail
      have HN := Lib.hid (NBx.new hn)
      have hbv := below_new w1 (nc kN kaN kiN kjN mnN mxN lzN gN kbN ksN ktN)
      have HL2 := Lib.hid (HL1.out.on hbv)
      clear HL1
      clear hn hbv
      generalize w1.alloc (nc kN kaN kiN kjN mnN mxN lzN gN kbN ksN ktN) = v1 at *
      generalize w1.heap.size = bN at *
      go_ret
      exact ⟨rfl, HL2.out.bel⟩
end Go.Proofs.YtfibhhegfhikmaaGreatDoor
