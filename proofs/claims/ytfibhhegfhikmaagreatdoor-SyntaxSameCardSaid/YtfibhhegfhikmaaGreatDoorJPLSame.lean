import Derived.Test.YtfibhhegfhikmaaGreatDoorJPL
import Derived.Test.YtfibhhegfhikmaaGreatDoorJSynM12
import Derived.Test.YtfibhhegfhikmaaGreatDoorJPLF
set_option linter.unusedSimpArgs false
set_option linter.unusedVariables false
/- SyntaxSame: the walk. -/
set_option linter.unusedVariables false
namespace Go.Proofs.YtfibhhegfhikmaaGreatDoor
open Go.RowKit
open Sx (Nd)

theorem text_bytes {l : List Int} : (bs l).data.toList = Rn.cat l := by show (Rn.cat l).toArray.toList = _; simp
theorem cell_of_drew (w : World) (a : Addr) : w.drew.cell? a = w.cell? a := rfl
theorem put_same {s t : ByteArray} {n m : Nd} {a b : Int} {v : Bool} (h : Sx.Parsed s n a 0) (h' : Sx.Parsed t m b 0) (hs : Sx.Few (Sx.toks s)) (ht : Sx.Few (Sx.toks t)) (hv : Sm n m v) : ((bs (Sx.put n)).toList == (bs (Sx.put m)).toList) = v := by
  have h1 := Sx.same_put h h' hs ht
  unfold Sm at hv
  rw [Bool.eq_iff_iff, beq_iff_eq, hv, h1, ByteArray.toList_eq, ByteArray.toList_eq, text_bytes, text_bytes]
set_option maxRecDepth 20000 in
set_option maxHeartbeats 1600000 in
theorem same_true (a0 : Option Addr) (len0 cap0 : Nat) (l0 : List UInt8) (a1 : Option Addr) (len1 cap1 : Nat) (l1 : List UInt8) (w : World) (hT : Errs w.heap.size w) (hb0 : BArg w a0 len0 cap0 l0) (hb1 : BArg w a1 len1 cap1 l1) : Calls Tryz.prog 10 #[.slice a0 len0 cap0, .slice a1 len1 cap1, .bool true] w fun e w' => e = .returned (.bool true) ∧ Below w.heap.size w w' := by
  have HB0 := Lib.hid (bcells_of hb0)
  have hl0 := (barg_len hb0).1
  clear hb0
  have HB1 := Lib.hid (bcells_of hb1)
  have hl1 := (barg_len hb1).1
  clear hb1
  have HL0 := Lib.hid (show Lw w.heap.size w w from ⟨hT, Nat.le_refl _, Below.refl _ _⟩)
  clear hT
  go_enter Tryz.func10, Tryz.ntmps10
  go_wp2_with fail
  refine (examples_any _ HL0.out).mono ?_
  rintro e w1 ⟨rfl, hb1⟩
  have HL1 := Lib.hid (HL0.out.on hb1)
  clear hb1
  go_wp2_with fail
  refine (patterns_any a0 len0 cap0 _ (HB0.out.below HL1.out.bel) hl0).mono ?_
  rintro e w2 ⟨ta, wsa, rfl, hpta, hza, hb2⟩
  have HL2 := Lib.hid (HL1.out.on hb2)
  clear HL1
  clear hb2
  have HFa := Lib.hid (few_pat hpta)
  clear hpta
  go_wp2_with fail
  refine (ps_any ta _ HL2.out (by omega)).mono ?_
  rintro e w3 ⟨kN, kaN, kiN, kjN, mnN, mxN, lzN, gN, kbN, ksN, ktN, n, at1, er, rfl, hn, hp, hb3⟩
  have HL3 := Lib.hid (HL2.out.on hb3)
  clear HL2
  clear hb3
  have HP := Lib.hid hp
  clear hp
  go_wp2_with fail
  have HN := Lib.hid (NBx.new hn)
  have hbv := below_new w3 (nc kN kaN kiN kjN mnN mxN lzN gN kbN ksN ktN)
  have HL4 := Lib.hid (HL3.out.on hbv)
  clear HL3
  clear hn hbv
  generalize w3.alloc (nc kN kaN kiN kjN mnN mxN lzN gN kbN ksN ktN) = v3 at *
  generalize w3.heap.size = bN at *
  refine (patterns_any a0 len0 cap0 _ (HB0.out.below HL4.out.bel) hl0).mono ?_
  rintro e w5 ⟨tb, wsb, rfl, hptb, hzb, hb5⟩
  have HL5 := Lib.hid (HL4.out.on hb5)
  clear HL4
  replace HN := Lib.hid (HN.out.below hb5)
  clear hb5
  have HFb := Lib.hid (few_pat hptb)
  clear hptb
  go_wp2_with fail
  refine (ps_any tb _ HL5.out (by omega)).mono ?_
  rintro e w6 ⟨kM, kaM, kiM, kjM, mnM, mxM, lzM, gM, kbM, ksM, ktM, m, at2, fr, rfl, hn, hq, hb6⟩
  have HL6 := Lib.hid (HL5.out.on hb6)
  clear HL5
  replace HN := Lib.hid (HN.out.below hb6)
  clear hb6
  by_cases he : er = 0
  · subst he
    by_cases hf : fr = 0
    · subst hf
      obtain ⟨v, hv⟩ := sm_some n m
      have hpp := put_same HP.out hq HFa.out HFb.out hv
      have k1 := ok_parsed HP.out HFa.out
      have k2 := ok_parsed hq HFb.out
      have HV := Lib.hid hv
      have HR1 := Lib.hid k1.2.1
      have HR2 := Lib.hid k2.2.1
      have hz1 := k1.2.2.2.1
      have hz2 := k2.2.2.2.1
      have hvv : (v == v) = true := by cases v <;> rfl
      clear hq hv k1 k2
      generalize hS : bs (Sx.put n) = S at *
      generalize hU : bs (Sx.put m) = U at *
      have HS := Lib.hid hS
      have HU := Lib.hid hU
      clear hS hU
      obtain ⟨cN0, cN1, cN2, cN3, cN4, cN5, cN6⟩ := HN.out.cells
      have qN : ¬ bN = w6.heap.size := Nat.ne_of_lt HN.out.lt
      have rN := HN.out.lt
      go_wp2_with fail
      clear cN0 cN1 cN2 cN3 cN4 cN5 cN6
      clear qN rN
      have HM := Lib.hid (NBx.new hn)
      have hbv := below_new w6 (nc kM kaM kiM kjM mnM mxM lzM gM kbM ksM ktM)
      have HL7 := Lib.hid (HL6.out.on hbv)
      clear HL6
      replace HN := Lib.hid (HN.out.below hbv)
      clear hn hbv
      generalize w6.alloc (nc kM kaM kiM kjM mnM mxM lzM gM kbM ksM ktM) = v6 at *
      generalize w6.heap.size = bM at *
      obtain ⟨cN0, cN1, cN2, cN3, cN4, cN5, cN6⟩ := HN.out.cells
      obtain ⟨cM0, cM1, cM2, cM3, cM4, cM5, cM6⟩ := HM.out.cells
      have hl0 := Below.refl v6.heap.size v6
      have hl1 := hl0.drew
      go_region_held3 (fun w' => w'.cell? ⟨bN, 0, none⟩ = some (.int .i64 kN) ∧ w'.cell? ⟨bN, 1, none⟩ = some (.slice kaN kiN kjN) ∧ w'.cell? ⟨bN, 2, none⟩ = some (.int .i64 mnN) ∧ w'.cell? ⟨bN, 3, none⟩ = some (.int .i64 mxN) ∧ w'.cell? ⟨bN, 4, none⟩ = some (.bool lzN) ∧ w'.cell? ⟨bN, 5, none⟩ = some (.int .i64 gN) ∧ w'.cell? ⟨bN, 6, none⟩ = some (.slice kbN ksN ktN) ∧ w'.cell? ⟨bM, 0, none⟩ = some (.int .i64 kM) ∧ w'.cell? ⟨bM, 1, none⟩ = some (.slice kaM kiM kjM) ∧ w'.cell? ⟨bM, 2, none⟩ = some (.int .i64 mnM) ∧ w'.cell? ⟨bM, 3, none⟩ = some (.int .i64 mxM) ∧ w'.cell? ⟨bM, 4, none⟩ = some (.bool lzM) ∧ w'.cell? ⟨bM, 5, none⟩ = some (.int .i64 gM) ∧ w'.cell? ⟨bM, 6, none⟩ = some (.slice kbM ksM ktM) ∧ Below v6.heap.size v6 w') ((repeat' apply And.intro) <;> first | with_reducible assumption | (with_reducible refine Below.drew ?_; with_reducible assumption) | (rw [cell_of_drew]; with_reducible assumption)) (((first | (go_at_call 20; first | with_reducible refine (psame_any n m _ _ v _ (HN.out.nd.below (by with_reducible assumption)) (HM.out.nd.below (by with_reducible assumption)) HV.out).mono ?_ | with_reducible refine (same_self _ (HN.out.nd.below (by with_reducible assumption))).mono ?_) | (go_at_call 18; first | with_reducible refine (put_at _ (HN.out.nd.below (by with_reducible assumption)) HR1.out HS.out (by omega)).mono ?_ | with_reducible refine (put_at _ (HM.out.nd.below (by with_reducible assumption)) HR2.out HU.out (by omega)).mono ?_)); rintro e w9 ⟨rfl, hb9⟩; have hW9 := bvia (by first | with_reducible assumption | (with_reducible refine Below.drew ?_; with_reducible assumption)) hb9; have hcn := (HN.out.below hW9).cells; have hcm := (HM.out.below hW9).cells; obtain ⟨yN0, yN1, yN2, yN3, yN4, yN5, yN6⟩ := hcn; obtain ⟨yM0, yM1, yM2, yM3, yM4, yM5, yM6⟩ := hcm))
      go_wp2_with fail
      go_ret
      exact ⟨rfl, bvia HL7.out.bel (by with_reducible assumption)⟩
    · have hf1 : (fr != 0) = true := by rw [bne_iff_ne]; exact hf
      clear hq hf
      go_wp2_with fail
      go_ret
      exact ⟨rfl, (HL6.out.on (below_new _ _)).bel⟩
  · have he1 : (er != 0) = true := by rw [bne_iff_ne]; exact he
    clear hq he
    go_wp2_with fail
    go_ret
    exact ⟨rfl, (HL6.out.on (below_new _ _)).bel⟩
set_option maxRecDepth 20000 in
set_option maxHeartbeats 1600000 in
theorem same_false (a0 : Option Addr) (len0 cap0 : Nat) (l0 : List UInt8) (a1 : Option Addr) (len1 cap1 : Nat) (l1 : List UInt8) (w : World) (hT : Errs w.heap.size w) (hb0 : BArg w a0 len0 cap0 l0) (hb1 : BArg w a1 len1 cap1 l1) : Calls Tryz.prog 10 #[.slice a0 len0 cap0, .slice a1 len1 cap1, .bool false] w fun e w' => e = .returned (.bool true) ∧ Below w.heap.size w w' := by
  have HB0 := Lib.hid (bcells_of hb0)
  have hl0 := (barg_len hb0).1
  clear hb0
  have HB1 := Lib.hid (bcells_of hb1)
  have hl1 := (barg_len hb1).1
  clear hb1
  have HL0 := Lib.hid (show Lw w.heap.size w w from ⟨hT, Nat.le_refl _, Below.refl _ _⟩)
  clear hT
  go_enter Tryz.func10, Tryz.ntmps10
  go_wp2_with fail
  refine (examples_any _ HL0.out).mono ?_
  rintro e w1 ⟨rfl, hb1⟩
  have HL1 := Lib.hid (HL0.out.on hb1)
  clear hb1
  go_wp2_with fail
  refine (patterns_any a0 len0 cap0 _ (HB0.out.below HL1.out.bel) hl0).mono ?_
  rintro e w2 ⟨ta, wsa, rfl, hpta, hza, hb2⟩
  have HL2 := Lib.hid (HL1.out.on hb2)
  clear HL1
  clear hb2
  have HFa := Lib.hid (few_pat hpta)
  clear hpta
  go_wp2_with fail
  refine (ps_any ta _ HL2.out (by omega)).mono ?_
  rintro e w3 ⟨kN, kaN, kiN, kjN, mnN, mxN, lzN, gN, kbN, ksN, ktN, n, at1, er, rfl, hn, hp, hb3⟩
  have HL3 := Lib.hid (HL2.out.on hb3)
  clear HL2
  clear hb3
  have HP := Lib.hid hp
  clear hp
  go_wp2_with fail
  have HN := Lib.hid (NBx.new hn)
  have hbv := below_new w3 (nc kN kaN kiN kjN mnN mxN lzN gN kbN ksN ktN)
  have HL4 := Lib.hid (HL3.out.on hbv)
  clear HL3
  clear hn hbv
  generalize w3.alloc (nc kN kaN kiN kjN mnN mxN lzN gN kbN ksN ktN) = v3 at *
  generalize w3.heap.size = bN at *
  refine (patterns_any a1 len1 cap1 _ (HB1.out.below HL4.out.bel) hl1).mono ?_
  rintro e w5 ⟨tb, wsb, rfl, hptb, hzb, hb5⟩
  have HL5 := Lib.hid (HL4.out.on hb5)
  clear HL4
  replace HN := Lib.hid (HN.out.below hb5)
  clear hb5
  have HFb := Lib.hid (few_pat hptb)
  clear hptb
  go_wp2_with fail
  refine (ps_any tb _ HL5.out (by omega)).mono ?_
  rintro e w6 ⟨kM, kaM, kiM, kjM, mnM, mxM, lzM, gM, kbM, ksM, ktM, m, at2, fr, rfl, hn, hq, hb6⟩
  have HL6 := Lib.hid (HL5.out.on hb6)
  clear HL5
  replace HN := Lib.hid (HN.out.below hb6)
  clear hb6
  by_cases he : er = 0
  · subst he
    by_cases hf : fr = 0
    · subst hf
      obtain ⟨v, hv⟩ := sm_some n m
      have hpp := put_same HP.out hq HFa.out HFb.out hv
      have k1 := ok_parsed HP.out HFa.out
      have k2 := ok_parsed hq HFb.out
      have HV := Lib.hid hv
      have HR1 := Lib.hid k1.2.1
      have HR2 := Lib.hid k2.2.1
      have hz1 := k1.2.2.2.1
      have hz2 := k2.2.2.2.1
      have hvv : (v == v) = true := by cases v <;> rfl
      clear hq hv k1 k2
      generalize hS : bs (Sx.put n) = S at *
      generalize hU : bs (Sx.put m) = U at *
      have HS := Lib.hid hS
      have HU := Lib.hid hU
      clear hS hU
      obtain ⟨cN0, cN1, cN2, cN3, cN4, cN5, cN6⟩ := HN.out.cells
      have qN : ¬ bN = w6.heap.size := Nat.ne_of_lt HN.out.lt
      have rN := HN.out.lt
      go_wp2_with fail
      clear cN0 cN1 cN2 cN3 cN4 cN5 cN6
      clear qN rN
      have HM := Lib.hid (NBx.new hn)
      have hbv := below_new w6 (nc kM kaM kiM kjM mnM mxM lzM gM kbM ksM ktM)
      have HL7 := Lib.hid (HL6.out.on hbv)
      clear HL6
      replace HN := Lib.hid (HN.out.below hbv)
      clear hn hbv
      generalize w6.alloc (nc kM kaM kiM kjM mnM mxM lzM gM kbM ksM ktM) = v6 at *
      generalize w6.heap.size = bM at *
      obtain ⟨cN0, cN1, cN2, cN3, cN4, cN5, cN6⟩ := HN.out.cells
      obtain ⟨cM0, cM1, cM2, cM3, cM4, cM5, cM6⟩ := HM.out.cells
      have hl0 := Below.refl v6.heap.size v6
      have hl1 := hl0.drew
      go_region_held3 (fun w' => w'.cell? ⟨bN, 0, none⟩ = some (.int .i64 kN) ∧ w'.cell? ⟨bN, 1, none⟩ = some (.slice kaN kiN kjN) ∧ w'.cell? ⟨bN, 2, none⟩ = some (.int .i64 mnN) ∧ w'.cell? ⟨bN, 3, none⟩ = some (.int .i64 mxN) ∧ w'.cell? ⟨bN, 4, none⟩ = some (.bool lzN) ∧ w'.cell? ⟨bN, 5, none⟩ = some (.int .i64 gN) ∧ w'.cell? ⟨bN, 6, none⟩ = some (.slice kbN ksN ktN) ∧ w'.cell? ⟨bM, 0, none⟩ = some (.int .i64 kM) ∧ w'.cell? ⟨bM, 1, none⟩ = some (.slice kaM kiM kjM) ∧ w'.cell? ⟨bM, 2, none⟩ = some (.int .i64 mnM) ∧ w'.cell? ⟨bM, 3, none⟩ = some (.int .i64 mxM) ∧ w'.cell? ⟨bM, 4, none⟩ = some (.bool lzM) ∧ w'.cell? ⟨bM, 5, none⟩ = some (.int .i64 gM) ∧ w'.cell? ⟨bM, 6, none⟩ = some (.slice kbM ksM ktM) ∧ Below v6.heap.size v6 w') ((repeat' apply And.intro) <;> first | with_reducible assumption | (with_reducible refine Below.drew ?_; with_reducible assumption) | (rw [cell_of_drew]; with_reducible assumption)) (((first | (go_at_call 20; first | with_reducible refine (psame_any n m _ _ v _ (HN.out.nd.below (by with_reducible assumption)) (HM.out.nd.below (by with_reducible assumption)) HV.out).mono ?_ | with_reducible refine (same_self _ (HN.out.nd.below (by with_reducible assumption))).mono ?_) | (go_at_call 18; first | with_reducible refine (put_at _ (HN.out.nd.below (by with_reducible assumption)) HR1.out HS.out (by omega)).mono ?_ | with_reducible refine (put_at _ (HM.out.nd.below (by with_reducible assumption)) HR2.out HU.out (by omega)).mono ?_)); rintro e w9 ⟨rfl, hb9⟩; have hW9 := bvia (by first | with_reducible assumption | (with_reducible refine Below.drew ?_; with_reducible assumption)) hb9; have hcn := (HN.out.below hW9).cells; have hcm := (HM.out.below hW9).cells; obtain ⟨yN0, yN1, yN2, yN3, yN4, yN5, yN6⟩ := hcn; obtain ⟨yM0, yM1, yM2, yM3, yM4, yM5, yM6⟩ := hcm))
      go_wp2_with fail
      go_ret
      exact ⟨rfl, bvia HL7.out.bel (by with_reducible assumption)⟩
    · have hf1 : (fr != 0) = true := by rw [bne_iff_ne]; exact hf
      clear hq hf
      go_wp2_with fail
      go_ret
      exact ⟨rfl, (HL6.out.on (below_new _ _)).bel⟩
  · have he1 : (er != 0) = true := by rw [bne_iff_ne]; exact he
    clear hq he
    go_wp2_with fail
    go_ret
    exact ⟨rfl, (HL6.out.on (below_new _ _)).bel⟩
theorem law_SyntaxSame (a0 : Option Addr) (len0 cap0 : Nat) (l0 : List UInt8) (a1 : Option Addr) (len1 cap1 : Nat) (l1 : List UInt8) (a2 : Bool) (w : World) (hT : Errs w.heap.size w) (hb0 : BArg w a0 len0 cap0 l0) (hb1 : BArg w a1 len1 cap1 l1) : Calls Tryz.prog 10 #[.slice a0 len0 cap0, .slice a1 len1 cap1, .bool a2] w fun e w' => e = .returned (.bool true) ∧ Below w.heap.size w w' := by
  cases a2 with
  | true => exact same_true a0 len0 cap0 l0 a1 len1 cap1 l1 w hT hb0 hb1
  | false => exact same_false a0 len0 cap0 l0 a1 len1 cap1 l1 w hT hb0 hb1
end Go.Proofs.YtfibhhegfhikmaaGreatDoor
