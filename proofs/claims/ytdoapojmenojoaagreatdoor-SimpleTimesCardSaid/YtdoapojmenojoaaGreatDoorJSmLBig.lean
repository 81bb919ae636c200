import Derived.Test.YtdoapojmenojoaaGreatDoorJPLF
import Derived.Test.YtdoapojmenojoaaGreatDoorJSimM
set_option linter.unusedSimpArgs false
set_option linter.unusedVariables false
/- SimpleBig: the walk. -/
set_option linter.unusedVariables false
namespace Go.Proofs.YtdoapojmenojoaaGreatDoor
open Go.RowKit
open Sx (Nd)

theorem one_text : Sx.Parsed ⟨#[97]⟩ (Sx.one1 97) 1 0 := by
  refine .ok (Sx.one1 97) 0 (by decide) ?_
  rw [show Sx.toks ⟨#[97]⟩ = [97] by decide +kernel]
  exact Sx.expr_piece (by decide) (by decide) (Sx.piece_plain (Sx.at_letter (by decide) (by decide) _ _) rfl) (Sx.expr_nil _ _ _)
/- a repetition of a node that lies in a block of its own -/
theorem rep_node {w : World} {k : Int} {ka : Option Addr} {ki kj : Nat} {mn mx : Int} {lz : Bool} {g : Int} {kb : Option Addr} {ks kt : Nat} {n : Nd} {B : Nat} (h : NBx w B k ka ki kj mn mx lz g kb ks kt n) {a b : Int} (z : Bool) (ha : I64 a) (hb : I64 b) : NodeV w (nv 8 none 0 0 a b z 0 (some ⟨B, 0, none⟩) 1 1) (.mk 8 [] a b z 0 [n]) :=
  node_row (kids := [n]) ⟨by decide, by decide⟩ ha hb ⟨by decide, by decide⟩ (by simp) (kids_one h)
theorem big_y {n m : Nat} (h : 2 ≤ n) (h' : n ≤ 20) (k : 2 ≤ m) (k' : m ≤ 20) : OfIs (Sx.bigY n m 97) (if n * m + 1 ≤ 400 then Sx.row6 (n * m) 97 else Sx.empty) (if n * m + 1 ≤ 400 then 0 else 3) := by
  have hr : Sx.right (Sx.bigY n m 97) := Sx.bigY_right (by decide) (by decide) h' k'
  have hu := Sx.un_bigY h h' k 97
  by_cases hb : n * m + 1 ≤ 400
  · rw [if_pos hb] at hu ⊢
    rw [if_pos hb]; exact .inl ⟨hr, hu, rfl⟩
  · rw [if_neg hb] at hu ⊢
    rw [if_neg hb]; exact .inr (.inl ⟨hr, hu, rfl, rfl⟩)
theorem big_z {n m : Nat} (h : 2 ≤ n) (h' : n ≤ 20) (k : 2 ≤ m) (k' : m ≤ 20) : OfIs (Sx.bigZ n m 97) Sx.empty (if n * m + 1 ≤ 400 then 0 else 3) := by
  have hr : Sx.right (Sx.bigZ n m 97) := Sx.bigZ_right (by decide) (by decide) h' k'
  have hu := Sx.un_bigZ h h' k 97
  by_cases hb : n * m + 1 ≤ 400
  · rw [if_pos hb] at hu ⊢
    exact .inl ⟨hr, hu, rfl⟩
  · rw [if_neg hb] at hu ⊢
    exact .inr (.inl ⟨hr, hu, rfl, rfl⟩)
theorem big_small (n m : Nat) : nsz (Sx.bigY n m 97) ≤ 10 ∧ nsz (Sx.bigZ n m 97) ≤ 10 := by
  constructor <;> simp [Sx.bigZ, Sx.bigY, Sx.bigX, Sx.one1, Sx.oneN, nsz, nszs]
set_option maxRecDepth 20000 in
set_option maxHeartbeats 4000000 in
theorem law_SimpleBig (a0 a1 : Int) (w : World) (hT : Errs w.heap.size w) (h00 : 0 ≤ a0) (h01 : a0 ≤ 255) (h10 : 0 ≤ a1) (h11 : a1 ≤ 255) : Calls Tryz.prog 11 #[.int .u8 a0, .int .u8 a1] w fun e w' => e = .returned (.bool true) ∧ Below w.heap.size w w' := by
  obtain ⟨n, hn0⟩ : ∃ n : Nat, 2 + a0 % 19 = (n : Int) := ⟨(2 + a0 % 19).toNat, by omega⟩
  obtain ⟨m, hm0⟩ : ∃ m : Nat, 2 + a1 % 19 = (m : Int) := ⟨(2 + a1 % 19).toNat, by omega⟩
  have hn2 : 2 ≤ n := by omega
  have hn20 : n ≤ 20 := by omega
  have hm2 : 2 ≤ m := by omega
  have hm20 : m ≤ 20 := by omega
  have HL0 := Lib.hid (show Lw w.heap.size w w from ⟨hT, Nat.le_refl _, Below.refl _ _⟩)
  clear hT
  go_enter Tryz.func11, Tryz.ntmps11
  go_wp2_with fail
  refine (sexamples_any _ HL0.out).mono ?_
  rintro e w1 ⟨rfl, hb1⟩
  have HLa := Lib.hid (HL0.out.on hb1)
  clear HL0 hb1
  have HL0 := HLa
  clear HLa
  go_wp2_with fail
  clear hn0 hm0 h00 h01 h10 h11
  refine (pk_any _ one_text HL0.out (by decide)).mono ?_
  rintro e w1 ⟨kN, kaN, kiN, kjN, mnN, mxN, lzN, gN, kbN, ksN, ktN, rfl, hn, hb1⟩
  have HL1 := Lib.hid (HL0.out.on hb1)
  clear hb1
  go_upto_region 7 with fail
  have HN := Lib.hid (NBx.new hn)
  have hbv := below_new w1 (nc kN kaN kiN kjN mnN mxN lzN gN kbN ksN ktN)
  have HL2 := Lib.hid (HL1.out.on hbv)
  clear HL1
  clear hn hbv
  generalize w1.alloc (nc kN kaN kiN kjN mnN mxN lzN gN kbN ksN ktN) = v1 at *
  generalize w1.heap.size = bN at *
  obtain ⟨cN0, cN1, cN2, cN3, cN4, cN5, cN6⟩ := HN.out.cells
  have qN : ¬ bN = v1.heap.size := Nat.ne_of_lt HN.out.lt
  have rN := HN.out.lt
  go_upto_region 8 with fail
  clear cN0 cN1 cN2 cN3 cN4 cN5 cN6
  clear qN rN
  have hk := NBx.new HN.out.nd
  have hx := rep_node hk (a := (n : Int)) (b := (n : Int)) false ⟨by omega, by omega⟩ ⟨by omega, by omega⟩
  have hbv := bvia (below_new v1 (nc kN kaN kiN kjN mnN mxN lzN gN kbN ksN ktN)) (below_new (v1.alloc (nc kN kaN kiN kjN mnN mxN lzN gN kbN ksN ktN)) (nc 8 none 0 0 (n : Int) (n : Int) false 0 (some ⟨v1.heap.size, 0, none⟩) 1 1))
  have hxx := NBx.new hx
  have he : (v1.alloc (nc kN kaN kiN kjN mnN mxN lzN gN kbN ksN ktN)).heap.size = v1.heap.size + 1 := by simp
  rw [he] at hxx
  have HL3 := Lib.hid (HL2.out.on hbv)
  clear HL2
  replace HN := Lib.hid (HN.out.below hbv)
  have HX := Lib.hid hxx
  clear hbv hxx hx hk he
  generalize (v1.alloc (nc kN kaN kiN kjN mnN mxN lzN gN kbN ksN ktN)).alloc (nc 8 none 0 0 (n : Int) (n : Int) false 0 (some ⟨v1.heap.size, 0, none⟩) 1 1) = vX at *
  generalize v1.heap.size + 1 = bX at *
  generalize v1.heap.size = cX0 at *
  obtain ⟨cX0, cX1, cX2, cX3, cX4, cX5, cX6⟩ := HX.out.cells
  have qX : ¬ bX = vX.heap.size := Nat.ne_of_lt HX.out.lt
  have rX := HX.out.lt
  go_upto_region 9 with fail
  clear cX0 cX1 cX2 cX3 cX4 cX5 cX6
  clear qX rX
  have hk := NBx.new HX.out.nd
  have hx := rep_node hk (a := (m : Int)) (b := (m : Int)) false ⟨by omega, by omega⟩ ⟨by omega, by omega⟩
  have hbv := bvia (below_new vX (nc 8 none 0 0 (n : Int) (n : Int) false 0 (some ⟨cX0, 0, none⟩) 1 1)) (below_new (vX.alloc (nc 8 none 0 0 (n : Int) (n : Int) false 0 (some ⟨cX0, 0, none⟩) 1 1)) (nc 8 none 0 0 (m : Int) (m : Int) false 0 (some ⟨vX.heap.size, 0, none⟩) 1 1))
  have hxx := NBx.new hx
  have he : (vX.alloc (nc 8 none 0 0 (n : Int) (n : Int) false 0 (some ⟨cX0, 0, none⟩) 1 1)).heap.size = vX.heap.size + 1 := by simp
  rw [he] at hxx
  have HL4 := Lib.hid (HL3.out.on hbv)
  clear HL3
  replace HN := Lib.hid (HN.out.below hbv)
  replace HX := Lib.hid (HX.out.below hbv)
  have HY := Lib.hid hxx
  clear hbv hxx hx hk he
  generalize (vX.alloc (nc 8 none 0 0 (n : Int) (n : Int) false 0 (some ⟨cX0, 0, none⟩) 1 1)).alloc (nc 8 none 0 0 (m : Int) (m : Int) false 0 (some ⟨vX.heap.size, 0, none⟩) 1 1) = vY at *
  generalize vX.heap.size + 1 = bY at *
  generalize vX.heap.size = cY0 at *
  obtain ⟨cY0, cY1, cY2, cY3, cY4, cY5, cY6⟩ := HY.out.cells
  have qY : ¬ bY = vY.heap.size := Nat.ne_of_lt HY.out.lt
  have rY := HY.out.lt
  go_upto_region 10 with fail
  clear cY0 cY1 cY2 cY3 cY4 cY5 cY6
  clear qY rY
  have hk := NBx.new HY.out.nd
  have hx := rep_node hk (a := 0) (b := 0) false ⟨by omega, by omega⟩ ⟨by omega, by omega⟩
  have hbv := bvia (below_new vY (nc 8 none 0 0 (m : Int) (m : Int) false 0 (some ⟨cY0, 0, none⟩) 1 1)) (below_new (vY.alloc (nc 8 none 0 0 (m : Int) (m : Int) false 0 (some ⟨cY0, 0, none⟩) 1 1)) (nc 8 none 0 0 0 0 false 0 (some ⟨vY.heap.size, 0, none⟩) 1 1))
  have hxx := NBx.new hx
  have he : (vY.alloc (nc 8 none 0 0 (m : Int) (m : Int) false 0 (some ⟨cY0, 0, none⟩) 1 1)).heap.size = vY.heap.size + 1 := by simp
  rw [he] at hxx
  have HL5 := Lib.hid (HL4.out.on hbv)
  clear HL4
  replace HN := Lib.hid (HN.out.below hbv)
  replace HX := Lib.hid (HX.out.below hbv)
  replace HY := Lib.hid (HY.out.below hbv)
  have HZ := Lib.hid hxx
  clear hbv hxx hx hk he
  generalize (vY.alloc (nc 8 none 0 0 (m : Int) (m : Int) false 0 (some ⟨cY0, 0, none⟩) 1 1)).alloc (nc 8 none 0 0 0 0 false 0 (some ⟨vY.heap.size, 0, none⟩) 1 1) = vZ at *
  generalize vY.heap.size + 1 = bZ at *
  generalize vY.heap.size = cZ0 at *
  have hpm : n * m ≤ 20 * 20 := Nat.mul_le_mul hn20 hm20
  obtain ⟨p, hp⟩ : ∃ p, p = n * m := ⟨_, rfl⟩
  have hmul : IntKind.i64.wrap ((n : Int) * (m : Int)) = (p : Int) := by rw [IntWalk.i64_in _ (by rw [← Int.natCast_mul, ← hp]; omega), ← Int.natCast_mul, ← hp]
  have hY := big_y hn2 hn20 hm2 hm20
  have hZ := big_z hn2 hn20 hm2 hm20
  have hYs := (big_small n m).1
  have hZs := (big_small n m).2
  rw [← hp] at hpm hY hZ
  have HP := Lib.hid hp
  clear hp
  by_cases hb : p + 1 ≤ 400
  · rw [if_pos hb, if_pos hb] at hY
    rw [if_pos hb] at hZ
    have HOY := Lib.hid hY
    have HOZ := Lib.hid hZ
    have HYS := Lib.hid hYs
    have HZS := Lib.hid hZs
    have hgt : ¬ ((p : Int) + 1 > 400) := by omega
    have hgd : decide ((400 : Int) < (p : Int) + 1) = false := by rw [decide_eq_false_iff_not]; omega
    clear hY hZ hYs hZs
    obtain ⟨cY0, cY1, cY2, cY3, cY4, cY5, cY6⟩ := HY.out.cells
    go_wp2_with fail
    refine (po_any _ HY.out.nd HOY.out (by have := HYS.out; exact Nat.le_trans this (by decide))).mono ?_
    rintro e w6 ⟨kP, kaP, kiP, kjP, mnP, mxP, lzP, gP, kbP, ksP, ktP, rfl, hn, hb6⟩
    clear cY0 cY1 cY2 cY3 cY4 cY5 cY6
    have HL6 := Lib.hid (HL5.out.on hb6)
    clear HL5
    replace HN := Lib.hid (HN.out.below hb6)
    replace HX := Lib.hid (HX.out.below hb6)
    replace HY := Lib.hid (HY.out.below hb6)
    replace HZ := Lib.hid (HZ.out.below hb6)
    clear hb6
    obtain ⟨cZ0, cZ1, cZ2, cZ3, cZ4, cZ5, cZ6⟩ := HZ.out.cells
    have qZ : ¬ bZ = w6.heap.size := Nat.ne_of_lt HZ.out.lt
    have rZ := HZ.out.lt
    go_wp2_with fail
    clear cZ0 cZ1 cZ2 cZ3 cZ4 cZ5 cZ6
    clear qZ rZ
    have HP := Lib.hid (NBx.new hn)
    have hbv := below_new w6 (nc kP kaP kiP kjP mnP mxP lzP gP kbP ksP ktP)
    have HL7 := Lib.hid (HL6.out.on hbv)
    clear HL6
    replace HN := Lib.hid (HN.out.below hbv)
    replace HX := Lib.hid (HX.out.below hbv)
    replace HY := Lib.hid (HY.out.below hbv)
    replace HZ := Lib.hid (HZ.out.below hbv)
    clear hn hbv
    generalize w6.alloc (nc kP kaP kiP kjP mnP mxP lzP gP kbP ksP ktP) = v6 at *
    generalize w6.heap.size = bP at *
    refine (po_any _ HZ.out.nd HOZ.out (by have := HZS.out; exact Nat.le_trans this (by decide))).mono ?_
    rintro e w8 ⟨kQ, kaQ, kiQ, kjQ, mnQ, mxQ, lzQ, gQ, kbQ, ksQ, ktQ, rfl, hn, hb8⟩
    have HL8 := Lib.hid (HL7.out.on hb8)
    clear HL7
    replace HN := Lib.hid (HN.out.below hb8)
    replace HX := Lib.hid (HX.out.below hb8)
    replace HY := Lib.hid (HY.out.below hb8)
    replace HZ := Lib.hid (HZ.out.below hb8)
    replace HP := Lib.hid (HP.out.below hb8)
    clear hb8
    obtain ⟨rfl, rfl⟩ := nv_empty hn
    have hn2q := hn
    obtain ⟨cP0, cP1, cP2, cP3, cP4, cP5, cP6⟩ := HP.out.cells
    have qP : ¬ bP = w8.heap.size := Nat.ne_of_lt HP.out.lt
    have rP := HP.out.lt
    go_wp2_with fail
    clear cP0 cP1 cP2 cP3 cP4 cP5 cP6
    clear qP rP
    have HQ := Lib.hid (NBx.new hn)
    have hbv := below_new w8 (nc 0 kaQ kiQ kjQ mnQ mxQ lzQ gQ kbQ 0 ktQ)
    have HL9 := Lib.hid (HL8.out.on hbv)
    clear HL8
    replace HN := Lib.hid (HN.out.below hbv)
    replace HX := Lib.hid (HX.out.below hbv)
    replace HY := Lib.hid (HY.out.below hbv)
    replace HZ := Lib.hid (HZ.out.below hbv)
    replace HP := Lib.hid (HP.out.below hbv)
    clear hn hbv
    generalize w8.alloc (nc 0 kaQ kiQ kjQ mnQ mxQ lzQ gQ kbQ 0 ktQ) = v8 at *
    generalize w8.heap.size = bQ at *
    obtain ⟨cP0, cP1, cP2, cP3, cP4, cP5, cP6⟩ := HP.out.cells
    obtain ⟨cQ0, cQ1, cQ2, cQ3, cQ4, cQ5, cQ6⟩ := HQ.out.cells
    refine (size_at (g := (p : Int) + 1) _ HP.out.nd (by rw [Sx.row6_size]; omega) (by rw [Sx.row6_size]; omega)).mono ?_
    rintro e w10 ⟨rfl, hb10⟩
    clear cP0 cP1 cP2 cP3 cP4 cP5 cP6 cQ0 cQ1 cQ2 cQ3 cQ4 cQ5 cQ6
    have HL10 := Lib.hid (HL9.out.on hb10)
    clear HL9
    replace HN := Lib.hid (HN.out.below hb10)
    replace HX := Lib.hid (HX.out.below hb10)
    replace HY := Lib.hid (HY.out.below hb10)
    replace HZ := Lib.hid (HZ.out.below hb10)
    replace HP := Lib.hid (HP.out.below hb10)
    replace HQ := Lib.hid (HQ.out.below hb10)
    clear hb10
    obtain ⟨cQ0, cQ1, cQ2, cQ3, cQ4, cQ5, cQ6⟩ := HQ.out.cells
    go_wp2_with fail
    go_ret
    exact ⟨rfl, HL10.out.bel⟩
  · rw [if_neg hb, if_neg hb] at hY
    rw [if_neg hb] at hZ
    have HOY := Lib.hid hY
    have HOZ := Lib.hid hZ
    have HYS := Lib.hid hYs
    have HZS := Lib.hid hZs
    have hgt : (p : Int) + 1 > 400 := by omega
    have hgd : decide ((400 : Int) < (p : Int) + 1) = true := by rw [decide_eq_true_iff]; omega
    clear hY hZ hYs hZs
    obtain ⟨cY0, cY1, cY2, cY3, cY4, cY5, cY6⟩ := HY.out.cells
    go_wp2_with fail
    refine (po_any _ HY.out.nd HOY.out (by have := HYS.out; exact Nat.le_trans this (by decide))).mono ?_
    rintro e w6 ⟨kP, kaP, kiP, kjP, mnP, mxP, lzP, gP, kbP, ksP, ktP, rfl, hn, hb6⟩
    clear cY0 cY1 cY2 cY3 cY4 cY5 cY6
    have HL6 := Lib.hid (HL5.out.on hb6)
    clear HL5
    replace HN := Lib.hid (HN.out.below hb6)
    replace HX := Lib.hid (HX.out.below hb6)
    replace HY := Lib.hid (HY.out.below hb6)
    replace HZ := Lib.hid (HZ.out.below hb6)
    clear hb6
    obtain ⟨cZ0, cZ1, cZ2, cZ3, cZ4, cZ5, cZ6⟩ := HZ.out.cells
    have qZ : ¬ bZ = w6.heap.size := Nat.ne_of_lt HZ.out.lt
    have rZ := HZ.out.lt
    go_wp2_with fail
    clear cZ0 cZ1 cZ2 cZ3 cZ4 cZ5 cZ6
    clear qZ rZ
    have HP := Lib.hid (NBx.new hn)
    have hbv := below_new w6 (nc kP kaP kiP kjP mnP mxP lzP gP kbP ksP ktP)
    have HL7 := Lib.hid (HL6.out.on hbv)
    clear HL6
    replace HN := Lib.hid (HN.out.below hbv)
    replace HX := Lib.hid (HX.out.below hbv)
    replace HY := Lib.hid (HY.out.below hbv)
    replace HZ := Lib.hid (HZ.out.below hbv)
    clear hn hbv
    generalize w6.alloc (nc kP kaP kiP kjP mnP mxP lzP gP kbP ksP ktP) = v6 at *
    generalize w6.heap.size = bP at *
    refine (po_any _ HZ.out.nd HOZ.out (by have := HZS.out; exact Nat.le_trans this (by decide))).mono ?_
    rintro e w8 ⟨kQ, kaQ, kiQ, kjQ, mnQ, mxQ, lzQ, gQ, kbQ, ksQ, ktQ, rfl, hn, hb8⟩
    have HL8 := Lib.hid (HL7.out.on hb8)
    clear HL7
    replace HN := Lib.hid (HN.out.below hb8)
    replace HX := Lib.hid (HX.out.below hb8)
    replace HY := Lib.hid (HY.out.below hb8)
    replace HZ := Lib.hid (HZ.out.below hb8)
    replace HP := Lib.hid (HP.out.below hb8)
    clear hb8
    obtain ⟨rfl, rfl⟩ := nv_empty hn
    go_wp2_with fail
    have HQ := Lib.hid (NBx.new hn)
    have hbv := below_new w8 (nc 0 kaQ kiQ kjQ mnQ mxQ lzQ gQ kbQ 0 ktQ)
    have HL9 := Lib.hid (HL8.out.on hbv)
    clear HL8
    replace HN := Lib.hid (HN.out.below hbv)
    replace HX := Lib.hid (HX.out.below hbv)
    replace HY := Lib.hid (HY.out.below hbv)
    replace HZ := Lib.hid (HZ.out.below hbv)
    replace HP := Lib.hid (HP.out.below hbv)
    clear hn hbv
    generalize w8.alloc (nc 0 kaQ kiQ kjQ mnQ mxQ lzQ gQ kbQ 0 ktQ) = v8 at *
    generalize w8.heap.size = bQ at *
    go_ret
    exact ⟨rfl, HL9.out.bel⟩
end Go.Proofs.YtdoapojmenojoaaGreatDoor
