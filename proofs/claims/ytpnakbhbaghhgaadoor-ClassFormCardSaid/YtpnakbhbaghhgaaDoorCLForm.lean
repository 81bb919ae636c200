/- ClassForm. -/
import Derived.Test.YtpnakbhbaghhgaaDoorCLFacts
set_option linter.unusedVariables false
namespace Go.Proofs.YtpnakbhbaghhgaaDoor
open Go.RowKit

set_option maxRecDepth 20000 in
set_option maxHeartbeats 16000000 in
theorem law_ClassForm (x : Option Addr) (lx cx : Nat) (cut : Int) (w : World) (hT : Tab w) (ha : RunArg w x lx) (hla : lx ≤ 9223372036854775807) (u0 : 0 ≤ cut) (u1 : cut ≤ 255) :
    Calls Tryd.prog 5 #[.slice x lx cx, .int .u8 cut] w fun e w' => e = .returned (.bool true) ∧ Below w.heap.size w w' := by
  have HT := Lib.hid hT
  have Ha := Lib.hid ha
  have bw := Below.refl w.heap.size w
  clear hT ha
  go_enter Tryd.func5, Tryd.ntmps5
  go_wp2_with fail
  refine (class_examples _ HT.out).mono ?_
  rintro e w1 ⟨rfl, hb1⟩
  have HT := Lib.hid (HT.out.below hb1)
  have Ha := Lib.hid (Ha.out.below hb1)
  have bw' := bvia bw hb1
  clear bw hb1
  have bw := bw'
  clear bw'
  go_wp2_with fail
  refine (runs_any x lx cx 12 _ Ha.out (by omega) (by decide)).mono ?_
  rintro e w2 ⟨LX, hlX, hrX, hmk⟩
  obtain ⟨qX, cX, rfl, hX, hb2⟩ := mk_u hmk
  have HRX := Lib.hid hrX
  clear Ha
  have HT := Lib.hid (HT.out.below hb2)
  have bw' := bvia bw hb2
  clear bw hb2 hmk
  have bw := bw'
  clear bw'
  have HX := Lib.hid hX
  clear hX hrX
  have sX : LX.length ≤ 1000 := by omega
  go_wp2_with fail
  obtain ⟨A, eA⟩ : ∃ A, Cl.of LX = A := ⟨_, rfl⟩
  have NA := Lib.hid (eA ▸ Cl.of_nf LX : Cl.NF A)
  have sA : A.length ≤ 12 := by have := Cl.of_len LX; rw [eA] at this; omega
  have EA := Lib.hid eA
  clear eA
  refine (of_at _ _ LX A _ HX.out sX EA.out).mono ?_
  rintro e w3 hmk
  obtain ⟨qA, cA, rfl, hA, hb3⟩ := mk_u hmk
  have HX := Lib.hid (HX.out.below hb3)
  have HT := Lib.hid (HT.out.below hb3)
  have bw' := bvia bw hb3
  clear bw hb3 hmk
  have bw := bw'
  clear bw'
  have HA := Lib.hid hA
  clear hA
  go_wp2_with fail
  go_loopw [8, 9] (fun v i wr => ∃ (k : Nat) (K : List Cl.Rg), i = .int .i64 ((k : Int) - 1) ∧ k ≤ LX.length ∧ K.length + 2 * k ≤ 24 ∧ Hid (Cl.BackAt LX K k) ∧ OwnP wr w3.heap.size 48 v K ∧ Below w3.heap.size w3 wr) (fun _ i _ => (intOf i + 1).toNat)
  case atStart => exact ⟨LX.length, [], by go_num, Nat.le_refl _, by simp; omega, Lib.hid (Cl.backat_end LX), OwnP.nil _ _ _, Below.refl _ _⟩
  case round =>
    obtain ⟨k, K, rfl, hk, hK, hba, hown, br⟩ := hrel
    have HO := Lib.hid hown
    have HBA := Lib.hid hba.out
    clear hown hba
    rcases Nat.eq_zero_or_pos k with h0 | h0
    · subst h0
      clear hk
      obtain ⟨qK, cK, rfl, hpK, _, hrK⟩ := row_q HO.out
      have HK := Lib.hid (show Lv wr qK cK K from ⟨hrK, hpK⟩)
      have EK := Lib.hid (show Cl.of K = A by rw [Cl.backat_of HBA.out, EA.out])
      clear hrK hpK HO HBA
      clear HX
      clear HRX EA
      have HA := Lib.hid (HA.out.below br)
      have HT := Lib.hid (HT.out.below br)
      have bw' := bvia bw br
      clear bw br
      have bw := bw'
      clear bw'
      have hneg : decide ((0 : Int) ≤ ((0 : Nat) : Int) - 1) = false := by decide
      go_wp2_with fail
      refine (of_at _ _ K A _ HK.out (by omega) EK.out).mono ?_
      rintro e w4 hmk
      obtain ⟨qB, cB, rfl, hB, hb4⟩ := mk_u hmk
      have HA := Lib.hid (HA.out.below hb4)
      have HK := Lib.hid (HK.out.below hb4)
      have HT := Lib.hid (HT.out.below hb4)
      have bw' := bvia bw hb4
      clear bw hb4 hmk
      have bw := bw'
      clear bw'
      have HB := Lib.hid hB
      clear hB
      clear HK
      clear hneg EK
      go_wp2_with fail
      go_loopw [13] (fun i wq => ∃ k : Nat, i = .int .i64 (k : Int) ∧ k ≤ A.length ∧ Below w4.heap.size w4 wq) (fun i _ => A.length - (intOf i).toNat)
      case atStart => exact ⟨0, rfl, Nat.zero_le _, Below.refl _ _⟩
      case round =>
        obtain ⟨k, rfl, hk, bq⟩ := hrel
        by_cases hlt : k < A.length
        · obtain ⟨g, off, a, b, hq, hg, hab, c1, c2⟩ := HA.out.1.get hlt
          subst hq
          have c1 := (bq.cell (p := ⟨g, off + k * 2, none⟩) hg).trans c1
          have c2 := (bq.cell (p := ⟨g, off + k * 2 + 1, none⟩) hg).trans c2
          have hkl : (k : Int) < (A.length : Int) := by omega
          have hk0 : (0 : Int) ≤ (k : Int) := by omega
          have hm := NA.out.2 _ (List.mem_of_getElem? hab)
          unfold Cl.may at hm
          simp only at hm
          have hx1 : decide (b < a) = false := decide_eq_false (by omega)
          have hx2 : decide (a < 0) = false := decide_eq_false (by omega)
          have hx3 : decide (1114111 < b) = false := decide_eq_false (by omega)
          rcases Nat.eq_zero_or_pos k with h0 | h0
          · subst h0
            simp only [Nat.zero_mul, Nat.add_zero] at c1 c2
            have hx4 : decide ((0 : Int) < ((0 : Nat) : Int)) = false := by decide
            clear hm hab
            go_wp2_with fail
            go_quiet (fail)
            go_wp2_with fail
            go_roundw
            case rel => exact ⟨0 + 1, by go_num, by omega, bdrewN bq⟩
            case measure => simp [intOf]; omega
          · obtain ⟨j, rfl⟩ : ∃ j, k = j + 1 := ⟨k - 1, by omega⟩
            obtain ⟨g', off', c, d, hpe, hg', hcd, d1, d2⟩ := HA.out.1.get (show j < A.length by omega)
            simp only [Option.some.injEq, Addr.mk.injEq, and_true] at hpe
            obtain ⟨rfl, rfl⟩ := hpe
            have d2 := (bq.cell (p := ⟨g, off + j * 2 + 1, none⟩) hg).trans d2
            have hd := NA.out.2 _ (List.mem_of_getElem? hcd)
            unfold Cl.may at hd
            simp only at hd
            have hdw : IntKind.i32.wrap (d + 1) = d + 1 := IntWalk.i32_in _ ⟨by omega, by omega⟩
            have hx5 : decide (a ≤ d + 1) = false := decide_eq_false (by
              have h1 := (List.pairwise_iff_getElem.1 NA.out.1) j (j + 1) (List.getElem?_eq_some_iff.1 hcd).1 (List.getElem?_eq_some_iff.1 hab).1 (by omega)
              rw [(List.getElem?_eq_some_iff.1 hcd).2, (List.getElem?_eq_some_iff.1 hab).2] at h1
              simp only at h1
              omega)
            have hj0 : (0 : Int) < ((j + 1 : Nat) : Int) := by omega
            have hj1 : IntKind.i64.wrap (((j + 1 : Nat) : Int) - 1) = (j : Int) := (IntWalk.i64_in _ ⟨by omega, by omega⟩).trans (by omega)
            have hj2 : (j : Int) < (A.length : Int) := by omega
            have hj3 : decide ((0 : Int) < ((j + 1 : Nat) : Int)) = true := decide_eq_true hj0
            have hj7 : IntKind.i64.wrap ((j : Int) + 1 - 1) = (j : Int) := (IntWalk.i64_in _ ⟨by omega, by omega⟩).trans (by omega)
            have hj8 : (0 : Int) ≤ (j : Int) := by omega
            have hj4 : (0 : Int) ≤ (j : Int) + 1 := by omega
            have hj5 : (j : Int) + 1 < (A.length : Int) := by omega
            have hj6 : ((j : Int) + 1).toNat = j + 1 := by omega
            clear hm hab hcd hd
            go_wp2_with fail
            go_quiet (fail)
            go_wp2_with fail
            go_roundw
            case rel => exact ⟨j + 1 + 1, by go_num, by omega, bdrewN bq⟩
            case measure => simp [intOf]; omega
        · obtain rfl : k = A.length := by omega
          have HA := Lib.hid (HA.out.below bq)
          have HB := Lib.hid (HB.out.below bq)
          have HT := Lib.hid (HT.out.below bq)
          have bw' := bvia bw bq
          clear bw bq
          have bw := bw'
          clear bw'
          go_wp2_with fail
          refine (same_at _ _ _ _ A A true _ HA.out HB.out (by omega) (by omega) (by simp)).mono ?_
          rintro e w5 ⟨rfl, hb5⟩
          have HA := Lib.hid (HA.out.below hb5)
          have HB := Lib.hid (HB.out.below hb5)
          have HT := Lib.hid (HT.out.below hb5)
          have bw' := bvia bw hb5
          clear bw hb5
          have bw := bw'
          clear bw'
          go_wp2_with fail
          refine (of_at _ _ A A _ HA.out (by omega) (Cl.of_of NA.out)).mono ?_
          rintro e w6 hmk
          obtain ⟨qC, cC, rfl, hC, hb6⟩ := mk_u hmk
          have HA := Lib.hid (HA.out.below hb6)
          have HB := Lib.hid (HB.out.below hb6)
          have HT := Lib.hid (HT.out.below hb6)
          have bw' := bvia bw hb6
          clear bw hb6 hmk
          have bw := bw'
          clear bw'
          have HC := Lib.hid hC
          clear hC
          go_wp2_with fail
          refine (same_at _ _ _ _ A A true _ HC.out HA.out (by omega) (by omega) (by simp)).mono ?_
          rintro e w7 ⟨rfl, hb7⟩
          have HA := Lib.hid (HA.out.below hb7)
          have HB := Lib.hid (HB.out.below hb7)
          have HC := Lib.hid (HC.out.below hb7)
          have HT := Lib.hid (HT.out.below hb7)
          have bw' := bvia bw hb7
          clear bw hb7
          have bw := bw'
          clear bw'
          go_wp2_with fail
          refine (cright_at _ _ A true _ HA.out (by omega) (nf_rin NA.out) (nf_right NA.out (by omega))).mono ?_
          rintro e w8 ⟨rfl, hb8⟩
          have HA := Lib.hid (HA.out.below hb8)
          have HB := Lib.hid (HB.out.below hb8)
          have HC := Lib.hid (HC.out.below hb8)
          have HT := Lib.hid (HT.out.below hb8)
          have bw' := bvia bw hb8
          clear bw hb8
          have bw := bw'
          clear bw'
          go_wp2_with fail
          go_ret
          exact ⟨rfl, bw⟩
    · obtain ⟨j, rfl⟩ : ∃ j, k = j + 1 := ⟨k - 1, by omega⟩
      clear h0
      obtain ⟨g, off, a, b, hq, hg, hab, c1, c2⟩ := HX.out.1.get (show j < LX.length by omega)
      subst hq
      have c1 := (br.cell (p := ⟨g, off + j * 2, none⟩) hg).trans c1
      have c2 := (br.cell (p := ⟨g, off + j * 2 + 1, none⟩) hg).trans c2
      have hab' := HRX.out j (a, b) hab
      simp only at hab'
      have hjl : (j : Int) < (LX.length : Int) := by omega
      have hj0 : (0 : Int) ≤ (j : Int) := by omega
      have hj1 : ((j + 1 : Nat) : Int) - 1 = (j : Int) := by omega
      have hj2 : IntKind.i64.wrap ((j : Int) - 1) = (j : Int) - 1 := IntWalk.i64_in _ ⟨by omega, by omega⟩
      have HAB := Lib.hid hab
      clear hab
      obtain ⟨M, hM⟩ : ∃ M, IntKind.i32.wrap (a + cut % 4) = M := ⟨_, rfl⟩
      have bsz := br.size
      have hbx := box_new wr a b 48
      have t0 := hbx.two.1
      have t1 := hbx.two.2.1
      rw [hj1]
      go_upto_region 11 with fail
      generalize wr.alloc (.cells #[.int .i32 a, .int .i32 b] 48) = wa at hbx t0 t1 ⊢
      have br := bvia br hbx.bel
      have bsz := br.size
      have HO := Lib.hid (HO.out.below hbx.bel)
      clear c1 c2 hbx
      by_cases k1 : 0 ≤ a
      · by_cases k2 : b ≤ 1114111
        · by_cases k3 : a ≤ M
          · by_cases k4 : M < b
            · have hMw : IntKind.i32.wrap (M + 1) = M + 1 := IntWalk.i32_in _ ⟨by omega, by omega⟩
              have HK2 := Lib.hid (Cl.backat_more HBA.out HAB.out (Cl.memM_two k1 k2 k3 k4))
              clear HRX HAB
              go_wp2_with (at_builtin; refine append_row rfl _ _ 24 rfl w3.heap.size 48 Tryd.underlying24 Tryd.infoP _ _ K [(M + 1, b), (a, M)] (some ⟨wa.heap.size, 0, none⟩) 2 rfl (by exact (HO.out.alloc _)) rfl (by exact (lv_new _ _ _ 2 [(M + 1, b), (a, M)] rfl).1) (.inr ⟨_, _, rfl⟩) ?d1 ?d2 ?_)
              case d1 => simp; omega
              case d2 => simp; omega
              · intro v' w' hown' hg'
                have b3 := below_own (Below.alloc br bsz _) (HO.out.alloc _) (Nat.le_refl _) (by simp; omega) hg'
                have HO3 := Lib.hid hown'
                clear hown' hg' HO br t0 t1
                go_wp2_with fail
                go_roundw
                case rel => exact ⟨j, _, by go_num, by omega, by simp; omega, HK2, HO3.out, b3⟩
                case measure => simp [intOf] <;> omega
            · have k4' : decide (M < b) = false := decide_eq_false k4
              have HK2 := Lib.hid (Cl.backat_more HBA.out HAB.out (fun _ => Iff.rfl))
              clear HRX HAB
              go_wp2_with (at_builtin; refine append_pair rfl _ _ 24 rfl w3.heap.size 48 Tryd.underlying24 Tryd.infoP _ _ K _ _ rfl (by exact HO.out) rfl ?d1 ?d2 ?_)
              case d1 => omega
              · intro v' w' hown' hg'
                have b3 := below_own br HO.out (Nat.le_refl _) bsz hg'
                have HO3 := Lib.hid hown'
                clear hown' hg' HO br t0 t1
                go_wp2_with fail
                go_roundw
                case rel => exact ⟨j, _, by go_num, by omega, by simp; omega, HK2, HO3.out, b3⟩
                case measure => simp [intOf] <;> omega
          · have k3' : decide (a ≤ M) = false := decide_eq_false k3
            have HK2 := Lib.hid (Cl.backat_more HBA.out HAB.out (fun _ => Iff.rfl))
            clear HRX HAB
            go_wp2_with (at_builtin; refine append_pair rfl _ _ 24 rfl w3.heap.size 48 Tryd.underlying24 Tryd.infoP _ _ K _ _ rfl (by exact HO.out) rfl ?d1 ?d2 ?_)
            case d1 => omega
            · intro v' w' hown' hg'
              have b3 := below_own br HO.out (Nat.le_refl _) bsz hg'
              have HO3 := Lib.hid hown'
              clear hown' hg' HO br t0 t1
              go_wp2_with fail
              go_roundw
              case rel => exact ⟨j, _, by go_num, by omega, by simp; omega, HK2, HO3.out, b3⟩
              case measure => simp [intOf] <;> omega
        · have k2' : decide (b ≤ 1114111) = false := decide_eq_false k2
          have HK2 := Lib.hid (Cl.backat_more HBA.out HAB.out (fun _ => Iff.rfl))
          clear HRX HAB
          go_wp2_with (at_builtin; refine append_pair rfl _ _ 24 rfl w3.heap.size 48 Tryd.underlying24 Tryd.infoP _ _ K _ _ rfl (by exact HO.out) rfl ?d1 ?d2 ?_)
          case d1 => omega
          · intro v' w' hown' hg'
            have b3 := below_own br HO.out (Nat.le_refl _) bsz hg'
            have HO3 := Lib.hid hown'
            clear hown' hg' HO br t0 t1
            go_wp2_with fail
            go_roundw
            case rel => exact ⟨j, _, by go_num, by omega, by simp; omega, HK2, HO3.out, b3⟩
            case measure => simp [intOf] <;> omega
      · have k1' : decide (0 ≤ a) = false := decide_eq_false k1
        have HK2 := Lib.hid (Cl.backat_more HBA.out HAB.out (fun _ => Iff.rfl))
        clear HRX HAB
        go_wp2_with (at_builtin; refine append_pair rfl _ _ 24 rfl w3.heap.size 48 Tryd.underlying24 Tryd.infoP _ _ K _ _ rfl (by exact HO.out) rfl ?d1 ?d2 ?_)
        case d1 => omega
        · intro v' w' hown' hg'
          have b3 := below_own br HO.out (Nat.le_refl _) bsz hg'
          have HO3 := Lib.hid hown'
          clear hown' hg' HO br t0 t1
          go_wp2_with fail
          go_roundw
          case rel => exact ⟨j, _, by go_num, by omega, by simp; omega, HK2, HO3.out, b3⟩
          case measure => simp [intOf] <;> omega
end Go.Proofs.YtpnakbhbaghhgaaDoor
