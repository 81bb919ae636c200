/- VaryPads, the other byte 0. -/
import Derived.Test.YtimfgefpcbnalaaWPads
set_option linter.unusedVariables false
namespace Go.Proofs.Ytimfgefpcbnalaa
open Go.RowKit

set_option maxRecDepth 20000 in
set_option maxHeartbeats 4000000 in
theorem pads_walk0 (many by' e : Int) (x : UInt8) (a : Option Addr) (len cap : Nat) (w : World) (m0 : 0 ≤ many) (m1 : many ≤ 255) (hx : (x.toNat : Int) = by') (e0 : 0 ≤ e) (e1 : e ≤ 255)
    (hl : len ≤ 9223372036854775807) (hD : DArg w a len) (hx0 : x.toNat = 0) :
    Calls Try.prog 7 #[.int .u8 many, .int .u8 by', .int .u8 e, .slice a len cap] w fun e w' => e = .returned (.bool true) ∧ Below w.heap.size w w' := by
  subst hx
  obtain ⟨n, hn⟩ : ∃ n : Nat, many % 20 = (n : Int) := ⟨(many % 20).toNat, by rw [Int.toNat_of_nonneg (Int.emod_nonneg _ (by omega))]⟩
  obtain ⟨E, hE⟩ : ∃ E : Int, 1 + e % 14 = E := ⟨_, rfl⟩
  have n20 : n < 20 := by omega
  have E1 : 1 ≤ E := by omega
  have E14 : E ≤ 14 := by omega
  have c1 := u8_lt x
  have x2 : ((x.toNat : Int) == 0) = true := by rw [beq_iff_eq]; omega
  have x3 : ((x.toNat : Int) != 0) = false := by rw [bne_eq_false_iff_eq]; omega
  obtain ⟨Z, hZ⟩ : ∃ Z : ByteArray, Vr.str (List.replicate n 0) = Z := ⟨_, rfl⟩
  have hZs : Z.size = n := by rw [← hZ, Vr.str_size, List.length_replicate]
  have pa := Vr.pad_a n
  have pb := Vr.pad_b0 n x hx0
  have pc := Vr.pad_c n
  rw [hZ] at pa pb pc
  have sa : (Z ++ (⟨#[120]⟩ : ByteArray)).size ≤ maxLen := by rw [ByteArray.size_append]; show Z.size + 1 ≤ _; unfold maxLen; omega
  have sb : (Z ++ (⟨#[x]⟩ : ByteArray)).size ≤ maxLen := by rw [ByteArray.size_append]; show Z.size + 1 ≤ _; unfold maxLen; omega
  have sc : Z.size ≤ maxLen := by unfold maxLen; omega
  have PA := Lib.hid pa
  have PB := Lib.hid pb
  have PC := Lib.hid pc
  have SA := Lib.hid sa
  have SB := Lib.hid sb
  have SC := Lib.hid sc
  have HD := Lib.hid hD
  have HE := Lib.hid hE
  have hZ2 : Z.size ≤ 19 := by omega
  clear pa pb pc sa sb sc hD hZs hE hx0
  go_enter Try.func7, Try.ntmps7
  go_wp2_with fail
  refine (vary_examples _).mono ?_
  rintro e w1 ⟨rfl, hw1⟩
  have zw1 := hw1.size
  try simp at zw1
  go_wp2_with fail
  obtain ⟨w2, hr, hz2, hb2, hB2⟩ := make_bytes_spec (P := Try.prog) w1 53 5 n Try.uBytes (by kernel_rfl) (by omega)
  have sr := string_spec (P := Try.prog) w2 53 9 5 w1.heap.size n n (List.replicate n 0) Try.uBytes Try.underlying5 Try.underlying9 hB2.1 (by simp)
  rw [show (⟨(List.replicate n (0 : UInt8)).toArray⟩ : ByteArray) = Z from hZ] at sr
  rw [hr]
  have hb3 : Below w.heap.size w w2 := (by repeat' (first | exact Below.refl _ _ | (refine Below.drew ?_) | (refine Below.alloc ?_ (by first | omega | (simp <;> omega)) _) | (refine Below.setCell ?_ (by first | omega | (simp <;> omega)) _) | (refine Below.trans ?_ (Below.mono (by assumption) (by first | omega | (simp <;> omega))))))
  have hs3 := hb3.size
  clear hB2 hr hz2 hb2 hw1 zw1 hZ
  go_wp2_with fail
  clear sr
  refine (pad_at _ ⟨#[120]⟩ 0 0 n _ SA.out PA.out).mono ?_
  rintro e w4 ⟨rfl, hw4⟩
  have zw4 := hw4.size
  try simp at zw4
  go_wp2_with fail
  have ho : ∀ o1 : Obj, ((w4.alloc o1).alloc (.cells #[.int .u8 (x.toNat : Int)] 5)).cell? ⟨w4.heap.size + 1, 0, none⟩ = some (.int .u8 (x.toNat : Int)) := by intro o1; simp
  rw [one_string' _ _ x (ho _)]
  clear ho
  go_wp2_with fail
  refine (pad_at _ ⟨#[]⟩ 0 0 ((n : Int) + 1) _ SB.out PB.out).mono ?_
  rintro e w5 ⟨rfl, hw5⟩
  have zw5 := hw5.size
  try simp at zw5
  have zw5_0 : w4.heap.size < w5.heap.size := by omega
  have cw5_0 := fun o => hw5.cell (p := ⟨w4.heap.size, o, none⟩) (by first | omega | (simp <;> omega))
  have fw5_0 := fun o => hw5.frozen (p := ⟨w4.heap.size, o, none⟩) (by first | omega | (simp <;> omega))
  go_wp2_with fail
  refine (pad_at _ ⟨#[]⟩ 0 4 ((n : Int) + 1) _ SC.out PC.out).mono ?_
  rintro e w6 ⟨rfl, hw6⟩
  have zw6 := hw6.size
  try simp at zw6
  have zw6_0 : w4.heap.size < w6.heap.size := by omega
  have cw6_0 := fun o => hw6.cell (p := ⟨w4.heap.size, o, none⟩) (by first | omega | (simp <;> omega))
  have fw6_0 := fun o => hw6.frozen (p := ⟨w4.heap.size, o, none⟩) (by first | omega | (simp <;> omega))
  have zw6_1 : w5.heap.size < w6.heap.size := by omega
  have cw6_1 := fun o => hw6.cell (p := ⟨w5.heap.size, o, none⟩) (by first | omega | (simp <;> omega))
  have fw6_1 := fun o => hw6.frozen (p := ⟨w5.heap.size, o, none⟩) (by first | omega | (simp <;> omega))
  go_wp2_with fail
  have hP0 : ∀ o1 : Obj, PadAt (w6.heap.size + 1) E w ((w6.alloc o1).alloc (.cells #[.string ⟨#[97, 98, 99]⟩, .int .i64 (1 + e % 14)] 24)) := by
    intro o1
    refine ⟨⟨⟨#[97, 98, 99]⟩, by decide, by simp⟩, by simp [HE.out], by simp, by simp, ?_, by omega, by simp⟩
    exact (by repeat' (first | exact Below.refl _ _ | (refine Below.drew ?_) | (refine Below.alloc ?_ (by first | omega | (simp <;> omega)) _) | (refine Below.setCell ?_ (by first | omega | (simp <;> omega)) _) | (refine Below.trans ?_ (Below.mono (by assumption) (by first | omega | (simp <;> omega))))))
  have hz6 : w.heap.size ≤ w6.heap.size := by omega
  clear hw4 hw5 hw6 cw5_0 cw6_0 cw6_1 fw5_0 fw6_0 fw6_1 hb3
  generalize w6.heap.size + 1 = g at *
  go_loopw [16] (fun i wr => ∃ k : Nat, k ≤ len ∧ i = .int .i64 k ∧ PadAt g E w wr) (fun i _ => len - (intOf i).toNat)
  case atStart => exact ⟨0, Nat.zero_le _, rfl, hP0 _⟩
  case round =>
    obtain ⟨k, hk, rfl, hP⟩ := hrel
    clear hP0
    by_cases hlt : k < len ∧ k < 6
    · obtain ⟨hlt, hlt6⟩ := hlt
      obtain ⟨⟨s0, hs0, p0⟩, p1, f0, f1, hbw, hgw, hgz⟩ := hP
      have hs0' : s0.size ≤ maxLen := by unfold maxLen; omega
      have S0 := Lib.hid hs0'
      have hnE : ¬ E = 0 := by omega
      rcases HD.out with hd | ⟨b, off, rfl, hbl, hd⟩
      · omega
      obtain ⟨kd, nd, k0, k1, n0, n1, d0, d1⟩ := hd k hlt
      have d0' := (hbw.cell (p := ⟨b, off + k * 2, none⟩) hbl).trans d0
      have d1' := (hbw.cell (p := ⟨b, off + k * 2 + 1, none⟩) hbl).trans d1
      have NX := Lib.hid (Vr.next_err s0 hnE)
      have NE := Lib.hid hnE
      have hE' : E ≤ 9223372036854775807 := by omega
      clear d0 d1 hd hs0' hnE
      obtain ⟨kk, hkk⟩ : ∃ kk : Int, kd % 4 = kk := ⟨_, rfl⟩
      have kb : 0 ≤ kk ∧ kk ≤ 3 := by omega
      rcases (show kk = 0 ∨ kk = 1 ∨ kk = 2 ∨ kk = 3 by omega) with rfl | rfl | rfl | rfl
      · go_wp2_with fail
        refine (next_at s0 ⟨#[]⟩ E E 0 _ S0.out NX.out).mono ?_
        rintro e' w7 ⟨rfl, hw7⟩
        have q0 := (hw7.cell (p := ⟨g, 0, none⟩) hgz).trans p0
        have q1 := (hw7.cell (p := ⟨g, 1, none⟩) hgz).trans p1
        have f2 := (hw7.frozen (p := ⟨g, 0, none⟩) hgz).trans f0
        have f3 := (hw7.frozen (p := ⟨g, 1, none⟩) hgz).trans f1
        have hq := pad_done hw7 hgz p0 p1 f0 f1 hbw hgw
        go_wp2_with fail
        clear q0 q1 f2 f3 hw7 d0' d1' p0 p1 f0 f1 hbw
        generalize (w7.setCell ⟨g, 0, none⟩ (.string ⟨#[]⟩)).setCell ⟨g, 1, none⟩ (.int .i64 E) = w8 at *
        unfold PadDone at hq
        have r1 : e.tmod 14 = E - 1 := by rw [Int.tmod_eq_emod_of_nonneg e0]; have := HE.out; omega
        have r2 : IntKind.u8.wrap (E - 1) = E - 1 := IntWalk.u8_in _ ⟨by omega, by omega⟩
        have r3 : IntKind.u8.wrap (1 + (E - 1)) = E := (IntWalk.u8_in _ ⟨by omega, by omega⟩).trans (by omega)
        have r4 : IntKind.i64.wrap E = E := IntWalk.i64_in _ ⟨by omega, by omega⟩
        have fE : Vr.fin ⟨#[]⟩ E = E := Vr.fin_err NE.out
        have FE := Lib.hid fE
        clear fE
        go_region_held3 (fun w' => w'.cell? ⟨g, 0, none⟩ = some (.string ⟨#[]⟩) ∧ w'.cell? ⟨g, 1, none⟩ = some (.int .i64 E) ∧ w'.frozen? ⟨g, 0, none⟩ = false ∧ w'.frozen? ⟨g, 1, none⟩ = false ∧ Below w.heap.size w w' ∧ g < w'.heap.size) (first | assumption | (refine pd_drew ?_; assumption) | (refine pd_call (by assumption) ?_; assumption))
          (first | (go_at_call 23; refine (end_at _ E E _ FE.out).mono ?_; rintro e' w9 ⟨rfl, hw9⟩))
        have hq2 : w9.cell? ⟨g, 0, none⟩ = some (.string ⟨#[]⟩) ∧ w9.cell? ⟨g, 1, none⟩ = some (.int .i64 E) ∧ w9.frozen? ⟨g, 0, none⟩ = false ∧ w9.frozen? ⟨g, 1, none⟩ = false ∧ Below w.heap.size w w9 ∧ g < w9.heap.size := by assumption
        clear r1 r2 r3 r4
        go_wp2_with fail
        go_roundw
        case rel => exact ⟨k + 1, by omega, by go_num, pad_at_of hgw hq2⟩
        case measure => simp [intOf]; omega
      · go_wp2_with fail
        refine (text_at s0 ⟨#[]⟩ ⟨#[]⟩ E E 9 _ S0.out (Vr.text_err s0 NE.out 9)).mono ?_
        rintro e' w7 ⟨rfl, hw7⟩
        have q0 := (hw7.cell (p := ⟨g, 0, none⟩) hgz).trans p0
        have q1 := (hw7.cell (p := ⟨g, 1, none⟩) hgz).trans p1
        have f2 := (hw7.frozen (p := ⟨g, 0, none⟩) hgz).trans f0
        have f3 := (hw7.frozen (p := ⟨g, 1, none⟩) hgz).trans f1
        have hq := pad_done hw7 hgz p0 p1 f0 f1 hbw hgw
        go_wp2_with fail
        clear q0 q1 f2 f3 hw7 d0' d1' p0 p1 f0 f1 hbw
        generalize (w7.setCell ⟨g, 0, none⟩ (.string ⟨#[]⟩)).setCell ⟨g, 1, none⟩ (.int .i64 E) = w8 at *
        unfold PadDone at hq
        have r1 : e.tmod 14 = E - 1 := by rw [Int.tmod_eq_emod_of_nonneg e0]; have := HE.out; omega
        have r2 : IntKind.u8.wrap (E - 1) = E - 1 := IntWalk.u8_in _ ⟨by omega, by omega⟩
        have r3 : IntKind.u8.wrap (1 + (E - 1)) = E := (IntWalk.u8_in _ ⟨by omega, by omega⟩).trans (by omega)
        have r4 : IntKind.i64.wrap E = E := IntWalk.i64_in _ ⟨by omega, by omega⟩
        have fE : Vr.fin ⟨#[]⟩ E = E := Vr.fin_err NE.out
        have FE := Lib.hid fE
        clear fE
        go_region_held3 (fun w' => w'.cell? ⟨g, 0, none⟩ = some (.string ⟨#[]⟩) ∧ w'.cell? ⟨g, 1, none⟩ = some (.int .i64 E) ∧ w'.frozen? ⟨g, 0, none⟩ = false ∧ w'.frozen? ⟨g, 1, none⟩ = false ∧ Below w.heap.size w w' ∧ g < w'.heap.size) (first | assumption | (refine pd_drew ?_; assumption) | (refine pd_call (by assumption) ?_; assumption))
          (first | (go_at_call 23; refine (end_at _ E E _ FE.out).mono ?_; rintro e' w9 ⟨rfl, hw9⟩))
        have hq2 : w9.cell? ⟨g, 0, none⟩ = some (.string ⟨#[]⟩) ∧ w9.cell? ⟨g, 1, none⟩ = some (.int .i64 E) ∧ w9.frozen? ⟨g, 0, none⟩ = false ∧ w9.frozen? ⟨g, 1, none⟩ = false ∧ Below w.heap.size w w9 ∧ g < w9.heap.size := by assumption
        clear r1 r2 r3 r4
        go_wp2_with fail
        go_roundw
        case rel => exact ⟨k + 1, by omega, by go_num, pad_at_of hgw hq2⟩
        case measure => simp [intOf]; omega
      · go_wp2_with fail
        go_region_with (go_at_call 19; refine (bytes_at s0 ⟨#[]⟩ ⟨#[]⟩ E E nd _ (Vr.bytes_err s0 nd NE.out)).mono ?_; rintro e' w7 ⟨rfl, hw7⟩; have q0 := (hw7.cell (p := ⟨g, 0, none⟩) hgz).trans p0; have q1 := (hw7.cell (p := ⟨g, 1, none⟩) hgz).trans p1; have f2 := (hw7.frozen (p := ⟨g, 0, none⟩) hgz).trans f0; have f3 := (hw7.frozen (p := ⟨g, 1, none⟩) hgz).trans f1)
        all_goals
          have hq := pad_done hw7 hgz p0 p1 f0 f1 hbw.drew hgw
          go_wp2_with fail
          clear q0 q1 f2 f3 hw7 d0' d1' p0 p1 f0 f1 hbw
          generalize (w7.setCell ⟨g, 0, none⟩ (.string ⟨#[]⟩)).setCell ⟨g, 1, none⟩ (.int .i64 E) = w8 at *
          unfold PadDone at hq
          have r1 : e.tmod 14 = E - 1 := by rw [Int.tmod_eq_emod_of_nonneg e0]; have := HE.out; omega
          have r2 : IntKind.u8.wrap (E - 1) = E - 1 := IntWalk.u8_in _ ⟨by omega, by omega⟩
          have r3 : IntKind.u8.wrap (1 + (E - 1)) = E := (IntWalk.u8_in _ ⟨by omega, by omega⟩).trans (by omega)
          have r4 : IntKind.i64.wrap E = E := IntWalk.i64_in _ ⟨by omega, by omega⟩
          have fE : Vr.fin ⟨#[]⟩ E = E := Vr.fin_err NE.out
          have FE := Lib.hid fE
          clear fE
          go_region_held3 (fun w' => w'.cell? ⟨g, 0, none⟩ = some (.string ⟨#[]⟩) ∧ w'.cell? ⟨g, 1, none⟩ = some (.int .i64 E) ∧ w'.frozen? ⟨g, 0, none⟩ = false ∧ w'.frozen? ⟨g, 1, none⟩ = false ∧ Below w.heap.size w w' ∧ g < w'.heap.size) (first | assumption | (refine pd_drew ?_; assumption) | (refine pd_call (by assumption) ?_; assumption))
            (first | (go_at_call 23; refine (end_at _ E E _ FE.out).mono ?_; rintro e' w9 ⟨rfl, hw9⟩))
          have hq2 : w9.cell? ⟨g, 0, none⟩ = some (.string ⟨#[]⟩) ∧ w9.cell? ⟨g, 1, none⟩ = some (.int .i64 E) ∧ w9.frozen? ⟨g, 0, none⟩ = false ∧ w9.frozen? ⟨g, 1, none⟩ = false ∧ Below w.heap.size w w9 ∧ g < w9.heap.size := by assumption
          clear r1 r2 r3 r4
          go_wp2_with fail
          go_roundw
          case rel => exact ⟨k + 1, by omega, by go_num, pad_at_of hgw hq2⟩
          case measure => simp [intOf]; omega
      · go_wp2_with fail
        go_region_with (go_at_call 21; refine (pad_at s0 ⟨#[]⟩ E E nd _ S0.out (Vr.pad_err s0 NE.out nd)).mono ?_; rintro e' w7 ⟨rfl, hw7⟩; have q0 := (hw7.cell (p := ⟨g, 0, none⟩) hgz).trans p0; have q1 := (hw7.cell (p := ⟨g, 1, none⟩) hgz).trans p1; have f2 := (hw7.frozen (p := ⟨g, 0, none⟩) hgz).trans f0; have f3 := (hw7.frozen (p := ⟨g, 1, none⟩) hgz).trans f1)
        all_goals
          have hq := pad_done hw7 hgz p0 p1 f0 f1 hbw.drew hgw
          go_wp2_with fail
          clear q0 q1 f2 f3 hw7 d0' d1' p0 p1 f0 f1 hbw
          generalize (w7.setCell ⟨g, 0, none⟩ (.string ⟨#[]⟩)).setCell ⟨g, 1, none⟩ (.int .i64 E) = w8 at *
          unfold PadDone at hq
          have r1 : e.tmod 14 = E - 1 := by rw [Int.tmod_eq_emod_of_nonneg e0]; have := HE.out; omega
          have r2 : IntKind.u8.wrap (E - 1) = E - 1 := IntWalk.u8_in _ ⟨by omega, by omega⟩
          have r3 : IntKind.u8.wrap (1 + (E - 1)) = E := (IntWalk.u8_in _ ⟨by omega, by omega⟩).trans (by omega)
          have r4 : IntKind.i64.wrap E = E := IntWalk.i64_in _ ⟨by omega, by omega⟩
          have fE : Vr.fin ⟨#[]⟩ E = E := Vr.fin_err NE.out
          have FE := Lib.hid fE
          clear fE
          go_region_held3 (fun w' => w'.cell? ⟨g, 0, none⟩ = some (.string ⟨#[]⟩) ∧ w'.cell? ⟨g, 1, none⟩ = some (.int .i64 E) ∧ w'.frozen? ⟨g, 0, none⟩ = false ∧ w'.frozen? ⟨g, 1, none⟩ = false ∧ Below w.heap.size w w' ∧ g < w'.heap.size) (first | assumption | (refine pd_drew ?_; assumption) | (refine pd_call (by assumption) ?_; assumption))
            (first | (go_at_call 23; refine (end_at _ E E _ FE.out).mono ?_; rintro e' w9 ⟨rfl, hw9⟩))
          have hq2 : w9.cell? ⟨g, 0, none⟩ = some (.string ⟨#[]⟩) ∧ w9.cell? ⟨g, 1, none⟩ = some (.int .i64 E) ∧ w9.frozen? ⟨g, 0, none⟩ = false ∧ w9.frozen? ⟨g, 1, none⟩ = false ∧ Below w.heap.size w w9 ∧ g < w9.heap.size := by assumption
          clear r1 r2 r3 r4
          go_wp2_with fail
          go_roundw
          case rel => exact ⟨k + 1, by omega, by go_num, pad_at_of hgw hq2⟩
          case measure => simp [intOf]; omega
    · have hbw : Below w.heap.size w wr := hP.2.2.2.2.1
      clear hP
      rcases (show len ≤ k ∨ 6 ≤ k by omega) with hge | hge
      all_goals
        clear hlt
        go_wp2_with fail
        all_goals
          go_ret
          exact ⟨rfl, hbw⟩
theorem law_VaryPads (many by' e : Int) (a : Option Addr) (len cap : Nat) (w : World) (m0 : 0 ≤ many) (m1 : many ≤ 255) (b0 : 0 ≤ by') (b1 : by' ≤ 255) (e0 : 0 ≤ e) (e1 : e ≤ 255)
    (hl : len ≤ 9223372036854775807) (hD : DArg w a len) :
    Calls Try.prog 7 #[.int .u8 many, .int .u8 by', .int .u8 e, .slice a len cap] w fun e w' => e = .returned (.bool true) ∧ Below w.heap.size w w' := by
  obtain ⟨x, hx⟩ : ∃ x : UInt8, (x.toNat : Int) = by' := ⟨UInt8.ofNat by'.toNat, by rw [Vr.u8_small (by omega)]; omega⟩
  by_cases h0 : x.toNat = 0
  · exact pads_walk0 many by' e x a len cap w m0 m1 hx e0 e1 hl hD h0
  · exact pads_walk many by' e x a len cap w m0 m1 hx e0 e1 hl hD h0
end Go.Proofs.Ytimfgefpcbnalaa
