/- The project's classes: unions; the library's Concat and Grow. -/
import Derived.Test.YtpnakbhbaghhgaaDoorCCls2
import Derived.Lib.AppendZeros
set_option linter.unusedVariables false
namespace Go.Proofs.YtpnakbhbaghhgaaDoor
open Go.RowKit

theorem grow_zero (w : World) : Calls Tryd.prog 42 #[.slice none 0 0, .int .i64 0] w fun e w' => e = .returned (.slice none 0 0) ∧ w = w' := by
  go_enter Tryd.func42, Tryd.ntmps42
  go_wp2_with fail
  go_ret
  exact ⟨rfl, rfl⟩
theorem grown_zero_own (w : World) (n : Nat) (hn : n ≤ 1000000) (e : TypeId) : OwnP (w.drew.alloc (.cells (Builtin.zeroCells (Value.cells (.agg #[.int .i32 0, .int .i32 0])) n ++ Builtin.zeroCells (Value.cells (.agg #[.int .i32 0, .int .i32 0])) (grownCap w n 0 e - n)) e)) w.heap.size e (.slice (some ⟨w.heap.size, 0, none⟩) 0 (grownCap w n 0 e)) [] := by
  have h1 := grownCap_ge w n 0 e
  have h2 := grownCap_le_maxLen w n 0 e (by unfold maxLen; omega)
  unfold OwnP World.ownsRow
  refine ⟨rfl, .inr ⟨w.heap.size, grownCap w n 0 e, Builtin.zeroCells (Value.cells (.agg #[.int .i32 0, .int .i32 0])) n ++ Builtin.zeroCells (Value.cells (.agg #[.int .i32 0, .int .i32 0])) (grownCap w n 0 e - n), rfl, Nat.le_refl _, ?_, Nat.zero_le _, h2, ?_, by simp [pcells]⟩⟩
  · show (w.heap.push _)[w.heap.size]? = _
    simp
  · simp only [Array.size_append, size_zeroCells]
    have : (Value.cells (.agg #[.int .i32 0, .int .i32 0])).size = 2 := rfl
    rw [this]; omega
set_option maxRecDepth 20000 in
set_option maxHeartbeats 4000000 in
theorem grow_some (n : Nat) (w : World) (h0 : 0 < n) (hn : n ≤ 1000000) : Calls Tryd.prog 42 #[.slice none 0 0, .int .i64 (n : Int)] w (Mk 48 [] w) := by
  obtain ⟨i0, hi, hz0, hz1, hz2⟩ := info_parts Tryd.infoP
  have hw : IntKind.i64.wrap (n : Int) = n := IntWalk.i64_in _ ⟨by omega, by omega⟩
  have h0' : (0 : Int) < (n : Int) := by omega
  have hrun := fun ty => Lib.run_append_nil_zeros (P := Tryd.prog) w 29 3 ty 48 i0 _ .i64 .i64 Tryd.underlying29 Tryd.underlying3 hi hz0 n h0 (by omega) (by omega) (by rw [hz2]; omega)
  have hcap : (0 : Int) ≤ ((grownCap w n 0 48 : Nat) : Int) := by omega
  have HO := Lib.hid (grown_zero_own w n hn 48)
  have hbel : Below w.heap.size w (w.drew.alloc (.cells (Builtin.zeroCells (Value.cells (.agg #[.int .i32 0, .int .i32 0])) n ++ Builtin.zeroCells (Value.cells (.agg #[.int .i32 0, .int .i32 0])) (grownCap w n 0 48 - n)) 48)) := (Below.refl _ _).drew.alloc (by simp) _
  have BE := Lib.hid hbel
  have HR := Lib.hid hrun
  clear hbel hrun
  go_enter Tryd.func42, Tryd.ntmps42
  go_wp2_with (at_builtin; refine Lib.wpList_append_run _ rfl _ _ 29 3 rfl _ _ rfl rfl _ _ (by exact HR.out _) ?_)
  clear HR
  go_wp2_with fail
  go_ret
  exact ⟨_, rfl, HO.out, BE.out⟩
theorem grow_any (n : Nat) (w : World) (hn : n ≤ 1000000) : Calls Tryd.prog 42 #[.slice none 0 0, .int .i64 (n : Int)] w (Mk 48 [] w) := by
  rcases Nat.eq_zero_or_pos n with rfl | h
  · refine (grow_zero w).mono ?_
    rintro e w' ⟨rfl, rfl⟩
    exact ⟨_, rfl, OwnP.nil _ _ _, Below.refl _ _⟩
  · exact grow_some n w h hn
/- how long the first k of two are -/
def lenAt (n m : Nat) : Nat → Nat
  | 0 => 0
  | 1 => n
  | _ => n + m
def catAt (l m : List Cl.Rg) : Nat → List Cl.Rg
  | 0 => []
  | 1 => l
  | _ => l ++ m
set_option maxRecDepth 20000 in
set_option maxHeartbeats 4000000 in
theorem concat_any (b : Nat) (p q : Option Addr) (cap cap' : Nat) (l m : List Cl.Rg) (w : World) (h0 : w.cell? ⟨b, 0, none⟩ = some (.slice p l.length cap)) (h1 : w.cell? ⟨b, 1, none⟩ = some (.slice q m.length cap')) (hb : b < w.heap.size)
    (hp : RowP w p l) (hn : Ptr p cap) (hq : RowP w q m) (hn' : Ptr q cap') (hl : l.length ≤ 100000) (hl' : m.length ≤ 100000) :
    Calls Tryd.prog 31 #[.slice (some ⟨b, 0, none⟩) 2 2] w (Mk 48 (l ++ m) w) := by
  have HP := Lib.hid hp
  have HQ := Lib.hid hq
  clear hp hq
  go_enter Tryd.func31, Tryd.ntmps31
  go_wp2_with fail
  go_loopw [3, 5, 11] (fun s _ i wr => ∃ k : Nat, k ≤ 2 ∧ i = .int .i64 (k : Int) ∧ s = .int .i64 (lenAt l.length m.length k : Int) ∧ wr = w) (fun _ _ i _ => 2 - (intOf i).toNat)
  case atStart => exact ⟨0, by omega, rfl, rfl, rfl⟩
  case round =>
    obtain ⟨k, hk, rfl, rfl, hww⟩ := hrel
    obtain rfl := hww.symm
    rcases (show k = 0 ∨ k = 1 ∨ k = 2 by omega) with rfl | rfl | rfl
    · have w1 : IntKind.i64.wrap ((l.length : Nat) : Int) = l.length := IntWalk.i64_in _ ⟨by omega, by omega⟩
      simp only [lenAt]
      go_wp2_with fail
      go_roundw
      case rel => exact ⟨1, by omega, rfl, by simp [lenAt], trivial⟩
      case measure => simp [intOf]
    · have w1 : IntKind.i64.wrap ((l.length : Int) + (m.length : Int)) = (l.length : Int) + (m.length : Int) := IntWalk.i64_in _ ⟨by omega, by omega⟩
      have w2 : (0 : Int) ≤ (l.length : Int) + (m.length : Int) := by omega
      simp only [lenAt]
      go_wp2_with fail
      go_roundw
      case rel => exact ⟨2, by omega, rfl, by simp [lenAt], trivial⟩
      case measure => simp [intOf]
    · have w2 : (lenAt l.length m.length 2 : Int) = ((l.length + m.length : Nat) : Int) := rfl
      rw [w2]
      have hsz : l.length + m.length ≤ 1000000 := by omega
      generalize l.length + m.length = N at *
      clear w2
      go_wp2_with fail
      refine (grow_any N _ hsz).mono ?_
      rintro e w1 ⟨v, rfl, hown, hw1⟩
      have H0 := Lib.hid h0
      have H1 := Lib.hid h1
      clear h0 h1
      have HO := Lib.hid hown
      have hbl : b < w1.heap.size := Nat.lt_of_lt_of_le hb hw1.size
      clear hown
      go_wp2_with fail
      go_loopw [6, 8, 27] (fun v _ i wr2 => ∃ k : Nat, k ≤ 2 ∧ i = .int .i64 (k : Int) ∧ OwnP wr2 w.heap.size 48 v (catAt l m k) ∧ Below w.heap.size w wr2) (fun _ _ i _ => 2 - (intOf i).toNat)
      case atStart => exact ⟨0, by omega, rfl, HO.out, hw1⟩
      case round =>
        obtain ⟨k, hk, rfl, hown, br⟩ := hrel
        have h0 := ((br.cell (p := ⟨b, 0, none⟩) hb)).trans H0.out
        have h1 := ((br.cell (p := ⟨b, 1, none⟩) hb)).trans H1.out
        have HO := Lib.hid hown
        clear hown
        rcases (show k = 0 ∨ k = 1 ∨ k = 2 by omega) with rfl | rfl | rfl
        · go_wp2_with (at_builtin; refine append_row rfl _ _ 29 rfl w.heap.size 48 Tryd.underlying29 Tryd.infoP _ _ [] l p cap rfl (by exact HO.out) rfl (HP.out.below br) hn ?d1 br.size ?_)
          case d1 => simp; omega
          intro v' w' hown' hg
          have b3 := below_own br HO.out (Nat.le_refl _) br.size hg
          have HO' := Lib.hid (show OwnP w' w.heap.size 48 v' (catAt l m 1) by simpa [catAt] using hown')
          clear hown' hg HO br h0 h1
          go_wp2_with fail
          go_roundw
          case rel => exact ⟨1, by omega, rfl, HO'.out, b3⟩
          case measure => simp [intOf]
        · go_wp2_with (at_builtin; refine append_row rfl _ _ 29 rfl w.heap.size 48 Tryd.underlying29 Tryd.infoP _ _ l m q cap' rfl (by exact HO.out) rfl (HQ.out.below br) hn' ?d2 br.size ?_)
          case d2 => omega
          intro v' w' hown' hg
          have b3 := below_own br HO.out (Nat.le_refl _) br.size hg
          have HO' := Lib.hid (show OwnP w' w.heap.size 48 v' (catAt l m 2) from hown')
          clear hown' hg HO br h0 h1
          go_wp2_with fail
          go_roundw
          case rel => exact ⟨2, by omega, rfl, HO'.out, b3⟩
          case measure => simp [intOf]
        · go_wp2_with fail
          go_ret
          exact ⟨_, rfl, HO.out, br⟩
set_option maxRecDepth 20000 in
set_option maxHeartbeats 4000000 in
theorem union_any (p q : Option Addr) (cap cap' : Nat) (l m : List Cl.Rg) (w : World) (hp : RowP w p l) (hn : Ptr p cap) (hq : RowP w q m) (hn' : Ptr q cap') (hl : l.length ≤ 100000) (hl' : m.length ≤ 100000) :
    Calls Tryd.prog 14 #[.slice p l.length cap, .slice q m.length cap'] w (Mk 48 (Cl.of (l ++ m)) w) := by
  have hT := Two.new w (.slice p l.length cap) (.slice q m.length cap') 29
  have bA : Below w.heap.size w (w.alloc (.cells #[.slice p l.length cap, .slice q m.length cap'] 29)) := Below.alloc (Below.refl _ _) (Nat.le_refl _) _
  have hPa := hp.below bA
  have hQa := hq.below bA
  clear hp hq
  go_enter Tryd.func14, Tryd.ntmps14
  go_wp2_with fail
  generalize w.alloc (.cells #[.slice p l.length cap, .slice q m.length cap'] 29) = wa at *
  refine (concat_any w.heap.size p q cap cap' l m wa hT.1 hT.2.1 hT.2.2.2 hPa hn hQa hn' hl hl').mono ?_
  rintro e w1 ⟨v, rfl, hown, hw1⟩
  obtain ⟨q2, c2, rfl, _, _, hr2⟩ := row_q hown
  have b1 := bvia bA hw1
  have hlen : (l ++ m).length ≤ 1000000 := by simp; omega
  clear hown hT hPa hQa hw1 bA
  generalize l ++ m = lm at *
  go_wp2_with fail
  refine (of_any q2 c2 lm _ hr2 hlen).mono ?_
  rintro e w2 ⟨v2, rfl, hown2, hw2⟩
  have b2 := bvia b1 hw2
  have HO2 := Lib.hid (hown2.mono b1.size)
  clear hown2 hw2 b1 hr2
  go_wp2_with fail
  go_ret
  exact ⟨_, rfl, HO2.out, b2⟩
end Go.Proofs.YtpnakbhbaghhgaaDoor
