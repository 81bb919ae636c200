/- The document's own answer to classes: the class of any ranges. -/
import Derived.Test.YtpnakbhbaghhgaaDoorCPut
import Derived.Test.YtpnakbhbaghhgaaDoorCRef
set_option linter.unusedVariables false
namespace Go.Proofs.YtpnakbhbaghhgaaDoor
open Go.RowKit

set_option maxRecDepth 20000 in
set_option maxHeartbeats 4000000 in
theorem rput_none (a b : Int) (w : World) : Calls Tryd.prog 30 #[.slice none 0 0, .agg #[.int .i32 a, .int .i32 b]] w (Mk 56 [(a, b)] w) := by
  go_enter Tryd.func30, Tryd.ntmps30
  go_wp2_with fail
  go_loopw [5, 6] (fun v i wr => v = .slice none 0 0 ∧ i = .int .i64 0 ∧ Two wr w.heap.size (.int .i32 a) (.int .i32 b) ∧ Below w.heap.size w wr) (fun _ i _ => 0)
  case atStart => exact ⟨rfl, rfl, Two.new w _ _ _, Below.alloc (Below.refl _ _) (Nat.le_refl _) _⟩
  case round =>
    obtain ⟨rfl, rfl, ht, br⟩ := hrel
    have HT := Lib.hid ht
    have BR := Lib.hid br
    clear ht br
    go_wp2_with fail
    go_quiet (fail)
    go_wp2_with fail
    have HT := Lib.hid (HT.out.drewN nq)
    have BR := Lib.hid (bdrewN (n := nq) BR.out)
    generalize wr.drewN nq = wq at HT BR ⊢
    go_loopw [6] (fun i wr2 => i = .int .i64 0 ∧ Two wr2 w.heap.size (.int .i32 a) (.int .i32 b) ∧ Below w.heap.size w wr2) (fun i _ => 0)
    case atStart => exact ⟨rfl, HT.out, BR.out⟩
    case round =>
      obtain ⟨rfl, ht, br⟩ := hrel
      have ts := ht.2.2.2
      have HT := Lib.hid ht
      have BR := Lib.hid br
      clear ht br
      go_wp2_with fail
      go_quiet (fail)
      have t0 := (HT.out.drewN nq).1
      have t1 := (HT.out.drewN nq).2.1
      have BE := Lib.hid (bdrewN (n := nq) BR.out)
      have ts : w.heap.size < (wr.drewN nq).heap.size := ts
      clear HT BR
      generalize wr.drewN nq = wq at BE t0 t1 ts ⊢
      go_wp2_with (at_builtin; refine append_pair rfl _ _ 26 rfl w.heap.size 56 Tryd.underlying26 Tryd.infoQ _ _ [] _ _ rfl (OwnP.nil _ _ _) rfl ?d1 ?d2 ?_)
      case d1 => simp
      case d2 => omega
      · intro v' w' hown' hg
        have b3 := below_own BE.out (OwnP.nil _ w.heap.size 56) (Nat.le_refl _) (by omega) hg
        have s3 : w.heap.size ≤ w'.heap.size := by have := hg.size; omega
        have HO' := Lib.hid (show OwnP w' w.heap.size 56 v' [(a, b)] by simpa using hown')
        clear hown' hg BE t0 t1
        go_wp2_with (at_builtin; refine append_row rfl _ _ 26 rfl w.heap.size 56 Tryd.underlying26 Tryd.infoQ _ _ [(a, b)] [] none 0 rfl (by exact HO'.out) rfl (RowP.nil _ _) (.inl ⟨rfl, rfl⟩) ?f4 s3 ?_)
        case f4 => simp
        intro v2 w2 hown2 hg2
        have b4 := below_own b3 HO'.out (Nat.le_refl _) (by omega) hg2
        have HO2 := Lib.hid hown2
        clear hown2 hg2 HO' b3
        go_wp2_with fail
        go_ret
        refine ⟨v2, rfl, ?_, b4⟩
        simpa using HO2.out
theorem rput_own (v : Value) (m : List Cl.Rg) (a b : Int) (w : World) (base : Nat) (ho : OwnP w base 56 v m) (hl : m.length ≤ 1000000) (hf : Cl.NF m) (hr : Cl.may (a, b)) :
    Calls Tryd.prog 30 #[v, .agg #[.int .i32 a, .int .i32 b]] w (Mk 56 (Cl.put m (a, b)) w) := by
  obtain ⟨p, cap, rfl, hp, hc, hr'⟩ := row_q ho
  rcases hp with ⟨rfl, rfl⟩ | ⟨g, off, rfl⟩
  · have := rowp_nil hr'
    subst this
    exact rput_none a b w
  · exact rput_some g off cap m a b w hr' hc hl hf hr
set_option maxRecDepth 20000 in
set_option maxHeartbeats 4000000 in
theorem rof_any (p : Option Addr) (cap : Nat) (l : List Cl.Rg) (w : World) (hp : RowP w p l) (hl : l.length ≤ 1000000) :
    Calls Tryd.prog 13 #[.slice p l.length cap] w (Mk 56 (Cl.of l) w) := by
  have HP := Lib.hid hp
  clear hp
  go_enter Tryd.func13, Tryd.ntmps13
  go_wp2_with fail
  go_loopw [3, 4] (fun v i wr => ∃ k : Nat, i = .int .i64 (k : Int) ∧ k ≤ l.length ∧ OwnP wr w.heap.size 56 v (Cl.of (l.take k)) ∧ Below w.heap.size w wr) (fun _ i _ => l.length - (intOf i).toNat)
  case atStart => exact ⟨0, rfl, Nat.zero_le _, OwnP.nil _ _ _, Below.refl _ _⟩
  case round =>
    obtain ⟨k, rfl, hk, hown, br⟩ := hrel
    have HO := Lib.hid hown
    clear hown
    by_cases hlt : k < l.length
    · obtain ⟨g, off, a, b, rfl, hg, hab, c1, c2⟩ := (HP.out.below br).get hlt
      have hkl : (k : Int) < (l.length : Int) := by omega
      have hst := Lib.hid (Cl.of_take l k _ hab)
      have hle := Cl.of_len (l.take k)
      rw [take_len hk] at hle
      clear hab
      by_cases hm : Cl.may (a, b)
      · have hmb := Lib.hid (mayB_true hm)
        have hst' := Lib.hid (hst.out.trans (if_pos hm))
        have HM := Lib.hid hm
        clear hst hm
        go_wp2_with fail
        refine (rmay_any a b true _ hmb.out).mono ?_
        rintro e w1 ⟨rfl, hw1⟩
        have c1' := (hw1.cell (p := ⟨g, off + k * 2, none⟩) hg).trans c1
        have c2' := (hw1.cell (p := ⟨g, off + k * 2 + 1, none⟩) hg).trans c2
        have HO1 := Lib.hid (HO.out.below hw1)
        have b1 := bvia br hw1
        clear hw1 HO br c1 c2
        go_wp2_with fail
        refine (rput_own u3 (Cl.of (l.take k)) a b _ w.heap.size HO1.out (by omega) (Cl.of_nf _) HM.out).mono ?_
        rintro e w2 ⟨v2, rfl, hown2, hw2⟩
        have b2 := bvia b1 hw2
        have HO2 := Lib.hid (hown2.mono b1.size)
        clear hown2 hw2 HO1 b1 c1' c2'
        go_wp2_with fail
        go_roundw
        case rel => exact ⟨k + 1, by go_num, by omega, by rw [hst'.out]; exact HO2.out, b2⟩
        case measure => simp [intOf]; omega
      · have hmb := Lib.hid (mayB_false hm)
        have hst' := Lib.hid (hst.out.trans (if_neg hm))
        clear hst hm
        go_wp2_with fail
        refine (rmay_any a b false _ hmb.out).mono ?_
        rintro e w1 ⟨rfl, hw1⟩
        have HO1 := Lib.hid (HO.out.below hw1)
        have b1 := bvia br hw1
        clear hw1 HO br c1 c2
        go_wp2_with fail
        go_roundw
        case rel => exact ⟨k + 1, by go_num, by omega, by rw [hst'.out]; exact HO1.out, b1⟩
        case measure => simp [intOf]; omega
    · obtain rfl : k = l.length := by omega
      have HO1 := Lib.hid (show OwnP wr w.heap.size 56 u3 (Cl.of l) by have := HO.out; rwa [List.take_length] at this)
      clear HO
      go_wp2_with fail
      go_ret
      exact ⟨_, rfl, HO1.out, br⟩
end Go.Proofs.YtpnakbhbaghhgaaDoor
