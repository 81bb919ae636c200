/- The project's classes: which runes one has, how many, all others. -/
import Derived.Test.YtpnakbhbaghhgaaDoorCCls
set_option linter.unusedVariables false
namespace Go.Proofs.YtpnakbhbaghhgaaDoor
open Go.RowKit

set_option maxRecDepth 20000 in
set_option maxHeartbeats 4000000 in
theorem has_any (p : Option Addr) (cap : Nat) (l : List Cl.Rg) (x : Int) (v : Bool) (w : World) (hp : RowP w p l) (hl : l.length ≤ 1000000) (h : hasB l x = v) :
    Calls Tryd.prog 20 #[.slice p l.length cap, .int .i32 x] w fun e w' => e = .returned (.bool v) ∧ Below w.heap.size w w' := by
  have HV := Lib.hid h
  have HP := Lib.hid hp
  clear h hp
  go_enter Tryd.func20, Tryd.ntmps20
  go_wp2_with fail
  go_loopw [9] (fun i wr => ∃ k : Nat, k ≤ l.length ∧ i = .int .i64 (k : Int) ∧ Hid (hasB (l.take k) x = false) ∧ Below w.heap.size w wr) (fun i _ => l.length - (intOf i).toNat)
  case atStart => exact ⟨0, Nat.zero_le _, rfl, Lib.hid rfl, Below.refl _ _⟩
  case round =>
    obtain ⟨k, hk, rfl, hf, br⟩ := hrel
    by_cases hlt : k < l.length
    · obtain ⟨r, hr⟩ : ∃ r, l[k]? = some r := ⟨_, List.getElem?_eq_getElem hlt⟩
      obtain ⟨g, off, rfl, hg, c1, c2⟩ := (HP.out.below br) k r hr
      have hst := Lib.hid (hasB_step hr x)
      have hme := Lib.hid (fun h1 h2 => hasB_mem hr (x := x) h1 h2)
      have hkl : (k : Int) < (l.length : Int) := by omega
      clear hr
      obtain ⟨a, b⟩ := r
      simp only at c1 c2 hst hme
      have bsz := br.size
      have ba := br.alloc bsz (.cells #[.int .i32 a, .int .i32 b] 48)
      rcases (show x < a ∨ (a ≤ x ∧ b < x) ∨ (a ≤ x ∧ x ≤ b) by omega) with h | ⟨h, h'⟩ | ⟨h, h'⟩
      · have e1 : hasB (l.take (k + 1)) x = false := by rw [hst.out, hf.out, decide_eq_false (by omega : ¬ a ≤ x)]; rfl
        have E1 := Lib.hid e1
        clear e1
        go_wp2_with fail
        go_roundw
        case rel => exact ⟨k + 1, by omega, by go_num, E1, ba⟩
        case measure => simp [intOf]; omega
      · have e1 : hasB (l.take (k + 1)) x = false := by rw [hst.out, hf.out, decide_eq_false (by omega : ¬ x ≤ b)]; simp
        have E1 := Lib.hid e1
        clear e1
        go_wp2_with fail
        go_roundw
        case rel => exact ⟨k + 1, by omega, by go_num, E1, ba⟩
        case measure => simp [intOf]; omega
      · have e1 := hme.out h h'
        have E1 := Lib.hid e1
        clear e1
        go_wp2_with fail
        go_ret
        exact ⟨ret_bool (by rw [← HV.out, E1.out]), ba⟩
    · obtain rfl : k = l.length := by omega
      have hf' := hf.out
      rw [List.take_length] at hf'
      have HF := Lib.hid hf'
      clear hf'
      go_wp2_with fail
      go_ret
      exact ⟨ret_bool (by rw [← HV.out, HF.out]), br⟩
set_option maxRecDepth 20000 in
set_option maxHeartbeats 4000000 in
theorem many_any (p : Option Addr) (cap : Nat) (l : List Cl.Rg) (n : Int) (w : World) (hp : RowP w p l) (hl : l.length ≤ 1000000) (hn : Cl.sumL (Cl.of l) = n) :
    Calls Tryd.prog 22 #[.slice p l.length cap] w fun e w' => e = .returned (.int .i64 n) ∧ Below w.heap.size w w' := by
  have HN := Lib.hid hn
  clear hn
  go_enter Tryd.func22, Tryd.ntmps22
  go_wp2_with fail
  refine (of_any p cap l _ hp hl).mono ?_
  rintro e w1 ⟨v, rfl, hown, hw1⟩
  obtain ⟨q, c, rfl, _, hc, hq⟩ := row_q hown
  have hle := Cl.of_len l
  have HB := Lib.hid (bd_nf (Cl.of_nf l))
  clear hown
  generalize Cl.of l = m at *
  have HQ := Lib.hid hq
  clear hq hp
  go_wp2_with fail
  go_loopw [2, 8] (fun s i wr => ∃ (k : Nat) (x : Int), i = .int .i64 (k : Int) ∧ s = .int .i64 x ∧ k ≤ m.length ∧ Hid (SumAt m k x) ∧ Below w1.heap.size w1 wr) (fun _ i _ => m.length - (intOf i).toNat)
  case atStart => exact ⟨0, 0, rfl, rfl, Nat.zero_le _, Lib.hid (sumat_zero m), Below.refl _ _⟩
  case round =>
    obtain ⟨k, x, rfl, rfl, hk, hs, br⟩ := hrel
    by_cases hlt : k < m.length
    · obtain ⟨g, off, a, b, rfl, hg, hab, c1, c2⟩ := (HQ.out.below br).get hlt
      have hkl : (k : Int) < (m.length : Int) := by omega
      have hk0 : (0 : Int) ≤ (k : Int) := by omega
      have hm := HB.out k _ hab
      unfold Cl.may at hm
      simp only at hm
      have hs' := sumat_more hs.out hab hm
      have hb1 := hs.out.2
      have HS := Lib.hid hs'
      have w0 : IntKind.i32.wrap (b - a) = b - a := IntWalk.i32_in _ ⟨by omega, by omega⟩
      have w1' : IntKind.i64.wrap (b - a) = b - a := IntWalk.i64_in _ ⟨by omega, by omega⟩
      have w2' : IntKind.i64.wrap (b - a + 1) = b - a + 1 := IntWalk.i64_in _ ⟨by omega, by omega⟩
      have w3' : IntKind.i64.wrap (x + (b - a + 1)) = x + (b - a + 1) := IntWalk.i64_in _ ⟨by omega, by omega⟩
      have ba := br.alloc br.size (.cells #[.int .i32 a, .int .i32 b] 48)
      clear hab hs'
      go_wp2_with fail
      go_roundw
      case rel => exact ⟨k + 1, x + (b - a) + 1, by go_num, by rw [show x + (b - a) + 1 = x + (b - a + 1) by omega], by omega, HS, ba⟩
      case measure => simp [intOf]; omega
    · obtain rfl : k = m.length := by omega
      have hx : x = n := by
        have := hs.out.1
        rw [List.take_length, HN.out] at this
        exact this
      subst hx
      clear hs HN
      go_wp2_with fail
      go_ret
      exact ⟨rfl, bvia hw1 br⟩
set_option maxRecDepth 20000 in
set_option maxHeartbeats 4000000 in
theorem not_any (p : Option Addr) (cap : Nat) (l : List Cl.Rg) (w : World) (hp : RowP w p l) (hl : l.length ≤ 1000000) :
    Calls Tryd.prog 16 #[.slice p l.length cap] w (Mk 48 (Cl.nots l) w) := by
  obtain ⟨N, hN⟩ : ∃ N, Cl.nots l = N := ⟨_, rfl⟩
  have hN' : Cl.notL 0 (Cl.of l) = N := hN
  rw [hN]
  clear hN
  go_enter Tryd.func16, Tryd.ntmps16
  go_wp2_with fail
  refine (of_any p cap l _ hp hl).mono ?_
  rintro e w1 ⟨v, rfl, hown, hw1⟩
  obtain ⟨q, c, rfl, _, hc, hq⟩ := row_q hown
  have hle := Cl.of_len l
  have HB := Lib.hid (bd_nf (Cl.of_nf l))
  clear hown
  generalize Cl.of l = m at *
  have HQ := Lib.hid hq
  have HN := Lib.hid hN'
  clear hq hp hN'
  go_wp2_with fail
  go_loopw [2, 3, 9] (fun v lo i wr => ∃ (k : Nat) (o : List Cl.Rg) (low : Int), i = .int .i64 (k : Int) ∧ lo = .int .i32 low ∧ k ≤ m.length ∧ Hid (NotAt m k o low) ∧ OwnP wr w1.heap.size 48 v o ∧ Below w1.heap.size w1 wr) (fun _ _ i _ => m.length - (intOf i).toNat)
  case atStart => exact ⟨0, [], 0, rfl, rfl, Nat.zero_le _, Lib.hid (notat_zero m), OwnP.nil _ _ _, Below.refl _ _⟩
  case round =>
    obtain ⟨k, o, low, rfl, rfl, hk, hs, hown, br⟩ := hrel
    have HO := Lib.hid hown
    have hol := hs.out.2.2.2
    have hlo := hs.out.2.1
    have hlo' := hs.out.2.2.1
    clear hown
    by_cases hlt : k < m.length
    · obtain ⟨g, off, a, b, rfl, hg, hab, c1, c2⟩ := (HQ.out.below br).get hlt
      have hkl : (k : Int) < (m.length : Int) := by omega
      have hk0 : (0 : Int) ≤ (k : Int) := by omega
      have hm := HB.out k _ hab
      unfold Cl.may at hm
      simp only at hm
      have wr1 : IntKind.i32.wrap (b + 1) = b + 1 := IntWalk.i32_in _ ⟨by omega, by omega⟩
      have wr2 : IntKind.i32.wrap (a - 1) = a - 1 := IntWalk.i32_in _ ⟨by omega, by omega⟩
      have bsz := br.size
      have hbx := box_new wr a b 48
      have HO1 := Lib.hid (HO.out.alloc (.cells #[.int .i32 a, .int .i32 b] 48))
      have b1 := br.trans (hbx.bel.mono bsz)
      by_cases hlow : low < a
      · have HS := Lib.hid (notat_gap hs.out hab hm hlow)
        clear hab
        go_wp2_with (at_builtin; refine append_pair rfl _ _ 29 rfl w1.heap.size 48 Tryd.underlying29 Tryd.infoP _ _ o _ _ rfl (by exact HO1.out) (by simp [Act.eval]) ?d1 ?d2 ?_)
        case d1 => omega
        case d2 => exact b1.size
        · intro v' w' hown' hg'
          have b3 := below_own b1 HO1.out (Nat.le_refl _) b1.size hg'
          have hbl : w'.heap[wr.heap.size]? = (wr.alloc (.cells #[.int .i32 a, .int .i32 b] 48)).heap[wr.heap.size]? := hg'.block _ hbx.lt (fun e => by
            have h1 := hg'.block
            rcases HO.out.2 with ⟨hv0, _⟩ | ⟨g3, cap3, cur3, hv0, _, hgg, _⟩
            · rw [hv0] at e; simp [Value.ownBlock] at e
            · rw [hv0] at e
              simp only [Value.ownBlock, Option.some.injEq] at e
              have := (Array.getElem?_eq_some_iff.1 hgg).1
              omega)
          have t1 := (cell_of_block (a := ⟨wr.heap.size, 1, none⟩) hbl).trans hbx.two.2.1
          have HO' := Lib.hid hown'
          clear hown' hg' HO HO1 br b1 c1 c2 hbx hbl
          go_wp2_with fail
          go_roundw
          case rel => exact ⟨k + 1, _, b + 1, by go_num, rfl, by omega, HS, HO'.out, b3⟩
          case measure => simp [intOf]; omega
      · have HS := Lib.hid (notat_none hs.out hab hm hlow)
        clear hab
        go_wp2_with fail
        go_roundw
        case rel => exact ⟨k + 1, _, b + 1, by go_num, rfl, by omega, HS, HO1.out, b1⟩
        case measure => simp [intOf]; omega
    · obtain rfl : k = m.length := by omega
      have he := notat_end hs.out
      rw [HN.out] at he
      by_cases hlow : low ≤ 1114111
      · rw [if_pos hlow] at he
        have HE := Lib.hid he
        clear he
        go_wp2_with (at_builtin; refine append_pair rfl _ _ 29 rfl w1.heap.size 48 Tryd.underlying29 Tryd.infoP _ _ o _ _ rfl (by exact HO.out) rfl ?d3 ?d4 ?_)
        case d3 => omega
        case d4 => have := br.size; omega
        · intro v' w' hown' hg
          have b3 := below_own br HO.out (Nat.le_refl _) br.size hg
          have HO' := Lib.hid hown'
          clear hown' hg HO br
          go_wp2_with fail
          go_ret
          refine ⟨v', rfl, ?_, bvia hw1 b3⟩
          rw [HE.out]
          exact HO'.out.mono hw1.size
      · rw [if_neg hlow, List.append_nil] at he
        subst he
        clear HN
        go_wp2_with fail
        go_ret
        exact ⟨_, rfl, HO.out.mono hw1.size, bvia hw1 br⟩
end Go.Proofs.YtpnakbhbaghhgaaDoor
