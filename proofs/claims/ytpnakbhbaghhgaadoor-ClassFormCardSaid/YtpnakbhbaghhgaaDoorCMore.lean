/- The document's own answer to classes: how many, unions, all others, sameness. -/
import Derived.Test.YtpnakbhbaghhgaaDoorCOf
set_option linter.unusedVariables false
namespace Go.Proofs.YtpnakbhbaghhgaaDoor
open Go.RowKit

theorem sum_bd (l : List Cl.Rg) (h : ∀ r ∈ l, Cl.may r) : 0 ≤ Cl.sumL l ∧ Cl.sumL l ≤ 1114112 * (l.length : Int) := by
  induction l with
  | nil => simp [Cl.sumL]
  | cons r l ih =>
    have h1 := ih (fun t ht => h t (List.mem_cons_of_mem _ ht))
    have h2 := h r (List.mem_cons_self ..)
    unfold Cl.may at h2
    simp only [Cl.sumL, List.length_cons]
    omega
theorem sum_take {l : List Cl.Rg} {k : Nat} {a b : Int} (h : l[k]? = some (a, b)) : Cl.sumL (l.take (k + 1)) = Cl.sumL (l.take k) + (b - a + 1) := by
  rw [take_app h, Cl.sumL_app]; simp [Cl.sumL]
/- the sum of the first k ranges, and its bounds -/
def SumAt (l : List Cl.Rg) (k : Nat) (s : Int) : Prop := s = Cl.sumL (l.take k) ∧ 0 ≤ s ∧ s ≤ 1114112 * (k : Int)
theorem sumat_zero (l : List Cl.Rg) : SumAt l 0 0 := by simp [SumAt, Cl.sumL]
theorem sumat_more {l : List Cl.Rg} {k : Nat} {a b s : Int} (h : SumAt l k s) (ht : l[k]? = some (a, b)) (hm : 0 ≤ a ∧ b ≤ 1114111 ∧ a ≤ b) : SumAt l (k + 1) (s + (b - a) + 1) := by
  obtain ⟨h1, h2, h3⟩ := h
  refine ⟨?_, by omega, by omega⟩
  rw [sum_take ht, h1]; omega
set_option maxRecDepth 20000 in
set_option maxHeartbeats 4000000 in
theorem rmany_any (p : Option Addr) (cap : Nat) (l : List Cl.Rg) (n : Int) (w : World) (hp : RowP w p l) (hl : l.length ≤ 1000000) (hn : Cl.sumL (Cl.of l) = n) :
    Calls Tryd.prog 23 #[.slice p l.length cap] w fun e w' => e = .returned (.int .i64 n) ∧ Below w.heap.size w w' := by
  have HN := Lib.hid hn
  clear hn
  go_enter Tryd.func23, Tryd.ntmps23
  go_wp2_with fail
  refine (rof_any p cap l _ hp hl).mono ?_
  rintro e w1 ⟨v, rfl, hown, hw1⟩
  obtain ⟨q, c, rfl, _, hc, hq⟩ := row_q hown
  have hle := Cl.of_len l
  have HB := Lib.hid (bd_nf (Cl.of_nf l))
  clear hown
  generalize Cl.of l = m at *
  have HQ := Lib.hid hq
  clear hq hp
  go_wp2_with fail
  go_loopw [4, 5] (fun s i wr => ∃ (k : Nat) (x : Int), i = .int .i64 (k : Int) ∧ s = .int .i64 x ∧ k ≤ m.length ∧ Hid (SumAt m k x) ∧ Below w1.heap.size w1 wr) (fun _ i _ => m.length - (intOf i).toNat)
  case atStart => exact ⟨0, 0, rfl, rfl, Nat.zero_le _, Lib.hid (sumat_zero m), Below.refl _ _⟩
  case round =>
    obtain ⟨k, x, rfl, rfl, hk, hs, br⟩ := hrel
    by_cases hlt : k < m.length
    · obtain ⟨g, off, a, b, rfl, hg, hab, c1, c2⟩ := (HQ.out.below br).get hlt
      have hkl : (k : Int) < (m.length : Int) := by omega
      have hk0 : (0 : Int) ≤ (k : Int) := by omega
      have hm := HB.out k _ hab
      unfold Cl.may at hm
      simp only at hm
      have hs' := sumat_more hs.out hab hm
      have hb1 := hs.out.2
      have HS := Lib.hid hs'
      have w0 : IntKind.i32.wrap (b - a) = b - a := IntWalk.i32_in _ ⟨by omega, by omega⟩
      have w1' : IntKind.i64.wrap (b - a) = b - a := IntWalk.i64_in _ ⟨by omega, by omega⟩
      have w2' : IntKind.i64.wrap (x + (b - a)) = x + (b - a) := IntWalk.i64_in _ ⟨by omega, by omega⟩
      have w3' : IntKind.i64.wrap (x + (b - a) + 1) = x + (b - a) + 1 := IntWalk.i64_in _ ⟨by omega, by omega⟩
      clear hab hs'
      go_wp2_with fail
      go_quiet (fail)
      go_wp2_with fail
      go_roundw
      case rel => exact ⟨k + 1, x + (b - a) + 1, by go_num, rfl, by omega, HS, bdrewN br⟩
      case measure => simp [intOf]; omega
    · obtain rfl : k = m.length := by omega
      have hx : x = n := by
        have := hs.out.1
        rw [List.take_length, HN.out] at this
        exact this
      subst hx
      clear hs HN
      go_wp2_with fail
      go_ret
      exact ⟨rfl, bvia hw1 br⟩
/- all others, k ranges behind -/
def NotAt (l : List Cl.Rg) (k : Nat) (o : List Cl.Rg) (low : Int) : Prop := Cl.notL 0 l = o ++ Cl.notL low (l.drop k) ∧ 0 ≤ low ∧ low ≤ 1114112 ∧ o.length ≤ k
theorem notat_zero (l : List Cl.Rg) : NotAt l 0 [] 0 := ⟨by simp, by omega, by omega, by simp⟩
theorem notat_gap {l : List Cl.Rg} {k : Nat} {o : List Cl.Rg} {low a b : Int} (h : NotAt l k o low) (ht : l[k]? = some (a, b)) (hm : 0 ≤ a ∧ b ≤ 1114111 ∧ a ≤ b) (hl : low < a) : NotAt l (k + 1) (o ++ [(low, a - 1)]) (b + 1) := by
  obtain ⟨h1, h2, h3, h4⟩ := h
  refine ⟨?_, by omega, by omega, by simp; omega⟩
  rw [h1, drop_cons ht, Cl.notL]
  simp only [hl, if_true, List.append_assoc]
theorem notat_none {l : List Cl.Rg} {k : Nat} {o : List Cl.Rg} {low a b : Int} (h : NotAt l k o low) (ht : l[k]? = some (a, b)) (hm : 0 ≤ a ∧ b ≤ 1114111 ∧ a ≤ b) (hl : ¬ low < a) : NotAt l (k + 1) o (b + 1) := by
  obtain ⟨h1, h2, h3, h4⟩ := h
  refine ⟨?_, by omega, by omega, by omega⟩
  rw [h1, drop_cons ht, Cl.notL]
  simp only [hl, if_false, List.nil_append]
theorem notat_end {l : List Cl.Rg} {o : List Cl.Rg} {low : Int} (h : NotAt l l.length o low) : Cl.notL 0 l = o ++ (if low ≤ 1114111 then [(low, 1114111)] else []) := by
  rw [h.1, List.drop_length]; rfl
set_option maxRecDepth 20000 in
set_option maxHeartbeats 4000000 in
theorem rnot_any (p : Option Addr) (cap : Nat) (l : List Cl.Rg) (w : World) (hp : RowP w p l) (hl : l.length ≤ 1000000) :
    Calls Tryd.prog 17 #[.slice p l.length cap] w (Mk 56 (Cl.nots l) w) := by
  obtain ⟨N, hN⟩ : ∃ N, Cl.nots l = N := ⟨_, rfl⟩
  have hN' : Cl.notL 0 (Cl.of l) = N := hN
  rw [hN]
  clear hN
  go_enter Tryd.func17, Tryd.ntmps17
  go_wp2_with fail
  refine (rof_any p cap l _ hp hl).mono ?_
  rintro e w1 ⟨v, rfl, hown, hw1⟩
  obtain ⟨q, c, rfl, _, hc, hq⟩ := row_q hown
  have hle := Cl.of_len l
  have HB := Lib.hid (bd_nf (Cl.of_nf l))
  clear hown
  generalize Cl.of l = m at *
  have HQ := Lib.hid hq
  have HN := Lib.hid hN'
  clear hq hp hN'
  go_wp2_with fail
  go_loopw [4, 5, 6] (fun v lo i wr => ∃ (k : Nat) (o : List Cl.Rg) (low : Int), i = .int .i64 (k : Int) ∧ lo = .int .i32 low ∧ k ≤ m.length ∧ Hid (NotAt m k o low) ∧ OwnP wr w1.heap.size 56 v o ∧ Below w1.heap.size w1 wr) (fun _ _ i _ => m.length - (intOf i).toNat)
  case atStart => exact ⟨0, [], 0, rfl, rfl, Nat.zero_le _, Lib.hid (notat_zero m), OwnP.nil _ _ _, Below.refl _ _⟩
  case round =>
    obtain ⟨k, o, low, rfl, rfl, hk, hs, hown, br⟩ := hrel
    have HO := Lib.hid hown
    have hol := hs.out.2.2.2
    have hlo := hs.out.2.1
    have hlo' := hs.out.2.2.1
    clear hown
    by_cases hlt : k < m.length
    · obtain ⟨g, off, a, b, rfl, hg, hab, c1, c2⟩ := (HQ.out.below br).get hlt
      have hg0 : g < w1.heap.size := by
        obtain ⟨g', _, _, _, he, hg', _⟩ := HQ.out.get hlt
        simp only [Option.some.injEq, Addr.mk.injEq] at he
        omega
      have hkl : (k : Int) < (m.length : Int) := by omega
      have hk0 : (0 : Int) ≤ (k : Int) := by omega
      have hm := HB.out k _ hab
      unfold Cl.may at hm
      simp only at hm
      have wr1 : IntKind.i32.wrap (b + 1) = b + 1 := IntWalk.i32_in _ ⟨by omega, by omega⟩
      have wr2 : IntKind.i32.wrap (a - 1) = a - 1 := IntWalk.i32_in _ ⟨by omega, by omega⟩
      by_cases hlow : low < a
      · have HS := Lib.hid (notat_gap hs.out hab hm hlow)
        clear hab
        go_wp2_with (at_builtin; refine append_pair rfl _ _ 26 rfl w1.heap.size 56 Tryd.underlying26 Tryd.infoQ _ _ o _ _ rfl (by exact HO.out) rfl ?d1 ?d2 ?_)
        case d1 => omega
        case d2 => have := br.size; omega
        · intro v' w' hown' hg
          have b3 := below_own br HO.out (Nat.le_refl _) br.size hg
          have c2' := (b3.cell (p := ⟨g, off + k * 2 + 1, none⟩) hg0).trans ((br.cell (p := ⟨g, off + k * 2 + 1, none⟩) hg0).symm.trans c2)
          have HO' := Lib.hid hown'
          clear hown' hg HO br c1 c2
          go_wp2_with fail
          go_roundw
          case rel => exact ⟨k + 1, _, b + 1, by go_num, rfl, by omega, HS, HO'.out, b3⟩
          case measure => simp [intOf]; omega
      · have HS := Lib.hid (notat_none hs.out hab hm hlow)
        clear hab
        go_wp2_with fail
        go_roundw
        case rel => exact ⟨k + 1, _, b + 1, by go_num, rfl, by omega, HS, HO.out, br⟩
        case measure => simp [intOf]; omega
    · obtain rfl : k = m.length := by omega
      have he := notat_end hs.out
      rw [HN.out] at he
      by_cases hlow : low ≤ 1114111
      · rw [if_pos hlow] at he
        have HE := Lib.hid he
        clear he
        go_wp2_with (at_builtin; refine append_pair rfl _ _ 26 rfl w1.heap.size 56 Tryd.underlying26 Tryd.infoQ _ _ o _ _ rfl (by exact HO.out) rfl ?d3 ?d4 ?_)
        case d3 => omega
        case d4 => have := br.size; omega
        · intro v' w' hown' hg
          have b3 := below_own br HO.out (Nat.le_refl _) br.size hg
          have HO' := Lib.hid hown'
          clear hown' hg HO br
          go_wp2_with fail
          go_ret
          refine ⟨v', rfl, ?_, bvia hw1 b3⟩
          rw [HE.out]
          exact HO'.out.mono hw1.size
      · rw [if_neg hlow, List.append_nil] at he
        subst he
        clear HN
        go_wp2_with fail
        go_ret
        exact ⟨_, rfl, HO.out.mono hw1.size, bvia hw1 br⟩
set_option maxRecDepth 20000 in
set_option maxHeartbeats 4000000 in
theorem runion_any (p q : Option Addr) (cap cap' : Nat) (l m : List Cl.Rg) (w : World) (hp : RowP w p l) (hn : Ptr p cap) (hq : RowP w q m) (hn' : Ptr q cap') (hl : l.length ≤ 100000) (hl' : m.length ≤ 100000) :
    Calls Tryd.prog 15 #[.slice p l.length cap, .slice q m.length cap'] w (Mk 56 (Cl.of (l ++ m)) w) := by
  have HQ := Lib.hid hq
  clear hq
  go_enter Tryd.func15, Tryd.ntmps15
  go_wp2_with (at_builtin; refine append_row rfl _ _ 26 rfl w.heap.size 56 Tryd.underlying26 Tryd.infoQ _ _ [] l p cap rfl (OwnP.nil _ _ _) rfl hp hn ?d1 (Nat.le_refl _) ?_)
  case d1 => simp; omega
  intro v' w' hown' hg
  have b3 := below_own (Below.refl w.heap.size w) (OwnP.nil w w.heap.size 56) (Nat.le_refl _) (Nat.le_refl _) hg
  have HO' := Lib.hid (show OwnP w' w.heap.size 56 v' l by simpa using hown')
  have hq' := HQ.out.below b3
  have hs := b3.size
  clear hown' hg hp hn HQ
  go_wp2_with (at_builtin; refine append_row rfl _ _ 26 rfl w.heap.size 56 Tryd.underlying26 Tryd.infoQ _ _ l m q cap' rfl (by exact HO'.out) rfl hq' hn' ?d2 hs ?_)
  case d2 => omega
  intro v2 w2 hown2 hg2
  have b4 := below_own b3 HO'.out (Nat.le_refl _) hs hg2
  obtain ⟨q2, c2, rfl, _, hc2, hq2⟩ := row_q hown2
  clear hown2 hg2 HO' b3 hq'
  have hlen : (l ++ m).length ≤ 1000000 := by simp; omega
  generalize l ++ m = lm at *
  go_wp2_with fail
  refine (rof_any q2 c2 lm _ hq2 hlen).mono ?_
  rintro e w3 ⟨v3, rfl, hown3, hw3⟩
  have b5 := bvia b4 hw3
  have HO3 := Lib.hid (hown3.mono b4.size)
  clear hown3 hw3 b4 hq2
  go_wp2_with fail
  go_ret
  exact ⟨_, rfl, HO3.out, b5⟩
end Go.Proofs.YtpnakbhbaghhgaaDoor
