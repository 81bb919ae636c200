import Derived.Test.YtdoapojmenojoaaGreatDoorJCSort
import Derived.Test.YtdoapojmenojoaaGreatDoorJCSame
import Derived.Lib.AppendZeros
set_option linter.unusedSimpArgs false
set_option linter.unusedVariables false
section
/- The project's classes: the class of any ranges, which runes it has, how many, all others. -/
set_option linter.unusedVariables false
namespace Go.Proofs.YtdoapojmenojoaaGreatDoor
open Go.RowKit

theorem pcells_set (l : List Cl.Rg) (a b c : Int) : (pcells (l ++ [(a, b)])).set (l.length * 2 + 1) (.int .i32 c) = pcells (l ++ [(a, c)]) := by
  rw [pcells_app, pcells_app, List.set_append_right _ _ (by rw [pcells_len]; omega), pcells_len]
  rw [show l.length * 2 + 1 - l.length * 2 = 1 by omega]
  rfl
/- the last one of a row -/
theorem own_last {w : World} {base : Nat} {e : TypeId} {v : Value} {i : List Cl.Rg} {a b : Int} (h : OwnP w base e v (i ++ [(a, b)])) :
    ∃ g cap, v = .slice (some ⟨g, 0, none⟩) (i.length + 1) cap ∧ base ≤ g ∧ g < w.heap.size ∧ w.cell? ⟨g, i.length * 2, none⟩ = some (.int .i32 a) ∧ w.cell? ⟨g, i.length * 2 + 1, none⟩ = some (.int .i32 b) ∧ w.frozen? ⟨g, i.length * 2 + 1, none⟩ = false ∧
      ∀ c, OwnP (w.setCell ⟨g, i.length * 2 + 1, none⟩ (.int .i32 c)) base e v (i ++ [(a, c)]) := by
  have hl : (i ++ [(a, b)]).length = i.length + 1 := by simp
  have hx : (i ++ [(a, b)])[i.length]? = some (a, b) := by simp
  obtain ⟨p1, p2⟩ := pcells_at _ _ _ hx
  have h0 := h
  unfold OwnP at h0
  rcases h0.2 with ⟨_, h1⟩ | ⟨g, cap, cur, rfl, hg, hgg, hc, _⟩
  · omega
  · refine ⟨g, cap, by rw [hl], hg, (Array.getElem?_eq_some_iff.1 hgg).1, (h0.cellAt _ (by omega)).trans p1, (h0.cellAt _ (by omega)).trans p2, h0.frozenAt _, fun c => ?_⟩
    have hst := (h0.stored (i.length * 2 + 1) (.int .i32 c)).1
    rw [pcells_set] at hst
    unfold OwnP
    rw [show (i ++ [(a, c)]).length = (i ++ [(a, b)]).length by simp]
    exact hst
theorem sorted_may {l l' : List Cl.Rg} (h : Sorted (Cl.mays l) l') : Bd l' := fun k r hr => ((Cl.mays_mem l r).1 (h.1.mem_iff.1 (List.mem_of_getElem? hr))).2
theorem sorted_of {l l' : List Cl.Rg} (h : Sorted (Cl.mays l) l') : Cl.mg l' = Cl.of l :=
  Cl.mg_of (fun r hr => ((Cl.mays_mem l r).1 (h.1.mem_iff.1 hr)).2) h.2 (fun r => h.1.mem_iff.trans (Cl.mays_mem l r))
theorem mg_bd {l : List Cl.Rg} (h : Bd l) (hs : l.Pairwise (fun r s => r.1 ≤ s.1)) (k : Nat) : Cl.NF (Cl.mg (l.take k)) :=
  (Cl.mg_aux (l.take k) [] Cl.nf_nil (fun r hr => by
    obtain ⟨j, hj, rfl⟩ := List.getElem_of_mem (List.mem_of_mem_take hr)
    exact h j _ (List.getElem?_eq_getElem hj)) (hs.sublist (List.take_sublist ..)) (fun t ht => by cases ht)).1
/- the box of a round's own range -/
structure Box (wr wa : World) (a b : Int) : Prop where
  two : Two wa wr.heap.size (.int .i32 a) (.int .i32 b)
  bel : Below wr.heap.size wr wa
  lt : wr.heap.size < wa.heap.size
theorem box_new (wr : World) (a b : Int) (t : TypeId) : Box wr (wr.alloc (.cells #[.int .i32 a, .int .i32 b] t)) a b := ⟨Two.new wr _ _ t, Below.alloc (Below.refl _ _) (Nat.le_refl _) _, by simp⟩
theorem Box.drewN {wr wa : World} {a b : Int} (h : Box wr wa a b) (n : Nat) : Box wr (wa.drewN n) a b := ⟨h.two.drewN n, bdrewN h.bel, h.lt⟩
set_option maxRecDepth 20000 in
set_option maxHeartbeats 4000000 in
theorem of_any (p : Option Addr) (cap : Nat) (l : List Cl.Rg) (w : World) (hp : RowP w p l) (hl : l.length ≤ 1000000) :
    Calls Tryz.prog 116 #[.slice p l.length cap] w (Mk 116 (Cl.of l) w) := by
  go_enter Tryz.func116, Tryz.ntmps116
  go_wp2_with fail
  refine (rising_any p cap l _ hp hl).mono ?_
  rintro e w1 ⟨q, c, l', rfl, hle, hc, hq, hso, hw1⟩
  have HB := Lib.hid (sorted_may hso)
  have HE := Lib.hid (sorted_of hso)
  have HS := Lib.hid hso.2
  have HQ := Lib.hid hq
  clear hso hq hp
  go_wp2_with fail
  go_loopw [2, 9, 5] (fun v i _ wr => ∃ k : Nat, i = .int .i64 (k : Int) ∧ k ≤ l'.length ∧ OwnP wr w1.heap.size 116 v (Cl.mg (l'.take k)) ∧ Below w1.heap.size w1 wr) (fun _ i _ _ => l'.length - (intOf i).toNat)
  case atStart => exact ⟨0, rfl, Nat.zero_le _, OwnP.nil _ _ _, Below.refl _ _⟩
  case round =>
    obtain ⟨k, rfl, hk, hown, br⟩ := hrel
    by_cases hlt : k < l'.length
    · obtain ⟨g, off, a, b, rfl, hg, hab, c1, c2⟩ := (HQ.out.below br).get hlt
      have hkl : (k : Int) < (l'.length : Int) := by omega
      have hm := HB.out k _ hab
      have hst := Lib.hid (Cl.mg_take l' k _ hab)
      have hlen := Cl.mg_len (l'.take k)
      rw [take_len hk] at hlen
      have hnf := mg_bd HB.out HS.out k
      generalize Cl.mg (l'.take k) = acc at *
      unfold Cl.may at hm
      simp only at hm
      have bsz := br.size
      clear hab
      rcases List.eq_nil_or_concat acc with rfl | ⟨i, ⟨ta, tb⟩, hacc⟩
      · obtain ⟨q', c', rfl, _, _, _⟩ := row_q hown
        have HO := Lib.hid hown
        clear hown
        have hst' := Lib.hid (hst.out.trans (Cl.step_nil _))
        clear hst
        have hneg : IntKind.i64.wrap (((([] : List Cl.Rg).length : Nat) : Int) - 1) = -1 := by decide
        simp only [List.length_nil] at *
        go_wp2_with fail
        have hbx := box_new wr a b 116
        have HO1 := Lib.hid (HO.out.alloc (.cells #[.int .i32 a, .int .i32 b] 116))
        generalize wr.alloc (.cells #[.int .i32 a, .int .i32 b] 116) = wa at hbx HO1 ⊢
        have b1 := br.trans (hbx.bel.mono bsz)
        obtain ⟨t0, t1, _, ts⟩ := hbx.two
        clear hbx HO c1 c2
        go_quiet (fail)
        have HO2 := Lib.hid (HO1.out.drewN nq)
        have b2 := bdrewN (n := nq) b1
        have t0 : (wa.drewN nq).cell? ⟨wr.heap.size, 0, none⟩ = some (.int .i32 a) := t0
        have t1 : (wa.drewN nq).cell? ⟨wr.heap.size, 1, none⟩ = some (.int .i32 b) := t1
        clear HO1 b1
        generalize wa.drewN nq = wq at HO2 b2 t0 t1 ⊢
        go_wp2_with (at_builtin; refine append_pair rfl _ _ 26 rfl w1.heap.size 116 Tryz.underlying26 Tryz.infoP _ _ [] _ _ rfl (by exact HO2.out) rfl ?d1 ?d2 ?_)
        case d1 => simp
        case d2 => exact b2.size
        · intro v' w' hown' hg'
          have b3 := below_own b2 HO2.out (Nat.le_refl _) b2.size hg'
          have HO3 := Lib.hid (show OwnP w' w1.heap.size 116 v' [(a, b)] by simpa using hown')
          clear hown' hg' HO2 b2 t0 t1
          go_wp2_with fail
          go_roundw
          case rel => exact ⟨k + 1, by go_num, by omega, by rw [hst'.out]; exact HO3.out, b3⟩
          case measure => simp [intOf]; omega
      · rw [List.concat_eq_append] at hacc
        subst hacc
        have hta := hnf.2 (ta, tb) (by simp)
        unfold Cl.may at hta
        simp only at hta
        have hwb : IntKind.i32.wrap (tb + 1) = tb + 1 := IntWalk.i32_in _ ⟨by omega, by omega⟩
        have hil : i.length + 1 ≤ l'.length := by simp at hlen; omega
        obtain ⟨g2, c2', rfl, hg2, _, _⟩ := own_last hown
        have HO := Lib.hid hown
        clear hown hlen
        have hi1 : IntKind.i64.wrap (((i.length + 1 : Nat) : Int) - 1) = (i.length : Int) := (IntWalk.i64_in _ ⟨by omega, by omega⟩).trans (by omega)
        have hi2 : IntKind.i64.wrap ((i.length : Int) + 1 - 1) = (i.length : Int) := (IntWalk.i64_in _ ⟨by omega, by omega⟩).trans (by omega)
        have hi3 : IntKind.i64.wrap (i.length : Int) = (i.length : Int) := IntWalk.i64_in _ ⟨by omega, by omega⟩
        have hi4 : (0 : Int) ≤ (i.length : Int) := by omega
        have hi5 : (i.length : Int) < ((i.length + 1 : Nat) : Int) := by omega
        have hi6 : (i.length : Int) < (i.length : Int) + 1 := by omega
        have hbx := box_new wr a b 116
        have HO1 := Lib.hid (HO.out.alloc (.cells #[.int .i32 a, .int .i32 b] 116))
        by_cases hto : a ≤ tb + 1
        · have hst' := Lib.hid (hst.out.trans (Cl.step_join _ _ _ hto))
          have hto' : decide (a ≤ tb + 1) = true := decide_eq_true hto
          clear hst
          go_wp2_with fail
          generalize wr.alloc (.cells #[.int .i32 a, .int .i32 b] 116) = wa at hbx HO1 ⊢
          have b1 := br.trans (hbx.bel.mono bsz)
          obtain ⟨t0, t1, _, ts⟩ := hbx.two
          obtain ⟨g3, c3, hv3, _, hg3, s0, s1, s2, hset⟩ := own_last HO1.out
          simp only [Value.slice.injEq, Option.some.injEq, Addr.mk.injEq, and_true, true_and] at hv3
          obtain ⟨rfl, rfl⟩ := hv3
          have HSET := Lib.hid hset
          clear hbx HO c1 c2 hset
          go_quiet (fail)
          go_wp2_with fail
          have t0 : (wa.drewN nq).cell? ⟨wr.heap.size, 0, none⟩ = some (.int .i32 a) := t0
          have t1 : (wa.drewN nq).cell? ⟨wr.heap.size, 1, none⟩ = some (.int .i32 b) := t1
          have s0 : (wa.drewN nq).cell? ⟨g2, i.length * 2, none⟩ = some (.int .i32 ta) := s0
          have s1 : (wa.drewN nq).cell? ⟨g2, i.length * 2 + 1, none⟩ = some (.int .i32 tb) := s1
          have s2 : (wa.drewN nq).frozen? ⟨g2, i.length * 2 + 1, none⟩ = false := s2
          have b2 := bdrewN (n := nq) b1
          have SET2 : Hid (∀ c, OwnP ((wa.drewN nq).setCell ⟨g2, i.length * 2 + 1, none⟩ (.int .i32 c)) w1.heap.size 116 (.slice (some ⟨g2, 0, none⟩) (i.length + 1) c2') (i ++ [(ta, c)])) := Lib.hid (fun c => (own_last (HO1.out.drewN nq)).elim fun g4 h4 => by
            obtain ⟨c4, hv4, _, _, _, _, _, h5⟩ := h4
            simp only [Value.slice.injEq, Option.some.injEq, Addr.mk.injEq, and_true, true_and] at hv4
            obtain ⟨rfl, rfl⟩ := hv4
            exact h5 c)
          clear HSET HO1 b1
          generalize wa.drewN nq = wq at *
          go_still_tail 10, (by kernel_rfl)
          change wpList _ _ _ _ _ wq.drew
          have t0 : wq.drew.cell? ⟨wr.heap.size, 0, none⟩ = some (.int .i32 a) := t0
          have t1 : wq.drew.cell? ⟨wr.heap.size, 1, none⟩ = some (.int .i32 b) := t1
          have s1 : wq.drew.cell? ⟨g2, i.length * 2 + 1, none⟩ = some (.int .i32 tb) := s1
          have s2 : wq.drew.frozen? ⟨g2, i.length * 2 + 1, none⟩ = false := s2
          have b3 := b2.drew
          have SET3 : Hid (∀ c, OwnP (wq.drew.setCell ⟨g2, i.length * 2 + 1, none⟩ (.int .i32 c)) w1.heap.size 116 (.slice (some ⟨g2, 0, none⟩) (i.length + 1) c2') (i ++ [(ta, c)])) := Lib.hid (fun c => (SET2.out c))
          clear SET2 b2
          generalize wq.drew = wd at *
          go_wp2_with fail
          have HO4 := Lib.hid (SET3.out (max tb b))
          have b4 := b3.setCell (p := ⟨g2, i.length * 2 + 1, none⟩) hg2 (.int .i32 (max tb b))
          clear t0 t1 s0 s1 s2 SET3
          generalize wd.setCell ⟨g2, i.length * 2 + 1, none⟩ (.int .i32 (max tb b)) = we at *
          go_roundw
          case rel => exact ⟨k + 1, by go_num, by omega, by rw [hst'.out]; exact HO4.out, b4⟩
          case measure => simp [intOf]; omega
        · have hst' := Lib.hid (hst.out.trans (Cl.step_more _ _ _ hto))
          have hto' : decide (a ≤ tb + 1) = false := decide_eq_false hto
          clear hst
          go_wp2_with fail
          generalize wr.alloc (.cells #[.int .i32 a, .int .i32 b] 116) = wa at hbx HO1 ⊢
          have b1 := br.trans (hbx.bel.mono bsz)
          obtain ⟨t0, t1, _, ts⟩ := hbx.two
          obtain ⟨g3, c3, hv3, _, hg3, s0, s1, s2, hset⟩ := own_last HO1.out
          simp only [Value.slice.injEq, Option.some.injEq, Addr.mk.injEq, and_true, true_and] at hv3
          obtain ⟨rfl, rfl⟩ := hv3
          clear hbx HO c1 c2 hset
          go_quiet (fail)
          have HO2 := Lib.hid (HO1.out.drewN nq)
          have b2 := bdrewN (n := nq) b1
          have t0 : (wa.drewN nq).cell? ⟨wr.heap.size, 0, none⟩ = some (.int .i32 a) := t0
          have t1 : (wa.drewN nq).cell? ⟨wr.heap.size, 1, none⟩ = some (.int .i32 b) := t1
          clear HO1 b1 s0 s1 s2
          generalize wa.drewN nq = wq at HO2 b2 t0 t1 ⊢
          go_wp2_with (at_builtin; refine append_pair rfl _ _ 26 rfl w1.heap.size 116 Tryz.underlying26 Tryz.infoP _ _ (i ++ [(ta, tb)]) _ _ rfl (by exact HO2.out) rfl ?d3 ?d4 ?_)
          case d3 => simp; omega
          case d4 => exact b2.size
          · intro v' w' hown' hg'
            have b3 := below_own b2 HO2.out (Nat.le_refl _) b2.size hg'
            have HO3 := Lib.hid (show OwnP w' w1.heap.size 116 v' (i ++ [(ta, tb)] ++ [(a, b)]) by first | exact hown' | simpa using hown')
            clear hown' hg' HO2 b2 t0 t1
            go_wp2_with fail
            go_roundw
            case rel => exact ⟨k + 1, by go_num, by omega, by rw [hst'.out]; exact HO3.out, b3⟩
            case measure => simp [intOf]; omega
    · obtain rfl : k = l'.length := by omega
      have HO1 := Lib.hid (show OwnP wr w1.heap.size 116 u2 (Cl.of l) by rw [List.take_length, HE.out] at hown; exact hown)
      clear hown
      go_wp2_with fail
      go_ret
      exact ⟨u2, rfl, HO1.out.mono hw1.size, hw1.trans (br.mono hw1.size)⟩
end Go.Proofs.YtdoapojmenojoaaGreatDoor
end

section
/- The project's classes: which runes one has, how many, all others. -/
set_option linter.unusedVariables false
namespace Go.Proofs.YtdoapojmenojoaaGreatDoor
open Go.RowKit

set_option maxRecDepth 20000 in
set_option maxHeartbeats 4000000 in
theorem not_any (p : Option Addr) (cap : Nat) (l : List Cl.Rg) (w : World) (hp : RowP w p l) (hl : l.length ≤ 1000000) :
    Calls Tryz.prog 81 #[.slice p l.length cap] w (Mk 116 (Cl.nots l) w) := by
  obtain ⟨N, hN⟩ : ∃ N, Cl.nots l = N := ⟨_, rfl⟩
  have hN' : Cl.notL 0 (Cl.of l) = N := hN
  rw [hN]
  clear hN
  go_enter Tryz.func81, Tryz.ntmps81
  go_wp2_with fail
  refine (of_any p cap l _ hp hl).mono ?_
  rintro e w1 ⟨v, rfl, hown, hw1⟩
  obtain ⟨q, c, rfl, _, hc, hq⟩ := row_q hown
  have hle := Cl.of_len l
  have HB := Lib.hid (bd_nf (Cl.of_nf l))
  clear hown
  generalize Cl.of l = m at *
  have HQ := Lib.hid hq
  have HN := Lib.hid hN'
  clear hq hp hN'
  go_wp2_with fail
  go_loopw [2, 3, 9] (fun v lo i wr => ∃ (k : Nat) (o : List Cl.Rg) (low : Int), i = .int .i64 (k : Int) ∧ lo = .int .i32 low ∧ k ≤ m.length ∧ Hid (NotAt m k o low) ∧ OwnP wr w1.heap.size 116 v o ∧ Below w1.heap.size w1 wr) (fun _ _ i _ => m.length - (intOf i).toNat)
  case atStart => exact ⟨0, [], 0, rfl, rfl, Nat.zero_le _, Lib.hid (notat_zero m), OwnP.nil _ _ _, Below.refl _ _⟩
  case round =>
    obtain ⟨k, o, low, rfl, rfl, hk, hs, hown, br⟩ := hrel
    have HO := Lib.hid hown
    have hol := hs.out.2.2.2
    have hlo := hs.out.2.1
    have hlo' := hs.out.2.2.1
    clear hown
    by_cases hlt : k < m.length
    · obtain ⟨g, off, a, b, rfl, hg, hab, c1, c2⟩ := (HQ.out.below br).get hlt
      have hkl : (k : Int) < (m.length : Int) := by omega
      have hk0 : (0 : Int) ≤ (k : Int) := by omega
      have hm := HB.out k _ hab
      unfold Cl.may at hm
      simp only at hm
      have wr1 : IntKind.i32.wrap (b + 1) = b + 1 := IntWalk.i32_in _ ⟨by omega, by omega⟩
      have wr2 : IntKind.i32.wrap (a - 1) = a - 1 := IntWalk.i32_in _ ⟨by omega, by omega⟩
      have bsz := br.size
      have hbx := box_new wr a b 116
      have HO1 := Lib.hid (HO.out.alloc (.cells #[.int .i32 a, .int .i32 b] 116))
      have b1 := br.trans (hbx.bel.mono bsz)
      by_cases hlow : low < a
      · have HS := Lib.hid (notat_gap hs.out hab hm hlow)
        clear hab
        go_wp2_with (at_builtin; refine append_pair rfl _ _ 26 rfl w1.heap.size 116 Tryz.underlying26 Tryz.infoP _ _ o _ _ rfl (by exact HO1.out) (by simp [Act.eval]) ?d1 ?d2 ?_)
        case d1 => omega
        case d2 => exact b1.size
        · intro v' w' hown' hg'
          have b3 := below_own b1 HO1.out (Nat.le_refl _) b1.size hg'
          have hbl : w'.heap[wr.heap.size]? = (wr.alloc (.cells #[.int .i32 a, .int .i32 b] 116)).heap[wr.heap.size]? := hg'.block _ hbx.lt (fun e => by
            have h1 := hg'.block
            rcases HO.out.2 with ⟨hv0, _⟩ | ⟨g3, cap3, cur3, hv0, _, hgg, _⟩
            · rw [hv0] at e; simp [Value.ownBlock] at e
            · rw [hv0] at e
              simp only [Value.ownBlock, Option.some.injEq] at e
              have := (Array.getElem?_eq_some_iff.1 hgg).1
              omega)
          have t1 := (cell_of_block (a := ⟨wr.heap.size, 1, none⟩) hbl).trans hbx.two.2.1
          have HO' := Lib.hid hown'
          clear hown' hg' HO HO1 br b1 c1 c2 hbx hbl
          go_wp2_with fail
          go_roundw
          case rel => exact ⟨k + 1, _, b + 1, by go_num, rfl, by omega, HS, HO'.out, b3⟩
          case measure => simp [intOf]; omega
      · have HS := Lib.hid (notat_none hs.out hab hm hlow)
        clear hab
        go_wp2_with fail
        go_roundw
        case rel => exact ⟨k + 1, _, b + 1, by go_num, rfl, by omega, HS, HO1.out, b1⟩
        case measure => simp [intOf]; omega
    · obtain rfl : k = m.length := by omega
      have he := notat_end hs.out
      rw [HN.out] at he
      by_cases hlow : low ≤ 1114111
      · rw [if_pos hlow] at he
        have HE := Lib.hid he
        clear he
        go_wp2_with (at_builtin; refine append_pair rfl _ _ 26 rfl w1.heap.size 116 Tryz.underlying26 Tryz.infoP _ _ o _ _ rfl (by exact HO.out) rfl ?d3 ?d4 ?_)
        case d3 => omega
        case d4 => have := br.size; omega
        · intro v' w' hown' hg
          have b3 := below_own br HO.out (Nat.le_refl _) br.size hg
          have HO' := Lib.hid hown'
          clear hown' hg HO br
          go_wp2_with fail
          go_ret
          refine ⟨v', rfl, ?_, bvia hw1 b3⟩
          rw [HE.out]
          exact HO'.out.mono hw1.size
      · rw [if_neg hlow, List.append_nil] at he
        subst he
        clear HN
        go_wp2_with fail
        go_ret
        exact ⟨_, rfl, HO.out.mono hw1.size, bvia hw1 br⟩
end Go.Proofs.YtdoapojmenojoaaGreatDoor
end

section
/- The project's classes: unions; the library's Concat and Grow. -/
set_option linter.unusedVariables false
namespace Go.Proofs.YtdoapojmenojoaaGreatDoor
open Go.RowKit

theorem grow_zero (w : World) : Calls Tryz.prog 178 #[.slice none 0 0, .int .i64 0] w fun e w' => e = .returned (.slice none 0 0) ∧ w = w' := by
  go_enter Tryz.func178, Tryz.ntmps178
  go_wp2_with fail
  go_ret
  exact ⟨rfl, rfl⟩
theorem grown_zero_own (w : World) (n : Nat) (hn : n ≤ 1000000) (e : TypeId) : OwnP (w.drew.alloc (.cells (Builtin.zeroCells (Value.cells (.agg #[.int .i32 0, .int .i32 0])) n ++ Builtin.zeroCells (Value.cells (.agg #[.int .i32 0, .int .i32 0])) (grownCap w n 0 e - n)) e)) w.heap.size e (.slice (some ⟨w.heap.size, 0, none⟩) 0 (grownCap w n 0 e)) [] := by
  have h1 := grownCap_ge w n 0 e
  have h2 := grownCap_le_maxLen w n 0 e (by unfold maxLen; omega)
  unfold OwnP World.ownsRow
  refine ⟨rfl, .inr ⟨w.heap.size, grownCap w n 0 e, Builtin.zeroCells (Value.cells (.agg #[.int .i32 0, .int .i32 0])) n ++ Builtin.zeroCells (Value.cells (.agg #[.int .i32 0, .int .i32 0])) (grownCap w n 0 e - n), rfl, Nat.le_refl _, ?_, Nat.zero_le _, h2, ?_, by simp [pcells]⟩⟩
  · show (w.heap.push _)[w.heap.size]? = _
    simp
  · simp only [Array.size_append, size_zeroCells]
    have : (Value.cells (.agg #[.int .i32 0, .int .i32 0])).size = 2 := rfl
    rw [this]; omega
set_option maxRecDepth 20000 in
set_option maxHeartbeats 4000000 in
theorem grow_some (n : Nat) (w : World) (h0 : 0 < n) (hn : n ≤ 1000000) : Calls Tryz.prog 178 #[.slice none 0 0, .int .i64 (n : Int)] w (Mk 116 [] w) := by
  obtain ⟨i0, hi, hz0, hz1, hz2⟩ := info_parts Tryz.infoP
  have hw : IntKind.i64.wrap (n : Int) = n := IntWalk.i64_in _ ⟨by omega, by omega⟩
  have h0' : (0 : Int) < (n : Int) := by omega
  have hrun := fun ty => Lib.run_append_nil_zeros (P := Tryz.prog) w 26 3 ty 116 i0 _ .i64 .i64 Tryz.underlying26 Tryz.underlying3 hi hz0 n h0 (by omega) (by omega) (by rw [hz2]; omega)
  have hcap : (0 : Int) ≤ ((grownCap w n 0 116 : Nat) : Int) := by omega
  have HO := Lib.hid (grown_zero_own w n hn 116)
  have hbel : Below w.heap.size w (w.drew.alloc (.cells (Builtin.zeroCells (Value.cells (.agg #[.int .i32 0, .int .i32 0])) n ++ Builtin.zeroCells (Value.cells (.agg #[.int .i32 0, .int .i32 0])) (grownCap w n 0 116 - n)) 116)) := (Below.refl _ _).drew.alloc (by simp) _
  have BE := Lib.hid hbel
  have HR := Lib.hid hrun
  clear hbel hrun
  go_enter Tryz.func178, Tryz.ntmps178
  go_wp2_with (at_builtin; refine Lib.wpList_append_run _ rfl _ _ 26 3 rfl _ _ rfl rfl _ _ (by exact HR.out _) ?_)
  clear HR
  go_wp2_with fail
  go_ret
  exact ⟨_, rfl, HO.out, BE.out⟩
theorem grow_any (n : Nat) (w : World) (hn : n ≤ 1000000) : Calls Tryz.prog 178 #[.slice none 0 0, .int .i64 (n : Int)] w (Mk 116 [] w) := by
  rcases Nat.eq_zero_or_pos n with rfl | h
  · refine (grow_zero w).mono ?_
    rintro e w' ⟨rfl, rfl⟩
    exact ⟨_, rfl, OwnP.nil _ _ _, Below.refl _ _⟩
  · exact grow_some n w h hn
/- how long the first k of two are -/
def lenAt (n m : Nat) : Nat → Nat
  | 0 => 0
  | 1 => n
  | _ => n + m
def catAt (l m : List Cl.Rg) : Nat → List Cl.Rg
  | 0 => []
  | 1 => l
  | _ => l ++ m
set_option maxRecDepth 20000 in
set_option maxHeartbeats 4000000 in
theorem concat_any (b : Nat) (p q : Option Addr) (cap cap' : Nat) (l m : List Cl.Rg) (w : World) (h0 : w.cell? ⟨b, 0, none⟩ = some (.slice p l.length cap)) (h1 : w.cell? ⟨b, 1, none⟩ = some (.slice q m.length cap')) (hb : b < w.heap.size)
    (hp : RowP w p l) (hn : Ptr p cap) (hq : RowP w q m) (hn' : Ptr q cap') (hl : l.length ≤ 100000) (hl' : m.length ≤ 100000) :
    Calls Tryz.prog 157 #[.slice (some ⟨b, 0, none⟩) 2 2] w (Mk 116 (l ++ m) w) := by
  have HP := Lib.hid hp
  have HQ := Lib.hid hq
  clear hp hq
  go_enter Tryz.func157, Tryz.ntmps157
  go_wp2_with fail
  go_loopw [3, 5, 11] (fun s _ i wr => ∃ k : Nat, k ≤ 2 ∧ i = .int .i64 (k : Int) ∧ s = .int .i64 (lenAt l.length m.length k : Int) ∧ wr = w) (fun _ _ i _ => 2 - (intOf i).toNat)
  case atStart => exact ⟨0, by omega, rfl, rfl, rfl⟩
  case round =>
    obtain ⟨k, hk, rfl, rfl, hww⟩ := hrel
    obtain rfl := hww.symm
    rcases (show k = 0 ∨ k = 1 ∨ k = 2 by omega) with rfl | rfl | rfl
    · have w1 : IntKind.i64.wrap ((l.length : Nat) : Int) = l.length := IntWalk.i64_in _ ⟨by omega, by omega⟩
      simp only [lenAt]
      go_wp2_with fail
      go_roundw
      case rel => exact ⟨1, by omega, rfl, by simp [lenAt], trivial⟩
      case measure => simp [intOf]
    · have w1 : IntKind.i64.wrap ((l.length : Int) + (m.length : Int)) = (l.length : Int) + (m.length : Int) := IntWalk.i64_in _ ⟨by omega, by omega⟩
      have w2 : (0 : Int) ≤ (l.length : Int) + (m.length : Int) := by omega
      simp only [lenAt]
      go_wp2_with fail
      go_roundw
      case rel => exact ⟨2, by omega, rfl, by simp [lenAt], trivial⟩
      case measure => simp [intOf]
    · have w2 : (lenAt l.length m.length 2 : Int) = ((l.length + m.length : Nat) : Int) := rfl
      rw [w2]
      have hsz : l.length + m.length ≤ 1000000 := by omega
      generalize l.length + m.length = N at *
      clear w2
      go_wp2_with fail
      refine (grow_any N _ hsz).mono ?_
      rintro e w1 ⟨v, rfl, hown, hw1⟩
      have H0 := Lib.hid h0
      have H1 := Lib.hid h1
      clear h0 h1
      have HO := Lib.hid hown
      have hbl : b < w1.heap.size := Nat.lt_of_lt_of_le hb hw1.size
      clear hown
      go_wp2_with fail
      go_loopw [6, 8, 27] (fun v _ i wr2 => ∃ k : Nat, k ≤ 2 ∧ i = .int .i64 (k : Int) ∧ OwnP wr2 w.heap.size 116 v (catAt l m k) ∧ Below w.heap.size w wr2) (fun _ _ i _ => 2 - (intOf i).toNat)
      case atStart => exact ⟨0, by omega, rfl, HO.out, hw1⟩
      case round =>
        obtain ⟨k, hk, rfl, hown, br⟩ := hrel
        have h0 := ((br.cell (p := ⟨b, 0, none⟩) hb)).trans H0.out
        have h1 := ((br.cell (p := ⟨b, 1, none⟩) hb)).trans H1.out
        have HO := Lib.hid hown
        clear hown
        rcases (show k = 0 ∨ k = 1 ∨ k = 2 by omega) with rfl | rfl | rfl
        · go_wp2_with (at_builtin; refine append_row rfl _ _ 26 rfl w.heap.size 116 Tryz.underlying26 Tryz.infoP _ _ [] l p cap rfl (by exact HO.out) rfl (HP.out.below br) hn ?d1 br.size ?_)
          case d1 => simp; omega
          intro v' w' hown' hg
          have b3 := below_own br HO.out (Nat.le_refl _) br.size hg
          have HO' := Lib.hid (show OwnP w' w.heap.size 116 v' (catAt l m 1) by simpa [catAt] using hown')
          clear hown' hg HO br h0 h1
          go_wp2_with fail
          go_roundw
          case rel => exact ⟨1, by omega, rfl, HO'.out, b3⟩
          case measure => simp [intOf]
        · go_wp2_with (at_builtin; refine append_row rfl _ _ 26 rfl w.heap.size 116 Tryz.underlying26 Tryz.infoP _ _ l m q cap' rfl (by exact HO.out) rfl (HQ.out.below br) hn' ?d2 br.size ?_)
          case d2 => omega
          intro v' w' hown' hg
          have b3 := below_own br HO.out (Nat.le_refl _) br.size hg
          have HO' := Lib.hid (show OwnP w' w.heap.size 116 v' (catAt l m 2) from hown')
          clear hown' hg HO br h0 h1
          go_wp2_with fail
          go_roundw
          case rel => exact ⟨2, by omega, rfl, HO'.out, b3⟩
          case measure => simp [intOf]
        · go_wp2_with fail
          go_ret
          exact ⟨_, rfl, HO.out, br⟩
set_option maxRecDepth 20000 in
set_option maxHeartbeats 4000000 in
theorem union_any (p q : Option Addr) (cap cap' : Nat) (l m : List Cl.Rg) (w : World) (hp : RowP w p l) (hn : Ptr p cap) (hq : RowP w q m) (hn' : Ptr q cap') (hl : l.length ≤ 100000) (hl' : m.length ≤ 100000) :
    Calls Tryz.prog 136 #[.slice p l.length cap, .slice q m.length cap'] w (Mk 116 (Cl.of (l ++ m)) w) := by
  have hT := Two.new w (.slice p l.length cap) (.slice q m.length cap') 26
  have bA : Below w.heap.size w (w.alloc (.cells #[.slice p l.length cap, .slice q m.length cap'] 26)) := Below.alloc (Below.refl _ _) (Nat.le_refl _) _
  have hPa := hp.below bA
  have hQa := hq.below bA
  clear hp hq
  go_enter Tryz.func136, Tryz.ntmps136
  go_wp2_with fail
  generalize w.alloc (.cells #[.slice p l.length cap, .slice q m.length cap'] 26) = wa at *
  refine (concat_any w.heap.size p q cap cap' l m wa hT.1 hT.2.1 hT.2.2.2 hPa hn hQa hn' hl hl').mono ?_
  rintro e w1 ⟨v, rfl, hown, hw1⟩
  obtain ⟨q2, c2, rfl, _, _, hr2⟩ := row_q hown
  have b1 := bvia bA hw1
  have hlen : (l ++ m).length ≤ 1000000 := by simp; omega
  clear hown hT hPa hQa hw1 bA
  generalize l ++ m = lm at *
  go_wp2_with fail
  refine (of_any q2 c2 lm _ hr2 hlen).mono ?_
  rintro e w2 ⟨v2, rfl, hown2, hw2⟩
  have b2 := bvia b1 hw2
  have HO2 := Lib.hid (hown2.mono b1.size)
  clear hown2 hw2 b1 hr2
  go_wp2_with fail
  go_ret
  exact ⟨_, rfl, HO2.out, b2⟩
end Go.Proofs.YtdoapojmenojoaaGreatDoor
end
