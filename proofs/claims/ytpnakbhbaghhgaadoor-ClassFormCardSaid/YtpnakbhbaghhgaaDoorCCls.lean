/- The project's classes: the class of any ranges, which runes it has, how many, all others. -/
import Derived.Test.YtpnakbhbaghhgaaDoorCSort
import Derived.Test.YtpnakbhbaghhgaaDoorCSame
set_option linter.unusedVariables false
namespace Go.Proofs.YtpnakbhbaghhgaaDoor
open Go.RowKit

theorem pcells_set (l : List Cl.Rg) (a b c : Int) : (pcells (l ++ [(a, b)])).set (l.length * 2 + 1) (.int .i32 c) = pcells (l ++ [(a, c)]) := by
  rw [pcells_app, pcells_app, List.set_append_right _ _ (by rw [pcells_len]; omega), pcells_len]
  rw [show l.length * 2 + 1 - l.length * 2 = 1 by omega]
  rfl
/- the last one of a row -/
theorem own_last {w : World} {base : Nat} {e : TypeId} {v : Value} {i : List Cl.Rg} {a b : Int} (h : OwnP w base e v (i ++ [(a, b)])) :
    ∃ g cap, v = .slice (some ⟨g, 0, none⟩) (i.length + 1) cap ∧ base ≤ g ∧ g < w.heap.size ∧ w.cell? ⟨g, i.length * 2, none⟩ = some (.int .i32 a) ∧ w.cell? ⟨g, i.length * 2 + 1, none⟩ = some (.int .i32 b) ∧ w.frozen? ⟨g, i.length * 2 + 1, none⟩ = false ∧
      ∀ c, OwnP (w.setCell ⟨g, i.length * 2 + 1, none⟩ (.int .i32 c)) base e v (i ++ [(a, c)]) := by
  have hl : (i ++ [(a, b)]).length = i.length + 1 := by simp
  have hx : (i ++ [(a, b)])[i.length]? = some (a, b) := by simp
  obtain ⟨p1, p2⟩ := pcells_at _ _ _ hx
  have h0 := h
  unfold OwnP at h0
  rcases h0.2 with ⟨_, h1⟩ | ⟨g, cap, cur, rfl, hg, hgg, hc, _⟩
  · omega
  · refine ⟨g, cap, by rw [hl], hg, (Array.getElem?_eq_some_iff.1 hgg).1, (h0.cellAt _ (by omega)).trans p1, (h0.cellAt _ (by omega)).trans p2, h0.frozenAt _, fun c => ?_⟩
    have hst := (h0.stored (i.length * 2 + 1) (.int .i32 c)).1
    rw [pcells_set] at hst
    unfold OwnP
    rw [show (i ++ [(a, c)]).length = (i ++ [(a, b)]).length by simp]
    exact hst
theorem sorted_may {l l' : List Cl.Rg} (h : Sorted (Cl.mays l) l') : Bd l' := fun k r hr => ((Cl.mays_mem l r).1 (h.1.mem_iff.1 (List.mem_of_getElem? hr))).2
theorem sorted_of {l l' : List Cl.Rg} (h : Sorted (Cl.mays l) l') : Cl.mg l' = Cl.of l :=
  Cl.mg_of (fun r hr => ((Cl.mays_mem l r).1 (h.1.mem_iff.1 hr)).2) h.2 (fun r => h.1.mem_iff.trans (Cl.mays_mem l r))
theorem mg_bd {l : List Cl.Rg} (h : Bd l) (hs : l.Pairwise (fun r s => r.1 ≤ s.1)) (k : Nat) : Cl.NF (Cl.mg (l.take k)) :=
  (Cl.mg_aux (l.take k) [] Cl.nf_nil (fun r hr => by
    obtain ⟨j, hj, rfl⟩ := List.getElem_of_mem (List.mem_of_mem_take hr)
    exact h j _ (List.getElem?_eq_getElem hj)) (hs.sublist (List.take_sublist ..)) (fun t ht => by cases ht)).1
/- the box of a round's own range -/
structure Box (wr wa : World) (a b : Int) : Prop where
  two : Two wa wr.heap.size (.int .i32 a) (.int .i32 b)
  bel : Below wr.heap.size wr wa
  lt : wr.heap.size < wa.heap.size
theorem box_new (wr : World) (a b : Int) (t : TypeId) : Box wr (wr.alloc (.cells #[.int .i32 a, .int .i32 b] t)) a b := ⟨Two.new wr _ _ t, Below.alloc (Below.refl _ _) (Nat.le_refl _) _, by simp⟩
theorem Box.drewN {wr wa : World} {a b : Int} (h : Box wr wa a b) (n : Nat) : Box wr (wa.drewN n) a b := ⟨h.two.drewN n, bdrewN h.bel, h.lt⟩
set_option maxRecDepth 20000 in
set_option maxHeartbeats 4000000 in
theorem of_any (p : Option Addr) (cap : Nat) (l : List Cl.Rg) (w : World) (hp : RowP w p l) (hl : l.length ≤ 1000000) :
    Calls Tryd.prog 12 #[.slice p l.length cap] w (Mk 48 (Cl.of l) w) := by
  go_enter Tryd.func12, Tryd.ntmps12
  go_wp2_with fail
  refine (rising_any p cap l _ hp hl).mono ?_
  rintro e w1 ⟨q, c, l', rfl, hle, hc, hq, hso, hw1⟩
  have HB := Lib.hid (sorted_may hso)
  have HE := Lib.hid (sorted_of hso)
  have HS := Lib.hid hso.2
  have HQ := Lib.hid hq
  clear hso hq hp
  go_wp2_with fail
  go_loopw [2, 9, 5] (fun v i _ wr => ∃ k : Nat, i = .int .i64 (k : Int) ∧ k ≤ l'.length ∧ OwnP wr w1.heap.size 48 v (Cl.mg (l'.take k)) ∧ Below w1.heap.size w1 wr) (fun _ i _ _ => l'.length - (intOf i).toNat)
  case atStart => exact ⟨0, rfl, Nat.zero_le _, OwnP.nil _ _ _, Below.refl _ _⟩
  case round =>
    obtain ⟨k, rfl, hk, hown, br⟩ := hrel
    by_cases hlt : k < l'.length
    · obtain ⟨g, off, a, b, rfl, hg, hab, c1, c2⟩ := (HQ.out.below br).get hlt
      have hkl : (k : Int) < (l'.length : Int) := by omega
      have hm := HB.out k _ hab
      have hst := Lib.hid (Cl.mg_take l' k _ hab)
      have hlen := Cl.mg_len (l'.take k)
      rw [take_len hk] at hlen
      have hnf := mg_bd HB.out HS.out k
      generalize Cl.mg (l'.take k) = acc at *
      unfold Cl.may at hm
      simp only at hm
      have bsz := br.size
      clear hab
      rcases List.eq_nil_or_concat acc with rfl | ⟨i, ⟨ta, tb⟩, hacc⟩
      · obtain ⟨q', c', rfl, _, _, _⟩ := row_q hown
        have HO := Lib.hid hown
        clear hown
        have hst' := Lib.hid (hst.out.trans (Cl.step_nil _))
        clear hst
        have hneg : IntKind.i64.wrap (((([] : List Cl.Rg).length : Nat) : Int) - 1) = -1 := by decide
        simp only [List.length_nil] at *
        go_wp2_with fail
        have hbx := box_new wr a b 48
        have HO1 := Lib.hid (HO.out.alloc (.cells #[.int .i32 a, .int .i32 b] 48))
        generalize wr.alloc (.cells #[.int .i32 a, .int .i32 b] 48) = wa at hbx HO1 ⊢
        have b1 := br.trans (hbx.bel.mono bsz)
        obtain ⟨t0, t1, _, ts⟩ := hbx.two
        clear hbx HO c1 c2
        go_quiet (fail)
        have HO2 := Lib.hid (HO1.out.drewN nq)
        have b2 := bdrewN (n := nq) b1
        have t0 : (wa.drewN nq).cell? ⟨wr.heap.size, 0, none⟩ = some (.int .i32 a) := t0
        have t1 : (wa.drewN nq).cell? ⟨wr.heap.size, 1, none⟩ = some (.int .i32 b) := t1
        clear HO1 b1
        generalize wa.drewN nq = wq at HO2 b2 t0 t1 ⊢
        go_wp2_with (at_builtin; refine append_pair rfl _ _ 29 rfl w1.heap.size 48 Tryd.underlying29 Tryd.infoP _ _ [] _ _ rfl (by exact HO2.out) rfl ?d1 ?d2 ?_)
        case d1 => simp
        case d2 => exact b2.size
        · intro v' w' hown' hg'
          have b3 := below_own b2 HO2.out (Nat.le_refl _) b2.size hg'
          have HO3 := Lib.hid (show OwnP w' w1.heap.size 48 v' [(a, b)] by simpa using hown')
          clear hown' hg' HO2 b2 t0 t1
          go_wp2_with fail
          go_roundw
          case rel => exact ⟨k + 1, by go_num, by omega, by rw [hst'.out]; exact HO3.out, b3⟩
          case measure => simp [intOf]; omega
      · rw [List.concat_eq_append] at hacc
        subst hacc
        have hta := hnf.2 (ta, tb) (by simp)
        unfold Cl.may at hta
        simp only at hta
        have hwb : IntKind.i32.wrap (tb + 1) = tb + 1 := IntWalk.i32_in _ ⟨by omega, by omega⟩
        have hil : i.length + 1 ≤ l'.length := by simp at hlen; omega
        obtain ⟨g2, c2', rfl, hg2, _, _⟩ := own_last hown
        have HO := Lib.hid hown
        clear hown hlen
        have hi1 : IntKind.i64.wrap (((i.length + 1 : Nat) : Int) - 1) = (i.length : Int) := (IntWalk.i64_in _ ⟨by omega, by omega⟩).trans (by omega)
        have hi2 : IntKind.i64.wrap ((i.length : Int) + 1 - 1) = (i.length : Int) := (IntWalk.i64_in _ ⟨by omega, by omega⟩).trans (by omega)
        have hi3 : IntKind.i64.wrap (i.length : Int) = (i.length : Int) := IntWalk.i64_in _ ⟨by omega, by omega⟩
        have hi4 : (0 : Int) ≤ (i.length : Int) := by omega
        have hi5 : (i.length : Int) < ((i.length + 1 : Nat) : Int) := by omega
        have hi6 : (i.length : Int) < (i.length : Int) + 1 := by omega
        have hbx := box_new wr a b 48
        have HO1 := Lib.hid (HO.out.alloc (.cells #[.int .i32 a, .int .i32 b] 48))
        by_cases hto : a ≤ tb + 1
        · have hst' := Lib.hid (hst.out.trans (Cl.step_join _ _ _ hto))
          have hto' : decide (a ≤ tb + 1) = true := decide_eq_true hto
          clear hst
          go_wp2_with fail
          generalize wr.alloc (.cells #[.int .i32 a, .int .i32 b] 48) = wa at hbx HO1 ⊢
          have b1 := br.trans (hbx.bel.mono bsz)
          obtain ⟨t0, t1, _, ts⟩ := hbx.two
          obtain ⟨g3, c3, hv3, _, hg3, s0, s1, s2, hset⟩ := own_last HO1.out
          simp only [Value.slice.injEq, Option.some.injEq, Addr.mk.injEq, and_true, true_and] at hv3
          obtain ⟨rfl, rfl⟩ := hv3
          have HSET := Lib.hid hset
          clear hbx HO c1 c2 hset
          go_quiet (fail)
          go_wp2_with fail
          have t0 : (wa.drewN nq).cell? ⟨wr.heap.size, 0, none⟩ = some (.int .i32 a) := t0
          have t1 : (wa.drewN nq).cell? ⟨wr.heap.size, 1, none⟩ = some (.int .i32 b) := t1
          have s0 : (wa.drewN nq).cell? ⟨g2, i.length * 2, none⟩ = some (.int .i32 ta) := s0
          have s1 : (wa.drewN nq).cell? ⟨g2, i.length * 2 + 1, none⟩ = some (.int .i32 tb) := s1
          have s2 : (wa.drewN nq).frozen? ⟨g2, i.length * 2 + 1, none⟩ = false := s2
          have b2 := bdrewN (n := nq) b1
          have SET2 : Hid (∀ c, OwnP ((wa.drewN nq).setCell ⟨g2, i.length * 2 + 1, none⟩ (.int .i32 c)) w1.heap.size 48 (.slice (some ⟨g2, 0, none⟩) (i.length + 1) c2') (i ++ [(ta, c)])) := Lib.hid (fun c => (own_last (HO1.out.drewN nq)).elim fun g4 h4 => by
            obtain ⟨c4, hv4, _, _, _, _, _, h5⟩ := h4
            simp only [Value.slice.injEq, Option.some.injEq, Addr.mk.injEq, and_true, true_and] at hv4
            obtain ⟨rfl, rfl⟩ := hv4
            exact h5 c)
          clear HSET HO1 b1
          generalize wa.drewN nq = wq at *
          go_still_tail 10, (by kernel_rfl)
          change wpList _ _ _ _ _ wq.drew
          have t0 : wq.drew.cell? ⟨wr.heap.size, 0, none⟩ = some (.int .i32 a) := t0
          have t1 : wq.drew.cell? ⟨wr.heap.size, 1, none⟩ = some (.int .i32 b) := t1
          have s1 : wq.drew.cell? ⟨g2, i.length * 2 + 1, none⟩ = some (.int .i32 tb) := s1
          have s2 : wq.drew.frozen? ⟨g2, i.length * 2 + 1, none⟩ = false := s2
          have b3 := b2.drew
          have SET3 : Hid (∀ c, OwnP (wq.drew.setCell ⟨g2, i.length * 2 + 1, none⟩ (.int .i32 c)) w1.heap.size 48 (.slice (some ⟨g2, 0, none⟩) (i.length + 1) c2') (i ++ [(ta, c)])) := Lib.hid (fun c => (SET2.out c))
          clear SET2 b2
          generalize wq.drew = wd at *
          go_wp2_with fail
          have HO4 := Lib.hid (SET3.out (max tb b))
          have b4 := b3.setCell (p := ⟨g2, i.length * 2 + 1, none⟩) hg2 (.int .i32 (max tb b))
          clear t0 t1 s0 s1 s2 SET3
          generalize wd.setCell ⟨g2, i.length * 2 + 1, none⟩ (.int .i32 (max tb b)) = we at *
          go_roundw
          case rel => exact ⟨k + 1, by go_num, by omega, by rw [hst'.out]; exact HO4.out, b4⟩
          case measure => simp [intOf]; omega
        · have hst' := Lib.hid (hst.out.trans (Cl.step_more _ _ _ hto))
          have hto' : decide (a ≤ tb + 1) = false := decide_eq_false hto
          clear hst
          go_wp2_with fail
          generalize wr.alloc (.cells #[.int .i32 a, .int .i32 b] 48) = wa at hbx HO1 ⊢
          have b1 := br.trans (hbx.bel.mono bsz)
          obtain ⟨t0, t1, _, ts⟩ := hbx.two
          obtain ⟨g3, c3, hv3, _, hg3, s0, s1, s2, hset⟩ := own_last HO1.out
          simp only [Value.slice.injEq, Option.some.injEq, Addr.mk.injEq, and_true, true_and] at hv3
          obtain ⟨rfl, rfl⟩ := hv3
          clear hbx HO c1 c2 hset
          go_quiet (fail)
          have HO2 := Lib.hid (HO1.out.drewN nq)
          have b2 := bdrewN (n := nq) b1
          have t0 : (wa.drewN nq).cell? ⟨wr.heap.size, 0, none⟩ = some (.int .i32 a) := t0
          have t1 : (wa.drewN nq).cell? ⟨wr.heap.size, 1, none⟩ = some (.int .i32 b) := t1
          clear HO1 b1 s0 s1 s2
          generalize wa.drewN nq = wq at HO2 b2 t0 t1 ⊢
          go_wp2_with (at_builtin; refine append_pair rfl _ _ 29 rfl w1.heap.size 48 Tryd.underlying29 Tryd.infoP _ _ (i ++ [(ta, tb)]) _ _ rfl (by exact HO2.out) rfl ?d3 ?d4 ?_)
          case d3 => simp; omega
          case d4 => exact b2.size
          · intro v' w' hown' hg'
            have b3 := below_own b2 HO2.out (Nat.le_refl _) b2.size hg'
            have HO3 := Lib.hid (show OwnP w' w1.heap.size 48 v' (i ++ [(ta, tb)] ++ [(a, b)]) by first | exact hown' | simpa using hown')
            clear hown' hg' HO2 b2 t0 t1
            go_wp2_with fail
            go_roundw
            case rel => exact ⟨k + 1, by go_num, by omega, by rw [hst'.out]; exact HO3.out, b3⟩
            case measure => simp [intOf]; omega
    · obtain rfl : k = l'.length := by omega
      have HO1 := Lib.hid (show OwnP wr w1.heap.size 48 u2 (Cl.of l) by rw [List.take_length, HE.out] at hown; exact hown)
      clear hown
      go_wp2_with fail
      go_ret
      exact ⟨u2, rfl, HO1.out.mono hw1.size, hw1.trans (br.mono hw1.size)⟩
end Go.Proofs.YtpnakbhbaghhgaaDoor
