import Derived.Test.YtfibhhegfhikmaaGreatDoorJSynV
set_option linter.unusedSimpArgs false
set_option linter.unusedVariables false
/- How many nodes, how many groups: the program's own. -/
set_option linter.unusedVariables false
namespace Go.Proofs.YtfibhhegfhikmaaGreatDoor
open Go.RowKit
open Sx (Nd)

set_option maxHeartbeats 1600000 in
theorem size_any : ∀ (N : Nat) (n : Nd), nsz n ≤ N → ∀ (v : Value) (w : World), NodeV w v n → nsz n ≤ 1099511627776 →
    Calls Tryz.prog 23 #[v] w fun e w' => e = .returned (.int .i64 (nsz n : Int)) ∧ Below w.heap.size w w' := by
  intro N
  induction N with
  | zero => intro n hn; have := nsz_pos n; omega
  | succ N ih =>
    intro n hN v w hv hB
    obtain ⟨k, c, mn, mx, lz, g, kids, p, cap, q, cap', rfl, rfl, i1, i2, i3, i4, hc, hr, hk, hp, hq⟩ := node_open hv
    have HQ := Lib.hid hq
    have hN' : nszs kids ≤ N := by rw [nsz] at hN; omega
    have hB' : nszs kids ≤ 1099511627776 := by rw [nsz] at hB; omega
    have hE := Lib.hid (show (nsz (.mk k c mn mx lz g kids) : Int) = 1 + (nszs kids : Int) by rw [nsz]; omega)
    have IH := Lib.hid ih
    clear hv hp hq hr i1 i2 i3 i4 ih hN hB
    unfold ndv
    go_enter Tryz.func23, Tryz.ntmps23
    go_wp2_with fail
    go_loopw [2, 8] (fun s i wr => ∃ m : Nat, m ≤ kids.length ∧ i = .int .i64 (m : Int) ∧ s = .int .i64 (1 + (nszs (kids.take m) : Int)) ∧ Below w.heap.size w wr) (fun s i _ => kids.length - (intOf i).toNat)
    case atStart => exact ⟨0, Nat.zero_le _, rfl, by simp [nszs], (by repeat' (first | exact Below.refl _ _ | (refine Below.drew ?_) | (refine bdrewN ?_) | (refine Below.alloc ?_ (by first | omega | (simp <;> omega)) _) | (refine Below.setCell ?_ (by first | omega | (simp <;> omega)) _) | (refine Below.trans ?_ (Below.mono (by assumption) (by first | omega | (simp <;> omega))))))⟩
    case round =>
      obtain ⟨m, hm, rfl, rfl, br⟩ := hrel
      by_cases hlt : m < kids.length
      · obtain ⟨x, hx⟩ : ∃ x, kids[m]? = some x := ⟨_, List.getElem?_eq_getElem hlt⟩
        obtain ⟨b, o, k', vc', mn', mx', lz', g', vl', rfl, hb, f7, hx'⟩ := (HQ.out.below br).get hx
        have hst := Lib.hid (nszs_take hx)
        have hle := nszs_le kids (m + 1)
        rw [hst.out] at hle
        have hpo := nsz_pos x
        have hml : (m : Int) < (kids.length : Int) := by omega
        obtain ⟨a1, i1, j1, b1, s1, t1, rfl, rfl⟩ := node_shape hx'
        have HX := Lib.hid hx'
        clear hx hx'
        obtain ⟨f0, f1, f2, f3, f4, f5, f6⟩ := f7
        go_wp2_with fail
        refine (IH.out x (by omega) _ _ (HX.out.below (below_new wr _)) (by omega)).mono ?_
        rintro e w1 ⟨rfl, hw1⟩
        have hw := (br.trans ((below_new wr _).mono br.size)).trans (hw1.mono (by simp; have := br.size; omega))
        have hsum : (1 : Int) + (nszs (kids.take (m + 1)) : Int) = 1 + (nszs (kids.take m) : Int) + (nsz x : Int) := by rw [hst.out]; omega
        go_wp2_with fail
        go_roundw
        case rel => exact ⟨m + 1, by omega, by go_num, by rw [hsum], hw⟩
        case measure => simp [intOf]; omega
      · obtain rfl : m = kids.length := by omega
        have hf : (1 : Int) + (nszs (kids.take kids.length) : Int) = (nsz (.mk k c mn mx lz g kids) : Int) := by rw [List.take_length, hE.out]
        go_wp2_with fail
        go_ret
        exact ⟨ret_int hf, br⟩
set_option maxHeartbeats 1600000 in
theorem groups_any : ∀ (N : Nat) (n : Nd), nsz n ≤ N → ∀ (v : Value) (w : World), NodeV w v n →
    Calls Tryz.prog 25 #[v] w fun e w' => e = .returned (.int .i64 (Sx.groups n)) ∧ Below w.heap.size w w' := by
  intro N
  induction N with
  | zero => intro n hn; have := nsz_pos n; omega
  | succ N ih =>
    intro n hN v w hv
    obtain ⟨k, c, mn, mx, lz, g, kids, p, cap, q, cap', rfl, rfl, i1, i2, i3, i4, hc, hr, hk, hp, hq⟩ := node_open hv
    have HQ := Lib.hid hq
    have hN' : nszs kids ≤ N := by rw [nsz] at hN; omega
    have hE := Lib.hid (show Sx.groups (.mk k c mn mx lz g kids) = Sx.groupsL (max g 0) kids by rw [Sx.groups])
    have IH := Lib.hid ih
    clear hv hp hq hr i1 i2 i3 i4 ih hN
    unfold ndv
    go_enter Tryz.func25, Tryz.ntmps25
    go_wp2_with fail
    go_loopw [2, 11] (fun s i wr => ∃ m : Nat, m ≤ kids.length ∧ i = .int .i64 (m : Int) ∧ s = .int .i64 (Sx.groupsL (max g 0) (kids.take m)) ∧ Below w.heap.size w wr) (fun s i _ => kids.length - (intOf i).toNat)
    case atStart => exact ⟨0, Nat.zero_le _, rfl, by simp [Sx.groupsL, Int.max_comm], (by repeat' (first | exact Below.refl _ _ | (refine Below.drew ?_) | (refine bdrewN ?_) | (refine Below.alloc ?_ (by first | omega | (simp <;> omega)) _) | (refine Below.setCell ?_ (by first | omega | (simp <;> omega)) _) | (refine Below.trans ?_ (Below.mono (by assumption) (by first | omega | (simp <;> omega))))))⟩
    case round =>
      obtain ⟨m, hm, rfl, rfl, br⟩ := hrel
      by_cases hlt : m < kids.length
      · obtain ⟨x, hx⟩ : ∃ x, kids[m]? = some x := ⟨_, List.getElem?_eq_getElem hlt⟩
        obtain ⟨b, o, k', vc', mn', mx', lz', g', vl', rfl, hb, f7, hx'⟩ := (HQ.out.below br).get hx
        have hst := Lib.hid (groupsL_take (max g 0) hx)
        have hle := nszs_mem hx
        have hml : (m : Int) < (kids.length : Int) := by omega
        obtain ⟨a1, i1, j1, b1, s1, t1, rfl, rfl⟩ := node_shape hx'
        have HX := Lib.hid hx'
        clear hx hx'
        obtain ⟨f0, f1, f2, f3, f4, f5, f6⟩ := f7
        generalize Sx.groupsL (max g 0) (kids.take m) = sm at hst ⊢
        go_wp2_with fail
        refine (IH.out x (by omega) _ _ (HX.out.below (below_new wr _))).mono ?_
        rintro e w1 ⟨rfl, hw1⟩
        have hw := (br.trans ((below_new wr _).mono br.size)).trans (hw1.mono (by simp; have := br.size; omega))
        go_wp2_with fail
        go_roundw
        case rel => exact ⟨m + 1, by omega, by go_num, by rw [hst.out], hw⟩
        case measure => simp [intOf]; omega
      · obtain rfl : m = kids.length := by omega
        have hf : Sx.groupsL (max g 0) (kids.take kids.length) = Sx.groups (.mk k c mn mx lz g kids) := by rw [List.take_length, hE.out]
        go_wp2_with fail
        go_ret
        exact ⟨ret_int hf, br⟩
end Go.Proofs.YtfibhhegfhikmaaGreatDoor
