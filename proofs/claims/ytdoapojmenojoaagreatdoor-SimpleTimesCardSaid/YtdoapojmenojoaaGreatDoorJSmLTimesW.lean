import Derived.Test.YtdoapojmenojoaaGreatDoorJSmLTimesF
set_option linter.unusedSimpArgs false
set_option linter.unusedVariables false
/- SimpleTimes: the walk. -/
set_option linter.unusedVariables false
namespace Go.Proofs.YtdoapojmenojoaaGreatDoor
open Go.RowKit
open Sx (Nd)

/- a variable whose most is going to be set -/
structure EndK (bX : Nat) (u : Value) (n : Nd) (w : World) : Prop where
  ex : ∃ vk : World, vk.heap.size = bX ∧ NodeV vk u n ∧ Below vk.heap.size vk w
  cs : ∃ c : Array Value, w.heap[bX]? = some (.cells c 29 (0, 0))
theorem EndK.below {bX : Nat} {u : Value} {n : Nd} {w w' : World} (h : EndK bX u n w) (hb : Below w.heap.size w w') : EndK bX u n w' := by
  obtain ⟨vk, hs, hn, hw⟩ := h.ex
  obtain ⟨c, hc⟩ := h.cs
  exact ⟨⟨vk, hs, hn, bvia hw hb⟩, c, (hb.block _ (Array.getElem?_eq_some_iff.1 hc).1).trans hc⟩
theorem nbx_set {w : World} {bX c0 : Nat} {m M : Int} {z : Bool} {n n' : Nd} (h : NBx w bX 8 none 0 0 m M z 0 (some ⟨c0, 0, none⟩) 1 1 n) (hk : EndK bX (nv 8 none 0 0 m (-1) z 0 (some ⟨c0, 0, none⟩) 1 1) n' w) : NBx (w.setCell ⟨bX, 3, none⟩ (.int .i64 (-1))) bX 8 none 0 0 m (-1) z 0 (some ⟨c0, 0, none⟩) 1 1 n' := by
  obtain ⟨a0, a1, a2, a3, a4, a5, a6⟩ := h.cells
  obtain ⟨vk, hs, hn, hw⟩ := hk.ex
  have ho : ∀ i, i ≠ 3 → (w.setCell ⟨bX, 3, none⟩ (.int .i64 (-1))).cell? ⟨bX, i, none⟩ = w.cell? ⟨bX, i, none⟩ := fun i hi => World.cell?_setCell_other _ _ _ _ (by simp <;> omega)
  refine ⟨⟨(ho 0 (by decide)).trans a0, (ho 1 (by decide)).trans a1, (ho 2 (by decide)).trans a2, World.cell?_setCell_same _ _ _ a3, (ho 4 (by decide)).trans a4, (ho 5 (by decide)).trans a5, (ho 6 (by decide)).trans a6⟩, hn.below (Below.setCell hw (by simp; omega) _), by have := h.lt; simpa [World.setCell] using this⟩
theorem EndK.free {bX : Nat} {u : Value} {n : Nd} {w : World} (h : EndK bX u n w) (o : Nat) : w.frozen? ⟨bX, o, none⟩ = false := by
  obtain ⟨c, hc⟩ := h.cs
  exact Lib.frozen_of_heap hc o
set_option maxRecDepth 20000 in
set_option maxHeartbeats 4000000 in
theorem times_walk_false (e2 : Bool) (a0 a1 : Int) (w : World) (hT : Errs w.heap.size w) (h00 : 0 ≤ a0) (h01 : a0 ≤ 255) (h10 : 0 ≤ a1) (h11 : a1 ≤ 255) : Calls Tryz.prog 8 #[.int .u8 a0, .int .u8 a1, .bool e2, .bool false] w fun e w' => e = .returned (.bool true) ∧ Below w.heap.size w w' := by
  obtain ⟨m, hm0⟩ : ∃ m : Nat, a0 % 21 = (m : Int) := ⟨(a0 % 21).toNat, by omega⟩
  have hm20 : m ≤ 20 := by omega
  have hpos : (21 : Int) - (m : Int) ≠ 0 := by omega
  obtain ⟨d, hd0⟩ : ∃ d : Nat, a1 % (21 - (m : Int)) = (d : Int) := ⟨(a1 % (21 - (m : Int))).toNat, by have := Int.emod_nonneg a1 hpos; omega⟩
  have hd20 : m + d ≤ 20 := by have := Int.emod_lt_of_pos a1 (show (0 : Int) < 21 - (m : Int) by omega); omega
  have HL0 := Lib.hid (show Lw w.heap.size w w from ⟨hT, Nat.le_refl _, Below.refl _ _⟩)
  clear hT
  go_enter Tryz.func8, Tryz.ntmps8
  go_wp2_with fail
  refine (sexamples_any _ HL0.out).mono ?_
  rintro e w1 ⟨rfl, hb1⟩
  have HLa := Lib.hid (HL0.out.on hb1)
  clear HL0 hb1
  have HL0 := HLa
  clear HLa
  go_wp2_with fail
  clear hm0 hd0 hpos h00 h01 h10 h11
  refine (pk_any _ one_text HL0.out (by decide)).mono ?_
  rintro e w1 ⟨kN, kaN, kiN, kjN, mnN, mxN, lzN, gN, kbN, ksN, ktN, rfl, hn, hb1⟩
  have HL1 := Lib.hid (HL0.out.on hb1)
  clear hb1
  go_upto_region 10 with fail
  have HN := Lib.hid (NBx.new hn)
  have hbv := below_new w1 (nc kN kaN kiN kjN mnN mxN lzN gN kbN ksN ktN)
  have HL2 := Lib.hid (HL1.out.on hbv)
  clear HL1
  clear hn hbv
  generalize w1.alloc (nc kN kaN kiN kjN mnN mxN lzN gN kbN ksN ktN) = v1 at *
  generalize w1.heap.size = bN at *
  obtain ⟨cN0, cN1, cN2, cN3, cN4, cN5, cN6⟩ := HN.out.cells
  have qN : ¬ bN = v1.heap.size := Nat.ne_of_lt HN.out.lt
  have rN := HN.out.lt
  go_upto_region 11 with fail
  clear cN0 cN1 cN2 cN3 cN4 cN5 cN6
  clear qN rN
  have hk := NBx.new HN.out.nd
  have hx := rep_node hk (a := (m : Int)) (b := ((m : Int) + (d : Int))) false ⟨by omega, by omega⟩ ⟨by omega, by omega⟩
  have hxe := rep_node hk (a := (m : Int)) (b := -1) false ⟨by omega, by omega⟩ ⟨by omega, by omega⟩
  have hbv := bvia (below_new v1 (nc kN kaN kiN kjN mnN mxN lzN gN kbN ksN ktN)) (below_new (v1.alloc (nc kN kaN kiN kjN mnN mxN lzN gN kbN ksN ktN)) (nc 8 none 0 0 (m : Int) ((m : Int) + (d : Int)) false 0 (some ⟨v1.heap.size, 0, none⟩) 1 1))
  have hxx := NBx.new hx
  have hee : EndK (v1.alloc (nc kN kaN kiN kjN mnN mxN lzN gN kbN ksN ktN)).heap.size (nv 8 none 0 0 (m : Int) (-1) false 0 (some ⟨v1.heap.size, 0, none⟩) 1 1) _ ((v1.alloc (nc kN kaN kiN kjN mnN mxN lzN gN kbN ksN ktN)).alloc (nc 8 none 0 0 (m : Int) ((m : Int) + (d : Int)) false 0 (some ⟨v1.heap.size, 0, none⟩) 1 1)) := ⟨⟨_, rfl, hxe, below_new _ _⟩, _, new_block _ _⟩
  have he : (v1.alloc (nc kN kaN kiN kjN mnN mxN lzN gN kbN ksN ktN)).heap.size = v1.heap.size + 1 := by simp
  rw [he] at hxx hee
  have hbX : w.heap.size ≤ v1.heap.size + 1 := by have := HL2.out.bel.size; omega
  have HL3 := Lib.hid (HL2.out.on hbv)
  clear HL2
  replace HN := Lib.hid (HN.out.below hbv)
  have HX := Lib.hid hxx
  have HE := Lib.hid hee
  clear hbv hxx hx hxe hk he hee HN
  generalize (v1.alloc (nc kN kaN kiN kjN mnN mxN lzN gN kbN ksN ktN)).alloc (nc 8 none 0 0 (m : Int) ((m : Int) + (d : Int)) false 0 (some ⟨v1.heap.size, 0, none⟩) 1 1) = vX at *
  generalize v1.heap.size + 1 = bX at *
  generalize v1.heap.size = cX0 at *
  have HNE := Lib.hid (show Sx.rep1 (m : Int) ((m : Int) + (d : Int)) false 97 = Sx.rep1 ((m : Nat) : Int) ((m + d : Nat) : Int) false 97 by congr 1)
  go_upto_block 0 with fail
  go_cut [17] from 49 to 55 (fun s wx => ∃ t, s = .string t ∧ TxtIs (List.replicate m (97 : Int)) m t ∧ wx = vX)
  case first =>
    go_wp2_with fail
    go_loopw [17, 18] (fun s i wr => ∃ (j : Nat) (t : ByteArray), j ≤ m ∧ i = .int .i64 (j : Int) ∧ s = .string t ∧ Hid (TxtIs (List.replicate j (97 : Int)) j t) ∧ wr = vX) (fun _ i _ => m - (intOf i).toNat)
    case atStart => exact ⟨0, _, by omega, rfl, rfl, Lib.hid TxtIs.nil, rfl⟩
    case round =>
      obtain ⟨j, t, hj, rfl, rfl, HP, rfl⟩ := hrel
      have ht := HP.out.2
      by_cases hlt : j < m
      · have hlt' : (j : Int) < (m : Int) := by omega
        go_wp2_with fail
        go_roundw
        case rel => exact ⟨j + 1, _, by omega, by go_num, rfl, Lib.hid (HP.out.app (q := ⟨#[97]⟩) (us := [97]) (c := 1) (by decide +kernel) (by decide) (rep_next j)), (by trivial)⟩
        case measure => simp [intOf]; omega
      · have hlt' : ¬ ((j : Int) < (m : Int)) := by omega
        have hjc := Lib.hid (show j = m by omega)
        go_wp2_with fail
        go_meet
        case rel => exact ⟨t, rfl, by rw [← hjc.out]; exact HP.out, (by trivial)⟩
  case rest =>
    obtain ⟨t, rfl, ht0, rfl⟩ := hcut
    have HT0 := Lib.hid ht0
    have htz := ht0.2
    clear ht0
    go_upto_block 2 with fail
    go_cut [19] from 57 to 70 (fun s wx => ∃ q, s = .string q ∧ TxtIs (Sx.optT false d) (8 * d) q ∧ wx = wc)
    case first =>
      go_wp2_with fail
      go_loopw [19, 20] (fun s i wr => ∃ (j : Nat) (q : ByteArray), j ≤ d ∧ i = .int .i64 ((m : Int) + (j : Int)) ∧ s = .string q ∧ Hid (TxtIs (Sx.optT false j) (8 * j) q) ∧ wr = wc) (fun _ i _ => m + d - (intOf i).toNat)
      case atStart => exact ⟨0, _, by omega, by simp, rfl, Lib.hid (by rw [Sx.optT]; exact TxtIs.nil), rfl⟩
      case round =>
        obtain ⟨j, q, hj, rfl, rfl, HP, rfl⟩ := hrel
        have hq := HP.out.2
        by_cases hlt : j < d
        · have hlt' : (m : Int) + (j : Int) < (m : Int) + (d : Int) := by omega
          by_cases hj0 : j = 0
          · subst hj0
            have hqe : q = ⟨#[]⟩ := txt_nil HP.out
            subst hqe
            go_wp2_with fail
            go_roundw
            case rel => exact ⟨1, _, by omega, by go_num, rfl, Lib.hid (TxtIs.le (b := 3) ⟨by decide +kernel, by decide⟩ (by omega)), (by trivial)⟩
            case measure => simp [intOf]; omega
          · have hne : q.toList.isEmpty = false := txt_more HP.out hj0
            go_wp2_with fail
            go_roundw
            case rel => exact ⟨j + 1, _, by omega, by go_num, rfl, Lib.hid (opt_more HP.out hj0 tail_no), (by trivial)⟩
            case measure => simp [intOf]; omega
        · have hlt' : ¬ ((m : Int) + (j : Int) < (m : Int) + (d : Int)) := by omega
          have hjc := Lib.hid (show j = d by omega)
          go_wp2_with fail
          go_meet
          case rel => exact ⟨q, rfl, by rw [← hjc.out]; exact HP.out, (by trivial)⟩
    case rest =>
      obtain ⟨q, rfl, hq0, rfl⟩ := hcut
      have HQ0 := Lib.hid hq0
      have hqz := hq0.2
      clear hq0
      cases e2 with
      | false =>
        have hof : OfIs (.mk 8 [] (m : Int) ((m : Int) + (d : Int)) false 0 [Sx.one1 97]) (Sx.rept (m : Int) ((m : Int) + (d : Int)) false (Sx.one1 97)) 0 := by
          have := times_of (m := m) (n := m + d) false (by omega) hd20
          rw [Int.natCast_add] at this; exact this
        have hput : bs (Sx.put (Sx.rept (m : Int) ((m : Int) + (d : Int)) false (Sx.one1 97))) = t ++ q := by
          have := times_put (m := m) (n := m + d) false (b := m + 8 * d) (t := t ++ q) (by omega) (HT0.out.cat HQ0.out (by rw [Nat.add_sub_cancel_left]) (by omega))
          rw [Int.natCast_add] at this; exact this
        have hws : ((t ++ q).toList == (t ++ q).toList) = true := bytes_eq _
        have hsz : (t ++ q).size ≤ 700000000 := by have := (HT0.out.cat HQ0.out rfl (Nat.le_refl _)).2; omega
        have HOF := Lib.hid hof
        have HPT := Lib.hid hput
        have HRT := Lib.hid (of_right hof)
        clear hof hput
        obtain ⟨cX0, cX1, cX2, cX3, cX4, cX5, cX6⟩ := HX.out.cells
        go_wp2_with fail
        refine (po_any _ HX.out.nd HOF.out (rep1_small _ _ _)).mono ?_
        rintro e w4 ⟨kY, kaY, kiY, kjY, mnY, mxY, lzY, gY, kbY, ksY, ktY, rfl, hn, hb4⟩
        clear cX0 cX1 cX2 cX3 cX4 cX5 cX6
        have HL4 := Lib.hid (HL3.out.on hb4)
        clear HL3
        replace HX := Lib.hid (HX.out.below hb4)
        clear hb4
        go_wp2_with fail
        have HY := Lib.hid (NBx.new hn)
        have hbv := below_new w4 (nc kY kaY kiY kjY mnY mxY lzY gY kbY ksY ktY)
        have HL5 := Lib.hid (HL4.out.on hbv)
        clear HL4
        replace HX := Lib.hid (HX.out.below hbv)
        clear hn hbv
        generalize w4.alloc (nc kY kaY kiY kjY mnY mxY lzY gY kbY ksY ktY) = v4 at *
        generalize w4.heap.size = bY at *
        obtain ⟨cY0, cY1, cY2, cY3, cY4, cY5, cY6⟩ := HY.out.cells
        refine (put_at _ HY.out.nd HRT.out HPT.out hsz).mono ?_
        rintro e w6 ⟨rfl, hb6⟩
        clear cY0 cY1 cY2 cY3 cY4 cY5 cY6
        have HL6 := Lib.hid (HL5.out.on hb6)
        clear HL5
        replace HX := Lib.hid (HX.out.below hb6)
        replace HY := Lib.hid (HY.out.below hb6)
        clear hb6
        go_wp2_with fail
        go_ret
        exact ⟨rfl, HL6.out.bel⟩
      | true =>
        have hfz := HE.out.free
        obtain ⟨cX0, cX1, cX2, cX3, cX4, cX5, cX6⟩ := HX.out.cells
        go_upto_region 26 with fail
        clear cX0 cX1 cX2 cX3 cX4 cX5 cX6
        have HX2 := Lib.hid (nbx_set HX.out HE.out)
        have HL2 := Lib.hid (HL3.out.set (a := ⟨bX, 3, none⟩) hbX hbX (.int .i64 (-1)))
        clear HX HE HL3 hfz HT0 HQ0
        have HX := HX2
        clear HX2
        generalize (wc.setCell ⟨bX, 3, none⟩ (.int .i64 (-1))) = wy at *
        have hof : OfIs (.mk 8 [] (m : Int) (-1) false 0 [Sx.one1 97]) (Sx.rept (m : Int) (-1) false (Sx.one1 97)) 0 := times_more (m := m) false hm20
        have HOF := Lib.hid hof
        have HRT := Lib.hid (of_right hof)
        clear hof
        by_cases hm1 : m = 0
        · have hgt : ¬ ((m : Int) > 0) := by omega
          have hgd : decide ((0 : Int) < (m : Int)) = false := by rw [decide_eq_false_iff_not]; omega
          have HPT := Lib.hid (end_put (z := false) (star_txt hm1 tail_no))
          have hws : ((⟨#[97, 42]⟩ ++ ⟨#[]⟩ : ByteArray).toList == (⟨#[97, 42]⟩ ++ ⟨#[]⟩ : ByteArray).toList) = true := bytes_eq _
          clear hm1
          obtain ⟨cX0, cX1, cX2, cX3, cX4, cX5, cX6⟩ := HX.out.cells
          go_wp2_with fail
          refine (po_any _ HX.out.nd HOF.out (rep1_small _ _ _)).mono ?_
          rintro e w51 ⟨kY, kaY, kiY, kjY, mnY, mxY, lzY, gY, kbY, ksY, ktY, rfl, hn, hb51⟩
          clear cX0 cX1 cX2 cX3 cX4 cX5 cX6
          have HL51 := Lib.hid (HL2.out.on hb51)
          clear HL2
          replace HX := Lib.hid (HX.out.below hb51)
          clear hb51
          go_wp2_with fail
          have HY := Lib.hid (NBx.new hn)
          have hbv := below_new w51 (nc kY kaY kiY kjY mnY mxY lzY gY kbY ksY ktY)
          have HL52 := Lib.hid (HL51.out.on hbv)
          clear HL51
          replace HX := Lib.hid (HX.out.below hbv)
          clear hn hbv
          generalize w51.alloc (nc kY kaY kiY kjY mnY mxY lzY gY kbY ksY ktY) = v51 at *
          generalize w51.heap.size = bY at *
          refine (put_at _ HY.out.nd HRT.out HPT.out (by decide)).mono ?_
          rintro e w53 ⟨rfl, hb53⟩
          have HL53 := Lib.hid (HL52.out.on hb53)
          clear HL52
          replace HX := Lib.hid (HX.out.below hb53)
          replace HY := Lib.hid (HY.out.below hb53)
          clear hb53
          go_wp2_with fail
          go_ret
          exact ⟨rfl, HL53.out.bel⟩
        · have hgt : (m : Int) > 0 := by omega
          have hgd : decide ((0 : Int) < (m : Int)) = true := by rw [decide_eq_true_iff]; omega
          go_wp2_with fail
          go_loopw [17, 21] (fun s i wr => ∃ (j : Nat) (t : ByteArray), j ≤ m - 1 ∧ i = .int .i64 (1 + (j : Int)) ∧ s = .string t ∧ Hid (TxtIs (List.replicate j (97 : Int)) j t) ∧ wr = wy) (fun _ i _ => m - (intOf i).toNat)
          case atStart => exact ⟨0, _, by omega, rfl, rfl, Lib.hid TxtIs.nil, rfl⟩
          case round =>
            obtain ⟨j, t3, hj, rfl, rfl, HP, rfl⟩ := hrel
            have ht := HP.out.2
            by_cases hlt : j < m - 1
            · have hlt' : (1 : Int) + (j : Int) < (m : Int) := by omega
              go_wp2_with fail
              go_roundw
              case rel => exact ⟨j + 1, _, by omega, by go_num, rfl, Lib.hid (HP.out.app (q := ⟨#[97]⟩) (us := [97]) (c := 1) (by decide +kernel) (by decide) (rep_next j)), (by trivial)⟩
              case measure => simp [intOf]; omega
            · have hlt' : ¬ ((1 : Int) + (j : Int) < (m : Int)) := by omega
              have hjc : m - 1 = j := by omega
              have hpl := plus_txt (z := false) (m := m) (by omega) (by rw [hjc]; exact HP.out) tail_no
              have hsz := hpl.2
              have HPT := Lib.hid (end_put (z := false) hpl)
              have hws : ((t3 ++ ⟨#[97, 43]⟩ ++ ⟨#[]⟩ : ByteArray).toList == (t3 ++ ⟨#[97, 43]⟩ ++ ⟨#[]⟩ : ByteArray).toList) = true := bytes_eq _
              clear hpl hjc
              obtain ⟨cX0, cX1, cX2, cX3, cX4, cX5, cX6⟩ := HX.out.cells
              go_wp2_with fail
              refine (po_any _ HX.out.nd HOF.out (rep1_small _ _ _)).mono ?_
              rintro e w51 ⟨kY, kaY, kiY, kjY, mnY, mxY, lzY, gY, kbY, ksY, ktY, rfl, hn, hb51⟩
              clear cX0 cX1 cX2 cX3 cX4 cX5 cX6
              have HL51 := Lib.hid (HL2.out.on hb51)
              clear HL2
              replace HX := Lib.hid (HX.out.below hb51)
              clear hb51
              go_wp2_with fail
              have HY := Lib.hid (NBx.new hn)
              have hbv := below_new w51 (nc kY kaY kiY kjY mnY mxY lzY gY kbY ksY ktY)
              have HL52 := Lib.hid (HL51.out.on hbv)
              clear HL51
              replace HX := Lib.hid (HX.out.below hbv)
              clear hn hbv
              generalize w51.alloc (nc kY kaY kiY kjY mnY mxY lzY gY kbY ksY ktY) = v51 at *
              generalize w51.heap.size = bY at *
              refine (put_at _ HY.out.nd HRT.out HPT.out (by omega)).mono ?_
              rintro e w53 ⟨rfl, hb53⟩
              have HL53 := Lib.hid (HL52.out.on hb53)
              clear HL52
              replace HX := Lib.hid (HX.out.below hb53)
              replace HY := Lib.hid (HY.out.below hb53)
              clear hb53
              go_wp2_with fail
              go_ret
              exact ⟨rfl, HL53.out.bel⟩
set_option maxRecDepth 20000 in
set_option maxHeartbeats 4000000 in
theorem times_walk_true (e2 : Bool) (a0 a1 : Int) (w : World) (hT : Errs w.heap.size w) (h00 : 0 ≤ a0) (h01 : a0 ≤ 255) (h10 : 0 ≤ a1) (h11 : a1 ≤ 255) : Calls Tryz.prog 8 #[.int .u8 a0, .int .u8 a1, .bool e2, .bool true] w fun e w' => e = .returned (.bool true) ∧ Below w.heap.size w w' := by
  obtain ⟨m, hm0⟩ : ∃ m : Nat, a0 % 21 = (m : Int) := ⟨(a0 % 21).toNat, by omega⟩
  have hm20 : m ≤ 20 := by omega
  have hpos : (21 : Int) - (m : Int) ≠ 0 := by omega
  obtain ⟨d, hd0⟩ : ∃ d : Nat, a1 % (21 - (m : Int)) = (d : Int) := ⟨(a1 % (21 - (m : Int))).toNat, by have := Int.emod_nonneg a1 hpos; omega⟩
  have hd20 : m + d ≤ 20 := by have := Int.emod_lt_of_pos a1 (show (0 : Int) < 21 - (m : Int) by omega); omega
  have HL0 := Lib.hid (show Lw w.heap.size w w from ⟨hT, Nat.le_refl _, Below.refl _ _⟩)
  clear hT
  go_enter Tryz.func8, Tryz.ntmps8
  go_wp2_with fail
  refine (sexamples_any _ HL0.out).mono ?_
  rintro e w1 ⟨rfl, hb1⟩
  have HLa := Lib.hid (HL0.out.on hb1)
  clear HL0 hb1
  have HL0 := HLa
  clear HLa
  go_wp2_with fail
  clear hm0 hd0 hpos h00 h01 h10 h11
  refine (pk_any _ one_text HL0.out (by decide)).mono ?_
  rintro e w1 ⟨kN, kaN, kiN, kjN, mnN, mxN, lzN, gN, kbN, ksN, ktN, rfl, hn, hb1⟩
  have HL1 := Lib.hid (HL0.out.on hb1)
  clear hb1
  go_upto_region 10 with fail
  have HN := Lib.hid (NBx.new hn)
  have hbv := below_new w1 (nc kN kaN kiN kjN mnN mxN lzN gN kbN ksN ktN)
  have HL2 := Lib.hid (HL1.out.on hbv)
  clear HL1
  clear hn hbv
  generalize w1.alloc (nc kN kaN kiN kjN mnN mxN lzN gN kbN ksN ktN) = v1 at *
  generalize w1.heap.size = bN at *
  obtain ⟨cN0, cN1, cN2, cN3, cN4, cN5, cN6⟩ := HN.out.cells
  have qN : ¬ bN = v1.heap.size := Nat.ne_of_lt HN.out.lt
  have rN := HN.out.lt
  go_upto_region 11 with fail
  clear cN0 cN1 cN2 cN3 cN4 cN5 cN6
  clear qN rN
  have hk := NBx.new HN.out.nd
  have hx := rep_node hk (a := (m : Int)) (b := ((m : Int) + (d : Int))) true ⟨by omega, by omega⟩ ⟨by omega, by omega⟩
  have hxe := rep_node hk (a := (m : Int)) (b := -1) true ⟨by omega, by omega⟩ ⟨by omega, by omega⟩
  have hbv := bvia (below_new v1 (nc kN kaN kiN kjN mnN mxN lzN gN kbN ksN ktN)) (below_new (v1.alloc (nc kN kaN kiN kjN mnN mxN lzN gN kbN ksN ktN)) (nc 8 none 0 0 (m : Int) ((m : Int) + (d : Int)) true 0 (some ⟨v1.heap.size, 0, none⟩) 1 1))
  have hxx := NBx.new hx
  have hee : EndK (v1.alloc (nc kN kaN kiN kjN mnN mxN lzN gN kbN ksN ktN)).heap.size (nv 8 none 0 0 (m : Int) (-1) true 0 (some ⟨v1.heap.size, 0, none⟩) 1 1) _ ((v1.alloc (nc kN kaN kiN kjN mnN mxN lzN gN kbN ksN ktN)).alloc (nc 8 none 0 0 (m : Int) ((m : Int) + (d : Int)) true 0 (some ⟨v1.heap.size, 0, none⟩) 1 1)) := ⟨⟨_, rfl, hxe, below_new _ _⟩, _, new_block _ _⟩
  have he : (v1.alloc (nc kN kaN kiN kjN mnN mxN lzN gN kbN ksN ktN)).heap.size = v1.heap.size + 1 := by simp
  rw [he] at hxx hee
  have hbX : w.heap.size ≤ v1.heap.size + 1 := by have := HL2.out.bel.size; omega
  have HL3 := Lib.hid (HL2.out.on hbv)
  clear HL2
  replace HN := Lib.hid (HN.out.below hbv)
  have HX := Lib.hid hxx
  have HE := Lib.hid hee
  clear hbv hxx hx hxe hk he hee HN
  generalize (v1.alloc (nc kN kaN kiN kjN mnN mxN lzN gN kbN ksN ktN)).alloc (nc 8 none 0 0 (m : Int) ((m : Int) + (d : Int)) true 0 (some ⟨v1.heap.size, 0, none⟩) 1 1) = vX at *
  generalize v1.heap.size + 1 = bX at *
  generalize v1.heap.size = cX0 at *
  have HNE := Lib.hid (show Sx.rep1 (m : Int) ((m : Int) + (d : Int)) true 97 = Sx.rep1 ((m : Nat) : Int) ((m + d : Nat) : Int) true 97 by congr 1)
  go_upto_block 0 with fail
  go_cut [17] from 49 to 55 (fun s wx => ∃ t, s = .string t ∧ TxtIs (List.replicate m (97 : Int)) m t ∧ wx = vX)
  case first =>
    go_wp2_with fail
    go_loopw [17, 18] (fun s i wr => ∃ (j : Nat) (t : ByteArray), j ≤ m ∧ i = .int .i64 (j : Int) ∧ s = .string t ∧ Hid (TxtIs (List.replicate j (97 : Int)) j t) ∧ wr = vX) (fun _ i _ => m - (intOf i).toNat)
    case atStart => exact ⟨0, _, by omega, rfl, rfl, Lib.hid TxtIs.nil, rfl⟩
    case round =>
      obtain ⟨j, t, hj, rfl, rfl, HP, rfl⟩ := hrel
      have ht := HP.out.2
      by_cases hlt : j < m
      · have hlt' : (j : Int) < (m : Int) := by omega
        go_wp2_with fail
        go_roundw
        case rel => exact ⟨j + 1, _, by omega, by go_num, rfl, Lib.hid (HP.out.app (q := ⟨#[97]⟩) (us := [97]) (c := 1) (by decide +kernel) (by decide) (rep_next j)), (by trivial)⟩
        case measure => simp [intOf]; omega
      · have hlt' : ¬ ((j : Int) < (m : Int)) := by omega
        have hjc := Lib.hid (show j = m by omega)
        go_wp2_with fail
        go_meet
        case rel => exact ⟨t, rfl, by rw [← hjc.out]; exact HP.out, (by trivial)⟩
  case rest =>
    obtain ⟨t, rfl, ht0, rfl⟩ := hcut
    have HT0 := Lib.hid ht0
    have htz := ht0.2
    clear ht0
    go_upto_block 2 with fail
    go_cut [19] from 57 to 70 (fun s wx => ∃ q, s = .string q ∧ TxtIs (Sx.optT true d) (8 * d) q ∧ wx = wc)
    case first =>
      go_wp2_with fail
      go_loopw [19, 20] (fun s i wr => ∃ (j : Nat) (q : ByteArray), j ≤ d ∧ i = .int .i64 ((m : Int) + (j : Int)) ∧ s = .string q ∧ Hid (TxtIs (Sx.optT true j) (8 * j) q) ∧ wr = wc) (fun _ i _ => m + d - (intOf i).toNat)
      case atStart => exact ⟨0, _, by omega, by simp, rfl, Lib.hid (by rw [Sx.optT]; exact TxtIs.nil), rfl⟩
      case round =>
        obtain ⟨j, q, hj, rfl, rfl, HP, rfl⟩ := hrel
        have hq := HP.out.2
        by_cases hlt : j < d
        · have hlt' : (m : Int) + (j : Int) < (m : Int) + (d : Int) := by omega
          by_cases hj0 : j = 0
          · subst hj0
            have hqe : q = ⟨#[]⟩ := txt_nil HP.out
            subst hqe
            go_wp2_with fail
            go_roundw
            case rel => exact ⟨1, _, by omega, by go_num, rfl, Lib.hid (TxtIs.le (b := 3) ⟨by decide +kernel, by decide⟩ (by omega)), (by trivial)⟩
            case measure => simp [intOf]; omega
          · have hne : q.toList.isEmpty = false := txt_more HP.out hj0
            go_wp2_with fail
            go_roundw
            case rel => exact ⟨j + 1, _, by omega, by go_num, rfl, Lib.hid (opt_more HP.out hj0 tail_yes), (by trivial)⟩
            case measure => simp [intOf]; omega
        · have hlt' : ¬ ((m : Int) + (j : Int) < (m : Int) + (d : Int)) := by omega
          have hjc := Lib.hid (show j = d by omega)
          go_wp2_with fail
          go_meet
          case rel => exact ⟨q, rfl, by rw [← hjc.out]; exact HP.out, (by trivial)⟩
    case rest =>
      obtain ⟨q, rfl, hq0, rfl⟩ := hcut
      have HQ0 := Lib.hid hq0
      have hqz := hq0.2
      clear hq0
      cases e2 with
      | false =>
        have hof : OfIs (.mk 8 [] (m : Int) ((m : Int) + (d : Int)) true 0 [Sx.one1 97]) (Sx.rept (m : Int) ((m : Int) + (d : Int)) true (Sx.one1 97)) 0 := by
          have := times_of (m := m) (n := m + d) true (by omega) hd20
          rw [Int.natCast_add] at this; exact this
        have hput : bs (Sx.put (Sx.rept (m : Int) ((m : Int) + (d : Int)) true (Sx.one1 97))) = t ++ q := by
          have := times_put (m := m) (n := m + d) true (b := m + 8 * d) (t := t ++ q) (by omega) (HT0.out.cat HQ0.out (by rw [Nat.add_sub_cancel_left]) (by omega))
          rw [Int.natCast_add] at this; exact this
        have hws : ((t ++ q).toList == (t ++ q).toList) = true := bytes_eq _
        have hsz : (t ++ q).size ≤ 700000000 := by have := (HT0.out.cat HQ0.out rfl (Nat.le_refl _)).2; omega
        have HOF := Lib.hid hof
        have HPT := Lib.hid hput
        have HRT := Lib.hid (of_right hof)
        clear hof hput
        obtain ⟨cX0, cX1, cX2, cX3, cX4, cX5, cX6⟩ := HX.out.cells
        go_wp2_with fail
        refine (po_any _ HX.out.nd HOF.out (rep1_small _ _ _)).mono ?_
        rintro e w4 ⟨kY, kaY, kiY, kjY, mnY, mxY, lzY, gY, kbY, ksY, ktY, rfl, hn, hb4⟩
        clear cX0 cX1 cX2 cX3 cX4 cX5 cX6
        have HL4 := Lib.hid (HL3.out.on hb4)
        clear HL3
        replace HX := Lib.hid (HX.out.below hb4)
        clear hb4
        go_wp2_with fail
        have HY := Lib.hid (NBx.new hn)
        have hbv := below_new w4 (nc kY kaY kiY kjY mnY mxY lzY gY kbY ksY ktY)
        have HL5 := Lib.hid (HL4.out.on hbv)
        clear HL4
        replace HX := Lib.hid (HX.out.below hbv)
        clear hn hbv
        generalize w4.alloc (nc kY kaY kiY kjY mnY mxY lzY gY kbY ksY ktY) = v4 at *
        generalize w4.heap.size = bY at *
        obtain ⟨cY0, cY1, cY2, cY3, cY4, cY5, cY6⟩ := HY.out.cells
        refine (put_at _ HY.out.nd HRT.out HPT.out hsz).mono ?_
        rintro e w6 ⟨rfl, hb6⟩
        clear cY0 cY1 cY2 cY3 cY4 cY5 cY6
        have HL6 := Lib.hid (HL5.out.on hb6)
        clear HL5
        replace HX := Lib.hid (HX.out.below hb6)
        replace HY := Lib.hid (HY.out.below hb6)
        clear hb6
        go_wp2_with fail
        go_ret
        exact ⟨rfl, HL6.out.bel⟩
      | true =>
        have hfz := HE.out.free
        obtain ⟨cX0, cX1, cX2, cX3, cX4, cX5, cX6⟩ := HX.out.cells
        go_upto_region 26 with fail
        clear cX0 cX1 cX2 cX3 cX4 cX5 cX6
        have HX2 := Lib.hid (nbx_set HX.out HE.out)
        have HL2 := Lib.hid (HL3.out.set (a := ⟨bX, 3, none⟩) hbX hbX (.int .i64 (-1)))
        clear HX HE HL3 hfz HT0 HQ0
        have HX := HX2
        clear HX2
        generalize (wc.setCell ⟨bX, 3, none⟩ (.int .i64 (-1))) = wy at *
        have hof : OfIs (.mk 8 [] (m : Int) (-1) true 0 [Sx.one1 97]) (Sx.rept (m : Int) (-1) true (Sx.one1 97)) 0 := times_more (m := m) true hm20
        have HOF := Lib.hid hof
        have HRT := Lib.hid (of_right hof)
        clear hof
        by_cases hm1 : m = 0
        · have hgt : ¬ ((m : Int) > 0) := by omega
          have hgd : decide ((0 : Int) < (m : Int)) = false := by rw [decide_eq_false_iff_not]; omega
          have HPT := Lib.hid (end_put (z := true) (star_txt hm1 tail_yes))
          have hws : ((⟨#[97, 42]⟩ ++ ⟨#[63]⟩ : ByteArray).toList == (⟨#[97, 42]⟩ ++ ⟨#[63]⟩ : ByteArray).toList) = true := bytes_eq _
          clear hm1
          obtain ⟨cX0, cX1, cX2, cX3, cX4, cX5, cX6⟩ := HX.out.cells
          go_wp2_with fail
          refine (po_any _ HX.out.nd HOF.out (rep1_small _ _ _)).mono ?_
          rintro e w51 ⟨kY, kaY, kiY, kjY, mnY, mxY, lzY, gY, kbY, ksY, ktY, rfl, hn, hb51⟩
          clear cX0 cX1 cX2 cX3 cX4 cX5 cX6
          have HL51 := Lib.hid (HL2.out.on hb51)
          clear HL2
          replace HX := Lib.hid (HX.out.below hb51)
          clear hb51
          go_wp2_with fail
          have HY := Lib.hid (NBx.new hn)
          have hbv := below_new w51 (nc kY kaY kiY kjY mnY mxY lzY gY kbY ksY ktY)
          have HL52 := Lib.hid (HL51.out.on hbv)
          clear HL51
          replace HX := Lib.hid (HX.out.below hbv)
          clear hn hbv
          generalize w51.alloc (nc kY kaY kiY kjY mnY mxY lzY gY kbY ksY ktY) = v51 at *
          generalize w51.heap.size = bY at *
          refine (put_at _ HY.out.nd HRT.out HPT.out (by decide)).mono ?_
          rintro e w53 ⟨rfl, hb53⟩
          have HL53 := Lib.hid (HL52.out.on hb53)
          clear HL52
          replace HX := Lib.hid (HX.out.below hb53)
          replace HY := Lib.hid (HY.out.below hb53)
          clear hb53
          go_wp2_with fail
          go_ret
          exact ⟨rfl, HL53.out.bel⟩
        · have hgt : (m : Int) > 0 := by omega
          have hgd : decide ((0 : Int) < (m : Int)) = true := by rw [decide_eq_true_iff]; omega
          go_wp2_with fail
          go_loopw [17, 21] (fun s i wr => ∃ (j : Nat) (t : ByteArray), j ≤ m - 1 ∧ i = .int .i64 (1 + (j : Int)) ∧ s = .string t ∧ Hid (TxtIs (List.replicate j (97 : Int)) j t) ∧ wr = wy) (fun _ i _ => m - (intOf i).toNat)
          case atStart => exact ⟨0, _, by omega, rfl, rfl, Lib.hid TxtIs.nil, rfl⟩
          case round =>
            obtain ⟨j, t3, hj, rfl, rfl, HP, rfl⟩ := hrel
            have ht := HP.out.2
            by_cases hlt : j < m - 1
            · have hlt' : (1 : Int) + (j : Int) < (m : Int) := by omega
              go_wp2_with fail
              go_roundw
              case rel => exact ⟨j + 1, _, by omega, by go_num, rfl, Lib.hid (HP.out.app (q := ⟨#[97]⟩) (us := [97]) (c := 1) (by decide +kernel) (by decide) (rep_next j)), (by trivial)⟩
              case measure => simp [intOf]; omega
            · have hlt' : ¬ ((1 : Int) + (j : Int) < (m : Int)) := by omega
              have hjc : m - 1 = j := by omega
              have hpl := plus_txt (z := true) (m := m) (by omega) (by rw [hjc]; exact HP.out) tail_yes
              have hsz := hpl.2
              have HPT := Lib.hid (end_put (z := true) hpl)
              have hws : ((t3 ++ ⟨#[97, 43]⟩ ++ ⟨#[63]⟩ : ByteArray).toList == (t3 ++ ⟨#[97, 43]⟩ ++ ⟨#[63]⟩ : ByteArray).toList) = true := bytes_eq _
              clear hpl hjc
              obtain ⟨cX0, cX1, cX2, cX3, cX4, cX5, cX6⟩ := HX.out.cells
              go_wp2_with fail
              refine (po_any _ HX.out.nd HOF.out (rep1_small _ _ _)).mono ?_
              rintro e w51 ⟨kY, kaY, kiY, kjY, mnY, mxY, lzY, gY, kbY, ksY, ktY, rfl, hn, hb51⟩
              clear cX0 cX1 cX2 cX3 cX4 cX5 cX6
              have HL51 := Lib.hid (HL2.out.on hb51)
              clear HL2
              replace HX := Lib.hid (HX.out.below hb51)
              clear hb51
              go_wp2_with fail
              have HY := Lib.hid (NBx.new hn)
              have hbv := below_new w51 (nc kY kaY kiY kjY mnY mxY lzY gY kbY ksY ktY)
              have HL52 := Lib.hid (HL51.out.on hbv)
              clear HL51
              replace HX := Lib.hid (HX.out.below hbv)
              clear hn hbv
              generalize w51.alloc (nc kY kaY kiY kjY mnY mxY lzY gY kbY ksY ktY) = v51 at *
              generalize w51.heap.size = bY at *
              refine (put_at _ HY.out.nd HRT.out HPT.out (by omega)).mono ?_
              rintro e w53 ⟨rfl, hb53⟩
              have HL53 := Lib.hid (HL52.out.on hb53)
              clear HL52
              replace HX := Lib.hid (HX.out.below hb53)
              replace HY := Lib.hid (HY.out.below hb53)
              clear hb53
              go_wp2_with fail
              go_ret
              exact ⟨rfl, HL53.out.bel⟩
theorem law_SimpleTimes (a0 a1 : Int) (a2 a3 : Bool) (w : World) (hT : Errs w.heap.size w) (h00 : 0 ≤ a0) (h01 : a0 ≤ 255) (h10 : 0 ≤ a1) (h11 : a1 ≤ 255) : Calls Tryz.prog 8 #[.int .u8 a0, .int .u8 a1, .bool a2, .bool a3] w fun e w' => e = .returned (.bool true) ∧ Below w.heap.size w w' := by
  cases a3 with
  | false => exact times_walk_false a2 a0 a1 w hT h00 h01 h10 h11
  | true => exact times_walk_true a2 a0 a1 w hT h00 h01 h10 h11
end Go.Proofs.YtdoapojmenojoaaGreatDoor
