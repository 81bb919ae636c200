import Derived.Test.YtdoapojmenojoaaGreatDoorJPPutA
import Derived.Test.YtdoapojmenojoaaGreatDoorJSynT
import Derived.Test.YtdoapojmenojoaaGreatDoorJSynV
import Derived.Test.YtdoapojmenojoaaGreatDoorJSLay2
set_option linter.unusedSimpArgs false
set_option linter.unusedVariables false
section
/- What is put of a node, on one builder. -/
set_option linter.unusedVariables false
namespace Go.Proofs.YtdoapojmenojoaaGreatDoor
open Go.RowKit
open Sx (Nd)

theorem bs_len (l : List Int) : (Rn.cat l).length = (bs l).size := by show _ = (Rn.cat l).toArray.size; simp
def PutAt (N : Nat) : Prop := ∀ (n : Nd), nsz n ≤ N → ∀ (w0 : World) (u : Value) (l : List UInt8) (w : World), NodeV w0 u n → Sx.right n → PW w0 l w → l.length + (bs (Sx.put n)).size ≤ 700000000 →
    Calls Tryz.prog 51 #[.pointer (some ⟨w0.heap.size, 0, none⟩), u] w fun e w' => e = .returned (.tuple #[]) ∧ Wr w0 (l ++ Rn.cat (Sx.put n)) w w'
/- the kinds that want brackets -/
def Kinds (w0 : World) (k : Int) (qs : Value) (w : World) : Prop :=
  (qs = .slice none 0 0 ∧ ∀ j, Sx.wraps k j = false) ∨ ∃ (g : Nat) (xs : List Int) (cap : Nat), qs = .slice (some ⟨g, 0, none⟩) xs.length cap ∧ w.heap[g]? = some (.cells (xs.map (Value.int .i64)).toArray 3 (0, 0)) ∧ g ≠ w0.heap.size ∧ xs.length ≤ 100 ∧ ∀ j, xs.contains j = Sx.wraps k j
theorem Kinds.wr {w0 : World} {k : Int} {qs : Value} {l : List UInt8} {w w' : World} (h : Kinds w0 k qs w) (hw : Wr w0 l w w') : Kinds w0 k qs w' := by
  rcases h with h | ⟨g, xs, cap, e, hg, hn, hx⟩
  · exact .inl h
  · exact .inr ⟨g, xs, cap, e, hw.box hg (by decide) hn, hn, hx⟩
theorem Kinds.ask {w0 : World} {k : Int} {qs : Value} {w : World} (h : Kinds w0 k qs w) (j : Int) : Calls Tryz.prog 120 #[qs, .int .i64 j] w fun e w' => e = .returned (.bool (Sx.wraps k j)) ∧ w' = w := by
  rcases h with ⟨rfl, hn⟩ | ⟨g, xs, cap, rfl, hg, hn, hl, hx⟩
  · rw [hn j]
    exact Tryz.slices_Contains_int_empty none 0 j w
  · rw [← hx j]
    have := Tryz.slices_Contains_int g 0 xs.length cap xs j w (Nat.le_refl _) (by omega) (fun i hi => by
      rw [Lib.cell_of_heap hg]
      simp [hi])
    rwa [List.take_length] at this
theorem PW.lt {w0 : World} {l : List UInt8} {w : World} (h : PW w0 l w) : w0.heap.size < w.heap.size := by
  rcases h.bld with ⟨_, _, h5, _⟩ | ⟨_, _, h5, _⟩ <;> exact (Array.getElem?_eq_some_iff.1 h5).1
theorem seven_of {w : World} {b : Nat} {k mn mx g : Int} {lz : Bool} {vc vl : Value} {t : TypeId} (h : w.heap[b]? = some (.cells #[.int .i64 k, vc, .int .i64 mn, .int .i64 mx, .bool lz, .int .i64 g, vl] t (0, 0))) :
    w.cell? ⟨b, 0, none⟩ = some (.int .i64 k) ∧ w.cell? ⟨b, 1, none⟩ = some vc ∧ w.cell? ⟨b, 2, none⟩ = some (.int .i64 mn) ∧ w.cell? ⟨b, 3, none⟩ = some (.int .i64 mx) ∧ w.cell? ⟨b, 4, none⟩ = some (.bool lz) ∧ w.cell? ⟨b, 5, none⟩ = some (.int .i64 g) ∧ w.cell? ⟨b, 6, none⟩ = some vl := by
  refine ⟨?_, ?_, ?_, ?_, ?_, ?_, ?_⟩ <;> (rw [Lib.cell_of_heap h]; rfl)
theorem cat_wrap (u : List Int) : Rn.cat (Sx.wrap true u) = [40, 63, 58] ++ Rn.cat u ++ [41] := by
  show Rn.cat ([40, 63, 58] ++ u ++ [41]) = _
  rw [Rn.cat_app, Rn.cat_app, show Rn.cat [40, 63, 58] = [40, 63, 58] by decide +kernel, show Rn.cat [41] = [41] by decide +kernel]
theorem cat_bar : Rn.cat [124] = [124] := by decide +kernel
set_option maxRecDepth 20000 in
set_option maxHeartbeats 1600000 in
theorem putall_any (N : Nat) (ih : PutAt N) (k : Int) (kids : List Nd) (q : Option Addr) (cap : Nat) (mark : ByteArray) (qs : Value) (w0 w : World) (l : List UInt8) (hN : nszs kids ≤ N) (hr : Sx.rights kids) (hq : Kids w0 q kids) (hkl : kids.length ≤ 1000000) (hmk : mark.data.toList = if k = 7 then [124] else []) (hmz : mark.size ≤ 1)
    (hks : Kinds w0 k qs w) (h : PW w0 l w) (hz : l.length + (bs (Sx.putKids k true kids)).size ≤ 700000000) :
    Calls Tryz.prog 85 #[.pointer (some ⟨w0.heap.size, 0, none⟩), .slice q kids.length cap, .string mark, qs] w fun e w' => e = .returned (.tuple #[]) ∧ Wr w0 (l ++ Rn.cat (Sx.putKids k true kids)) w w' := by
  have hlt0 := h.lt
  have HQ := Lib.hid hq
  have HR := Lib.hid hr
  have IH := Lib.hid ih
  have HMK := Lib.hid hmk
  have HKS := Lib.hid hks
  have H := Lib.hid h
  clear hq hr ih hmk hks h
  go_enter Tryz.func85, Tryz.ntmps85
  go_wp2_with fail
  go_loopw [12] (fun i wr => ∃ m : Nat, i = .int .i64 (m : Int) ∧ m ≤ kids.length ∧ Wr w0 (l ++ Rn.cat (Sx.putKids k true (kids.take m))) w wr) (fun i _ => kids.length - (intOf i).toNat)
  case atStart => exact ⟨0, rfl, Nat.zero_le _, by rw [List.take_zero]; simpa [Sx.putKids, Rn.cat] using H.out.stay⟩
  case round =>
    obtain ⟨m, rfl, hm, hwr⟩ := hrel
    by_cases hlt : m < kids.length
    · obtain ⟨x, hx⟩ : ∃ x, kids[m]? = some x := ⟨_, List.getElem?_eq_getElem hlt⟩
      obtain ⟨b, o, k', vc', mn', mx', lz', g', vl', rfl, hb, f7, hx'⟩ := HQ.out.get hx
      have hxk := node_kind hx'
      obtain ⟨ka, ki, kj, kb, ks, kt, rfl, rfl⟩ := node_shape hx'
      have hst := putKids_take (k := k) hx
      rw [hxk] at hst
      have hml : (m : Int) < (kids.length : Int) := by omega
      have hle := nszs_mem hx
      have hzk := putKids_le k kids (m + 1)
      have hzz : (bs (Sx.putKids k true (kids.take (m + 1)))).size = (bs (Sx.putKids k true (kids.take m))).size + ((Rn.cat (if k = 7 ∧ 0 < m then [124] else [])).length + (Rn.cat (Sx.wrap (Sx.wraps k k') (Sx.put x))).length) := by
        rw [← bs_len, hst, Rn.cat_app, Rn.cat_app, List.length_append, List.length_append, bs_len]
      have hbx := new_block wr (.cells #[.int .i64 k', .slice ka ki kj, .int .i64 mn', .int .i64 mx', .bool lz', .int .i64 g', .slice kb ks kt] 29)
      have hne : wr.heap.size ≠ w0.heap.size := by have := hwr.size; omega
      have hw1 := hwr.call (below_new wr (.cells #[.int .i64 k', .slice ka ki kj, .int .i64 mn', .int .i64 mx', .bool lz', .int .i64 g', .slice kb ks kt] 29))
      have HK1 := Lib.hid (HKS.out.wr hw1)
      have HW := Lib.hid hw1
      have HX := Lib.hid hx'
      have HXR := Lib.hid (rights_mem hx HR.out)
      have f7' := f7.below hwr.pw.bel hb
      obtain ⟨f0, f1, f2, f3, f4, f5, f6⟩ := f7'
      have HST := Lib.hid (show Rn.cat (Sx.putKids k true (kids.take (m + 1))) = Rn.cat (Sx.putKids k true (kids.take m)) ++ (Rn.cat (if k = 7 ∧ 0 < m then [124] else []) ++ Rn.cat (Sx.wrap (Sx.wraps k k') (Sx.put x))) by rw [hst, Rn.cat_app, Rn.cat_app])
      have hacc : l.length + (Rn.cat (Sx.putKids k true (kids.take m))).length + (Rn.cat (if k = 7 ∧ 0 < m then [124] else [])).length + (Rn.cat (Sx.wrap (Sx.wraps k k') (Sx.put x))).length ≤ 700000000 := by rw [bs_len (Sx.putKids k true (kids.take m))]; omega
      have hbl := (bs_len (Sx.put x)).symm
      have hpx : (bs (Sx.put x)).size ≤ (Rn.cat (Sx.wrap (Sx.wraps k k') (Sx.put x))).length := by rw [bs_len]; exact wrap_le _ _
      generalize hA : Rn.cat (Sx.putKids k true (kids.take m)) = A at hacc HW HST
      have hb4 := hbx
      clear hx hx' hst hzk hzz hwr hbx hw1 hA f7 hxk
      have hN2 : nsz x ≤ N := by omega
      clear hle
      have hMB := Lib.hid (show mark.data.toList = (if k = 7 then [124] else []) from HMK.out)
      rcases Nat.eq_zero_or_pos m with hm0 | hm0
      · subst hm0
        simp only [Nat.zero_mul, Nat.add_zero] at f0 f1 f2 f3 f4 f5 f6
        rw [if_neg (by omega), show Rn.cat [] = [] from rfl, List.nil_append] at HST
        rw [if_neg (by omega), show Rn.cat [] = [] from rfl, List.length_nil] at hacc
        clear hMB
        cases hwp : Sx.wraps k k' with
        | false =>
          rw [hwp, show Sx.wrap false (Sx.put x) = Sx.put x from rfl] at HST hacc hpx
          have HK := Lib.hid hwp
          clear hwp
          go_wp2_with fail
          generalize wr.alloc (.cells #[.int .i64 k', .slice ka ki kj, .int .i64 mn', .int .i64 mx', .bool lz', .int .i64 g', .slice kb ks kt] 29) = wb at *
          obtain ⟨y40, y41, y42, y43, y44, y45, y46⟩ := seven_of hb4
          refine (HK1.out.ask k').mono ?_
          rintro e w' ⟨rfl, rfl⟩
          rw [HK.out]
          go_wp2_with fail
          refine (IH.out x hN2 w0 _ (l ++ A) _ HX.out HXR.out HW.out.pw (by simp only [List.length_append, List.length_cons, List.length_nil]; omega)).mono ?_
          rintro e w8 ⟨rfl, hw8⟩
          have H9 := Lib.hid (HW.out.trans hw8)
          clear hw8
          go_wp2_with fail
          go_roundw
          case rel =>
            refine ⟨0 + 1, by go_num, by omega, ?_⟩
            rw [HST.out]
            have h9 := H9.out
            simpa [List.append_assoc] using h9
          case measure => simp [intOf]; omega
        | true =>
          rw [hwp, cat_wrap] at HST hacc hpx
          simp only [List.length_append, List.length_cons, List.length_nil] at hacc hpx
          have HK := Lib.hid hwp
          clear hwp
          go_wp2_with fail
          generalize wr.alloc (.cells #[.int .i64 k', .slice ka ki kj, .int .i64 mn', .int .i64 mx', .bool lz', .int .i64 g', .slice kb ks kt] 29) = wb at *
          obtain ⟨y40, y41, y42, y43, y44, y45, y46⟩ := seven_of hb4
          refine (HK1.out.ask k').mono ?_
          rintro e w' ⟨rfl, rfl⟩
          rw [HK.out]
          go_wp2_with fail
          refine (HW.out.pw.str ⟨#[40, 63, 58]⟩ [40, 63, 58] rfl (by decide) (by simp only [List.length_append, List.length_cons, List.length_nil]; omega)).mono ?_
          rintro e w6 ⟨⟨n6, rfl⟩, hw6⟩
          have hb6 := hw6.box hb4 (by decide) hne
          obtain ⟨y60, y61, y62, y63, y64, y65, y66⟩ := seven_of hb6
          have H6 := Lib.hid (HW.out.trans hw6)
          clear hw6 y40 y41 y42 y43 y44 y45 y46
          go_wp2_with fail
          refine (IH.out x hN2 w0 _ ((l ++ A) ++ [40, 63, 58]) _ HX.out HXR.out H6.out.pw (by simp only [List.length_append, List.length_cons, List.length_nil]; omega)).mono ?_
          rintro e w7 ⟨rfl, hw7⟩
          have H7 := Lib.hid (H6.out.trans hw7)
          clear hw7
          go_wp2_with fail
          refine (H7.out.pw.byte 41 _ rfl (by simp only [List.length_append, List.length_cons, List.length_nil]; omega)).mono ?_
          rintro e w8 ⟨rfl, hw8⟩
          have H9 := Lib.hid (H7.out.trans hw8)
          clear hw8
          go_wp2_with fail
          go_roundw
          case rel =>
            refine ⟨0 + 1, by go_num, by omega, ?_⟩
            rw [HST.out]
            have h9 := H9.out
            simpa [List.append_assoc] using h9
          case measure => simp [intOf]; omega
      · have hd : decide ((m : Int) > 0) = true := by rw [decide_eq_true_iff]; omega
        have hm1 : (0 : Int) < (m : Int) := by omega
        obtain ⟨M, hM⟩ : ∃ M, M = mark.data.toList := ⟨_, rfl⟩
        have hcM : Rn.cat (if k = 7 ∧ 0 < m then [124] else []) = M := by
          rw [hM, hMB.out]
          by_cases h7 : k = 7
          · rw [if_pos ⟨h7, by omega⟩, if_pos h7, cat_bar]
          · rw [if_neg (fun e => h7 e.1), if_neg h7]; rfl
        have HMM := Lib.hid hM.symm
        have hMl : M.length ≤ 1 := by rw [hM, Array.length_toList]; exact hmz
        rw [hcM] at HST hacc
        clear hMB hM hcM
        cases hwp : Sx.wraps k k' with
        | false =>
          rw [hwp, show Sx.wrap false (Sx.put x) = Sx.put x from rfl] at HST hacc hpx
          have HK := Lib.hid hwp
          clear hwp
          go_wp2_with fail
          generalize wr.alloc (.cells #[.int .i64 k', .slice ka ki kj, .int .i64 mn', .int .i64 mx', .bool lz', .int .i64 g', .slice kb ks kt] 29) = wb at *
          obtain ⟨y40, y41, y42, y43, y44, y45, y46⟩ := seven_of hb4
          refine (HW.out.pw.str mark M HMM.out (by omega) (by simp only [List.length_append, List.length_cons, List.length_nil]; omega)).mono ?_
          rintro e w5 ⟨⟨n5, rfl⟩, hw5⟩
          have hb5 := hw5.box hb4 (by decide) hne
          have HK5 := Lib.hid (HK1.out.wr hw5)
          obtain ⟨y50, y51, y52, y53, y54, y55, y56⟩ := seven_of hb5
          have H5 := Lib.hid (HW.out.trans hw5)
          clear hw5 y40 y41 y42 y43 y44 y45 y46
          go_wp2_with fail
          refine (HK5.out.ask k').mono ?_
          rintro e w' ⟨rfl, rfl⟩
          rw [HK.out]
          go_wp2_with fail
          refine (IH.out x hN2 w0 _ (l ++ A ++ M) _ HX.out HXR.out H5.out.pw (by simp only [List.length_append, List.length_cons, List.length_nil]; omega)).mono ?_
          rintro e w8 ⟨rfl, hw8⟩
          have H9 := Lib.hid (H5.out.trans hw8)
          clear hw8
          go_wp2_with fail
          go_roundw
          case rel =>
            refine ⟨m + 1, by go_num, by omega, ?_⟩
            rw [HST.out]
            have h9 := H9.out
            simpa [List.append_assoc] using h9
          case measure => simp [intOf]; omega
        | true =>
          rw [hwp, cat_wrap] at HST hacc hpx
          simp only [List.length_append, List.length_cons, List.length_nil] at hacc hpx
          have HK := Lib.hid hwp
          clear hwp
          go_wp2_with fail
          generalize wr.alloc (.cells #[.int .i64 k', .slice ka ki kj, .int .i64 mn', .int .i64 mx', .bool lz', .int .i64 g', .slice kb ks kt] 29) = wb at *
          obtain ⟨y40, y41, y42, y43, y44, y45, y46⟩ := seven_of hb4
          refine (HW.out.pw.str mark M HMM.out (by omega) (by simp only [List.length_append, List.length_cons, List.length_nil]; omega)).mono ?_
          rintro e w5 ⟨⟨n5, rfl⟩, hw5⟩
          have hb5 := hw5.box hb4 (by decide) hne
          have HK5 := Lib.hid (HK1.out.wr hw5)
          obtain ⟨y50, y51, y52, y53, y54, y55, y56⟩ := seven_of hb5
          have H5 := Lib.hid (HW.out.trans hw5)
          clear hw5 y40 y41 y42 y43 y44 y45 y46
          go_wp2_with fail
          refine (HK5.out.ask k').mono ?_
          rintro e w' ⟨rfl, rfl⟩
          rw [HK.out]
          go_wp2_with fail
          refine (H5.out.pw.str ⟨#[40, 63, 58]⟩ [40, 63, 58] rfl (by decide) (by simp only [List.length_append, List.length_cons, List.length_nil]; omega)).mono ?_
          rintro e w6 ⟨⟨n6, rfl⟩, hw6⟩
          have hb6 := hw6.box hb5 (by decide) hne
          obtain ⟨y60, y61, y62, y63, y64, y65, y66⟩ := seven_of hb6
          have H6 := Lib.hid (H5.out.trans hw6)
          clear hw6 y50 y51 y52 y53 y54 y55 y56
          go_wp2_with fail
          refine (IH.out x hN2 w0 _ ((l ++ A ++ M) ++ [40, 63, 58]) _ HX.out HXR.out H6.out.pw (by simp only [List.length_append, List.length_cons, List.length_nil]; omega)).mono ?_
          rintro e w7 ⟨rfl, hw7⟩
          have H7 := Lib.hid (H6.out.trans hw7)
          clear hw7
          go_wp2_with fail
          refine (H7.out.pw.byte 41 _ rfl (by simp only [List.length_append, List.length_cons, List.length_nil]; omega)).mono ?_
          rintro e w8 ⟨rfl, hw8⟩
          have H9 := Lib.hid (H7.out.trans hw8)
          clear hw8
          go_wp2_with fail
          go_roundw
          case rel =>
            refine ⟨m + 1, by go_num, by omega, ?_⟩
            rw [HST.out]
            have h9 := H9.out
            simpa [List.append_assoc] using h9
          case measure => simp [intOf]; omega
    · obtain rfl : m = kids.length := by omega
      have H5 := Lib.hid hwr
      clear hwr
      go_wp2_with fail
      go_end0
      refine ⟨rfl, ?_⟩
      have := H5.out
      rwa [List.take_length] at this
end Go.Proofs.YtdoapojmenojoaaGreatDoor
end

section
/- A node is put. -/
set_option linter.unusedVariables false
namespace Go.Proofs.YtdoapojmenojoaaGreatDoor
open Go.RowKit
open Sx (Nd)

theorem put_k (k : Int) (c : List Cl.Rg) (mn mx : Int) (lz : Bool) (g : Int) (kids : List Nd) (h : k = 6 ∨ k = 7 ∨ k = 0) : Sx.put (.mk k c mn mx lz g kids) = Sx.putKids k true kids := by
  rw [Sx.put, if_neg (by omega), if_neg (by omega), if_neg (by omega), if_neg (by omega), if_neg (by omega), if_neg (by omega), if_neg (by omega)]
theorem right_open {k mn mx g : Int} {lz : Bool} {c : List Cl.Rg} {l : List Nd} (h : Sx.right (.mk k c mn mx lz g l)) : Sx.rights l ∧ 0 ≤ k ∧ k ≤ 9 ∧ RightP c ∧ (k = 8 → 0 ≤ mn ∧ mn ≤ 20 ∧ (mx = -1 ∨ mn ≤ mx ∧ mx ≤ 20)) ∧ (k = 0 → l = []) := by
  rw [Sx.right] at h
  obtain ⟨h1, h2, h3, h4, h5, h6, h7, h8⟩ := h
  refine ⟨h1, h2, h3, h5, fun e => ?_, fun e => ?_⟩
  · rw [if_pos e] at h6; exact h6
  · rw [if_neg (by omega), if_neg (by omega)] at h8; exact h8
theorem rightp_inr {c : List Cl.Rg} (h : RightP c) : InR c ∧ c.length ≤ 1000 := by
  refine ⟨fun r hr => ?_, by have := h.1; omega⟩
  obtain ⟨j, hj⟩ := List.getElem?_of_mem hr
  have hjl := (List.getElem?_eq_some_iff.1 hj).1
  have := (h.2 j hjl r hj).1
  unfold Cl.may at this
  omega
set_option maxRecDepth 20000 in
set_option maxHeartbeats 1600000 in
theorem putN_any : ∀ N : Nat, PutAt N := by
  intro N
  induction N with
  | zero => intro n hn; have := nsz_pos n; omega
  | succ N ih =>
    intro n hN w0 u l w hu hr h hz
    obtain ⟨k, c, mn, mx, lz, g, kids, p, cap, q, cap', rfl, rfl, i1, i2, i3, i4, hc, hri, hk, hp, hq⟩ := node_open hu
    obtain ⟨r0, k0, k9, r4, r5, r6⟩ := right_open hr
    obtain ⟨hin, hcl⟩ := rightp_inr r4
    have HQ := Lib.hid hq
    have HP := Lib.hid hp
    have HI := Lib.hid hin
    have HK := Lib.hid r0
    have H := Lib.hid h
    have IH := Lib.hid ih
    have hN' : nszs kids ≤ N := by rw [nsz] at hN; omega
    have hlt := h.lt
    have hne : w.heap.size ≠ w0.heap.size := by omega
    have hll : l.length ≤ 700000000 := by omega
    clear hu hp hq hr hri hin r0 r4 h ih hN i1 i2 i3 i4
    unfold ndv
    rcases (show k = 0 ∨ k = 1 ∨ k = 2 ∨ k = 3 ∨ k = 4 ∨ k = 5 ∨ k = 6 ∨ k = 7 ∨ k = 8 ∨ k = 9 by omega) with rfl | rfl | rfl | rfl | rfl | rfl | rfl | rfl | rfl | rfl
    · obtain rfl := r6 rfl
      have HE := Lib.hid (show Rn.cat (Sx.put (.mk 0 c mn mx lz g [])) = [] by rw [put_k _ _ _ _ _ _ _ (by omega), Sx.putKids]; rfl)
      go_enter Tryz.func51, Tryz.ntmps51
      have HB0 := Lib.hid (new_block w (.cells #[.int .i64 0, .slice p c.length cap, .int .i64 mn, .int .i64 mx, .bool lz, .int .i64 g, .slice q ([] : List Nd).length cap'] 29))
      have HW0 := Lib.hid (H.out.calls (below_new w (.cells #[.int .i64 0, .slice p c.length cap, .int .i64 mn, .int .i64 mx, .bool lz, .int .i64 g, .slice q ([] : List Nd).length cap'] 29)))
      go_wp2_with fail
      go_end0
      refine ⟨rfl, ?_⟩
      rw [HE.out, List.append_nil]
      exact HW0.out
    · have HE := Lib.hid (show Sx.put (.mk 1 c mn mx lz g kids) = Sx.putC c by rw [Sx.put, if_pos rfl])
      go_enter Tryz.func51, Tryz.ntmps51
      have HB0 := Lib.hid (new_block w (.cells #[.int .i64 1, .slice p c.length cap, .int .i64 mn, .int .i64 mx, .bool lz, .int .i64 g, .slice q kids.length cap'] 29))
      have HW0 := Lib.hid (H.out.calls (below_new w (.cells #[.int .i64 1, .slice p c.length cap, .int .i64 mn, .int .i64 mx, .bool lz, .int .i64 g, .slice q kids.length cap'] 29)))
      go_wp2_with fail
      generalize w.alloc (.cells #[.int .i64 1, .slice p c.length cap, .int .i64 mn, .int .i64 mx, .bool lz, .int .i64 g, .slice q kids.length cap'] 29) = wb at *
      refine (pone_any w0 c p cap l wb HP.out HI.out hcl HW0.out.pw (by omega)).mono ?_
      rintro e w1 ⟨rfl, hw1⟩
      have H1 := Lib.hid (HW0.out.trans hw1)
      clear hw1
      go_wp2_with fail
      go_end0
      refine ⟨rfl, ?_⟩
      rw [HE.out]
      exact H1.out
    · have HE := Lib.hid (show Rn.cat (Sx.put (.mk 2 c mn mx lz g kids)) = [94] by rw [Sx.put, if_neg (by decide), if_pos rfl]; decide +kernel)
      go_enter Tryz.func51, Tryz.ntmps51
      have HB0 := Lib.hid (new_block w (.cells #[.int .i64 2, .slice p c.length cap, .int .i64 mn, .int .i64 mx, .bool lz, .int .i64 g, .slice q kids.length cap'] 29))
      have HW0 := Lib.hid (H.out.calls (below_new w (.cells #[.int .i64 2, .slice p c.length cap, .int .i64 mn, .int .i64 mx, .bool lz, .int .i64 g, .slice q kids.length cap'] 29)))
      go_wp2_with fail
      generalize w.alloc (.cells #[.int .i64 2, .slice p c.length cap, .int .i64 mn, .int .i64 mx, .bool lz, .int .i64 g, .slice q kids.length cap'] 29) = wb at *
      refine (HW0.out.pw.byte 94 _ rfl (by omega)).mono ?_
      rintro e w1 ⟨rfl, hw1⟩
      have H1 := Lib.hid (HW0.out.trans hw1)
      clear hw1
      go_wp2_with fail
      go_end0
      refine ⟨rfl, ?_⟩
      rw [HE.out]
      exact H1.out
    · have HE := Lib.hid (show Rn.cat (Sx.put (.mk 3 c mn mx lz g kids)) = [36] by rw [Sx.put, if_neg (by decide), if_neg (by decide), if_pos rfl]; decide +kernel)
      go_enter Tryz.func51, Tryz.ntmps51
      have HB0 := Lib.hid (new_block w (.cells #[.int .i64 3, .slice p c.length cap, .int .i64 mn, .int .i64 mx, .bool lz, .int .i64 g, .slice q kids.length cap'] 29))
      have HW0 := Lib.hid (H.out.calls (below_new w (.cells #[.int .i64 3, .slice p c.length cap, .int .i64 mn, .int .i64 mx, .bool lz, .int .i64 g, .slice q kids.length cap'] 29)))
      go_wp2_with fail
      generalize w.alloc (.cells #[.int .i64 3, .slice p c.length cap, .int .i64 mn, .int .i64 mx, .bool lz, .int .i64 g, .slice q kids.length cap'] 29) = wb at *
      refine (HW0.out.pw.byte 36 _ rfl (by omega)).mono ?_
      rintro e w1 ⟨rfl, hw1⟩
      have H1 := Lib.hid (HW0.out.trans hw1)
      clear hw1
      go_wp2_with fail
      go_end0
      refine ⟨rfl, ?_⟩
      rw [HE.out]
      exact H1.out
    · have HE := Lib.hid (show Rn.cat (Sx.put (.mk 4 c mn mx lz g kids)) = [92, 98] by rw [Sx.put, if_neg (by decide), if_neg (by decide), if_neg (by decide), if_pos rfl]; decide +kernel)
      go_enter Tryz.func51, Tryz.ntmps51
      have HB0 := Lib.hid (new_block w (.cells #[.int .i64 4, .slice p c.length cap, .int .i64 mn, .int .i64 mx, .bool lz, .int .i64 g, .slice q kids.length cap'] 29))
      have HW0 := Lib.hid (H.out.calls (below_new w (.cells #[.int .i64 4, .slice p c.length cap, .int .i64 mn, .int .i64 mx, .bool lz, .int .i64 g, .slice q kids.length cap'] 29)))
      go_wp2_with fail
      generalize w.alloc (.cells #[.int .i64 4, .slice p c.length cap, .int .i64 mn, .int .i64 mx, .bool lz, .int .i64 g, .slice q kids.length cap'] 29) = wb at *
      refine (HW0.out.pw.str ⟨#[92, 98]⟩ [92, 98] rfl (by decide) (by omega)).mono ?_
      rintro e w1 ⟨⟨n1, rfl⟩, hw1⟩
      have H1 := Lib.hid (HW0.out.trans hw1)
      clear hw1
      go_wp2_with fail
      go_end0
      refine ⟨rfl, ?_⟩
      rw [HE.out]
      exact H1.out
    · have HE := Lib.hid (show Rn.cat (Sx.put (.mk 5 c mn mx lz g kids)) = [92, 66] by rw [Sx.put, if_neg (by decide), if_neg (by decide), if_neg (by decide), if_neg (by decide), if_pos rfl]; decide +kernel)
      go_enter Tryz.func51, Tryz.ntmps51
      have HB0 := Lib.hid (new_block w (.cells #[.int .i64 5, .slice p c.length cap, .int .i64 mn, .int .i64 mx, .bool lz, .int .i64 g, .slice q kids.length cap'] 29))
      have HW0 := Lib.hid (H.out.calls (below_new w (.cells #[.int .i64 5, .slice p c.length cap, .int .i64 mn, .int .i64 mx, .bool lz, .int .i64 g, .slice q kids.length cap'] 29)))
      go_wp2_with fail
      generalize w.alloc (.cells #[.int .i64 5, .slice p c.length cap, .int .i64 mn, .int .i64 mx, .bool lz, .int .i64 g, .slice q kids.length cap'] 29) = wb at *
      refine (HW0.out.pw.str ⟨#[92, 66]⟩ [92, 66] rfl (by decide) (by omega)).mono ?_
      rintro e w1 ⟨⟨n1, rfl⟩, hw1⟩
      have H1 := Lib.hid (HW0.out.trans hw1)
      clear hw1
      go_wp2_with fail
      go_end0
      refine ⟨rfl, ?_⟩
      rw [HE.out]
      exact H1.out
    · have HE := Lib.hid (show Sx.put (.mk 6 c mn mx lz g kids) = Sx.putKids 6 true kids from put_k _ _ _ _ _ _ _ (by omega))
      rw [put_k _ _ _ _ _ _ _ (by omega)] at hz
      go_enter Tryz.func51, Tryz.ntmps51
      have HB0 := Lib.hid (new_block w (.cells #[.int .i64 6, .slice p c.length cap, .int .i64 mn, .int .i64 mx, .bool lz, .int .i64 g, .slice q kids.length cap'] 29))
      have HW0 := Lib.hid (H.out.calls (below_new w (.cells #[.int .i64 6, .slice p c.length cap, .int .i64 mn, .int .i64 mx, .bool lz, .int .i64 g, .slice q kids.length cap'] 29)))
      go_wp2_with fail
      have HKS := Lib.hid (show Kinds w0 6 (.slice (some ⟨w.heap.size + 1, 0, none⟩) 1 1) ((w.alloc (.cells #[.int .i64 6, .slice p c.length cap, .int .i64 mn, .int .i64 mx, .bool lz, .int .i64 g, .slice q kids.length cap'] 29)).alloc (.cells #[.int .i64 7] 3)) from .inr ⟨w.heap.size + 1, [7], 1, rfl, by
        have h1 := new_block (w.alloc (.cells #[.int .i64 6, .slice p c.length cap, .int .i64 mn, .int .i64 mx, .bool lz, .int .i64 g, .slice q kids.length cap'] 29)) (.cells #[.int .i64 7] 3)
        rw [World.size_alloc] at h1
        exact h1, by omega, by decide, fun j => by rw [Bool.eq_iff_iff]; unfold Sx.wraps; simp⟩)
      have HW1 := Lib.hid (HW0.out.call (below_new (w.alloc (.cells #[.int .i64 6, .slice p c.length cap, .int .i64 mn, .int .i64 mx, .bool lz, .int .i64 g, .slice q kids.length cap'] 29)) (.cells #[.int .i64 7] 3)))
      generalize (w.alloc (.cells #[.int .i64 6, .slice p c.length cap, .int .i64 mn, .int .i64 mx, .bool lz, .int .i64 g, .slice q kids.length cap'] 29)).alloc (.cells #[.int .i64 7] 3) = wb at *
      refine (putall_any N IH.out 6 kids q cap' ⟨#[]⟩ _ w0 wb l hN' HK.out HQ.out hk rfl (by decide) HKS.out HW1.out.pw hz).mono ?_
      rintro e w1 ⟨rfl, hw1⟩
      have H1 := Lib.hid (HW1.out.trans hw1)
      clear hw1
      go_wp2_with fail
      go_end0
      refine ⟨rfl, ?_⟩
      rw [HE.out]
      exact H1.out
    · have HE := Lib.hid (show Sx.put (.mk 7 c mn mx lz g kids) = Sx.putKids 7 true kids from put_k _ _ _ _ _ _ _ (by omega))
      rw [put_k _ _ _ _ _ _ _ (by omega)] at hz
      go_enter Tryz.func51, Tryz.ntmps51
      have HB0 := Lib.hid (new_block w (.cells #[.int .i64 7, .slice p c.length cap, .int .i64 mn, .int .i64 mx, .bool lz, .int .i64 g, .slice q kids.length cap'] 29))
      have HW0 := Lib.hid (H.out.calls (below_new w (.cells #[.int .i64 7, .slice p c.length cap, .int .i64 mn, .int .i64 mx, .bool lz, .int .i64 g, .slice q kids.length cap'] 29)))
      go_wp2_with fail
      have HKS := Lib.hid (show Kinds w0 7 (.slice none 0 0) (w.alloc (.cells #[.int .i64 7, .slice p c.length cap, .int .i64 mn, .int .i64 mx, .bool lz, .int .i64 g, .slice q kids.length cap'] 29)) from .inl ⟨rfl, fun j => by unfold Sx.wraps; simp⟩)
      generalize w.alloc (.cells #[.int .i64 7, .slice p c.length cap, .int .i64 mn, .int .i64 mx, .bool lz, .int .i64 g, .slice q kids.length cap'] 29) = wb at *
      refine (putall_any N IH.out 7 kids q cap' ⟨#[124]⟩ _ w0 wb l hN' HK.out HQ.out hk rfl (by decide) HKS.out HW0.out.pw hz).mono ?_
      rintro e w1 ⟨rfl, hw1⟩
      have H1 := Lib.hid (HW0.out.trans hw1)
      clear hw1
      go_wp2_with fail
      go_end0
      refine ⟨rfl, ?_⟩
      rw [HE.out]
      exact H1.out
    · obtain ⟨m0, m20, mx0⟩ := r5 rfl
      have hpe : Sx.put (.mk 8 c mn mx lz g kids) = Sx.putKids 8 true kids ++ Sx.times mn mx lz := by rw [Sx.put, if_neg (by decide), if_neg (by decide), if_neg (by decide), if_neg (by decide), if_neg (by decide), if_pos rfl]
      have HE := Lib.hid (show Rn.cat (Sx.put (.mk 8 c mn mx lz g kids)) = Rn.cat (Sx.putKids 8 true kids) ++ (Rn.cat (Sx.times mn mx false) ++ (if lz then [63] else [])) by rw [hpe, Rn.cat_app, ← cat_times])
      rw [hpe, bs_app, ByteArray.size_append] at hz
      have hz8 : l.length + (bs (Sx.putKids 8 true kids)).size ≤ 700000000 := by omega
      have hzt := times_size mn mx false
      rw [← bs_len] at hzt hz8
      go_enter Tryz.func51, Tryz.ntmps51
      have HB0 := Lib.hid (new_block w (.cells #[.int .i64 8, .slice p c.length cap, .int .i64 mn, .int .i64 mx, .bool lz, .int .i64 g, .slice q kids.length cap'] 29))
      have HW0 := Lib.hid (H.out.calls (below_new w (.cells #[.int .i64 8, .slice p c.length cap, .int .i64 mn, .int .i64 mx, .bool lz, .int .i64 g, .slice q kids.length cap'] 29)))
      go_wp2_with fail
      have HKS := Lib.hid (show Kinds w0 8 (.slice (some ⟨w.heap.size + 1, 0, none⟩) 4 4) ((w.alloc (.cells #[.int .i64 8, .slice p c.length cap, .int .i64 mn, .int .i64 mx, .bool lz, .int .i64 g, .slice q kids.length cap'] 29)).alloc (.cells #[.int .i64 0, .int .i64 6, .int .i64 7, .int .i64 8] 3)) from .inr ⟨w.heap.size + 1, [0, 6, 7, 8], 4, rfl, by
        have h1 := new_block (w.alloc (.cells #[.int .i64 8, .slice p c.length cap, .int .i64 mn, .int .i64 mx, .bool lz, .int .i64 g, .slice q kids.length cap'] 29)) (.cells #[.int .i64 0, .int .i64 6, .int .i64 7, .int .i64 8] 3)
        rw [World.size_alloc] at h1
        exact h1, by omega, by decide, fun j => by rw [Bool.eq_iff_iff]; unfold Sx.wraps; simp; omega⟩)
      have HB1 := Lib.hid ((Below.heap_alloc (w.alloc (.cells #[.int .i64 8, .slice p c.length cap, .int .i64 mn, .int .i64 mx, .bool lz, .int .i64 g, .slice q kids.length cap'] 29)) (.cells #[.int .i64 0, .int .i64 6, .int .i64 7, .int .i64 8] 3) w.heap.size (by simp)).trans HB0.out)
      have HW1 := Lib.hid (HW0.out.call (below_new (w.alloc (.cells #[.int .i64 8, .slice p c.length cap, .int .i64 mn, .int .i64 mx, .bool lz, .int .i64 g, .slice q kids.length cap'] 29)) (.cells #[.int .i64 0, .int .i64 6, .int .i64 7, .int .i64 8] 3)))
      generalize (w.alloc (.cells #[.int .i64 8, .slice p c.length cap, .int .i64 mn, .int .i64 mx, .bool lz, .int .i64 g, .slice q kids.length cap'] 29)).alloc (.cells #[.int .i64 0, .int .i64 6, .int .i64 7, .int .i64 8] 3) = wb at *
      clear HB0 HW0
      refine (putall_any N IH.out 8 kids q cap' ⟨#[]⟩ _ w0 wb l hN' HK.out HQ.out hk rfl (by decide) HKS.out HW1.out.pw (by rw [← bs_len]; exact hz8)).mono ?_
      rintro e w2 ⟨rfl, hw2⟩
      have hb2 := hw2.box HB1.out (by decide) hne
      obtain ⟨y0, y1, y2, y3, y4, y5, y6⟩ := seven_of hb2
      have H2 := Lib.hid (HW1.out.trans hw2)
      clear hw2
      generalize Rn.cat (Sx.putKids 8 true kids) = A at *
      go_wp2_with fail
      refine (often_any mn mx w2 ⟨m0, m20⟩ mx0).mono ?_
      rintro e w3 ⟨t, rfl, ht, htz, hw3⟩
      have hb3 := (H2.out.pw.calls hw3).box hb2 (by decide) hne
      have H3 := Lib.hid (H2.out.call hw3)
      have HT := Lib.hid ht
      clear y0 y1 y2 y3 y4 y5 y6 hw3 ht
      obtain ⟨y0, y1, y2, y3, y4, y5, y6⟩ := seven_of hb3
      go_wp2_with fail
      refine (H3.out.pw.str t _ HT.out (by omega) (by simp only [List.length_append]; omega)).mono ?_
      rintro e w4 ⟨⟨n4, rfl⟩, hw4⟩
      have hb4 := hw4.box hb3 (by decide) hne
      have H4 := Lib.hid (H3.out.trans hw4)
      clear y0 y1 y2 y3 y4 y5 y6 hw4
      obtain ⟨y0, y1, y2, y3, y4, y5, y6⟩ := seven_of hb4
      cases lz with
      | true =>
        go_wp2_with fail
        refine (H4.out.pw.byte 63 _ rfl (by simp only [List.length_append]; omega)).mono ?_
        rintro e w5 ⟨rfl, hw5⟩
        have H5 := Lib.hid (H4.out.trans hw5)
        clear hw5
        go_wp2_with fail
        go_end0
        refine ⟨rfl, ?_⟩
        rw [HE.out]
        have h5 := H5.out
        simpa [List.append_assoc] using h5
      | false =>
        go_wp2_with fail
        go_end0
        refine ⟨rfl, ?_⟩
        rw [HE.out, if_neg (by simp)]
        have h5 := H4.out
        simpa [List.append_assoc] using h5
    · have hpe : Sx.put (.mk 9 c mn mx lz g kids) = [40] ++ (Sx.putKids 9 true kids ++ [41]) := by rw [Sx.put, if_neg (by decide), if_neg (by decide), if_neg (by decide), if_neg (by decide), if_neg (by decide), if_neg (by decide), if_pos rfl]; rfl
      have HE := Lib.hid (show Rn.cat (Sx.put (.mk 9 c mn mx lz g kids)) = [40] ++ (Rn.cat (Sx.putKids 9 true kids) ++ [41]) by rw [hpe, Rn.cat_app, Rn.cat_app, show Rn.cat [40] = [40] by decide +kernel, show Rn.cat [41] = [41] by decide +kernel])
      have hz9 : l.length + 1 + (Rn.cat (Sx.putKids 9 true kids)).length + 1 ≤ 700000000 := by
        rw [← bs_len, HE.out] at hz
        simp only [List.length_append, List.length_cons, List.length_nil] at hz
        omega
      go_enter Tryz.func51, Tryz.ntmps51
      have HB0 := Lib.hid (new_block w (.cells #[.int .i64 9, .slice p c.length cap, .int .i64 mn, .int .i64 mx, .bool lz, .int .i64 g, .slice q kids.length cap'] 29))
      have HW0 := Lib.hid (H.out.calls (below_new w (.cells #[.int .i64 9, .slice p c.length cap, .int .i64 mn, .int .i64 mx, .bool lz, .int .i64 g, .slice q kids.length cap'] 29)))
      go_wp2_with fail
      generalize w.alloc (.cells #[.int .i64 9, .slice p c.length cap, .int .i64 mn, .int .i64 mx, .bool lz, .int .i64 g, .slice q kids.length cap'] 29) = wb at *
      refine (HW0.out.pw.byte 40 _ rfl (by omega)).mono ?_
      rintro e w1 ⟨rfl, hw1⟩
      have hb1 := hw1.box HB0.out (by decide) hne
      obtain ⟨y0, y1, y2, y3, y4, y5, y6⟩ := seven_of hb1
      have H1 := Lib.hid (HW0.out.trans hw1)
      clear hw1
      have HKS := Lib.hid (show Kinds w0 9 (.slice none 0 0) w1 from .inl ⟨rfl, fun j => by unfold Sx.wraps; simp⟩)
      go_wp2_with fail
      refine (putall_any N IH.out 9 kids q cap' ⟨#[]⟩ _ w0 w1 (l ++ [40]) hN' HK.out HQ.out hk rfl (by decide) HKS.out H1.out.pw (by rw [← bs_len]; simp only [List.length_append, List.length_cons, List.length_nil]; omega)).mono ?_
      rintro e w2 ⟨rfl, hw2⟩
      have H2 := Lib.hid (H1.out.trans hw2)
      clear hw2
      go_wp2_with fail
      refine (H2.out.pw.byte 41 _ rfl (by simp only [List.length_append, List.length_cons, List.length_nil]; omega)).mono ?_
      rintro e w3 ⟨rfl, hw3⟩
      have H3 := Lib.hid (H2.out.trans hw3)
      clear hw3
      go_wp2_with fail
      go_end0
      refine ⟨rfl, ?_⟩
      rw [HE.out]
      have h5 := H3.out
      simpa [List.append_assoc] using h5
/- any node that is right, as a text -/
set_option maxRecDepth 20000 in
set_option maxHeartbeats 1600000 in
theorem pput_any (n : Nd) (u : Value) (w : World) (hu : NodeV w u n) (hr : Sx.right n) (hz : (bs (Sx.put n)).size ≤ 700000000) : Calls Tryz.prog 19 #[u] w fun e w' => e = .returned (.string (bs (Sx.put n))) ∧ Below w.heap.size w w' := by
  obtain ⟨k, c, mn, mx, lz, g, kids, p, cap, q, cap', rfl, rfl, i1, i2, i3, i4, hc, hri, hk, hp, hq⟩ := node_open hu
  have HU := Lib.hid (hu.below (below_new w (.cells #[.int .i64 k, .slice p c.length cap, .int .i64 mn, .int .i64 mx, .bool lz, .int .i64 g, .slice q kids.length cap'] 29)))
  have HR := Lib.hid hr
  have hb0 := below_new w (.cells #[.int .i64 k, .slice p c.length cap, .int .i64 mn, .int .i64 mx, .bool lz, .int .i64 g, .slice q kids.length cap'] 29)
  have hzw : (w.alloc (.cells #[.int .i64 k, .slice p c.length cap, .int .i64 mn, .int .i64 mx, .bool lz, .int .i64 g, .slice q kids.length cap'] 29)).heap.size = w.heap.size + 1 := World.size_alloc ..
  clear hu hr hp hq hri i1 i2 i3 i4 hc
  unfold ndv at HU ⊢
  go_enter Tryz.func19, Tryz.ntmps19
  go_wp2_with fail
  generalize w.alloc (.cells #[.int .i64 k, .slice p c.length cap, .int .i64 mn, .int .i64 mx, .bool lz, .int .i64 g, .slice q kids.length cap'] 29) = w0 at *
  have hB0 : BldF w0.heap.size w0.heap.size (Lib.byteCells []) (w0.alloc (.cells #[.pointer none, .slice none 0 0] 91)) := Lib.IsBuilderF.of (Lib.fresh_isBuilder 91 5 w0)
  have HW := Lib.hid (show PW w0 [] (w0.alloc (.cells #[.pointer none, .slice none 0 0] 91)) from ⟨hB0, below_new w0 _⟩)
  have HPUT := Lib.hid (putN_any _ _ (Nat.le_refl _) w0 _ [] _ HU.out HR.out HW.out (by simp only [List.length_nil]; omega))
  have HZ := Lib.hid hzw
  rw [hzw] at HPUT
  clear hB0 hzw
  refine HPUT.out.mono ?_
  rintro e w1 ⟨rfl, hw1⟩
  have H1 := Lib.hid hw1
  clear hw1 HPUT HW
  go_wp2_with fail
  have HS := Lib.hid (Tryz.Builder_String_any_k w0.heap.size w0.heap.size _ w1 H1.out.pw.bld H1.out.pw.bel.size)
  rw [HZ.out] at HS
  refine HS.out.mono ?_
  rintro e w2 ⟨rfl, _, hw2, _⟩
  have hf := hb0.trans ((H1.out.pw.bel.trans (hw2.mono (by rw [HZ.out]; exact Nat.le_refl _))).mono (by rw [HZ.out]; omega))
  go_wp2_with fail
  go_ret
  exact ⟨rfl, hf⟩
end Go.Proofs.YtdoapojmenojoaaGreatDoor
end
