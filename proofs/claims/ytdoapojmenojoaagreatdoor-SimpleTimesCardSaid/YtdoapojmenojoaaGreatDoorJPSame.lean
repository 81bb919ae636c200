import Derived.Test.YtdoapojmenojoaaGreatDoorJCSame
import Derived.Test.YtdoapojmenojoaaGreatDoorJSynV
set_option linter.unusedSimpArgs false
set_option linter.unusedVariables false
/- Which nodes are the same: the program's own. -/
set_option linter.unusedVariables false
namespace Go.Proofs.YtdoapojmenojoaaGreatDoor
open Go.RowKit
open Sx (Nd)

def SameAt (N : Nat) : Prop := ∀ (n : Nd), nsz n ≤ N → ∀ (n' : Nd) (u u' : Value) (v : Bool) (w : World), NodeV w u n → NodeV w u' n' → Sm n n' v →
    Calls Tryz.prog 21 #[u, u'] w fun e w' => e = .returned (.bool v) ∧ Below w.heap.size w w'
set_option maxRecDepth 20000 in
set_option maxHeartbeats 4000000 in
theorem eqf_any (N : Nat) (ih : SameAt N) (kids kids' : List Nd) (q q' : Option Addr) (cap cap' : Nat) (v : Bool) (w : World) (hN : nszs kids ≤ N) (hq : Kids w q kids) (hq' : Kids w q' kids') (hv : v = true ↔ kids = kids') (hl : kids.length ≤ 1000000) (hl' : kids'.length ≤ 1000000) :
    Calls Tryz.prog 56 #[.slice q kids.length cap, .slice q' kids'.length cap', .func (.func 21) #[] #[]] w fun e w' => e = .returned (.bool v) ∧ Below w.heap.size w w' := by
  have HQ := Lib.hid hq
  have HQ' := Lib.hid hq'
  have HV := Lib.hid hv
  have IH := Lib.hid ih
  clear hq hq' hv ih
  by_cases h6 : kids.length = kids'.length
  case neg =>
    have hvf : v = false := by
      cases v with
      | false => rfl
      | true => exact absurd (congrArg List.length (HV.out.1 rfl)) h6
    subst hvf
    have h6' : ((kids.length : Int) != (kids'.length : Int)) = true := by rw [bne_iff_ne]; omega
    clear h6
    go_enter Tryz.func56, Tryz.ntmps56
    go_wp2_with fail
    go_ret
    exact ⟨rfl, (by repeat' (first | exact Below.refl _ _ | (refine Below.drew ?_) | (refine bdrewN ?_) | (refine Below.alloc ?_ (by first | omega | (simp <;> omega)) _) | (refine Below.setCell ?_ (by first | omega | (simp <;> omega)) _) | (refine Below.trans ?_ (Below.mono (by assumption) (by first | omega | (simp <;> omega))))))⟩
  have HL := Lib.hid h6
  have h6' : ((kids.length : Int) != (kids'.length : Int)) = false := by rw [h6]; simp
  clear h6
  go_enter Tryz.func56, Tryz.ntmps56
  go_wp2_with fail
  go_loopw [17] (fun i wr => ∃ m : Nat, i = .int .i64 (m : Int) ∧ m ≤ kids.length ∧ Hid (kids.take m = kids'.take m) ∧ Below w.heap.size w wr) (fun i _ => kids.length - (intOf i).toNat)
  case atStart => exact ⟨0, rfl, Nat.zero_le _, Lib.hid (by rw [List.take_zero, List.take_zero]), (by repeat' (first | exact Below.refl _ _ | (refine Below.drew ?_) | (refine bdrewN ?_) | (refine Below.alloc ?_ (by first | omega | (simp <;> omega)) _) | (refine Below.setCell ?_ (by first | omega | (simp <;> omega)) _) | (refine Below.trans ?_ (Below.mono (by assumption) (by first | omega | (simp <;> omega))))))⟩
  case round =>
    obtain ⟨m, rfl, hm, ht, br⟩ := hrel
    by_cases hlt : m < kids.length
    · obtain ⟨x, hx⟩ : ∃ x, kids[m]? = some x := ⟨_, List.getElem?_eq_getElem hlt⟩
      have hlt' : m < kids'.length := by rw [← HL.out]; exact hlt
      obtain ⟨y, hy⟩ : ∃ y, kids'[m]? = some y := ⟨_, List.getElem?_eq_getElem hlt'⟩
      obtain ⟨b, o, k1, vc1, mn1, mx1, lz1, g1, vl1, rfl, hb, f7, hx'⟩ := (HQ.out.below br).get hx
      obtain ⟨b2, o2, k2, vc2, mn2, mx2, lz2, g2, vl2, rfl, hb2, f72, hy'⟩ := (HQ'.out.below br).get hy
      obtain ⟨a3, i3, j3, b3, s3, t3, rfl, rfl⟩ := node_shape hx'
      obtain ⟨a4, i4, j4, b4, s4, t4, rfl, rfl⟩ := node_shape hy'
      obtain ⟨r, hr⟩ := sm_some x y
      have hsz : nsz x ≤ N := by have := nszs_mem hx; omega
      have hbw1 := below_new wr (.cells #[.int .i64 k1, .slice a3 i3 j3, .int .i64 mn1, .int .i64 mx1, .bool lz1, .int .i64 g1, .slice b3 s3 t3] 29)
      have hbw2 := bvia hbw1 (below_new (wr.alloc (.cells #[.int .i64 k1, .slice a3 i3 j3, .int .i64 mn1, .int .i64 mx1, .bool lz1, .int .i64 g1, .slice b3 s3 t3] 29)) (.cells #[.int .i64 k2, .slice a4 i4 j4, .int .i64 mn2, .int .i64 mx2, .bool lz2, .int .i64 g2, .slice b4 s4 t4] 29))
      have hml : (m : Int) < (kids.length : Int) := by omega
      have hml' : (m : Int) < (kids'.length : Int) := by omega
      have HX := Lib.hid (And.intro hx hy)
      have HN := Lib.hid (IH.out x hsz y _ _ r _ (hx'.below hbw2) (hy'.below hbw2) hr)
      have HB := Lib.hid (br.trans (hbw2.mono br.size))
      have HR := Lib.hid hr
      clear hx hy hx' hy' hr hbw1 hbw2
      unfold ndv at HN
      obtain ⟨f0, f1, f2, f3, f4, f5, f6⟩ := f7
      obtain ⟨g0, g1', g2', g3, g4, g5, g6⟩ := f72
      cases r with
      | true =>
        go_wp2_with (go_at_call 21; refine HN.out.mono ?_; rintro e w1 ⟨rfl, hw1⟩; have HW := Lib.hid hw1; clear hw1)
        go_roundw
        case rel => exact ⟨m + 1, by go_num, by omega, Lib.hid (take_same ht.out HX.out.1 HX.out.2 (HR.out.1 rfl)), HB.out.trans (HW.out.mono (by simp; have := br.size; omega))⟩
        case measure => simp [intOf]; omega
      | false =>
        have hvf : v = false := by
          cases v with
          | false => rfl
          | true => exact absurd (HV.out.1 rfl) (kid_ne HX.out.1 HX.out.2 (fun e => by have := HR.out.2 e; cases this))
        subst hvf
        go_wp2_with (go_at_call 21; refine HN.out.mono ?_; rintro e w1 ⟨rfl, hw1⟩; have HW := Lib.hid hw1; clear hw1)
        go_ret
        exact ⟨rfl, HB.out.trans (HW.out.mono (by simp; have := br.size; omega))⟩
    · obtain rfl : m = kids.length := by omega
      obtain rfl : v = true := HV.out.2 (by have := ht.out; rw [List.take_length] at this; rw [this, HL.out, List.take_length])
      go_wp2_with fail
      go_ret
      exact ⟨rfl, br⟩
set_option maxRecDepth 20000 in
set_option maxHeartbeats 4000000 in
theorem sameN_any : ∀ (N : Nat), SameAt N := by
  intro N
  induction N with
  | zero => intro n hn; have := nsz_pos n; omega
  | succ N ih =>
    intro n hN n' u u' v w hu hu' hv
    obtain ⟨k, c, mn, mx, lz, g, kids, p, cap, q, cap1, rfl, rfl, i1, i2, i3, i4, hc, hr, hk, hp, hq⟩ := node_open hu
    obtain ⟨k', c', mn', mx', lz', g', kids', p', cap', q', cap1', rfl, rfl, i1', i2', i3', i4', hc', hr', hk', hp', hq'⟩ := node_open hu'
    have HQ := Lib.hid hq
    have HQ' := Lib.hid hq'
    have HP := Lib.hid hp
    have HP' := Lib.hid hp'
    have HV := Lib.hid hv
    have hN' : nszs kids ≤ N := by rw [nsz] at hN; omega
    have IH := Lib.hid ih
    clear hu hu' hp hq hr hp' hq' hr' hv i1 i2 i3 i4 i1' i2' i3' i4' ih hN
    unfold ndv
    by_cases h1 : k = k'
    case neg =>
      obtain rfl := sm_false HV.out (nd_ne (fun h => h1 h.1))
      have hkk : (k == k') = false := beq_eq_false_iff_ne.2 h1
      go_enter Tryz.func21, Tryz.ntmps21
      go_wp2_with fail
      go_ret
      exact ⟨rfl, (by repeat' (first | exact Below.refl _ _ | (refine Below.drew ?_) | (refine bdrewN ?_) | (refine Below.alloc ?_ (by first | omega | (simp <;> omega)) _) | (refine Below.setCell ?_ (by first | omega | (simp <;> omega)) _) | (refine Below.trans ?_ (Below.mono (by assumption) (by first | omega | (simp <;> omega))))))⟩
    subst h1
    by_cases h7 : c = c'
    case neg =>
      obtain rfl := sm_false HV.out (nd_ne (fun h => h7 h.2.2.2.2.2.2.1))
      go_enter Tryz.func21, Tryz.ntmps21
      go_wp2_with fail
      refine (same_any p p' cap cap' c c' false _ (HP.out.below ?bel1) (HP'.out.below ?bel2) hc hc' (decide_eq_false h7)).mono ?cont
      case bel1 => exact (by repeat' (first | exact Below.refl _ _ | (refine Below.drew ?_) | (refine bdrewN ?_) | (refine Below.alloc ?_ (by first | omega | (simp <;> omega)) _) | (refine Below.setCell ?_ (by first | omega | (simp <;> omega)) _) | (refine Below.trans ?_ (Below.mono (by assumption) (by first | omega | (simp <;> omega))))))
      case bel2 => exact (by repeat' (first | exact Below.refl _ _ | (refine Below.drew ?_) | (refine bdrewN ?_) | (refine Below.alloc ?_ (by first | omega | (simp <;> omega)) _) | (refine Below.setCell ?_ (by first | omega | (simp <;> omega)) _) | (refine Below.trans ?_ (Below.mono (by assumption) (by first | omega | (simp <;> omega))))))
      case cont =>
        rintro e w1 ⟨rfl, hw1⟩
        have hb1 := Below.trans (show Below w.heap.size w _ from (by repeat' (first | exact Below.refl _ _ | (refine Below.drew ?_) | (refine bdrewN ?_) | (refine Below.alloc ?_ (by first | omega | (simp <;> omega)) _) | (refine Below.setCell ?_ (by first | omega | (simp <;> omega)) _) | (refine Below.trans ?_ (Below.mono (by assumption) (by first | omega | (simp <;> omega))))))) (Below.mono hw1 (by simp <;> omega))
        have b0 : Seven w1 w.heap.size 0 k (.slice p c.length cap) mn mx lz g (.slice q kids.length cap1) := ((Seven.box w k (.slice p c.length cap) mn mx lz g (.slice q kids.length cap1) _).below (Below.alloc (Below.refl _ _) (Nat.le_refl _) _) (by simp)).below hw1 (by simp <;> omega)
        have b1 : Seven w1 (w.heap.size + 1) 0 k (.slice p' c'.length cap') mn' mx' lz' g' (.slice q' kids'.length cap1') := (Seven.box_at ..).below hw1 (by simp)
        obtain ⟨x0, x1, x2, x3, x4, x5, x6⟩ := b0
        obtain ⟨y0, y1, y2, y3, y4, y5, y6⟩ := b1
        simp only [Nat.zero_add] at x0 x1 x2 x3 x4 x5 x6
        simp only [Nat.zero_add] at y0 y1 y2 y3 y4 y5 y6
        go_wp2_with fail
        go_ret
        exact ⟨rfl, hb1⟩
    subst h7
    by_cases h2 : mn = mn'
    case neg =>
      obtain rfl := sm_false HV.out (nd_ne (fun h => h2 h.2.1))
      have hkk : (mn == mn') = false := beq_eq_false_iff_ne.2 h2
      go_enter Tryz.func21, Tryz.ntmps21
      go_wp2_with fail
      refine (same_any p p' cap cap' c c true _ (HP.out.below ?bel1) (HP'.out.below ?bel2) hc hc' (decide_eq_true rfl)).mono ?cont
      case bel1 => exact (by repeat' (first | exact Below.refl _ _ | (refine Below.drew ?_) | (refine bdrewN ?_) | (refine Below.alloc ?_ (by first | omega | (simp <;> omega)) _) | (refine Below.setCell ?_ (by first | omega | (simp <;> omega)) _) | (refine Below.trans ?_ (Below.mono (by assumption) (by first | omega | (simp <;> omega))))))
      case bel2 => exact (by repeat' (first | exact Below.refl _ _ | (refine Below.drew ?_) | (refine bdrewN ?_) | (refine Below.alloc ?_ (by first | omega | (simp <;> omega)) _) | (refine Below.setCell ?_ (by first | omega | (simp <;> omega)) _) | (refine Below.trans ?_ (Below.mono (by assumption) (by first | omega | (simp <;> omega))))))
      case cont =>
        rintro e w1 ⟨rfl, hw1⟩
        have hb1 := Below.trans (show Below w.heap.size w _ from (by repeat' (first | exact Below.refl _ _ | (refine Below.drew ?_) | (refine bdrewN ?_) | (refine Below.alloc ?_ (by first | omega | (simp <;> omega)) _) | (refine Below.setCell ?_ (by first | omega | (simp <;> omega)) _) | (refine Below.trans ?_ (Below.mono (by assumption) (by first | omega | (simp <;> omega))))))) (Below.mono hw1 (by simp <;> omega))
        have b0 : Seven w1 w.heap.size 0 k (.slice p c.length cap) mn mx lz g (.slice q kids.length cap1) := ((Seven.box w k (.slice p c.length cap) mn mx lz g (.slice q kids.length cap1) _).below (Below.alloc (Below.refl _ _) (Nat.le_refl _) _) (by simp)).below hw1 (by simp <;> omega)
        have b1 : Seven w1 (w.heap.size + 1) 0 k (.slice p' c.length cap') mn' mx' lz' g' (.slice q' kids'.length cap1') := (Seven.box_at ..).below hw1 (by simp)
        obtain ⟨x0, x1, x2, x3, x4, x5, x6⟩ := b0
        obtain ⟨y0, y1, y2, y3, y4, y5, y6⟩ := b1
        simp only [Nat.zero_add] at x0 x1 x2 x3 x4 x5 x6
        simp only [Nat.zero_add] at y0 y1 y2 y3 y4 y5 y6
        go_wp2_with fail
        go_ret
        exact ⟨rfl, hb1⟩
    subst h2
    by_cases h3 : mx = mx'
    case neg =>
      obtain rfl := sm_false HV.out (nd_ne (fun h => h3 h.2.2.1))
      have hkk : (mx == mx') = false := beq_eq_false_iff_ne.2 h3
      go_enter Tryz.func21, Tryz.ntmps21
      go_wp2_with fail
      refine (same_any p p' cap cap' c c true _ (HP.out.below ?bel1) (HP'.out.below ?bel2) hc hc' (decide_eq_true rfl)).mono ?cont
      case bel1 => exact (by repeat' (first | exact Below.refl _ _ | (refine Below.drew ?_) | (refine bdrewN ?_) | (refine Below.alloc ?_ (by first | omega | (simp <;> omega)) _) | (refine Below.setCell ?_ (by first | omega | (simp <;> omega)) _) | (refine Below.trans ?_ (Below.mono (by assumption) (by first | omega | (simp <;> omega))))))
      case bel2 => exact (by repeat' (first | exact Below.refl _ _ | (refine Below.drew ?_) | (refine bdrewN ?_) | (refine Below.alloc ?_ (by first | omega | (simp <;> omega)) _) | (refine Below.setCell ?_ (by first | omega | (simp <;> omega)) _) | (refine Below.trans ?_ (Below.mono (by assumption) (by first | omega | (simp <;> omega))))))
      case cont =>
        rintro e w1 ⟨rfl, hw1⟩
        have hb1 := Below.trans (show Below w.heap.size w _ from (by repeat' (first | exact Below.refl _ _ | (refine Below.drew ?_) | (refine bdrewN ?_) | (refine Below.alloc ?_ (by first | omega | (simp <;> omega)) _) | (refine Below.setCell ?_ (by first | omega | (simp <;> omega)) _) | (refine Below.trans ?_ (Below.mono (by assumption) (by first | omega | (simp <;> omega))))))) (Below.mono hw1 (by simp <;> omega))
        have b0 : Seven w1 w.heap.size 0 k (.slice p c.length cap) mn mx lz g (.slice q kids.length cap1) := ((Seven.box w k (.slice p c.length cap) mn mx lz g (.slice q kids.length cap1) _).below (Below.alloc (Below.refl _ _) (Nat.le_refl _) _) (by simp)).below hw1 (by simp <;> omega)
        have b1 : Seven w1 (w.heap.size + 1) 0 k (.slice p' c.length cap') mn mx' lz' g' (.slice q' kids'.length cap1') := (Seven.box_at ..).below hw1 (by simp)
        obtain ⟨x0, x1, x2, x3, x4, x5, x6⟩ := b0
        obtain ⟨y0, y1, y2, y3, y4, y5, y6⟩ := b1
        simp only [Nat.zero_add] at x0 x1 x2 x3 x4 x5 x6
        simp only [Nat.zero_add] at y0 y1 y2 y3 y4 y5 y6
        go_wp2_with fail
        go_ret
        exact ⟨rfl, hb1⟩
    subst h3
    by_cases h4 : lz = lz'
    case neg =>
      obtain rfl := sm_false HV.out (nd_ne (fun h => h4 h.2.2.2.1))
      have hkk : (lz == lz') = false := beq_eq_false_iff_ne.2 h4
      go_enter Tryz.func21, Tryz.ntmps21
      go_wp2_with fail
      refine (same_any p p' cap cap' c c true _ (HP.out.below ?bel1) (HP'.out.below ?bel2) hc hc' (decide_eq_true rfl)).mono ?cont
      case bel1 => exact (by repeat' (first | exact Below.refl _ _ | (refine Below.drew ?_) | (refine bdrewN ?_) | (refine Below.alloc ?_ (by first | omega | (simp <;> omega)) _) | (refine Below.setCell ?_ (by first | omega | (simp <;> omega)) _) | (refine Below.trans ?_ (Below.mono (by assumption) (by first | omega | (simp <;> omega))))))
      case bel2 => exact (by repeat' (first | exact Below.refl _ _ | (refine Below.drew ?_) | (refine bdrewN ?_) | (refine Below.alloc ?_ (by first | omega | (simp <;> omega)) _) | (refine Below.setCell ?_ (by first | omega | (simp <;> omega)) _) | (refine Below.trans ?_ (Below.mono (by assumption) (by first | omega | (simp <;> omega))))))
      case cont =>
        rintro e w1 ⟨rfl, hw1⟩
        have hb1 := Below.trans (show Below w.heap.size w _ from (by repeat' (first | exact Below.refl _ _ | (refine Below.drew ?_) | (refine bdrewN ?_) | (refine Below.alloc ?_ (by first | omega | (simp <;> omega)) _) | (refine Below.setCell ?_ (by first | omega | (simp <;> omega)) _) | (refine Below.trans ?_ (Below.mono (by assumption) (by first | omega | (simp <;> omega))))))) (Below.mono hw1 (by simp <;> omega))
        have b0 : Seven w1 w.heap.size 0 k (.slice p c.length cap) mn mx lz g (.slice q kids.length cap1) := ((Seven.box w k (.slice p c.length cap) mn mx lz g (.slice q kids.length cap1) _).below (Below.alloc (Below.refl _ _) (Nat.le_refl _) _) (by simp)).below hw1 (by simp <;> omega)
        have b1 : Seven w1 (w.heap.size + 1) 0 k (.slice p' c.length cap') mn mx lz' g' (.slice q' kids'.length cap1') := (Seven.box_at ..).below hw1 (by simp)
        obtain ⟨x0, x1, x2, x3, x4, x5, x6⟩ := b0
        obtain ⟨y0, y1, y2, y3, y4, y5, y6⟩ := b1
        simp only [Nat.zero_add] at x0 x1 x2 x3 x4 x5 x6
        simp only [Nat.zero_add] at y0 y1 y2 y3 y4 y5 y6
        go_wp2_with fail
        go_ret
        exact ⟨rfl, hb1⟩
    subst h4
    by_cases h5 : g = g'
    case neg =>
      obtain rfl := sm_false HV.out (nd_ne (fun h => h5 h.2.2.2.2.1))
      have hkk : (g == g') = false := beq_eq_false_iff_ne.2 h5
      go_enter Tryz.func21, Tryz.ntmps21
      go_wp2_with fail
      refine (same_any p p' cap cap' c c true _ (HP.out.below ?bel1) (HP'.out.below ?bel2) hc hc' (decide_eq_true rfl)).mono ?cont
      case bel1 => exact (by repeat' (first | exact Below.refl _ _ | (refine Below.drew ?_) | (refine bdrewN ?_) | (refine Below.alloc ?_ (by first | omega | (simp <;> omega)) _) | (refine Below.setCell ?_ (by first | omega | (simp <;> omega)) _) | (refine Below.trans ?_ (Below.mono (by assumption) (by first | omega | (simp <;> omega))))))
      case bel2 => exact (by repeat' (first | exact Below.refl _ _ | (refine Below.drew ?_) | (refine bdrewN ?_) | (refine Below.alloc ?_ (by first | omega | (simp <;> omega)) _) | (refine Below.setCell ?_ (by first | omega | (simp <;> omega)) _) | (refine Below.trans ?_ (Below.mono (by assumption) (by first | omega | (simp <;> omega))))))
      case cont =>
        rintro e w1 ⟨rfl, hw1⟩
        have hb1 := Below.trans (show Below w.heap.size w _ from (by repeat' (first | exact Below.refl _ _ | (refine Below.drew ?_) | (refine bdrewN ?_) | (refine Below.alloc ?_ (by first | omega | (simp <;> omega)) _) | (refine Below.setCell ?_ (by first | omega | (simp <;> omega)) _) | (refine Below.trans ?_ (Below.mono (by assumption) (by first | omega | (simp <;> omega))))))) (Below.mono hw1 (by simp <;> omega))
        have b0 : Seven w1 w.heap.size 0 k (.slice p c.length cap) mn mx lz g (.slice q kids.length cap1) := ((Seven.box w k (.slice p c.length cap) mn mx lz g (.slice q kids.length cap1) _).below (Below.alloc (Below.refl _ _) (Nat.le_refl _) _) (by simp)).below hw1 (by simp <;> omega)
        have b1 : Seven w1 (w.heap.size + 1) 0 k (.slice p' c.length cap') mn mx lz g' (.slice q' kids'.length cap1') := (Seven.box_at ..).below hw1 (by simp)
        obtain ⟨x0, x1, x2, x3, x4, x5, x6⟩ := b0
        obtain ⟨y0, y1, y2, y3, y4, y5, y6⟩ := b1
        simp only [Nat.zero_add] at x0 x1 x2 x3 x4 x5 x6
        simp only [Nat.zero_add] at y0 y1 y2 y3 y4 y5 y6
        go_wp2_with fail
        go_ret
        exact ⟨rfl, hb1⟩
    subst h5
    go_enter Tryz.func21, Tryz.ntmps21
    go_wp2_with fail
    refine (same_any p p' cap cap' c c true _ (HP.out.below ?bel1) (HP'.out.below ?bel2) hc hc' (decide_eq_true rfl)).mono ?cont
    case bel1 => exact (by repeat' (first | exact Below.refl _ _ | (refine Below.drew ?_) | (refine bdrewN ?_) | (refine Below.alloc ?_ (by first | omega | (simp <;> omega)) _) | (refine Below.setCell ?_ (by first | omega | (simp <;> omega)) _) | (refine Below.trans ?_ (Below.mono (by assumption) (by first | omega | (simp <;> omega))))))
    case bel2 => exact (by repeat' (first | exact Below.refl _ _ | (refine Below.drew ?_) | (refine bdrewN ?_) | (refine Below.alloc ?_ (by first | omega | (simp <;> omega)) _) | (refine Below.setCell ?_ (by first | omega | (simp <;> omega)) _) | (refine Below.trans ?_ (Below.mono (by assumption) (by first | omega | (simp <;> omega))))))
    case cont =>
      rintro e w1 ⟨rfl, hw1⟩
      have hb1 := Below.trans (show Below w.heap.size w _ from (by repeat' (first | exact Below.refl _ _ | (refine Below.drew ?_) | (refine bdrewN ?_) | (refine Below.alloc ?_ (by first | omega | (simp <;> omega)) _) | (refine Below.setCell ?_ (by first | omega | (simp <;> omega)) _) | (refine Below.trans ?_ (Below.mono (by assumption) (by first | omega | (simp <;> omega))))))) (Below.mono hw1 (by simp <;> omega))
      have b0 : Seven w1 w.heap.size 0 k (.slice p c.length cap) mn mx lz g (.slice q kids.length cap1) := ((Seven.box w k (.slice p c.length cap) mn mx lz g (.slice q kids.length cap1) _).below (Below.alloc (Below.refl _ _) (Nat.le_refl _) _) (by simp)).below hw1 (by simp <;> omega)
      have b1 : Seven w1 (w.heap.size + 1) 0 k (.slice p' c.length cap') mn mx lz g (.slice q' kids'.length cap1') := (Seven.box_at ..).below hw1 (by simp)
      obtain ⟨x0, x1, x2, x3, x4, x5, x6⟩ := b0
      obtain ⟨y0, y1, y2, y3, y4, y5, y6⟩ := b1
      simp only [Nat.zero_add] at x0 x1 x2 x3 x4 x5 x6
      simp only [Nat.zero_add] at y0 y1 y2 y3 y4 y5 y6
      have HE := Lib.hid (eqf_any N IH.out kids kids' q q' cap1 cap1' v w1 hN' (HQ.out.below (hb1)) (HQ'.out.below (hb1)) (HV.out.trans ⟨fun e => by injection e, fun e => by rw [e]⟩) hk hk')
      go_wp2_with (go_at_call 56; refine HE.out.mono ?_; rintro e w2 ⟨rfl, hw2⟩; have HW2 := Lib.hid hw2; clear hw2)
      go_ret
      exact ⟨rfl, bvia hb1 HW2.out⟩
theorem psame_any (n n' : Nd) (u u' : Value) (v : Bool) (w : World) (hu : NodeV w u n) (hu' : NodeV w u' n') (hv : Sm n n' v) : Calls Tryz.prog 21 #[u, u'] w fun e w' => e = .returned (.bool v) ∧ Below w.heap.size w w' :=
  sameN_any (nsz n) n (Nat.le_refl _) n' u u' v w hu hu' hv
end Go.Proofs.YtdoapojmenojoaaGreatDoor
