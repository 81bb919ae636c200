import Derived.Test.YtdoapojmenojoaaGreatDoorJSynT
import Derived.Test.YtdoapojmenojoaaGreatDoorJPCls
import Derived.Test.YtdoapojmenojoaaGreatDoorJSynV
set_option linter.unusedSimpArgs false
set_option linter.unusedVariables false
/- Which nodes are right: the program's own. -/
set_option linter.unusedVariables false
namespace Go.Proofs.YtdoapojmenojoaaGreatDoor
open Go.RowKit
open Sx (Nd)

/- the four questions -/
def rC (k : Int) (c : List Cl.Rg) (cv : Bool) : Bool := if k = 1 then (!c.isEmpty && cv) else c.isEmpty
def rT (k mn mx : Int) (lz : Bool) : Bool := if k = 8 then decide (0 ≤ mn ∧ mn ≤ 20 ∧ (mx = -1 ∨ mn ≤ mx ∧ mx ≤ 20)) else decide (mn = 0 ∧ mx = 0 ∧ lz = false)
def rG (k g : Int) : Bool := if k = 9 then decide (1 ≤ g ∧ g ≤ 8) else decide (g = 0)
def rM (k m : Int) : Bool := if 0 ≤ k ∧ k ≤ 5 then decide (m = 0) else if k = 8 ∨ k = 9 then decide (m = 1) else if k = 6 ∨ k = 7 then decide (2 ≤ m) else false
set_option maxRecDepth 20000 in
set_option maxHeartbeats 4000000 in
theorem rmany_q (k m : Int) (v : Bool) (w : World) (hv : rM k m = v) (hm : 0 ≤ m) : Calls Tryz.prog 60 #[.int .i64 k, .int .i64 m] w fun e w' => e = .returned (.bool v) ∧ w' = w := by
  subst hv
  by_cases e0 : k = 0
  · subst e0
    go_enter Tryz.func60, Tryz.ntmps60
    go_wp2_with fail
    go_ret
    exact ⟨ret_bool (by unfold rM; first | (simp; done) | (simp; rfl)), rfl⟩
  by_cases e1 : k = 1
  · subst e1
    go_enter Tryz.func60, Tryz.ntmps60
    go_wp2_with fail
    go_ret
    exact ⟨ret_bool (by unfold rM; first | (simp; done) | (simp; rfl)), rfl⟩
  by_cases e2 : k = 2
  · subst e2
    go_enter Tryz.func60, Tryz.ntmps60
    go_wp2_with fail
    go_ret
    exact ⟨ret_bool (by unfold rM; first | (simp; done) | (simp; rfl)), rfl⟩
  by_cases e3 : k = 3
  · subst e3
    go_enter Tryz.func60, Tryz.ntmps60
    go_wp2_with fail
    go_ret
    exact ⟨ret_bool (by unfold rM; first | (simp; done) | (simp; rfl)), rfl⟩
  by_cases e4 : k = 4
  · subst e4
    go_enter Tryz.func60, Tryz.ntmps60
    go_wp2_with fail
    go_ret
    exact ⟨ret_bool (by unfold rM; first | (simp; done) | (simp; rfl)), rfl⟩
  by_cases e5 : k = 5
  · subst e5
    go_enter Tryz.func60, Tryz.ntmps60
    go_wp2_with fail
    go_ret
    exact ⟨ret_bool (by unfold rM; first | (simp; done) | (simp; rfl)), rfl⟩
  by_cases e6 : k = 6
  · subst e6
    go_enter Tryz.func60, Tryz.ntmps60
    go_wp2_with fail
    go_ret
    exact ⟨ret_bool (by unfold rM; first | (simp; done) | (simp; rfl)), rfl⟩
  by_cases e7 : k = 7
  · subst e7
    go_enter Tryz.func60, Tryz.ntmps60
    go_wp2_with fail
    go_ret
    exact ⟨ret_bool (by unfold rM; first | (simp; done) | (simp; rfl)), rfl⟩
  by_cases e8 : k = 8
  · subst e8
    go_enter Tryz.func60, Tryz.ntmps60
    go_wp2_with fail
    go_ret
    exact ⟨ret_bool (by unfold rM; first | (simp; done) | (simp; rfl)), rfl⟩
  by_cases e9 : k = 9
  · subst e9
    go_enter Tryz.func60, Tryz.ntmps60
    go_wp2_with fail
    go_ret
    exact ⟨ret_bool (by unfold rM; first | (simp; done) | (simp; rfl)), rfl⟩
  have f : ∀ z, k ≠ z → (k == z) = false := fun z hz => beq_eq_false_iff_ne.2 hz
  have f0 := f 0 e0
  have f1 := f 1 e1
  have f2 := f 2 e2
  have f3 := f 3 e3
  have f4 := f 4 e4
  have f5 := f 5 e5
  have f6 := f 6 e6
  have f7 := f 7 e7
  have f8 := f 8 e8
  have f9 := f 9 e9
  have hr : rM k m = false := by unfold rM; rw [if_neg (by omega), if_neg (by omega), if_neg (by omega)]
  rw [hr]
  clear f hr
  go_enter Tryz.func60, Tryz.ntmps60
  go_wp2_with fail
  go_ret
  exact ⟨rfl, rfl⟩
set_option maxRecDepth 20000 in
set_option maxHeartbeats 4000000 in
theorem rgroup_q (k mn mx g : Int) (lz : Bool) (vc vl : Value) (v : Bool) (w : World) (hv : rG k g = v) (hs : ∃ a i j b s t, vc = .slice a i j ∧ vl = .slice b s t) : Calls Tryz.prog 59 #[ndv k vc mn mx lz g vl] w fun e w' => e = .returned (.bool v) ∧ Below w.heap.size w w' := by
  obtain ⟨a, i, j, b, s, t, rfl, rfl⟩ := hs
  subst hv
  unfold ndv
  by_cases h9 : k = 9
  · subst h9
    by_cases h1 : 1 ≤ g
    · have d1 : decide ((1 : Int) ≤ g) = true := by rw [decide_eq_true_iff]; exact h1
      go_enter Tryz.func59, Tryz.ntmps59
      go_wp2_with fail
      go_ret
      exact ⟨ret_bool (by unfold rG; simp [h1]), (by repeat' (first | exact Below.refl _ _ | (refine Below.drew ?_) | (refine bdrewN ?_) | (refine Below.alloc ?_ (by first | omega | (simp <;> omega)) _) | (refine Below.setCell ?_ (by first | omega | (simp <;> omega)) _) | (refine Below.trans ?_ (Below.mono (by assumption) (by first | omega | (simp <;> omega))))))⟩
    · have d1 : decide ((1 : Int) ≤ g) = false := by rw [decide_eq_false_iff_not]; exact h1
      go_enter Tryz.func59, Tryz.ntmps59
      go_wp2_with fail
      go_ret
      exact ⟨ret_bool (by unfold rG; simp; omega), (by repeat' (first | exact Below.refl _ _ | (refine Below.drew ?_) | (refine bdrewN ?_) | (refine Below.alloc ?_ (by first | omega | (simp <;> omega)) _) | (refine Below.setCell ?_ (by first | omega | (simp <;> omega)) _) | (refine Below.trans ?_ (Below.mono (by assumption) (by first | omega | (simp <;> omega))))))⟩
  · have d9 : (k != 9) = true := by rw [bne_iff_ne]; exact h9
    go_enter Tryz.func59, Tryz.ntmps59
    go_wp2_with fail
    go_ret
    exact ⟨ret_bool (by unfold rG; rw [if_neg h9]; rfl), (by repeat' (first | exact Below.refl _ _ | (refine Below.drew ?_) | (refine bdrewN ?_) | (refine Below.alloc ?_ (by first | omega | (simp <;> omega)) _) | (refine Below.setCell ?_ (by first | omega | (simp <;> omega)) _) | (refine Below.trans ?_ (Below.mono (by assumption) (by first | omega | (simp <;> omega))))))⟩
set_option maxRecDepth 20000 in
set_option maxHeartbeats 4000000 in
theorem rtimes_q (k mn mx g : Int) (lz : Bool) (vc vl : Value) (v : Bool) (w : World) (hv : rT k mn mx lz = v) (hs : ∃ a i j b s t, vc = .slice a i j ∧ vl = .slice b s t) : Calls Tryz.prog 58 #[ndv k vc mn mx lz g vl] w fun e w' => e = .returned (.bool v) ∧ Below w.heap.size w w' := by
  obtain ⟨a, i, j, b, s, t, rfl, rfl⟩ := hs
  subst hv
  unfold ndv
  by_cases h8 : k = 8
  · subst h8
    by_cases h1 : mn < 0
    · have d1 : decide (mn < 0) = true := by rw [decide_eq_true_iff]; exact h1
      go_enter Tryz.func58, Tryz.ntmps58
      go_wp2_with fail
      go_ret
      exact ⟨ret_bool (by unfold rT; simp; omega), (by repeat' (first | exact Below.refl _ _ | (refine Below.drew ?_) | (refine bdrewN ?_) | (refine Below.alloc ?_ (by first | omega | (simp <;> omega)) _) | (refine Below.setCell ?_ (by first | omega | (simp <;> omega)) _) | (refine Below.trans ?_ (Below.mono (by assumption) (by first | omega | (simp <;> omega))))))⟩
    have d1 : decide (mn < 0) = false := by rw [decide_eq_false_iff_not]; exact h1
    by_cases h2 : mn > 20
    · have d2 : decide (mn > 20) = true := by rw [decide_eq_true_iff]; exact h2
      go_enter Tryz.func58, Tryz.ntmps58
      go_wp2_with fail
      go_ret
      exact ⟨ret_bool (by unfold rT; simp; omega), (by repeat' (first | exact Below.refl _ _ | (refine Below.drew ?_) | (refine bdrewN ?_) | (refine Below.alloc ?_ (by first | omega | (simp <;> omega)) _) | (refine Below.setCell ?_ (by first | omega | (simp <;> omega)) _) | (refine Below.trans ?_ (Below.mono (by assumption) (by first | omega | (simp <;> omega))))))⟩
    have d2 : decide (mn > 20) = false := by rw [decide_eq_false_iff_not]; exact h2
    by_cases h3 : mx = -1
    · subst h3
      go_enter Tryz.func58, Tryz.ntmps58
      go_wp2_with fail
      go_ret
      exact ⟨ret_bool (by unfold rT; simp; omega), (by repeat' (first | exact Below.refl _ _ | (refine Below.drew ?_) | (refine bdrewN ?_) | (refine Below.alloc ?_ (by first | omega | (simp <;> omega)) _) | (refine Below.setCell ?_ (by first | omega | (simp <;> omega)) _) | (refine Below.trans ?_ (Below.mono (by assumption) (by first | omega | (simp <;> omega))))))⟩
    have d3 : (mx == -1) = false := beq_eq_false_iff_ne.2 h3
    by_cases h4 : mn ≤ mx
    · have d4 : decide (mn ≤ mx) = true := by rw [decide_eq_true_iff]; exact h4
      obtain ⟨r, hr⟩ : ∃ r, decide (mx ≤ 20) = r := ⟨_, rfl⟩
      go_enter Tryz.func58, Tryz.ntmps58
      go_wp2_with fail
      go_ret
      refine ⟨ret_bool ?_, (by repeat' (first | exact Below.refl _ _ | (refine Below.drew ?_) | (refine bdrewN ?_) | (refine Below.alloc ?_ (by first | omega | (simp <;> omega)) _) | (refine Below.setCell ?_ (by first | omega | (simp <;> omega)) _) | (refine Below.trans ?_ (Below.mono (by assumption) (by first | omega | (simp <;> omega))))))⟩
      unfold rT
      subst hr
      rw [if_pos rfl, decide_eq_decide]
      omega
    · have d4 : decide (mn ≤ mx) = false := by rw [decide_eq_false_iff_not]; exact h4
      go_enter Tryz.func58, Tryz.ntmps58
      go_wp2_with fail
      go_ret
      exact ⟨ret_bool (by unfold rT; simp; omega), (by repeat' (first | exact Below.refl _ _ | (refine Below.drew ?_) | (refine bdrewN ?_) | (refine Below.alloc ?_ (by first | omega | (simp <;> omega)) _) | (refine Below.setCell ?_ (by first | omega | (simp <;> omega)) _) | (refine Below.trans ?_ (Below.mono (by assumption) (by first | omega | (simp <;> omega))))))⟩
  · have d8 : (k != 8) = true := by rw [bne_iff_ne]; exact h8
    by_cases h1 : mn = 0
    · subst h1
      by_cases h2 : mx = 0
      · subst h2
        go_enter Tryz.func58, Tryz.ntmps58
        go_wp2_with fail
        go_ret
        exact ⟨ret_bool (by unfold rT; rw [if_neg h8]; cases lz <;> rfl), (by repeat' (first | exact Below.refl _ _ | (refine Below.drew ?_) | (refine bdrewN ?_) | (refine Below.alloc ?_ (by first | omega | (simp <;> omega)) _) | (refine Below.setCell ?_ (by first | omega | (simp <;> omega)) _) | (refine Below.trans ?_ (Below.mono (by assumption) (by first | omega | (simp <;> omega))))))⟩
      · have d2 : (mx == 0) = false := beq_eq_false_iff_ne.2 h2
        go_enter Tryz.func58, Tryz.ntmps58
        go_wp2_with fail
        go_ret
        exact ⟨ret_bool (by unfold rT; rw [if_neg h8]; symm; rw [decide_eq_false_iff_not]; omega), (by repeat' (first | exact Below.refl _ _ | (refine Below.drew ?_) | (refine bdrewN ?_) | (refine Below.alloc ?_ (by first | omega | (simp <;> omega)) _) | (refine Below.setCell ?_ (by first | omega | (simp <;> omega)) _) | (refine Below.trans ?_ (Below.mono (by assumption) (by first | omega | (simp <;> omega))))))⟩
    · have d1 : (mn == 0) = false := beq_eq_false_iff_ne.2 h1
      go_enter Tryz.func58, Tryz.ntmps58
      go_wp2_with fail
      go_ret
      exact ⟨ret_bool (by unfold rT; rw [if_neg h8]; symm; rw [decide_eq_false_iff_not]; omega), (by repeat' (first | exact Below.refl _ _ | (refine Below.drew ?_) | (refine bdrewN ?_) | (refine Below.alloc ?_ (by first | omega | (simp <;> omega)) _) | (refine Below.setCell ?_ (by first | omega | (simp <;> omega)) _) | (refine Below.trans ?_ (Below.mono (by assumption) (by first | omega | (simp <;> omega))))))⟩
set_option maxRecDepth 20000 in
set_option maxHeartbeats 4000000 in
theorem rclass_q (k mn mx g : Int) (lz : Bool) (p : Option Addr) (c : List Cl.Rg) (cap : Nat) (vl : Value) (cv v : Bool) (w : World) (hp : RowP w p c) (hi : RIn c) (hl : c.length ≤ 1000000) (hcv : Rt c cv) (hv : rC k c cv = v) (hs : ∃ b s t, vl = .slice b s t) : Calls Tryz.prog 57 #[ndv k (.slice p c.length cap) mn mx lz g vl] w fun e w' => e = .returned (.bool v) ∧ Below w.heap.size w w' := by
  obtain ⟨b, s, t, rfl⟩ := hs
  subst hv
  unfold ndv
  have HP := Lib.hid hp
  have HC := Lib.hid hcv
  have HI := Lib.hid hi
  clear hp hcv hi
  by_cases h1 : k = 1
  · subst h1
    have HV := Lib.hid (show (!c.isEmpty && cv) = rC 1 c cv from rfl)
    generalize rC 1 c cv = r at HV ⊢
    go_enter Tryz.func57, Tryz.ntmps57
    go_wp2_with (go_at_call 93; refine (smay_any p cap c _ (HP.out.below (below_new w _)) HI.out hl r cv HC.out HV.out).mono ?_; rintro e w1 ⟨rfl, hw1⟩; have HW := Lib.hid hw1; clear hw1)
    go_ret
    exact ⟨rfl, bvia (below_new w _) HW.out⟩
  · have d1 : (k == 1) = false := beq_eq_false_iff_ne.2 h1
    have hf : (((c.length : Nat) : Int) == 0) = rC k c cv := by
      unfold rC
      rw [if_neg h1]
      cases c with
      | nil => rfl
      | cons x t => simp; omega
    have HF := Lib.hid hf
    clear hf
    go_enter Tryz.func57, Tryz.ntmps57
    go_wp2_with fail
    go_ret
    exact ⟨ret_bool HF.out, (by repeat' (first | exact Below.refl _ _ | (refine Below.drew ?_) | (refine bdrewN ?_) | (refine Below.alloc ?_ (by first | omega | (simp <;> omega)) _) | (refine Below.setCell ?_ (by first | omega | (simp <;> omega)) _) | (refine Below.trans ?_ (Below.mono (by assumption) (by first | omega | (simp <;> omega))))))⟩
theorem right_iff {k mn mx g : Int} {lz : Bool} {c : List Cl.Rg} {l : List Nd} {cv : Bool} (h : Rt c cv) : Sx.right (.mk k c mn mx lz g l) ↔ (Sx.rights l ∧ rC k c cv = true ∧ rT k mn mx lz = true ∧ rG k g = true ∧ rM k (l.length : Nat) = true) := by
  have hn : RightP [] := Sx.nf_rightP Cl.nf_nil (by simp)
  rw [Sx.right]
  unfold Rt at h
  constructor
  · rintro ⟨h1, h2, h3, h4, h5, h6, h7, h8⟩
    refine ⟨h1, ?_, ?_, ?_, ?_⟩
    · unfold rC
      split
      · next hk => have := h4.2 hk; rw [h.2 h5]; cases c with
        | nil => exact absurd rfl this
        | cons _ _ => rfl
      · next hk => cases c with
        | nil => rfl
        | cons _ _ => exact absurd (h4.1 (by simp)) hk
    · unfold rT; split at h6
      · next hk => rw [if_pos hk, decide_eq_true_iff]; exact h6
      · next hk => rw [if_neg hk, decide_eq_true_iff]; exact h6
    · unfold rG; split at h7
      · next hk => rw [if_pos hk, decide_eq_true_iff]; exact h7
      · next hk => rw [if_neg hk, decide_eq_true_iff]; exact h7
    · unfold rM
      split at h8
      · next hk => rw [if_neg (by omega), if_neg (by omega), if_pos hk, decide_eq_true_iff]; omega
      · next hk =>
        split at h8
        · next hk2 => rw [if_neg (by omega), if_pos hk2, decide_eq_true_iff]; omega
        · next hk2 => rw [if_pos (by omega), decide_eq_true_iff]; simp [h8]
  · rintro ⟨h1, h2, h3, h4, h5⟩
    have hk : 0 ≤ k ∧ k ≤ 9 := by
      unfold rM at h5
      split at h5
      · omega
      · split at h5
        · omega
        · split at h5
          · omega
          · cases h5
    refine ⟨h1, hk.1, hk.2, ?_, ?_, ?_, ?_, ?_⟩
    · unfold rC at h2
      split at h2
      · next hk1 => rw [Bool.and_eq_true] at h2; refine ⟨fun _ => hk1, fun _ e => ?_⟩; rw [e] at h2; simp at h2
      · next hk1 => refine ⟨fun e => ?_, fun e => absurd e hk1⟩; rw [List.isEmpty_iff] at h2; exact absurd h2 e
    · unfold rC at h2
      split at h2
      · rw [Bool.and_eq_true] at h2; exact h.1 h2.2
      · rw [List.isEmpty_iff] at h2; rw [h2]; exact hn
    · unfold rT at h3; split at h3
      · next hk1 => rw [if_pos hk1]; rw [decide_eq_true_iff] at h3; exact h3
      · next hk1 => rw [if_neg hk1]; rw [decide_eq_true_iff] at h3; exact h3
    · unfold rG at h4; split at h4
      · next hk1 => rw [if_pos hk1]; rw [decide_eq_true_iff] at h4; exact h4
      · next hk1 => rw [if_neg hk1]; rw [decide_eq_true_iff] at h4; exact h4
    · unfold rM at h5
      split at h5
      · next hk1 => rw [if_neg (by omega), if_neg (by omega)]; rw [decide_eq_true_iff] at h5; exact List.eq_nil_of_length_eq_zero (by omega)
      · split at h5
        · next hk1 hk2 => rw [if_neg (by omega), if_pos hk2]; rw [decide_eq_true_iff] at h5; omega
        · split at h5
          · next hk1 hk2 hk3 => rw [if_pos hk3]; rw [decide_eq_true_iff] at h5; omega
          · cases h5
/- a node, and its box -/
structure RB (w : World) (k : Int) (vc : Value) (mn mx : Int) (lz : Bool) (g : Int) (vl : Value) (w' : World) : Prop where
  below : Below w.heap.size w w'
  lt : w.heap.size < w'.heap.size
  box : Seven w' w.heap.size 0 k vc mn mx lz g vl
theorem RB.on {w : World} {k : Int} {vc : Value} {mn mx : Int} {lz : Bool} {g : Int} {vl : Value} {w' w2 : World} (h : RB w k vc mn mx lz g vl w') (hb : Below w'.heap.size w' w2) : RB w k vc mn mx lz g vl w2 := ⟨bvia h.below hb, Nat.lt_of_lt_of_le h.lt hb.size, h.box.below hb h.lt⟩
set_option maxRecDepth 20000 in
set_option maxHeartbeats 4000000 in
theorem prightN_any : ∀ (N : Nat) (n : Nd), nsz n ≤ N → ∀ (u : Value) (v : Bool) (w : World), NodeV w u n → Rgt n v → Calls Tryz.prog 22 #[u] w fun e w' => e = .returned (.bool v) ∧ Below w.heap.size w w' := by
  intro N
  induction N with
  | zero => intro n hn; have := nsz_pos n; omega
  | succ N ih =>
    intro n hN u v w hu hv
    obtain ⟨k, c, mn, mx, lz, g, kids, p, cap, q, cap1, rfl, rfl, i1, i2, i3, i4, hc, hr, hk, hp, hq⟩ := node_open hu
    obtain ⟨cv, hcv⟩ := rt_some c
    have hri := right_iff (k := k) (mn := mn) (mx := mx) (g := g) (lz := lz) (l := kids) hcv
    have HV := Lib.hid (hv.trans hri)
    have HQ := Lib.hid hq
    have HC1 := Lib.hid (fun w' (hb : RB w k (.slice p c.length cap) mn mx lz g (.slice q kids.length cap1) w') (r : Bool) (hr1 : rC k c cv = r) => rclass_q k mn mx g lz p c cap (.slice q kids.length cap1) cv r w' (hp.below hb.below) hr hc hcv hr1 ⟨_, _, _, rfl⟩)
    have HC2 := Lib.hid (fun w' (r : Bool) (hr1 : rT k mn mx lz = r) => rtimes_q k mn mx g lz (.slice p c.length cap) (.slice q kids.length cap1) r w' hr1 ⟨_, _, _, _, _, _, rfl, rfl⟩)
    have HC3 := Lib.hid (fun w' (r : Bool) (hr1 : rG k g = r) => rgroup_q k mn mx g lz (.slice p c.length cap) (.slice q kids.length cap1) r w' hr1 ⟨_, _, _, _, _, _, rfl, rfl⟩)
    have HC4 := Lib.hid (fun w' (r : Bool) (hr1 : rM k (kids.length : Nat) = r) => rmany_q k (kids.length : Nat) r w' hr1 (by omega))
    have hN' : nszs kids ≤ N := by rw [nsz] at hN; omega
    have IH := Lib.hid ih
    have HB0 := Lib.hid (show RB w k (.slice p c.length cap) mn mx lz g (.slice q kids.length cap1) (w.alloc (.cells #[.int .i64 k, .slice p c.length cap, .int .i64 mn, .int .i64 mx, .bool lz, .int .i64 g, .slice q kids.length cap1] 29)) from ⟨below_new w _, by simp, Seven.box ..⟩)
    clear hu hp hq hr hv hcv hri i1 i2 i3 i4 ih hN
    unfold ndv at HC1 HC2 HC3 ⊢
    cases hb1 : rC k c cv with
    | false =>
      have hvf : v = false := by
        cases v with
        | false => rfl
        | true => have := (HV.out.1 rfl).2.1; rw [hb1] at this; cases this
      subst hvf
      have E1 := Lib.hid hb1
      clear hb1
      go_enter Tryz.func22, Tryz.ntmps22
      go_wp2_with (first | (go_at_call 57; refine (HC1.out _ HB0.out false E1.out).mono ?_; rintro e w1 ⟨rfl, hw1⟩; have HB1 := Lib.hid (HB0.out.on hw1); obtain ⟨x0, x1, x2, x3, x4, x5, x6⟩ := id HB1.out.box; simp only [Nat.zero_add] at x0 x1 x2 x3 x4 x5 x6; clear hw1))
      go_ret
      exact ⟨rfl, HB1.out.below⟩
    | true =>
    have E1 := Lib.hid hb1
    clear hb1
    cases hb2 : rT k mn mx lz with
    | false =>
      have hvf : v = false := by
        cases v with
        | false => rfl
        | true => have := (HV.out.1 rfl).2.2.1; rw [hb2] at this; cases this
      subst hvf
      have E2 := Lib.hid hb2
      clear hb2
      go_enter Tryz.func22, Tryz.ntmps22
      go_wp2_with (first | (go_at_call 57; refine (HC1.out _ HB0.out true E1.out).mono ?_; rintro e w1 ⟨rfl, hw1⟩; have HB1 := Lib.hid (HB0.out.on hw1); obtain ⟨x0, x1, x2, x3, x4, x5, x6⟩ := id HB1.out.box; simp only [Nat.zero_add] at x0 x1 x2 x3 x4 x5 x6; clear hw1) | (go_at_call 58; refine (HC2.out _ false E2.out).mono ?_; rintro e w2 ⟨rfl, hw2⟩; have HB2 := Lib.hid (HB1.out.on hw2); clear x0 x1 x2 x3 x4 x5 x6; obtain ⟨x0, x1, x2, x3, x4, x5, x6⟩ := id HB2.out.box; simp only [Nat.zero_add] at x0 x1 x2 x3 x4 x5 x6; clear hw2))
      go_ret
      exact ⟨rfl, HB2.out.below⟩
    | true =>
    have E2 := Lib.hid hb2
    clear hb2
    cases hb3 : rG k g with
    | false =>
      have hvf : v = false := by
        cases v with
        | false => rfl
        | true => have := (HV.out.1 rfl).2.2.2.1; rw [hb3] at this; cases this
      subst hvf
      have E3 := Lib.hid hb3
      clear hb3
      go_enter Tryz.func22, Tryz.ntmps22
      go_wp2_with (first | (go_at_call 57; refine (HC1.out _ HB0.out true E1.out).mono ?_; rintro e w1 ⟨rfl, hw1⟩; have HB1 := Lib.hid (HB0.out.on hw1); obtain ⟨x0, x1, x2, x3, x4, x5, x6⟩ := id HB1.out.box; simp only [Nat.zero_add] at x0 x1 x2 x3 x4 x5 x6; clear hw1) | (go_at_call 58; refine (HC2.out _ true E2.out).mono ?_; rintro e w2 ⟨rfl, hw2⟩; have HB2 := Lib.hid (HB1.out.on hw2); clear x0 x1 x2 x3 x4 x5 x6; obtain ⟨x0, x1, x2, x3, x4, x5, x6⟩ := id HB2.out.box; simp only [Nat.zero_add] at x0 x1 x2 x3 x4 x5 x6; clear hw2) | (go_at_call 59; refine (HC3.out _ false E3.out).mono ?_; rintro e w3 ⟨rfl, hw3⟩; have HB3 := Lib.hid (HB2.out.on hw3); clear x0 x1 x2 x3 x4 x5 x6; obtain ⟨x0, x1, x2, x3, x4, x5, x6⟩ := id HB3.out.box; simp only [Nat.zero_add] at x0 x1 x2 x3 x4 x5 x6; clear hw3))
      go_ret
      exact ⟨rfl, HB3.out.below⟩
    | true =>
    have E3 := Lib.hid hb3
    clear hb3
    cases hb4 : rM k (kids.length : Nat) with
    | false =>
      have hvf : v = false := by
        cases v with
        | false => rfl
        | true => have := (HV.out.1 rfl).2.2.2.2; rw [hb4] at this; cases this
      subst hvf
      have E4 := Lib.hid hb4
      clear hb4
      go_enter Tryz.func22, Tryz.ntmps22
      go_wp2_with (first | (go_at_call 57; refine (HC1.out _ HB0.out true E1.out).mono ?_; rintro e w1 ⟨rfl, hw1⟩; have HB1 := Lib.hid (HB0.out.on hw1); obtain ⟨x0, x1, x2, x3, x4, x5, x6⟩ := id HB1.out.box; simp only [Nat.zero_add] at x0 x1 x2 x3 x4 x5 x6; clear hw1) | (go_at_call 58; refine (HC2.out _ true E2.out).mono ?_; rintro e w2 ⟨rfl, hw2⟩; have HB2 := Lib.hid (HB1.out.on hw2); clear x0 x1 x2 x3 x4 x5 x6; obtain ⟨x0, x1, x2, x3, x4, x5, x6⟩ := id HB2.out.box; simp only [Nat.zero_add] at x0 x1 x2 x3 x4 x5 x6; clear hw2) | (go_at_call 59; refine (HC3.out _ true E3.out).mono ?_; rintro e w3 ⟨rfl, hw3⟩; have HB3 := Lib.hid (HB2.out.on hw3); clear x0 x1 x2 x3 x4 x5 x6; obtain ⟨x0, x1, x2, x3, x4, x5, x6⟩ := id HB3.out.box; simp only [Nat.zero_add] at x0 x1 x2 x3 x4 x5 x6; clear hw3) | (go_at_call 60; refine (HC4.out _ false E4.out).mono ?_; rintro e w4 ⟨rfl, rfl⟩))
      go_ret
      exact ⟨rfl, HB3.out.below⟩
    | true =>
    have E4 := Lib.hid hb4
    clear hb4
    have HV2 := Lib.hid (show v = true ↔ Sx.rights kids from HV.out.trans ⟨fun h => h.1, fun h => ⟨h, E1.out, E2.out, E3.out, E4.out⟩⟩)
    clear HV
    go_enter Tryz.func22, Tryz.ntmps22
    go_wp2_with (first | (go_at_call 57; refine (HC1.out _ HB0.out true E1.out).mono ?_; rintro e w1 ⟨rfl, hw1⟩; have HB1 := Lib.hid (HB0.out.on hw1); obtain ⟨x0, x1, x2, x3, x4, x5, x6⟩ := id HB1.out.box; simp only [Nat.zero_add] at x0 x1 x2 x3 x4 x5 x6; clear hw1) | (go_at_call 58; refine (HC2.out _ true E2.out).mono ?_; rintro e w2 ⟨rfl, hw2⟩; have HB2 := Lib.hid (HB1.out.on hw2); clear x0 x1 x2 x3 x4 x5 x6; obtain ⟨x0, x1, x2, x3, x4, x5, x6⟩ := id HB2.out.box; simp only [Nat.zero_add] at x0 x1 x2 x3 x4 x5 x6; clear hw2) | (go_at_call 59; refine (HC3.out _ true E3.out).mono ?_; rintro e w3 ⟨rfl, hw3⟩; have HB3 := Lib.hid (HB2.out.on hw3); clear x0 x1 x2 x3 x4 x5 x6; obtain ⟨x0, x1, x2, x3, x4, x5, x6⟩ := id HB3.out.box; simp only [Nat.zero_add] at x0 x1 x2 x3 x4 x5 x6; clear hw3) | (go_at_call 60; refine (HC4.out _ true E4.out).mono ?_; rintro e w4 ⟨rfl, rfl⟩))
    clear x0 x1 x2 x3 x4 x5 x6
    have HB := Lib.hid HB3.out.below
    go_loopw [30] (fun i wr => ∃ m : Nat, i = .int .i64 (m : Int) ∧ m ≤ kids.length ∧ Hid (Sx.rights (kids.take m)) ∧ Below w.heap.size w wr) (fun i _ => kids.length - (intOf i).toNat)
    case atStart => exact ⟨0, rfl, Nat.zero_le _, Lib.hid (by rw [List.take_zero, Sx.rights]; trivial), HB.out⟩
    case round =>
      obtain ⟨m, rfl, hm, ht, br⟩ := hrel
      by_cases hlt : m < kids.length
      · obtain ⟨x, hx⟩ : ∃ x, kids[m]? = some x := ⟨_, List.getElem?_eq_getElem hlt⟩
        obtain ⟨b, o, k', vc', mn', mx', lz', g', vl', rfl, hb, f7, hx'⟩ := (HQ.out.below br).get hx
        have hle := nszs_mem hx
        have hml : (m : Int) < (kids.length : Int) := by omega
        obtain ⟨a1, i1, j1, b1, s1, t1, rfl, rfl⟩ := node_shape hx'
        obtain ⟨r, hr⟩ := rgt_some x
        have HX := Lib.hid hx'
        have HXX := Lib.hid hx
        have HR := Lib.hid hr
        clear hx hx' hr
        obtain ⟨f0, f1, f2, f3, f4, f5, f6⟩ := f7
        cases r with
        | true =>
          go_wp2_with (go_at_call 22; refine (IH.out x (by omega) _ true _ (HX.out.below (below_new wr _)) HR.out).mono ?_; rintro e w9 ⟨rfl, hw9⟩; have HW := Lib.hid ((br.trans ((below_new wr _).mono br.size)).trans (hw9.mono (by simp; have := br.size; omega))); clear hw9)
          go_roundw
          case rel => exact ⟨m + 1, by go_num, by omega, Lib.hid ((rights_take HXX.out).2 ⟨ht.out, HR.out.1 rfl⟩), HW.out⟩
          case measure => simp [intOf]; omega
        | false =>
          have hvf : v = false := by
            cases v with
            | false => rfl
            | true => have := HR.out.2 (rights_mem HXX.out (HV2.out.1 rfl)); cases this
          subst hvf
          go_wp2_with (go_at_call 22; refine (IH.out x (by omega) _ false _ (HX.out.below (below_new wr _)) HR.out).mono ?_; rintro e w9 ⟨rfl, hw9⟩; have HW := Lib.hid ((br.trans ((below_new wr _).mono br.size)).trans (hw9.mono (by simp; have := br.size; omega))); clear hw9)
          go_ret
          exact ⟨rfl, HW.out⟩
      · obtain rfl : m = kids.length := by omega
        obtain rfl : v = true := HV2.out.2 (by have := ht.out; rwa [List.take_length] at this)
        go_wp2_with fail
        go_ret
        exact ⟨rfl, br⟩
theorem pright_any (n : Nd) (u : Value) (v : Bool) (w : World) (hu : NodeV w u n) (hv : Rgt n v) : Calls Tryz.prog 22 #[u] w fun e w' => e = .returned (.bool v) ∧ Below w.heap.size w w' :=
  prightN_any (nsz n) n (Nat.le_refl _) u v w hu hv
end Go.Proofs.YtdoapojmenojoaaGreatDoor
