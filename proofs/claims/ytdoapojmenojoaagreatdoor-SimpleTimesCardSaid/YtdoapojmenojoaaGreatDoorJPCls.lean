import Derived.Test.YtdoapojmenojoaaGreatDoorJPar
import Derived.Test.YtdoapojmenojoaaGreatDoorJCCls
import Derived.Test.YtdoapojmenojoaaGreatDoorJCSame
import Derived.Test.YtdoapojmenojoaaGreatDoorJCCls3
import Derived.BigQuiet
import Derived.Test.YtdoapojmenojoaaGreatDoorJRFirst
set_option linter.unusedSimpArgs false
set_option linter.unusedVariables false
section
/- The parser's classes. -/
set_option linter.unusedVariables false
namespace Go.Proofs.YtdoapojmenojoaaGreatDoor
open Go.RowKit

/- a class that a call tells, in memory of its own -/
def Cls (l : List Cl.Rg) (w : World) (e : Ending) (w' : World) : Prop := ∃ q c, e = .returned (.slice q l.length c) ∧ RowS (New w w') w' q l ∧ Ptr q c ∧ Below w.heap.size w w'
theorem mk_cls {ty : TypeId} {l : List Cl.Rg} {w w' : World} {e : Ending} (h : Mk ty l w e w') : Cls l w e w' := by
  obtain ⟨q, c, rfl, h1, h2⟩ := mk_new h
  obtain ⟨q', c', h3, h4, h5⟩ := mk_u h
  simp only [Ending.returned.injEq, Value.slice.injEq, true_and] at h3
  obtain ⟨rfl, rfl⟩ := h3
  exact ⟨q, c, rfl, h1, h4.2, h2⟩
theorem cls_from {l : List Cl.Rg} {w w1 w' : World} {e : Ending} (h : Cls l w1 e w') (hb : Below w.heap.size w w1) : Cls l w e w' := by
  obtain ⟨q, c, he, h1, h2, h3⟩ := h
  exact ⟨q, c, he, h1.mono (fun b hb' => ⟨⟨Nat.le_trans hb.size hb'.1, hb'.2⟩, rfl⟩), h2, bvia hb h3⟩
set_option maxRecDepth 20000 in
set_option maxHeartbeats 2000000 in
theorem single_any (r : Int) (w : World) (h0 : 0 ≤ r) (h1 : r ≤ 1114111) : Calls Tryz.prog 111 #[.int .i32 r] w (Cls [(r, r)] w) := by
  have hof := Cl.of_one (show Cl.may (r, r) from ⟨h0, h1, Int.le_refl _⟩)
  have HO := Lib.hid hof
  clear hof
  go_enter Tryz.func111, Tryz.ntmps111
  go_wp2_with (go_at_call 116; refine (of_any (some ⟨w.heap.size, 0, none⟩) 1 [(r, r)] _ (lv_new w _ _ 1 _ rfl).1 (by simp)).mono ?_; rintro e w1 hm; rw [HO.out] at hm; obtain ⟨q, c, rfl, hq, hpt, hw1⟩ := cls_from (mk_cls hm) (below_new w _); have HQ := Lib.hid (show RowS (New w w1) w1 q [(r, r)] ∧ Ptr q c ∧ Below w.heap.size w w1 from ⟨hq, hpt, hw1⟩); clear hm hq hpt hw1)
  go_ret
  exact ⟨q, c, rfl, HQ.out⟩
def oneB (l : List Cl.Rg) : Bool := match l with | [r] => r.1 == r.2 | _ => false
set_option maxRecDepth 20000 in
set_option maxHeartbeats 2000000 in
theorem sdigits_any (w : World) : Calls Tryz.prog 131 #[] w (Cls [(48, 57)] w) := by
  have HO := Lib.hid (Cl.of_one (show Cl.may (48, 57) from ⟨by decide, by decide, by decide⟩))
  go_enter Tryz.func131, Tryz.ntmps131
  go_wp2_with (go_at_call 116; refine (of_any (some ⟨w.heap.size, 0, none⟩) 1 [(48, 57)] _ (lv_new w _ _ 1 _ rfl).1 (by simp)).mono ?_; rintro e w1 hm; rw [HO.out] at hm; obtain ⟨q, c, rfl, hq, hpt, hw1⟩ := cls_from (mk_cls hm) (below_new w _); have HQ := Lib.hid (show RowS (New w w1) w1 q [(48, 57)] ∧ Ptr q c ∧ Below w.heap.size w w1 from ⟨hq, hpt, hw1⟩); clear hm hq hpt hw1)
  go_ret
  exact ⟨q, c, rfl, HQ.out⟩
set_option maxRecDepth 20000 in
set_option maxHeartbeats 2000000 in
theorem sspaces_any (w : World) : Calls Tryz.prog 133 #[] w (Cls [(9, 10), (13, 13), (32, 32)] w) := by
  have HO := Lib.hid (show Cl.of [(9, 10), (13, 13), (32, 32)] = [(9, 10), (13, 13), (32, 32)] by decide)
  go_enter Tryz.func133, Tryz.ntmps133
  go_wp2_with (go_at_call 116; refine (of_any (some ⟨w.heap.size, 0, none⟩) 3 [(9, 10), (13, 13), (32, 32)] _ (lv_new w _ _ 3 _ rfl).1 (by simp)).mono ?_; rintro e w1 hm; rw [HO.out] at hm; obtain ⟨q, c, rfl, hq, hpt, hw1⟩ := cls_from (mk_cls hm) (below_new w _); have HQ := Lib.hid (show RowS (New w w1) w1 q [(9, 10), (13, 13), (32, 32)] ∧ Ptr q c ∧ Below w.heap.size w w1 from ⟨hq, hpt, hw1⟩); clear hm hq hpt hw1)
  go_ret
  exact ⟨q, c, rfl, HQ.out⟩
set_option maxRecDepth 20000 in
set_option maxHeartbeats 2000000 in
theorem sdot_any (w : World) : Calls Tryz.prog 108 #[] w (Cls Sx.dot w) := by
  have HO := Lib.hid (show Cl.nots [(10, 10)] = Sx.dot from rfl)
  go_enter Tryz.func108, Tryz.ntmps108
  go_wp2_with (first | (go_at_call 111; refine (single_any 10 _ (by decide) (by decide)).mono ?_; rintro e w1 ⟨q, c, rfl, hq, hpt, hw1⟩; have HQ := Lib.hid (show RowP w1 q [(10, 10)] from hq.is (fun b hb => hb.2)); clear hq) | (go_at_call 81; refine (not_any q c [(10, 10)] _ HQ.out (by simp)).mono ?_; rintro e w2 hm; rw [HO.out] at hm; obtain ⟨q2, c2, rfl, hq2, hpt2, hw2⟩ := cls_from (mk_cls hm) hw1; have HR := Lib.hid (show RowS (New w w2) w2 q2 Sx.dot ∧ Ptr q2 c2 ∧ Below w.heap.size w w2 from ⟨hq2, hpt2, hw2⟩); clear hm hq2 hpt2 hw2))
  go_ret
  exact ⟨q2, c2, rfl, HR.out⟩
set_option maxRecDepth 20000 in
set_option maxHeartbeats 2000000 in
theorem isone_not (q : Option Addr) (n c : Nat) (w : World) (hn : decide ((n : Int) = 1) = false) :
    Calls Tryz.prog 117 #[.slice q n c] w fun e w' => e = .returned (.bool false) ∧ ∃ m, w' = w.drewN m := by
  have d2 : ((n : Int) == 1) = false := by simpa using hn
  go_enter Tryz.func117, Tryz.ntmps117
  go_wp2_with fail
  go_quiet (fail)
  go_wp2_with fail
  go_ret
  exact ⟨rfl, nq, rfl⟩
set_option maxRecDepth 20000 in
set_option maxHeartbeats 2000000 in
theorem isone_one (g off c : Nat) (a b : Int) (r : Bool) (w : World) (c1 : w.cell? ⟨g, off, none⟩ = some (.int .i32 a)) (c2 : w.cell? ⟨g, off + 1, none⟩ = some (.int .i32 b)) (hr : (a == b) = r) :
    Calls Tryz.prog 117 #[.slice (some ⟨g, off, none⟩) 1 c] w fun e w' => e = .returned (.bool r) ∧ ∃ m, w' = w.drewN m := by
  have d1 : decide ((1 : Int) = 1) = true := rfl
  have hb : (0 : Int) < ((1 : Nat) : Int) := by decide
  go_enter Tryz.func117, Tryz.ntmps117
  go_wp2_with fail
  go_quiet (fail)
  go_wp2_with fail
  go_ret
  exact ⟨rfl, nq, rfl⟩
theorem isone_any (q : Option Addr) (c : Nat) (l : List Cl.Rg) (w : World) (h : RowP w q l) (r : Bool) (hr : oneB l = r) :
    Calls Tryz.prog 117 #[.slice q l.length c] w fun e w' => e = .returned (.bool r) ∧ ∃ m, w' = w.drewN m := by
  match l, h, hr with
  | [], h, hr => subst hr; exact isone_not q 0 c w rfl
  | [(a, b)], h, hr =>
    obtain ⟨g, off, rfl, hg, c1, c2⟩ := h 0 (a, b) rfl
    simp only [Nat.zero_mul, Nat.add_zero] at c1 c2
    exact isone_one g off c a b r w c1 c2 hr
  | x :: y :: t, h, hr => subst hr; exact isone_not q _ c w (by rw [decide_eq_false_iff_not]; simp; omega)
set_option maxRecDepth 20000 in
set_option maxHeartbeats 2000000 in
theorem smay_any (q : Option Addr) (c : Nat) (l : List Cl.Rg) (w : World) (h : RowP w q l) (hi : RIn l) (hl : l.length ≤ 1000000) (r v : Bool) (hv : Rt l v) (hr : (!l.isEmpty && v) = r) :
    Calls Tryz.prog 93 #[.slice q l.length c] w fun e w' => e = .returned (.bool r) ∧ Below w.heap.size w w' := by
  have HR := Lib.hid hr
  have H := Lib.hid h
  have HV := Lib.hid hv
  have HI := Lib.hid hi
  clear h hr hv hi
  by_cases h0 : (0 : Int) < (l.length : Int)
  · have hr2 : v = r := by rw [← HR.out, show l.isEmpty = false by cases l <;> first | rfl | (simp at h0)]; rfl
    go_enter Tryz.func93, Tryz.ntmps93
    go_wp2_with (go_at_call 124; refine (cright_any q c l v _ H.out HI.out hl HV.out).mono ?_; rintro e w1 ⟨rfl, hw1⟩)
    go_ret
    exact ⟨rfl, hw1⟩
  · obtain rfl : r = false := by
      have he : l.isEmpty = true := by
        cases l with
        | nil => rfl
        | cons x t => exfalso; simp at h0
      rw [← HR.out, he]; rfl
    go_enter Tryz.func93, Tryz.ntmps93
    go_wp2_with fail
    go_ret
    exact ⟨rfl, (by repeat' (first | exact Below.refl _ _ | (refine Below.drew ?_) | (refine bdrewN ?_) | (refine Below.alloc ?_ (by first | omega | (simp <;> omega)) _) | (refine Below.setCell ?_ (by first | omega | (simp <;> omega)) _) | (refine Below.trans ?_ (Below.mono (by assumption) (by first | omega | (simp <;> omega))))))⟩
end Go.Proofs.YtdoapojmenojoaaGreatDoor
end

section
/- What words are made of, as a class: a walk over the runes up to z. -/
set_option linter.unusedVariables false
namespace Go.Proofs.YtdoapojmenojoaaGreatDoor
open Go.RowKit

def wls : Nat → List Cl.Rg
  | 0 => []
  | k + 1 => if Rn.wordB (k : Int) = true then wls k ++ [((k : Int), (k : Int))] else wls k
theorem wls_len : ∀ k, (wls k).length ≤ k
  | 0 => Nat.le_refl _
  | k + 1 => by have := wls_len k; unfold wls; split <;> simp <;> omega
theorem wls_all : Cl.of (wls 123) = [(48, 57), (65, 90), (95, 95), (97, 122)] := by decide +kernel
theorem own_slice_p {w : World} {B : Nat} {ty : TypeId} {v : Value} {l : List Cl.Rg} (h : OwnP w B ty v l) : ∃ q c, v = .slice q l.length c ∧ RowP w q l := by
  obtain ⟨q, c, hv, _, _, hr⟩ := row_q h
  exact ⟨q, c, hv, hr⟩
set_option maxRecDepth 20000 in
set_option maxHeartbeats 4000000 in
theorem swords_any (w : World) : Calls Tryz.prog 132 #[] w (Cls [(48, 57), (65, 90), (95, 95), (97, 122)] w) := by
  have hmf := Lib.hid wls_all
  go_enter Tryz.func132, Tryz.ntmps132
  go_wp2_with fail
  go_loopw [1, 3] (fun v i wr => ∃ k : Nat, k ≤ 123 ∧ i = .int .i32 k ∧ OwnP wr w.heap.size 116 v (wls k) ∧ Below w.heap.size w wr) (fun _ i _ => 123 - (intOf i).toNat)
  case atStart => exact ⟨0, by omega, rfl, World.ownsRow_nil _ _ _ _, Below.refl _ _⟩
  case round =>
    obtain ⟨k, hk, rfl, hown, hbel⟩ := hrel
    have HO := Lib.hid hown
    have hsz := hbel.size
    have hl := wls_len k
    clear hown
    by_cases hlt : (k : Int) < 123
    · cases hw : Rn.wordB (k : Int) with
      | true =>
        have hst : wls (k + 1) = wls k ++ [((k : Int), (k : Int))] := by rw [wls, if_pos hw]
        have HS := Lib.hid hst
        have HW := Lib.hid hw
        clear hst hw
        go_wp2_with (first | (go_at_call 154; refine (word_any (k : Int) _).mono ?_; rintro e w' ⟨rfl, rfl⟩; rw [HW.out]) | (at_builtin; refine append_pair rfl _ _ 25 rfl w.heap.size 116 Tryz.underlying25 Tryz.infoP _ _ (wls k) _ _ rfl (by exact HO.out) rfl ?d1 ?d2 ?_))
        case d1 => omega
        case d2 => exact hsz
        intro v' w' hown' hg'
        have b3 := below_own hbel HO.out (Nat.le_refl _) hsz hg'
        rw [← HS.out] at hown'
        have HO3 := Lib.hid hown'
        clear hown' hg' HO hbel
        go_wp2_with fail
        go_roundw
        case rel => exact ⟨k + 1, by omega, by go_num, HO3.out, b3⟩
        case measure => simp [intOf]; omega
      | false =>
        have hst : wls (k + 1) = wls k := by rw [wls, if_neg (by rw [hw]; decide)]
        have HS := Lib.hid hst
        have HW := Lib.hid hw
        clear hst hw
        go_wp2_with (first | (go_at_call 154; refine (word_any (k : Int) _).mono ?_; rintro e w' ⟨rfl, rfl⟩; rw [HW.out]))
        go_roundw
        case rel => exact ⟨k + 1, by omega, by go_num, by rw [HS.out]; exact HO.out, hbel⟩
        case measure => simp [intOf]; omega
    · obtain rfl : k = 123 := by omega
      obtain ⟨q, c, rfl, hr⟩ := own_slice_p HO.out
      have HR := Lib.hid hr
      clear HO hr
      go_wp2_with (go_at_call 116; refine (of_any q c (wls 123) _ HR.out (by omega)).mono ?_; rintro e w1 hm; rw [hmf.out] at hm; obtain ⟨q2, c2, rfl, hq, hpt, hw1⟩ := cls_from (mk_cls hm) hbel; have HQ := Lib.hid (show RowS (New w w1) w1 q2 [(48, 57), (65, 90), (95, 95), (97, 122)] ∧ Ptr q2 c2 ∧ Below w.heap.size w w1 from ⟨hq, hpt, hw1⟩); clear hm hq hpt hw1)
      go_ret
      exact ⟨q2, c2, rfl, HQ.out⟩
end Go.Proofs.YtdoapojmenojoaaGreatDoor
end
