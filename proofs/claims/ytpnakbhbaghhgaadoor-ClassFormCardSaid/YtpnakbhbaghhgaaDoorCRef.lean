/- The document's own answer to classes: what may be, what has, what is right. -/
import Derived.Test.YtpnakbhbaghhgaaDoorPairs
set_option linter.unusedVariables false
namespace Go.Proofs.YtpnakbhbaghhgaaDoor
open Go.RowKit

def mayB (r : Cl.Rg) : Bool := decide (0 ≤ r.1) && decide (r.2 ≤ 1114111) && decide (r.1 ≤ r.2)
theorem mayB_iff (r : Cl.Rg) : mayB r = true ↔ Cl.may r := by simp [mayB, Cl.may, and_assoc]
theorem mayB_true {r : Cl.Rg} (h : Cl.may r) : mayB r = true := (mayB_iff r).2 h
theorem mayB_false {r : Cl.Rg} (h : ¬ Cl.may r) : mayB r = false := Bool.eq_false_iff.2 (fun k => h ((mayB_iff r).1 k))
theorem rmay_any (a b : Int) (v : Bool) (w : World) (h : mayB (a, b) = v) : Calls Tryd.prog 29 #[.agg #[.int .i32 a, .int .i32 b]] w fun e w' => e = .returned (.bool v) ∧ Below w.heap.size w w' := by
  have HV := Lib.hid h
  clear h
  rcases (show a < 0 ∨ (0 ≤ a ∧ 1114111 < b) ∨ (0 ≤ a ∧ b ≤ 1114111 ∧ b < a) ∨ (0 ≤ a ∧ b ≤ 1114111 ∧ a ≤ b) by omega) with h | ⟨h, h'⟩ | ⟨h, h', h''⟩ | ⟨h, h', h''⟩
  all_goals
    go_enter Tryd.func29, Tryd.ntmps29
    go_wp2_with fail
    go_ret
    refine ⟨ret_bool ?_, (by repeat' (first | exact Below.refl _ _ | (refine Below.drew ?_) | (refine bdrewN ?_) | (refine Below.alloc ?_ (by first | omega | (simp <;> omega)) _) | (refine Below.setCell ?_ (by first | omega | (simp <;> omega)) _) | (refine Below.trans ?_ (Below.mono (by assumption) (by first | omega | (simp <;> omega))))))⟩
    rw [← HV.out]
    unfold mayB
    first
      | (rw [decide_eq_false (by omega : ¬ (0 : Int) ≤ a)]; simp; done)
      | (rw [decide_eq_true h, decide_eq_false (by omega : ¬ b ≤ (1114111 : Int))]; simp; done)
      | (rw [decide_eq_true h, decide_eq_true h', decide_eq_false (by omega : ¬ a ≤ b)]; simp; done)
      | (rw [decide_eq_true h, decide_eq_true h', decide_eq_true h'']; simp; done)
      | (simp; omega)
def hasB (l : List Cl.Rg) (x : Int) : Bool := l.any fun r => decide (r.1 ≤ x) && decide (x ≤ r.2)
theorem hasB_iff (l : List Cl.Rg) (x : Int) : hasB l x = true ↔ Cl.mem l x := by simp [hasB, Cl.mem, Cl.inn]
theorem hasB_step {l : List Cl.Rg} {k : Nat} {r : Cl.Rg} (h : l[k]? = some r) (x : Int) : hasB (l.take (k + 1)) x = (hasB (l.take k) x || (decide (r.1 ≤ x) && decide (x ≤ r.2))) := by
  have hi := (List.getElem?_eq_some_iff.1 h).1
  have hv := (List.getElem?_eq_some_iff.1 h).2
  rw [List.take_succ_eq_append_getElem hi, hv]
  simp [hasB]
theorem hasB_mem {l : List Cl.Rg} {k : Nat} {r : Cl.Rg} (h : l[k]? = some r) {x : Int} (h1 : r.1 ≤ x) (h2 : x ≤ r.2) : hasB l x = true := (hasB_iff l x).2 ⟨r, List.mem_of_getElem? h, h1, h2⟩
def RIn (l : List Cl.Rg) : Prop := ∀ (k : Nat) (r : Cl.Rg), l[k]? = some r → -2147483648 ≤ r.1 ∧ r.1 ≤ 2147483647 ∧ -2147483648 ≤ r.2 ∧ r.2 ≤ 2147483647
set_option maxHeartbeats 1600000 in
theorem rhas_any (p : Option Addr) (cap : Nat) (l : List Cl.Rg) (x : Int) (v : Bool) (w : World) (hp : RowP w p l) (hl : l.length ≤ 281474976710656) (h : hasB l x = v) :
    Calls Tryd.prog 21 #[.slice p l.length cap, .int .i32 x] w fun e w' => e = .returned (.bool v) ∧ Below w.heap.size w w' := by
  have HV := Lib.hid h
  have HP := Lib.hid hp
  clear h hp
  go_enter Tryd.func21, Tryd.ntmps21
  go_wp2_with fail
  go_loopw [5] (fun i wr => ∃ k : Nat, k ≤ l.length ∧ i = .int .i64 (k : Int) ∧ Hid (hasB (l.take k) x = false) ∧ Below w.heap.size w wr) (fun i _ => l.length - (intOf i).toNat)
  case atStart => exact ⟨0, Nat.zero_le _, rfl, Lib.hid rfl, Below.refl _ _⟩
  case round =>
    obtain ⟨k, hk, rfl, hf, br⟩ := hrel
    by_cases hlt : k < l.length
    · obtain ⟨r, hr⟩ : ∃ r, l[k]? = some r := ⟨_, List.getElem?_eq_getElem hlt⟩
      obtain ⟨g, off, rfl, hg, c1, c2⟩ := (HP.out.below br) k r hr
      have hst := Lib.hid (hasB_step hr x)
      have hme := Lib.hid (fun h1 h2 => hasB_mem hr (x := x) h1 h2)
      have hkl : (k : Int) < (l.length : Int) := by omega
      clear hr
      obtain ⟨a, b⟩ := r
      simp only at c1 c2 hst hme
      rcases (show x < a ∨ (a ≤ x ∧ b < x) ∨ (a ≤ x ∧ x ≤ b) by omega) with h | ⟨h, h'⟩ | ⟨h, h'⟩
      · have e1 : hasB (l.take (k + 1)) x = false := by rw [hst.out, hf.out, decide_eq_false (by omega : ¬ a ≤ x)]; rfl
        have E1 := Lib.hid e1
        clear e1
        go_wp2_with fail
        try go_quiet (fail)
        go_wp2_with fail
        go_roundw
        case rel => exact ⟨k + 1, by omega, by go_num, E1, by first | exact br | exact bdrewN br⟩
        case measure => simp [intOf]; omega
      · have e1 : hasB (l.take (k + 1)) x = false := by rw [hst.out, hf.out, decide_eq_false (by omega : ¬ x ≤ b)]; simp
        have E1 := Lib.hid e1
        clear e1
        go_wp2_with fail
        try go_quiet (fail)
        go_wp2_with fail
        go_roundw
        case rel => exact ⟨k + 1, by omega, by go_num, E1, by first | exact br | exact bdrewN br⟩
        case measure => simp [intOf]; omega
      · have e1 := hme.out h h'
        have E1 := Lib.hid e1
        clear e1
        go_wp2_with fail
        try go_quiet (fail)
        go_wp2_with fail
        go_ret
        exact ⟨ret_bool (by rw [← HV.out, E1.out]), by first | exact br | exact bdrewN br⟩
    · obtain rfl : k = l.length := by omega
      have hf' := hf.out
      rw [List.take_length] at hf'
      have HF := Lib.hid hf'
      clear hf'
      go_wp2_with fail
      go_ret
      exact ⟨ret_bool (by rw [← HV.out, HF.out]), br⟩
end Go.Proofs.YtpnakbhbaghhgaaDoor
