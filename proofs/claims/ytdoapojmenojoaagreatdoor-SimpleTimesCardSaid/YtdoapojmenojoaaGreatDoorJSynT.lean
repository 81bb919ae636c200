import Derived.Test.YtdoapojmenojoaaGreatDoorJCSame
import Derived.Test.YtdoapojmenojoaaGreatDoorJSynM10
import Derived.Test.YtdoapojmenojoaaGreatDoorJSynP
import Derived.Test.YtdoapojmenojoaaGreatDoorJSynV
set_option linter.unusedSimpArgs false
set_option linter.unusedVariables false
section
/- The document's own answer to patterns: which trees are right. -/
set_option linter.unusedVariables false
namespace Go.Proofs.YtdoapojmenojoaaGreatDoor
open Go.RowKit
open Sx (Nd)

/- v tells whether it is right -/
def Rgt (n : Nd) (v : Bool) : Prop := v = true ↔ Sx.right n
theorem rgt_some (n : Nd) : ∃ v, Rgt n v := by
  by_cases h : Sx.right n
  · exact ⟨true, by simp [Rgt, h]⟩
  · exact ⟨false, by simp only [Rgt, h]; simp⟩
theorem rights_app : ∀ (a b : List Nd), Sx.rights (a ++ b) ↔ Sx.rights a ∧ Sx.rights b
  | [], b => by rw [List.nil_append, Sx.rights]; simp
  | n :: t, b => by rw [List.cons_append, Sx.rights, Sx.rights, rights_app t b, and_assoc]
theorem rights_take {l : List Nd} {i : Nat} {n : Nd} (h : l[i]? = some n) : Sx.rights (l.take (i + 1)) ↔ Sx.rights (l.take i) ∧ Sx.right n := by
  have hi := (List.getElem?_eq_some_iff.1 h).1
  have hv := (List.getElem?_eq_some_iff.1 h).2
  rw [List.take_succ_eq_append_getElem hi, hv, rights_app, Sx.rights, Sx.rights]; simp
theorem rights_mem : ∀ {l : List Nd} {i : Nat} {n : Nd}, l[i]? = some n → Sx.rights l → Sx.right n
  | [], i, n, h, _ => by simp at h
  | m :: t, 0, n, h, hr => by simp at h; subst h; rw [Sx.rights] at hr; exact hr.1
  | m :: t, i + 1, n, h, hr => by rw [Sx.rights] at hr; exact rights_mem (l := t) (i := i) (by simpa using h) hr.2
end Go.Proofs.YtdoapojmenojoaaGreatDoor
end

section
/- The document's own answer to patterns: how many times; a tree as a text. -/
set_option linter.unusedVariables false
namespace Go.Proofs.YtdoapojmenojoaaGreatDoor
open Go.RowKit
open Sx (Nd)

theorem digits_len (n : Int) : (Sx.digits n).length ≤ 2 := by unfold Sx.digits; split <;> simp
end Go.Proofs.YtdoapojmenojoaaGreatDoor
end

section
/- The document's own answer to patterns: a tree as a text. -/
set_option linter.unusedVariables false
namespace Go.Proofs.YtdoapojmenojoaaGreatDoor
open Go.RowKit
open Sx (Nd)

theorem putKids_app (k : Int) : ∀ (l : List Nd) (b : Bool) (x : Nd), Sx.putKids k b (l ++ [x]) = Sx.putKids k b l ++ ((if k = 7 ∧ (b = false ∨ 0 < l.length) then [124] else []) ++ Sx.wrap (Sx.wraps k x.k) (Sx.put x))
  | [], b, x => by
    rw [List.nil_append, Sx.putKids, Sx.putKids, Sx.putKids]
    simp
  | n :: t, b, x => by
    rw [List.cons_append, Sx.putKids, Sx.putKids, putKids_app k t false x]
    simp
theorem putKids_take {k : Int} {l : List Nd} {m : Nat} {x : Nd} (h : l[m]? = some x) :
    Sx.putKids k true (l.take (m + 1)) = Sx.putKids k true (l.take m) ++ ((if k = 7 ∧ 0 < m then [124] else []) ++ Sx.wrap (Sx.wraps k x.k) (Sx.put x)) := by
  have hi := (List.getElem?_eq_some_iff.1 h).1
  have hv := (List.getElem?_eq_some_iff.1 h).2
  rw [List.take_succ_eq_append_getElem hi, hv, putKids_app, List.length_take, Nat.min_eq_left (by omega)]
  simp
theorem putKids_more (k : Int) : ∀ (l r : List Nd) (b : Bool), ∃ u, Sx.putKids k b (l ++ r) = Sx.putKids k b l ++ u
  | [], r, b => ⟨Sx.putKids k b r, by rw [List.nil_append, Sx.putKids, List.nil_append]⟩
  | n :: t, r, b => by
    obtain ⟨u, hu⟩ := putKids_more k t r false
    exact ⟨u, by rw [List.cons_append, Sx.putKids, Sx.putKids, hu]; simp⟩
theorem putKids_le (k : Int) (l : List Nd) (m : Nat) : (bs (Sx.putKids k true (l.take m))).size ≤ (bs (Sx.putKids k true l)).size := by
  obtain ⟨u, hu⟩ := putKids_more k (l.take m) (l.drop m) true
  rw [List.take_append_drop] at hu
  rw [hu, bs_app, ByteArray.size_append]; omega
theorem wrap_le (b : Bool) (u : List Int) : (bs u).size ≤ (bs (Sx.wrap b u)).size := by
  unfold Sx.wrap
  cases b
  · simp
  · simp only [if_true]
    rw [show 40 :: 63 :: 58 :: u ++ [41] = [40, 63, 58] ++ (u ++ [41]) by simp, bs_app, bs_app, ByteArray.size_append, ByteArray.size_append]; omega
theorem times_size (mn mx : Int) (lz : Bool) : (bs (Sx.times mn mx lz)).size ≤ 1000 := by
  have h1 := bs_size (Sx.times mn mx lz)
  have h2 : (Sx.times mn mx lz).length ≤ 8 := by
    have := digits_len mn; have := digits_len mx
    unfold Sx.times
    rw [List.length_append]
    repeat' split
    all_goals (simp; try omega)
  omega
end Go.Proofs.YtdoapojmenojoaaGreatDoor
end
