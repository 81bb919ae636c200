import Derived.Test.YtdoapojmenojoaaGreatDoorJCSame
import Derived.Test.YtdoapojmenojoaaGreatDoorJSynM10
import Derived.Test.YtdoapojmenojoaaGreatDoorJCPut
import Derived.Test.YtdoapojmenojoaaGreatDoorJRFirst
import Derived.Test.YtdoapojmenojoaaGreatDoorJSynM8
set_option linter.unusedSimpArgs false
set_option linter.unusedVariables false
section
/- The document's own answer to patterns: how a tree is put: its parts. -/
set_option linter.unusedVariables false
namespace Go.Proofs.YtdoapojmenojoaaGreatDoor
open Go.RowKit
open Sx (Nd)

def bs (l : List Int) : ByteArray := ⟨(Rn.cat l).toArray⟩
theorem bs_app (a b : List Int) : bs (a ++ b) = bs a ++ bs b := by
  apply ByteArray.ext
  simp [bs, Rn.cat_app]
theorem bs_one (r : Int) : bs [r] = Utf8.encode r := by
  apply ByteArray.ext
  simp [bs, Rn.cat]
theorem bs_cons (r : Int) (l : List Int) : bs (r :: l) = Utf8.encode r ++ bs l := by
  rw [← bs_one, ← bs_app]; rfl
theorem bs_nil : bs [] = ⟨#[]⟩ := rfl
/- small runes: their bytes -/
def spl : List Int := [92, 46, 91, 93, 40, 41, 42, 43, 63, 123, 125, 124, 94, 36]
end Go.Proofs.YtdoapojmenojoaaGreatDoor
end

section
/- The document's own answer to patterns: how a class, and how many times, are put. -/
set_option linter.unusedVariables false
namespace Go.Proofs.YtdoapojmenojoaaGreatDoor
open Go.RowKit
open Sx (Nd)

theorem putRs_app : ∀ (a b : List Cl.Rg), Sx.putRs (a ++ b) = Sx.putRs a ++ Sx.putRs b
  | [], b => by rw [List.nil_append, Sx.putRs, List.nil_append]
  | r :: t, b => by rw [List.cons_append, Sx.putRs, Sx.putRs, putRs_app t b]; simp
theorem putRs_take {l : List Cl.Rg} {k : Nat} {a b : Int} (h : l[k]? = some (a, b)) : Sx.putRs (l.take (k + 1)) = Sx.putRs (l.take k) ++ (Sx.mem2 a ++ (if b = a then [] else 45 :: Sx.mem2 b)) := by
  have hi := (List.getElem?_eq_some_iff.1 h).1
  have hv := (List.getElem?_eq_some_iff.1 h).2
  rw [List.take_succ_eq_append_getElem hi, hv, putRs_app, Sx.putRs, Sx.putRs]; simp
theorem putC_pair {a : Int} (h : ¬ [(a, a)] = Sx.dot) : Sx.putC [(a, a)] = if Sx.special a = true then [92, a] else [a] := by
  unfold Sx.putC; rw [if_neg h]; simp
theorem putC_more {l : List Cl.Rg} (h : ¬ l = Sx.dot) (h1 : ¬ ∃ a, l = [(a, a)]) : Sx.putC l = 91 :: Sx.putRs l ++ [93] := by
  unfold Sx.putC; rw [if_neg h]
  match l, h1 with
  | [], _ => rfl
  | [(a, b)], h1 => simp only; rw [if_neg (fun e => h1 ⟨a, by rw [e]⟩)]
  | _ :: _ :: _, _ => rfl
theorem enc_four (r : Int) : (Utf8.encode r).size ≤ 4 := by
  cases h : Rn.rightB r with
  | true =>
    by_cases h1 : r < 128
    · by_cases h0 : 0 ≤ r
      · rw [Rn.enc1 h h0 h1]; simp [ByteArray.size]
      · have := (Rn.right_iff r).1 h; omega
    · by_cases h2 : r < 2048
      · rw [Rn.enc2 h (by omega) h2]; simp [ByteArray.size]
      · by_cases h3 : r < 65536
        · rw [Rn.enc3 h (by omega) h3]; simp [ByteArray.size]
        · rw [Rn.enc4 h (by omega)]; simp [ByteArray.size]
  | false => rw [Rn.enc_bad h]; decide
theorem bs_size : ∀ l : List Int, (bs l).size ≤ 4 * l.length
  | [] => by rw [bs_nil]; decide
  | a :: l => by rw [bs_cons, ByteArray.size_append]; have := enc_four a; have := bs_size l; simp; omega
theorem mem2_len (a : Int) : (Sx.mem2 a).length ≤ 2 := by unfold Sx.mem2; split <;> simp
theorem putRs_len5 : ∀ l : List Cl.Rg, (Sx.putRs l).length ≤ 5 * l.length
  | [] => by rw [Sx.putRs]; simp
  | r :: t => by
    rw [Sx.putRs]
    have := putRs_len5 t; have := mem2_len r.1; have := mem2_len r.2
    simp only [List.length_append, List.length_cons]; split <;> simp <;> omega
end Go.Proofs.YtdoapojmenojoaaGreatDoor
end
