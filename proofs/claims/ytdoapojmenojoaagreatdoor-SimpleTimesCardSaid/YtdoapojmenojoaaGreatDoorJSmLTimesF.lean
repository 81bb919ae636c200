import Derived.Test.YtdoapojmenojoaaGreatDoorJSmLBig
set_option linter.unusedSimpArgs false
set_option linter.unusedVariables false
/- SimpleTimes: the walk. -/
set_option linter.unusedVariables false
namespace Go.Proofs.YtdoapojmenojoaaGreatDoor
open Go.RowKit
open Sx (Nd)

theorem TxtIs.cat {ws us vs : List Int} {b c d : Nat} {t q : ByteArray} (h : TxtIs ws b t) (hq : TxtIs us c q) (hv : vs = ws ++ us) (hd : b + c ≤ d) : TxtIs vs d (t ++ q) := (h.app (q := q) (us := us) (c := c) hq.1 hq.2 hv).le hd
theorem txt_bs {ws : List Int} {b : Nat} {t : ByteArray} (h : TxtIs ws b t) (hw : ∀ x ∈ ws, 0 ≤ x ∧ x < 128) : bs ws = t := by
  apply ByteArray.ext
  apply Array.ext'
  show (Rn.cat ws).toArray.toList = _
  rw [List.toList_toArray, h.1, Sx.catT_cat (fun x hx => by have := hw x hx; unfold Rn.rightB; simp; omega)]
theorem tail_small (z : Bool) : ∀ x ∈ Sx.tailT z, 0 ≤ x ∧ x < 128 := by cases z <;> decide
theorem small_app {a b : List Int} (h : ∀ x ∈ a, 0 ≤ x ∧ x < 128) (h' : ∀ x ∈ b, 0 ≤ x ∧ x < 128) : ∀ x ∈ a ++ b, (0 : Int) ≤ x ∧ x < 128 := fun x hx => (List.mem_append.1 hx).elim (h x) (h' x)
theorem opt_small (z : Bool) : ∀ f : Nat, ∀ x ∈ Sx.optT z f, 0 ≤ x ∧ x < 128
  | 0 => fun x h => by cases h
  | 1 => by rw [Sx.optT]; exact small_app (a := [97, 63]) (by decide) (tail_small z)
  | f + 2 => by rw [Sx.optT]; exact small_app (small_app (by decide) (opt_small z (f + 1))) (small_app (a := [41, 63]) (by decide) (tail_small z))
theorem rep_small (m : Nat) : ∀ x ∈ List.replicate m (97 : Int), 0 ≤ x ∧ x < 128 := fun x hx => by rw [(List.mem_replicate.1 hx).2]; decide
theorem end_small (m : Nat) (z : Bool) : ∀ x ∈ Sx.endT m z, 0 ≤ x ∧ x < 128 := by
  unfold Sx.endT
  split
  · exact small_app (a := [97, 42]) (by decide) (tail_small z)
  · exact small_app (rep_small _) (small_app (a := [97, 43]) (by decide) (tail_small z))
theorem tail_is (z : Bool) {t : ByteArray} (h : t = if z then ⟨#[63]⟩ else ⟨#[]⟩) : TxtIs (Sx.tailT z) 1 t := by
  subst h
  cases z
  · exact ⟨by decide +kernel, by decide⟩
  · exact ⟨by decide +kernel, by decide⟩
theorem rep_next (j : Nat) : List.replicate (j + 1) (97 : Int) = List.replicate j 97 ++ [97] := by rw [List.replicate_succ']
theorem opt_next (z : Bool) (f : Nat) (h : f ≠ 0) : Sx.optT z (f + 1) = [40, 63, 58, 97] ++ Sx.optT z f ++ ([41, 63] ++ Sx.tailT z) := by
  match f, h with
  | f + 1, _ => rw [Sx.optT]; rfl
theorem opt_one (z : Bool) : Sx.optT z 1 = [97, 63] ++ Sx.tailT z := by rw [Sx.optT]; rfl
theorem times_of {m n : Nat} (z : Bool) (h : m ≤ n) (hn : n ≤ 20) : OfIs (Sx.rep1 m n z 97) (Sx.rept m n z (Sx.one1 97)) 0 := .inl ⟨Sx.rep1_right z (by decide) (by decide) (by omega) (by omega) (.inr ⟨by omega, by omega⟩), Sx.un_rep1 z 97 (by omega) (by omega) (by omega), rfl⟩
theorem times_more {m : Nat} (z : Bool) (hn : m ≤ 20) : OfIs (Sx.rep1 m (-1) z 97) (Sx.rept m (-1) z (Sx.one1 97)) 0 := .inl ⟨Sx.rep1_right z (by decide) (by decide) (by omega) (by omega) (.inl rfl), Sx.un_rep1 z 97 (by omega) (by omega) (by omega), rfl⟩
theorem rep1_small (a b : Int) (z : Bool) : nsz (Sx.rep1 a b z 97) ≤ 500000 := by simp [Sx.rep1, Sx.one1, Sx.oneN, nsz, nszs]
theorem times_put {m n : Nat} (z : Bool) {b : Nat} {t : ByteArray} (h : m ≤ n) (ht : TxtIs (List.replicate m 97 ++ Sx.optT z (n - m)) b t) : bs (Sx.put (Sx.rept m n z (Sx.one1 97))) = t := by
  rw [Sx.put_rept z h]; exact txt_bs ht (small_app (rep_small _) (opt_small z _))
theorem end_put {m : Nat} (z : Bool) {b : Nat} {t : ByteArray} (ht : TxtIs (Sx.endT m z) b t) : bs (Sx.put (Sx.rept m (-1) z (Sx.one1 97))) = t := by
  rw [Sx.put_endless]; exact txt_bs ht (end_small m z)
theorem txt_nil {z : Bool} {b : Nat} {q : ByteArray} (h : TxtIs (Sx.optT z 0) b q) : q = ⟨#[]⟩ := by
  apply ByteArray.ext
  apply Array.ext'
  exact h.1
theorem txt_more {z : Bool} {b j : Nat} {q : ByteArray} (h : TxtIs (Sx.optT z j) b q) (hj : j ≠ 0) : q.toList.isEmpty = false := by
  have hl : q.data.toList ≠ [] := by
    rw [h.1]
    match j, hj with
    | 1, _ => rw [opt_one]; cases z <;> decide +kernel
    | j + 2, _ => rw [Sx.optT, Sx.catT_app, Sx.catT_app]; intro e; simp only [List.append_eq_nil_iff] at e; exact absurd e.1.1 (by decide +kernel)
  cases hq : q.toList with
  | nil =>
    exfalso; apply hl
    have : q.toList = q.data.toList := by simp [ByteArray.toList_eq]
    rw [← this, hq]
  | cons _ _ => rfl
theorem opt_more {z : Bool} {j : Nat} {q T : ByteArray} (h : TxtIs (Sx.optT z j) (8 * j) q) (hj : j ≠ 0) (hT : TxtIs (Sx.tailT z) 1 T) : TxtIs (Sx.optT z (j + 1)) (8 * (j + 1)) (⟨#[40, 63, 58, 97]⟩ ++ q ++ ⟨#[41, 63]⟩ ++ T) := by
  have h1 : TxtIs [40, 63, 58, 97] 4 (⟨#[40, 63, 58, 97]⟩ : ByteArray) := ⟨by decide +kernel, by decide⟩
  have h2 : TxtIs [41, 63] 2 (⟨#[41, 63]⟩ : ByteArray) := ⟨by decide +kernel, by decide⟩
  exact (((h1.cat h rfl (Nat.le_refl _)).cat h2 rfl (Nat.le_refl _)).cat hT (by rw [opt_next z j hj]; simp only [List.append_assoc]) (by omega))
theorem star_txt {z : Bool} {m : Nat} {T : ByteArray} (hm : m = 0) (hT : TxtIs (Sx.tailT z) 1 T) : TxtIs (Sx.endT m z) 3 (⟨#[97, 42]⟩ ++ T) := by
  have h1 : TxtIs [97, 42] 2 (⟨#[97, 42]⟩ : ByteArray) := ⟨by decide +kernel, by decide⟩
  exact h1.cat hT (by unfold Sx.endT; rw [if_pos hm]; rfl) (by omega)
theorem plus_txt {z : Bool} {m b : Nat} {t T : ByteArray} (hm : 1 ≤ m) (h : TxtIs (List.replicate (m - 1) 97) b t) (hT : TxtIs (Sx.tailT z) 1 T) : TxtIs (Sx.endT m z) (b + 3) (t ++ ⟨#[97, 43]⟩ ++ T) := by
  have h2 : TxtIs [97, 43] 2 (⟨#[97, 43]⟩ : ByteArray) := ⟨by decide +kernel, by decide⟩
  exact (h.cat h2 rfl (Nat.le_refl _)).cat hT (by unfold Sx.endT; rw [if_neg (by omega)]; simp) (by omega)
theorem Lw.set {B0 : Nat} {w0 w : World} (h : Lw B0 w0 w) {a : Addr} (hb : w0.heap.size ≤ a.block) (hB : B0 ≤ a.block) (v : Value) : Lw B0 w0 (w.setCell a v) := ⟨h.errs.below (Below.setCell (Below.refl _ _) hB v), by have := h.lt; simpa [World.setCell] using this, Below.setCell h.bel hb v⟩
theorem tail_no : TxtIs (Sx.tailT false) 1 ⟨#[]⟩ := tail_is false rfl
theorem tail_yes : TxtIs (Sx.tailT true) 1 ⟨#[63]⟩ := tail_is true rfl
theorem of_right {n t : Nd} (h : OfIs n t 0) : Sx.right t := by
  rcases h with ⟨hr, hu, _⟩ | ⟨_, _, _, h⟩ | ⟨_, _, h⟩
  · exact (Sx.un_gd hr hu).right
  · cases h
  · cases h
end Go.Proofs.YtdoapojmenojoaaGreatDoor
