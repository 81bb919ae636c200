import Derived.Test.YtdoapojmenojoaaGreatDoorJSynM11
import Derived.Test.YtdoapojmenojoaaGreatDoorJSynM10
import Derived.Test.YtdoapojmenojoaaGreatDoorJSynM12
set_option linter.unusedSimpArgs false
set_option linter.unusedVariables false
section
/- Patterns whose repetitions are unrolled, in plain words. -/
set_option linter.unusedVariables false
namespace Go.Proofs.YtdoapojmenojoaaGreatDoor.Sx
open Go.Proofs.YtdoapojmenojoaaGreatDoor

def choice0 (l : List Nd) : Nd := match l with | [] => empty | l => choice l
def stay (mn mx : Int) : Bool := if mx = -1 then decide (mn ≤ 1) else decide (mn = 0 ∧ mx = 1)
def again (mn mx : Int) (lz : Bool) (k : Nd) : Nd := .mk 8 [] mn mx lz 0 [k]
def perh : Nat → Bool → Nd → Nd
  | 0, _, _ => empty
  | f + 1, lz, k => again 0 1 lz (sequence [k, perh f lz k])
def rept (mn mx : Int) (lz : Bool) (k : Nd) : Nd :=
  if stay mn mx = true then again mn mx lz k
  else if mx = -1 then sequence (List.replicate (mn - 1).toNat k ++ [again 1 (-1) lz k])
  else sequence (List.replicate mn.toNat k ++ [perh (mx - mn).toNat lz k])
def over : Nd → List Nd → Nd
  | .mk k c mn mx lz g l, ks =>
    if k = 6 then sequence ks else if k = 7 then choice0 ks else if k = 9 then .mk k c mn mx lz g ks
    else if k = 8 then (match ks with | [] => empty | x :: _ => rept mn mx lz x) else .mk k c mn mx lz g l
theorem over_mk (k : Int) (c : List Cl.Rg) (mn mx : Int) (lz : Bool) (g : Int) (l ks : List Nd) : over (.mk k c mn mx lz g l) ks =
    if k = 6 then sequence ks else if k = 7 then choice0 ks else if k = 9 then .mk k c mn mx lz g ks
    else if k = 8 then (match ks with | [] => empty | x :: _ => rept mn mx lz x) else .mk k c mn mx lz g l := rfl
mutual
def un : Nd → Option Nd
  | .mk k c mn mx lz g l => match unL l with | none => none | some ks => if nsz (over (.mk k c mn mx lz g l) ks) ≤ 400 then some (over (.mk k c mn mx lz g l) ks) else none
def unL : List Nd → Option (List Nd)
  | [] => some []
  | n :: t => match un n with | none => none | some x => match unL t with | none => none | some xs => some (x :: xs)
end
mutual
def isUn : Nd → Prop
  | .mk k c mn mx lz g l => (k = 8 → stay mn mx = true) ∧ isUnL l
def isUnL : List Nd → Prop
  | [] => True
  | n :: t => isUn n ∧ isUnL t
end
theorem isUnL_iff : ∀ l : List Nd, isUnL l ↔ ∀ n ∈ l, isUn n
  | [] => by rw [isUnL]; exact ⟨(fun _ n h => by cases h), fun _ => trivial⟩
  | n :: t => by
    rw [isUnL, isUnL_iff t]
    constructor
    · rintro ⟨h, ht⟩ m hm
      rcases List.mem_cons.1 hm with rfl | hm
      · exact h
      · exact ht m hm
    · exact fun h => ⟨h n (List.mem_cons_self ..), fun m hm => h m (List.mem_cons_of_mem _ hm)⟩
theorem rights_iff : ∀ l : List Nd, rights l ↔ ∀ n ∈ l, right n
  | [] => by rw [rights]; exact ⟨(fun _ n h => by cases h), fun _ => trivial⟩
  | n :: t => by
    rw [rights, rights_iff t]
    constructor
    · rintro ⟨h, ht⟩ m hm
      rcases List.mem_cons.1 hm with rfl | hm
      · exact h
      · exact ht m hm
    · exact fun h => ⟨h n (List.mem_cons_self ..), fun m hm => h m (List.mem_cons_of_mem _ hm)⟩
theorem unL_len : ∀ {l ks : List Nd}, unL l = some ks → ks.length = l.length
  | [], ks, h => by rw [unL] at h; cases h; rfl
  | n :: t, ks, h => by
    rw [unL] at h
    cases hn : un n with
    | none => rw [hn] at h; cases h
    | some x =>
      rw [hn] at h
      cases ht : unL t with
      | none => rw [ht] at h; cases h
      | some xs => rw [ht] at h; cases h; simp [unL_len ht]
theorem unL_app : ∀ (a b : List Nd), unL (a ++ b) = match unL a with | none => none | some x => match unL b with | none => none | some y => some (x ++ y)
  | [], b => by
    rw [List.nil_append, unL]
    cases unL b <;> rfl
  | n :: t, b => by
    rw [List.cons_append, unL, unL, unL_app t b]
    cases un n with
    | none => rfl
    | some x =>
      cases unL t with
      | none => rfl
      | some xs => cases unL b <;> rfl
theorem unL_take {l : List Nd} {i : Nat} {n : Nd} (h : l[i]? = some n) : unL (l.take (i + 1)) = match unL (l.take i) with | none => none | some x => match un n with | none => none | some y => some (x ++ [y]) := by
  have hi := (List.getElem?_eq_some_iff.1 h).1
  have hv := (List.getElem?_eq_some_iff.1 h).2
  rw [List.take_succ_eq_append_getElem hi, hv, unL_app]
  cases unL (l.take i) with
  | none => rfl
  | some x => simp only [unL]; cases un n <;> rfl
theorem unL_none {l : List Nd} {i : Nat} (h : unL (l.take i) = none) : unL l = none := by
  have := unL_app (l.take i) (l.drop i)
  rw [List.take_append_drop, h] at this
  exact this
theorem unL_some {l ks : List Nd} (i : Nat) (h : unL l = some ks) : unL (l.take i) = some (ks.take i) := by
  have := unL_app (l.take i) (l.drop i)
  rw [List.take_append_drop, h] at this
  cases ha : unL (l.take i) with
  | none => rw [ha] at this; cases this
  | some x =>
    rw [ha] at this
    cases hb : unL (l.drop i) with
    | none => rw [hb] at this; cases this
    | some y =>
      rw [hb] at this
      cases this
      have hx := unL_len ha
      have hy := unL_len hb
      simp only [List.length_take, List.length_drop] at hx hy
      by_cases hi : i ≤ l.length
      · rw [List.take_append_of_le_length (by omega), List.take_of_length_le (by omega)]
      · rw [List.take_of_length_le (by simp; omega), List.eq_nil_of_length_eq_zero (l := y) (by omega), List.append_nil]
theorem un_small {n t : Nd} (h : un n = some t) : nsz t ≤ 400 := by
  obtain ⟨k, c, mn, mx, lz, g, l⟩ := n
  rw [un] at h
  cases hl : unL l with
  | none => rw [hl] at h; cases h
  | some ks =>
    rw [hl] at h
    simp only at h
    split at h
    · next hh => cases h; exact hh
    · cases h
theorem unL_small : ∀ {l ks : List Nd}, unL l = some ks → ∀ x ∈ ks, nsz x ≤ 400
  | [], ks, h, x, hx => by rw [unL] at h; cases h; cases hx
  | n :: t, ks, h, x, hx => by
    rw [unL] at h
    cases hn : un n with
    | none => rw [hn] at h; cases h
    | some y =>
      rw [hn] at h
      cases ht : unL t with
      | none => rw [ht] at h; cases h
      | some xs =>
        rw [ht] at h; cases h
        rcases List.mem_cons.1 hx with rfl | hx
        · exact un_small hn
        · exact unL_small ht x hx
/- what surely stands in what several come to -/
def lo : List Nd → Nat
  | [] => 1
  | n :: t => (nsz n - 1) + lo t
theorem lo_pos : ∀ l : List Nd, 1 ≤ lo l
  | [] => by simp [lo]
  | n :: t => by have := lo_pos t; rw [lo]; omega
theorem lo_app : ∀ (a b : List Nd), lo (a ++ b) + 1 = lo a + lo b
  | [], b => by simp [lo]; omega
  | n :: t, b => by have := lo_app t b; rw [List.cons_append, lo, lo]; omega
theorem lo_len : ∀ l : List Nd, nszs l + 1 = lo l + l.length
  | [] => by simp [lo, nszs]
  | n :: t => by have := lo_len t; have := nsz_pos n; rw [lo, nszs, List.length_cons]; omega
/- of what is right: what is empty has no kids, a row has two -/
theorem right_kids0 {n : Nd} (h : right n) (hk : n.k ≠ 6 ∧ n.k ≠ 7 ∧ n.k ≠ 8 ∧ n.k ≠ 9) : n.kids = [] := by
  obtain ⟨k, c, mn, mx, lz, g, l⟩ := n
  rw [right] at h
  obtain ⟨h1, h2, h3, h4, h5, h6, h7, h8⟩ := h
  simp only [Nd.k] at hk
  rw [if_neg (by omega), if_neg (by omega)] at h8
  exact h8
theorem right_kids2 {n : Nd} (h : right n) (hk : n.k = 6 ∨ n.k = 7) : 2 ≤ n.kids.length := by
  obtain ⟨k, c, mn, mx, lz, g, l⟩ := n
  rw [right] at h
  obtain ⟨h1, h2, h3, h4, h5, h6, h7, h8⟩ := h
  simp only [Nd.k] at hk
  rw [if_pos hk] at h8
  exact h8
theorem right_kids {n : Nd} (h : right n) : rights n.kids := by
  obtain ⟨k, c, mn, mx, lz, g, l⟩ := n
  rw [right] at h
  exact h.1
theorem nsz_kids (n : Nd) : nsz n = 1 + nszs n.kids := by obtain ⟨k, c, mn, mx, lz, g, l⟩ := n; rw [nsz]; rfl
theorem flat6_cons (n : Nd) (t : List Nd) : flat6 (n :: t) = (if n.k = 6 then n.kids else if n.k = 0 then [] else [n]) ++ flat6 t := by simp [flat6]
theorem flat7_cons (n : Nd) (t : List Nd) : flat7 (n :: t) = (if n.k = 7 then n.kids else [n]) ++ flat7 t := by simp [flat7]
theorem flat6_lo : ∀ l : List Nd, (∀ n ∈ l, right n) → lo l ≤ nszs (flat6 l) + 1
  | [], _ => by simp [lo, flat6, nszs]
  | n :: t, h => by
    have ih := flat6_lo t (fun m hm => h m (List.mem_cons_of_mem _ hm))
    have hn := h n (List.mem_cons_self ..)
    rw [flat6_cons, lo, nszs_app]
    have hk := nsz_kids n
    split
    · omega
    · split
      · next h0 => rw [right_kids0 hn (by omega)] at hk; rw [nszs] at hk ⊢; omega
      · rw [nszs, nszs]; omega
theorem flat6_lo0 : ∀ l : List Nd, (∀ n ∈ l, right n) → flat6 l = [] → lo l = 1
  | [], _, _ => rfl
  | n :: t, h, e => by
    have hn := h n (List.mem_cons_self ..)
    rw [flat6_cons] at e
    obtain ⟨e1, e2⟩ := List.append_eq_nil_iff.1 e
    have ih := flat6_lo0 t (fun m hm => h m (List.mem_cons_of_mem _ hm)) e2
    have hk := nsz_kids n
    rw [lo]
    split at e1
    · next h6 => have := right_kids2 hn (.inl h6); rw [e1] at this; simp at this
    · split at e1
      · next h0 => rw [right_kids0 hn (by omega), nszs] at hk; omega
      · cases e1
theorem flat6_lo1 : ∀ l : List Nd, (∀ n ∈ l, right n) → (flat6 l).length = 1 → lo l ≤ nszs (flat6 l)
  | [], _, e => by simp [flat6] at e
  | n :: t, h, e => by
    have hn := h n (List.mem_cons_self ..)
    have ht : ∀ m ∈ t, right m := fun m hm => h m (List.mem_cons_of_mem _ hm)
    have hk := nsz_kids n
    rw [flat6_cons] at e ⊢
    rw [lo, nszs_app]
    split at e
    · next h6 => have := right_kids2 hn (.inl h6); rw [List.length_append] at e; omega
    · next h6 =>
      rw [if_neg h6]
      split at e
      · next h0 =>
        have := flat6_lo1 t ht (by simpa using e)
        rw [right_kids0 hn (by omega)] at hk; rw [if_pos h0]; rw [nszs] at hk ⊢; omega
      · next h0 =>
        have e0 : flat6 t = [] := List.eq_nil_of_length_eq_zero (by simpa using e)
        have := flat6_lo0 t ht e0
        rw [if_neg h0, e0]; simp only [nszs]; omega
theorem sequence_lo {l : List Nd} (h : ∀ n ∈ l, right n) (hl : 400 < lo l) : 400 < nsz (sequence l) := by
  have h1 := flat6_lo l h
  have h2 := flat6_lo0 l h
  have h3 := flat6_lo1 l h
  unfold sequence
  match hf : flat6 l with
  | [] => have := h2 hf; omega
  | [x] => rw [hf] at h3; have := h3 rfl; simp only [nszs] at this; simp only; omega
  | x :: y :: t => rw [hf] at h1; simp only; rw [nsz]; omega
theorem flat7_lo : ∀ l : List Nd, lo l ≤ nszs (flat7 l) + 1
  | [] => by simp [lo, flat7, nszs]
  | n :: t => by
    have ih := flat7_lo t
    have hk := nsz_kids n
    rw [flat7_cons, lo, nszs_app]
    split
    · omega
    · rw [nszs, nszs]; omega
theorem choice0_many {l : List Nd} (h : 2 ≤ l.length) : choice0 l = .mk 7 [] 0 0 false 0 (flat7 l) := by
  match l, h with
  | x :: y :: t, _ => rfl
theorem choice_lo {l : List Nd} (h2 : 2 ≤ l.length) (hl : 400 < lo l) : 400 < nsz (choice0 l) := by
  have := flat7_lo l
  rw [choice0_many h2, nsz]; omega
end Go.Proofs.YtdoapojmenojoaaGreatDoor.Sx
end

section
/- What is unrolled is right, simple and in normal form; what is so is unrolled as it is. -/
set_option linter.unusedVariables false
namespace Go.Proofs.YtdoapojmenojoaaGreatDoor.Sx
open Go.Proofs.YtdoapojmenojoaaGreatDoor

/- rows in rows -/
mutual
def nm : Nd → Prop
  | .mk k c mn mx lz g l => (k = 6 → ∀ m ∈ l, m.k ≠ 0 ∧ m.k ≠ 6) ∧ (k = 7 → ∀ m ∈ l, m.k ≠ 7) ∧ nmL l
def nmL : List Nd → Prop
  | [] => True
  | n :: t => nm n ∧ nmL t
end
theorem nmL_iff : ∀ l : List Nd, nmL l ↔ ∀ n ∈ l, nm n
  | [] => by rw [nmL]; exact ⟨(fun _ n h => by cases h), fun _ => trivial⟩
  | n :: t => by
    rw [nmL, nmL_iff t]
    constructor
    · rintro ⟨h, ht⟩ m hm
      rcases List.mem_cons.1 hm with rfl | hm
      · exact h
      · exact ht m hm
    · exact fun h => ⟨h n (List.mem_cons_self ..), fun m hm => h m (List.mem_cons_of_mem _ hm)⟩
structure Gd (n : Nd) : Prop where
  right : right n
  un : isUn n
  nm : nm n
def GdL (l : List Nd) : Prop := ∀ n ∈ l, Gd n
theorem GdL.app {a b : List Nd} (h : GdL a) (h' : GdL b) : GdL (a ++ b) := fun n hn => (List.mem_append.1 hn).elim (h n) (h' n)
theorem GdL.cons {n : Nd} {t : List Nd} (h : Gd n) (h' : GdL t) : GdL (n :: t) := fun m hm => (List.mem_cons.1 hm).elim (fun e => e ▸ h) (h' m)
theorem GdL.nil : GdL [] := fun n h => by cases h
theorem Gd.kids {n : Nd} (h : Gd n) : GdL n.kids := fun m hm => by
  obtain ⟨k, c, mn, mx, lz, g, l⟩ := n
  obtain ⟨h1, h2, h3⟩ := h
  rw [Sx.right] at h1
  rw [isUn] at h2
  rw [Sx.nm] at h3
  exact ⟨(rights_iff l).1 h1.1 m hm, (isUnL_iff l).1 h2.2 m hm, (nmL_iff l).1 h3.2.2 m hm⟩
theorem Gd.six {n : Nd} (h : Gd n) (hk : n.k = 6) : ∀ m ∈ n.kids, m.k ≠ 0 ∧ m.k ≠ 6 := by
  obtain ⟨k, c, mn, mx, lz, g, l⟩ := n
  have h3 := h.nm
  rw [Sx.nm] at h3
  exact h3.1 hk
theorem Gd.seven {n : Nd} (h : Gd n) (hk : n.k = 7) : ∀ m ∈ n.kids, m.k ≠ 7 := by
  obtain ⟨k, c, mn, mx, lz, g, l⟩ := n
  have h3 := h.nm
  rw [Sx.nm] at h3
  exact h3.2.1 hk
theorem rightP_nil : RightP [] := nf_rightP Cl.nf_nil (by simp)
theorem Gd.empty : Gd Sx.empty := ⟨form_right (.empty 0) (by omega), by rw [Sx.empty, isUn, isUnL]; exact ⟨by simp, trivial⟩, by rw [Sx.empty, Sx.nm, nmL]; exact ⟨by simp, by simp, trivial⟩⟩
theorem right_six {l : List Nd} (h : ∀ n ∈ l, Sx.right n) (h2 : 2 ≤ l.length) : Sx.right (.mk 6 [] 0 0 false 0 l) := by
  rw [Sx.right]
  exact ⟨(rights_iff l).2 h, by decide, by decide, by simp, rightP_nil, by simp, by simp, by simp [h2]⟩
theorem right_seven {l : List Nd} (h : ∀ n ∈ l, Sx.right n) (h2 : 2 ≤ l.length) : Sx.right (.mk 7 [] 0 0 false 0 l) := by
  rw [Sx.right]
  exact ⟨(rights_iff l).2 h, by decide, by decide, by simp, rightP_nil, by simp, by simp, by simp [h2]⟩
theorem right_again {mn mx : Int} (lz : Bool) {k : Nd} (h : Sx.right k) (h0 : 0 ≤ mn) (h1 : mn ≤ 20) (h2 : mx = -1 ∨ mn ≤ mx ∧ mx ≤ 20) : Sx.right (again mn mx lz k) := by
  rw [again, Sx.right, rights, rights]
  exact ⟨⟨h, trivial⟩, by decide, by decide, by simp, rightP_nil, by rw [if_pos rfl]; exact ⟨h0, h1, h2⟩, by simp, by simp⟩
theorem Gd.mk6 {l : List Nd} (h : GdL l) (h2 : 2 ≤ l.length) (hk : ∀ n ∈ l, n.k ≠ 0 ∧ n.k ≠ 6) : Gd (.mk 6 [] 0 0 false 0 l) :=
  ⟨right_six (fun n hn => (h n hn).right) h2, by rw [isUn]; exact ⟨by simp, (isUnL_iff l).2 (fun n hn => (h n hn).un)⟩, by rw [Sx.nm]; exact ⟨fun _ => hk, by simp, (nmL_iff l).2 (fun n hn => (h n hn).nm)⟩⟩
theorem Gd.mk7 {l : List Nd} (h : GdL l) (h2 : 2 ≤ l.length) (hk : ∀ n ∈ l, n.k ≠ 7) : Gd (.mk 7 [] 0 0 false 0 l) :=
  ⟨right_seven (fun n hn => (h n hn).right) h2, by rw [isUn]; exact ⟨by simp, (isUnL_iff l).2 (fun n hn => (h n hn).un)⟩, by rw [Sx.nm]; exact ⟨by simp, fun _ => hk, (nmL_iff l).2 (fun n hn => (h n hn).nm)⟩⟩
theorem Gd.again {mn mx : Int} (lz : Bool) {k : Nd} (h : Gd k) (h0 : 0 ≤ mn) (h1 : mn ≤ 20) (h2 : mx = -1 ∨ mn ≤ mx ∧ mx ≤ 20) (hs : stay mn mx = true) : Gd (Sx.again mn mx lz k) :=
  ⟨right_again lz h.right h0 h1 h2, by rw [Sx.again, isUn, isUnL, isUnL]; exact ⟨fun _ => hs, h.un, trivial⟩, by rw [Sx.again, Sx.nm, nmL, nmL]; exact ⟨by simp, by simp, h.nm, trivial⟩⟩
theorem flat6_gd : ∀ {l : List Nd}, GdL l → GdL (flat6 l) ∧ ∀ n ∈ flat6 l, n.k ≠ 0 ∧ n.k ≠ 6
  | [], _ => ⟨GdL.nil, (fun n h => by cases h)⟩
  | n :: t, h => by
    have ih := flat6_gd (l := t) (fun m hm => h m (List.mem_cons_of_mem _ hm))
    have hn := h n (List.mem_cons_self ..)
    rw [flat6_cons]
    by_cases h6 : n.k = 6
    · rw [if_pos h6]
      exact ⟨hn.kids.app ih.1, fun m hm => (List.mem_append.1 hm).elim (hn.six h6 m) (ih.2 m)⟩
    · rw [if_neg h6]
      by_cases h0 : n.k = 0
      · rw [if_pos h0, List.nil_append]; exact ih
      · rw [if_neg h0]
        exact ⟨GdL.app (GdL.cons hn GdL.nil) ih.1, fun m hm => (List.mem_append.1 hm).elim (fun hm => by simp at hm; subst hm; exact ⟨h0, h6⟩) (ih.2 m)⟩
theorem sequence_gd {l : List Nd} (h : GdL l) : Gd (sequence l) := by
  obtain ⟨h1, h2⟩ := flat6_gd h
  unfold sequence
  match hf : flat6 l with
  | [] => exact Gd.empty
  | [x] => rw [hf] at h1; exact h1 x (List.mem_cons_self ..)
  | x :: y :: t => rw [hf] at h1 h2; exact Gd.mk6 h1 (by simp) h2
theorem flat7_gd : ∀ {l : List Nd}, GdL l → GdL (flat7 l) ∧ (∀ n ∈ flat7 l, n.k ≠ 7) ∧ l.length ≤ (flat7 l).length
  | [], _ => ⟨GdL.nil, (fun n h => by cases h), by simp⟩
  | n :: t, h => by
    have ih := flat7_gd (l := t) (fun m hm => h m (List.mem_cons_of_mem _ hm))
    have hn := h n (List.mem_cons_self ..)
    rw [flat7_cons]
    by_cases h7 : n.k = 7
    · rw [if_pos h7]
      have := right_kids2 hn.right (.inr h7)
      exact ⟨hn.kids.app ih.1, (fun m hm => (List.mem_append.1 hm).elim (hn.seven h7 m) (ih.2.1 m)), by rw [List.length_append, List.length_cons]; omega⟩
    · rw [if_neg h7]
      exact ⟨GdL.app (GdL.cons hn GdL.nil) ih.1, (fun m hm => (List.mem_append.1 hm).elim (fun hm => by simp at hm; subst hm; exact h7) (ih.2.1 m)), by rw [List.length_append, List.length_cons]; simp only [List.length_cons, List.length_nil]; omega⟩
theorem choice0_gd {l : List Nd} (h : GdL l) (h2 : 2 ≤ l.length) : Gd (choice0 l) := by
  obtain ⟨h1, h3, h4⟩ := flat7_gd h
  rw [choice0_many h2]
  exact Gd.mk7 h1 (by omega) h3
theorem perh_gd {k : Nd} (h : Gd k) (lz : Bool) : ∀ f : Nat, Gd (perh f lz k)
  | 0 => Gd.empty
  | f + 1 => by
    rw [perh]
    exact Gd.again lz (sequence_gd (GdL.cons h (GdL.cons (perh_gd h lz f) GdL.nil))) (by decide) (by decide) (.inr ⟨by decide, by decide⟩) (by decide)
theorem rept_gd {mn mx : Int} (lz : Bool) {k : Nd} (h : Gd k) (h0 : 0 ≤ mn) (h1 : mn ≤ 20) (h2 : mx = -1 ∨ mn ≤ mx ∧ mx ≤ 20) : Gd (rept mn mx lz k) := by
  have hr : ∀ m : Nat, GdL (List.replicate m k) := fun m n hn => by rw [(List.mem_replicate.1 hn).2]; exact h
  unfold rept
  split
  · next hs => exact Gd.again lz h h0 h1 h2 hs
  · split
    · exact sequence_gd ((hr _).app (GdL.cons (Gd.again lz h (by decide) (by decide) (.inl rfl) (by decide)) GdL.nil))
    · exact sequence_gd ((hr _).app (GdL.cons (perh_gd h lz _) GdL.nil))
theorem over_gd {n : Nd} {ks : List Nd} (hn : right n) (h : GdL ks) (hl : ks.length = n.kids.length) : Gd (over n ks) := by
  obtain ⟨k, c, mn, mx, lz, g, l⟩ := n
  have hr := hn
  rw [right] at hr
  obtain ⟨r1, r2, r3, r4, r5, r6, r7, r8⟩ := hr
  simp only [Nd.kids] at hl
  rw [over_mk]
  by_cases h6 : k = 6
  · rw [if_pos h6]; exact sequence_gd h
  rw [if_neg h6]
  by_cases h7 : k = 7
  · rw [if_pos h7]; rw [if_pos (.inr h7)] at r8; exact choice0_gd h (by omega)
  rw [if_neg h7]
  by_cases h9 : k = 9
  · rw [if_pos h9]
    rw [if_neg (by omega), if_pos (.inr h9)] at r8
    refine ⟨?_, ?_, ?_⟩
    · rw [right]
      refine ⟨(rights_iff ks).2 (fun m hm => (h m hm).right), r2, r3, r4, r5, r6, r7, ?_⟩
      rw [if_neg (by omega), if_pos (.inr h9)]; omega
    · rw [isUn]; exact ⟨by omega, (isUnL_iff ks).2 (fun m hm => (h m hm).un)⟩
    · rw [nm]; exact ⟨by omega, by omega, (nmL_iff ks).2 (fun m hm => (h m hm).nm)⟩
  rw [if_neg h9]
  by_cases h8 : k = 8
  · rw [if_pos h8]
    rw [if_pos h8] at r6
    match ks, h with
    | [], h => exact Gd.empty
    | x :: t, h => exact rept_gd lz (h x (List.mem_cons_self ..)) r6.1 r6.2.1 r6.2.2
  rw [if_neg h8]
  rw [if_neg (by omega), if_neg (by omega)] at r8
  subst r8
  exact ⟨hn, by rw [isUn, isUnL]; exact ⟨by omega, trivial⟩, by rw [nm, nmL]; exact ⟨by omega, by omega, trivial⟩⟩
mutual
theorem un_gd : ∀ {n t : Nd}, right n → un n = some t → Gd t
  | .mk k c mn mx lz g l, t, hn, h => by
    rw [un] at h
    cases hl : unL l with
    | none => rw [hl] at h; cases h
    | some ks =>
      rw [hl] at h
      simp only at h
      split at h
      · cases h
        exact over_gd hn (unL_gd (by have := hn; rw [right] at this; exact this.1) hl) (unL_len hl)
      · cases h
theorem unL_gd : ∀ {l ks : List Nd}, rights l → unL l = some ks → GdL ks
  | [], ks, _, h => by rw [unL] at h; cases h; exact GdL.nil
  | n :: t, ks, hr, h => by
    rw [unL] at h
    rw [rights] at hr
    cases hn : un n with
    | none => rw [hn] at h; cases h
    | some x =>
      rw [hn] at h
      cases ht : unL t with
      | none => rw [ht] at h; cases h
      | some xs => rw [ht] at h; cases h; exact GdL.cons (un_gd hr.1 hn) (unL_gd hr.2 ht)
end
theorem over_lo {n : Nd} {ks : List Nd} (hn : right n) (h : unL n.kids = some ks) (hl : 400 < lo ks) : 400 < nsz (over n ks) := by
  have hg := unL_gd (right_kids hn) h
  have hr : ∀ m ∈ ks, right m := fun m hm => (hg m hm).right
  have hlen := unL_len h
  have hsm := unL_small h
  obtain ⟨k, c, mn, mx, lz, g, l⟩ := n
  rw [right] at hn
  obtain ⟨r1, r2, r3, r4, r5, r6, r7, r8⟩ := hn
  simp only [Nd.kids] at hlen
  rw [over_mk]
  by_cases h6 : k = 6
  · rw [if_pos h6]; exact sequence_lo hr hl
  rw [if_neg h6]
  by_cases h7 : k = 7
  · rw [if_pos h7]; rw [if_pos (.inr h7)] at r8; exact choice_lo (by omega) hl
  rw [if_neg (by omega)] at r8
  have small : ks.length ≤ 1 := by
    split at r8
    · omega
    · rw [r8] at hlen; rw [hlen]; simp
  match ks, small with
  | [], _ => simp [lo] at hl
  | [x], _ => have := hsm x (List.mem_cons_self ..); have := nsz_pos x; simp only [lo] at hl; omega
theorem un_lo {n : Nd} {ks : List Nd} (hn : right n) (h : unL n.kids = some ks) (hl : 400 < lo ks) : un n = none := by
  have := over_lo hn h hl
  obtain ⟨k, c, mn, mx, lz, g, l⟩ := n
  simp only [Nd.kids] at h
  rw [un, h]
  simp only
  rw [if_neg (by omega)]
/- what is so is told as it is -/
theorem stay_rept {mn mx : Int} {lz : Bool} {k : Nd} (h : stay mn mx = true) : rept mn mx lz k = again mn mx lz k := by unfold rept; rw [if_pos h]
theorem right_eight {k : Int} {c : List Cl.Rg} {mn mx : Int} {lz : Bool} {g : Int} {l : List Nd} (h : right (.mk k c mn mx lz g l)) (hk : k = 8) : ∃ x, l = [x] ∧ c = [] ∧ g = 0 := by
  rw [right] at h
  obtain ⟨r1, r2, r3, r4, r5, r6, r7, r8⟩ := h
  rw [if_neg (by omega), if_pos (.inl hk)] at r8
  rw [if_neg (by omega)] at r7
  refine ⟨l[0], ?_, ?_, r7⟩
  · match l, r8 with
    | [x], _ => rfl
  · by_cases hc : c = []
    · exact hc
    · have := r4.1 hc; omega
theorem right_row {k : Int} {c : List Cl.Rg} {mn mx : Int} {lz : Bool} {g : Int} {l : List Nd} (h : right (.mk k c mn mx lz g l)) (hk : k = 6 ∨ k = 7) : c = [] ∧ mn = 0 ∧ mx = 0 ∧ lz = false ∧ g = 0 := by
  rw [right] at h
  obtain ⟨r1, r2, r3, r4, r5, r6, r7, r8⟩ := h
  rw [if_neg (by omega)] at r6 r7
  refine ⟨?_, r6.1, r6.2.1, r6.2.2, r7⟩
  by_cases hc : c = []
  · exact hc
  · have := r4.1 hc; omega
mutual
theorem un_id : ∀ {n : Nd}, Gd n → nsz n ≤ 400 → un n = some n
  | .mk k c mn mx lz g l, h, hz => by
    have hk := h.kids
    simp only [Nd.kids] at hk
    have hl := unL_id hk (by rw [nsz] at hz; omega)
    have hu := h.un
    rw [isUn] at hu
    have ho : over (.mk k c mn mx lz g l) l = .mk k c mn mx lz g l := by
      rw [over_mk]
      by_cases h6 : k = 6
      · rw [if_pos h6]
        subst h6
        obtain ⟨rfl, rfl, rfl, rfl, rfl⟩ := right_row h.right (.inl rfl)
        exact sequence_id (h.six rfl) (right_kids2 h.right (.inl rfl))
      rw [if_neg h6]
      by_cases h7 : k = 7
      · rw [if_pos h7]
        subst h7
        obtain ⟨rfl, rfl, rfl, rfl, rfl⟩ := right_row h.right (.inr rfl)
        have h2 := right_kids2 h.right (.inr rfl)
        simp only [Nd.kids] at h2
        rw [choice0_many h2, flat7_id (l := l) (h.seven rfl)]
      rw [if_neg h7]
      by_cases h9 : k = 9
      · rw [if_pos h9]
      rw [if_neg h9]
      by_cases h8 : k = 8
      · rw [if_pos h8]
        obtain ⟨x, rfl, rfl, rfl⟩ := right_eight h.right h8
        simp only
        rw [stay_rept (hu.1 h8), again, h8]
      rw [if_neg h8]
    rw [un, hl]
    simp only
    rw [ho, if_pos hz]
theorem unL_id : ∀ {l : List Nd}, GdL l → nszs l ≤ 400 → unL l = some l
  | [], _, _ => by rw [unL]
  | n :: t, h, hz => by
    rw [nszs] at hz
    rw [unL, un_id (h n (List.mem_cons_self ..)) (by omega), unL_id (fun m hm => h m (List.mem_cons_of_mem _ hm)) (by omega)]
end
theorem un_again {n t : Nd} (hn : right n) (h : un n = some t) : un t = some t := un_id (un_gd hn h) (un_small h)
/- what was parsed, of stars, plusses and opts alone -/
mutual
theorem form_nm : ∀ {g g' : Int} {n : Nd}, Form g n g' → nm n
  | _, _, _, .empty g => by rw [empty, nm, nmL]; exact ⟨by simp, by simp, trivial⟩
  | _, _, _, .one g c _ _ _ => by rw [oneN, nm, nmL]; exact ⟨by simp, by simp, trivial⟩
  | _, _, _, .mark g k hk => by unfold isMark at hk; rw [mark, nm, nmL]; exact ⟨by omega, by omega, trivial⟩
  | _, _, _, .cat h _ hk => by rw [nm]; exact ⟨fun _ => hk, by simp, forms_nm h⟩
  | _, _, _, .alt h _ hk => by rw [nm]; exact ⟨by simp, fun _ => hk, forms_nm h⟩
  | _, _, _, .rep mn mx lz h _ _ _ => by rw [nm, nmL, nmL]; exact ⟨by simp, by simp, form_nm h, trivial⟩
  | _, _, _, .grp hg h => by rw [nm, nmL, nmL]; exact ⟨by simp, by simp, form_nm h, trivial⟩
theorem forms_nm : ∀ {g g' : Int} {l : List Nd}, Forms g l g' → nmL l
  | _, _, _, .nil g => by rw [nmL]; trivial
  | _, _, _, .cons h hl => by rw [nmL]; exact ⟨form_nm h, forms_nm hl⟩
end
end Go.Proofs.YtdoapojmenojoaaGreatDoor.Sx
end

section
/- What the laws of unrolling ask, in plain words. -/
set_option linter.unusedVariables false
namespace Go.Proofs.YtdoapojmenojoaaGreatDoor.Sx
open Go.Proofs.YtdoapojmenojoaaGreatDoor

theorem un_one1 (r : Int) : un (one1 r) = some (one1 r) := by simp [one1, oneN, un, unL, over, nsz, nszs]
theorem flat6_app (a b : List Nd) : flat6 (a ++ b) = flat6 a ++ flat6 b := by simp [flat6]
theorem flat7_app (a b : List Nd) : flat7 (a ++ b) = flat7 a ++ flat7 b := by simp [flat7]
theorem flat6_empty : flat6 [empty] = [] := rfl
theorem sequence_of {a b : List Nd} (h : flat6 a = flat6 b) : sequence a = sequence b := by unfold sequence; rw [h]
theorem ones_rep (r : Int) (m : Nat) : ∀ n ∈ List.replicate m (one1 r), n.k ≠ 0 ∧ n.k ≠ 6 := fun n hn => by rw [(List.mem_replicate.1 hn).2]; exact ⟨(fun e => by cases e), (fun e => by cases e)⟩
theorem nszs_rep (n : Nd) : ∀ m : Nat, nszs (List.replicate m n) = m * nsz n
  | 0 => by simp [nszs]
  | m + 1 => by rw [List.replicate_succ, nszs, nszs_rep n m, Nat.succ_mul]; omega
/- so often, and no more -/
def row6 (m : Nat) (r : Int) : Nd := .mk 6 [] 0 0 false 0 (List.replicate m (one1 r))
theorem row6_size (m : Nat) (r : Int) : nsz (row6 m r) = 1 + m := by rw [row6, nsz, nszs_rep]; simp [one1, oneN, nsz, nszs]
theorem rept_same {n : Nat} (h : 2 ≤ n) (k : Nd) : rept n n false k = sequence (List.replicate n k) := by
  unfold rept
  rw [if_neg (by unfold stay; rw [if_neg (by omega), decide_eq_true_iff]; omega), if_neg (by omega)]
  rw [show ((n : Int) - (n : Int)).toNat = 0 by omega, perh, show ((n : Int)).toNat = n by omega]
  exact sequence_of (by rw [flat6_app, flat6_empty, List.append_nil])
theorem rept_one {n : Nat} (h : 2 ≤ n) (r : Int) : rept n n false (one1 r) = row6 n r := by
  rw [rept_same h, sequence_id (ones_rep r n) (by simp [h])]; rfl
theorem flat6_rows (n : Nat) (r : Int) : ∀ m : Nat, flat6 (List.replicate m (row6 n r)) = List.replicate (n * m) (one1 r)
  | 0 => rfl
  | m + 1 => by
    rw [List.replicate_succ, flat6_cons, flat6_rows n r m, if_pos (show (row6 n r).k = 6 from rfl)]
    simp only [row6, Nd.kids]
    rw [List.replicate_append_replicate, Nat.mul_succ, Nat.add_comm]
theorem rept_row {n m : Nat} (h : 2 ≤ n) (h' : 2 ≤ m) (r : Int) : rept m m false (row6 n r) = row6 (n * m) r := by
  rw [rept_same h']
  unfold sequence
  rw [flat6_rows]
  have h4 : 4 ≤ n * m := Nat.mul_le_mul h h'
  match hf : List.replicate (n * m) (one1 r) with
  | [] => have := congrArg List.length hf; simp at this; omega
  | [x] => have := congrArg List.length hf; simp at this; omega
  | x :: y :: t => simp only; rw [← hf]; rfl
def bigX (n : Nat) (r : Int) : Nd := .mk 8 [] n n false 0 [one1 r]
def bigY (n m : Nat) (r : Int) : Nd := .mk 8 [] m m false 0 [bigX n r]
def bigZ (n m : Nat) (r : Int) : Nd := .mk 8 [] 0 0 false 0 [bigY n m r]
theorem one1_right {r : Int} (h0 : 0 ≤ r) (h1 : r ≤ 1114111) : right (one1 r) := form_right (one1_form h0 h1 0) (by decide)
theorem bigX_right {n : Nat} {r : Int} (h0 : 0 ≤ r) (h1 : r ≤ 1114111) (h : n ≤ 20) : right (bigX n r) := right_again false (one1_right h0 h1) (by omega) (by omega) (.inr ⟨by omega, by omega⟩)
theorem bigY_right {n m : Nat} {r : Int} (h0 : 0 ≤ r) (h1 : r ≤ 1114111) (h : n ≤ 20) (h' : m ≤ 20) : right (bigY n m r) := right_again false (bigX_right h0 h1 h) (by omega) (by omega) (.inr ⟨by omega, by omega⟩)
theorem bigZ_right {n m : Nat} {r : Int} (h0 : 0 ≤ r) (h1 : r ≤ 1114111) (h : n ≤ 20) (h' : m ≤ 20) : right (bigZ n m r) := right_again false (bigY_right h0 h1 h h') (by omega) (by omega) (.inr ⟨by omega, by omega⟩)
theorem un_eight {mn mx : Int} {lz : Bool} {x y : Nd} (h : un x = some y) : un (.mk 8 [] mn mx lz 0 [x]) = if nsz (rept mn mx lz y) ≤ 400 then some (rept mn mx lz y) else none := by
  have hl : unL [x] = some [y] := by rw [unL, h, unL]
  rw [un, hl]
  rfl
theorem un_bigX {n : Nat} (h : 2 ≤ n) (h' : n ≤ 20) (r : Int) : un (bigX n r) = some (row6 n r) := by
  rw [bigX, un_eight (un_one1 r), rept_one h, if_pos (by rw [row6_size]; omega)]
theorem un_bigY {n m : Nat} (h : 2 ≤ n) (h' : n ≤ 20) (k : 2 ≤ m) (r : Int) : un (bigY n m r) = if n * m + 1 ≤ 400 then some (row6 (n * m) r) else none := by
  rw [bigY, un_eight (un_bigX h h' r), rept_row h k, row6_size]
  rw [Nat.add_comm]
theorem un_bigZ {n m : Nat} (h : 2 ≤ n) (h' : n ≤ 20) (k : 2 ≤ m) (r : Int) : un (bigZ n m r) = if n * m + 1 ≤ 400 then some empty else none := by
  by_cases hb : n * m + 1 ≤ 400
  · rw [if_pos hb, bigZ, un_eight (y := row6 (n * m) r) (by rw [un_bigY h h' k, if_pos hb])]
    rfl
  · rw [if_neg hb, bigZ, un, unL, un_bigY h h' k, if_neg hb]
/- each within the one ahead -/
def tailT (lz : Bool) : List Int := if lz then [63] else []
def optT (lz : Bool) : Nat → List Int
  | 0 => []
  | 1 => 97 :: 63 :: tailT lz
  | f + 2 => [40, 63, 58, 97] ++ optT lz (f + 1) ++ (41 :: 63 :: tailT lz)
theorem put_a : put (one1 97) = [97] := by rw [put_one1]; rfl
theorem times_opt (lz : Bool) : times 0 1 lz = 63 :: tailT lz := by cases lz <;> rfl
theorem put_again (mn mx : Int) (lz : Bool) (k : Nd) : put (again mn mx lz k) = wrap (wraps 8 k.k) (put k) ++ times mn mx lz := by
  rw [again, put, if_neg (by decide), if_neg (by decide), if_neg (by decide), if_neg (by decide), if_neg (by decide), if_pos rfl, putKids, putKids, if_neg (by simp), List.nil_append, List.append_nil]
theorem perh_kind (f : Nat) (lz : Bool) (k : Nd) : (perh (f + 1) lz k).k = 8 := by rw [perh, again]; rfl
theorem put_perh (lz : Bool) : ∀ f : Nat, put (perh f lz (one1 97)) = optT lz f
  | 0 => by rw [perh, empty, put, optT]; rfl
  | 1 => by
    rw [perh, perh, show sequence [one1 97, empty] = one1 97 from rfl, put_again, show wraps 8 (one1 97).k = false from rfl, wrap, put_a, times_opt, optT]; rfl
  | f + 2 => by
    have hk := perh_kind f lz (one1 97)
    have hs : sequence [one1 97, perh (f + 1) lz (one1 97)] = .mk 6 [] 0 0 false 0 [one1 97, perh (f + 1) lz (one1 97)] := sequence_id (by
      intro n hn
      simp only [List.mem_cons, List.not_mem_nil, or_false] at hn
      rcases hn with rfl | rfl
      · exact ⟨by decide, by decide⟩
      · exact ⟨by omega, by omega⟩) (by simp)
    have hp : put (.mk 6 [] 0 0 false 0 [one1 97, perh (f + 1) lz (one1 97)]) = 97 :: optT lz (f + 1) := by
      rw [put, if_neg (by decide), if_neg (by decide), if_neg (by decide), if_neg (by decide), if_neg (by decide), if_neg (by decide), if_neg (by decide), putKids6, putKids6, hk, put_perh lz (f + 1), put_a]
      rw [show wraps 6 (one1 97).k = false from rfl, show wraps 6 8 = false from rfl]
      simp [wrap, putKids]
    rw [perh, hs, put_again, hp, show wraps 8 (Nd.mk 6 [] 0 0 false 0 [one1 97, perh (f + 1) lz (one1 97)]).k = true from rfl, times_opt, optT, wrap]
    simp
theorem ones_plain1 (m : Nat) : Plain (List.replicate m (one1 97)) := fun n hn => by rw [(List.mem_replicate.1 hn).2]; exact ⟨by decide, by decide, by decide⟩
theorem ones_put1 : ∀ m : Nat, (List.replicate m (one1 97)).flatMap put = List.replicate m 97
  | 0 => rfl
  | m + 1 => by rw [List.replicate_succ, List.flatMap_cons, ones_put1 m, put_a]; rfl
theorem put_seq_end (m : Nat) {k : Nd} (hk : k.k = 8) : put (sequence (List.replicate m (one1 97) ++ [k])) = List.replicate m 97 ++ put k := by
  rw [put_seq ((ones_plain1 m).app (fun n hn => by simp at hn; subst hn; exact ⟨by omega, by omega, by omega⟩)), List.flatMap_append, ones_put1]; simp
theorem put_rept {m n : Nat} (lz : Bool) (h : m ≤ n) : put (rept m n lz (one1 97)) = List.replicate m 97 ++ optT lz (n - m) := by
  unfold rept
  by_cases hs : stay m n = true
  · rw [if_pos hs]
    unfold stay at hs
    rw [if_neg (by omega), decide_eq_true_iff] at hs
    obtain rfl : m = 0 := by omega
    obtain rfl : n = 1 := by omega
    rw [put_again, show wraps 8 (one1 97).k = false from rfl, wrap, put_a]
    show [97] ++ times 0 1 lz = _
    rw [times_opt]; rfl
  · rw [if_neg hs, if_neg (by omega), show ((m : Int)).toNat = m by omega, show ((n : Int) - (m : Int)).toNat = n - m by omega]
    cases hf : n - m with
    | zero =>
      rw [perh, sequence_of (b := List.replicate m (one1 97)) (by rw [flat6_app, flat6_empty, List.append_nil]), put_seq (ones_plain1 m), ones_put1, optT, List.append_nil]
    | succ f => rw [put_seq_end m (perh_kind f lz _), put_perh]
def endT (m : Nat) (lz : Bool) : List Int := if m = 0 then 97 :: 42 :: tailT lz else List.replicate (m - 1) 97 ++ (97 :: 43 :: tailT lz)
theorem times_plus (lz : Bool) : times 1 (-1) lz = 43 :: tailT lz := by cases lz <;> rfl
theorem times_star (lz : Bool) : times 0 (-1) lz = 42 :: tailT lz := by cases lz <;> rfl
theorem put_endless (m : Nat) (lz : Bool) : put (rept m (-1) lz (one1 97)) = endT m lz := by
  unfold rept
  by_cases hs : stay m (-1) = true
  · rw [if_pos hs]
    unfold stay at hs
    rw [if_pos rfl, decide_eq_true_iff] at hs
    rcases (show m = 0 ∨ m = 1 by omega) with rfl | rfl
    · rw [put_again, show wraps 8 (one1 97).k = false from rfl, wrap, put_a]
      show [97] ++ times 0 (-1) lz = _
      rw [times_star]; rfl
    · rw [put_again, show wraps 8 (one1 97).k = false from rfl, wrap, put_a]
      show [97] ++ times 1 (-1) lz = _
      rw [times_plus]; rfl
  · rw [if_neg hs, if_pos rfl]
    have hm : 2 ≤ m := by
      unfold stay at hs
      rw [if_pos rfl, decide_eq_true_iff] at hs; omega
    rw [put_seq_end _ (by rfl), put_again, show wraps 8 (one1 97).k = false from rfl, wrap, put_a, times_plus, endT, show ((m : Int) - 1).toNat = m - 1 by omega]
    rw [if_neg (show ¬ m = 0 by omega)]; rfl
theorem perh_size (lz : Bool) (r : Int) : ∀ f : Nat, nsz (perh f lz (one1 r)) ≤ 3 * f + 1
  | 0 => by simp [perh, empty, nsz, nszs]
  | f + 1 => by
    have h1 := sequence_size [one1 r, perh f lz (one1 r)]
    have h2 := perh_size lz r f
    rw [perh, again, nsz, nszs, nszs]
    rw [nszs, nszs, nszs] at h1
    have : nsz (one1 r) = 1 := by simp [one1, oneN, nsz, nszs]
    omega
theorem rept_size {mn mx : Int} (lz : Bool) (r : Int) (h1 : mn ≤ 20) (h2 : mx ≤ 20) (h0 : 0 ≤ mn) : nsz (rept mn mx lz (one1 r)) ≤ 400 := by
  have ho : nsz (one1 r) = 1 := by simp [one1, oneN, nsz, nszs]
  unfold rept
  split
  · rw [again, nsz, nszs, nszs]; omega
  · split
    · have := sequence_size (List.replicate (mn - 1).toNat (one1 r) ++ [again 1 (-1) lz (one1 r)])
      rw [nszs_app, nszs_rep, nszs, nszs, again, nsz, nszs, nszs] at this
      rw [ho] at this
      rw [again]; omega
    · have := sequence_size (List.replicate mn.toNat (one1 r) ++ [perh (mx - mn).toNat lz (one1 r)])
      have hp := perh_size lz r (mx - mn).toNat
      rw [nszs_app, nszs_rep, nszs, nszs, ho] at this
      omega
theorem un_rep1 {mn mx : Int} (lz : Bool) (r : Int) (h1 : mn ≤ 20) (h2 : mx ≤ 20) (h0 : 0 ≤ mn) : un (rep1 mn mx lz r) = some (rept mn mx lz (one1 r)) := by
  rw [rep1, un_eight (un_one1 r), if_pos (rept_size lz r h1 h2 h0)]
theorem rep1_right {mn mx : Int} (lz : Bool) {r : Int} (hr : 0 ≤ r) (hr' : r ≤ 1114111) (h0 : 0 ≤ mn) (h1 : mn ≤ 20) (h2 : mx = -1 ∨ mn ≤ mx ∧ mx ≤ 20) : right (rep1 mn mx lz r) := right_again lz (one1_right hr hr') h0 h1 h2
/- rows cut in two -/
theorem flat6_seq {l : List Nd} (h : ∀ n ∈ flat6 l, n.k ≠ 0 ∧ n.k ≠ 6) : flat6 [sequence l] = flat6 l := by
  unfold sequence
  match hf : flat6 l, h with
  | [], _ => rfl
  | [x], h => exact flat6_id h
  | x :: y :: t, _ => simp only; rw [flat6_cons, if_pos (show (Nd.mk 6 [] 0 0 false 0 (x :: y :: t)).k = 6 from rfl)]; exact List.append_nil _
theorem seq_cut {a b : List Nd} (h : ∀ n ∈ flat6 (a ++ b), n.k ≠ 0 ∧ n.k ≠ 6) : sequence [sequence a, empty, sequence b] = sequence (a ++ b) := by
  rw [flat6_app] at h
  apply sequence_of
  have h1 := flat6_seq (l := a) (fun n hn => h n (List.mem_append.2 (.inl hn)))
  have h2 := flat6_seq (l := b) (fun n hn => h n (List.mem_append.2 (.inr hn)))
  rw [show [sequence a, empty, sequence b] = [sequence a] ++ ([empty] ++ [sequence b]) from rfl, flat6_app, flat6_app, h1, h2, flat6_empty, List.nil_append, flat6_app]
theorem choice_cut {a b : List Nd} (h : ∀ n ∈ a ++ b, n.k ≠ 7) (hb : b ≠ []) : choice0 (a ++ [choice0 b]) = choice0 (a ++ b) := by
  have ha : ∀ n ∈ a, n.k ≠ 7 := fun n hn => h n (List.mem_append.2 (.inl hn))
  have hb7 : ∀ n ∈ b, n.k ≠ 7 := fun n hn => h n (List.mem_append.2 (.inr hn))
  match b, hb, hb7 with
  | [x], _, _ => rfl
  | x :: y :: t, _, hb7 =>
    have e1 : choice0 (x :: y :: t) = .mk 7 [] 0 0 false 0 (x :: y :: t) := by rw [choice0_many (by simp), flat7_id hb7]
    rw [e1]
    match a, ha with
    | [], _ => rw [List.nil_append, List.nil_append, e1]; rfl
    | z :: u, ha =>
      rw [choice0_many (by simp), choice0_many (by simp; omega), flat7_app, flat7_app, flat7_id ha, flat7_id hb7, flat7_cons, if_pos (show (Nd.mk 7 [] 0 0 false 0 (x :: y :: t)).k = 7 from rfl)]
      congr 1
      show z :: u ++ ((x :: y :: t) ++ []) = _
      rw [List.append_nil]
theorem choice_cut0 {b : List Nd} (h : ∀ n ∈ b, n.k ≠ 7) : choice0 ([] ++ [choice0 b]) = choice0 b := rfl
end Go.Proofs.YtdoapojmenojoaaGreatDoor.Sx
end

section
/- The chapter's examples of unrolling, in plain words. -/
set_option linter.unusedVariables false
namespace Go.Proofs.YtdoapojmenojoaaGreatDoor.Sx
open Go.Proofs.YtdoapojmenojoaaGreatDoor
open Rn

/- a{2,4}(b{3,})?c{0} -/
abbrev smT1 : ByteArray := ⟨#[97, 123, 50, 44, 52, 125, 40, 98, 123, 51, 44, 125, 41, 63, 99, 123, 48, 125]⟩
/- ((a{20}){20}){2} -/
abbrev smT2 : ByteArray := ⟨#[40, 40, 97, 123, 50, 48, 125, 41, 123, 50, 48, 125, 41, 123, 50, 125]⟩
/- aa(?:aa?)?(bbb+)? -/
abbrev smT3 : ByteArray := ⟨#[97, 97, 40, 63, 58, 97, 97, 63, 41, 63, 40, 98, 98, 98, 43, 41, 63]⟩
def smN1 : Nd := .mk 6 [] 0 0 false 0 [rep1 2 4 false 97, .mk 8 [] 0 1 false 0 [.mk 9 [] 0 0 false 1 [rep1 3 (-1) false 98]], rep1 0 0 false 99]
def smN2 : Nd := .mk 8 [] 2 2 false 0 [.mk 9 [] 0 0 false 1 [.mk 8 [] 20 20 false 0 [.mk 9 [] 0 0 false 2 [rep1 20 20 false 97]]]]
def smM1 : Nd := .mk 6 [] 0 0 false 0 [one1 97, one1 97, again 0 1 false (.mk 6 [] 0 0 false 0 [one1 97, again 0 1 false (one1 97)]), again 0 1 false (.mk 9 [] 0 0 false 1 [.mk 6 [] 0 0 false 0 [one1 98, one1 98, again 1 (-1) false (one1 98)]])]
theorem sm1_form : Form 0 smN1 1 := by
  refine .cat (.cons (rep1_form false (by decide) (by decide) (.inr ⟨by decide, by decide⟩) (by decide) (by decide)) (.cons (.rep 0 1 false (.grp (g := 0) (by decide) (rep1_form false (by decide) (by decide) (.inl rfl) (by decide) (by decide))) (by decide) (by decide) (.inr ⟨by decide, by decide⟩)) (.cons (rep1_form false (by decide) (by decide) (.inr ⟨by decide, by decide⟩) (by decide) (by decide)) (.nil 1)))) (by decide) ?_
  intro n hn
  simp only [List.mem_cons, List.not_mem_nil, or_false] at hn
  rcases hn with rfl | rfl | rfl <;> exact ⟨by decide, by decide⟩
theorem sm2_form : Form 0 smN2 2 :=
  .rep 2 2 false (.grp (g := 0) (by decide) (.rep 20 20 false (.grp (g := 1) (by decide) (rep1_form false (by decide) (by decide) (.inr ⟨by decide, by decide⟩) (by decide) (by decide))) (by decide) (by decide) (.inr ⟨by decide, by decide⟩))) (by decide) (by decide) (.inr ⟨by decide, by decide⟩)
theorem sm1_toks : toks smT1 = put smN1 := by decide +kernel
theorem sm2_toks : toks smT2 = put smN2 := by decide +kernel
theorem sm1 : Parsed smT1 smN1 18 0 := by
  refine .ok smN1 1 (by decide) ?_
  rw [sm1_toks]
  exact put_parsed sm1_form
theorem sm2 : Parsed smT2 smN2 16 0 := by
  refine .ok smN2 2 (by decide) ?_
  rw [sm2_toks]
  exact put_parsed sm2_form
theorem sm1_right : right smN1 := form_right sm1_form (by decide)
theorem sm2_right : right smN2 := form_right sm2_form (by decide)
theorem sm_rep (n : Nat) (h : 2 ≤ n) (r : Int) : rept n n false (one1 r) = row6 n r := rept_one h r
theorem un_rep {mn mx : Int} {lz : Bool} {r : Int} (t : Nd) (h1 : mn ≤ 20) (h2 : mx ≤ 20) (h0 : 0 ≤ mn) (e : rept mn mx lz (one1 r) = t) : un (rep1 mn mx lz r) = some t := by rw [un_rep1 lz r h1 h2 h0, e]
theorem un_row {k : Int} {c : List Cl.Rg} {mn mx : Int} {lz : Bool} {g : Int} {l ks : List Nd} {t : Nd} (h : unL l = some ks) (e : over (.mk k c mn mx lz g l) ks = t) (hz : nsz t ≤ 400) : un (.mk k c mn mx lz g l) = some t := by
  rw [un, h]
  simp only
  rw [e, if_pos hz]
theorem unL_two {n : Nd} {t ks : List Nd} {x : Nd} (h : un n = some x) (h' : unL t = some ks) : unL (n :: t) = some (x :: ks) := by rw [unL, h, h']
theorem unL_nil : unL [] = some [] := by rw [unL]
theorem sm1_un : un smN1 = some smM1 := by
  have a1 : un (rep1 2 4 false 97) = some (.mk 6 [] 0 0 false 0 [one1 97, one1 97, again 0 1 false (.mk 6 [] 0 0 false 0 [one1 97, again 0 1 false (one1 97)])]) := un_rep _ (by decide) (by decide) (by decide) rfl
  have a2 : un (rep1 3 (-1) false 98) = some (.mk 6 [] 0 0 false 0 [one1 98, one1 98, again 1 (-1) false (one1 98)]) := un_rep _ (by decide) (by decide) (by decide) rfl
  have a3 : un (rep1 0 0 false 99) = some empty := un_rep _ (by decide) (by decide) (by decide) rfl
  have a4 : un (.mk 9 [] 0 0 false 1 [rep1 3 (-1) false 98]) = some (.mk 9 [] 0 0 false 1 [.mk 6 [] 0 0 false 0 [one1 98, one1 98, again 1 (-1) false (one1 98)]]) := un_row (unL_two a2 unL_nil) rfl (by decide)
  have a5 := un_row (k := 8) (c := []) (mn := 0) (mx := 1) (lz := false) (g := 0) (unL_two a4 unL_nil) rfl (by decide)
  exact un_row (unL_two a1 (unL_two a5 (unL_two a3 unL_nil))) rfl (by decide)
theorem sm2_un : un smN2 = none := by
  have a1 : un (rep1 20 20 false 97) = some (row6 20 97) := un_rep _ (by decide) (by decide) (by decide) (rept_one (n := 20) (by decide) 97)
  have a2 : un (.mk 9 [] 0 0 false 2 [rep1 20 20 false 97]) = some (.mk 9 [] 0 0 false 2 [row6 20 97]) := un_row (unL_two a1 unL_nil) rfl (by decide)
  have a3 : un (.mk 8 [] 20 20 false 0 [.mk 9 [] 0 0 false 2 [rep1 20 20 false 97]]) = none := by
    rw [un_eight a2, if_neg]
    rw [show (20 : Int) = ((20 : Nat) : Int) from rfl, rept_same (n := 20) (by decide)]
    decide +kernel
  have a4 : un (.mk 9 [] 0 0 false 1 [.mk 8 [] 20 20 false 0 [.mk 9 [] 0 0 false 2 [rep1 20 20 false 97]]]) = none := by rw [un, unL, a3]
  rw [smN2, un, unL, a4]
theorem smM_put : bs (put smM1) = smT3 := by
  apply ByteArray.ext
  apply Array.ext'
  show (cat (put smM1)).toArray.toList = _
  rw [List.toList_toArray]
  decide +kernel
theorem smM_gd : Gd smM1 := un_gd sm1_right sm1_un
theorem sm1_not : ¬ isUn smN1 := by
  rw [smN1, isUn, isUnL, rep1, isUn]
  rintro ⟨_, ⟨h, _⟩, _⟩
  exact absurd (h rfl) (by decide)
theorem bad99 : ¬ right (.mk 99 [] 0 0 false 0 []) := by
  rw [right]
  rintro ⟨_, _, h, _⟩
  exact absurd h (by decide)
theorem smM_k : smM1.k = 6 := rfl
end Go.Proofs.YtdoapojmenojoaaGreatDoor.Sx
end

section
/- Patterns of stars, plusses and opts alone. -/
set_option linter.unusedVariables false
namespace Go.Proofs.YtdoapojmenojoaaGreatDoor.Sx
open Go.Proofs.YtdoapojmenojoaaGreatDoor

def ptext (i : Nat) : List Int :=
  match i with
  | 0 => [97]
  | 1 => [98, 42]
  | 2 => [40, 63, 58, 97, 98, 41, 43, 63]
  | 3 => [99, 63]
  | 4 => [91, 94, 97, 93]
  | 5 => [97, 124, 98]
  | 6 => [94]
  | _ => [92, 98]
theorem ptext_start (i : Nat) : ∃ x u, ptext i = x :: u ∧ x ≠ 42 ∧ x ≠ 43 ∧ x ≠ 63 ∧ x ≠ 123 := by
  unfold ptext
  split <;> exact ⟨_, _, rfl, by decide, by decide, by decide, by decide⟩
theorem ptexts_start : ∀ ks : List Nat, startOk (ks.flatMap ptext)
  | [] => startOk_nil
  | i :: ks => by
    obtain ⟨x, u, e, h⟩ := ptext_start i
    rw [List.flatMap_cons]
    exact start_app e h
theorem isUnL_app {a b : List Nd} (h : isUnL a) (h' : isUnL b) : isUnL (a ++ b) := (isUnL_iff _).2 (fun n hn => (List.mem_append.1 hn).elim ((isUnL_iff a).1 h n) ((isUnL_iff b).1 h' n))
theorem isUnL_one {n : Nd} (h : isUn n) : isUnL [n] := by rw [isUnL, isUnL]; exact ⟨h, trivial⟩
theorem isUn_kids {n : Nd} (h : isUn n) : isUnL n.kids := by obtain ⟨k, c, mn, mx, lz, g, l⟩ := n; rw [isUn] at h; exact h.2
theorem isUn_flat6 : ∀ {l : List Nd}, isUnL l → isUnL (flat6 l)
  | [], _ => by rw [show flat6 [] = [] from rfl, isUnL]; trivial
  | n :: t, h => by
    rw [isUnL] at h
    rw [flat6_cons]
    refine isUnL_app ?_ (isUn_flat6 h.2)
    split
    · exact isUn_kids h.1
    · split
      · rw [isUnL]; trivial
      · exact isUnL_one h.1
theorem isUn_flat7 : ∀ {l : List Nd}, isUnL l → isUnL (flat7 l)
  | [], _ => by rw [show flat7 [] = [] from rfl, isUnL]; trivial
  | n :: t, h => by
    rw [isUnL] at h
    rw [flat7_cons]
    refine isUnL_app ?_ (isUn_flat7 h.2)
    split
    · exact isUn_kids h.1
    · exact isUnL_one h.1
theorem isUn_row {k : Int} (hk : k ≠ 8) {l : List Nd} (h : isUnL l) : isUn (.mk k [] 0 0 false 0 l) := by rw [isUn]; exact ⟨fun e => absurd e hk, h⟩
theorem isUn_sequence {l : List Nd} (h : isUnL l) : isUn (sequence l) := by
  have hf := isUn_flat6 h
  unfold sequence
  match he : flat6 l with
  | [] => exact Gd.empty.un
  | [x] => rw [he, isUnL] at hf; exact hf.1
  | x :: y :: t => rw [he] at hf; exact isUn_row (by decide) hf
theorem isUn_choice {l : List Nd} (h : isUnL l) : isUn (choice l) := by
  match l, h with
  | [], h => exact isUn_row (by decide) h
  | [x], h => rw [isUnL] at h; exact h.1
  | x :: y :: t, h => exact isUn_row (by decide) (isUn_flat7 h)
theorem isUn_one (c : List Cl.Rg) : isUn (oneN c) := by rw [oneN, isUn, isUnL]; exact ⟨by simp, trivial⟩
theorem isUn_mark {k : Int} (h : k ≠ 8) : isUn (mark k) := by rw [mark, isUn, isUnL]; exact ⟨fun e => absurd e h, trivial⟩
theorem isUn_rep {mn mx : Int} (lz : Bool) {n : Nd} (h : isUn n) (hs : stay mn mx = true) : isUn (.mk 8 [] mn mx lz 0 [n]) := by rw [isUn]; exact ⟨fun _ => hs, isUnL_one h⟩
theorem isUn_letters : ∀ ws : List Int, isUnL (ws.map one1)
  | [] => by rw [List.map_nil, isUnL]; trivial
  | r :: t => by rw [List.map_cons, isUnL]; exact ⟨isUn_one _, isUn_letters t⟩
theorem letters2 (a : Int) (ha : a = 97 ∨ a = 98 ∨ a = 99) : special a = false ∧ 0 ≤ a := by rcases ha with rfl | rfl | rfl <;> exact ⟨by decide, by decide⟩
theorem at_let {r : Int} (h : special r = false) (h0 : 0 ≤ r) (t : List Int) (g : Int) : Atom (r :: t) g (.ok (one1 r) t g) := by
  have := atom_leaf (x := r) (t := t) (g := g) (letter_ne h (by decide))
  rwa [leaf_letter h h0] at this
theorem lazy_no {rest : List Int} (h : startOk rest) : lazyB rest = (false, rest) := lazy_put false h
theorem cls_a (rest : List Int) : cls (94 :: 97 :: 93 :: rest) = some (Cl.nots (Cl.of [(97, 97)]), rest) := by
  have h1 : item (97 :: 93 :: rest) = some ([(97, 97)], 93 :: rest) := by simp [item, member]
  have h2 : items ((97 :: 93 :: rest).length + 1) (97 :: 93 :: rest) [] = some (Cl.of [(97, 97)], rest) := by
    rw [items, h1]; rfl
  rw [cls, h2]
  have h3 : ¬ (Cl.nots (Cl.of [((97 : Int), (97 : Int))]) = [] ∨ 64 < (Cl.nots (Cl.of [((97 : Int), (97 : Int))])).length) := by decide +kernel
  show (if Cl.nots (Cl.of [((97 : Int), (97 : Int))]) = [] ∨ 64 < (Cl.nots (Cl.of [((97 : Int), (97 : Int))])).length then none else some (Cl.nots (Cl.of [((97 : Int), (97 : Int))]), rest)) = _
  rw [if_neg h3]
theorem plain_expr : ∀ (ks : List Nat) (g : Int) (all cur : List Nd), isUnL all → isUnL cur → ∃ N, Expr (ks.flatMap ptext) g all cur (.ok N [] g) ∧ isUn N
  | [], g, all, cur, ha, hc => ⟨_, expr_nil g all cur, isUn_choice (isUnL_app ha (isUnL_one (isUn_sequence hc)))⟩
  | i :: ks, g, all, cur, ha, hc => by
    have hst := ptexts_start ks
    rw [List.flatMap_cons]
    match i with
    | 0 =>
      obtain ⟨N, h, hu⟩ := plain_expr ks g all (cur ++ [97].map one1) ha (isUnL_app hc (isUn_letters _))
      exact ⟨N, expr_letters (ws := [97]) (fun r hr => by simp at hr; subst hr; exact ⟨by decide, by decide⟩) hst h, hu⟩
    | 1 =>
      obtain ⟨N, h, hu⟩ := plain_expr ks g all (cur ++ [.mk 8 [] 0 (-1) false 0 [one1 98]]) ha (isUnL_app hc (isUnL_one (isUn_rep _ (isUn_one _) (by decide))))
      have hp : Piece (98 :: 42 :: ks.flatMap ptext) g (.ok (.mk 8 [] 0 (-1) (lazyB (ks.flatMap ptext)).1 0 [one1 98]) (lazyB (ks.flatMap ptext)).2 g) := piece_rep (at_let (by decide) (by decide) _ _) rfl
      rw [lazy_no hst] at hp
      exact ⟨N, expr_piece (by decide) (by decide) hp h, hu⟩
    | 2 =>
      have hin : Expr ([97, 98] ++ (41 :: 43 :: 63 :: ks.flatMap ptext)) g [] [] (.ok (choice ([] ++ [sequence ([] ++ [97, 98].map one1)])) (41 :: 43 :: 63 :: ks.flatMap ptext) g) := expr_letters (fun r hr => by
        simp only [List.mem_cons, List.not_mem_nil, or_false] at hr
        rcases hr with rfl | rfl <;> exact ⟨by decide, by decide⟩) (fun x t e => by cases e; decide) (expr_close _ _ _ _)
      have hnd : isUn (choice ([] ++ [sequence ([] ++ [97, 98].map one1)])) := isUn_choice (isUnL_app (by rw [isUnL]; trivial) (isUnL_one (isUn_sequence (isUnL_app (by rw [isUnL]; trivial) (isUn_letters _)))))
      obtain ⟨N, h, hu⟩ := plain_expr ks g all (cur ++ [.mk 8 [] 1 (-1) true 0 [choice ([] ++ [sequence ([] ++ [97, 98].map one1)])]]) ha (isUnL_app hc (isUnL_one (isUn_rep _ hnd (by decide))))
      exact ⟨N, expr_piece (by decide) (by decide) (piece_rep (atom_group (grp_non hin)) rfl) h, hu⟩
    | 3 =>
      obtain ⟨N, h, hu⟩ := plain_expr ks g all (cur ++ [.mk 8 [] 0 1 false 0 [one1 99]]) ha (isUnL_app hc (isUnL_one (isUn_rep _ (isUn_one _) (by decide))))
      have hp : Piece (99 :: 63 :: ks.flatMap ptext) g (.ok (.mk 8 [] 0 1 (lazyB (ks.flatMap ptext)).1 0 [one1 99]) (lazyB (ks.flatMap ptext)).2 g) := piece_rep (at_let (by decide) (by decide) _ _) rfl
      rw [lazy_no hst] at hp
      exact ⟨N, expr_piece (by decide) (by decide) hp h, hu⟩
    | 4 =>
      obtain ⟨N, h, hu⟩ := plain_expr ks g all (cur ++ [oneN (Cl.nots (Cl.of [(97, 97)]))]) ha (isUnL_app hc (isUnL_one (isUn_one _)))
      have hat : Atom (91 :: 94 :: 97 :: 93 :: ks.flatMap ptext) g (leaf 91 (94 :: 97 :: 93 :: ks.flatMap ptext) g) := atom_leaf (by decide)
      have hle : leaf 91 (94 :: 97 :: 93 :: ks.flatMap ptext) g = .ok (oneN (Cl.nots (Cl.of [(97, 97)]))) (ks.flatMap ptext) g := by
        unfold leaf
        rw [if_neg (by decide), if_neg (by decide), if_neg (by decide), if_neg (by decide), if_pos rfl, cls_a]
      rw [hle] at hat
      exact ⟨N, expr_piece (by decide) (by decide) (piece_plain hat (quant_none hst)) h, hu⟩
    | 5 =>
      obtain ⟨N, h, hu⟩ := plain_expr ks g (all ++ [sequence (cur ++ [97].map one1)]) ([] ++ [98].map one1) (isUnL_app ha (isUnL_one (isUn_sequence (isUnL_app hc (isUn_letters _))))) (isUnL_app (by rw [isUnL]; trivial) (isUn_letters _))
      have h2 : Expr ([98] ++ ks.flatMap ptext) g (all ++ [sequence (cur ++ [97].map one1)]) [] (.ok N [] g) := expr_letters (fun r hr => by simp at hr; subst hr; exact ⟨by decide, by decide⟩) hst h
      have h1 : Expr ([97] ++ (124 :: ([98] ++ ks.flatMap ptext))) g all cur (.ok N [] g) := expr_letters (fun r hr => by simp at hr; subst hr; exact ⟨by decide, by decide⟩) (fun x t e => by cases e; decide) (expr_bar h2)
      exact ⟨N, h1, hu⟩
    | 6 =>
      obtain ⟨N, h, hu⟩ := plain_expr ks g all (cur ++ [mark 2]) ha (isUnL_app hc (isUnL_one (isUn_mark (by decide))))
      have hat : Atom (94 :: ks.flatMap ptext) g (.ok (mark 2) (ks.flatMap ptext) g) := atom_leaf (x := 94) (by decide)
      exact ⟨N, expr_piece (by decide) (by decide) (piece_plain hat (quant_none hst)) h, hu⟩
    | _ + 7 =>
      obtain ⟨N, h, hu⟩ := plain_expr ks g all (cur ++ [mark 4]) ha (isUnL_app hc (isUnL_one (isUn_mark (by decide))))
      have hat : Atom (92 :: 98 :: ks.flatMap ptext) g (.ok (mark 4) (ks.flatMap ptext) g) := atom_leaf (x := 92) (by decide)
      exact ⟨N, expr_piece (by decide) (by decide) (piece_plain hat (quant_none hst)) h, hu⟩
end Go.Proofs.YtdoapojmenojoaaGreatDoor.Sx
end
