import Derived.Test.YtdoapojmenojoaaGreatDoorJSynM11
import Derived.Test.YtdoapojmenojoaaGreatDoorJSynP
import Derived.RegionTactic
set_option linter.unusedSimpArgs false
set_option linter.unusedVariables false
section
/- How long a text is put of a tree. -/
set_option linter.unusedVariables false
namespace Go.Proofs.YtdoapojmenojoaaGreatDoor.Sx
open Go.Proofs.YtdoapojmenojoaaGreatDoor

theorem putC_len {c : List Cl.Rg} (h : c.length ≤ 64) : (putC c).length ≤ 322 := by
  by_cases hd : c = dot
  · unfold putC; rw [if_pos hd]; simp
  · by_cases h1 : ∃ a, c = [(a, a)]
    · obtain ⟨a, rfl⟩ := h1
      rw [putC_pair hd]; split <;> simp
    · rw [putC_more hd h1]
      have := putRs_len5 c
      simp; omega
theorem times_len (mn mx : Int) (lz : Bool) : (times mn mx lz).length ≤ 8 := by
  have h1 : ∀ n, (digits n).length ≤ 2 := fun n => by unfold digits; split <;> simp
  have := h1 mn; have := h1 mx
  unfold times
  rw [List.length_append]
  repeat' split
  all_goals (simp; try omega)
theorem wrap_len (b : Bool) (u : List Int) : (wrap b u).length ≤ u.length + 4 := by
  unfold wrap; split <;> simp
mutual
theorem put_len : ∀ n : Nd, right n → (put n).length + 8 ≤ 340 * nsz n
  | .mk k c mn mx lz g l, h => by
    rw [right] at h
    have hl := putKids_len l h.1 k true
    have hc := putC_len h.2.2.2.2.1.1
    have ht := times_len mn mx lz
    rw [put, nsz]
    repeat' split
    all_goals (try simp only [List.length_append, List.length_cons, List.length_nil]) <;> omega
theorem putKids_len : ∀ l : List Nd, rights l → ∀ (k : Int) (b : Bool), (putKids k b l).length ≤ 340 * nszs l
  | [], _, k, b => by rw [putKids]; simp
  | n :: t, h, k, b => by
    rw [rights] at h
    have h1 := put_len n h.1
    have h2 := putKids_len t h.2 k false
    have h3 := wrap_len (wraps k n.k) (put n)
    rw [putKids, nszs, List.length_append, List.length_append]
    split <;> simp only [List.length_cons, List.length_nil] <;> omega
end
theorem put_bytes {n : Nd} (h : right n) (hz : nsz n ≤ 1000) : (bs (put n)).size ≤ 1360000 := by
  have h1 := put_len n h
  have h2 := bs_size (put n)
  omega
/- a pattern of at most 200 bytes: its tree is small, and what is put of it is short -/
theorem cnt_le (s : ByteArray) : Rn.cnt s ≤ s.size := Rn.cnt_le s
theorem parsed_small {s : ByteArray} {n : Nd} {a : Int} (h : Parsed s n a 0) : nsz n ≤ 602 := by
  obtain ⟨hz, _, g, he⟩ := parsed_tree h
  have h1 := parsed_size he
  rw [toks_len] at h1
  have := cnt_le s
  omega
end Go.Proofs.YtdoapojmenojoaaGreatDoor.Sx
end

section
/- Texts of right runes and of bytes that are none: their runes, where each begins. -/
set_option linter.unusedVariables false
namespace Go.Proofs.YtdoapojmenojoaaGreatDoor.Sx
open Go.Proofs.YtdoapojmenojoaaGreatDoor
open Rn

/- one rune's bytes; -1: a byte that is none -/
def encT (x : Int) : List UInt8 := if x = -1 then [255] else (Utf8.encode x).data.toList
def catT (ws : List Int) : List UInt8 := ws.flatMap encT
def OkT (ws : List Int) : Prop := ∀ x ∈ ws, x = -1 ∨ rightB x = true
theorem catT_app (a b : List Int) : catT (a ++ b) = catT a ++ catT b := by simp [catT]
theorem OkT.app {a b : List Int} (h : OkT a) (h' : OkT b) : OkT (a ++ b) := fun x hx => (List.mem_append.1 hx).elim (h x) (h' x)
theorem OkT.nil : OkT [] := fun x h => by cases h
theorem catT_cat {l : List Int} (h : OkL l) : catT l = cat l := by
  induction l with
  | nil => rfl
  | cons a l ih =>
    have ha := h a (by simp)
    have : encT a = (Utf8.encode a).data.toList := by
      unfold encT; rw [if_neg (fun e => by rw [e] at ha; revert ha; decide)]
    show encT a ++ catT l = (Utf8.encode a).data.toList ++ cat l
    rw [this, ih (fun x hx => h x (by simp [hx]))]
theorem unit_at {s : ByteArray} {X Y : List UInt8} {r : Int} (hr : r = -1 ∨ rightB r = true) (hs : s.data.toList = X ++ (encT r ++ Y)) :
    tok (recAt s X.length) = r ∧ dW s X.length = (encT r).length ∧ 1 ≤ (encT r).length := by
  by_cases h : r = -1
  · subst h
    have he : encT (-1) = [255] := rfl
    rw [he] at hs ⊢
    have h0 : at8 s X.length = 255 := by
      have := at8_app hs 0 (by simp)
      simpa using this
    have hz : X.length < s.size := by rw [size_app hs]; simp
    rcases Rn.shape s X.length hz with c | c | c | c | ⟨_, c1, c2⟩
    · omega
    · omega
    · omega
    · omega
    · refine ⟨?_, c2, by simp⟩
      unfold tok recAt
      simp only
      rw [if_pos ⟨c1, c2⟩]
  · have hb : rightB r = true := hr.resolve_left h
    have he : encT r = (Utf8.encode r).data.toList := by unfold encT; rw [if_neg h]
    obtain ⟨a, b, c, d⟩ := dec_enc hb he.symm hs
    refine ⟨?_, b, c⟩
    unfold tok recAt
    simp only
    rw [if_neg, a]
    rintro ⟨e1, e2⟩
    have hx : r = 65533 := by omega
    rw [b, he, hx] at e2
    revert e2
    decide +kernel
theorem catT_at {ws : List Int} {i : Nat} {r : Int} (h : ws[i]? = some r) : catT ws = catT (ws.take i) ++ (encT r ++ catT (ws.drop (i + 1))) := by
  have e : ws = ws.take i ++ (r :: ws.drop (i + 1)) := by
    have hi := (List.getElem?_eq_some_iff.1 h).1
    have hv := (List.getElem?_eq_some_iff.1 h).2
    rw [← hv, List.getElem_cons_drop, List.take_append_drop]
  have e2 : catT (r :: ws.drop (i + 1)) = encT r ++ catT (ws.drop (i + 1)) := rfl
  conv => lhs; rw [e]
  rw [catT_app, e2]
theorem catT_take {ws : List Int} {i : Nat} {r : Int} (h : ws[i]? = some r) : (catT (ws.take (i + 1))).length = (catT (ws.take i)).length + (encT r).length := by
  have hi := (List.getElem?_eq_some_iff.1 h).1
  have hv := (List.getElem?_eq_some_iff.1 h).2
  rw [List.take_succ_eq_append_getElem hi, catT_app, List.length_append, hv]
  simp [catT]
theorem backT {s : ByteArray} {ws : List Int} (hr : OkT ws) (hs : s.data.toList = catT ws) :
    (∀ i, i ≤ ws.length → pos s i = (catT (ws.take i)).length) ∧ cnt s = ws.length ∧ toks s = ws := by
  have step : ∀ i r, ws[i]? = some r → tok (recAt s (catT (ws.take i)).length) = r ∧ dW s (catT (ws.take i)).length = (encT r).length ∧ (catT (ws.take i)).length < s.size ∧ (catT (ws.take (i + 1))).length = (catT (ws.take i)).length + (encT r).length := fun i r h => by
    have e := catT_at h
    obtain ⟨a, b, c⟩ := unit_at (hr r (List.mem_of_getElem? h)) (hs.trans e)
    have hz := size_app (hs.trans e)
    rw [List.length_append, List.length_append] at hz
    exact ⟨a, b, by omega, catT_take h⟩
  have hp : ∀ i, i ≤ ws.length → pos s i = (catT (ws.take i)).length := by
    intro i
    induction i with
    | zero => intro _; simp [catT, pos]
    | succ i ih =>
      intro hi
      have h : ws[i]? = some ws[i] := List.getElem?_eq_getElem (by omega)
      obtain ⟨a, b, c, d⟩ := step i _ h
      have e := ih (by omega)
      rw [pos_succ s i (by rw [e]; exact c), e, b, d]
  have hc : cnt s = ws.length := by
    have h1 : ¬ ws.length < cnt s := fun h => by
      have := (cnt_lt _ _).1 h
      rw [hp _ (Nat.le_refl _), List.take_length, size_app hs] at this
      omega
    have h2 : ∀ i, i < ws.length → i < cnt s := fun i hi => (cnt_lt _ i).2 (by
      have h : ws[i]? = some ws[i] := List.getElem?_eq_getElem (by omega)
      rw [hp i (by omega)]
      exact (step i _ h).2.2.1)
    by_cases h3 : cnt s < ws.length
    · exact absurd (h2 _ h3) (Nat.lt_irrefl _)
    · omega
  refine ⟨hp, hc, List.ext_getElem? (fun i => ?_)⟩
  by_cases hi : i < ws.length
  · have hw : ws[i]? = some ws[i] := List.getElem?_eq_getElem hi
    rw [toks_get (by omega), hw]
    congr 1
    unfold recN
    rw [hp i (by omega)]
    exact (step i _ hw).1
  · rw [List.getElem?_eq_none (by rw [toks_len]; omega), List.getElem?_eq_none (by omega)]
theorem plcT {s : ByteArray} {ws : List Int} (hr : OkT ws) (hs : s.data.toList = catT ws) {left : Nat} (hl : left ≤ ws.length) : plc s left = ((catT (ws.take (ws.length - left))).length : Nat) := by
  obtain ⟨h1, h2, _⟩ := backT hr hs
  unfold plc
  rw [h2, h1 _ (by omega)]
end Go.Proofs.YtdoapojmenojoaaGreatDoor.Sx
end

section
/- Sequences that are put as they stand: letters, groups of a letter, repeated letters. -/
set_option linter.unusedVariables false
namespace Go.Proofs.YtdoapojmenojoaaGreatDoor.Sx
open Go.Proofs.YtdoapojmenojoaaGreatDoor
open Rn

def Plain (l : List Nd) : Prop := ∀ n ∈ l, n.k ≠ 0 ∧ n.k ≠ 6 ∧ n.k ≠ 7
theorem Plain.app {a b : List Nd} (h : Plain a) (h' : Plain b) : Plain (a ++ b) := fun n hn => (List.mem_append.1 hn).elim (h n) (h' n)
theorem wraps6 {k : Int} (h : k ≠ 7) : wraps 6 k = false := by unfold wraps; simp; omega
theorem putKids_plain : ∀ (l : List Nd) (b : Bool), Plain l → putKids 6 b l = l.flatMap put
  | [], b, _ => by rw [putKids]; rfl
  | n :: t, b, h => by
    rw [putKids, putKids_plain t false (fun m hm => h m (by simp [hm])), wraps6 (h n (by simp)).2.2]
    simp [wrap]
theorem put_seq {l : List Nd} (h : Plain l) : put (sequence l) = l.flatMap put := by
  have hf := flat6_id (l := l) (fun n hn => ⟨(h n hn).1, (h n hn).2.1⟩)
  unfold sequence
  rw [hf]
  match l, h with
  | [], _ => rfl
  | [x], _ => simp
  | a :: b :: t, h =>
    simp only
    rw [put]
    simp only [show ¬ (6 : Int) = 1 by decide, show ¬ (6 : Int) = 2 by decide, show ¬ (6 : Int) = 3 by decide, show ¬ (6 : Int) = 4 by decide, show ¬ (6 : Int) = 5 by decide, show ¬ (6 : Int) = 8 by decide, show ¬ (6 : Int) = 9 by decide, if_false]
    exact putKids_plain _ _ h
theorem seq_size {l : List Nd} (h : Plain l) : size (sequence l) = if l.length = 1 then sizes l else 1 + sizes l := by
  have hf := flat6_id (l := l) (fun n hn => ⟨(h n hn).1, (h n hn).2.1⟩)
  unfold sequence
  rw [hf]
  match l, h with
  | [], _ => simp [empty, size, sizes]
  | [x], _ => simp [sizes]
  | a :: b :: t, h => simp only [size]; rw [if_neg (by simp)]
/- a sequence is parsed as it is put -/
theorem seq_parsed {l : List Nd} {g : Int} (h : Forms 0 l g) (hp : Plain l) : Expr (l.flatMap put) 0 [] [] (.ok (sequence l) [] g) := by
  have := put_parsed (sequence_form h)
  rwa [put_seq hp] at this
/- a letter, a group of one, one that is repeated -/
def one1 (r : Int) : Nd := oneN [(r, r)]
theorem one1_form {r : Int} (h0 : 0 ≤ r) (h1 : r ≤ 1114111) (g : Int) : Form g (one1 r) g :=
  .one g _ (nf_one ⟨h0, h1, Int.le_refl _⟩) (by simp) (by simp)
theorem dot_two : dot.length = 2 := by decide +kernel
theorem one_dot (r : Int) : ¬ [(r, r)] = dot := fun e => by have := congrArg List.length e; rw [dot_two] at this; simp at this
theorem put_one1 (r : Int) : put (one1 r) = if special r = true then [92, r] else [r] := by
  unfold one1 oneN
  rw [put, if_pos rfl]
  exact putC_pair (one_dot r)
theorem ones_forms (g : Int) : ∀ l : List Int, (∀ r ∈ l, 0 ≤ r ∧ r ≤ 1114111) → Forms g (l.map one1) g
  | [], _ => .nil g
  | r :: t, h => .cons (one1_form (h r (by simp)).1 (h r (by simp)).2 g) (ones_forms g t (fun x hx => h x (by simp [hx])))
theorem ones_put : ∀ l : List Int, (∀ r ∈ l, special r = false) → (l.map one1).flatMap put = l
  | [], _ => rfl
  | r :: t, h => by
    have ih := ones_put t (fun x hx => h x (by simp [hx]))
    rw [List.map_cons, List.flatMap_cons, ih, put_one1, if_neg (by rw [h r (by simp)]; decide)]; rfl
theorem ones_plain (l : List Int) : Plain (l.map one1) := fun n hn => by
  obtain ⟨r, _, rfl⟩ := List.mem_map.1 hn
  simp [one1, oneN, Nd.k]
theorem ones_sizes : ∀ l : List Int, sizes (l.map one1) = l.length
  | [] => by simp [sizes]
  | r :: t => by rw [List.map_cons, sizes, ones_sizes t]; simp [one1, oneN, size, sizes]; omega
def grp1 (g r : Int) : Nd := .mk 9 [] 0 0 false g [one1 r]
def rep1 (mn mx : Int) (lz : Bool) (r : Int) : Nd := .mk 8 [] mn mx lz 0 [one1 r]
theorem grp1_form {g r : Int} (hg : g + 1 ≤ 8) (h0 : 0 ≤ r) (h1 : r ≤ 1114111) : Form g (grp1 (g + 1) r) (g + 1) := .grp hg (one1_form h0 h1 _)
theorem rep1_form {g mn mx r : Int} (lz : Bool) (hm : 0 ≤ mn) (hm' : mn ≤ 20) (hx : mx = -1 ∨ mn ≤ mx ∧ mx ≤ 20) (h0 : 0 ≤ r) (h1 : r ≤ 1114111) : Form g (rep1 mn mx lz r) g := .rep mn mx lz (one1_form h0 h1 _) hm hm' hx
theorem put_grp1 (g r : Int) (h : special r = false) : put (grp1 g r) = [40, r, 41] := by
  unfold grp1
  rw [put]
  simp only [show ¬ (9 : Int) = 1 by decide, show ¬ (9 : Int) = 2 by decide, show ¬ (9 : Int) = 3 by decide, show ¬ (9 : Int) = 4 by decide, show ¬ (9 : Int) = 5 by decide, show ¬ (9 : Int) = 8 by decide, if_false, if_true]
  rw [putKids, putKids, put_one1]
  simp [wraps, wrap, one1, oneN, Nd.k, h]
theorem put_rep1 (mn mx : Int) (lz : Bool) (r : Int) (h : special r = false) : put (rep1 mn mx lz r) = r :: times mn mx lz := by
  unfold rep1
  rw [put]
  simp only [show ¬ (8 : Int) = 1 by decide, show ¬ (8 : Int) = 2 by decide, show ¬ (8 : Int) = 3 by decide, show ¬ (8 : Int) = 4 by decide, show ¬ (8 : Int) = 5 by decide, if_false, if_true]
  rw [putKids, putKids, put_one1]
  simp [wraps, wrap, one1, oneN, Nd.k, h]
end Go.Proofs.YtdoapojmenojoaaGreatDoor.Sx
end

section
/- What is wrong behind letters. -/
set_option linter.unusedVariables false
namespace Go.Proofs.YtdoapojmenojoaaGreatDoor.Sx
open Go.Proofs.YtdoapojmenojoaaGreatDoor
open Rn

def Letters (ws : List Int) : Prop := ∀ r ∈ ws, special r = false ∧ 0 ≤ r
theorem leaf_letter {r : Int} (h : special r = false) (h0 : 0 ≤ r) (t : List Int) (g : Int) : leaf r t g = .ok (one1 r) t g := by
  have hn := h
  have : ∀ x, special x = true → r ≠ x := fun x hx e => by rw [e, hx] at h; cases h
  unfold leaf
  rw [if_neg (this 46 (by decide)), if_neg (this 94 (by decide)), if_neg (this 36 (by decide)), if_neg (this 92 (by decide)), if_neg (this 91 (by decide)), if_neg (by rw [hn]; simp; omega)]
  rfl
theorem letter_ne {r x : Int} (h : special r = false) (hx : special x = true) : r ≠ x := fun e => by rw [e, hx] at h; cases h
theorem piece_letter {r : Int} (h : special r = false) (h0 : 0 ≤ r) {t : List Int} (ht : startOk t) (g : Int) : Piece (r :: t) g (.ok (one1 r) t g) := by
  have ha := atom_leaf (x := r) (t := t) (g := g) (letter_ne h (by decide))
  rw [leaf_letter h h0] at ha
  exact piece_plain ha (quant_none ht)
theorem letters_start : ∀ {ws : List Int}, Letters ws → ∀ {rest : List Int}, startOk rest → startOk (ws ++ rest)
  | [], _, rest, hr => hr
  | r :: t, h, rest, _ => fun x u e => by
    simp only [List.cons_append, List.cons.injEq] at e
    have hs := (h r (by simp)).1
    rw [← e.1]
    exact ⟨letter_ne hs (by decide), letter_ne hs (by decide), letter_ne hs (by decide), letter_ne hs (by decide)⟩
theorem expr_letters : ∀ {ws : List Int}, Letters ws → ∀ {rest : List Int}, startOk rest → ∀ {g : Int} {all cur : List Nd} {r : R}, Expr rest g all (cur ++ ws.map one1) r → Expr (ws ++ rest) g all cur r
  | [], _, rest, _, g, all, cur, r, h => by simpa using h
  | x :: t, hw, rest, hr, g, all, cur, r, h => by
    have hs := hw x (by simp)
    have ht : Letters t := fun y hy => hw y (by simp [hy])
    refine expr_piece (letter_ne hs.1 (by decide)) (letter_ne hs.1 (by decide)) (piece_letter hs.1 hs.2 (letters_start ht hr) g) (expr_letters ht hr ?_)
    simpa using h
theorem expr_leaf_bad {x : Int} {t : List Int} {g e : Int} {s : Nat} {all cur : List Nd} (h41 : x ≠ 41) (h124 : x ≠ 124) (h40 : x ≠ 40) (h : leaf x t g = .bad e s) : Expr (x :: t) g all cur (.bad e s) := by
  have ha := atom_leaf (x := x) (t := t) (g := g) h40
  rw [h] at ha
  exact expr_bad h41 h124 (piece_bad ha)
/- a thing that is wrong: its runes, how many of them are left where it is told -/
def wrongs : List (List Int × Nat) := [([41], 1), ([93], 1), ([125], 1), ([124, 42], 1), ([91], 1), ([91, 93], 2), ([91, 122, 45, 97, 93], 5), ([92], 1), ([92, 113], 2), ([40], 0), ([40, 63], 1), ([124, 123, 50, 125], 3), ([-1], 1), ([40, 63, 58], 0), ([99, 123, 50, 125, 123, 50, 125], 3), ([99, 63, 63, 63], 1), ([91, -1, 93], 3), ([91, 92, 98, 93], 4), ([99, 123, 50, 44, 49, 125], 5), ([40, 124], 0)]
def Wrong (l : List Int) (left : Nat) : Prop := ∀ cur : List Nd, Expr l 0 [] cur (.bad 2 left) ∨ ∃ n, Expr l 0 [] cur (.ok n l 0) ∧ l ≠ [] ∧ left = l.length
theorem cls_none {t : List Int} {g : Int} (h : cls t = none) : leaf 91 t g = .bad 2 (t.length + 1) := by
  unfold leaf
  simp [h]
theorem wrong_all : ∀ x ∈ wrongs, Wrong x.1 x.2 := by
  intro x hx cur
  have nn : ∀ {t : List Int}, (∀ u, t ≠ 63 :: 58 :: u) → ∀ u, t ≠ 63 :: 58 :: u := fun h => h
  have h63 : leaf 63 [] 1 = .bad 2 1 := by simp [leaf, special]
  simp only [wrongs, List.mem_cons, List.not_mem_nil, or_false] at hx
  rcases hx with rfl | rfl | rfl | rfl | rfl | rfl | rfl | rfl | rfl | rfl | rfl | rfl | rfl | rfl | rfl | rfl | rfl | rfl | rfl | rfl
  · exact .inr ⟨_, expr_close _ _ _ _, by simp, rfl⟩
  · exact .inl (expr_leaf_bad (by decide) (by decide) (by decide) (by simp [leaf, special]))
  · exact .inl (expr_leaf_bad (by decide) (by decide) (by decide) (by simp [leaf, special]))
  · exact .inl (expr_bar (expr_leaf_bad (by decide) (by decide) (by decide) (by simp [leaf, special])))
  · exact .inl (expr_leaf_bad (by decide) (by decide) (by decide) (cls_none (by decide +kernel)))
  · exact .inl (expr_leaf_bad (by decide) (by decide) (by decide) (cls_none (by decide +kernel)))
  · exact .inl (expr_leaf_bad (by decide) (by decide) (by decide) (cls_none (by decide +kernel)))
  · exact .inl (expr_leaf_bad (by decide) (by decide) (by decide) (by simp [leaf]))
  · exact .inl (expr_leaf_bad (by decide) (by decide) (by decide) (by simp [leaf, escape, special]))
  · exact .inl (expr_bad (by decide) (by decide) (piece_bad (atom_bad (grp_cap_open (by simp) (by decide) (expr_nil _ _ _)))))
  · exact .inl (expr_bad (by decide) (by decide) (piece_bad (atom_bad (grp_cap_bad (by simp) (by decide) (expr_leaf_bad (by decide) (by decide) (by decide) h63)))))
  · exact .inl (expr_bar (expr_leaf_bad (by decide) (by decide) (by decide) (by simp [leaf, special])))
  · exact .inl (expr_leaf_bad (by decide) (by decide) (by decide) (by simp [leaf]))
  · exact .inl (expr_bad (by decide) (by decide) (piece_bad (atom_bad (grp_non_open (expr_nil _ _ _)))))
  · refine .inl (expr_piece (n := rep1 2 2 false 99) (t' := [123, 50, 125]) (g' := 0) (by decide) (by decide) ?_ (expr_leaf_bad (by decide) (by decide) (by decide) (by simp [leaf, special])))
    have ha := atom_leaf (x := 99) (t := [123, 50, 125, 123, 50, 125]) (g := 0) (by decide)
    rw [leaf_letter (by decide) (by decide)] at ha
    have hq : quant [123, 50, 125, 123, 50, 125] = some (some (2, 2, [123, 50, 125])) := by decide +kernel
    exact piece_rep ha hq
  · refine .inl (expr_piece (n := rep1 0 1 true 99) (t' := [63]) (g' := 0) (by decide) (by decide) ?_ (expr_leaf_bad (by decide) (by decide) (by decide) (by simp [leaf, special])))
    have ha := atom_leaf (x := 99) (t := [63, 63, 63]) (g := 0) (by decide)
    rw [leaf_letter (by decide) (by decide)] at ha
    have hq : quant [63, 63, 63] = some (some (0, 1, [63, 63])) := by decide +kernel
    exact piece_rep ha hq
  · exact .inl (expr_leaf_bad (by decide) (by decide) (by decide) (cls_none (by decide +kernel)))
  · exact .inl (expr_leaf_bad (by decide) (by decide) (by decide) (cls_none (by decide +kernel)))
  · have ha := atom_leaf (x := 99) (t := [123, 50, 44, 49, 125]) (g := 0) (by decide)
    rw [leaf_letter (by decide) (by decide)] at ha
    have hq : quant [123, 50, 44, 49, 125] = some none := by decide +kernel
    exact .inl (expr_bad (by decide) (by decide) (piece_times ha hq))
  · exact .inl (expr_bad (by decide) (by decide) (piece_bad (atom_bad (grp_cap_open (by simp) (by decide) (expr_bar (expr_nil _ _ _))))))
end Go.Proofs.YtdoapojmenojoaaGreatDoor.Sx
end

section
/- What is wrong behind letters: where it is told. Groups that stand in one another. -/
set_option linter.unusedVariables false
namespace Go.Proofs.YtdoapojmenojoaaGreatDoor.Sx
open Go.Proofs.YtdoapojmenojoaaGreatDoor
open Rn

theorem wrongs_start : ∀ x ∈ wrongs, startOk x.1 := by
  intro x hx y u e
  simp only [wrongs, List.mem_cons, List.not_mem_nil, or_false] at hx
  rcases hx with rfl | rfl | rfl | rfl | rfl | rfl | rfl | rfl | rfl | rfl | rfl | rfl | rfl | rfl | rfl | rfl | rfl | rfl | rfl | rfl <;>
    (simp only [List.cons.injEq] at e; rw [← e.1]; decide)
theorem wrongs_ok : ∀ x ∈ wrongs, OkT x.1 ∧ x.2 ≤ x.1.length ∧ (catT (x.1.take (x.1.length - x.2))).length = x.1.length - x.2 := by
  intro x hx
  simp only [wrongs, List.mem_cons, List.not_mem_nil, or_false] at hx
  have ok : ∀ l : List Int, (l.all fun x => decide (x = -1) || rightB x) = true → OkT l := fun l h y hy => by
    have := List.all_eq_true.1 h y hy
    simpa using this
  rcases hx with rfl | rfl | rfl | rfl | rfl | rfl | rfl | rfl | rfl | rfl | rfl | rfl | rfl | rfl | rfl | rfl | rfl | rfl | rfl | rfl <;>
    exact ⟨ok _ (by decide +kernel), by decide, by decide +kernel⟩
theorem wrong_parsed {ws : List Int} (hw : Letters ws) (hr : OkT ws) {x : List Int × Nat} (hx : x ∈ wrongs) {s : ByteArray} (hs : s.data.toList = catT (ws ++ x.1)) (hz : s.size ≤ 200) :
    Parsed s empty (((catT ws).length + (x.1.length - x.2) : Nat) : Int) 2 := by
  obtain ⟨hk, hle, hlen⟩ := wrongs_ok x hx
  have hok := hr.app hk
  obtain ⟨_, _, ht⟩ := backT hok hs
  have hpl : plc s x.2 = (((catT ws).length + (x.1.length - x.2) : Nat) : Int) := by
    rw [plcT hok hs (by rw [List.length_append]; omega), List.length_append]
    rw [show ws.length + x.1.length - x.2 = ws.length + (x.1.length - x.2) by omega, List.take_length_add_append, catT_app, List.length_append, hlen]
  have he : ∀ r, Expr x.1 0 [] ([] ++ ws.map one1) r → Expr (toks s) 0 [] [] r := fun r h => by rw [ht]; exact expr_letters hw (wrongs_start x hx) h
  rcases wrong_all x hx ([] ++ ws.map one1) with h | ⟨n, h, hne, hl⟩
  · rw [← hpl]; exact .bad 2 _ hz (he _ h)
  · cases hxl : x.1 with
    | nil => exact absurd hxl hne
    | cons y t =>
      rw [hxl] at h hl
      rw [← hxl, ← hpl, hl]
      rw [hxl] at he
      exact .close n y t 0 hz (he _ h)
/- groups that stand in one another, or one behind the other: b: which are closed at once -/
def gtext : List Bool → List Int
  | [] => []
  | true :: t => 40 :: 97 :: 41 :: gtext t
  | false :: t => 40 :: 97 :: gtext t ++ [41]
def gtree : Int → List Bool → List Nd
  | _, [] => []
  | g, true :: t => grp1 (g + 1) 97 :: gtree (g + 1) t
  | g, false :: t => [.mk 9 [] 0 0 false (g + 1) [sequence (one1 97 :: gtree (g + 1) t)]]
theorem gtree_plain : ∀ (l : List Bool) (g : Int), Plain (gtree g l)
  | [], g => by intro n hn; simp [gtree] at hn
  | true :: t, g => by
    intro n hn
    simp only [gtree, List.mem_cons] at hn
    rcases hn with rfl | hn
    · simp [grp1, Nd.k]
    · exact gtree_plain t _ n hn
  | false :: t, g => by
    intro n hn
    simp only [gtree, List.mem_cons, List.not_mem_nil, or_false] at hn
    subst hn
    simp [Nd.k]
theorem gtree_forms : ∀ (l : List Bool) (g : Int), 0 ≤ g → g + l.length ≤ 8 → Forms g (gtree g l) (g + l.length)
  | [], g, _, _ => by rw [gtree]; simpa using Forms.nil g
  | true :: t, g, h0, h => by
    simp only [List.length_cons] at h ⊢
    have := gtree_forms t (g + 1) (by omega) (by omega)
    rw [gtree, show g + ((t.length + 1 : Nat) : Int) = g + 1 + (t.length : Int) by omega]
    exact .cons (grp1_form (by omega) (by decide) (by decide)) this
  | false :: t, g, h0, h => by
    simp only [List.length_cons] at h ⊢
    have h1 := gtree_forms t (g + 1) (by omega) (by omega)
    have h2 : Forms (g + 1) (one1 97 :: gtree (g + 1) t) (g + 1 + t.length) := .cons (one1_form (by decide) (by decide) _) h1
    rw [gtree, show g + ((t.length + 1 : Nat) : Int) = g + 1 + (t.length : Int) by omega]
    exact .cons (.grp (by omega) (sequence_form h2)) (.nil _)
theorem plain_one (r : Int) {l : List Nd} (h : Plain l) : Plain (one1 r :: l) := fun n hn => by
  rcases List.mem_cons.1 hn with rfl | hn
  · simp [one1, oneN, Nd.k]
  · exact h n hn
theorem wraps9 (k : Int) : wraps 9 k = false := by simp [wraps]
theorem gtree_put : ∀ (l : List Bool) (g : Int), (gtree g l).flatMap put = gtext l
  | [], g => by rw [gtree, gtext]; rfl
  | true :: t, g => by
    rw [gtree, gtext, List.flatMap_cons, gtree_put t, put_grp1 _ _ (by decide)]; rfl
  | false :: t, g => by
    rw [gtree, gtext, List.flatMap_cons, List.flatMap_nil, List.append_nil, put]
    simp only [show ¬ (9 : Int) = 1 by decide, show ¬ (9 : Int) = 2 by decide, show ¬ (9 : Int) = 3 by decide, show ¬ (9 : Int) = 4 by decide, show ¬ (9 : Int) = 5 by decide, show ¬ (9 : Int) = 8 by decide, if_false, if_true]
    rw [putKids, putKids, put_seq (plain_one 97 (gtree_plain t _)), wraps9, List.flatMap_cons, gtree_put t, put_one1]
    simp [wrap, special]
/- as many groups as there are, in order -/
theorem groups_parsed (l : List Bool) (h : l.length ≤ 8) : Expr (gtext l) 0 [] [] (.ok (sequence (gtree 0 l)) [] l.length) := by
  have := seq_parsed (gtree_forms l 0 (by decide) (by omega)) (gtree_plain l 0)
  rw [gtree_put] at this
  simpa using this
theorem groups_count (l : List Bool) (h : l.length ≤ 8) : groups (sequence (gtree 0 l)) = l.length ∧ glist (sequence (gtree 0 l)) = up 0 l.length := by
  have hf := sequence_form (gtree_forms l 0 (by decide) (by omega))
  have h1 := form_groups hf (by decide)
  obtain ⟨k, hk, h2⟩ := form_glist hf
  obtain rfl : k = l.length := by omega
  refine ⟨?_, h2⟩
  rw [h1]
  split <;> omega
end Go.Proofs.YtdoapojmenojoaaGreatDoor.Sx
end

section
/- A ninth group is too many. -/
set_option linter.unusedVariables false
namespace Go.Proofs.YtdoapojmenojoaaGreatDoor.Sx
open Go.Proofs.YtdoapojmenojoaaGreatDoor
open Rn

def preN : Nat → List Bool → Nat
  | 0, _ => 0
  | _, [] => 0
  | k + 1, true :: t => 3 + preN k t
  | k + 1, false :: t => 2 + preN k t
def gpre : List Bool → List Int
  | [] => []
  | true :: t => 40 :: 97 :: 41 :: gpre t
  | false :: t => 40 :: 97 :: gpre t
def nopen : List Bool → Nat
  | [] => 0
  | true :: t => nopen t
  | false :: t => nopen t + 1
theorem gtext_start : ∀ (l : List Bool) {suf : List Int}, startOk suf → startOk (gtext l ++ suf)
  | [], suf, h => h
  | true :: t, suf, _ => fun x u e => by simp only [gtext, List.cons_append, List.cons.injEq] at e; rw [← e.1]; decide
  | false :: t, suf, _ => fun x u e => by simp only [gtext, List.cons_append, List.cons.injEq] at e; rw [← e.1]; decide
theorem gtext_head : ∀ (l : List Bool), l ≠ [] → ∃ u, gtext l = 40 :: 97 :: u
  | [], h => absurd rfl h
  | true :: t, _ => ⟨_, rfl⟩
  | false :: t, _ => ⟨_, rfl⟩
theorem many_bad : ∀ (k : Nat) (l : List Bool), k < l.length → k ≤ 8 → ∀ (suf : List Int) (all cur : List Nd), startOk suf →
    Expr (gtext l ++ suf) (8 - (k : Int)) all cur (.bad 3 ((gtext l ++ suf).length - preN k l))
  | 0, l, h, _, suf, all, cur, hs => by
    obtain ⟨u, hu⟩ := gtext_head l (fun e => by rw [e] at h; simp at h)
    rw [hu, preN]
    refine expr_bad (by decide) (by decide) (piece_bad (atom_bad ?_))
    exact grp_many (fun v e => by simp at e) (by omega)
  | k + 1, [], h, _, suf, all, cur, hs => by simp at h
  | k + 1, true :: t, h, h8, suf, all, cur, hs => by
    have ih := many_bad k t (by simpa using h) (by omega) suf all (cur ++ [grp1 (8 - ((k + 1 : Nat) : Int) + 1) 97]) hs
    have hp := kid_piece (form_say (grp1_form (g := 8 - ((k + 1 : Nat) : Int)) (r := 97) (by omega) (by decide) (by decide))) (by simp [grp1, Nd.k]) (by simp [grp1, Nd.k]) (gtext_start t hs)
    rw [put_grp1 _ _ (by decide), show wraps 6 (grp1 (8 - ((k + 1 : Nat) : Int) + 1) 97).k = false from by simp [grp1, Nd.k, wraps]] at hp
    rw [show (8 : Int) - (k : Int) = 8 - ((k + 1 : Nat) : Int) + 1 by omega] at ih
    have := expr_piece (all := all) (cur := cur) (by decide) (by decide) hp ih
    have e : (gtext (true :: t) ++ suf).length - preN (k + 1) (true :: t) = (gtext t ++ suf).length - preN k t := by
      simp only [gtext, preN, List.length_append, List.length_cons]; omega
    rw [e]
    exact this
  | k + 1, false :: t, h, h8, suf, all, cur, hs => by
    have hs' : startOk (41 :: suf) := fun x u e => by simp only [List.cons.injEq] at e; rw [← e.1]; decide
    have ih := many_bad k t (by simpa using h) (by omega) (41 :: suf) [] ([] ++ [one1 97]) hs'
    have hp := piece_letter (r := 97) (by decide) (by decide) (gtext_start t hs') (8 - (k : Int))
    have he := expr_piece (all := []) (cur := []) (by decide) (by decide) hp ih
    rw [show (8 : Int) - (k : Int) = 8 - ((k + 1 : Nat) : Int) + 1 by omega] at he
    have e : (gtext (false :: t) ++ suf).length - preN (k + 1) (false :: t) = (gtext t ++ 41 :: suf).length - preN k t := by
      simp only [gtext, preN, List.length_append, List.length_cons, List.length_nil]; omega
    rw [e, show gtext (false :: t) ++ suf = 40 :: (97 :: (gtext t ++ 41 :: suf)) by simp [gtext]]
    exact expr_bad (by decide) (by decide) (piece_bad (atom_bad (grp_cap_bad (fun u e => by simp at e) (by omega) he)))
theorem groups_many {l : List Bool} (h : 8 < l.length) : Expr (gtext l) 0 [] [] (.bad 3 ((gtext l).length - preN 8 l)) := by
  have := many_bad 8 l h (by decide) [] [] [] startOk_nil
  simpa using this
end Go.Proofs.YtdoapojmenojoaaGreatDoor.Sx
end

section
/- A pattern of letters, of groups of one, of repeated ones: its tree, how large it is. -/
set_option linter.unusedVariables false
namespace Go.Proofs.YtdoapojmenojoaaGreatDoor.Sx
open Go.Proofs.YtdoapojmenojoaaGreatDoor
open Rn

def gs : Nat → Int → List Nd
  | 0, _ => []
  | m + 1, g => grp1 (g + 1) 98 :: gs m (g + 1)
def rform (i : Nat) : Nd := if i % 4 = 0 then rep1 0 (-1) false 99 else if i % 4 = 1 then rep1 1 (-1) true 99 else if i % 4 = 2 then rep1 2 2 false 99 else rep1 0 1 true 99
def rtext (i : Nat) : List Int := if i % 4 = 0 then [99, 42] else if i % 4 = 1 then [99, 43, 63] else if i % 4 = 2 then [99, 123, 50, 125] else [99, 63, 63]
def reps (k : Nat) : List Nd := (List.range k).map rform
theorem gs_forms : ∀ (m : Nat) (g : Int), 0 ≤ g → g + m ≤ 8 → Forms g (gs m g) (g + m)
  | 0, g, _, _ => by simpa [gs] using Forms.nil g
  | m + 1, g, h0, h => by
    have := gs_forms m (g + 1) (by omega) (by omega)
    rw [gs, show g + ((m + 1 : Nat) : Int) = g + 1 + (m : Int) by omega]
    exact .cons (grp1_form (by omega) (by decide) (by decide)) this
theorem rform_form (i : Nat) (g : Int) : Form g (rform i) g := by
  unfold rform
  split
  · exact rep1_form _ (by decide) (by decide) (.inl rfl) (by decide) (by decide)
  split
  · exact rep1_form _ (by decide) (by decide) (.inl rfl) (by decide) (by decide)
  split
  · exact rep1_form _ (by decide) (by decide) (.inr ⟨by decide, by decide⟩) (by decide) (by decide)
  · exact rep1_form _ (by decide) (by decide) (.inr ⟨by decide, by decide⟩) (by decide) (by decide)
theorem forms_same {g : Int} : ∀ {l : List Nd}, (∀ n ∈ l, Form g n g) → Forms g l g
  | [], _ => .nil g
  | n :: t, h => .cons (h n (by simp)) (forms_same (fun m hm => h m (by simp [hm])))
theorem gs_put : ∀ (m : Nat) (g : Int), (gs m g).flatMap put = (List.replicate m [40, 98, 41]).flatten
  | 0, g => rfl
  | m + 1, g => by rw [gs, List.flatMap_cons, gs_put m, put_grp1 _ _ (by decide), List.replicate_succ]; rfl
theorem rform_put (i : Nat) : put (rform i) = rtext i := by
  unfold rform rtext
  split
  · rw [put_rep1 _ _ _ _ (by decide)]; decide +kernel
  split
  · rw [put_rep1 _ _ _ _ (by decide)]; decide +kernel
  split
  · rw [put_rep1 _ _ _ _ (by decide)]; decide +kernel
  · rw [put_rep1 _ _ _ _ (by decide)]; decide +kernel
theorem reps_put (k : Nat) : (reps k).flatMap put = (List.range k).flatMap rtext := by
  unfold reps
  rw [List.flatMap_map]
  congr 1
  funext i
  exact rform_put i
theorem gs_sizes : ∀ (m : Nat) (g : Int), sizes (gs m g) = 2 * m
  | 0, g => by simp [gs, sizes]
  | m + 1, g => by rw [gs, sizes, gs_sizes m]; simp [grp1, one1, oneN, size, sizes]; omega
theorem rform_size (i : Nat) : size (rform i) = 2 := by
  unfold rform
  repeat' split
  all_goals simp [rep1, one1, oneN, size, sizes]
theorem sizes_app : ∀ (a b : List Nd), sizes (a ++ b) = sizes a + sizes b
  | [], b => by simp [sizes]
  | n :: t, b => by rw [List.cons_append, sizes, sizes, sizes_app t b]; omega
theorem reps_sizes : ∀ k : Nat, sizes (reps k) = 2 * k
  | 0 => by simp [reps, sizes]
  | k + 1 => by
    have := reps_sizes k
    unfold reps at this ⊢
    rw [List.range_succ, List.map_append, sizes_app, this, List.map_cons, List.map_nil, sizes, sizes, rform_size]
    omega
theorem gs_plain : ∀ (m : Nat) (g : Int), Plain (gs m g)
  | 0, g => fun n hn => by simp [gs] at hn
  | m + 1, g => fun n hn => by
    simp only [gs, List.mem_cons] at hn
    rcases hn with rfl | hn
    · simp [grp1, Nd.k]
    · exact gs_plain m _ n hn
theorem reps_plain (k : Nat) : Plain (reps k) := fun n hn => by
  obtain ⟨i, _, rfl⟩ := List.mem_map.1 hn
  unfold rform
  repeat' split
  all_goals simp [rep1, Nd.k]
def szList (n m k : Nat) : List Nd := (List.replicate n (97 : Int)).map one1 ++ gs m 0 ++ reps k
def szText (n m k : Nat) : List Int := List.replicate n 97 ++ (List.replicate m [40, 98, 41]).flatten ++ (List.range k).flatMap rtext
theorem sz_all (n m k : Nat) (h2 : 2 ≤ n) (h8 : m ≤ 8) : Expr (szText n m k) 0 [] [] (.ok (sequence (szList n m k)) [] m) ∧ Form 0 (sequence (szList n m k)) m ∧ put (sequence (szList n m k)) = szText n m k ∧
    size (sequence (szList n m k)) = 1 + n + 2 * m + 2 * k ∧ groups (sequence (szList n m k)) = m := by
  have hr : ∀ r ∈ List.replicate n (97 : Int), 0 ≤ r ∧ r ≤ 1114111 := fun r hr => by rw [(List.mem_replicate.1 hr).2]; decide
  have hf : Forms 0 (szList n m k) m := by
    have h1 := gs_forms m 0 (by decide) (by omega)
    rw [Int.zero_add] at h1
    exact forms_app (forms_app (ones_forms 0 _ hr) h1) (forms_same (fun x hx => by
      obtain ⟨i, _, rfl⟩ := List.mem_map.1 hx
      exact rform_form i m))
  have hp : Plain (szList n m k) := ((ones_plain _).app (gs_plain m 0)).app (reps_plain k)
  have ht : (szList n m k).flatMap put = szText n m k := by
    unfold szList szText
    rw [List.flatMap_append, List.flatMap_append, ones_put _ (fun r hr => by rw [(List.mem_replicate.1 hr).2]; decide), gs_put, reps_put]
  have hF := sequence_form hf
  refine ⟨by rw [← ht]; exact seq_parsed hf hp, hF, by rw [put_seq hp, ht], ?_, ?_⟩
  · have hl : (szList n m k).length ≠ 1 := by unfold szList; simp; omega
    rw [seq_size hp, if_neg hl]
    unfold szList
    rw [sizes_app, sizes_app, ones_sizes, gs_sizes, reps_sizes, List.length_replicate]; omega
  · rw [form_groups hF (by decide)]
    split <;> omega
/- letters alone, and behind them one that is special -/
theorem letters_parsed {ws : List Int} (hw : Letters ws) (hm : ∀ r ∈ ws, r ≤ 1114111) : Expr ws 0 [] [] (.ok (sequence (ws.map one1)) [] 0) ∧ Form 0 (sequence (ws.map one1)) 0 ∧ put (sequence (ws.map one1)) = ws ∧
    size (sequence (ws.map one1)) = if ws.length = 1 then 1 else 1 + ws.length := by
  have hf := ones_forms 0 ws (fun r hr => ⟨(hw r hr).2, hm r hr⟩)
  have hp := ones_plain ws
  have ht := ones_put ws (fun r hr => (hw r hr).1)
  refine ⟨?_, sequence_form hf, by rw [put_seq hp, ht], ?_⟩
  · have := seq_parsed hf hp; rwa [ht] at this
  · rw [seq_size hp, List.length_map, ones_sizes]
    split <;> omega
theorem letters_special {ws : List Int} (hw : Letters ws) (hm : ∀ r ∈ ws, r ≤ 1114111) {c : Int} (hc : special c = true) (h0 : 0 ≤ c) (h1 : c ≤ 1114111) :
    Expr (ws ++ [92, c]) 0 [] [] (.ok (sequence (ws.map one1 ++ [one1 c])) [] 0) ∧ Form 0 (sequence (ws.map one1 ++ [one1 c])) 0 ∧ put (sequence (ws.map one1 ++ [one1 c])) = ws ++ [92, c] ∧
    (1 ≤ ws.length → size (sequence (ws.map one1 ++ [one1 c])) = ws.length + 2) := by
  have hf : Forms 0 (ws.map one1 ++ [one1 c]) 0 := forms_app (ones_forms 0 ws (fun r hr => ⟨(hw r hr).2, hm r hr⟩)) (.cons (one1_form h0 h1 0) (.nil 0))
  have hp : Plain (ws.map one1 ++ [one1 c]) := (ones_plain ws).app (fun n hn => by simp at hn; subst hn; simp [one1, oneN, Nd.k])
  have ht : (ws.map one1 ++ [one1 c]).flatMap put = ws ++ [92, c] := by
    rw [List.flatMap_append, ones_put ws (fun r hr => (hw r hr).1), List.flatMap_cons, List.flatMap_nil, put_one1, if_pos hc]; rfl
  refine ⟨?_, sequence_form hf, by rw [put_seq hp, ht], fun hl => ?_⟩
  · have := seq_parsed hf hp; rwa [ht] at this
  · rw [seq_size hp, if_neg (fun e => by rw [List.length_append, List.length_map, List.length_singleton] at e; omega), sizes_app, ones_sizes]
    simp [one1, oneN, size, sizes]; omega
end Go.Proofs.YtdoapojmenojoaaGreatDoor.Sx
end

section
/- The chapter's examples, in plain words. -/
set_option linter.unusedVariables false
namespace Go.Proofs.YtdoapojmenojoaaGreatDoor.Sx
open Go.Proofs.YtdoapojmenojoaaGreatDoor
open Rn

abbrev exT1 : ByteArray := ⟨#[40, 97, 41, 98, 42, 63, 124, 91, 97, 45, 99, 93, 123, 50, 44, 125]⟩
abbrev exT2 : ByteArray := ⟨#[97, 41]⟩
abbrev exT3 : ByteArray := ⟨#[97, 42, 42]⟩
abbrev exT4 : ByteArray := ⟨#[40, 41, 40, 41, 40, 41, 40, 41, 40, 41, 40, 41, 40, 41, 40, 41, 40, 41]⟩
abbrev exT5 : ByteArray := ⟨#[40, 63, 58, 97, 41, 98]⟩
def exN1 : Nd := .mk 7 [] 0 0 false 0 [.mk 6 [] 0 0 false 0 [grp1 1 97, rep1 0 (-1) true 98], .mk 8 [] 2 (-1) false 0 [oneN [(97, 99)]]]
def exN5 : Nd := .mk 6 [] 0 0 false 0 [one1 97, one1 98]
theorem at_letter {r : Int} (h : special r = false) (h0 : 0 ≤ r) (t : List Int) (g : Int) : Atom (r :: t) g (.ok (one1 r) t g) := by
  have := atom_leaf (x := r) (t := t) (g := g) (letter_ne h (by decide))
  rwa [leaf_letter h h0] at this
def nine : Nat → List Int
  | 0 => []
  | k + 1 => 40 :: 41 :: nine k
end Go.Proofs.YtdoapojmenojoaaGreatDoor.Sx
end

section
/- The texts of pieces of patterns that the fifth stage's statements draw. -/
set_option linter.unusedVariables false
namespace Go.Proofs.YtdoapojmenojoaaGreatDoor
open Go.RowKit

/- a slice of bytes, cell by cell -/
def BCells (w : World) (a : Option Addr) (len : Nat) : Prop := len = 0 ∨ ∃ g off, a = some ⟨g, off, none⟩ ∧ g < w.heap.size ∧ ∀ i, i < len → ∃ c : Int, 0 ≤ c ∧ c ≤ 255 ∧ w.cell? ⟨g, off + i, none⟩ = some (.int .u8 c)
theorem bcells_of {w : World} {a : Option Addr} {len cap : Nat} {l : List UInt8} (h : BArg w a len cap l) : BCells w a len := by
  rcases h with ⟨h, _⟩ | ⟨g, off, rfl, hl, _, _, hb⟩
  · exact .inl h
  · by_cases h0 : len = 0
    · exact .inl h0
    · refine .inr ⟨g, off, rfl, ?_, fun i hi => ⟨_, (u8_lt _).1, (u8_lt _).2, hb i (by omega)⟩⟩
      have := hb 0 (by omega)
      exact World.block_lt_of_cell? w _ this
theorem barg_len {w : World} {a : Option Addr} {len cap : Nat} {l : List UInt8} (h : BArg w a len cap l) : len ≤ 140737488351232 ∧ len ≤ cap := by
  rcases h with ⟨rfl, rfl, _⟩ | ⟨g, off, rfl, hl, h1, h2, hb⟩ <;> omega
theorem BCells.below {w w' : World} {a : Option Addr} {len : Nat} (h : BCells w a len) (hb : Below w.heap.size w w') : BCells w' a len := by
  rcases h with h | ⟨g, off, ha, hg, h⟩
  · exact .inl h
  · refine .inr ⟨g, off, ha, Nat.lt_of_lt_of_le hg hb.size, fun i hi => ?_⟩
    obtain ⟨c, h0, h1, h2⟩ := h i hi
    exact ⟨c, h0, h1, (hb.cell (p := ⟨g, off + i, none⟩) hg).trans h2⟩
/- a text of runes that are right, all small, and of bytes that are none -/
def PatText (ws : List Int) (t : ByteArray) : Prop := t.data.toList = Sx.catT ws ∧ Sx.OkT ws ∧ Sx.Few ws
theorem PatText.nil : PatText [] ⟨#[]⟩ := ⟨rfl, Sx.OkT.nil, fun x h => by cases h⟩
theorem PatText.app {a b : List Int} {s t : ByteArray} (h : PatText a s) (h' : PatText b t) : PatText (a ++ b) (s ++ t) :=
  ⟨by rw [ByteArray.data_append, Array.toList_append, h.1, h'.1, Sx.catT_app], h.2.1.app h'.2.1, fun x hx => (List.mem_append.1 hx).elim (h.2.2 x) (h'.2.2 x)⟩
theorem pat_lit {ws : List Int} {t : ByteArray} (h : decide (t.data.toList = Sx.catT ws) = true) (ho : (ws.all fun x => decide (x = -1) || Rn.rightB x) = true) (hf : (ws.all fun x => decide (x ≤ 12288)) = true) : PatText ws t :=
  ⟨of_decide_eq_true h, fun y hy => by have := List.all_eq_true.1 ho y hy; simpa using this, fun y hy => by have := List.all_eq_true.1 hf y hy; simpa using this⟩
theorem pats_cell (w : World) (j : Nat) (hj : j < 36) : ∃ (p : ByteArray) (ws : List Int), (w.alloc (.cells #[.string ⟨#[97]⟩, .string ⟨#[98]⟩, .string ⟨#[99]⟩, .string ⟨#[46]⟩, .string ⟨#[124]⟩, .string ⟨#[42]⟩, .string ⟨#[43]⟩, .string ⟨#[63]⟩, .string ⟨#[40]⟩, .string ⟨#[41]⟩, .string ⟨#[40, 63, 58]⟩, .string ⟨#[123, 50, 125]⟩, .string ⟨#[123, 49, 44, 51, 125]⟩, .string ⟨#[123, 50, 44, 125]⟩, .string ⟨#[94]⟩, .string ⟨#[36]⟩, .string ⟨#[92, 98]⟩, .string ⟨#[92, 66]⟩, .string ⟨#[91, 97, 45, 99, 93]⟩, .string ⟨#[91, 94, 97, 93]⟩, .string ⟨#[92, 100]⟩, .string ⟨#[92, 119]⟩, .string ⟨#[92, 46]⟩, .string ⟨#[195, 169]⟩, .string ⟨#[40, 97, 124, 98, 41]⟩, .string ⟨#[40, 97, 42, 41, 42]⟩, .string ⟨#[40, 97, 98, 41, 43, 63]⟩, .string ⟨#[97, 63, 63]⟩, .string ⟨#[91]⟩, .string ⟨#[93]⟩, .string ⟨#[123]⟩, .string ⟨#[92]⟩, .string ⟨#[255]⟩, .string ⟨#[91, 226, 130, 172, 45, 226, 130, 175, 93]⟩, .string ⟨#[123, 51, 44, 50, 125]⟩, .string ⟨#[92, 113]⟩] 9)).cell? ⟨w.heap.size, j, none⟩ = some (.string p) ∧ PatText ws p ∧ p.size ≤ 9 := by
  rw [World.cell?_alloc_at _ _ _ _ rfl]
  match j, hj with
  | 0, _ => exact ⟨_, [97], rfl, pat_lit (by decide +kernel) (by decide +kernel) (by decide +kernel), by decide⟩
  | 1, _ => exact ⟨_, [98], rfl, pat_lit (by decide +kernel) (by decide +kernel) (by decide +kernel), by decide⟩
  | 2, _ => exact ⟨_, [99], rfl, pat_lit (by decide +kernel) (by decide +kernel) (by decide +kernel), by decide⟩
  | 3, _ => exact ⟨_, [46], rfl, pat_lit (by decide +kernel) (by decide +kernel) (by decide +kernel), by decide⟩
  | 4, _ => exact ⟨_, [124], rfl, pat_lit (by decide +kernel) (by decide +kernel) (by decide +kernel), by decide⟩
  | 5, _ => exact ⟨_, [42], rfl, pat_lit (by decide +kernel) (by decide +kernel) (by decide +kernel), by decide⟩
  | 6, _ => exact ⟨_, [43], rfl, pat_lit (by decide +kernel) (by decide +kernel) (by decide +kernel), by decide⟩
  | 7, _ => exact ⟨_, [63], rfl, pat_lit (by decide +kernel) (by decide +kernel) (by decide +kernel), by decide⟩
  | 8, _ => exact ⟨_, [40], rfl, pat_lit (by decide +kernel) (by decide +kernel) (by decide +kernel), by decide⟩
  | 9, _ => exact ⟨_, [41], rfl, pat_lit (by decide +kernel) (by decide +kernel) (by decide +kernel), by decide⟩
  | 10, _ => exact ⟨_, [40, 63, 58], rfl, pat_lit (by decide +kernel) (by decide +kernel) (by decide +kernel), by decide⟩
  | 11, _ => exact ⟨_, [123, 50, 125], rfl, pat_lit (by decide +kernel) (by decide +kernel) (by decide +kernel), by decide⟩
  | 12, _ => exact ⟨_, [123, 49, 44, 51, 125], rfl, pat_lit (by decide +kernel) (by decide +kernel) (by decide +kernel), by decide⟩
  | 13, _ => exact ⟨_, [123, 50, 44, 125], rfl, pat_lit (by decide +kernel) (by decide +kernel) (by decide +kernel), by decide⟩
  | 14, _ => exact ⟨_, [94], rfl, pat_lit (by decide +kernel) (by decide +kernel) (by decide +kernel), by decide⟩
  | 15, _ => exact ⟨_, [36], rfl, pat_lit (by decide +kernel) (by decide +kernel) (by decide +kernel), by decide⟩
  | 16, _ => exact ⟨_, [92, 98], rfl, pat_lit (by decide +kernel) (by decide +kernel) (by decide +kernel), by decide⟩
  | 17, _ => exact ⟨_, [92, 66], rfl, pat_lit (by decide +kernel) (by decide +kernel) (by decide +kernel), by decide⟩
  | 18, _ => exact ⟨_, [91, 97, 45, 99, 93], rfl, pat_lit (by decide +kernel) (by decide +kernel) (by decide +kernel), by decide⟩
  | 19, _ => exact ⟨_, [91, 94, 97, 93], rfl, pat_lit (by decide +kernel) (by decide +kernel) (by decide +kernel), by decide⟩
  | 20, _ => exact ⟨_, [92, 100], rfl, pat_lit (by decide +kernel) (by decide +kernel) (by decide +kernel), by decide⟩
  | 21, _ => exact ⟨_, [92, 119], rfl, pat_lit (by decide +kernel) (by decide +kernel) (by decide +kernel), by decide⟩
  | 22, _ => exact ⟨_, [92, 46], rfl, pat_lit (by decide +kernel) (by decide +kernel) (by decide +kernel), by decide⟩
  | 23, _ => exact ⟨_, [233], rfl, pat_lit (by decide +kernel) (by decide +kernel) (by decide +kernel), by decide⟩
  | 24, _ => exact ⟨_, [40, 97, 124, 98, 41], rfl, pat_lit (by decide +kernel) (by decide +kernel) (by decide +kernel), by decide⟩
  | 25, _ => exact ⟨_, [40, 97, 42, 41, 42], rfl, pat_lit (by decide +kernel) (by decide +kernel) (by decide +kernel), by decide⟩
  | 26, _ => exact ⟨_, [40, 97, 98, 41, 43, 63], rfl, pat_lit (by decide +kernel) (by decide +kernel) (by decide +kernel), by decide⟩
  | 27, _ => exact ⟨_, [97, 63, 63], rfl, pat_lit (by decide +kernel) (by decide +kernel) (by decide +kernel), by decide⟩
  | 28, _ => exact ⟨_, [91], rfl, pat_lit (by decide +kernel) (by decide +kernel) (by decide +kernel), by decide⟩
  | 29, _ => exact ⟨_, [93], rfl, pat_lit (by decide +kernel) (by decide +kernel) (by decide +kernel), by decide⟩
  | 30, _ => exact ⟨_, [123], rfl, pat_lit (by decide +kernel) (by decide +kernel) (by decide +kernel), by decide⟩
  | 31, _ => exact ⟨_, [92], rfl, pat_lit (by decide +kernel) (by decide +kernel) (by decide +kernel), by decide⟩
  | 32, _ => exact ⟨_, [-1], rfl, pat_lit (by decide +kernel) (by decide +kernel) (by decide +kernel), by decide⟩
  | 33, _ => exact ⟨_, [91, 8364, 45, 8367, 93], rfl, pat_lit (by decide +kernel) (by decide +kernel) (by decide +kernel), by decide⟩
  | 34, _ => exact ⟨_, [123, 51, 44, 50, 125], rfl, pat_lit (by decide +kernel) (by decide +kernel) (by decide +kernel), by decide⟩
  | 35, _ => exact ⟨_, [92, 113], rfl, pat_lit (by decide +kernel) (by decide +kernel) (by decide +kernel), by decide⟩
  | n + 36, h => exact absurd h (by omega)
def SomePat (w : World) (e : Ending) (w' : World) : Prop := ∃ (t : ByteArray) (ws : List Int), e = .returned (.string t) ∧ PatText ws t ∧ t.size ≤ 126 ∧ Below w.heap.size w w'
set_option maxRecDepth 20000 in
set_option maxHeartbeats 8000000 in
theorem patterns_any (a : Option Addr) (len cap : Nat) (w : World) (h : BCells w a len) (hl : len ≤ 140737488351232) :
    Calls Tryz.prog 13 #[.slice a len cap] w (SomePat w) := by
  have HB := Lib.hid h
  clear h
  go_enter Tryz.func13, Tryz.ntmps13
  go_wp2_with fail
  have hP := pats_cell w
  have bW : Below w.heap.size w (w.alloc (.cells #[.string ⟨#[97]⟩, .string ⟨#[98]⟩, .string ⟨#[99]⟩, .string ⟨#[46]⟩, .string ⟨#[124]⟩, .string ⟨#[42]⟩, .string ⟨#[43]⟩, .string ⟨#[63]⟩, .string ⟨#[40]⟩, .string ⟨#[41]⟩, .string ⟨#[40, 63, 58]⟩, .string ⟨#[123, 50, 125]⟩, .string ⟨#[123, 49, 44, 51, 125]⟩, .string ⟨#[123, 50, 44, 125]⟩, .string ⟨#[94]⟩, .string ⟨#[36]⟩, .string ⟨#[92, 98]⟩, .string ⟨#[92, 66]⟩, .string ⟨#[91, 97, 45, 99, 93]⟩, .string ⟨#[91, 94, 97, 93]⟩, .string ⟨#[92, 100]⟩, .string ⟨#[92, 119]⟩, .string ⟨#[92, 46]⟩, .string ⟨#[195, 169]⟩, .string ⟨#[40, 97, 124, 98, 41]⟩, .string ⟨#[40, 97, 42, 41, 42]⟩, .string ⟨#[40, 97, 98, 41, 43, 63]⟩, .string ⟨#[97, 63, 63]⟩, .string ⟨#[91]⟩, .string ⟨#[93]⟩, .string ⟨#[123]⟩, .string ⟨#[92]⟩, .string ⟨#[255]⟩, .string ⟨#[91, 226, 130, 172, 45, 226, 130, 175, 93]⟩, .string ⟨#[123, 51, 44, 50, 125]⟩, .string ⟨#[92, 113]⟩] 9)) := Below.alloc (Below.refl _ _) (Nat.le_refl _) _
  have zW : w.heap.size < (w.alloc (.cells #[.string ⟨#[97]⟩, .string ⟨#[98]⟩, .string ⟨#[99]⟩, .string ⟨#[46]⟩, .string ⟨#[124]⟩, .string ⟨#[42]⟩, .string ⟨#[43]⟩, .string ⟨#[63]⟩, .string ⟨#[40]⟩, .string ⟨#[41]⟩, .string ⟨#[40, 63, 58]⟩, .string ⟨#[123, 50, 125]⟩, .string ⟨#[123, 49, 44, 51, 125]⟩, .string ⟨#[123, 50, 44, 125]⟩, .string ⟨#[94]⟩, .string ⟨#[36]⟩, .string ⟨#[92, 98]⟩, .string ⟨#[92, 66]⟩, .string ⟨#[91, 97, 45, 99, 93]⟩, .string ⟨#[91, 94, 97, 93]⟩, .string ⟨#[92, 100]⟩, .string ⟨#[92, 119]⟩, .string ⟨#[92, 46]⟩, .string ⟨#[195, 169]⟩, .string ⟨#[40, 97, 124, 98, 41]⟩, .string ⟨#[40, 97, 42, 41, 42]⟩, .string ⟨#[40, 97, 98, 41, 43, 63]⟩, .string ⟨#[97, 63, 63]⟩, .string ⟨#[91]⟩, .string ⟨#[93]⟩, .string ⟨#[123]⟩, .string ⟨#[92]⟩, .string ⟨#[255]⟩, .string ⟨#[91, 226, 130, 172, 45, 226, 130, 175, 93]⟩, .string ⟨#[123, 51, 44, 50, 125]⟩, .string ⟨#[92, 113]⟩] 9)).heap.size := by simp
  generalize (w.alloc (.cells #[.string ⟨#[97]⟩, .string ⟨#[98]⟩, .string ⟨#[99]⟩, .string ⟨#[46]⟩, .string ⟨#[124]⟩, .string ⟨#[42]⟩, .string ⟨#[43]⟩, .string ⟨#[63]⟩, .string ⟨#[40]⟩, .string ⟨#[41]⟩, .string ⟨#[40, 63, 58]⟩, .string ⟨#[123, 50, 125]⟩, .string ⟨#[123, 49, 44, 51, 125]⟩, .string ⟨#[123, 50, 44, 125]⟩, .string ⟨#[94]⟩, .string ⟨#[36]⟩, .string ⟨#[92, 98]⟩, .string ⟨#[92, 66]⟩, .string ⟨#[91, 97, 45, 99, 93]⟩, .string ⟨#[91, 94, 97, 93]⟩, .string ⟨#[92, 100]⟩, .string ⟨#[92, 119]⟩, .string ⟨#[92, 46]⟩, .string ⟨#[195, 169]⟩, .string ⟨#[40, 97, 124, 98, 41]⟩, .string ⟨#[40, 97, 42, 41, 42]⟩, .string ⟨#[40, 97, 98, 41, 43, 63]⟩, .string ⟨#[97, 63, 63]⟩, .string ⟨#[91]⟩, .string ⟨#[93]⟩, .string ⟨#[123]⟩, .string ⟨#[92]⟩, .string ⟨#[255]⟩, .string ⟨#[91, 226, 130, 172, 45, 226, 130, 175, 93]⟩, .string ⟨#[123, 51, 44, 50, 125]⟩, .string ⟨#[92, 113]⟩] 9)) = W at *
  have HP := Lib.hid hP
  have hB := HB.out.below bW
  have HB' := Lib.hid hB
  clear hP hB HB
  go_loopw [4, 5] (fun s i wr => ∃ (k : Nat) (t : ByteArray) (ws : List Int), k ≤ len ∧ k ≤ 14 ∧ i = .int .i64 (k : Int) ∧ s = .string t ∧ t.size ≤ 9 * k ∧ Hid (PatText ws t) ∧ wr = W) (fun _ i _ => len - (intOf i).toNat)
  case atStart => exact ⟨0, ⟨#[]⟩, [], by omega, by omega, rfl, rfl, by decide, Lib.hid PatText.nil, rfl⟩
  case round =>
    obtain ⟨k, t, ws, hk, hk2, rfl, rfl, ht, hpt, rfl⟩ := hrel
    by_cases hlt : k < len ∧ k < 14
    · obtain ⟨h1, h2⟩ := hlt
      rcases HB'.out with h0 | ⟨g, off, rfl, hg, hc⟩
      · omega
      obtain ⟨c, c0, c1, hcc⟩ := hc k h1
      have hkl : (k : Int) < (len : Int) := by omega
      have hk14 : (k : Int) < 14 := by omega
      clear hc
      by_cases h210 : c < 210
      · obtain ⟨m, hm⟩ : ∃ m : Nat, c % 28 % 36 = (m : Int) := ⟨(c % 28 % 36).toNat, by omega⟩
        have hm36 : m < 36 := by omega
        obtain ⟨q, qs, hq, hqt, hq9⟩ := HP.out m hm36
        have HQ := Lib.hid (hpt.out.app hqt)
        clear hpt hqt
        go_wp2_with fail
        go_roundw
        case rel => exact ⟨k + 1, t ++ q, _, by omega, by omega, by go_num, rfl, by rw [ByteArray.size_append]; omega, HQ, by first | rfl | trivial⟩
        case measure => simp [intOf]; omega
      · obtain ⟨m, hm⟩ : ∃ m : Nat, c % 36 = (m : Int) := ⟨(c % 36).toNat, by omega⟩
        have hm36 : m < 36 := by omega
        obtain ⟨q, qs, hq, hqt, hq9⟩ := HP.out m hm36
        have HQ := Lib.hid (hpt.out.app hqt)
        clear hpt hqt
        go_wp2_with fail
        go_roundw
        case rel => exact ⟨k + 1, t ++ q, _, by omega, by omega, by go_num, rfl, by rw [ByteArray.size_append]; omega, HQ, by first | rfl | trivial⟩
        case measure => simp [intOf]; omega
    · rcases (show len ≤ k ∨ (k < len ∧ 14 ≤ k) by omega) with h1 | ⟨h1, h2⟩
      all_goals
        go_wp2_with fail
        go_ret
        exact ⟨_, ws, rfl, hpt.out, by omega, bW⟩
end Go.Proofs.YtdoapojmenojoaaGreatDoor
end
