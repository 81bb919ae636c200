import Derived.Test.YtdoapojmenojoaaGreatDoorJSynM8
import Derived.Test.YtdoapojmenojoaaGreatDoorJCRef
import Derived.Test.YtdoapojmenojoaaGreatDoorJRunesM
import Derived.Lib.IndexBytes
import Derived.Lib.AtoiAll
import Derived.Lib.ItoaNum
set_option linter.unusedSimpArgs false
set_option linter.unusedVariables false
section
/- What is parsed is right; its groups stand in order; two are the same just if they are put alike. -/
set_option linter.unusedVariables false
namespace Go.Proofs.YtdoapojmenojoaaGreatDoor.Sx
open Rn

theorem cat_inj {a b : List Int} (ha : OkL a) (hb : OkL b) (h : cat a = cat b) : a = b := by
  have h1 := toks_cat (s := ⟨(cat a).toArray⟩) ha.rights rfl
  have h2 := toks_cat (s := ⟨(cat a).toArray⟩) hb.rights h
  rw [← h1, h2]
theorem parsed_ok {s : ByteArray} {n : Nd} {a : Int} (h : Parsed s n a 0) : s.size ≤ 200 ∧ ((∃ g, Expr (toks s) 0 [] [] (.ok n [] g) ∧ a = s.size) ∨ ∃ left, Expr (toks s) 0 [] [] (.bad 0 left)) := by
  cases h with
  | ok _ g hz he => exact ⟨hz, .inl ⟨g, he, rfl⟩⟩
  | bad _ left hz he => exact ⟨hz, .inr ⟨left, he⟩⟩
/- no error is 0 -/
def BadAt (f : Nat) : Prop :=
  (∀ l g all cur e s, expr f l g all cur = .bad e s → e = 2 ∨ e = 3) ∧ (∀ l g e s, piece f l g = .bad e s → e = 2 ∨ e = 3) ∧
  (∀ l g e s, atom f l g = .bad e s → e = 2 ∨ e = 3) ∧ (∀ l g s0 e s, group f l g s0 = .bad e s → e = 2 ∨ e = 3)
theorem leaf_bad {x g e : Int} {t : List Int} {s : Nat} (h : leaf x t g = .bad e s) : e = 2 ∨ e = 3 := by
  unfold leaf at h
  split at h
  · cases h
  split at h
  · cases h
  split at h
  · cases h
  split at h
  · split at h
    · cases h; exact .inl rfl
    · split at h
      · cases h
      split at h
      · cases h
      split at h
      · cases h; exact .inl rfl
      · cases h
  split at h
  · split at h
    · cases h; exact .inl rfl
    · cases h
  split at h
  · cases h; exact .inl rfl
  · cases h
theorem bad_at : ∀ f : Nat, BadAt f
  | 0 => ⟨(fun l g all cur e s h => by rw [expr] at h; cases h), (fun l g e s h => by rw [piece] at h; cases h), (fun l g e s h => by rw [atom] at h; cases h), (fun l g s0 e s h => by rw [group] at h; cases h)⟩
  | f + 1 => by
    obtain ⟨iE, iP, iA, iG⟩ := bad_at f
    refine ⟨?_, ?_, ?_, ?_⟩
    · intro l g all cur e s h
      rw [expr.eq_def] at h
      simp only at h
      split at h
      · cases h
      · split at h
        · cases h
        split at h
        · exact iE _ _ _ _ _ _ h
        · split at h
          · exact iE _ _ _ _ _ _ h
          · exact iP _ _ _ _ h
    · intro l g e s h
      rw [piece] at h
      split at h
      · split at h
        · cases h
        · cases h; exact .inl rfl
        · cases h
      · exact iA _ _ _ _ h
    · intro l g e s h
      rw [atom.eq_def] at h
      simp only at h
      split at h
      · cases h; exact .inl rfl
      · split at h
        · exact iG _ _ _ _ _ h
        · exact leaf_bad h
    · intro l g s0 e s h
      rw [group.eq_def] at h
      simp only at h
      split at h
      · split at h
        · cases h
        · cases h; exact .inl rfl
        · exact iE _ _ _ _ _ _ h
      · split at h
        · cases h; exact .inr rfl
        · split at h
          · cases h
          · cases h; exact .inl rfl
          · exact iE _ _ _ _ _ _ h
theorem expr_bad_e {l : List Int} {g e : Int} {all cur : List Nd} {s : Nat} (h : Expr l g all cur (.bad e s)) : e = 2 ∨ e = 3 := by
  obtain ⟨F, hF⟩ := h
  exact (bad_at F).1 _ _ _ _ _ _ (hF F (Nat.le_refl _))
theorem parsed_tree {s : ByteArray} {n : Nd} {a : Int} (h : Parsed s n a 0) : s.size ≤ 200 ∧ a = s.size ∧ ∃ g, Expr (toks s) 0 [] [] (.ok n [] g) := by
  obtain ⟨hz, h | ⟨left, h⟩⟩ := parsed_ok h
  · obtain ⟨g, he, ha⟩ := h
    exact ⟨hz, ha, g, he⟩
  · have := expr_bad_e h; omega
/- two that were parsed are the same just if they are put alike -/
theorem same_put {s t : ByteArray} {n m : Nd} {a b : Int} (h : Parsed s n a 0) (h' : Parsed t m b 0) (hs : Few (toks s)) (ht : Few (toks t)) : n = m ↔ cat (put n) = cat (put m) := by
  obtain ⟨_, _, g, he⟩ := parsed_tree h
  obtain ⟨_, _, g', he'⟩ := parsed_tree h'
  have f1 := parsed_form he hs.top
  have f2 := parsed_form he' ht.top
  refine ⟨fun h => by rw [h], fun h => put_inj f1 f2 (cat_inj (form_ok f1 (parsed_ends he hs)) (form_ok f2 (parsed_ends he' ht)) h)⟩
/- what is put of what was parsed is parsed as it was -/
theorem back_parsed {s t : ByteArray} {n : Nd} {a : Int} (h : Parsed s n a 0) (hs : Few (toks s)) (ht : t.data.toList = cat (put n)) (hz : t.size ≤ 200) : Parsed t n t.size 0 := by
  obtain ⟨_, _, g, he⟩ := parsed_tree h
  exact text_parsed (parsed_form he hs.top) (parsed_ends he hs) ht hz
/- right -/
mutual
def right : Nd → Prop
  | .mk k c mn mx lz g l => rights l ∧ 0 ≤ k ∧ k ≤ 9 ∧ (c ≠ [] ↔ k = 1) ∧ RightP c ∧
    (if k = 8 then 0 ≤ mn ∧ mn ≤ 20 ∧ (mx = -1 ∨ mn ≤ mx ∧ mx ≤ 20) else mn = 0 ∧ mx = 0 ∧ lz = false) ∧ (if k = 9 then 1 ≤ g ∧ g ≤ 8 else g = 0) ∧
    (if k = 6 ∨ k = 7 then 2 ≤ l.length else if k = 8 ∨ k = 9 then l.length = 1 else l = [])
def rights : List Nd → Prop
  | [] => True
  | n :: l => right n ∧ rights l
end
theorem nf_rightP {l : List Cl.Rg} (h : Cl.NF l) (hl : l.length ≤ 64) : RightP l := by
  refine ⟨hl, fun j hj r hr => ⟨h.2 r (List.mem_of_getElem? hr), fun i s hi hs => ?_⟩⟩
  subst hi
  have h1 := (List.pairwise_iff_getElem.1 h.1) i (i + 1) (List.getElem?_eq_some_iff.1 hs).1 (List.getElem?_eq_some_iff.1 hr).1 (by omega)
  rw [(List.getElem?_eq_some_iff.1 hs).2, (List.getElem?_eq_some_iff.1 hr).2] at h1
  exact h1
mutual
theorem form_mono : ∀ {g g' : Int} {n : Nd}, Form g n g' → g ≤ g' ∧ (g ≤ 8 → g' ≤ 8)
  | _, _, _, .empty g => ⟨Int.le_refl _, id⟩
  | _, _, _, .one g c _ _ _ => ⟨Int.le_refl _, id⟩
  | _, _, _, .mark g k _ => ⟨Int.le_refl _, id⟩
  | _, _, _, .cat h _ _ => forms_mono h
  | _, _, _, .alt h _ _ => forms_mono h
  | _, _, _, .rep mn mx lz h _ _ _ => form_mono h
  | _, _, _, .grp hg h => by have := form_mono h; omega
theorem forms_mono : ∀ {g g' : Int} {l : List Nd}, Forms g l g' → g ≤ g' ∧ (g ≤ 8 → g' ≤ 8)
  | _, _, _, .nil g => ⟨Int.le_refl _, id⟩
  | _, _, _, .cons h hl => by have := form_mono h; have := forms_mono hl; omega
end
mutual
theorem form_right : ∀ {g g' : Int} {n : Nd}, Form g n g' → 0 ≤ g → right n
  | _, _, _, .empty g, _ => by
    rw [empty, right, rights]; exact ⟨trivial, by decide, by decide, by simp, nf_rightP Cl.nf_nil (by simp), by simp, by simp, by simp⟩
  | _, _, _, .one g c hn h0 h64, _ => by
    rw [oneN, right, rights]; exact ⟨trivial, by decide, by decide, by simp [h0], nf_rightP hn h64, by simp, by simp, by simp⟩
  | _, _, _, .mark g k hk, _ => by
    unfold isMark at hk
    rw [mark, right, rights]
    exact ⟨trivial, by omega, by omega, by simp; omega, nf_rightP Cl.nf_nil (by simp), by rw [if_neg (by omega)]; simp, by rw [if_neg (by omega)], by rw [if_neg (by omega), if_neg (by omega)]⟩
  | _, _, _, .cat h h2 _, h0 => by
    rw [right]; exact ⟨forms_right h h0, by decide, by decide, by simp, nf_rightP Cl.nf_nil (by simp), by simp, by simp, by simp [h2]⟩
  | _, _, _, .alt h h2 _, h0 => by
    rw [right]; exact ⟨forms_right h h0, by decide, by decide, by simp, nf_rightP Cl.nf_nil (by simp), by simp, by simp, by simp [h2]⟩
  | _, _, _, .rep mn mx lz h a b c, h0 => by
    rw [right, rights, rights]; exact ⟨⟨form_right h h0, trivial⟩, by decide, by decide, by simp, nf_rightP Cl.nf_nil (by simp), by rw [if_pos rfl]; exact ⟨a, b, c⟩, by simp, by simp⟩
  | _, _, _, .grp (g := g) hg h, h0 => by
    rw [right, rights, rights]; exact ⟨⟨form_right h (by omega), trivial⟩, by decide, by decide, by simp, nf_rightP Cl.nf_nil (by simp), by simp, by rw [if_pos rfl]; omega, by simp⟩
theorem forms_right : ∀ {g g' : Int} {l : List Nd}, Forms g l g' → 0 ≤ g → rights l
  | _, _, _, .nil g, _ => by rw [rights]; trivial
  | _, _, _, .cons h hl, h0 => by
    rw [rights]; exact ⟨form_right h h0, forms_right hl (by have := form_mono h; omega)⟩
end
/- the groups, as they stand -/
def up : Int → Nat → List Int
  | _, 0 => []
  | g, k + 1 => (g + 1) :: up (g + 1) k
theorem up_app : ∀ (a b : Nat) (g : Int), up g (a + b) = up g a ++ up (g + a) b
  | 0, b, g => by simp [up]
  | a + 1, b, g => by
    rw [show a + 1 + b = (a + b) + 1 by omega, up, up, up_app a b (g + 1)]
    rw [show g + 1 + (a : Int) = g + ((a + 1 : Nat) : Int) by omega]; rfl
mutual
def glist : Nd → List Int
  | .mk k _ _ _ _ g l => (if k = 9 then [g] else []) ++ glists l
def glists : List Nd → List Int
  | [] => []
  | n :: l => glist n ++ glists l
end
mutual
theorem form_glist : ∀ {g g' : Int} {n : Nd}, Form g n g' → ∃ k : Nat, g' = g + k ∧ glist n = up g k
  | _, _, _, .empty g => ⟨0, by omega, by simp [empty, glist, glists, up]⟩
  | _, _, _, .one g c _ _ _ => ⟨0, by omega, by simp [oneN, glist, glists, up]⟩
  | _, _, _, .mark g k h => ⟨0, by omega, by unfold isMark at h; rw [mark, glist, glists, if_neg (by omega)]; rfl⟩
  | _, _, _, .cat h _ _ => by
    obtain ⟨k, a, b⟩ := forms_glist h
    exact ⟨k, a, by rw [glist, b]; simp⟩
  | _, _, _, .alt h _ _ => by
    obtain ⟨k, a, b⟩ := forms_glist h
    exact ⟨k, a, by rw [glist, b]; simp⟩
  | _, _, _, .rep mn mx lz h _ _ _ => by
    obtain ⟨k, a, b⟩ := form_glist h
    exact ⟨k, a, by rw [glist, glists, glists, b]; simp⟩
  | _, _, _, .grp hg h => by
    obtain ⟨k, a, b⟩ := form_glist h
    exact ⟨k + 1, by omega, by rw [glist, glists, glists, b, up]; simp⟩
theorem forms_glist : ∀ {g g' : Int} {l : List Nd}, Forms g l g' → ∃ k : Nat, g' = g + k ∧ glists l = up g k
  | _, _, _, .nil g => ⟨0, by omega, by simp [glists, up]⟩
  | _, _, _, .cons h hl => by
    obtain ⟨k, a, b⟩ := form_glist h
    obtain ⟨k', a', b'⟩ := forms_glist hl
    refine ⟨k + k', by omega, ?_⟩
    rw [glists, b, b', up_app, a]
end
/- the greatest group -/
mutual
theorem form_groups : ∀ {g g' : Int} {n : Nd}, Form g n g' → 0 ≤ g → groups n = if g < g' then g' else 0
  | _, _, _, .empty g, h0 => by rw [empty, groups, groupsL, if_neg (by omega)]; decide
  | _, _, _, .one g c _ _ _, h0 => by rw [oneN, groups, groupsL, if_neg (by omega)]; decide
  | _, _, _, .mark g k h, h0 => by rw [mark, groups, groupsL, if_neg (by omega)]; decide
  | _, _, _, .cat h _ _, h0 => by
    rw [groups, forms_groups h h0 _ (by omega)]
    split <;> omega
  | _, _, _, .alt h _ _, h0 => by
    rw [groups, forms_groups h h0 _ (by omega)]
    split <;> omega
  | _, _, _, .rep mn mx lz h _ _ _, h0 => by
    rw [groups, groupsL, groupsL, form_groups h h0]
    split <;> omega
  | _, _, _, .grp (g := g) (g' := g') hg h, h0 => by
    have := (form_mono h).1
    rw [groups, groupsL, groupsL, form_groups h (by omega), if_pos (show g < g' by omega)]
    split <;> omega
theorem forms_groups : ∀ {g g' : Int} {l : List Nd}, Forms g l g' → 0 ≤ g → ∀ m, 0 ≤ m → groupsL m l = max m (if g < g' then g' else 0)
  | _, _, _, .nil g, h0, m, hm => by rw [groupsL, if_neg (by omega)]; omega
  | _, _, _, .cons h hl, h0, m, hm => by
    have a := (form_mono h).1
    have b := (forms_mono hl).1
    rw [groupsL, form_groups h h0, forms_groups hl (by omega) _ (by omega)]
    split <;> split <;> split <;> omega
end
end Go.Proofs.YtdoapojmenojoaaGreatDoor.Sx
end

section
/- A pattern gone through once from the left, by a stack of what is open: as chapter 5's forms say. -/
set_option linter.unusedVariables false
namespace Go.Proofs.YtdoapojmenojoaaGreatDoor.Sx

/- an expression that is not through: its number, its sequences, the pieces of the last one, whether the last piece may be repeated -/
structure E where
  g : Int
  ah : List Nd
  la : List Nd
  at' : Bool
def E.new (g : Int) : E := ⟨g, [], [], false⟩
def E.turn (e : E) : E := ⟨e.g, e.ah ++ [sequence e.la], [], false⟩
def E.thr (e : E) : Nd := choice (e.ah ++ [sequence e.la])
def E.add (e : E) (n : Nd) : E := ⟨e.g, e.ah, e.la ++ [n], true⟩
def wrapG (g : Int) (n : Nd) : Nd := if 0 < g then .mk 9 [] 0 0 false g [n] else n
def rep (mn mx : Int) (lz : Bool) (n : Nd) : Nd := .mk 8 [] mn mx lz 0 [n]
/- what a stack of open ones comes to, the runes l ahead -/
inductive Ran : List Int → Int → E → List E → R → Prop
  | fin (g : Int) (e : E) : Ran [] g e [] (.ok e.thr [] g)
  | endBad (g : Int) (e e' : E) (es : List E) : Ran [] g e (e' :: es) (.bad 2 0)
  | turn {t : List Int} {g : Int} {e : E} {es : List E} {r : R} : Ran t g e.turn es r → Ran (124 :: t) g e es r
  | non {t : List Int} {g : Int} {e : E} {es : List E} {r : R} : Ran t g (E.new 0) (e :: es) r → Ran (40 :: 63 :: 58 :: t) g e es r
  | cap {t : List Int} {g : Int} {e : E} {es : List E} {r : R} : (∀ u, t ≠ 63 :: 58 :: u) → 0 ≤ g → g + 1 ≤ 8 → Ran t (g + 1) (E.new (g + 1)) (e :: es) r → Ran (40 :: t) g e es r
  | many {t : List Int} {g : Int} {e : E} {es : List E} : (∀ u, t ≠ 63 :: 58 :: u) → 8 < g + 1 → Ran (40 :: t) g e es (.bad 3 (t.length + 1))
  | leave {t : List Int} {g : Int} {e e' : E} {es : List E} {r : R} : Ran t g (e'.add (wrapG e.g e.thr)) es r → Ran (41 :: t) g e (e' :: es) r
  | leaveBad (t : List Int) (g : Int) (e : E) : Ran (41 :: t) g e [] (.bad 2 (t.length + 1))
  | rep {l t : List Int} {g mn mx : Int} {e : E} {es : List E} {r : R} {la : List Nd} {n : Nd} : quant l = some (some (mn, mx, t)) → e.at' = true → e.la = la ++ [n] →
      Ran (lazyB t).2 g ⟨e.g, e.ah, la ++ [Sx.rep mn mx (lazyB t).1 n], false⟩ es r → Ran l g e es r
  | repBad {l : List Int} {g : Int} {e : E} (es : List E) {q : Option (Int × Int × List Int)} : quant l = some q → q = none ∨ e.at' = false → Ran l g e es (.bad 2 l.length)
  | leaf {x : Int} {t t' : List Int} {g : Int} {e : E} {es : List E} {r : R} {n : Nd} : quant (x :: t) = none → x ≠ 40 → x ≠ 41 → x ≠ 124 → leaf x t g = .ok n t' g → Ran t' g (e.add n) es r → Ran (x :: t) g e es r
  | leafBad {x : Int} {t : List Int} {g : Int} {e : E} (es : List E) {k : Int} {s : Nat} : quant (x :: t) = none → x ≠ 40 → x ≠ 41 → x ≠ 124 → Sx.leaf x t g = .bad k s → Ran (x :: t) g e es (.bad k s)
/- what the forms say: r0 is what the inner one comes to -/
def Fin : Int → R → List E → R → Prop
  | _, .ok n t g, [], r => r = if t = [] then .ok n [] g else .bad 2 t.length
  | gr, .ok n t g, e :: es, r =>
    match t with
    | 41 :: t' =>
      match quant t' with
      | none => ∃ r0, Expr t' g e.ah (e.la ++ [wrapG gr n]) r0 ∧ Fin e.g r0 es r
      | some none => r = .bad 2 t'.length
      | some (some (mn, mx, t'')) => ∃ r0, Expr (lazyB t'').2 g e.ah (e.la ++ [Sx.rep mn mx (lazyB t'').1 (wrapG gr n)]) r0 ∧ Fin e.g r0 es r
    | _ => r = .bad 2 0
  | _, .bad k s, _, r => r = .bad k s
  | _, .out, _, _ => False
def Aft (n : Nd) (t : List Int) (g : Int) (gr : Int) (ah la : List Nd) (es : List E) (r : R) : Prop :=
  match quant t with
  | none => ∃ r0, Expr t g ah (la ++ [n]) r0 ∧ Fin gr r0 es r
  | some none => r = .bad 2 t.length
  | some (some (mn, mx, t')) => ∃ r0, Expr (lazyB t').2 g ah (la ++ [Sx.rep mn mx (lazyB t').1 n]) r0 ∧ Fin gr r0 es r
theorem fin_aft {gr g : Int} {n : Nd} {t : List Int} {e : E} {es : List E} {r : R} : Fin gr (.ok n (41 :: t) g) (e :: es) r ↔ Aft (wrapG gr n) t g e.g e.ah e.la es r := by
  rw [Fin]; rfl
theorem fin_bad {gr k : Int} {s : Nat} {es : List E} : Fin gr (.bad k s) es (.bad k s) := by cases es <;> rw [Fin]
theorem fin_bad_eq {gr k : Int} {s : Nat} {es : List E} {r : R} (h : Fin gr (.bad k s) es r) : r = .bad k s := by cases es <;> (rw [Fin] at h; exact h)
/- behind an atom -/
theorem aft_expr {x : Int} {t t' : List Int} {g g' gr : Int} {n : Nd} {ah la : List Nd} {es : List E} {r : R} (h1 : x ≠ 41) (h2 : x ≠ 124) (ha : Atom (x :: t) g (.ok n t' g')) (h : Aft n t' g' gr ah la es r) :
    ∃ r0, Expr (x :: t) g ah la r0 ∧ Fin gr r0 es r := by
  unfold Aft at h
  split at h
  next hq =>
    obtain ⟨r0, he, hf⟩ := h
    exact ⟨r0, expr_piece h1 h2 (piece_plain ha hq) he, hf⟩
  next hq => subst h; exact ⟨_, expr_bad h1 h2 (piece_times ha hq), fin_bad⟩
  next mn mx t'' hq =>
    obtain ⟨r0, he, hf⟩ := h
    exact ⟨r0, expr_piece h1 h2 (piece_rep ha hq) he, hf⟩
theorem bad_expr {x : Int} {t : List Int} {g gr k : Int} {s : Nat} {ah la : List Nd} (es : List E) (h1 : x ≠ 41) (h2 : x ≠ 124) (ha : Atom (x :: t) g (.bad k s)) :
    ∃ r0, Expr (x :: t) g ah la r0 ∧ Fin gr r0 es (.bad k s) := ⟨_, expr_bad h1 h2 (piece_bad ha), fin_bad⟩
theorem quant_some {l : List Int} {q : Option (Int × Int × List Int)} (h : quant l = some q) : ∃ x t, l = x :: t ∧ (x = 42 ∨ x = 43 ∨ x = 63 ∨ x = 123) := by
  unfold quant at h
  split at h
  · exact ⟨_, _, rfl, by omega⟩
  · exact ⟨_, _, rfl, by omega⟩
  · exact ⟨_, _, rfl, by omega⟩
  · exact ⟨_, _, rfl, by omega⟩
  · cases h
theorem quant_expr {l : List Int} {q : Option (Int × Int × List Int)} (h : quant l = some q) (g : Int) (ah la : List Nd) : Expr l g ah la (.bad 2 l.length) := by
  obtain ⟨x, t, rfl, hx⟩ := quant_some h
  have hl : leaf x t g = .bad 2 (t.length + 1) := by
    have hs : special x = true := by rcases hx with rfl | rfl | rfl | rfl <;> decide
    unfold leaf
    rw [if_neg (by omega), if_neg (by omega), if_neg (by omega), if_neg (by omega), if_neg (by omega), if_pos (.inr hs)]
  have := atom_leaf (x := x) (t := t) (g := g) (by omega)
  rw [hl] at this
  exact expr_bad (by omega) (by omega) (piece_bad this)
/- behind an atom that nothing repeats -/
theorem aft_plain {n : Nd} {l : List Int} {g gr : Int} {ah la : List Nd} {es : List E} {r : R} (hq : quant l = none) (h : ∃ r0, Expr l g ah (la ++ [n]) r0 ∧ Fin gr r0 es r) : Aft n l g gr ah la es r := by
  unfold Aft; rw [hq]; exact h
/- what a group within comes to -/
theorem grp_fin {t : List Int} {g gr : Int} {r0 r : R} {e : E} {es : List E} (hf : Fin gr r0 (e :: es) r)
    (hok : ∀ n t' g', r0 = .ok n (41 :: t') g' → Atom (40 :: t) g (.ok (wrapG gr n) t' g')) (hop : ∀ n t' g', r0 = .ok n t' g' → (∀ u, t' ≠ 41 :: u) → Atom (40 :: t) g (.bad 2 0)) (hbad : ∀ k s, r0 = .bad k s → Atom (40 :: t) g (.bad k s)) :
    ∃ r1, Expr (40 :: t) g e.ah e.la r1 ∧ Fin e.g r1 es r := by
  cases r0 with
  | ok n t' g' =>
    by_cases h41 : ∃ u, t' = 41 :: u
    · obtain ⟨u, rfl⟩ := h41
      exact aft_expr (by decide) (by decide) (hok n u g' rfl) (fin_aft.1 hf)
    · have ho := hop n t' g' rfl (fun u h => h41 ⟨u, h⟩)
      have hr : r = .bad 2 0 := by
        rw [Fin] at hf
        · exact hf
        · exact fun u h => h41 ⟨u, h⟩
      subst hr
      exact bad_expr es (by decide) (by decide) ho
  | bad k s =>
    obtain rfl := fin_bad_eq hf
    exact bad_expr es (by decide) (by decide) (hbad k s rfl)
  | out => rw [Fin] at hf; exact hf.elim
theorem grp_open {t t' : List Int} {g g' : Int} {s : Nat} {n : Nd} (h : Expr t g [] [] (.ok n t' g')) (ht : ∀ u, t' ≠ 41 :: u) : Grp (63 :: 58 :: t) g s (.bad 2 0) := by
  obtain ⟨F, hF⟩ := h
  exact ⟨F + 1, fun f h => by
    obtain ⟨f', rfl, h'⟩ := ge_succ h
    rw [group, hF f' h']
    cases t' with
    | nil => rfl
    | cons y u =>
      simp only⟩
theorem grp_capOpen {t t' : List Int} {g g' : Int} {s : Nat} {n : Nd} (hn : ∀ u, t ≠ 63 :: 58 :: u) (hg : g + 1 ≤ 8) (h : Expr t (g + 1) [] [] (.ok n t' g')) (ht : ∀ u, t' ≠ 41 :: u) : Grp t g s (.bad 2 0) := by
  obtain ⟨F, hF⟩ := h
  exact ⟨F + 1, fun f h => by
    obtain ⟨f', rfl, h'⟩ := ge_succ h
    rw [group]
    · simp only [show ¬ 8 < g + 1 by omega, if_false]; rw [hF f' h']
      cases t' with
      | nil => rfl
      | cons y u =>
        simp only
    · exact fun u hu => hn u hu⟩
def Sem (l : List Int) (g : Int) (e : E) (es : List E) (r : R) : Prop :=
  (e.at' = false → ∃ r0, Expr l g e.ah e.la r0 ∧ Fin e.g r0 es r) ∧ (e.at' = true → ∃ la n, e.la = la ++ [n] ∧ Aft n l g e.g e.ah la es r)
theorem sem_both {l : List Int} {g : Int} {e : E} {es : List E} {r : R} (hq : quant l = none) (hla : e.at' = true → e.la ≠ []) (h : ∃ r0, Expr l g e.ah e.la r0 ∧ Fin e.g r0 es r) : Sem l g e es r := by
  refine ⟨fun _ => h, fun ha => ?_⟩
  have := List.dropLast_concat_getLast (hla ha)
  refine ⟨e.la.dropLast, e.la.getLast (hla ha), this.symm, aft_plain hq ?_⟩
  rw [this]; exact h
/- a stack is so: where the last piece may be repeated there is one -/
def OkE (e : E) : Prop := e.at' = true → e.la ≠ []
theorem okE_add (e : E) (n : Nd) : OkE (e.add n) := fun _ => by simp [E.add]
theorem ran_sem {l : List Int} {g : Int} {e : E} {es : List E} {r : R} (h : Ran l g e es r) : OkE e → (∀ x ∈ es, OkE x) → Sem l g e es r := by
  induction h with
  | fin g e =>
    intro ho _
    exact sem_both rfl ho ⟨_, expr_nil g e.ah e.la, by rw [Fin]; simp [E.thr]⟩
  | endBad g e e' es =>
    intro ho _
    exact sem_both rfl ho ⟨_, expr_nil g e.ah e.la, by rw [Fin]; exact fun t' h => by cases h⟩
  | turn _ ih =>
    intro ho hs
    obtain ⟨r0, he, hf⟩ := (ih (fun h => by cases h) hs).1 rfl
    exact sem_both rfl ho ⟨r0, expr_bar he, hf⟩
  | @non t g e es r _ ih =>
    intro ho hs
    obtain ⟨r0, he, hf⟩ := (ih (fun h => by cases h) (fun x hx => by rcases List.mem_cons.1 hx with rfl | hx <;> first | exact ho | exact hs _ hx)).1 rfl
    refine sem_both rfl ho (grp_fin hf ?_ ?_ ?_)
    · rintro n t' g' rfl
      exact atom_group (grp_non he)
    · rintro n t' g' rfl hn
      exact atom_bad (grp_open he hn)
    · rintro k s rfl
      exact atom_bad (grp_non_bad he)
  | @cap t g e es r hn hg0 hg _ ih =>
    intro ho hs
    obtain ⟨r0, he, hf⟩ := (ih (fun h => by cases h) (fun x hx => by rcases List.mem_cons.1 hx with rfl | hx <;> first | exact ho | exact hs _ hx)).1 rfl
    refine sem_both rfl ho (grp_fin hf ?_ ?_ ?_)
    · rintro n t' g' rfl
      rw [show wrapG (E.new (g + 1)).g n = .mk 9 [] 0 0 false (g + 1) [n] by unfold wrapG; rw [if_pos (show 0 < (E.new (g + 1)).g from (show 0 < g + 1 by omega))]; rfl]
      exact atom_group (grp_cap hn hg he)
    · rintro n t' g' rfl hn'
      exact atom_bad (grp_capOpen hn hg he hn')
    · rintro k s rfl
      exact atom_bad (grp_cap_bad hn hg he)
  | many hn hg =>
    intro ho _
    exact sem_both rfl ho (bad_expr _ (by decide) (by decide) (atom_bad (grp_many hn hg)))
  | @leave t g e e' es r _ ih =>
    intro ho hs
    obtain ⟨la, n, hla, ha⟩ := (ih (okE_add _ _) (fun x hx => hs x (List.mem_cons_of_mem _ hx))).2 rfl
    refine sem_both rfl ho ⟨_, expr_close t g e.ah e.la, fin_aft.2 ?_⟩
    simp only [E.add] at hla
    obtain ⟨h1, h2⟩ := List.append_inj' hla rfl
    simp only [List.cons.injEq, and_true] at h2
    subst h1; subst h2
    exact ha
  | leaveBad t g e =>
    intro ho _
    exact sem_both rfl ho ⟨_, expr_close t g e.ah e.la, by rw [Fin]; simp⟩
  | @rep l t g mn mx e es r la n hq hat hla _ ih =>
    intro ho hs
    obtain ⟨r0, he, hf⟩ := (ih (fun h => by cases h) hs).1 rfl
    refine And.intro (fun h => by rw [hat] at h; cases h) (fun _ => ⟨_, _, hla, ?_⟩)
    unfold Aft
    rw [hq]
    exact ⟨r0, he, hf⟩
  | @repBad l g e es q hq hb =>
    intro ho hs
    refine ⟨fun _ => ⟨_, quant_expr hq g e.ah e.la, fin_bad⟩, fun hat => ?_⟩
    have hqn : q = none := hb.elim id (fun h => by rw [hat] at h; cases h)
    subst hqn
    refine ⟨e.la.dropLast, e.la.getLast (ho hat), (List.dropLast_concat_getLast (ho hat)).symm, ?_⟩
    unfold Aft
    rw [hq]
  | @leaf x t t' g e es r n hq h40 h41 h124 hl _ ih =>
    intro ho hs
    obtain ⟨la, m, hla, ha⟩ := (ih (okE_add _ _) hs).2 rfl
    simp only [E.add] at hla
    obtain ⟨h1, h2⟩ := List.append_inj' hla rfl
    simp only [List.cons.injEq, and_true] at h2
    subst h1; subst h2
    have hat := atom_leaf (x := x) (t := t) (g := g) h40
    rw [hl] at hat
    exact sem_both hq ho (aft_expr h41 h124 hat ha)
  | @leafBad x t g e es k s hq h40 h41 h124 hl =>
    intro ho hs
    have hat := atom_leaf (x := x) (t := t) (g := g) h40
    rw [hl] at hat
    exact sem_both hq ho (bad_expr es h41 h124 hat)
/- at all -/
def whole (l : List Int) (r : R) : Prop := Ran l 0 (E.new 0) [] r
theorem whole_ok {l : List Int} {n : Nd} {g : Int} (h : whole l (.ok n [] g)) : Expr l 0 [] [] (.ok n [] g) := by
  obtain ⟨r0, he, hf⟩ := (ran_sem h (fun h => by cases h) (fun x hx => by cases hx)).1 rfl
  cases r0 with
  | ok m t g' =>
    rw [Fin] at hf
    split at hf
    · rename_i ht; subst ht; cases hf; exact he
    · cases hf
  | bad k s => have := fin_bad_eq hf; cases this
  | out => rw [Fin] at hf; exact hf.elim
theorem whole_bad {l : List Int} {k : Int} {s : Nat} (h : whole l (.bad k s)) : Expr l 0 [] [] (.bad k s) ∨ ∃ n t g, Expr l 0 [] [] (.ok n t g) ∧ t ≠ [] ∧ k = 2 ∧ s = t.length := by
  obtain ⟨r0, he, hf⟩ := (ran_sem h (fun h => by cases h) (fun x hx => by cases hx)).1 rfl
  cases r0 with
  | ok m t g' =>
    rw [Fin] at hf
    split at hf
    · cases hf
    · rename_i ht; cases hf; exact .inr ⟨m, t, g', he, ht, rfl, rfl⟩
  | bad k s => have := fin_bad_eq hf; cases this; exact .inl he
  | out => rw [Fin] at hf; exact hf.elim
end Go.Proofs.YtdoapojmenojoaaGreatDoor.Sx
end

section
/- Where a pattern is read: the runes that are left, the place of the first. -/
set_option linter.unusedVariables false
namespace Go.Proofs.YtdoapojmenojoaaGreatDoor.Sx
open Rn

def At (s : ByteArray) (l : List Int) (a : Nat) : Prop := ∃ k, k ≤ cnt s ∧ l = (toks s).drop k ∧ a = pos s k
theorem at_start (s : ByteArray) : At s (toks s) 0 := ⟨0, Nat.zero_le _, rfl, rfl⟩
theorem At.le {s : ByteArray} {l : List Int} {a : Nat} (h : At s l a) : a ≤ s.size := by obtain ⟨k, _, _, rfl⟩ := h; exact pos_le s k
theorem At.reach {s : ByteArray} {l : List Int} {a : Nat} (h : At s l a) : Rn.Reach s a := by obtain ⟨k, _, _, rfl⟩ := h; exact reach_pos s k
theorem At.len {s : ByteArray} {l : List Int} {a : Nat} (h : At s l a) : l.length ≤ cnt s := by
  obtain ⟨k, hk, rfl, _⟩ := h; rw [List.length_drop, toks_len]; omega
theorem At.plc {s : ByteArray} {l : List Int} {a : Nat} (h : At s l a) : plc s l.length = (a : Int) := by
  obtain ⟨k, hk, rfl, rfl⟩ := h
  unfold Sx.plc
  rw [List.length_drop, toks_len, show cnt s - (cnt s - k) = k by omega]
theorem At.nil {s : ByteArray} {a : Nat} (h : At s [] a) : a = s.size := by
  obtain ⟨k, hk, hl, rfl⟩ := h
  have := congrArg List.length hl
  rw [List.length_drop, toks_len, List.length_nil] at this
  exact pos_end s k (by omega)
theorem At.cons {s : ByteArray} {x : Int} {t : List Int} {a : Nat} (h : At s (x :: t) a) : a < s.size ∧ x = tok (recAt s a) ∧ At s t (a + dW s a) := by
  obtain ⟨k, hk, hl, rfl⟩ := h
  have hlen := congrArg List.length hl
  rw [List.length_drop, toks_len, List.length_cons] at hlen
  have hlt : k < cnt s := by omega
  have hp := (cnt_lt s k).1 hlt
  have hx : (toks s)[k]? = some x := by
    have := congrArg (fun l => l[0]?) hl
    simp only [List.getElem?_drop, Nat.add_zero, List.getElem?_cons_zero] at this
    exact this.symm
  rw [toks_get hlt, Option.some.injEq] at hx
  refine ⟨hp, hx.symm, k + 1, by omega, ?_, (pos_succ s k hp).symm⟩
  have := congrArg List.tail hl
  rw [List.tail_drop] at this
  exact this
theorem At.more {s : ByteArray} {l : List Int} {a : Nat} (h : At s l a) (ha : a < s.size) : ∃ x t, l = x :: t := by
  cases l with
  | nil => have := h.nil; omega
  | cons x t => exact ⟨x, t, rfl⟩
theorem byte_tok {s : ByteArray} {a : Nat} (ha : a < s.size) (h : at8 s a < 128) : tok (recAt s a) = (at8 s a : Int) ∧ dW s a = 1 := by
  rcases Rn.shape s a ha with ⟨_, e, f⟩ | ⟨c, _⟩ | ⟨c, _⟩ | ⟨c, _⟩ | ⟨c, _⟩
  · refine ⟨?_, f⟩
    unfold tok recAt
    simp only
    rw [if_neg (by omega), e]
  all_goals omega
theorem tok_byte {s : ByteArray} {a : Nat} (ha : a < s.size) {x : Int} (hx : tok (recAt s a) = x) (h0 : 0 ≤ x) (h1 : x < 128) : (at8 s a : Int) = x ∧ dW s a = 1 := by
  unfold tok recAt at hx
  simp only at hx
  rcases Rn.shape s a ha with ⟨_, e, f⟩ | ⟨_, _, _, _, _, c⟩ | ⟨_, _, _, _, _, _, c, _⟩ | ⟨_, _, _, _, _, _, _, c, _⟩ | ⟨_, e, f⟩
  · rw [if_neg (by omega), e] at hx
    exact ⟨hx, f⟩
  · split at hx <;> omega
  · split at hx <;> omega
  · split at hx <;> omega
  · rw [if_pos ⟨e, f⟩] at hx; omega
theorem drop_at8 {s : ByteArray} {a : Nat} (ha : a < s.size) : ∃ b : UInt8, b.toNat = at8 s a ∧ s.data.toList.drop a = b :: s.data.toList.drop (a + 1) := by
  have hl : a < s.data.toList.length := by rw [len_eq]; exact ha
  refine ⟨s.data.toList[a], ?_, (List.getElem_cons_drop hl).symm⟩
  unfold at8
  rw [List.getD, List.getElem?_eq_getElem hl]; rfl
/- a text of bytes below 128 stands next just if its bytes are the next runes -/
theorem pre_iff {s : ByteArray} : ∀ {T : List UInt8}, (∀ c ∈ T, c.toNat < 128) → ∀ {l : List Int} {a : Nat}, At s l a →
    (Lib.hasPrefix (s.data.toList.drop a) T = true ↔ ∃ t, l = T.map (fun c => (c.toNat : Int)) ++ t ∧ At s t (a + T.length))
  | [], _, l, a, h => by simp only [Lib.hasPrefix, List.isPrefixOf, List.map_nil, List.nil_append, true_iff]; exact ⟨l, rfl, h⟩
  | c :: T, hT, l, a, h => by
    have hc := hT c (by simp)
    by_cases ha : a < s.size
    · obtain ⟨b, hb, hd⟩ := drop_at8 ha
      obtain ⟨x, t, rfl⟩ := h.more ha
      obtain ⟨_, hx, ht⟩ := h.cons
      rw [hd]
      unfold Lib.hasPrefix
      rw [List.isPrefixOf, Bool.and_eq_true, beq_iff_eq]
      constructor
      · rintro ⟨rfl, hp⟩
        obtain ⟨h1, h2⟩ := byte_tok ha (by omega)
        rw [h2] at ht
        obtain ⟨u, hu, hau⟩ := (pre_iff (fun d hd' => hT d (by simp [hd'])) ht).1 hp
        refine ⟨u, ?_, by rw [List.length_cons, show a + (T.length + 1) = a + 1 + T.length by omega]; exact hau⟩
        rw [hx, h1, hu, ← hb]; rfl
      · rintro ⟨u, hu, hau⟩
        simp only [List.map_cons, List.cons_append, List.cons.injEq] at hu
        obtain ⟨e1, e2⟩ := hu
        obtain ⟨h1, h2⟩ := tok_byte ha (hx.symm.trans e1) (by omega) (by omega)
        rw [h2] at ht
        refine ⟨UInt8.toNat_inj.1 (by omega), (pre_iff (fun d hd' => hT d (by simp [hd'])) ht).2 ⟨u, e2, ?_⟩⟩
        rw [List.length_cons, show a + (T.length + 1) = a + 1 + T.length by omega] at hau
        exact hau
    · have : s.data.toList.drop a = [] := List.drop_eq_nil_of_le (by rw [len_eq]; omega)
      rw [this]
      simp only [Lib.hasPrefix, List.isPrefixOf, Bool.false_eq_true, false_iff]
      rintro ⟨u, rfl, _⟩
      exact ha h.cons.1
theorem tok_neg {s : ByteArray} {a : Nat} : tok (recAt s a) < 0 ↔ dR s a = 65533 ∧ dW s a = 1 := by
  unfold tok recAt
  simp only
  split
  · rename_i h; simp only [h, and_self, iff_true]; decide
  · rename_i h; constructor
    · intro h'; omega
    · intro h'; exact absurd h' h
theorem tok_rune {s : ByteArray} {a : Nat} (h : 0 ≤ tok (recAt s a)) : tok (recAt s a) = (dR s a : Int) := by
  unfold tok recAt at h ⊢
  simp only at h ⊢
  split at h
  · omega
  · rename_i hn; rw [if_neg hn]
/- the next rune's own bytes stand next, if it is one -/
theorem rune_pre {s : ByteArray} {a : Nat} (ha : a < s.size) : Lib.hasPrefix (s.data.toList.drop a) (Utf8.encode (dR s a : Nat)).data.toList = decide (0 ≤ tok (recAt s a)) ∧ (0 ≤ tok (recAt s a) → (Utf8.encode (dR s a : Nat)).size = dW s a) := by
  by_cases h : 0 ≤ tok (recAt s a)
  · have hn : ¬ (dR s a = 65533 ∧ dW s a = 1) := fun hb => by have := tok_neg.2 hb; omega
    have he := Go.Proofs.YtdoapojmenojoaaGreatDoor.enc_dec s a ha hn
    have hle := (dW_le s a ha).2
    refine ⟨?_, fun _ => ?_⟩
    · rw [decide_eq_true h, he, Lib.extract_data]
      unfold Lib.hasPrefix
      rw [List.isPrefixOf_iff_prefix]
      exact List.take_prefix _ _
    · rw [he, size_ext s _ _ (by omega) hle]; omega
  · refine ⟨?_, fun h' => absurd h' h⟩
    rw [decide_eq_false h]
    obtain ⟨h1, h2⟩ := tok_neg.1 (by omega : tok (recAt s a) < 0)
    rw [h1]
    cases hp : Lib.hasPrefix (s.data.toList.drop a) (Utf8.encode ((65533 : Nat) : Int)).data.toList with
    | false => rfl
    | true =>
      exfalso
      unfold Lib.hasPrefix at hp
      rw [List.isPrefixOf_iff_prefix] at hp
      obtain ⟨Y, hY⟩ := hp
      have hs : s.data.toList = s.data.toList.take a ++ ((Utf8.encode ((65533 : Nat) : Int)).data.toList ++ Y) := by rw [hY, List.take_append_drop]
      obtain ⟨_, h3, _⟩ := dec_enc (r := 65533) (by decide) rfl hs
      have hl : (s.data.toList.take a).length = a := by rw [List.length_take, len_eq]; omega
      rw [hl, h2] at h3
      have : (Utf8.encode (65533 : Int)).data.toList.length = 3 := by decide +kernel
      omega
theorem tok_top {s : ByteArray} {a : Nat} (ha : a < s.size) : tok (recAt s a) ≤ 1114111 := by
  unfold tok recAt
  simp only
  have := (dR_right s a ha).1
  split <;> omega
theorem tok_right {s : ByteArray} {a : Nat} (ha : a < s.size) (h : 0 ≤ tok (recAt s a)) : rightB (tok (recAt s a)) = true := by
  rw [tok_rune h]; exact (dR_right s a ha).2
end Go.Proofs.YtdoapojmenojoaaGreatDoor.Sx
end

section
/- Members and items of classes: what is known of them, told. -/
set_option linter.unusedVariables false
namespace Go.Proofs.YtdoapojmenojoaaGreatDoor.Sx
open Rn

theorem At.top {s : ByteArray} {l : List Int} {a : Nat} (h : At s l a) : Top l := by
  obtain ⟨k, hk, rfl, _⟩ := h
  intro x hx
  have hx' := List.mem_of_mem_drop hx
  obtain ⟨i, hi⟩ := List.getElem?_of_mem hx'
  have hlt : i < cnt s := by rw [← toks_len]; exact (List.getElem?_eq_some_iff.1 hi).1
  rw [toks_get hlt, Option.some.injEq] at hi
  rw [← hi]
  exact tok_top ((cnt_lt s i).1 hlt)
theorem Top.tail {x : Int} {t : List Int} (h : Top (x :: t)) : Top t := fun y hy => h y (List.mem_cons_of_mem _ hy)
theorem member_nf {l t : List Int} {c : List Cl.Rg} (h : member l = some (c, t)) (hl : Top l) : Cl.NF c ∧ c.length ≤ 64 ∧ c ≠ [] := by
  unfold member at h
  split at h
  · cases h
  · rename_i r u
    split at h
    · cases h
    · split at h
      · cases h; exact ⟨nf_one ⟨by omega, hl r (by simp), Int.le_refl _⟩, by simp, by simp⟩
      · split at h
        · cases h
        · split at h
          · cases h
          · rename_i hne; cases h; exact ⟨(escape_nf _).1, (escape_nf _).2, hne⟩
def oneP (c : List Cl.Rg) : Bool := match c with | [r] => r.1 == r.2 | _ => false
theorem sumL_ge : ∀ {c : List Cl.Rg}, (∀ r ∈ c, Cl.may r) → (c.length : Int) ≤ Cl.sumL c
  | [], _ => by simp [Cl.sumL]
  | r :: l, h => by
    have h1 := h r (by simp)
    have h2 := sumL_ge (c := l) (fun x hx => h x (by simp [hx]))
    unfold Cl.may at h1
    rw [Cl.sumL, List.length_cons]
    omega
theorem one_single {c : List Cl.Rg} (h : Cl.NF c) : oneP c = true ↔ single c := by
  unfold single
  rw [Cl.of_of h]
  match c, h with
  | [], _ => simp [oneP, Cl.sumL]
  | [r], h => simp only [oneP, Cl.sumL, beq_iff_eq]; omega
  | r :: q :: t, h =>
    have := sumL_ge h.2
    simp only [oneP, Bool.false_eq_true, false_iff]
    simp only [List.length_cons] at this
    omega
theorem one_low {c : List Cl.Rg} (h : oneP c = true) : c = [(low c, low c)] := by
  match c, h with
  | [(a, b)], h => simp only [oneP, beq_iff_eq] at h; subst h; rfl
theorem item_nf {l t : List Int} {c : List Cl.Rg} (h : item l = some (c, t)) (hl : Top l) : Cl.NF c ∧ c.length ≤ 64 ∧ c ≠ [] := by
  unfold item at h
  split at h
  · cases h
  · rename_i a u hm
    have ha := member_nf hm hl
    have hs := member_sub hm
    split at h
    · rename_i u'
      split at h
      · cases h
      · rename_i b u'' hm2
        have hb := member_nf hm2 (hl.sub (fun x hx => hs x (List.mem_cons_of_mem _ hx)))
        split at h
        · rename_i hc
          cases h
          have h1 := (one_single ha.1).2 hc.1
          have h2 := (one_single hb.1).2 hc.2.1
          have m1 := ha.1.2 (low a, low a) (by rw [one_low h1]; simp [low])
          have m2 := hb.1.2 (low b, low b) (by rw [one_low h2]; simp [low])
          unfold Cl.may at m1 m2
          simp only at m1 m2
          exact ⟨nf_one ⟨m1.1, m2.2.1, hc.2.2⟩, by simp, by simp⟩
        · cases h
    · cases h; exact ha
end Go.Proofs.YtdoapojmenojoaaGreatDoor.Sx
end

section
/- Numbers in curly brackets, by their bytes. -/
set_option linter.unusedVariables false
namespace Go.Proofs.YtdoapojmenojoaaGreatDoor.Sx
open Rn

def Dig (c : UInt8) : Prop := 48 ≤ c.toNat ∧ c.toNat ≤ 57
instance (c : UInt8) : Decidable (Dig c) := by unfold Dig; infer_instance
def dval (acc : Nat) (D : List UInt8) : Nat := D.foldl (fun n c => n * 10 + (c.toNat - 48)) acc
theorem dval_nil (acc : Nat) : dval acc [] = acc := rfl
theorem dval_cons (acc : Nat) (c : UInt8) (D : List UInt8) : dval acc (c :: D) = dval (acc * 10 + (c.toNat - 48)) D := by unfold dval; rw [List.foldl_cons]
def ints (D : List UInt8) : List Int := D.map (fun c => (c.toNat : Int))
theorem dval_ge (D : List UInt8) : ∀ acc : Nat, acc * 10 ^ D.length ≤ dval acc D := by
  induction D with
  | nil => intro acc; simp [dval_nil]
  | cons c D ih =>
    intro acc
    have h := ih (acc * 10 + (c.toNat - 48))
    rw [dval_cons, List.length_cons, Nat.pow_succ]
    have h2 : acc * (10 ^ D.length * 10) = (acc * 10) * 10 ^ D.length := by rw [Nat.mul_comm (10 ^ D.length) 10, ← Nat.mul_assoc]
    rw [h2]
    exact Nat.le_trans (Nat.mul_le_mul_right _ (by omega)) h
theorem dval_le (D : List UInt8) (acc : Nat) : acc ≤ dval acc D := by
  have h1 := dval_ge D acc
  have h2 : acc * 1 ≤ acc * 10 ^ D.length := Nat.mul_le_mul_left _ (Nat.one_le_pow _ _ (by decide))
  omega
theorem p10 : ∀ (D : List UInt8) (acc : Nat), (∀ c ∈ D, Dig c) → Lib.parseUint10 acc D = .ok (dval acc D) ∨ (Lib.parseUint10 acc D = .range ∧ 1844674407370955162 ≤ dval acc D)
  | [], acc, _ => .inl rfl
  | c :: D, acc, h => by
    have hc := h c (by simp)
    have hl := dval_le D (acc * 10 + (c.toNat - 48))
    unfold Dig at hc
    rw [Lib.parseUint10, if_pos hc, dval_cons]
    split
    · exact .inr ⟨rfl, by omega⟩
    · split
      · exact .inr ⟨rfl, by omega⟩
      · exact p10 D _ (fun x hx => h x (by simp [hx]))
theorem atoi_digits {D : List UInt8} (h : ∀ c ∈ D, Dig c) (hn : D ≠ []) : Lib.atoiAll D = .ok (dval 0 D : Nat) ∨ (Lib.atoiAll D = .range ∧ 20 < dval 0 D) := by
  cases D with
  | nil => exact absurd rfl hn
  | cons c r =>
    have hc := h c (by simp)
    unfold Dig at hc
    unfold Lib.atoiAll
    simp only
    rw [if_neg (by omega)]
    unfold Lib.parseMag
    rw [if_neg (by simp)]
    rcases p10 (c :: r) 0 h with e | ⟨e, hge⟩
    · rw [e]
      simp only
      by_cases hb : 9223372036854775808 ≤ dval 0 (c :: r)
      · right
        rw [if_pos ⟨by omega, hb⟩]
        exact ⟨rfl, by omega⟩
      · left
        rw [if_neg (by omega), if_neg (by omega), if_neg (by omega)]
    · right
      rw [e]
      exact ⟨rfl, by omega⟩
theorem digs_val : ∀ (D : List UInt8) (N : Nat) (rest : List Int), (∀ c ∈ D, Dig c) → (∀ x u, rest = x :: u → ¬ (48 ≤ x ∧ x ≤ 57)) → digs (ints D ++ rest) (min N 1000 : Nat) = (((min (dval N D) 1000 : Nat) : Int), rest)
  | [], N, rest, _, hr => by
    cases rest with
    | nil => rfl
    | cons x u => show digs (x :: u) _ = _; rw [digs, if_neg (hr x u rfl)]; rfl
  | c :: D, N, rest, h, hr => by
    have hc := h c (by simp)
    unfold Dig at hc
    show digs ((c.toNat : Int) :: (ints D ++ rest)) _ = _
    rw [digs, if_pos (by omega)]
    have e : (min (((min N 1000 : Nat) : Int) * 10 + ((c.toNat : Int) - 48)) 1000) = ((min (N * 10 + (c.toNat - 48)) 1000 : Nat) : Int) := by omega
    rw [e, digs_val D _ rest (fun x hx => h x (by simp [hx])) hr, dval_cons]
theorem dec_small {n : Nat} (h : n < 10) : Lib.decDigits n = [UInt8.ofNat (48 + n)] := by rw [Lib.decDigits, dif_pos h]
theorem dec_two {n : Nat} (h : 10 ≤ n) (h2 : n < 100) : Lib.decDigits n = [UInt8.ofNat (48 + n / 10), UInt8.ofNat (48 + n % 10)] := by
  rw [Lib.decDigits, dif_neg (by omega), dec_small (by omega)]; rfl
theorem of_dig {c : UInt8} (h : Dig c) : UInt8.ofNat (48 + (c.toNat - 48)) = c := by
  unfold Dig at h
  apply UInt8.toNat_inj.1
  have : (UInt8.ofNat (48 + (c.toNat - 48))).toNat = (48 + (c.toNat - 48)) % 256 := by simp
  rw [this]; omega
theorem dec_iff {D : List UInt8} (h : ∀ c ∈ D, Dig c) (hn : D ≠ []) (h20 : dval 0 D ≤ 20) : Lib.decDigits (dval 0 D) = D ↔ ¬ (2 ≤ D.length ∧ (ints D).head? = some 48) := by
  match D, h, hn, h20 with
  | [c], h, _, _ =>
    have hc := h c (by simp)
    have hc' := hc
    unfold Dig at hc'
    simp only [dval_cons, dval_nil, List.length_cons, List.length_nil]
    rw [dec_small (by omega), show 48 + (0 * 10 + (c.toNat - 48)) = 48 + (c.toNat - 48) by omega, of_dig hc]
    simp
  | [c, d], h, _, h20 =>
    have hc := h c (by simp)
    have hd := h d (by simp)
    have hc' := hc
    have hd' := hd
    unfold Dig at hc' hd'
    simp only [dval_cons, dval_nil] at h20 ⊢
    simp only [ints, List.map_cons, List.map_nil, List.head?_cons, List.length_cons, List.length_nil, Option.some.injEq]
    by_cases h48 : c.toNat = 48
    · rw [dec_small (by omega)]
      constructor
      · intro e; simp at e
      · intro e; exact absurd ⟨by omega, by omega⟩ e
    · have hq : ((0 * 10 + (c.toNat - 48)) * 10 + (d.toNat - 48)) / 10 = c.toNat - 48 := by omega
      have hm : ((0 * 10 + (c.toNat - 48)) * 10 + (d.toNat - 48)) % 10 = d.toNat - 48 := by omega
      rw [dec_two (by omega) (by omega), hq, hm, of_dig hc, of_dig hd]
      constructor
      · intro _ e; omega
      · intro _; rfl
  | c :: d :: e :: t, h, _, h20 =>
    have hc := h c (by simp)
    unfold Dig at hc
    simp only [ints, List.map_cons, List.head?_cons, List.length_cons, Option.some.injEq]
    by_cases h48 : c.toNat = 48
    · constructor
      · intro e'
        have hl : (Lib.decDigits (dval 0 (c :: d :: e :: t))).length ≤ 2 := by
          by_cases h10 : dval 0 (c :: d :: e :: t) < 10
          · rw [dec_small h10]; simp
          · rw [dec_two (by omega) (by omega)]; simp
        rw [e'] at hl
        simp at hl
      · intro e'; exact absurd ⟨by omega, by omega⟩ e'
    · exfalso
      have h1 := dval_ge (e :: t) ((0 * 10 + (c.toNat - 48)) * 10 + (d.toNat - 48))
      simp only [dval_cons] at h20
      rw [dval_cons, List.length_cons, Nat.pow_succ] at h1
      have h2 : 1 ≤ 10 ^ t.length := Nat.one_le_pow _ _ (by decide)
      have h3 : 10 * (1 * 10) ≤ ((0 * 10 + (c.toNat - 48)) * 10 + (d.toNat - 48)) * (10 ^ t.length * 10) := Nat.mul_le_mul (by omega) (Nat.mul_le_mul_right _ h2)
      omega
theorem number_eq {D : List UInt8} {rest : List Int} (h : ∀ c ∈ D, Dig c) (hr : ∀ x u, rest = x :: u → ¬ (48 ≤ x ∧ x ≤ 57)) :
    number (ints D ++ rest) = if D ≠ [] ∧ dval 0 D ≤ 20 ∧ Lib.decDigits (dval 0 D) = D then some (((dval 0 D : Nat) : Int), rest) else none := by
  have hd := digs_val D 0 rest h hr
  have hd' : digs (ints D ++ rest) 0 = (((min (dval 0 D) 1000 : Nat) : Int), rest) := hd
  unfold number
  simp only
  rw [hd']
  simp only
  have hlen : (ints D ++ rest).length = D.length + rest.length := by simp [ints]
  rw [hlen]
  by_cases h0 : D = []
  · subst h0
    rw [if_pos (.inl (by simp)), if_neg (by simp)]
  · have hp : 0 < D.length := List.length_pos_iff.2 h0
    have hh : (ints D ++ rest).head? = (ints D).head? := by
      cases D with
      | nil => exact absurd rfl h0
      | cons c r => rfl
    rw [hh]
    by_cases h20 : dval 0 D ≤ 20
    · have hi := dec_iff h h0 h20
      by_cases hz : 2 ≤ D.length ∧ (ints D).head? = some 48
      · rw [if_pos (.inr (.inr ⟨by omega, hz.2⟩)), if_neg (fun hh' => (hi.1 hh'.2.2) hz)]
      · rw [if_neg, if_pos ⟨h0, h20, hi.2 hz⟩]
        · congr 2; omega
        · rintro (e | e | e)
          · omega
          · omega
          · exact hz ⟨by omega, e.2⟩
    · rw [if_pos (.inr (.inl (by omega))), if_neg (fun hh' => h20 hh'.2.1)]
/- the digits that stand next -/
theorem digits_at {s : ByteArray} : ∀ {l : List Int} {a : Nat}, At s l a → ∃ (D B : List UInt8) (rest : List Int), (∀ c ∈ D, Dig c) ∧ s.data.toList.drop a = D ++ B ∧ (∀ c u, B = c :: u → ¬ Dig c) ∧ l = ints D ++ rest ∧ At s rest (a + D.length) ∧ (∀ x u, rest = x :: u → ¬ (48 ≤ x ∧ x ≤ 57))
  | [], a, h => ⟨[], [], [], (fun c hc => by cases hc), (by rw [h.nil]; exact List.drop_eq_nil_of_le (by rw [len_eq]; exact Nat.le_refl _)), (fun c u e => by cases e), rfl, h, (fun x u e => by cases e)⟩
  | x :: t, a, h => by
    obtain ⟨h1, h2, h3⟩ := h.cons
    obtain ⟨b, hb, hd⟩ := drop_at8 h1
    by_cases hx : 48 ≤ x ∧ x ≤ 57
    · obtain ⟨h4, h5⟩ := tok_byte h1 h2.symm (by omega) (by omega)
      rw [h5] at h3
      obtain ⟨D, B, rest, d1, d2, d3, d4, d5, d6⟩ := digits_at h3
      refine ⟨b :: D, B, rest, fun c hc => ?_, by rw [hd, d2]; rfl, d3, ?_, ?_, d6⟩
      · rcases List.mem_cons.1 hc with rfl | hc
        · unfold Dig; omega
        · exact d1 c hc
      · rw [d4]; show x :: _ = (b.toNat : Int) :: _; rw [show x = (b.toNat : Int) by omega]; rfl
      · rw [List.length_cons, show a + (D.length + 1) = a + 1 + D.length by omega]; exact d5
    · refine ⟨[], b :: s.data.toList.drop (a + 1), x :: t, (fun c hc => by cases hc), hd, fun c u e => ?_, rfl, h, fun y u e => ?_⟩
      · simp only [List.cons.injEq] at e
        rw [← e.1]
        intro hdg
        unfold Dig at hdg
        have := (byte_tok h1 (by omega)).1
        omega
      · simp only [List.cons.injEq] at e
        rw [← e.1]; exact hx
end Go.Proofs.YtdoapojmenojoaaGreatDoor.Sx
end
