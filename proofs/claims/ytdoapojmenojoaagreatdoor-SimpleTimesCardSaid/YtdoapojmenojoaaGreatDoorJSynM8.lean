import Derived.Test.YtdoapojmenojoaaGreatDoorJClassM
import Derived.Test.YtdoapojmenojoaaGreatDoorJRunesM
set_option linter.unusedSimpArgs false
set_option linter.unusedVariables false
section
/- The ends of the classes of a pattern; what is put is of right runes. -/
set_option linter.unusedVariables false
namespace Go.Proofs.YtdoapojmenojoaaGreatDoor.Sx

def EndsIn (E : Int → Prop) (c : List Cl.Rg) : Prop := ∀ r ∈ c, E r.1 ∧ E r.2
theorem EndsIn.nil (E : Int → Prop) : EndsIn E [] := fun r h => by cases h
theorem EndsIn.cons {E : Int → Prop} {a b : Int} {c : List Cl.Rg} (h1 : E a) (h2 : E b) (h : EndsIn E c) : EndsIn E ((a, b) :: c) := fun r hr => by
  rcases List.mem_cons.1 hr with rfl | hr
  · exact ⟨h1, h2⟩
  · exact h r hr
theorem EndsIn.app {E : Int → Prop} {a b : List Cl.Rg} (h : EndsIn E a) (h' : EndsIn E b) : EndsIn E (a ++ b) := fun r hr => (List.mem_append.1 hr).elim (h r) (h' r)
theorem EndsIn.tail {E : Int → Prop} {r : Cl.Rg} {c : List Cl.Rg} (h : EndsIn E (r :: c)) : EndsIn E c := fun s hs => h s (List.mem_cons_of_mem _ hs)
theorem min_in {E : Int → Prop} {a b : Int} (h : E a) (h' : E b) : E (min a b) := by
  by_cases hl : a ≤ b
  · rw [Int.min_eq_left hl]; exact h
  · rw [Int.min_eq_right (by omega)]; exact h'
theorem max_in {E : Int → Prop} {a b : Int} (h : E a) (h' : E b) : E (max a b) := by
  by_cases hl : a ≤ b
  · rw [Int.max_eq_right hl]; exact h'
  · rw [Int.max_eq_left (by omega)]; exact h
theorem absorb_ends {E : Int → Prop} : ∀ (l : List Cl.Rg) (r : Cl.Rg), EndsIn E l → E r.1 → E r.2 → E (Cl.absorb l r).1.1 ∧ E (Cl.absorb l r).1.2 ∧ EndsIn E (Cl.absorb l r).2
  | [], r, h, h1, h2 => ⟨h1, h2, h⟩
  | t :: l, r, h, h1, h2 => by
    have ht := h t (List.mem_cons_self ..)
    unfold Cl.absorb
    split
    · exact absorb_ends l _ h.tail (min_in h1 ht.1) (max_in h2 ht.2)
    · exact ⟨h1, h2, h⟩
theorem put_ends {E : Int → Prop} {l : List Cl.Rg} {r : Cl.Rg} (h : EndsIn E l) (h1 : E r.1) (h2 : E r.2) : EndsIn E (Cl.put l r) := by
  unfold Cl.put
  have ha := absorb_ends (l.dropWhile fun t => decide (t.2 + 1 < r.1)) r (fun s hs => h s ((List.dropWhile_sublist _).subset hs)) h1 h2
  exact EndsIn.app (fun s hs => h s ((List.takeWhile_sublist _).subset hs)) (EndsIn.cons (a := (Cl.absorb _ r).1.1) (b := (Cl.absorb _ r).1.2) ha.1 ha.2.1 ha.2.2)
theorem ofL_ends {E : Int → Prop} : ∀ (l acc : List Cl.Rg), EndsIn E acc → EndsIn E l → EndsIn E (Cl.ofL acc l)
  | [], acc, ha, _ => ha
  | r :: l, acc, ha, h => by
    have hr := h r (List.mem_cons_self ..)
    unfold Cl.ofL
    split
    · exact ofL_ends l _ (put_ends ha hr.1 hr.2) h.tail
    · exact ofL_ends l _ ha h.tail
theorem of_ends {E : Int → Prop} {l : List Cl.Rg} (h : EndsIn E l) : EndsIn E (Cl.of l) := ofL_ends l [] (EndsIn.nil E) h
def Lo (x : Int) : Prop := 0 ≤ x ∧ x ≤ 12288
def Hi (x : Int) : Prop := (0 ≤ x ∧ x ≤ 12289) ∨ x = 1114111
theorem lo_hi {c : List Cl.Rg} (h : EndsIn Lo c) : EndsIn Hi c := fun r hr => by
  have := h r hr
  unfold Lo at this
  unfold Hi
  omega
theorem notL_ends : ∀ (l : List Cl.Rg) (low : Int), EndsIn Lo l → 0 ≤ low → low ≤ 12289 → EndsIn Hi (Cl.notL low l)
  | [], low, _, h0, h1 => by
    unfold Cl.notL
    rw [if_pos (by omega)]
    exact EndsIn.cons (.inl ⟨h0, h1⟩) (.inr rfl) (EndsIn.nil _)
  | r :: l, low, h, h0, h1 => by
    have hr := h r (List.mem_cons_self ..)
    unfold Lo at hr
    unfold Cl.notL
    refine EndsIn.app ?_ (notL_ends l _ h.tail (by omega) (by omega))
    split
    · exact EndsIn.cons (.inl ⟨h0, h1⟩) (.inl ⟨by omega, by omega⟩) (EndsIn.nil _)
    · exact EndsIn.nil _
theorem nots_ends {c : List Cl.Rg} (h : EndsIn Lo c) : EndsIn Hi (Cl.nots c) := notL_ends _ 0 (of_ends h) (by omega) (by omega)
theorem escape_ends (r : Int) : EndsIn Lo (escape r) := by
  unfold escape
  by_cases h : special r = true ∨ r = 45
  · rw [if_pos h]
    have hl : Lo r := by unfold Lo; rw [special_iff] at h; omega
    exact EndsIn.cons hl hl (EndsIn.nil _)
  · rw [if_neg h]
    have k : ∀ (a : Int), 0 ≤ a → a ≤ 12288 → Lo a := fun a h h' => ⟨h, h'⟩
    split
    · exact EndsIn.cons (k _ (by decide) (by decide)) (k _ (by decide) (by decide)) (EndsIn.nil _)
    split
    · exact EndsIn.cons (k _ (by decide) (by decide)) (k _ (by decide) (by decide)) (EndsIn.nil _)
    split
    · exact EndsIn.cons (k _ (by decide) (by decide)) (k _ (by decide) (by decide)) (EndsIn.nil _)
    split
    · exact EndsIn.cons (k _ (by decide) (by decide)) (k _ (by decide) (by decide)) (EndsIn.cons (k _ (by decide) (by decide)) (k _ (by decide) (by decide)) (EndsIn.cons (k _ (by decide) (by decide)) (k _ (by decide) (by decide)) (EndsIn.cons (k _ (by decide) (by decide)) (k _ (by decide) (by decide)) (EndsIn.nil _))))
    split
    · exact EndsIn.cons (k _ (by decide) (by decide)) (k _ (by decide) (by decide)) (EndsIn.cons (k _ (by decide) (by decide)) (k _ (by decide) (by decide)) (EndsIn.cons (k _ (by decide) (by decide)) (k _ (by decide) (by decide)) (EndsIn.nil _)))
    · exact EndsIn.nil _
def Few (l : List Int) : Prop := ∀ x ∈ l, x ≤ 12288
theorem Few.sub {t l : List Int} (h : Few l) (hs : Sub t l) : Few t := fun x hx => h x (hs x hx)
theorem Few.top {l : List Int} (h : Few l) : Top l := fun x hx => by have := h x hx; omega
theorem member_ends {l t : List Int} {c : List Cl.Rg} (hl : Few l) (h : member l = some (c, t)) : EndsIn Lo c ∧ c ≠ [] := by
  unfold member at h
  split at h
  · cases h
  · rename_i r u
    split at h
    · cases h
    · rename_i hr
      have h1 := hl r (List.mem_cons_self ..)
      have h2 : Lo r := ⟨by omega, h1⟩
      split at h
      · cases h; exact ⟨EndsIn.cons h2 h2 (EndsIn.nil _), by simp⟩
      · split at h
        · cases h
        · rename_i y t'
          split at h
          · cases h
          · rename_i he; cases h; exact ⟨escape_ends y, he⟩
theorem low_ends {c : List Cl.Rg} (h : EndsIn Lo c) (hn : c ≠ []) : Lo (low c) := by
  cases c with
  | nil => exact absurd rfl hn
  | cons r c => exact (h r (List.mem_cons_self ..)).1
theorem item_ends {l t : List Int} {c : List Cl.Rg} (hl : Few l) (h : item l = some (c, t)) : EndsIn Lo c := by
  unfold item at h
  split at h
  · cases h
  · rename_i a t1 hm
    have h1 := member_sub hm
    obtain ⟨e1, n1⟩ := member_ends hl hm
    split at h
    · rename_i t2
      split at h
      · cases h
      · rename_i b t3 hm2
        obtain ⟨e2, n2⟩ := member_ends (hl.sub (sub_tail h1)) hm2
        split at h
        · cases h; exact EndsIn.cons (low_ends e1 n1) (low_ends e2 n2) (EndsIn.nil _)
        · cases h
    · cases h; exact e1
theorem items_ends : ∀ (f : Nat) {l t : List Int} {acc c : List Cl.Rg}, Few l → EndsIn Lo acc → items f l acc = some (c, t) → EndsIn Lo c
  | 0, l, t, acc, c, _, _, h => by cases h
  | f + 1, l, t, acc, c, hl, ha, h => by
    unfold items at h
    split at h
    · cases h
    · rename_i x t1 hi
      have h1 := item_sub hi
      have e1 := of_ends (ha.app (item_ends hl hi))
      split at h
      · cases h; exact e1
      · exact items_ends f (hl.sub h1) e1 h
theorem clsEnd_ends {b : Bool} {r : Option (List Cl.Rg × List Int)} {t : List Int} {c : List Cl.Rg} (h : clsEnd b r = some (c, t)) (hr : ∀ c' t', r = some (c', t') → EndsIn Lo c') : EndsIn Hi c := by
  unfold clsEnd at h
  split at h
  · cases h
  · rename_i c1 t1
    have hn := hr c1 t1 rfl
    cases b
    · simp only [Bool.false_eq_true, if_false] at h
      split at h
      · cases h
      · cases h; exact lo_hi hn
    · simp only [if_true] at h
      split at h
      · cases h
      · cases h; exact nots_ends hn
theorem cls_ends {l t : List Int} {c : List Cl.Rg} (hl : Few l) (h : cls l = some (c, t)) : EndsIn Hi c := by
  unfold cls at h
  split at h
  · rename_i u
    exact clsEnd_ends h (fun c' t' e => items_ends _ (hl.sub (Sub.cons _ (Sub.refl _))) (EndsIn.nil _) e)
  · exact clsEnd_ends h (fun c' t' e => items_ends _ hl (EndsIn.nil _) e)
/- all classes of a tree -/
mutual
def AllC (P : List Cl.Rg → Prop) : Nd → Prop
  | .mk _ c _ _ _ _ l => P c ∧ AllCs P l
def AllCs (P : List Cl.Rg → Prop) : List Nd → Prop
  | [] => True
  | n :: l => AllC P n ∧ AllCs P l
end
theorem allCs_app {P : List Cl.Rg → Prop} : ∀ {a b : List Nd}, AllCs P a → AllCs P b → AllCs P (a ++ b)
  | [], b, _, h => h
  | n :: a, b, h, h' => by
    rw [AllCs] at h
    show AllCs P (n :: (a ++ b))
    rw [AllCs]
    exact ⟨h.1, allCs_app h.2 h'⟩
theorem allCs_one {P : List Cl.Rg → Prop} {n : Nd} (h : AllC P n) : AllCs P [n] := by rw [AllCs, AllCs]; exact ⟨h, trivial⟩
theorem allCs_nil (P : List Cl.Rg → Prop) : AllCs P [] := by rw [AllCs]; trivial
theorem allC_kids {P : List Cl.Rg → Prop} {n : Nd} (h : AllC P n) : AllCs P n.kids := by
  cases n; rw [AllC] at h; exact h.2
theorem flat6_all {P : List Cl.Rg → Prop} : ∀ {l : List Nd}, AllCs P l → AllCs P (flat6 l)
  | [], h => h
  | n :: l, h => by
    rw [AllCs] at h
    have hd : flat6 (n :: l) = (if n.k = 6 then n.kids else if n.k = 0 then [] else [n]) ++ flat6 l := rfl
    rw [hd]
    refine allCs_app ?_ (flat6_all h.2)
    split
    · exact allC_kids h.1
    split
    · exact allCs_nil P
    · exact allCs_one h.1
theorem flat7_all {P : List Cl.Rg → Prop} : ∀ {l : List Nd}, AllCs P l → AllCs P (flat7 l)
  | [], h => h
  | n :: l, h => by
    rw [AllCs] at h
    have hd : flat7 (n :: l) = (if n.k = 7 then n.kids else [n]) ++ flat7 l := rfl
    rw [hd]
    refine allCs_app ?_ (flat7_all h.2)
    split
    · exact allC_kids h.1
    · exact allCs_one h.1
theorem allC_mk {P : List Cl.Rg → Prop} {k mn mx g : Int} {lz : Bool} {c : List Cl.Rg} {l : List Nd} (hc : P c) (h : AllCs P l) : AllC P (.mk k c mn mx lz g l) := by rw [AllC]; exact ⟨hc, h⟩
theorem sequence_all {P : List Cl.Rg → Prop} (hP : P []) {l : List Nd} (h : AllCs P l) : AllC P (sequence l) := by
  have h' := flat6_all h
  unfold sequence
  generalize flat6 l = o at h'
  match o, h' with
  | [], h' => exact allC_mk hP (allCs_nil P)
  | [x], h' => rw [AllCs] at h'; exact h'.1
  | x :: y :: o, h' => exact allC_mk hP h'
theorem choice_all {P : List Cl.Rg → Prop} (hP : P []) {l : List Nd} (h : AllCs P l) : AllC P (choice l) := by
  have h' := flat7_all h
  match l, h, h' with
  | [], h, h' => exact allC_mk hP h'
  | [x], h, h' => rw [AllCs] at h; exact h.1
  | x :: y :: l, h, h' => exact allC_mk hP h'
theorem leaf_ends {x g g' : Int} {t u : List Int} {n : Nd} (hl : Few (x :: t)) (h : leaf x t g = .ok n u g') : AllC (EndsIn Hi) n := by
  have hx := hl x (List.mem_cons_self ..)
  have ht := hl.sub (Sub.cons x (Sub.refl t))
  have nil := EndsIn.nil Hi
  unfold leaf at h
  split at h
  · cases h; exact allC_mk (nots_ends (EndsIn.cons ⟨by decide, by decide⟩ ⟨by decide, by decide⟩ (EndsIn.nil _))) (allCs_nil _)
  split at h
  · cases h; exact allC_mk nil (allCs_nil _)
  split at h
  · cases h; exact allC_mk nil (allCs_nil _)
  split at h
  · split at h
    · cases h
    · rename_i y u'
      split at h
      · cases h; exact allC_mk nil (allCs_nil _)
      split at h
      · cases h; exact allC_mk nil (allCs_nil _)
      split at h
      · cases h
      · cases h; exact allC_mk (lo_hi (escape_ends y)) (allCs_nil _)
  split at h
  · split at h
    · cases h
    · rename_i c u' hc
      cases h
      exact allC_mk (cls_ends ht hc) (allCs_nil _)
  split at h
  · cases h
  · rename_i hs
    cases h
    have h2 : Lo x := ⟨by omega, hx⟩
    exact allC_mk (lo_hi (EndsIn.cons h2 h2 (EndsIn.nil _))) (allCs_nil _)
end Go.Proofs.YtdoapojmenojoaaGreatDoor.Sx
end

section
/- A text's runes; what is put is of right runes; what Parse is to answer. -/
set_option linter.unusedVariables false
namespace Go.Proofs.YtdoapojmenojoaaGreatDoor.Sx
open Rn

/- each rune, -1 what is bad -/
def tok (x : Rec) : Int := if x.1 = 65533 ∧ x.2.2 = 1 then -1 else (x.1 : Int)
def toks (s : ByteArray) : List Int := (all s).map tok
theorem toks_len (s : ByteArray) : (toks s).length = cnt s := by rw [toks, List.length_map, all_len]
theorem toks_get {s : ByteArray} {k : Nat} (h : k < cnt s) : (toks s)[k]? = some (tok (recN s k)) := by
  rw [toks, List.getElem?_map, all, pre_get s k _ h]; rfl
theorem toks_cat {s : ByteArray} {ws : List Int} (hr : Rights ws) (hs : s.data.toList = cat ws) : toks s = ws := by
  obtain ⟨h1, h2, h3⟩ := back hr hs
  refine List.ext_getElem? (fun i => ?_)
  by_cases hi : i < ws.length
  · have hw : ws[i]? = some ws[i] := List.getElem?_eq_getElem hi
    obtain ⟨a, b⟩ := h2 i _ hw
    rw [toks_get (by omega), hw]
    congr 1
    unfold tok recN recAt
    simp only
    rw [if_neg, a]
    rintro ⟨c, d⟩
    have hx : ws[i] = 65533 := by omega
    rw [b, hx] at d
    revert d
    decide +kernel
  · rw [List.getElem?_eq_none (by rw [toks_len]; omega), List.getElem?_eq_none (by omega)]
def OkL (l : List Int) : Prop := ∀ x ∈ l, rightB x = true
theorem OkL.nil : OkL [] := fun x h => by cases h
theorem OkL.app {a b : List Int} (h : OkL a) (h' : OkL b) : OkL (a ++ b) := fun x hx => (List.mem_append.1 hx).elim (h x) (h' x)
theorem OkL.cons {a : Int} {b : List Int} (h : rightB a = true) (h' : OkL b) : OkL (a :: b) := fun x hx => by
  rcases List.mem_cons.1 hx with rfl | hx
  · exact h
  · exact h' x hx
theorem OkL.rights {l : List Int} (h : OkL l) : Rights l := fun i r hr => h r (List.mem_of_getElem? hr)
theorem hi_right {x : Int} (h : Hi x) : rightB x = true := by
  unfold Hi at h
  unfold rightB
  simp only [Bool.or_eq_true, Bool.and_eq_true, decide_eq_true_eq]
  omega
theorem small_right {x : Int} (h : 0 ≤ x) (h' : x ≤ 127) : rightB x = true := hi_right (.inl ⟨h, by omega⟩)
theorem mem2_ok {x : Int} (h : Hi x) : OkL (mem2 x) := by
  unfold mem2
  split
  · exact OkL.cons (by decide) (OkL.cons (hi_right h) OkL.nil)
  · exact OkL.cons (hi_right h) OkL.nil
theorem putRs_ok : ∀ {c : List Cl.Rg}, EndsIn Hi c → OkL (putRs c)
  | [], _ => OkL.nil
  | r :: c, h => by
    have hr := h r (List.mem_cons_self ..)
    unfold putRs
    refine OkL.app (OkL.app (mem2_ok hr.1) ?_) (putRs_ok h.tail)
    split
    · exact OkL.nil
    · exact OkL.cons (by decide) (mem2_ok hr.2)
theorem putC_ok {c : List Cl.Rg} (h : EndsIn Hi c) : OkL (putC c) := by
  have hb : OkL (91 :: putRs c ++ [93]) := OkL.app (OkL.cons (by decide) (putRs_ok h)) (OkL.cons (by decide) OkL.nil)
  unfold putC
  split
  · exact OkL.cons (by decide) OkL.nil
  split
  · rename_i a b hd
    have ha := (h (a, b) (List.mem_cons_self ..)).1
    split
    · split
      · exact OkL.cons (by decide) (OkL.cons (hi_right ha) OkL.nil)
      · exact OkL.cons (hi_right ha) OkL.nil
    · exact hb
  · exact hb
theorem digits_ok {n : Int} (h0 : 0 ≤ n) (h1 : n ≤ 20) : OkL (digits n) := by
  unfold digits
  split
  · exact OkL.cons (small_right (by omega) (by omega)) OkL.nil
  · exact OkL.cons (small_right (by omega) (by omega)) (OkL.cons (small_right (by omega) (by omega)) OkL.nil)
theorem times_ok {mn mx : Int} (lz : Bool) (h0 : 0 ≤ mn) (h1 : mn ≤ 20) (h2 : mx = -1 ∨ mn ≤ mx ∧ mx ≤ 20) : OkL (times mn mx lz) := by
  unfold times
  refine OkL.app ?_ ?_
  · split
    · exact OkL.cons (by decide) OkL.nil
    split
    · exact OkL.cons (by decide) OkL.nil
    split
    · exact OkL.cons (by decide) OkL.nil
    refine OkL.cons (by decide) (OkL.app (digits_ok h0 h1) ?_)
    split
    · exact OkL.cons (by decide) OkL.nil
    split
    · exact OkL.cons (by decide) (OkL.cons (by decide) OkL.nil)
    · exact OkL.cons (by decide) (OkL.app (digits_ok (by omega) (by omega)) (OkL.cons (by decide) OkL.nil))
  · cases lz
    · exact OkL.nil
    · exact OkL.cons (by decide) OkL.nil
theorem wrap_ok {b : Bool} {u : List Int} (h : OkL u) : OkL (wrap b u) := by
  cases b
  · exact h
  · exact OkL.cons (by decide) (OkL.cons (by decide) (OkL.cons (by decide) (OkL.app h (OkL.cons (by decide) OkL.nil))))
mutual
theorem form_ok : ∀ {g g' : Int} {n : Nd}, Form g n g' → AllC (EndsIn Hi) n → OkL (put n)
  | _, _, _, .empty g, _ => by simp [empty, put, putKids]; exact OkL.nil
  | _, _, _, .one g c _ _ _, h => by
    have hp : put (oneN c) = putC c := by simp [oneN, put]
    rw [oneN, AllC] at h
    rw [hp]; exact putC_ok h.1
  | _, _, _, .mark g k hk, _ => by
    unfold isMark at hk
    have : k = 2 ∨ k = 3 ∨ k = 4 ∨ k = 5 := by omega
    rcases this with rfl | rfl | rfl | rfl <;> simp only [mark, put] <;> intro x hx <;> simp at hx <;> (try rcases hx with rfl | rfl) <;> (try subst hx) <;> decide
  | _, _, _, .cat (l := l) hf _ _, h => by
    have hp : put (.mk 6 [] 0 0 false 0 l) = putKids 6 true l := by simp [put]
    rw [AllC] at h
    rw [hp]; exact forms_ok hf h.2 6 true
  | _, _, _, .alt (l := l) hf _ _, h => by
    have hp : put (.mk 7 [] 0 0 false 0 l) = putKids 7 true l := by simp [put]
    rw [AllC] at h
    rw [hp]; exact forms_ok hf h.2 7 true
  | _, _, _, .rep (n := n) mn mx lz hf h0 h1 h2, h => by
    have hp : put (.mk 8 [] mn mx lz 0 [n]) = wrap (wraps 8 n.k) (put n) ++ times mn mx lz := by simp [put, putKids]
    rw [AllC, AllCs] at h
    rw [hp]; exact OkL.app (wrap_ok (form_ok hf h.2.1)) (times_ok lz h0 h1 h2)
  | _, _, _, .grp (g := g) (n := n) hg hf, h => by
    have hw : wraps 9 n.k = false := by unfold wraps; simp
    have hp : put (.mk 9 [] 0 0 false (g + 1) [n]) = 40 :: put n ++ [41] := by simp [put, putKids, hw, wrap]
    rw [AllC, AllCs] at h
    rw [hp]; exact OkL.app (OkL.cons (by decide) (form_ok hf h.2.1)) (OkL.cons (by decide) OkL.nil)
theorem forms_ok : ∀ {g g' : Int} {l : List Nd}, Forms g l g' → AllCs (EndsIn Hi) l → ∀ (k : Int) (b : Bool), OkL (putKids k b l)
  | _, _, _, .nil g, _, k, b => by rw [putKids]; exact OkL.nil
  | _, _, _, .cons hf hl, h, k, b => by
    rw [AllCs] at h
    rw [putKids]
    refine OkL.app (OkL.app ?_ (wrap_ok (form_ok hf h.1))) (forms_ok hl h.2 k false)
    split
    · exact OkL.cons (by decide) OkL.nil
    · exact OkL.nil
end
/- the classes of what is parsed -/
def EndsAt (f : Nat) : Prop :=
  (∀ l g all cur n t g', expr f l g all cur = .ok n t g' → Few l → AllCs (EndsIn Hi) all → AllCs (EndsIn Hi) cur → AllC (EndsIn Hi) n) ∧
  (∀ l g n t g', piece f l g = .ok n t g' → Few l → AllC (EndsIn Hi) n) ∧
  (∀ l g n t g', atom f l g = .ok n t g' → Few l → AllC (EndsIn Hi) n) ∧
  (∀ l g s n t g', group f l g s = .ok n t g' → Few l → AllC (EndsIn Hi) n)
theorem close_ends {all cur : List Nd} (ha : AllCs (EndsIn Hi) all) (hc : AllCs (EndsIn Hi) cur) : AllC (EndsIn Hi) (choice (all ++ [sequence cur])) :=
  choice_all (EndsIn.nil _) (allCs_app ha (allCs_one (sequence_all (EndsIn.nil _) hc)))
theorem ends_at : ∀ f : Nat, EndsAt f
  | 0 => ⟨(fun l g all cur n t g' h => by rw [expr] at h; cases h), (fun l g n t g' h => by rw [piece] at h; cases h), (fun l g n t g' h => by rw [atom] at h; cases h), (fun l g s n t g' h => by rw [group] at h; cases h)⟩
  | f + 1 => by
    obtain ⟨iE, iP, iA, iG⟩ := ends_at f
    obtain ⟨jE, jP, jA, jG⟩ := forms_at f
    have nil := allCs_nil (EndsIn Hi)
    refine ⟨?_, ?_, ?_, ?_⟩
    · intro l g all cur n t g' h ht ha hc
      rw [expr.eq_def] at h
      simp only at h
      split at h
      · cases h; exact close_ends ha hc
      · rename_i x u
        split at h
        · cases h; exact close_ends ha hc
        split at h
        · exact iE _ _ _ _ _ _ _ h (ht.sub (Sub.cons _ (Sub.refl _))) (allCs_app ha (allCs_one (sequence_all (EndsIn.nil _) hc))) nil
        · split at h
          · rename_i m v g2 hp
            have a := iP _ _ _ _ _ hp ht
            have b := (jP _ _ _ _ _ hp ht.top).2
            exact iE _ _ _ _ _ _ _ h (ht.sub b) ha (allCs_app hc (allCs_one a))
          · rename_i hno
            exact absurd h (hno _ _ _)
    · intro l g n t g' h ht
      rw [piece] at h
      split at h
      · rename_i m v g2 hp
        have a := iA _ _ _ _ _ hp ht
        split at h
        · cases h; exact a
        · cases h
        · cases h
          exact allC_mk (EndsIn.nil _) (allCs_one a)
      · rename_i hno
        exact absurd h (hno _ _ _)
    · intro l g n t g' h ht
      rw [atom.eq_def] at h
      simp only at h
      split at h
      · cases h
      · rename_i x u
        split at h
        · exact iG _ _ _ _ _ _ h (ht.sub (Sub.cons _ (Sub.refl _)))
        · exact leaf_ends ht h
    · intro l g s n t g' h ht
      rw [group.eq_def] at h
      simp only at h
      split at h
      · rename_i u
        split at h
        · rename_i m v g2 hp
          cases h
          exact iE _ _ _ _ _ _ _ hp (ht.sub (Sub.cons _ (Sub.cons _ (Sub.refl _)))) nil nil
        · cases h
        · rename_i hno1 hno2
          exact absurd h (hno2 _ _ _)
      · split at h
        · cases h
        · split at h
          · rename_i m v g2 hp
            cases h
            exact allC_mk (EndsIn.nil _) (allCs_one (iE _ _ _ _ _ _ _ hp ht nil nil))
          · cases h
          · rename_i hno1 hno2
            exact absurd h (hno2 _ _ _)
theorem parsed_ends {l t : List Int} {g : Int} {n : Nd} (h : Expr l 0 [] [] (.ok n t g)) (ht : Few l) : AllC (EndsIn Hi) n := by
  obtain ⟨F, hF⟩ := h
  exact (ends_at F).1 _ _ _ _ _ _ _ (hF F (Nat.le_refl _)) ht (allCs_nil _) (allCs_nil _)
/- what Parse is to answer -/
def plc (s : ByteArray) (left : Nat) : Int := (pos s (cnt s - left) : Nat)
inductive Parsed (s : ByteArray) : Nd → Int → Int → Prop
  | long : 200 < s.size → Parsed s empty 200 3
  | ok (n : Nd) (g : Int) : s.size ≤ 200 → Expr (toks s) 0 [] [] (.ok n [] g) → Parsed s n s.size 0
  | close (n : Nd) (x : Int) (t : List Int) (g : Int) : s.size ≤ 200 → Expr (toks s) 0 [] [] (.ok n (x :: t) g) → Parsed s empty (plc s (t.length + 1)) 2
  | bad (e : Int) (left : Nat) : s.size ≤ 200 → Expr (toks s) 0 [] [] (.bad e left) → Parsed s empty (plc s left) e
theorem parsed_only {s : ByteArray} {n m : Nd} {a b e f : Int} (h : Parsed s n a e) (h' : Parsed s m b f) : n = m ∧ a = b ∧ e = f := by
  cases h with
  | long hz =>
    cases h' with
    | long => exact ⟨rfl, rfl, rfl⟩
    | ok _ _ hz' => omega
    | close _ _ _ _ hz' => omega
    | bad _ _ hz' => omega
  | ok n g hz he =>
    cases h' with
    | long hz' => omega
    | ok m g' hz' he' => have := expr_only he he'; cases this; exact ⟨rfl, rfl, rfl⟩
    | close m x t g' hz' he' => have := expr_only he he'; cases this
    | bad e s' hz' he' => have := expr_only he he'; cases this
  | close n x t g hz he =>
    cases h' with
    | long hz' => omega
    | ok m g' hz' he' => have := expr_only he he'; cases this
    | close m x' t' g' hz' he' => have := expr_only he he'; cases this; exact ⟨rfl, rfl, rfl⟩
    | bad e s' hz' he' => have := expr_only he he'; cases this
  | bad e left hz he =>
    cases h' with
    | long hz' => omega
    | ok m g' hz' he' => have := expr_only he he'; cases this
    | close m x' t' g' hz' he' => have := expr_only he he'; cases this
    | bad e s' hz' he' => have := expr_only he he'; cases this; exact ⟨rfl, rfl, rfl⟩
/- a tree in form is what its own text is parsed as -/
theorem text_parsed {s : ByteArray} {g : Int} {n : Nd} (hf : Form 0 n g) (hc : AllC (EndsIn Hi) n) (hs : s.data.toList = cat (put n)) (hz : s.size ≤ 200) : Parsed s n s.size 0 := by
  refine .ok n g hz ?_
  rw [toks_cat (form_ok hf hc).rights hs]
  exact put_parsed hf
end Go.Proofs.YtdoapojmenojoaaGreatDoor.Sx
end
