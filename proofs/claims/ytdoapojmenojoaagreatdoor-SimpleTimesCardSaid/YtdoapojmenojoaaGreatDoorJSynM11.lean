import Derived.Test.YtdoapojmenojoaaGreatDoorJSynV
import Derived.Test.YtdoapojmenojoaaGreatDoorJSynM10
set_option linter.unusedSimpArgs false
set_option linter.unusedVariables false
section
/- How large a parsed tree is, and what is put of it. -/
set_option linter.unusedVariables false
namespace Go.Proofs.YtdoapojmenojoaaGreatDoor.Sx
open Go.Proofs.YtdoapojmenojoaaGreatDoor

theorem member_len {l t : List Int} {c : List Cl.Rg} (h : member l = some (c, t)) : t.length < l.length := by
  unfold member at h
  split at h
  · cases h
  · split at h
    · cases h
    · split at h
      · simp only [Option.some.injEq, Prod.mk.injEq] at h; rw [← h.2]; simp
      · split at h
        · cases h
        · split at h
          · cases h
          · simp only [Option.some.injEq, Prod.mk.injEq] at h; rw [← h.2]; simp; omega
theorem item_len {l t : List Int} {c : List Cl.Rg} (h : item l = some (c, t)) : t.length < l.length := by
  unfold item at h
  split at h
  · cases h
  · rename_i a u hm
    have h1 := member_len hm
    split at h
    · split at h
      · cases h
      · rename_i b v hm'
        have h2 := member_len hm'
        split at h
        · simp only [Option.some.injEq, Prod.mk.injEq] at h; rw [← h.2]; simp only [List.length_cons] at h1; omega
        · cases h
    · simp only [Option.some.injEq, Prod.mk.injEq] at h; rw [← h.2]; exact h1
theorem items_len : ∀ (f : Nat) {l t : List Int} {acc c : List Cl.Rg}, items f l acc = some (c, t) → t.length < l.length
  | 0, l, t, acc, c, h => by rw [items] at h; cases h
  | f + 1, l, t, acc, c, h => by
    rw [items] at h
    split at h
    · cases h
    · rename_i x u hi
      have h1 := item_len hi
      split at h
      · simp only [Option.some.injEq, Prod.mk.injEq] at h; rw [← h.2]; simp only [List.length_cons] at h1; omega
      · have := items_len f h; omega
theorem clsEnd_len {b : Bool} {r : Option (List Cl.Rg × List Int)} {t : List Int} {c : List Cl.Rg} (h : clsEnd b r = some (c, t)) : ∃ c', r = some (c', t) := by
  unfold clsEnd at h
  cases r with
  | none => simp at h
  | some x =>
    obtain ⟨c0, t0⟩ := x
    refine ⟨c0, ?_⟩
    cases b
    · simp only [Bool.false_eq_true, if_false] at h
      split at h
      · cases h
      · simp only [Option.some.injEq, Prod.mk.injEq] at h; rw [h.2]
    · simp only [if_true] at h
      split at h
      · cases h
      · simp only [Option.some.injEq, Prod.mk.injEq] at h; rw [h.2]
theorem cls_len {l t : List Int} {c : List Cl.Rg} (h : cls l = some (c, t)) : t.length < l.length := by
  unfold cls at h
  split at h
  · obtain ⟨c', hc⟩ := clsEnd_len h
    have := items_len _ hc; simp; omega
  · obtain ⟨c', hc⟩ := clsEnd_len h
    exact items_len _ hc
theorem digs_len : ∀ (l : List Int) (n : Int), (digs l n).2.length ≤ l.length
  | [], n => by simp [digs]
  | d :: t, n => by
    rw [digs]
    split
    · have := digs_len t (min (n * 10 + (d - 48)) 1000); simp; omega
    · exact Nat.le_refl _
theorem number_len {l t : List Int} {n : Int} (h : number l = some (n, t)) : t.length ≤ l.length := by
  unfold number at h
  simp only at h
  split at h
  · cases h
  · simp only [Option.some.injEq] at h
    have := digs_len l 0
    rw [h] at this; exact this
theorem braces_len {l t : List Int} {m k : Int} (h : braces l = some (m, k, t)) : t.length ≤ l.length := by
  unfold braces at h
  split at h
  · cases h
  · rename_i a u hn
    have h1 := number_len hn
    split at h
    · simp only [Option.some.injEq, Prod.mk.injEq] at h; rw [← h.2.2]; simp only [List.length_cons] at h1; omega
    · simp only [Option.some.injEq, Prod.mk.injEq] at h; rw [← h.2.2]; simp only [List.length_cons] at h1; omega
    · split at h
      · rename_i b v hn'
        have h2 := number_len hn'
        split at h
        · cases h
        · simp only [Option.some.injEq, Prod.mk.injEq] at h; rw [← h.2.2]; simp only [List.length_cons] at h1 h2; omega
      · cases h
    · cases h
theorem quant_len {l t : List Int} {m k : Int} (h : quant l = some (some (m, k, t))) : t.length < l.length := by
  unfold quant at h
  split at h
  · simp only [Option.some.injEq, Prod.mk.injEq] at h; rw [← h.2.2]; simp
  · simp only [Option.some.injEq, Prod.mk.injEq] at h; rw [← h.2.2]; simp
  · simp only [Option.some.injEq, Prod.mk.injEq] at h; rw [← h.2.2]; simp
  · simp only [Option.some.injEq] at h
    have := braces_len h; simp; omega
  · cases h
theorem lazy_len (l : List Int) : (lazyB l).2.length ≤ l.length := by
  unfold lazyB; split <;> simp
theorem leaf_len {x g g' : Int} {t u : List Int} {n : Nd} (h : leaf x t g = .ok n u g') : u.length ≤ t.length ∧ nsz n = 1 := by
  have one : ∀ c, nsz (oneN c) = 1 := fun c => by rw [oneN, nsz, nszs]
  have mk : ∀ k, nsz (mark k) = 1 := fun k => by rw [mark, nsz, nszs]
  unfold leaf at h
  split at h
  · cases h; exact ⟨Nat.le_refl _, one _⟩
  split at h
  · cases h; exact ⟨Nat.le_refl _, mk _⟩
  split at h
  · cases h; exact ⟨Nat.le_refl _, mk _⟩
  split at h
  · split at h
    · cases h
    · split at h
      · cases h; exact ⟨by simp, mk _⟩
      split at h
      · cases h; exact ⟨by simp, mk _⟩
      split at h
      · cases h
      · cases h; exact ⟨by simp, one _⟩
  split at h
  · split at h
    · cases h
    · rename_i c t' hc
      have := cls_len hc
      cases h; exact ⟨by omega, one _⟩
  split at h
  · cases h
  · cases h; exact ⟨Nat.le_refl _, one _⟩
theorem nszs_one (n : Nd) : nszs [n] = nsz n := by rw [nszs, nszs]; omega
theorem kids_le (n : Nd) : nszs n.kids ≤ nsz n := by obtain ⟨k, c, mn, mx, lz, g, l⟩ := n; rw [nsz]; simp only [Nd.kids]; omega
theorem flat6_size : ∀ l : List Nd, nszs (flat6 l) ≤ nszs l
  | [] => by simp [flat6, nszs]
  | n :: t => by
    have ih := flat6_size t
    have hk := kids_le n
    rw [show flat6 (n :: t) = (if n.k = 6 then n.kids else if n.k = 0 then [] else [n]) ++ flat6 t from rfl, nszs_app, nszs]
    split
    · omega
    · split
      · rw [nszs]; omega
      · rw [nszs_one]; omega
theorem flat7_size : ∀ l : List Nd, nszs (flat7 l) ≤ nszs l
  | [] => by simp [flat7, nszs]
  | n :: t => by
    have ih := flat7_size t
    have hk := kids_le n
    rw [show flat7 (n :: t) = (if n.k = 7 then n.kids else [n]) ++ flat7 t from rfl, nszs_app, nszs]
    split
    · omega
    · rw [nszs_one]; omega
theorem sequence_size (l : List Nd) : nsz (sequence l) ≤ nszs l + 1 := by
  have h := flat6_size l
  unfold sequence
  split
  · rw [empty, nsz, nszs]; omega
  · rename_i x hx; rw [hx, nszs_one] at h; omega
  · rw [nsz]; omega
theorem choice_size (l : List Nd) : nsz (choice l) ≤ nszs l + 1 := by
  have h := flat7_size l
  unfold choice
  split
  · rw [nszs_one]; omega
  · rw [nsz]; omega
def SizeAt (f : Nat) : Prop :=
  (∀ l g all cur n t g', expr f l g all cur = .ok n t g' → t.length ≤ l.length ∧ nsz n + 3 * t.length ≤ nszs all + nszs cur + 3 * l.length + 2) ∧
  (∀ l g n t g', piece f l g = .ok n t g' → t.length < l.length ∧ nsz n + 3 * t.length ≤ 3 * l.length) ∧
  (∀ l g n t g', atom f l g = .ok n t g' → t.length < l.length ∧ nsz n + 3 * t.length ≤ 3 * l.length) ∧
  (∀ l g s n t g', group f l g s = .ok n t g' → t.length ≤ l.length ∧ nsz n + 3 * t.length ≤ 3 * l.length + 3)
theorem close_size (all cur : List Nd) : nsz (choice (all ++ [sequence cur])) ≤ nszs all + nszs cur + 2 := by
  have h1 := choice_size (all ++ [sequence cur])
  have h2 := sequence_size cur
  rw [nszs_app, nszs_one] at h1
  omega
theorem size_at : ∀ f : Nat, SizeAt f
  | 0 => ⟨(fun l g all cur n t g' h => by rw [expr] at h; cases h), (fun l g n t g' h => by rw [piece] at h; cases h), (fun l g n t g' h => by rw [atom] at h; cases h), (fun l g s n t g' h => by rw [group] at h; cases h)⟩
  | f + 1 => by
    obtain ⟨iE, iP, iA, iG⟩ := size_at f
    refine ⟨?_, ?_, ?_, ?_⟩
    · intro l g all cur n t g' h
      have hc := close_size all cur
      rw [expr.eq_def] at h
      simp only at h
      split at h
      · cases h; simp; omega
      · split at h
        · cases h; simp; omega
        split at h
        · have h1 := iE _ _ _ _ _ _ _ h
          have h2 := sequence_size cur
          rw [nszs_app, nszs_one, nszs] at h1
          simp only [List.length_cons]; omega
        · split at h
          · rename_i m t' g1 hp
            have h1 := iE _ _ _ _ _ _ _ h
            have h2 := iP _ _ _ _ _ hp
            rw [nszs_app, nszs_one] at h1
            simp only [List.length_cons] at h2 ⊢; omega
          · rename_i hne
            exact absurd h (hne _ _ _)
    · intro l g n t g' h
      rw [piece] at h
      split at h
      · rename_i m t' g1 ha
        have h1 := iA _ _ _ _ _ ha
        split at h
        · cases h; exact h1
        · cases h
        · rename_i mn mx t'' hq
          have h2 := quant_len hq
          have h3 := lazy_len t''
          cases h
          rw [nsz, nszs_one]; omega
      · rename_i hne
        exact absurd h (hne _ _ _)
    · intro l g n t g' h
      rw [atom.eq_def] at h
      simp only at h
      split at h
      · cases h
      · split at h
        · have := iG _ _ _ _ _ _ h; simp only [List.length_cons]; omega
        · have := leaf_len h; simp only [List.length_cons]; omega
    · intro l g s n t g' h
      rw [group.eq_def] at h
      simp only at h
      split at h
      · split at h
        · rename_i m t'' g1 he
          have h1 := iE _ _ _ _ _ _ _ he
          cases h
          simp only [nszs, List.length_cons] at h1 ⊢; omega
        · cases h
        · rename_i _ hne
          exact absurd h (hne _ _ _)
      · split at h
        · cases h
        · split at h
          · rename_i m t'' g1 he
            have h1 := iE _ _ _ _ _ _ _ he
            cases h
            simp only [nszs, List.length_cons] at h1
            rw [nsz, nszs_one]; omega
          · cases h
          · rename_i _ hne
            exact absurd h (hne _ _ _)
theorem parsed_size {l : List Int} {g : Int} {n : Nd} (h : Expr l 0 [] [] (.ok n [] g)) : nsz n ≤ 3 * l.length + 2 := by
  obtain ⟨F, hF⟩ := h
  have := (size_at F).1 _ _ _ _ _ _ _ (hF F (Nat.le_refl _))
  simp only [nszs, List.length_nil] at this; omega
end Go.Proofs.YtdoapojmenojoaaGreatDoor.Sx
end

section
/- What a stack of open expressions is bounded by. -/
set_option linter.unusedVariables false
namespace Go.Proofs.YtdoapojmenojoaaGreatDoor.Sx

/- no sequence, no choice without kids -/
mutual
def ne : Nd → Bool
  | .mk k _ _ _ _ _ l => ((k != 6 && k != 7) || !l.isEmpty) && nes l
def nes : List Nd → Bool
  | [] => true
  | n :: l => ne n && nes l
end
theorem nes_iff : ∀ {l : List Nd}, nes l = true ↔ ∀ n ∈ l, ne n = true
  | [] => by simp [nes]
  | n :: l => by rw [nes, Bool.and_eq_true, nes_iff]; simp
theorem ne_kids {n : Nd} (h : ne n = true) : (n.k = 6 ∨ n.k = 7 → n.kids ≠ []) ∧ ∀ m ∈ n.kids, ne m = true := by
  obtain ⟨k, c, mn, mx, lz, g, l⟩ := n
  rw [ne, Bool.and_eq_true, Bool.or_eq_true, nes_iff] at h
  refine ⟨fun hk hl => ?_, h.2⟩
  simp only [Nd.k] at hk
  simp only [Nd.kids] at hl
  subst hl
  rcases h.1 with h1 | h1
  · simp only [Bool.and_eq_true, bne_iff_ne] at h1
    rcases hk with rfl | rfl
    · exact h1.1 rfl
    · exact h1.2 rfl
  · simp at h1
theorem ne_mk {k mn mx g : Int} {c : List Cl.Rg} {lz : Bool} {l : List Nd} (hk : (k ≠ 6 ∧ k ≠ 7) ∨ l ≠ []) (hl : ∀ n ∈ l, ne n = true) : ne (.mk k c mn mx lz g l) = true := by
  rw [ne, Bool.and_eq_true, Bool.or_eq_true, nes_iff]
  refine ⟨?_, hl⟩
  rcases hk with h | h
  · left; simp only [Bool.and_eq_true, bne_iff_ne]; exact h
  · right; cases l with
    | nil => exact absurd rfl h
    | cons _ _ => rfl
theorem ne_flat6 {l : List Nd} (h : ∀ n ∈ l, ne n = true) : ∀ n ∈ flat6 l, ne n = true := by
  intro n hn
  unfold flat6 at hn
  obtain ⟨m, hm, hn⟩ := List.mem_flatMap.1 hn
  split at hn
  · exact (ne_kids (h m hm)).2 n hn
  · split at hn
    · cases hn
    · rw [List.mem_singleton] at hn; subst hn; exact h n hm
theorem ne_flat7 {l : List Nd} (h : ∀ n ∈ l, ne n = true) : ∀ n ∈ flat7 l, ne n = true := by
  intro n hn
  unfold flat7 at hn
  obtain ⟨m, hm, hn⟩ := List.mem_flatMap.1 hn
  split at hn
  · exact (ne_kids (h m hm)).2 n hn
  · rw [List.mem_singleton] at hn; subst hn; exact h n hm
theorem ne_sequence {l : List Nd} (h : ∀ n ∈ l, ne n = true) : ne (sequence l) = true := by
  have hf := ne_flat6 h
  unfold sequence
  split
  · rfl
  · next x hx => exact hf x (by rw [hx]; simp)
  · next hx hy =>
    exact ne_mk (.inr (fun e => by rw [e] at hx; simp at hx)) hf
theorem flat7_ne {l : List Nd} (h : ∀ n ∈ l, ne n = true) (hl : l ≠ []) : flat7 l ≠ [] := by
  cases l with
  | nil => exact absurd rfl hl
  | cons n t =>
    intro e
    unfold flat7 at e
    rw [List.flatMap_cons] at e
    obtain ⟨e1, _⟩ := List.append_eq_nil_iff.1 e
    split at e1
    · next hk => exact (ne_kids (h n (by simp))).1 (.inr hk) e1
    · cases e1
theorem ne_choice {l : List Nd} (h : ∀ n ∈ l, ne n = true) (hl : l ≠ []) : ne (choice l) = true := by
  unfold choice
  split
  · next x => exact h x (by simp)
  · exact ne_mk (.inr (flat7_ne h hl)) (ne_flat7 h)
def wE (e : E) : Nat := nszs e.ah + nszs e.la
abbrev neE (e : E) : Prop := (∀ n ∈ e.ah, ne n = true) ∧ ∀ n ∈ e.la, ne n = true
theorem ne_thr {e : E} (h : neE e) : ne e.thr = true := by
  refine ne_choice (fun n hn => ?_) (by simp)
  rcases List.mem_append.1 hn with hn | hn
  · exact h.1 n hn
  · rw [List.mem_singleton] at hn; subst hn; exact ne_sequence h.2
theorem nszs_app : ∀ (a b : List Nd), nszs (a ++ b) = nszs a + nszs b
  | [], b => by simp [nszs]
  | n :: a, b => by rw [List.cons_append, nszs, nszs, nszs_app a b]; omega
theorem nsz_pos (n : Nd) : 1 ≤ nsz n := by obtain ⟨k, c, mn, mx, lz, g, l⟩ := n; rw [nsz]; omega
theorem len_nszs : ∀ l : List Nd, l.length ≤ nszs l
  | [] => by simp
  | n :: l => by rw [nszs, List.length_cons]; have := nsz_pos n; have := len_nszs l; omega
theorem thr_size (e : E) : nsz e.thr ≤ wE e + 2 := close_size e.ah e.la
theorem wrap_size (g : Int) (n : Nd) : nsz (wrapG g n) ≤ nsz n + 1 := by
  unfold wrapG
  split
  · rw [nsz, nszs_one]; omega
  · omega
theorem ne_wrap {g : Int} {n : Nd} (h : ne n = true) : ne (wrapG g n) = true := by
  unfold wrapG
  split
  · exact ne_mk (.inl ⟨by decide, by decide⟩) (fun m hm => by rw [List.mem_singleton] at hm; subst hm; exact h)
  · exact h
def wS : List E → Nat
  | [] => 0
  | e :: es => wE e + wS es
structure Inv (cn : Nat) (l : List Int) (g : Int) (e : E) (es : List E) : Prop where
  sz : wE e + wS es + 3 * l.length ≤ 3 * cn
  dep : es.length + l.length ≤ cn
  ne : ∀ x ∈ e :: es, neE x
  ok : ∀ x ∈ e :: es, OkE x
  g : 0 ≤ g ∧ g ≤ 8
  gs : ∀ x ∈ e :: es, 0 ≤ x.g ∧ x.g ≤ 8
theorem Inv.start (l : List Int) : Inv l.length l 0 (E.new 0) [] := by
  refine ⟨by simp [wE, wS, E.new, nszs], by simp, fun x hx => ?_, fun x hx => ?_, by omega, fun x hx => by rw [List.mem_singleton] at hx; subst hx; exact ⟨Int.le_refl 0, (by decide : (0 : Int) ≤ 8)⟩⟩
  · rw [List.mem_singleton] at hx; subst hx; exact ⟨(fun n hn => by cases hn), (fun n hn => by cases hn)⟩
  · rw [List.mem_singleton] at hx; subst hx; exact fun h => by cases h
theorem Inv.turn {cn : Nat} {x : Int} {t : List Int} {g : Int} {e : E} {es : List E} (h : Inv cn (x :: t) g e es) : Inv cn t g e.turn es := by
  have h1 := h.sz; have h2 := h.dep
  simp only [List.length_cons] at h1 h2
  have h3 := sequence_size e.la
  refine ⟨?_, by omega, fun y hy => ?_, fun y hy => ?_, h.g, fun y hy => (List.mem_cons.1 hy).elim (fun eq => by subst eq; exact h.gs e (by simp)) (fun hy => h.gs y (by simp [hy]))⟩
  · have : wE e.turn ≤ wE e + 1 := by simp only [wE, E.turn, nszs_app, nszs]; omega
    omega
  · rcases List.mem_cons.1 hy with rfl | hy
    · have := h.ne e (by simp)
      refine ⟨fun n hn => ?_, fun n hn => by cases hn⟩
      rcases List.mem_append.1 hn with hn | hn
      · exact this.1 n hn
      · rw [List.mem_singleton] at hn; subst hn; exact ne_sequence this.2
    · exact h.ne y (List.mem_cons_of_mem _ hy)
  · rcases List.mem_cons.1 hy with rfl | hy
    · exact fun h => by cases h
    · exact h.ok y (List.mem_cons_of_mem _ hy)
theorem Inv.push {cn : Nat} {l t : List Int} {g g' gn : Int} {e : E} {es : List E} (h : Inv cn l g e es) (ht : t.length + 1 ≤ l.length) (hg : 0 ≤ g' ∧ g' ≤ 8) (hn : 0 ≤ gn ∧ gn ≤ 8) : Inv cn t g' (E.new gn) (e :: es) := by
  have h1 := h.sz; have h2 := h.dep
  refine ⟨by simp only [wS, wE, E.new, nszs] at h1 ⊢; omega, by simp only [List.length_cons]; omega, fun y hy => ?_, fun y hy => ?_, hg, fun y hy => (List.mem_cons.1 hy).elim (fun eq => by subst eq; exact hn) (fun hy => h.gs y hy)⟩
  · rcases List.mem_cons.1 hy with rfl | hy
    · exact ⟨(fun n hn => by cases hn), (fun n hn => by cases hn)⟩
    · exact h.ne y hy
  · rcases List.mem_cons.1 hy with rfl | hy
    · exact fun h => by cases h
    · exact h.ok y hy
theorem Inv.addN {cn : Nat} {l t : List Int} {g : Int} {e : E} {es : List E} {n : Nd} (h : Inv cn l g e es) (ht : t.length + 1 ≤ l.length) (hn : nsz n ≤ 3) (hne : Sx.ne n = true) : Inv cn t g (e.add n) es := by
  have h1 := h.sz; have h2 := h.dep
  refine ⟨?_, by omega, fun y hy => ?_, fun y hy => ?_, h.g, fun y hy => (List.mem_cons.1 hy).elim (fun eq => by subst eq; exact h.gs e (by simp)) (fun hy => h.gs y (by simp [hy]))⟩
  · have : wE (e.add n) = wE e + nsz n := by simp only [wE, E.add, nszs_app, nszs_one]; omega
    omega
  · rcases List.mem_cons.1 hy with rfl | hy
    · have := h.ne e (by simp)
      refine ⟨this.1, fun m hm => ?_⟩
      rcases List.mem_append.1 hm with hm | hm
      · exact this.2 m hm
      · rw [List.mem_singleton] at hm; subst hm; exact hne
    · exact h.ne y (List.mem_cons_of_mem _ hy)
  · rcases List.mem_cons.1 hy with rfl | hy
    · exact okE_add e n
    · exact h.ok y (List.mem_cons_of_mem _ hy)
theorem Inv.pop {cn : Nat} {x : Int} {t : List Int} {g : Int} {e e' : E} {es : List E} (h : Inv cn (x :: t) g e (e' :: es)) : Inv cn t g (e'.add (wrapG e.g e.thr)) es := by
  have h1 := h.sz; have h2 := h.dep
  simp only [List.length_cons, wS] at h1 h2
  have h3 := thr_size e
  have h4 := wrap_size e.g e.thr
  refine ⟨?_, by omega, fun y hy => ?_, fun y hy => ?_, h.g, fun y hy => (List.mem_cons.1 hy).elim (fun eq => by subst eq; exact h.gs e' (by simp)) (fun hy => h.gs y (by simp [hy]))⟩
  · have : wE (e'.add (wrapG e.g e.thr)) = wE e' + nsz (wrapG e.g e.thr) := by simp only [wE, E.add, nszs_app, nszs_one]; omega
    omega
  · rcases List.mem_cons.1 hy with rfl | hy
    · have := h.ne e' (by simp)
      refine ⟨this.1, fun m hm => ?_⟩
      rcases List.mem_append.1 hm with hm | hm
      · exact this.2 m hm
      · rw [List.mem_singleton] at hm; subst hm; exact ne_wrap (ne_thr (h.ne e (by simp)))
    · exact h.ne y (by simp [hy])
  · rcases List.mem_cons.1 hy with rfl | hy
    · exact okE_add _ _
    · exact h.ok y (by simp [hy])
theorem Inv.rep {cn : Nat} {l t : List Int} {g mn mx : Int} {lz : Bool} {e : E} {es : List E} {la : List Nd} {n : Nd} (h : Inv cn l g e es) (ht : t.length + 1 ≤ l.length) (hla : e.la = la ++ [n]) : Inv cn t g ⟨e.g, e.ah, la ++ [Sx.rep mn mx lz n], false⟩ es := by
  have h1 := h.sz; have h2 := h.dep
  have hn : nsz (Sx.rep mn mx lz n) = nsz n + 1 := by unfold Sx.rep; rw [nsz, nszs_one]; omega
  refine ⟨?_, by omega, fun y hy => ?_, fun y hy => ?_, h.g, fun y hy => (List.mem_cons.1 hy).elim (fun eq => by subst eq; exact h.gs e (by simp)) (fun hy => h.gs y (by simp [hy]))⟩
  · have : wE e = nszs e.ah + (nszs la + nsz n) := by unfold wE; rw [hla, nszs_app, nszs_one]
    simp only [wE, nszs_app, nszs_one, hn] at this ⊢
    unfold wE at h1
    omega
  · rcases List.mem_cons.1 hy with rfl | hy
    · have := h.ne e (by simp)
      rw [neE, hla] at this
      refine ⟨this.1, fun m hm => ?_⟩
      rcases List.mem_append.1 hm with hm | hm
      · exact this.2 m (by simp [hm])
      · rw [List.mem_singleton] at hm; subst hm
        exact ne_mk (.inl ⟨by decide, by decide⟩) (fun m hm => by rw [List.mem_singleton] at hm; subst hm; exact this.2 m (by simp))
    · exact h.ne y (List.mem_cons_of_mem _ hy)
  · rcases List.mem_cons.1 hy with rfl | hy
    · exact fun h => by cases h
    · exact h.ok y (List.mem_cons_of_mem _ hy)
/- what the memory's contracts ask -/
theorem Inv.small {cn : Nat} {l : List Int} {g : Int} {e : E} {es : List E} (h : Inv cn l g e es) (hc : cn ≤ 200) : es.length ≤ 200 ∧ e.ah.length ≤ 600 ∧ e.la.length ≤ 600 ∧ (flat6 e.la).length ≤ 600 ∧ (∀ n ∈ e.la, n.k = 6 → n.kids ≠ []) ∧
    (flat7 (e.ah ++ [sequence e.la])).length ≤ 601 ∧ (∀ n ∈ e.ah ++ [sequence e.la], n.k = 7 → n.kids ≠ []) := by
  have h1 := h.sz; have h2 := h.dep
  have hn := h.ne e (by simp)
  unfold wE at h1
  have a1 := len_nszs e.ah
  have a2 := len_nszs e.la
  have a3 := len_nszs (flat6 e.la)
  have a4 := flat6_size e.la
  have a5 := len_nszs (flat7 (e.ah ++ [sequence e.la]))
  have a6 := flat7_size (e.ah ++ [sequence e.la])
  rw [nszs_app, nszs_one] at a6
  have a7 := sequence_size e.la
  refine ⟨by omega, by omega, by omega, by omega, fun n hn' hk => (ne_kids (hn.2 n hn')).1 (.inl hk), by omega, fun n hn' hk => ?_⟩
  rcases List.mem_append.1 hn' with hm | hm
  · exact (ne_kids (hn.1 n hm)).1 (.inr hk)
  · rw [List.mem_singleton] at hm; subst hm
    exact (ne_kids (ne_sequence hn.2)).1 (.inr hk)
end Go.Proofs.YtdoapojmenojoaaGreatDoor.Sx
end
