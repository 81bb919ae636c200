import Derived.Test.YtdoapojmenojoaaGreatDoorRows
set_option linter.unusedSimpArgs false
set_option linter.unusedVariables false
section
/- Plain facts about ranges of runes: the form in which each set has one list alone; the document's own way to come to it. -/
set_option linter.unusedVariables false
namespace Go.Proofs.YtdoapojmenojoaaGreatDoor.Cl

abbrev Rg := Int × Int
def may (r : Rg) : Prop := 0 ≤ r.1 ∧ r.2 ≤ 1114111 ∧ r.1 ≤ r.2
instance (r : Rg) : Decidable (may r) := by unfold may; infer_instance
def inn (r : Rg) (x : Int) : Prop := r.1 ≤ x ∧ x ≤ r.2
def mem (l : List Rg) (x : Int) : Prop := ∃ r ∈ l, inn r x
def NF (l : List Rg) : Prop := l.Pairwise (fun r s => r.2 + 1 < s.1) ∧ ∀ r ∈ l, may r
theorem mem_nil (x : Int) : ¬ mem [] x := fun ⟨r, h, _⟩ => by cases h
theorem mem_cons (r : Rg) (l : List Rg) (x : Int) : mem (r :: l) x ↔ inn r x ∨ mem l x := by
  constructor
  · rintro ⟨s, hs, hx⟩
    rcases List.mem_cons.1 hs with rfl | hs
    · exact .inl hx
    · exact .inr ⟨s, hs, hx⟩
  · rintro (h | ⟨s, hs, hx⟩)
    · exact ⟨r, List.mem_cons_self .., h⟩
    · exact ⟨s, List.mem_cons_of_mem _ hs, hx⟩
theorem mem_app (a b : List Rg) (x : Int) : mem (a ++ b) x ↔ mem a x ∨ mem b x := by
  constructor
  · rintro ⟨s, hs, hx⟩
    rcases List.mem_append.1 hs with hs | hs
    · exact .inl ⟨s, hs, hx⟩
    · exact .inr ⟨s, hs, hx⟩
  · rintro (⟨s, hs, hx⟩ | ⟨s, hs, hx⟩)
    · exact ⟨s, List.mem_append_left _ hs, hx⟩
    · exact ⟨s, List.mem_append_right _ hs, hx⟩
theorem nf_nil : NF [] := ⟨List.Pairwise.nil, fun r h => by cases h⟩
theorem nf_cons {r : Rg} {l : List Rg} : NF (r :: l) ↔ may r ∧ (∀ s ∈ l, r.2 + 1 < s.1) ∧ NF l := by
  constructor
  · rintro ⟨h1, h2⟩
    exact ⟨h2 r (List.mem_cons_self ..), (List.pairwise_cons.1 h1).1, (List.pairwise_cons.1 h1).2, fun s hs => h2 s (List.mem_cons_of_mem _ hs)⟩
  · rintro ⟨h1, h2, h3, h4⟩
    refine ⟨List.pairwise_cons.2 ⟨h2, h3⟩, fun s hs => ?_⟩
    rcases List.mem_cons.1 hs with rfl | hs
    · exact h1
    · exact h4 s hs
theorem nf_app {a b : List Rg} : NF (a ++ b) ↔ NF a ∧ NF b ∧ ∀ r ∈ a, ∀ s ∈ b, r.2 + 1 < s.1 := by
  constructor
  · rintro ⟨h1, h2⟩
    obtain ⟨p, q, h⟩ := List.pairwise_append.1 h1
    exact ⟨⟨p, fun r hr => h2 r (List.mem_append_left _ hr)⟩, ⟨q, fun r hr => h2 r (List.mem_append_right _ hr)⟩, h⟩
  · rintro ⟨⟨p, p2⟩, ⟨q, q2⟩, h⟩
    refine ⟨List.pairwise_append.2 ⟨p, q, h⟩, fun r hr => ?_⟩
    rcases List.mem_append.1 hr with hr | hr
    · exact p2 r hr
    · exact q2 r hr
/- what is in a form's tail lies behind its head -/
theorem behind {r : Rg} {l : List Rg} (h : NF (r :: l)) {x : Int} (hx : mem l x) : r.2 + 1 < x := by
  obtain ⟨_, h2, h3⟩ := nf_cons.1 h
  obtain ⟨s, hs, hi⟩ := hx
  have := h2 s hs
  unfold inn at hi
  omega
theorem head_low {r : Rg} {l : List Rg} (h : NF (r :: l)) {x : Int} (hx : mem (r :: l) x) : r.1 ≤ x := by
  rcases (mem_cons r l x).1 hx with h1 | h1
  · exact h1.1
  · have := behind h h1
    have := (nf_cons.1 h).1
    unfold may at this
    omega
theorem nf_unique : ∀ {a b : List Rg}, NF a → NF b → (∀ x, mem a x ↔ mem b x) → a = b
  | [], [], _, _, _ => rfl
  | [], s :: b, _, hb, h => by
    have hs := (nf_cons.1 hb).1
    unfold may at hs
    exact absurd ((h s.1).2 ((mem_cons s b s.1).2 (.inl ⟨Int.le_refl _, by omega⟩))) (mem_nil _)
  | r :: a, [], ha, _, h => by
    have hs := (nf_cons.1 ha).1
    unfold may at hs
    exact absurd ((h r.1).1 ((mem_cons r a r.1).2 (.inl ⟨Int.le_refl _, by omega⟩))) (mem_nil _)
  | r :: a, s :: b, ha, hb, h => by
    have hr := (nf_cons.1 ha).1
    have hs := (nf_cons.1 hb).1
    unfold may at hr hs
    have m1 : mem (r :: a) r.1 := (mem_cons r a _).2 (.inl ⟨Int.le_refl _, by omega⟩)
    have m2 : mem (s :: b) s.1 := (mem_cons s b _).2 (.inl ⟨Int.le_refl _, by omega⟩)
    have l1 := head_low hb ((h _).1 m1)
    have l2 := head_low ha ((h _).2 m2)
    have e1 : r.1 = s.1 := by omega
    have e2 : r.2 = s.2 := by
      rcases Int.lt_trichotomy r.2 s.2 with k | k | k
      · have m : mem (s :: b) (r.2 + 1) := (mem_cons s b _).2 (.inl ⟨by omega, by omega⟩)
        rcases (mem_cons r a _).1 ((h _).2 m) with q | q
        · unfold inn at q; omega
        · have := behind ha q; omega
      · exact k
      · have m : mem (r :: a) (s.2 + 1) := (mem_cons r a _).2 (.inl ⟨by omega, by omega⟩)
        rcases (mem_cons s b _).1 ((h _).1 m) with q | q
        · unfold inn at q; omega
        · have := behind hb q; omega
    have e : r = s := Prod.ext e1 e2
    subst e
    rw [nf_unique (nf_cons.1 ha).2.2 (nf_cons.1 hb).2.2 (fun x => by
      constructor
      · intro hx
        have hb' := behind ha hx
        rcases (mem_cons r b x).1 ((h x).1 ((mem_cons r a x).2 (.inr hx))) with q | q
        · unfold inn at q; omega
        · exact q
      · intro hx
        have hb' := behind hb hx
        rcases (mem_cons r a x).1 ((h x).2 ((mem_cons r b x).2 (.inr hx))) with q | q
        · unfold inn at q; omega
        · exact q)]
/- a range comes to a form -/
def absorb : List Rg → Rg → Rg × List Rg
  | [], r => (r, [])
  | t :: l, r => if t.1 ≤ r.2 + 1 then absorb l (min r.1 t.1, max r.2 t.2) else (r, t :: l)
def put (l : List Rg) (r : Rg) : List Rg := (l.takeWhile fun t => decide (t.2 + 1 < r.1)) ++ ((absorb (l.dropWhile fun t => decide (t.2 + 1 < r.1)) r).1 :: (absorb (l.dropWhile fun t => decide (t.2 + 1 < r.1)) r).2)
theorem absorb_spec : ∀ (l : List Rg) (r : Rg), NF l → may r → (∀ t ∈ l, r.1 ≤ t.2 + 1) →
    may (absorb l r).1 ∧ (∀ t ∈ (absorb l r).2, t ∈ l ∧ (absorb l r).1.2 + 1 < t.1) ∧ NF (absorb l r).2 ∧ (∀ x, inn (absorb l r).1 x ∨ mem (absorb l r).2 x ↔ inn r x ∨ mem l x) ∧
    (∀ z, z < r.1 → (∀ t ∈ l, z < t.1) → z < (absorb l r).1.1)
  | [], r, _, hr, _ => ⟨hr, (fun t h => by cases h), nf_nil, fun x => Iff.rfl, fun z h _ => h⟩
  | t :: l, r, hl, hr, hb => by
    obtain ⟨ht, h2, h3⟩ := nf_cons.1 hl
    unfold absorb
    split
    · rename_i hc
      have hbt := hb t (List.mem_cons_self ..)
      have hm : may (min r.1 t.1, max r.2 t.2) := by unfold may at *; simp only; omega
      obtain ⟨a1, a2, a3, a4, a5⟩ := absorb_spec l (min r.1 t.1, max r.2 t.2) h3 hm (fun u hu => by have := h2 u hu; unfold may at ht; simp only; have hu' := h3.2 u hu; unfold may at hu'; omega)
      refine ⟨a1, fun u hu => ⟨List.mem_cons_of_mem _ (a2 u hu).1, (a2 u hu).2⟩, a3, fun x => ?_, fun z hz hzt => a5 z ?_ (fun u hu => hzt u (List.mem_cons_of_mem _ hu))⟩
      · rw [a4 x, mem_cons]
        unfold may at hr ht
        have : inn (min r.1 t.1, max r.2 t.2) x ↔ inn r x ∨ inn t x := by unfold inn; simp only; omega
        rw [this, or_assoc]
      · have := hzt t (List.mem_cons_self ..)
        simp only; omega
    · rename_i hc
      refine ⟨hr, fun u hu => ⟨hu, ?_⟩, hl, fun x => Iff.rfl, fun z h _ => h⟩
      rcases List.mem_cons.1 hu with rfl | hu
      · simp only; omega
      · have := h2 u hu; unfold may at ht; simp only; omega
theorem take_all {l : List Rg} {r : Rg} : ∀ t ∈ l.takeWhile (fun t => decide (t.2 + 1 < r.1)), t.2 + 1 < r.1 := by
  induction l with
  | nil => intro t h; simp at h
  | cons u l ih =>
    intro t h
    rw [List.takeWhile_cons] at h
    split at h
    · rename_i hc
      rcases List.mem_cons.1 h with rfl | h
      · simpa using hc
      · exact ih t h
    · cases h
theorem drop_all {l : List Rg} {r : Rg} (hl : NF l) : ∀ t ∈ l.dropWhile (fun t => decide (t.2 + 1 < r.1)), r.1 ≤ t.2 + 1 := by
  induction l with
  | nil => intro t h; simp at h
  | cons u l ih =>
    obtain ⟨hu, h2, h3⟩ := nf_cons.1 hl
    intro t h
    rw [List.dropWhile_cons] at h
    split at h
    · exact ih h3 t h
    · rename_i hc
      have hc' : ¬ u.2 + 1 < r.1 := by simpa using hc
      rcases List.mem_cons.1 h with rfl | h
      · omega
      · have := h2 t h
        have ht := h3.2 t h
        unfold may at ht hu
        omega
theorem put_spec {l : List Rg} {r : Rg} (hl : NF l) (hr : may r) : NF (put l r) ∧ ∀ x, mem (put l r) x ↔ inn r x ∨ mem l x := by
  have hd : l.takeWhile (fun t => decide (t.2 + 1 < r.1)) ++ l.dropWhile (fun t => decide (t.2 + 1 < r.1)) = l := List.takeWhile_append_dropWhile
  have hl' := hl
  rw [← hd] at hl'
  obtain ⟨n1, n2, n3⟩ := nf_app.1 hl'
  obtain ⟨a1, a2, a3, a4, a5⟩ := absorb_spec _ r n2 hr (drop_all hl)
  unfold put
  refine ⟨nf_app.2 ⟨n1, nf_cons.2 ⟨a1, fun s hs => (a2 s hs).2, a3⟩, fun u hu s hs => ?_⟩, fun x => ?_⟩
  · have hz := a5 (u.2 + 1) (take_all u hu) (fun t ht => n3 u hu t ht)
    rcases List.mem_cons.1 hs with rfl | hs
    · exact hz
    · exact n3 u hu s (a2 s hs).1
  · rw [mem_app, mem_cons, a4 x]
    have : mem l x ↔ mem (l.takeWhile fun t => decide (t.2 + 1 < r.1)) x ∨ mem (l.dropWhile fun t => decide (t.2 + 1 < r.1)) x := by
      rw [← mem_app, hd]
    rw [this]
    constructor
    · rintro (h | h | h)
      · exact .inr (.inl h)
      · exact .inl h
      · exact .inr (.inr h)
    · rintro (h | h | h)
      · exact .inr (.inl h)
      · exact .inl h
      · exact .inr (.inr h)
/- the form of any ranges -/
def ofL : List Rg → List Rg → List Rg
  | acc, [] => acc
  | acc, r :: l => ofL (if may r then put acc r else acc) l
def of (l : List Rg) : List Rg := ofL [] l
def memM (l : List Rg) (x : Int) : Prop := ∃ r ∈ l, may r ∧ inn r x
theorem ofL_spec : ∀ (l acc : List Rg), NF acc → NF (ofL acc l) ∧ ∀ x, mem (ofL acc l) x ↔ mem acc x ∨ memM l x
  | [], acc, h => ⟨h, fun x => ⟨.inl, fun h => h.elim id (fun ⟨r, hr, _⟩ => by cases hr)⟩⟩
  | r :: l, acc, h => by
    have key : memM (r :: l) = fun x => (may r ∧ inn r x) ∨ memM l x := by
      funext x
      refine propext ⟨?_, ?_⟩
      · rintro ⟨s, hs, h1, h2⟩
        rcases List.mem_cons.1 hs with rfl | hs
        · exact .inl ⟨h1, h2⟩
        · exact .inr ⟨s, hs, h1, h2⟩
      · rintro (⟨h1, h2⟩ | ⟨s, hs, h1, h2⟩)
        · exact ⟨r, List.mem_cons_self .., h1, h2⟩
        · exact ⟨s, List.mem_cons_of_mem _ hs, h1, h2⟩
    unfold ofL
    by_cases hm : may r
    · rw [if_pos hm]
      obtain ⟨p1, p2⟩ := put_spec h hm
      obtain ⟨q1, q2⟩ := ofL_spec l (put acc r) p1
      refine ⟨q1, fun x => ?_⟩
      rw [q2 x, p2 x, key]
      constructor
      · rintro ((a | a) | a)
        · exact .inr (.inl ⟨hm, a⟩)
        · exact .inl a
        · exact .inr (.inr a)
      · rintro (a | ⟨_, a⟩ | a)
        · exact .inl (.inr a)
        · exact .inl (.inl a)
        · exact .inr a
    · rw [if_neg hm]
      obtain ⟨q1, q2⟩ := ofL_spec l acc h
      refine ⟨q1, fun x => ?_⟩
      rw [q2 x, key]
      constructor
      · rintro (a | a)
        · exact .inl a
        · exact .inr (.inr a)
      · rintro (a | ⟨b, _⟩ | a)
        · exact .inl a
        · exact absurd b hm
        · exact .inr a
theorem of_nf (l : List Rg) : NF (of l) := (ofL_spec l [] nf_nil).1
theorem of_mem (l : List Rg) (x : Int) : mem (of l) x ↔ memM l x := by
  rw [of, (ofL_spec l [] nf_nil).2 x]
  exact ⟨fun h => h.elim (fun h => absurd h (mem_nil _)) id, .inr⟩
theorem memM_nf {l : List Rg} (h : NF l) (x : Int) : memM l x ↔ mem l x := ⟨fun ⟨r, a, _, b⟩ => ⟨r, a, b⟩, fun ⟨r, a, b⟩ => ⟨r, a, h.2 r a, b⟩⟩
theorem of_of {l : List Rg} (h : NF l) : of l = l := nf_unique (of_nf l) h (fun x => (of_mem l x).trans (memM_nf h x))
/- all others -/
def notL : Int → List Rg → List Rg
  | low, [] => if low ≤ 1114111 then [(low, 1114111)] else []
  | low, r :: l => (if low < r.1 then [(low, r.1 - 1)] else []) ++ notL (r.2 + 1) l
theorem notL_spec : ∀ (l : List Rg) (low : Int), NF l → 0 ≤ low → low ≤ 1114112 → (∀ r ∈ l, low ≤ r.1) →
    NF (notL low l) ∧ (∀ r ∈ notL low l, low ≤ r.1) ∧ ∀ x, mem (notL low l) x ↔ (low ≤ x ∧ x ≤ 1114111 ∧ ¬ mem l x)
  | [], low, _, h0, h1, _ => by
    unfold notL
    split
    · rename_i h
      refine ⟨nf_cons.2 ⟨⟨h0, Int.le_refl _, h⟩, (fun s hs => by cases hs), nf_nil⟩, fun r hr => ?_, fun x => ?_⟩
      · simp at hr; subst hr; exact Int.le_refl _
      · rw [mem_cons]
        have h1 := mem_nil x
        unfold inn
        simp only [h1, or_false, not_false_eq_true, and_true]
    · rename_i h
      refine ⟨nf_nil, fun r hr => (by cases hr), fun x => ⟨fun h => absurd h (mem_nil _), fun h => by omega⟩⟩
  | r :: l, low, hl, h0, h1, hb => by
    obtain ⟨hr, h2, h3⟩ := nf_cons.1 hl
    have hr' := hr
    unfold may at hr'
    have hlow := hb r (List.mem_cons_self ..)
    obtain ⟨q1, q2, q3⟩ := notL_spec l (r.2 + 1) h3 (by omega) (by omega) (fun s hs => by have := h2 s hs; omega)
    have hmem : ∀ x, mem (r :: l) x ↔ inn r x ∨ mem l x := mem_cons r l
    unfold notL
    split
    · rename_i hc
      refine ⟨nf_app.2 ⟨nf_cons.2 ⟨by unfold may; simp only; omega, (fun s hs => by cases hs), nf_nil⟩, q1, fun u hu s hs => ?_⟩, fun u hu => ?_, fun x => ?_⟩
      · simp at hu; subst hu
        have := q2 s hs
        simp only; omega
      · rcases List.mem_append.1 hu with hu | hu
        · simp at hu; subst hu; exact Int.le_refl _
        · have := q2 u hu; omega
      · rw [mem_app, q3 x, hmem x, mem_cons]
        have hn := mem_nil x
        simp only [hn, or_false]
        have hbh : mem l x → r.2 + 1 < x := fun h => behind hl h
        unfold inn
        simp only
        constructor
        · rintro (h | ⟨a, b, c⟩)
          · refine ⟨h.1, by omega, fun h' => ?_⟩
            rcases h' with h' | h'
            · omega
            · have := hbh h'; omega
          · refine ⟨by omega, b, fun h' => ?_⟩
            rcases h' with h' | h'
            · omega
            · exact c h'
        · rintro ⟨a, b, c⟩
          by_cases hx : x < r.1
          · exact .inl ⟨a, by omega⟩
          · refine .inr ⟨?_, b, fun h => c (.inr h)⟩
            by_cases h5 : x ≤ r.2
            · exact absurd (.inl ⟨by omega, h5⟩) c
            · omega
    · rename_i hc
      rw [List.nil_append]
      refine ⟨q1, fun u hu => by have := q2 u hu; omega, fun x => ?_⟩
      rw [q3 x, hmem x]
      unfold inn
      constructor
      · rintro ⟨a, b, c⟩
        refine ⟨by omega, b, fun h' => ?_⟩
        rcases h' with h' | h'
        · omega
        · exact c h'
      · rintro ⟨a, b, c⟩
        refine ⟨?_, b, fun h => c (.inr h)⟩
        by_cases h5 : x ≤ r.2
        · exact absurd (.inl ⟨by omega, h5⟩) c
        · omega
def nots (l : List Rg) : List Rg := notL 0 (of l)
theorem nots_spec (l : List Rg) : NF (nots l) ∧ ∀ x, mem (nots l) x ↔ (0 ≤ x ∧ x ≤ 1114111 ∧ ¬ memM l x) := by
  obtain ⟨a, _, c⟩ := notL_spec (of l) 0 (of_nf l) (Int.le_refl _) (by omega) (fun r hr => ((of_nf l).2 r hr).1)
  exact ⟨a, fun x => by rw [nots, c x, of_mem]⟩
/- how many -/
def sumL : List Rg → Int
  | [] => 0
  | r :: l => (r.2 - r.1 + 1) + sumL l
/- a form's runes are no more than there are from its least on -/
end Go.Proofs.YtdoapojmenojoaaGreatDoor.Cl
end

section
/- Plain facts about classes: ranges that rise, merged; put as a text; counted. -/
set_option linter.unusedVariables false
namespace Go.Proofs.YtdoapojmenojoaaGreatDoor.Cl

/- one more of ranges that rise by their lower ends -/
def step (acc : List Rg) (r : Rg) : List Rg :=
  match acc.getLast? with
  | none => [r]
  | some t => if r.1 ≤ t.2 + 1 then acc.dropLast ++ [(t.1, max t.2 r.2)] else acc ++ [r]
theorem step_nil (r : Rg) : step [] r = [r] := rfl
theorem step_join (i : List Rg) (t r : Rg) (h : r.1 ≤ t.2 + 1) : step (i ++ [t]) r = i ++ [(t.1, max t.2 r.2)] := by
  unfold step; simp [h]
theorem step_more (i : List Rg) (t r : Rg) (h : ¬ r.1 ≤ t.2 + 1) : step (i ++ [t]) r = i ++ [t] ++ [r] := by
  unfold step; simp [h]
theorem step_len (acc : List Rg) (r : Rg) : (step acc r).length ≤ acc.length + 1 := by
  rcases List.eq_nil_or_concat acc with rfl | ⟨i, t, rfl⟩
  · simp [step_nil]
  · rw [List.concat_eq_append]
    by_cases h : r.1 ≤ t.2 + 1
    · rw [step_join _ _ _ h]; simp
    · rw [step_more _ _ _ h]; simp
theorem mem_one (r : Rg) (x : Int) : mem [r] x ↔ inn r x := by
  rw [mem_cons]; exact ⟨fun h => h.elim id (fun h => absurd h (mem_nil _)), .inl⟩
theorem step_spec {acc : List Rg} {r : Rg} (ha : NF acc) (hr : may r) (hl : ∀ t ∈ acc, t.1 ≤ r.1) :
    NF (step acc r) ∧ (∀ x, mem (step acc r) x ↔ mem acc x ∨ inn r x) ∧ ∀ t ∈ step acc r, t.1 ≤ r.1 := by
  rcases List.eq_nil_or_concat acc with rfl | ⟨i, t, rfl⟩
  · rw [step_nil]
    refine ⟨nf_cons.2 ⟨hr, (fun s hs => by cases hs), nf_nil⟩, fun x => ?_, fun t ht => ?_⟩
    · rw [mem_one]; exact ⟨.inr, fun h => h.elim (fun h => absurd h (mem_nil _)) id⟩
    · simp at ht; subst ht; exact Int.le_refl _
  · rw [List.concat_eq_append] at ha hl ⊢
    obtain ⟨n1, n2, n3⟩ := nf_app.1 ha
    have ht := n2.2 t (by simp)
    have htl := hl t (by simp)
    by_cases h : r.1 ≤ t.2 + 1
    · rw [step_join _ _ _ h]
      have hm : may (t.1, max t.2 r.2) := by unfold may at *; simp only; omega
      refine ⟨nf_app.2 ⟨n1, nf_cons.2 ⟨hm, (fun s hs => by cases hs), nf_nil⟩, fun u hu s hs => ?_⟩, fun x => ?_, fun u hu => ?_⟩
      · simp at hs; subst hs
        exact n3 u hu t (by simp)
      · rw [mem_app, mem_app, mem_one, mem_one, or_assoc]
        have : inn (t.1, max t.2 r.2) x ↔ inn t x ∨ inn r x := by unfold may at ht hr; unfold inn; simp only; omega
        rw [this]
      · rcases List.mem_append.1 hu with hu | hu
        · exact hl u (List.mem_append_left _ hu)
        · simp at hu; subst hu; exact htl
    · rw [step_more _ _ _ h]
      refine ⟨nf_app.2 ⟨ha, nf_cons.2 ⟨hr, (fun s hs => by cases hs), nf_nil⟩, fun u hu s hs => ?_⟩, fun x => ?_, fun u hu => ?_⟩
      · simp at hs; subst hs
        rcases List.mem_append.1 hu with hu | hu
        · have := n3 u hu t (by simp); unfold may at ht; omega
        · simp at hu; subst hu; omega
      · rw [mem_app, mem_one]
      · rcases List.mem_append.1 hu with hu | hu
        · exact hl u hu
        · simp at hu; subst hu; exact Int.le_refl _
def mg (l : List Rg) : List Rg := l.foldl step []
theorem mg_aux : ∀ (l acc : List Rg), NF acc → (∀ r ∈ l, may r) → l.Pairwise (fun r s => r.1 ≤ s.1) → (∀ t ∈ acc, ∀ r ∈ l, t.1 ≤ r.1) →
    NF (l.foldl step acc) ∧ ∀ x, mem (l.foldl step acc) x ↔ mem acc x ∨ mem l x
  | [], acc, h, _, _, _ => ⟨h, fun x => ⟨.inl, fun k => k.elim id (fun k => absurd k (mem_nil _))⟩⟩
  | r :: l, acc, h, hm, hp, hb => by
    obtain ⟨p1, p2⟩ := List.pairwise_cons.1 hp
    obtain ⟨s1, s2, s3⟩ := step_spec h (hm r (List.mem_cons_self ..)) (fun t ht => hb t ht r (List.mem_cons_self ..))
    obtain ⟨q1, q2⟩ := mg_aux l (step acc r) s1 (fun t ht => hm t (List.mem_cons_of_mem _ ht)) p2 (fun t ht u hu => Int.le_trans (s3 t ht) (p1 u hu))
    refine ⟨q1, fun x => ?_⟩
    rw [List.foldl_cons, q2 x, s2 x, mem_cons, or_assoc]
theorem mg_of {l m : List Rg} (hm : ∀ r ∈ m, may r) (hp : m.Pairwise (fun r s => r.1 ≤ s.1)) (h : ∀ r, r ∈ m ↔ r ∈ l ∧ may r) : mg m = of l := by
  obtain ⟨a, b⟩ := mg_aux m [] nf_nil hm hp (fun t ht => by cases ht)
  refine nf_unique a (of_nf l) (fun x => ?_)
  rw [show mg m = m.foldl step [] from rfl, b x, of_mem]
  constructor
  · rintro (k | ⟨r, hr, hx⟩)
    · exact absurd k (mem_nil _)
    · exact ⟨r, ((h r).1 hr).1, ((h r).1 hr).2, hx⟩
  · rintro ⟨r, hr, hr', hx⟩
    exact .inr ⟨r, (h r).2 ⟨hr, hr'⟩, hx⟩
theorem mg_take (l : List Rg) (k : Nat) (r : Rg) (h : l[k]? = some r) : mg (l.take (k + 1)) = step (mg (l.take k)) r := by
  have hi := (List.getElem?_eq_some_iff.1 h).1
  have hv := (List.getElem?_eq_some_iff.1 h).2
  unfold mg
  rw [List.take_succ_eq_append_getElem hi, hv, List.foldl_append]
  rfl
theorem fold_len : ∀ (l acc : List Rg), (l.foldl step acc).length ≤ acc.length + l.length
  | [], acc => by simp
  | r :: l, acc => by
    have := fold_len l (step acc r)
    have := step_len acc r
    simp only [List.foldl_cons, List.length_cons]; omega
theorem mg_len (l : List Rg) : (mg l).length ≤ l.length := by have := fold_len l []; simpa [mg] using this
/- which may, in the order in which they stand -/
def mays (l : List Rg) : List Rg := l.filter (fun r => decide (may r))
theorem mays_mem (l : List Rg) (r : Rg) : r ∈ mays l ↔ r ∈ l ∧ may r := by simp [mays]
theorem mays_take (l : List Rg) (k : Nat) (r : Rg) (h : l[k]? = some r) : mays (l.take (k + 1)) = mays (l.take k) ++ (if may r then [r] else []) := by
  have hi := (List.getElem?_eq_some_iff.1 h).1
  have hv := (List.getElem?_eq_some_iff.1 h).2
  unfold mays
  rw [List.take_succ_eq_append_getElem hi, hv, List.filter_append]
  by_cases hm : may r <;> simp [hm]
theorem mays_len (l : List Rg) : (mays l).length ≤ l.length := List.length_filter_le ..
/- how many a form has at most -/
theorem absorb_len : ∀ (l : List Rg) (r : Rg), (absorb l r).2.length ≤ l.length
  | [], r => by simp [absorb]
  | t :: l, r => by
    unfold absorb
    split
    · have := absorb_len l (min r.1 t.1, max r.2 t.2); simp; omega
    · simp
theorem put_len (l : List Rg) (r : Rg) : (put l r).length ≤ l.length + 1 := by
  have h1 : (l.takeWhile fun t => decide (t.2 + 1 < r.1)).length + (l.dropWhile fun t => decide (t.2 + 1 < r.1)).length = l.length := by
    rw [← List.length_append, List.takeWhile_append_dropWhile]
  have := absorb_len (l.dropWhile fun t => decide (t.2 + 1 < r.1)) r
  unfold put
  simp only [List.length_append, List.length_cons]; omega
theorem ofL_len : ∀ (l acc : List Rg), (ofL acc l).length ≤ acc.length + l.length
  | [], acc => by simp [ofL]
  | r :: l, acc => by
    unfold ofL
    split
    · have := ofL_len l (put acc r); have := put_len acc r; simp only [List.length_cons]; omega
    · have := ofL_len l acc; simp only [List.length_cons]; omega
theorem of_len (l : List Rg) : (of l).length ≤ l.length := by have := ofL_len l []; simpa [of] using this
theorem notL_len : ∀ (l : List Rg) (low : Int), (notL low l).length ≤ l.length + 1
  | [], low => by unfold notL; split <;> simp
  | r :: l, low => by
    have := notL_len l (r.2 + 1)
    unfold notL
    split <;> simp <;> omega
theorem nots_len (l : List Rg) : (nots l).length ≤ l.length + 1 := by
  have := notL_len (of l) 0
  have := of_len l
  unfold nots; omega
/- a union has no more runes than both -/
/- what is put -/
def hexC (d : Nat) : UInt8 := UInt8.ofNat (if d < 10 then 48 + d else 87 + d)
def hexD (n : Nat) : List UInt8 := if h : n < 16 then [hexC n] else hexD (n / 16) ++ [hexC (n % 16)]
termination_by n
decreasing_by omega
def unC (c : UInt8) : Nat := if c.toNat < 58 then c.toNat - 48 else c.toNat - 87
def unD (l : List UInt8) : Nat := l.foldl (fun a c => a * 16 + unC c) 0
def hexI (r : Int) : List UInt8 := if r < 0 then 45 :: hexD (-r).toNat else hexD r.toNat
def putR (r : Rg) : List UInt8 := hexI r.1 ++ (if r.2 = r.1 then [] else 45 :: hexI r.2)
def putT : List Rg → List UInt8
  | [] => []
  | r :: l => 44 :: (putR r ++ putT l)
def putL : List Rg → List UInt8
  | [] => []
  | r :: l => putR r ++ putT l
/- two texts cut at the first sign of one kind -/
end Go.Proofs.YtdoapojmenojoaaGreatDoor.Cl
end

section
/- Plain facts about unions, what is not, and ranges cut in two. -/
set_option linter.unusedVariables false
namespace Go.Proofs.YtdoapojmenojoaaGreatDoor.Cl

theorem of_one {a b : Int} (h : may (a, b)) : of [(a, b)] = [(a, b)] := of_of ⟨List.pairwise_singleton _ _, fun r hr => by obtain rfl := List.mem_singleton.1 hr; exact h⟩
/- ranges taken from the last on, each cut or whole -/
def BackAt (l back : List Rg) (k : Nat) : Prop := ∀ x, memM back x ↔ memM (l.drop k) x
end Go.Proofs.YtdoapojmenojoaaGreatDoor.Cl
end

section
/- Patterns in plain words: how runes come to a tree, how a tree is put. -/
set_option linter.unusedVariables false
namespace Go.Proofs.YtdoapojmenojoaaGreatDoor.Sx

inductive Nd where
  | mk (k : Int) (c : List Cl.Rg) (mn mx : Int) (lz : Bool) (g : Int) (kids : List Nd)
def Nd.k : Nd → Int | .mk k _ _ _ _ _ _ => k
def Nd.kids : Nd → List Nd | .mk _ _ _ _ _ _ l => l
def empty : Nd := .mk 0 [] 0 0 false 0 []
def oneN (c : List Cl.Rg) : Nd := .mk 1 c 0 0 false 0 []
def mark (k : Int) : Nd := .mk k [] 0 0 false 0 []
def special (r : Int) : Bool := [92, 46, 91, 93, 40, 41, 42, 43, 63, 123, 125, 124, 94, 36].contains r
def dot : List Cl.Rg := Cl.nots [(10, 10)]
def escape (r : Int) : List Cl.Rg :=
  if special r = true ∨ r = 45 then [(r, r)] else if r = 110 then [(10, 10)] else if r = 116 then [(9, 9)] else if r = 100 then [(48, 57)]
  else if r = 119 then [(48, 57), (65, 90), (95, 95), (97, 122)] else if r = 115 then [(9, 10), (13, 13), (32, 32)] else []
def member : List Int → Option (List Cl.Rg × List Int)
  | [] => none
  | r :: t => if r < 0 ∨ r = 93 ∨ r = 45 ∨ r = 94 then none else if r ≠ 92 then some ([(r, r)], t) else
    match t with
    | [] => none
    | x :: t' => if escape x = [] then none else some (escape x, t')
def low (c : List Cl.Rg) : Int := match c with | [] => 0 | r :: _ => r.1
def single (c : List Cl.Rg) : Prop := Cl.sumL (Cl.of c) = 1
instance (c : List Cl.Rg) : Decidable (single c) := by unfold single; infer_instance
def item (l : List Int) : Option (List Cl.Rg × List Int) :=
  match member l with
  | none => none
  | some (a, t) =>
    match t with
    | 45 :: t' =>
      match member t' with
      | none => none
      | some (b, t'') => if single a ∧ single b ∧ low a ≤ low b then some ([(low a, low b)], t'') else none
    | _ => some (a, t)
def items : Nat → List Int → List Cl.Rg → Option (List Cl.Rg × List Int)
  | 0, _, _ => none
  | f + 1, l, acc =>
    match item l with
    | none => none
    | some (x, t) =>
      match t with
      | 93 :: t' => some (Cl.of (acc ++ x), t')
      | _ => items f t (Cl.of (acc ++ x))
def clsEnd (not : Bool) (r : Option (List Cl.Rg × List Int)) : Option (List Cl.Rg × List Int) :=
  match r with
  | none => none
  | some (c, t) =>
    let c := if not then Cl.nots c else c
    if c = [] ∨ 64 < c.length then none else some (c, t)
def cls (l : List Int) : Option (List Cl.Rg × List Int) :=
  match l with
  | 94 :: t => clsEnd true (items (t.length + 1) t [])
  | _ => clsEnd false (items (l.length + 1) l [])
def digs : List Int → Int → Int × List Int
  | [], n => (n, [])
  | d :: t, n => if 48 ≤ d ∧ d ≤ 57 then digs t (min (n * 10 + (d - 48)) 1000) else (n, d :: t)
def number (l : List Int) : Option (Int × List Int) :=
  let r := digs l 0
  if r.2.length = l.length ∨ 20 < r.1 ∨ (r.2.length + 1 < l.length ∧ l.head? = some 48) then none else some r
def braces (l : List Int) : Option (Int × Int × List Int) :=
  match number l with
  | none => none
  | some (m, t) =>
    match t with
    | 125 :: t' => some (m, m, t')
    | 44 :: 125 :: t' => some (m, -1, t')
    | 44 :: t' =>
      match number t' with
      | some (k, 125 :: t'') => if k < m then none else some (m, k, t'')
      | _ => none
    | _ => none
def quant (t : List Int) : Option (Option (Int × Int × List Int)) :=
  match t with
  | 42 :: t => some (some (0, -1, t))
  | 43 :: t => some (some (1, -1, t))
  | 63 :: t => some (some (0, 1, t))
  | 123 :: t => some (braces t)
  | _ => none
def lazyB (t : List Int) : Bool × List Int := match t with | 63 :: t => (true, t) | t => (false, t)
def flat6 (l : List Nd) : List Nd := l.flatMap fun n => if n.k = 6 then n.kids else if n.k = 0 then [] else [n]
def flat7 (l : List Nd) : List Nd := l.flatMap fun n => if n.k = 7 then n.kids else [n]
def sequence (l : List Nd) : Nd := match flat6 l with | [] => empty | [x] => x | o => .mk 6 [] 0 0 false 0 o
def choice (l : List Nd) : Nd := match l with | [x] => x | l => .mk 7 [] 0 0 false 0 (flat7 l)
inductive R where
  | ok (n : Nd) (t : List Int) (g : Int)
  | bad (e : Int) (left : Nat)
  | out
/- an atom that is no group -/
def leaf (x : Int) (t : List Int) (g : Int) : R :=
  if x = 46 then .ok (oneN dot) t g
  else if x = 94 then .ok (mark 2) t g
  else if x = 36 then .ok (mark 3) t g
  else if x = 92 then
    match t with
    | [] => .bad 2 1
    | y :: t' => if y = 98 then .ok (mark 4) t' g else if y = 66 then .ok (mark 5) t' g else if escape y = [] then .bad 2 (t'.length + 2) else .ok (oneN (escape y)) t' g
  else if x = 91 then
    match cls t with
    | none => .bad 2 (t.length + 1)
    | some (c, t') => .ok (oneN c) t' g
  else if x < 0 ∨ special x = true then .bad 2 (t.length + 1) else .ok (oneN [(x, x)]) t g
mutual
def expr : Nat → List Int → Int → List Nd → List Nd → R
  | 0, _, _, _, _ => .out
  | f + 1, l, g, all, cur =>
    match l with
    | [] => .ok (choice (all ++ [sequence cur])) [] g
    | x :: t =>
      if x = 41 then .ok (choice (all ++ [sequence cur])) (x :: t) g
      else if x = 124 then expr f t g (all ++ [sequence cur]) []
      else match piece f (x :: t) g with
        | .ok n t' g' => expr f t' g' all (cur ++ [n])
        | r => r
def piece : Nat → List Int → Int → R
  | 0, _, _ => .out
  | f + 1, l, g =>
    match atom f l g with
    | .ok n t g' =>
      match quant t with
      | none => .ok n t g'
      | some none => .bad 2 t.length
      | some (some (mn, mx, t')) => .ok (.mk 8 [] mn mx (lazyB t').1 0 [n]) (lazyB t').2 g'
    | r => r
def atom : Nat → List Int → Int → R
  | 0, _, _ => .out
  | f + 1, l, g =>
    match l with
    | [] => .bad 2 0
    | x :: t =>
      if x = 40 then group f t g (t.length + 1)
      else leaf x t g
def group : Nat → List Int → Int → Nat → R
  | 0, _, _, _ => .out
  | f + 1, t, g, start =>
    match t with
    | 63 :: 58 :: t' =>
      match expr f t' g [] [] with
      | .ok n (41 :: t'') g' => .ok n t'' g'
      | .ok _ _ _ => .bad 2 0
      | r => r
    | _ =>
      if 8 < g + 1 then .bad 3 start
      else match expr f t (g + 1) [] [] with
        | .ok n (41 :: t'') g' => .ok (.mk 9 [] 0 0 false (g + 1) [n]) t'' g'
        | .ok _ _ _ => .bad 2 0
        | r => r
end
/- how a tree is put -/
def mem2 (r : Int) : List Int := if r = 92 ∨ r = 93 ∨ r = 45 ∨ r = 94 then [92, r] else [r]
def putRs : List Cl.Rg → List Int
  | [] => []
  | r :: t => mem2 r.1 ++ (if r.2 = r.1 then [] else 45 :: mem2 r.2) ++ putRs t
def putC (c : List Cl.Rg) : List Int :=
  if c = dot then [46] else
  match c with
  | [(a, b)] => if a = b then (if special a = true then [92, a] else [a]) else 91 :: putRs c ++ [93]
  | _ => 91 :: putRs c ++ [93]
def digits (n : Int) : List Int := if n < 10 then [48 + n] else [48 + n / 10 % 10, 48 + n % 10]
def times (mn mx : Int) (lz : Bool) : List Int :=
  (if mn = 0 ∧ mx = -1 then [42] else if mn = 1 ∧ mx = -1 then [43] else if mn = 0 ∧ mx = 1 then [63] else
    123 :: digits mn ++ (if mn = mx then [125] else if mx = -1 then [44, 125] else 44 :: digits mx ++ [125])) ++ (if lz then [63] else [])
def wraps (k j : Int) : Bool := decide (k = 6 ∧ j = 7 ∨ k = 8 ∧ (j = 0 ∨ 6 ≤ j ∧ j ≤ 8))
def wrap (b : Bool) (u : List Int) : List Int := if b then 40 :: 63 :: 58 :: u ++ [41] else u
mutual
def put : Nd → List Int
  | .mk k c mn mx lz g kids =>
    if k = 1 then putC c else if k = 2 then [94] else if k = 3 then [36] else if k = 4 then [92, 98] else if k = 5 then [92, 66] else
    if k = 8 then putKids k true kids ++ times mn mx lz else if k = 9 then 40 :: putKids k true kids ++ [41] else putKids k true kids
def putKids : Int → Bool → List Nd → List Int
  | _, _, [] => []
  | k, first, n :: t => (if k = 7 ∧ first = false then [124] else []) ++ wrap (wraps k n.k) (put n) ++ putKids k false t
end
end Go.Proofs.YtdoapojmenojoaaGreatDoor.Sx
end

section
/- What is put is parsed as it was: the steps. -/
set_option linter.unusedVariables false
namespace Go.Proofs.YtdoapojmenojoaaGreatDoor.Sx

/- from some fuel on -/
def Expr (l : List Int) (g : Int) (all cur : List Nd) (r : R) : Prop := ∃ F, ∀ f, F ≤ f → expr f l g all cur = r
def Piece (l : List Int) (g : Int) (r : R) : Prop := ∃ F, ∀ f, F ≤ f → piece f l g = r
def Atom (l : List Int) (g : Int) (r : R) : Prop := ∃ F, ∀ f, F ≤ f → atom f l g = r
def Grp (l : List Int) (g : Int) (s : Nat) (r : R) : Prop := ∃ F, ∀ f, F ≤ f → group f l g s = r
theorem ge_succ {F f : Nat} (h : F + 1 ≤ f) : ∃ f', f = f' + 1 ∧ F ≤ f' := ⟨f - 1, by omega, by omega⟩
theorem expr_nil (g : Int) (all cur : List Nd) : Expr [] g all cur (.ok (choice (all ++ [sequence cur])) [] g) := ⟨1, fun f h => by
  obtain ⟨f', rfl, _⟩ := ge_succ h; rw [expr]⟩
theorem expr_close (t : List Int) (g : Int) (all cur : List Nd) : Expr (41 :: t) g all cur (.ok (choice (all ++ [sequence cur])) (41 :: t) g) := ⟨1, fun f h => by
  obtain ⟨f', rfl, _⟩ := ge_succ h; rw [expr]; simp only [if_true]⟩
theorem expr_bar {t : List Int} {g : Int} {all cur : List Nd} {r : R} (h : Expr t g (all ++ [sequence cur]) [] r) : Expr (124 :: t) g all cur r := by
  obtain ⟨F, hF⟩ := h
  exact ⟨F + 1, fun f h => by
    obtain ⟨f', rfl, h'⟩ := ge_succ h
    rw [expr]; simp only [show ¬ (124 : Int) = 41 by decide, if_false, if_true]; exact hF f' h'⟩
theorem expr_piece {x : Int} {t t' : List Int} {g g' : Int} {all cur : List Nd} {n : Nd} {r : R} (hx : x ≠ 41) (hx' : x ≠ 124) (hp : Piece (x :: t) g (.ok n t' g')) (h : Expr t' g' all (cur ++ [n]) r) : Expr (x :: t) g all cur r := by
  obtain ⟨F, hF⟩ := h
  obtain ⟨G, hG⟩ := hp
  exact ⟨max F G + 1, fun f h => by
    obtain ⟨f', rfl, h'⟩ := ge_succ h
    rw [expr]; simp only [hx, hx', if_false]; rw [hG f' (by omega)]; exact hF f' (by omega)⟩
theorem piece_plain {l t : List Int} {g g' : Int} {n : Nd} (ha : Atom l g (.ok n t g')) (hq : quant t = none) : Piece l g (.ok n t g') := by
  obtain ⟨F, hF⟩ := ha
  exact ⟨F + 1, fun f h => by
    obtain ⟨f', rfl, h'⟩ := ge_succ h
    rw [piece, hF f' h']; simp only [hq]⟩
theorem piece_rep {l t t' : List Int} {g g' mn mx : Int} {n : Nd} (ha : Atom l g (.ok n t g')) (hq : quant t = some (some (mn, mx, t'))) : Piece l g (.ok (.mk 8 [] mn mx (lazyB t').1 0 [n]) (lazyB t').2 g') := by
  obtain ⟨F, hF⟩ := ha
  exact ⟨F + 1, fun f h => by
    obtain ⟨f', rfl, h'⟩ := ge_succ h
    rw [piece, hF f' h']; simp only [hq]⟩
theorem atom_group {t t' : List Int} {g g' : Int} {n : Nd} (h : Grp t g (t.length + 1) (.ok n t' g')) : Atom (40 :: t) g (.ok n t' g') := by
  obtain ⟨F, hF⟩ := h
  exact ⟨F + 1, fun f h => by
    obtain ⟨f', rfl, h'⟩ := ge_succ h
    rw [atom]; simp only [if_true]; exact hF f' h'⟩
theorem grp_non {t t' : List Int} {g g' : Int} {s : Nat} {n : Nd} (h : Expr t g [] [] (.ok n (41 :: t') g')) : Grp (63 :: 58 :: t) g s (.ok n t' g') := by
  obtain ⟨F, hF⟩ := h
  exact ⟨F + 1, fun f h => by
    obtain ⟨f', rfl, h'⟩ := ge_succ h
    rw [group, hF f' h']; rfl⟩
theorem grp_cap {t t' : List Int} {g g' : Int} {s : Nat} {n : Nd} (ht : ∀ u, t ≠ 63 :: 58 :: u) (hg : g + 1 ≤ 8) (h : Expr t (g + 1) [] [] (.ok n (41 :: t') g')) : Grp t g s (.ok (.mk 9 [] 0 0 false (g + 1) [n]) t' g') := by
  obtain ⟨F, hF⟩ := h
  exact ⟨F + 1, fun f h => by
    obtain ⟨f', rfl, h'⟩ := ge_succ h
    rw [group]
    · simp only [show ¬ 8 < g + 1 by omega, if_false]; rw [hF f' h']; rfl
    · exact fun u hu => ht u hu⟩
/- what begins a piece -/
def startOk (l : List Int) : Prop := ∀ x t, l = x :: t → x ≠ 42 ∧ x ≠ 43 ∧ x ≠ 63 ∧ x ≠ 123
theorem quant_none {l : List Int} (h : startOk l) : quant l = none := by
  cases l with
  | nil => rfl
  | cons x t =>
    obtain ⟨h1, h2, h3, h4⟩ := h x t rfl
    unfold quant
    split
    all_goals first | rfl | (rename_i he; simp only [List.cons.injEq] at he; omega)
theorem piece_head {l t : List Int} {g g' : Int} {n : Nd} (h : Piece l g (.ok n t g')) : ∃ x u, l = x :: u ∧ x ≠ 41 ∧ x ≠ 124 ∧ x ≠ 42 ∧ x ≠ 43 ∧ x ≠ 63 ∧ x ≠ 123 := by
  obtain ⟨F, hF⟩ := h
  have h1 := hF (F + 2) (by omega)
  rw [piece] at h1
  cases l with
  | nil => rw [atom] at h1; simp at h1
  | cons x u =>
    refine ⟨x, u, rfl, ?_⟩
    by_cases hx : x = 41 ∨ x = 124 ∨ x = 42 ∨ x = 43 ∨ x = 63 ∨ x = 123
    · exfalso
      have hs : special x = true := by rcases hx with rfl | rfl | rfl | rfl | rfl | rfl <;> decide
      rw [atom] at h1
      simp only [leaf] at h1
      have a1 : ¬ x = 40 := by omega
      have a2 : ¬ x = 46 := by omega
      have a3 : ¬ x = 94 := by omega
      have a4 : ¬ x = 36 := by omega
      have a5 : ¬ x = 92 := by omega
      have a6 : ¬ x = 91 := by omega
      simp only [a1, a2, a3, a4, a5, a6, if_false, hs, or_true, if_true] at h1
      cases h1
    · omega
end Go.Proofs.YtdoapojmenojoaaGreatDoor.Sx
end

section
/- What is put is parsed as it was: classes, and how many times. -/
set_option linter.unusedVariables false
namespace Go.Proofs.YtdoapojmenojoaaGreatDoor.Sx

theorem mem2_head (a : Int) (s : List Int) : ∃ x u, mem2 a ++ s = x :: u ∧ x ≠ 93 ∧ x ≠ 45 ∧ x ≠ 94 := by
  unfold mem2
  by_cases h : a = 92 ∨ a = 93 ∨ a = 45 ∨ a = 94
  · rw [if_pos h]; exact ⟨92, a :: s, rfl, by decide, by decide, by decide⟩
  · rw [if_neg h]; exact ⟨a, s, rfl, by omega, by omega, by omega⟩
theorem special_iff (r : Int) : special r = true ↔ (r = 92 ∨ r = 46 ∨ r = 91 ∨ r = 93 ∨ r = 40 ∨ r = 41 ∨ r = 42 ∨ r = 43 ∨ r = 63 ∨ r = 123 ∨ r = 125 ∨ r = 124 ∨ r = 94 ∨ r = 36) := by
  unfold special
  rw [List.contains_iff_mem]
  simp
theorem escape_sp {r : Int} (h : special r = true ∨ r = 45) : escape r = [(r, r)] := by unfold escape; rw [if_pos h]
theorem member_put {a : Int} (h0 : 0 ≤ a) (s : List Int) : member (mem2 a ++ s) = some ([(a, a)], s) := by
  unfold mem2
  by_cases h : a = 92 ∨ a = 93 ∨ a = 45 ∨ a = 94
  · rw [if_pos h]
    have he : escape a = [(a, a)] := escape_sp (by rcases h with rfl | rfl | rfl | rfl <;> decide)
    show member (92 :: a :: s) = _
    unfold member
    dsimp only
    rw [if_neg (by decide), if_neg (by decide)]
    simp only [he]
    rw [if_neg (by simp)]
  · rw [if_neg h]
    show member (a :: s) = _
    unfold member
    dsimp only
    rw [if_neg (by omega), if_pos (by omega)]
theorem single_one {a : Int} (h0 : 0 ≤ a) (h1 : a ≤ 1114111) : single [(a, a)] := by
  unfold single
  rw [Cl.of_one (show Cl.may (a, a) from ⟨h0, h1, Int.le_refl _⟩)]
  simp only [Cl.sumL]; omega
theorem item_put {a b : Int} (h0 : 0 ≤ a) (h1 : b ≤ 1114111) (h2 : a ≤ b) {s : List Int} (hs : ∀ t, s ≠ 45 :: t) :
    item (mem2 a ++ (if b = a then [] else 45 :: mem2 b) ++ s) = some ([(a, b)], s) := by
  unfold item
  rw [List.append_assoc, member_put h0]
  by_cases h : b = a
  · subst h
    rw [if_pos rfl, List.nil_append]
    simp only
  · rw [if_neg h]
    show (match member (mem2 b ++ s) with | none => none | some (b', t'') => if single [(a, a)] ∧ single b' ∧ low [(a, a)] ≤ low b' then some ([(low [(a, a)], low b')], t'') else none) = _
    rw [member_put (by omega)]
    simp only
    rw [if_pos ⟨single_one h0 (by omega), single_one (by omega) h1, h2⟩]
    rfl
theorem putRs_head (r : Cl.Rg) (c : List Cl.Rg) (s : List Int) : ∃ x u, putRs (r :: c) ++ s = x :: u ∧ x ≠ 93 ∧ x ≠ 45 ∧ x ≠ 94 := by
  unfold putRs
  obtain ⟨x, u, h, h'⟩ := mem2_head r.1 ((if r.2 = r.1 then [] else 45 :: mem2 r.2) ++ putRs c ++ s)
  exact ⟨x, u, by rw [← h]; simp only [List.append_assoc], h'⟩
theorem items_put (rest : List Int) : ∀ (c : List Cl.Rg) (acc : List Cl.Rg) (f : Nat), c ≠ [] → Cl.NF (acc ++ c) → c.length ≤ f → items f (putRs c ++ 93 :: rest) acc = some (acc ++ c, rest)
  | [], _, _, h, _, _ => absurd rfl h
  | (a, b) :: c, acc, 0, _, _, hf => by simp at hf
  | (a, b) :: c, acc, f + 1, _, hn, hf => by
    have hm := hn.2 (a, b) (by simp)
    unfold Cl.may at hm
    simp only at hm
    have hn' : Cl.NF ((acc ++ [(a, b)]) ++ c) := by rw [List.append_assoc]; exact hn
    have ho : Cl.of (acc ++ [(a, b)]) = acc ++ [(a, b)] := Cl.of_of (Cl.nf_app.1 hn').1
    have hi : item (putRs ((a, b) :: c) ++ 93 :: rest) = some ([(a, b)], putRs c ++ 93 :: rest) := by
      show item ((mem2 a ++ (if b = a then [] else 45 :: mem2 b) ++ putRs c) ++ 93 :: rest) = _
      rw [List.append_assoc]
      refine item_put hm.1 hm.2.1 hm.2.2 (fun t he => ?_)
      cases c with
      | nil => simp [putRs] at he
      | cons r c =>
        obtain ⟨x, u, h, h1, h2, h3⟩ := putRs_head r c (93 :: rest)
        rw [h] at he
        exact h2 (List.cons.inj he).1
    unfold items
    rw [hi]
    cases c with
    | nil =>
      show some (Cl.of (acc ++ [(a, b)]), rest) = _
      rw [ho]
    | cons r c =>
      obtain ⟨x, u, h, h1, h2, h3⟩ := putRs_head r c (93 :: rest)
      have ih := items_put rest (r :: c) (acc ++ [(a, b)]) f (by simp) hn' (by simpa using hf)
      simp only [ho]
      rw [List.append_assoc] at ih
      rw [h] at ih ⊢
      split
      · rename_i t' he; exact absurd (List.cons.inj he).1 h1
      · exact ih
theorem putRs_len (c : List Cl.Rg) : c.length ≤ (putRs c).length := by
  induction c with
  | nil => simp [putRs]
  | cons r c ih =>
    unfold putRs
    have : 1 ≤ (mem2 r.1).length := by unfold mem2; split <;> simp
    simp only [List.length_cons, List.length_append]; omega
theorem cls_put {c : List Cl.Rg} (hn : Cl.NF c) (h0 : c ≠ []) (h64 : c.length ≤ 64) (rest : List Int) : cls (putRs c ++ 93 :: rest) = some (c, rest) := by
  cases c with
  | nil => exact absurd rfl h0
  | cons r c =>
    have hi := items_put rest (r :: c) [] ((putRs (r :: c) ++ 93 :: rest).length + 1) h0 hn (by have := putRs_len (r :: c); simp only [List.length_append]; omega)
    obtain ⟨x, u, h, h1, h2, h3⟩ := putRs_head r c (93 :: rest)
    unfold cls
    rw [h] at hi ⊢
    split
    · rename_i t he; exact absurd (List.cons.inj he).1 h3
    · rw [hi]
      unfold clsEnd
      simp only [List.nil_append, Bool.false_eq_true, if_false]
      rw [if_neg (by simp at h64 ⊢; omega)]
theorem atom_leaf {x : Int} {t : List Int} {g : Int} (hx : x ≠ 40) : Atom (x :: t) g (leaf x t g) := ⟨1, fun f h => by
  obtain ⟨f', rfl, _⟩ := ge_succ h; rw [atom]; simp only [hx, if_false]⟩
theorem atom_class {c : List Cl.Rg} (hn : Cl.NF c) (h0 : c ≠ []) (h64 : c.length ≤ 64) (rest : List Int) (g : Int) : Atom (putC c ++ rest) g (.ok (oneN c) rest g) := by
  unfold putC
  by_cases hd : c = dot
  · rw [if_pos hd]
    have := atom_leaf (x := 46) (t := rest) (g := g) (by decide)
    rw [hd]; exact this
  · rw [if_neg hd]
    have hb : Atom (91 :: putRs c ++ [93] ++ rest) g (.ok (oneN c) rest g) := by
      have := atom_leaf (x := 91) (t := putRs c ++ 93 :: rest) (g := g) (by decide)
      rw [show leaf 91 (putRs c ++ 93 :: rest) g = .ok (oneN c) rest g by
        unfold leaf
        simp only [show ¬ (91 : Int) = 46 by decide, show ¬ (91 : Int) = 94 by decide, show ¬ (91 : Int) = 36 by decide, show ¬ (91 : Int) = 92 by decide, if_false, if_true]
        rw [cls_put hn h0 h64]] at this
      simpa using this
    split
    · rename_i a b
      by_cases hab : a = b
      · subst hab
        rw [if_pos rfl]
        have hm := hn.2 (a, a) (by simp)
        unfold Cl.may at hm
        simp only at hm
        by_cases hs : special a = true
        · rw [if_pos hs]
          have := atom_leaf (x := 92) (t := a :: rest) (g := g) (by decide)
          rw [show leaf 92 (a :: rest) g = .ok (oneN [(a, a)]) rest g by
            unfold leaf
            have he := escape_sp (.inl hs)
            have h1 : ¬ a = 98 := by intro h; rw [h] at hs; revert hs; decide
            have h2 : ¬ a = 66 := by intro h; rw [h] at hs; revert hs; decide
            simp only [show ¬ (92 : Int) = 46 by decide, show ¬ (92 : Int) = 94 by decide, show ¬ (92 : Int) = 36 by decide, if_false, if_true, h1, h2, he]
            rw [if_neg (by simp)]] at this
          exact this
        · rw [if_neg hs]
          have hs' := fun h => hs ((special_iff a).2 h)
          have := atom_leaf (x := a) (t := rest) (g := g) (fun h => hs' (by omega))
          rw [show leaf a rest g = .ok (oneN [(a, a)]) rest g by
            unfold leaf
            rw [if_neg (fun h => hs' (by omega)), if_neg (fun h => hs' (by omega)), if_neg (fun h => hs' (by omega)), if_neg (fun h => hs' (by omega)), if_neg (fun h => hs' (by omega)), if_neg (by rintro (h | h); omega; exact hs h)]] at this
          exact this
      · rw [if_neg hab]; exact hb
    · exact hb
/- how many times -/
theorem digs_stop {c : Int} (hc : ¬ (48 ≤ c ∧ c ≤ 57)) (s : List Int) (n : Int) : digs (c :: s) n = (n, c :: s) := by
  rw [digs]; rw [if_neg hc]
theorem number_put {n : Int} (h0 : 0 ≤ n) (h1 : n ≤ 20) {c : Int} (hc : ¬ (48 ≤ c ∧ c ≤ 57)) (s : List Int) : number (digits n ++ c :: s) = some (n, c :: s) := by
  unfold digits number
  by_cases h : n < 10
  · rw [if_pos h]
    have hd : digs ([48 + n] ++ c :: s) 0 = (n, c :: s) := by
      show digs ((48 + n) :: c :: s) 0 = _
      rw [digs, if_pos (by omega), digs_stop hc]
      rw [show min (0 * 10 + (48 + n - 48)) 1000 = n by omega]
    simp only [hd]
    rw [if_neg (by simp; omega)]
  · rw [if_neg h]
    have hd : digs ([48 + n / 10 % 10, 48 + n % 10] ++ c :: s) 0 = (n, c :: s) := by
      show digs ((48 + n / 10 % 10) :: (48 + n % 10) :: c :: s) 0 = _
      rw [digs, if_pos (by omega), digs, if_pos (by omega), digs_stop hc]
      rw [show min (min (0 * 10 + (48 + n / 10 % 10 - 48)) 1000 * 10 + (48 + n % 10 - 48)) 1000 = n by omega]
    simp only [hd]
    rw [if_neg (by simp; omega)]
theorem quant_put {mn mx : Int} (lz : Bool) (h0 : 0 ≤ mn) (h1 : mn ≤ 20) (h2 : mx = -1 ∨ mn ≤ mx ∧ mx ≤ 20) (rest : List Int) :
    quant (times mn mx lz ++ rest) = some (some (mn, mx, (if lz then [63] else []) ++ rest)) := by
  unfold times
  rw [List.append_assoc]
  generalize (if lz = true then [63] else []) ++ rest = s
  by_cases c1 : mn = 0 ∧ mx = -1
  · rw [if_pos c1, c1.1, c1.2]; rfl
  · rw [if_neg c1]
    by_cases c2 : mn = 1 ∧ mx = -1
    · rw [if_pos c2, c2.1, c2.2]; rfl
    · rw [if_neg c2]
      by_cases c3 : mn = 0 ∧ mx = 1
      · rw [if_pos c3, c3.1, c3.2]; rfl
      · rw [if_neg c3]
        show some (braces (digits mn ++ (if mn = mx then [125] else if mx = -1 then [44, 125] else 44 :: digits mx ++ [125]) ++ s)) = _
        rw [List.append_assoc]
        by_cases c4 : mn = mx
        · rw [if_pos c4]
          unfold braces
          rw [show digits mn ++ ([125] ++ s) = digits mn ++ 125 :: s from rfl, number_put h0 h1 (by decide), c4]; rfl
        · rw [if_neg c4]
          by_cases c5 : mx = -1
          · rw [if_pos c5]
            unfold braces
            rw [show digits mn ++ ([44, 125] ++ s) = digits mn ++ 44 :: 125 :: s from rfl, number_put h0 h1 (by decide), c5]; rfl
          · rw [if_neg c5]
            have hn := number_put (n := mx) (by omega) (by omega) (c := 125) (by decide) s
            have hh : ∃ x u, digits mx ++ 125 :: s = x :: u ∧ x ≠ 125 := by
              unfold digits
              by_cases h : mx < 10
              · rw [if_pos h]; exact ⟨48 + mx, 125 :: s, rfl, by omega⟩
              · rw [if_neg h]; exact ⟨_, _, rfl, by omega⟩
            obtain ⟨x, u, hx, hx'⟩ := hh
            unfold braces
            rw [show digits mn ++ (44 :: digits mx ++ [125] ++ s) = digits mn ++ 44 :: (digits mx ++ 125 :: s) by simp, number_put h0 h1 (by decide)]
            rw [hx] at hn ⊢
            simp only
            split
            · rename_i he; exact absurd (List.cons.inj he).1 (by decide)
            · rename_i t' he; exact absurd (List.cons.inj (List.cons.inj he).2).1 hx'
            · rename_i t' he he'
              cases (List.cons.inj he').2
              rw [hn]
              simp only
              rw [if_neg (by omega)]
            · rename_i h1' h2' h3'; exact absurd rfl (h3' _)
theorem lazy_put (lz : Bool) {rest : List Int} (h : startOk rest) : lazyB ((if lz then [63] else []) ++ rest) = (lz, rest) := by
  cases lz
  · show lazyB rest = _
    unfold lazyB
    split
    · rename_i t; exact absurd rfl (h 63 t rfl).2.2.1
    · rfl
  · rfl
end Go.Proofs.YtdoapojmenojoaaGreatDoor.Sx
end

section
/- What is put is parsed as it was: trees. -/
set_option linter.unusedVariables false
namespace Go.Proofs.YtdoapojmenojoaaGreatDoor.Sx

/- the form of what was parsed; how many groups were begun ahead of it, and behind -/
def isMark (k : Int) : Prop := 2 ≤ k ∧ k ≤ 5
mutual
inductive Form : Int → Nd → Int → Prop
  | empty (g : Int) : Form g empty g
  | one (g : Int) (c : List Cl.Rg) : Cl.NF c → c ≠ [] → c.length ≤ 64 → Form g (oneN c) g
  | mark (g k : Int) : isMark k → Form g (mark k) g
  | cat {g g' : Int} {l : List Nd} : Forms g l g' → 2 ≤ l.length → (∀ n ∈ l, n.k ≠ 0 ∧ n.k ≠ 6) → Form g (.mk 6 [] 0 0 false 0 l) g'
  | alt {g g' : Int} {l : List Nd} : Forms g l g' → 2 ≤ l.length → (∀ n ∈ l, n.k ≠ 7) → Form g (.mk 7 [] 0 0 false 0 l) g'
  | rep {g g' : Int} {n : Nd} (mn mx : Int) (lz : Bool) : Form g n g' → 0 ≤ mn → mn ≤ 20 → (mx = -1 ∨ mn ≤ mx ∧ mx ≤ 20) → Form g (.mk 8 [] mn mx lz 0 [n]) g'
  | grp {g g' : Int} {n : Nd} : g + 1 ≤ 8 → Form (g + 1) n g' → Form g (.mk 9 [] 0 0 false (g + 1) [n]) g'
inductive Forms : Int → List Nd → Int → Prop
  | nil (g : Int) : Forms g [] g
  | cons {g g' g'' : Int} {n : Nd} {l : List Nd} : Form g n g' → Forms g' l g'' → Forms g (n :: l) g''
end
def closing (l : List Int) : Prop := l = [] ∨ ∃ t, l = 41 :: t
def sep (l : List Int) : Prop := l = [] ∨ ∃ x t, l = x :: t ∧ (x = 41 ∨ x = 124)
theorem sep_start {l : List Int} (h : sep l) : startOk l := by
  rintro x t rfl
  rcases h with h | ⟨y, u, h, h'⟩
  · cases h
  · cases h; omega
theorem closing_sep {l : List Int} (h : closing l) : sep l := by
  rcases h with h | ⟨t, h⟩
  · exact .inl h
  · exact .inr ⟨41, t, h, .inl rfl⟩
theorem closing_expr {l : List Int} (h : closing l) (g : Int) (all cur : List Nd) : Expr l g all cur (.ok (choice (all ++ [sequence cur])) l g) := by
  rcases h with rfl | ⟨t, rfl⟩
  · exact expr_nil g all cur
  · exact expr_close t g all cur
structure Say (g : Int) (n : Nd) (g' : Int) : Prop where
  whole : ∀ rest, closing rest → Expr (put n ++ rest) g [] [] (.ok n rest g')
  atom : (1 ≤ n.k ∧ n.k ≤ 5 ∨ n.k = 9) → ∀ rest, Atom (put n ++ rest) g (.ok n rest g')
  piece : n.k ≠ 0 → n.k ≠ 6 → n.k ≠ 7 → ∀ rest, startOk rest → Piece (put n ++ rest) g (.ok n rest g')
  seq : n.k ≠ 7 → ∀ rest all r, sep rest → (∀ L, sequence L = n → Expr rest g' all L r) → Expr (put n ++ rest) g all [] r
inductive Says : Int → List Nd → Int → Prop
  | nil (g : Int) : Says g [] g
  | cons {g g' g'' : Int} {n : Nd} {l : List Nd} : Say g n g' → Says g' l g'' → Says g (n :: l) g''
theorem seq_one {n : Nd} (h0 : n.k ≠ 0) (h6 : n.k ≠ 6) : sequence [n] = n := by
  unfold sequence flat6
  simp [h0, h6]
/- from a piece to a sequence of one, and to the whole -/
theorem say_piece {g g' : Int} {n : Nd} (h0 : n.k ≠ 0) (h6 : n.k ≠ 6) (hp : ∀ rest, startOk rest → Piece (put n ++ rest) g (.ok n rest g')) (rest : List Int) (all : List Nd) (r : R) (hs : sep rest) (h : ∀ L, sequence L = n → Expr rest g' all L r) : Expr (put n ++ rest) g all [] r := by
  have h1 := hp rest (sep_start hs)
  obtain ⟨x, u, hx, a1, a2, _⟩ := piece_head h1
  rw [hx] at h1 ⊢
  exact expr_piece a1 a2 h1 (h _ (seq_one h0 h6))
theorem say_whole {g g' : Int} {n : Nd} (hs : ∀ rest all r, sep rest → (∀ L, sequence L = n → Expr rest g' all L r) → Expr (put n ++ rest) g all [] r) (rest : List Int) (hc : closing rest) : Expr (put n ++ rest) g [] [] (.ok n rest g') := by
  refine hs rest [] _ (closing_sep hc) (fun L hL => ?_)
  have := closing_expr hc g' [] L
  rw [hL] at this
  exact this
theorem say_atom {g g' : Int} {n : Nd} (hk : 1 ≤ n.k ∧ n.k ≤ 5 ∨ n.k = 9) (ha : ∀ rest, Atom (put n ++ rest) g (.ok n rest g')) : Say g n g' :=
  have hp : ∀ rest, startOk rest → Piece (put n ++ rest) g (.ok n rest g') := fun rest hr => piece_plain (ha rest) (quant_none hr)
  have hs := say_piece (n := n) (by omega) (by omega) hp
  ⟨say_whole hs, fun _ => ha, fun _ _ _ => hp, fun _ => hs⟩
/- in '(?:' and ')' -/
theorem atom_wrap {g g' : Int} {n : Nd} (h : Say g n g') (rest : List Int) : Atom (wrap true (put n) ++ rest) g (.ok n rest g') := by
  have h1 := h.whole (41 :: rest) (.inr ⟨rest, rfl⟩)
  have h2 := grp_non (s := (63 :: 58 :: (put n ++ 41 :: rest)).length + 1) h1
  have h3 := atom_group h2
  unfold wrap
  simpa using h3
theorem say_empty (g : Int) : Say g empty g := by
  have hp : put empty = [] := by simp [empty, put, putKids]
  have hs : ∀ rest all r, sep rest → (∀ L, sequence L = empty → Expr rest g all L r) → Expr (put empty ++ rest) g all [] r := fun rest all r _ h => by
    rw [hp]; exact h [] rfl
  exact ⟨say_whole hs, fun h => by have : (1 ≤ (0 : Int) ∧ (0 : Int) ≤ 5 ∨ (0 : Int) = 9) := h; omega, fun h => absurd rfl h, fun _ => hs⟩
theorem say_one (g : Int) (c : List Cl.Rg) (hn : Cl.NF c) (h0 : c ≠ []) (h64 : c.length ≤ 64) : Say g (oneN c) g :=
  say_atom (.inl (by show (1 : Int) ≤ 1 ∧ (1 : Int) ≤ 5; omega)) (fun rest => by
    have hp : put (oneN c) = putC c := by simp [oneN, put]
    rw [hp]; exact atom_class hn h0 h64 rest g)
theorem say_mark (g k : Int) (h : isMark k) : Say g (mark k) g :=
  say_atom (.inl (by show 1 ≤ k ∧ k ≤ 5; unfold isMark at h; omega)) (fun rest => by
    unfold isMark at h
    have hk : k = 2 ∨ k = 3 ∨ k = 4 ∨ k = 5 := by omega
    rcases hk with rfl | rfl | rfl | rfl
    · have hp : put (mark 2) = [94] := by simp [mark, put]
      rw [hp]; exact atom_leaf (x := 94) (t := rest) (g := g) (by decide)
    · have hp : put (mark 3) = [36] := by simp [mark, put]
      rw [hp]; exact atom_leaf (x := 36) (t := rest) (g := g) (by decide)
    · have hp : put (mark 4) = [92, 98] := by simp [mark, put]
      rw [hp]; exact atom_leaf (x := 92) (t := 98 :: rest) (g := g) (by decide)
    · have hp : put (mark 5) = [92, 66] := by simp [mark, put]
      rw [hp]; exact atom_leaf (x := 92) (t := 66 :: rest) (g := g) (by decide))
theorem wraps_rep {g g' : Int} {n : Nd} (h : Say g n g') (hf : 0 ≤ n.k ∧ n.k ≤ 9) (rest : List Int) : Atom (wrap (wraps 8 n.k) (put n) ++ rest) g (.ok n rest g') := by
  by_cases hw : n.k = 0 ∨ 6 ≤ n.k ∧ n.k ≤ 8
  · rw [show wraps 8 n.k = true by unfold wraps; rw [decide_eq_true_eq]; exact .inr ⟨rfl, by omega⟩]
    exact atom_wrap h rest
  · rw [show wraps 8 n.k = false by unfold wraps; rw [decide_eq_false_iff_not]; rintro (h | h) <;> omega]
    exact h.atom (by omega) rest
theorem say_rep {g g' : Int} {n : Nd} (mn mx : Int) (lz : Bool) (h : Say g n g') (hf : 0 ≤ n.k ∧ n.k ≤ 9) (h0 : 0 ≤ mn) (h1 : mn ≤ 20) (h2 : mx = -1 ∨ mn ≤ mx ∧ mx ≤ 20) : Say g (.mk 8 [] mn mx lz 0 [n]) g' := by
  have hput : put (.mk 8 [] mn mx lz 0 [n]) = wrap (wraps 8 n.k) (put n) ++ times mn mx lz := by simp [put, putKids]
  have hp : ∀ rest, startOk rest → Piece (put (.mk 8 [] mn mx lz 0 [n]) ++ rest) g (.ok (.mk 8 [] mn mx lz 0 [n]) rest g') := fun rest hr => by
    rw [hput, List.append_assoc]
    have := piece_rep (wraps_rep h hf (times mn mx lz ++ rest)) (quant_put lz h0 h1 h2 rest)
    rw [lazy_put lz hr] at this
    exact this
  have hs := say_piece (n := .mk 8 [] mn mx lz 0 [n]) (by show (8 : Int) ≠ 0; decide) (by show (8 : Int) ≠ 6; decide) hp
  exact ⟨say_whole hs, fun h => by have : (1 ≤ (8 : Int) ∧ (8 : Int) ≤ 5 ∨ (8 : Int) = 9) := h; omega, fun _ _ _ => hp, fun _ => hs⟩
theorem whole_head {g g' : Int} {n : Nd} {l : List Int} {t : List Int} (h : Expr l g [] [] (.ok n t g')) : ∀ u, l ≠ 63 :: 58 :: u := by
  rintro u rfl
  obtain ⟨F, hF⟩ := h
  have h1 := hF (F + 3) (by omega)
  rw [expr] at h1
  rw [piece] at h1
  rw [atom] at h1
  simp only [leaf] at h1
  revert h1
  rw [show special 63 = true by decide]
  simp
theorem say_grp {g g' : Int} {n : Nd} (hg : g + 1 ≤ 8) (h : Say (g + 1) n g') : Say g (.mk 9 [] 0 0 false (g + 1) [n]) g' :=
  say_atom (.inr rfl) (fun rest => by
    have hw : wraps 9 n.k = false := by unfold wraps; simp
    have hput : put (.mk 9 [] 0 0 false (g + 1) [n]) = 40 :: put n ++ [41] := by simp [put, putKids, hw, wrap]
    have h1 := h.whole (41 :: rest) (.inr ⟨rest, rfl⟩)
    have h2 := atom_group (grp_cap (s := (put n ++ 41 :: rest).length + 1) (whole_head h1) hg h1)
    rw [hput]
    simpa using h2)
end Go.Proofs.YtdoapojmenojoaaGreatDoor.Sx
end

section
/- What is put is parsed as it was. -/
set_option linter.unusedVariables false
namespace Go.Proofs.YtdoapojmenojoaaGreatDoor.Sx

theorem startOk_nil : startOk [] := fun x t h => by cases h
theorem start_app {w s : List Int} {x : Int} {u : List Int} (h : w = x :: u) (hx : x ≠ 42 ∧ x ≠ 43 ∧ x ≠ 63 ∧ x ≠ 123) : startOk (w ++ s) := by
  subst h
  intro y t he
  cases he
  exact hx
/- a kid of a sequence -/
theorem kid_piece {g g' : Int} {n : Nd} (h : Say g n g') (h0 : n.k ≠ 0) (h6 : n.k ≠ 6) {s : List Int} (hs : startOk s) : Piece (wrap (wraps 6 n.k) (put n) ++ s) g (.ok n s g') := by
  by_cases h7 : n.k = 7
  · rw [show wraps 6 n.k = true by unfold wraps; rw [decide_eq_true_eq]; exact .inl ⟨rfl, h7⟩]
    exact piece_plain (atom_wrap h s) (quant_none hs)
  · rw [show wraps 6 n.k = false by unfold wraps; rw [decide_eq_false_iff_not]; rintro (h | h) <;> omega]
    exact h.piece h0 h6 h7 s hs
theorem putKids6 (b : Bool) (n : Nd) (l : List Nd) : putKids 6 b (n :: l) = wrap (wraps 6 n.k) (put n) ++ putKids 6 false l := by
  rw [putKids]; simp
theorem start_kids {g g' : Int} {l : List Nd} (h : Says g l g') (hk : ∀ n ∈ l, n.k ≠ 0 ∧ n.k ≠ 6) (b : Bool) {s : List Int} (hs : startOk s) : startOk (putKids 6 b l ++ s) := by
  cases h with
  | nil => rw [putKids]; exact hs
  | @cons _ _ _ n l h _ =>
    have hk1 := hk n (List.mem_cons_self ..)
    have hp := kid_piece h hk1.1 hk1.2 startOk_nil
    rw [List.append_nil] at hp
    obtain ⟨x, u, hx, a⟩ := piece_head hp
    rw [putKids6, List.append_assoc]
    exact start_app hx ⟨a.2.2.1, a.2.2.2.1, a.2.2.2.2.1, a.2.2.2.2.2⟩
theorem cat_step : ∀ {l : List Nd} {g g' : Int} (h : Says g l g') (hk : ∀ n ∈ l, n.k ≠ 0 ∧ n.k ≠ 6) (b : Bool) (cur all : List Nd) (rest : List Int) (r : R), startOk rest → Expr rest g' all (cur ++ l) r → Expr (putKids 6 b l ++ rest) g all cur r
  | [], _, _, .nil _, hk, b, cur, all, rest, r, hs, h => by
    rw [putKids]
    rw [List.append_nil] at h
    exact h
  | n :: l, _, _, .cons hn hl, hk, b, cur, all, rest, r, hs, h => by
    have hk1 := hk n (List.mem_cons_self ..)
    have hkl : ∀ m ∈ l, m.k ≠ 0 ∧ m.k ≠ 6 := fun m hm => hk m (List.mem_cons_of_mem _ hm)
    have h2 := cat_step hl hkl false (cur ++ [n]) all rest r hs (by rw [List.append_assoc]; exact h)
    have hp := kid_piece hn hk1.1 hk1.2 (start_kids hl hkl false hs)
    rw [putKids6, List.append_assoc]
    obtain ⟨x, u, hx, a1, a2, _⟩ := piece_head hp
    rw [hx] at hp ⊢
    exact expr_piece a1 a2 hp h2
theorem flat6_id : ∀ {l : List Nd}, (∀ n ∈ l, n.k ≠ 0 ∧ n.k ≠ 6) → flat6 l = l
  | [], _ => rfl
  | n :: l, h => by
    have h1 := h n (List.mem_cons_self ..)
    have h2 := flat6_id (l := l) fun m hm => h m (List.mem_cons_of_mem _ hm)
    unfold flat6 at *
    rw [List.flatMap_cons, h2, if_neg h1.2, if_neg h1.1]; rfl
theorem flat7_id : ∀ {l : List Nd}, (∀ n ∈ l, n.k ≠ 7) → flat7 l = l
  | [], _ => rfl
  | n :: l, h => by
    have h1 := h n (List.mem_cons_self ..)
    have h2 := flat7_id (l := l) fun m hm => h m (List.mem_cons_of_mem _ hm)
    unfold flat7 at *
    rw [List.flatMap_cons, h2, if_neg h1]; rfl
theorem sequence_id {l : List Nd} (h : ∀ n ∈ l, n.k ≠ 0 ∧ n.k ≠ 6) (h2 : 2 ≤ l.length) : sequence l = .mk 6 [] 0 0 false 0 l := by
  unfold sequence
  rw [flat6_id h]
  match l, h2 with
  | a :: b :: l, _ => rfl
theorem choice_id {l : List Nd} (h : ∀ n ∈ l, n.k ≠ 7) (h2 : 2 ≤ l.length) : choice l = .mk 7 [] 0 0 false 0 l := by
  match l, h2 with
  | a :: b :: l, _ =>
    show Nd.mk 7 [] 0 0 false 0 (flat7 (a :: b :: l)) = _
    rw [flat7_id h]
theorem say_cat {g g' : Int} {l : List Nd} (h : Says g l g') (h2 : 2 ≤ l.length) (hk : ∀ n ∈ l, n.k ≠ 0 ∧ n.k ≠ 6) : Say g (.mk 6 [] 0 0 false 0 l) g' := by
  have hput : put (.mk 6 [] 0 0 false 0 l) = putKids 6 true l := by simp [put]
  have hs : ∀ rest all r, sep rest → (∀ L, sequence L = .mk 6 [] 0 0 false 0 l → Expr rest g' all L r) → Expr (put (.mk 6 [] 0 0 false 0 l) ++ rest) g all [] r := fun rest all r hr hh => by
    rw [hput]
    exact cat_step h hk true [] all rest r (sep_start hr) (hh _ (sequence_id hk h2))
  exact ⟨say_whole hs, fun h => by have : (1 ≤ (6 : Int) ∧ (6 : Int) ≤ 5 ∨ (6 : Int) = 9) := h; omega, fun _ h => absurd rfl h, fun _ => hs⟩
theorem putKids7 (b : Bool) (n : Nd) (l : List Nd) : putKids 7 b (n :: l) = (if b = false then [124] else []) ++ (put n ++ putKids 7 false l) := by
  rw [putKids, show wraps 7 n.k = false by unfold wraps; rw [decide_eq_false_iff_not]; rintro (h | h) <;> omega]
  simp [wrap]
theorem alt_step : ∀ {l : List Nd} {g g' : Int} (h : Says g l g') (hn : l ≠ []) (hk : ∀ n ∈ l, n.k ≠ 7) (all : List Nd) (rest : List Int), closing rest → Expr (putKids 7 true l ++ rest) g all [] (.ok (choice (all ++ l)) rest g')
  | [], _, _, _, hn, _, _, _, _ => absurd rfl hn
  | [n], g, g', h', _, hk, all, rest, hc => by
    cases h' with
    | @cons _ g1 _ _ _ h hl =>
    cases hl
    rw [putKids7]
    simp only [putKids, List.append_nil]
    refine h.seq (hk n (List.mem_cons_self ..)) rest all _ (closing_sep hc) (fun L hL => ?_)
    have := closing_expr hc g' all L
    rw [hL] at this
    exact this
  | n :: m :: l, g, g'', h', _, hk, all, rest, hc => by
    cases h' with
    | @cons _ g1 _ _ _ h hl =>
    have ih := alt_step hl (by simp) (fun x hx => hk x (List.mem_cons_of_mem _ hx)) (all ++ [n]) rest hc
    have he : putKids 7 true (n :: m :: l) ++ rest = put n ++ (124 :: (putKids 7 true (m :: l) ++ rest)) := by
      rw [putKids7, putKids7 false, putKids7 true]; simp
    rw [he]
    refine h.seq (hk n (List.mem_cons_self ..)) _ all _ (.inr ⟨124, _, rfl, .inr rfl⟩) (fun L hL => ?_)
    refine expr_bar ?_
    rw [hL]
    rw [List.append_assoc] at ih
    exact ih
theorem say_alt {g g' : Int} {l : List Nd} (h : Says g l g') (h2 : 2 ≤ l.length) (hk : ∀ n ∈ l, n.k ≠ 7) : Say g (.mk 7 [] 0 0 false 0 l) g' := by
  have hput : put (.mk 7 [] 0 0 false 0 l) = putKids 7 true l := by simp [put]
  refine ⟨fun rest hc => ?_, fun h => by have : (1 ≤ (7 : Int) ∧ (7 : Int) ≤ 5 ∨ (7 : Int) = 9) := h; omega, fun _ _ h => absurd rfl h, fun h => absurd rfl h⟩
  rw [hput]
  have := alt_step h (by rintro rfl; simp at h2) hk [] rest hc
  rw [List.nil_append, choice_id hk h2] at this
  exact this
theorem form_kind {g g' : Int} {n : Nd} (h : Form g n g') : 0 ≤ n.k ∧ n.k ≤ 9 := by
  cases h with
  | empty => exact ⟨by decide, by decide⟩
  | one => exact ⟨(by decide : (0 : Int) ≤ 1), (by decide : (1 : Int) ≤ 9)⟩
  | mark g k h => unfold isMark at h; exact ⟨(by omega : 0 ≤ k), (by omega : k ≤ 9)⟩
  | cat => exact ⟨(by decide : (0 : Int) ≤ 6), (by decide : (6 : Int) ≤ 9)⟩
  | alt => exact ⟨(by decide : (0 : Int) ≤ 7), (by decide : (7 : Int) ≤ 9)⟩
  | rep => exact ⟨(by decide : (0 : Int) ≤ 8), (by decide : (8 : Int) ≤ 9)⟩
  | grp => exact ⟨(by decide : (0 : Int) ≤ 9), (by decide : (9 : Int) ≤ 9)⟩
mutual
theorem form_say : ∀ {g g' : Int} {n : Nd}, Form g n g' → Say g n g'
  | _, _, _, .empty g => say_empty g
  | _, _, _, .one g c h1 h2 h3 => say_one g c h1 h2 h3
  | _, _, _, .mark g k h => say_mark g k h
  | _, _, _, .cat h h2 hk => say_cat (forms_says h) h2 hk
  | _, _, _, .alt h h2 hk => say_alt (forms_says h) h2 hk
  | _, _, _, .rep mn mx lz h h0 h1 h2 => say_rep mn mx lz (form_say h) (form_kind h) h0 h1 h2
  | _, _, _, .grp hg h => say_grp hg (form_say h)
theorem forms_says : ∀ {g g' : Int} {l : List Nd}, Forms g l g' → Says g l g'
  | _, _, _, .nil g => .nil g
  | _, _, _, .cons h hl => .cons (form_say h) (forms_says hl)
end
/- what is put of a pattern in normal form is parsed as it was -/
theorem put_parsed {g : Int} {n : Nd} (h : Form 0 n g) : Expr (put n) 0 [] [] (.ok n [] g) := by
  have := (form_say h).whole [] (.inl rfl)
  rwa [List.append_nil] at this
theorem expr_only {l : List Int} {g : Int} {all cur : List Nd} {r r' : R} (h : Expr l g all cur r) (h' : Expr l g all cur r') : r = r' := by
  obtain ⟨F, hF⟩ := h
  obtain ⟨G, hG⟩ := h'
  rw [← hF (max F G) (by omega), hG (max F G) (by omega)]
/- put alike just if the same -/
theorem put_inj {g g' : Int} {n m : Nd} (h : Form 0 n g) (h' : Form 0 m g') (he : put n = put m) : n = m := by
  have h1 := put_parsed h
  rw [he] at h1
  have := expr_only h1 (put_parsed h')
  injection this
end Go.Proofs.YtdoapojmenojoaaGreatDoor.Sx
end

section
/- What is parsed is in normal form. -/
set_option linter.unusedVariables false
namespace Go.Proofs.YtdoapojmenojoaaGreatDoor.Sx

theorem forms_app : ∀ {a b : List Nd} {g g1 g2 : Int}, Forms g a g1 → Forms g1 b g2 → Forms g (a ++ b) g2
  | [], b, g, g1, g2, h, h' => by cases h; exact h'
  | n :: a, b, g, g1, g2, h, h' => by
    cases h with
    | cons hn ha => exact .cons hn (forms_app ha h')
theorem forms_one {g g' : Int} {n : Nd} (h : Form g n g') : Forms g [n] g' := .cons h (.nil _)
theorem form_six {g g' : Int} {n : Nd} (h : Form g n g') (hk : n.k = 6) : Forms g n.kids g' ∧ 2 ≤ n.kids.length ∧ ∀ m ∈ n.kids, m.k ≠ 0 ∧ m.k ≠ 6 := by
  cases h with
  | cat h h2 h3 => exact ⟨h, h2, h3⟩
  | empty => exact absurd (show (0 : Int) = 6 from hk) (by decide)
  | one => exact absurd (show (1 : Int) = 6 from hk) (by decide)
  | mark g k h => have : k = 6 := hk; unfold isMark at h; omega
  | alt => exact absurd (show (7 : Int) = 6 from hk) (by decide)
  | rep => exact absurd (show (8 : Int) = 6 from hk) (by decide)
  | grp => exact absurd (show (9 : Int) = 6 from hk) (by decide)
theorem form_seven {g g' : Int} {n : Nd} (h : Form g n g') (hk : n.k = 7) : Forms g n.kids g' ∧ 2 ≤ n.kids.length ∧ ∀ m ∈ n.kids, m.k ≠ 7 := by
  cases h with
  | alt h h2 h3 => exact ⟨h, h2, h3⟩
  | empty => exact absurd (show (0 : Int) = 7 from hk) (by decide)
  | one => exact absurd (show (1 : Int) = 7 from hk) (by decide)
  | mark g k h => have : k = 7 := hk; unfold isMark at h; omega
  | cat => exact absurd (show (6 : Int) = 7 from hk) (by decide)
  | rep => exact absurd (show (8 : Int) = 7 from hk) (by decide)
  | grp => exact absurd (show (9 : Int) = 7 from hk) (by decide)
theorem form_zero {g g' : Int} {n : Nd} (h : Form g n g') (hk : n.k = 0) : g' = g := by
  cases h with
  | empty => rfl
  | one => rfl
  | mark => rfl
  | cat => exact absurd (show (6 : Int) = 0 from hk) (by decide)
  | alt => exact absurd (show (7 : Int) = 0 from hk) (by decide)
  | rep => exact absurd (show (8 : Int) = 0 from hk) (by decide)
  | grp => exact absurd (show (9 : Int) = 0 from hk) (by decide)
theorem flat6_forms : ∀ {l : List Nd} {g g' : Int}, Forms g l g' → Forms g (flat6 l) g' ∧ ∀ n ∈ flat6 l, n.k ≠ 0 ∧ n.k ≠ 6
  | [], g, g', h => ⟨h, fun n hn => by cases hn⟩
  | n :: l, g, g', h => by
    cases h with
    | @cons _ g1 _ _ _ hn hl =>
    obtain ⟨i1, i2⟩ := flat6_forms hl
    have hd : flat6 (n :: l) = (if n.k = 6 then n.kids else if n.k = 0 then [] else [n]) ++ flat6 l := rfl
    rw [hd]
    by_cases h6 : n.k = 6
    · obtain ⟨a, _, b⟩ := form_six hn h6
      rw [if_pos h6]
      exact ⟨forms_app a i1, fun m hm => (List.mem_append.1 hm).elim (b m) (i2 m)⟩
    · rw [if_neg h6]
      by_cases h0 : n.k = 0
      · rw [if_pos h0, List.nil_append]
        have := form_zero hn h0
        subst this
        exact ⟨i1, i2⟩
      · rw [if_neg h0]
        exact ⟨.cons hn i1, fun m hm => (List.mem_cons.1 hm).elim (fun e => by subst e; exact ⟨h0, h6⟩) (i2 m)⟩
theorem sequence_form {l : List Nd} {g g' : Int} (h : Forms g l g') : Form g (sequence l) g' := by
  obtain ⟨a, b⟩ := flat6_forms h
  unfold sequence
  generalize flat6 l = o at a b
  match o, a, b with
  | [], a, b => cases a; exact .empty g
  | [x], a, b =>
    cases a with
    | cons hx ht => cases ht; exact hx
  | x :: y :: o, a, b => exact .cat a (by simp) b
theorem flat7_forms : ∀ {l : List Nd} {g g' : Int}, Forms g l g' → Forms g (flat7 l) g' ∧ (∀ n ∈ flat7 l, n.k ≠ 7) ∧ l.length ≤ (flat7 l).length
  | [], g, g', h => ⟨h, (fun n hn => by cases hn), Nat.le_refl _⟩
  | n :: l, g, g', h => by
    cases h with
    | @cons _ g1 _ _ _ hn hl =>
    obtain ⟨i1, i2, i3⟩ := flat7_forms hl
    have hd : flat7 (n :: l) = (if n.k = 7 then n.kids else [n]) ++ flat7 l := rfl
    rw [hd]
    by_cases h7 : n.k = 7
    · obtain ⟨a, c, b⟩ := form_seven hn h7
      rw [if_pos h7]
      exact ⟨forms_app a i1, fun m hm => (List.mem_append.1 hm).elim (b m) (i2 m), by simp only [List.length_append, List.length_cons]; omega⟩
    · rw [if_neg h7]
      exact ⟨.cons hn i1, fun m hm => (List.mem_cons.1 hm).elim (fun e => by subst e; exact h7) (i2 m), by simp only [List.length_append, List.length_cons, List.length_nil]; omega⟩
theorem choice_form {l : List Nd} {g g' : Int} (h : Forms g l g') (hn : l ≠ []) : Form g (choice l) g' := by
  obtain ⟨a, b, c⟩ := flat7_forms h
  match l, h, hn, a, b, c with
  | [], h, hn, a, b, c => exact absurd rfl hn
  | [x], h, hn, a, b, c =>
    cases h with
    | cons hx ht => cases ht; exact hx
  | x :: y :: l, h, hn, a, b, c => exact .alt a (by simp only [List.length_cons] at c; omega) b
/- what is left are runes that were there -/
def Sub (t l : List Int) : Prop := ∀ x, x ∈ t → x ∈ l
theorem Sub.refl (l : List Int) : Sub l l := fun _ h => h
theorem Sub.cons {t l : List Int} (x : Int) (h : Sub t l) : Sub t (x :: l) := fun y hy => List.mem_cons_of_mem _ (h y hy)
theorem Sub.trans {a b c : List Int} (h : Sub a b) (h' : Sub b c) : Sub a c := fun x hx => h' x (h x hx)
theorem sub_tail {x : Int} {t l : List Int} (h : Sub (x :: t) l) : Sub t l := fun y hy => h y (List.mem_cons_of_mem _ hy)
def Top (l : List Int) : Prop := ∀ x ∈ l, x ≤ 1114111
theorem Top.sub {t l : List Int} (h : Top l) (hs : Sub t l) : Top t := fun x hx => h x (hs x hx)
/- classes -/
theorem nf_one {a b : Int} (h : Cl.may (a, b)) : Cl.NF [(a, b)] := by rw [← Cl.of_one h]; exact Cl.of_nf _
theorem escape_nf (r : Int) : Cl.NF (escape r) ∧ (escape r).length ≤ 64 := by
  unfold escape
  by_cases h : special r = true ∨ r = 45
  · rw [if_pos h]
    refine ⟨nf_one ?_, by simp⟩
    unfold Cl.may
    simp only
    rw [special_iff] at h
    omega
  · rw [if_neg h]
    split
    · exact ⟨nf_one (by decide), by simp⟩
    split
    · exact ⟨nf_one (by decide), by simp⟩
    split
    · exact ⟨nf_one (by decide), by simp⟩
    split
    · refine ⟨?_, by simp⟩
      rw [← (by decide +kernel : Cl.of [(48, 57), (65, 90), (95, 95), (97, 122)] = [(48, 57), (65, 90), (95, 95), (97, 122)])]; exact Cl.of_nf _
    split
    · refine ⟨?_, by simp⟩
      rw [← (by decide +kernel : Cl.of [(9, 10), (13, 13), (32, 32)] = [(9, 10), (13, 13), (32, 32)])]; exact Cl.of_nf _
    · exact ⟨Cl.nf_nil, by simp⟩
theorem member_sub {l t : List Int} {c : List Cl.Rg} (h : member l = some (c, t)) : Sub t l := by
  unfold member at h
  split at h
  · cases h
  · split at h
    · cases h
    · split at h
      · cases h; exact Sub.cons _ (Sub.refl _)
      · split at h
        · cases h
        · split at h
          · cases h
          · cases h; exact Sub.cons _ (Sub.cons _ (Sub.refl _))
theorem item_sub {l t : List Int} {c : List Cl.Rg} (h : item l = some (c, t)) : Sub t l := by
  unfold item at h
  split at h
  · cases h
  · rename_i a t1 hm
    have h1 := member_sub hm
    split at h
    · rename_i t2
      split at h
      · cases h
      · rename_i b t3 hm2
        have h2 := member_sub hm2
        split at h
        · cases h; exact h2.trans (sub_tail h1)
        · cases h
    · cases h; exact h1
theorem items_sub : ∀ (f : Nat) {l t : List Int} {acc c : List Cl.Rg}, items f l acc = some (c, t) → Sub t l ∧ Cl.NF c
  | 0, l, t, acc, c, h => by cases h
  | f + 1, l, t, acc, c, h => by
    unfold items at h
    split at h
    · cases h
    · rename_i x t1 hi
      have h1 := item_sub hi
      split at h
      · cases h; exact ⟨sub_tail h1, Cl.of_nf _⟩
      · obtain ⟨a, b⟩ := items_sub f h
        exact ⟨a.trans h1, b⟩
theorem clsEnd_sub {b : Bool} {r : Option (List Cl.Rg × List Int)} {t : List Int} {c : List Cl.Rg} (h : clsEnd b r = some (c, t)) (hr : ∀ c' t', r = some (c', t') → Cl.NF c') : (∃ c', r = some (c', t)) ∧ Cl.NF c ∧ c ≠ [] ∧ c.length ≤ 64 := by
  unfold clsEnd at h
  split at h
  · cases h
  · rename_i c1 t1
    have hn := hr c1 t1 rfl
    cases b
    · simp only [Bool.false_eq_true, if_false] at h
      split at h
      · cases h
      · rename_i hc; cases h; exact ⟨⟨_, rfl⟩, hn, fun e => hc (.inl e), by omega⟩
    · simp only [if_true] at h
      split at h
      · cases h
      · rename_i hc; cases h; exact ⟨⟨_, rfl⟩, (Cl.nots_spec _).1, fun e => hc (.inl e), by omega⟩
theorem cls_sub {l t : List Int} {c : List Cl.Rg} (h : cls l = some (c, t)) : Sub t l ∧ Cl.NF c ∧ c ≠ [] ∧ c.length ≤ 64 := by
  unfold cls at h
  split at h
  · rename_i u
    obtain ⟨⟨c', hc⟩, a⟩ := clsEnd_sub h (fun c' t' e => (items_sub _ e).2)
    exact ⟨Sub.cons _ (items_sub _ hc).1, a⟩
  · obtain ⟨⟨c', hc⟩, a⟩ := clsEnd_sub h (fun c' t' e => (items_sub _ e).2)
    exact ⟨(items_sub _ hc).1, a⟩
theorem digs_sub : ∀ (l : List Int) (n : Int), 0 ≤ n → Sub (digs l n).2 l ∧ 0 ≤ (digs l n).1
  | [], n, h => ⟨Sub.refl _, h⟩
  | d :: t, n, h => by
    rw [digs]
    split
    · obtain ⟨a, b⟩ := digs_sub t (min (n * 10 + (d - 48)) 1000) (by omega)
      exact ⟨Sub.cons _ a, b⟩
    · exact ⟨Sub.refl _, h⟩
theorem number_sub {l t : List Int} {n : Int} (h : number l = some (n, t)) : Sub t l ∧ 0 ≤ n ∧ n ≤ 20 := by
  have hd := digs_sub l 0 (by omega)
  unfold number at h
  simp only at h
  split at h
  · cases h
  · rename_i hc
    have he : digs l 0 = (n, t) := by injection h
    rw [he] at hd hc
    exact ⟨hd.1, hd.2, by simp only at hc; omega⟩
theorem braces_sub {l t : List Int} {m k : Int} (h : braces l = some (m, k, t)) : Sub t l ∧ 0 ≤ m ∧ m ≤ 20 ∧ (k = -1 ∨ m ≤ k ∧ k ≤ 20) := by
  unfold braces at h
  split at h
  · cases h
  · rename_i m1 t1 hn
    obtain ⟨a, b, c⟩ := number_sub hn
    split at h
    · cases h; exact ⟨sub_tail a, b, c, .inr ⟨Int.le_refl _, c⟩⟩
    · cases h; exact ⟨sub_tail (sub_tail a), b, c, .inl rfl⟩
    · split at h
      · rename_i hn2
        obtain ⟨a', b', c'⟩ := number_sub hn2
        split at h
        · cases h
        · cases h; exact ⟨(sub_tail a').trans (sub_tail a), b, c, .inr ⟨by omega, c'⟩⟩
      · cases h
    · cases h
theorem quant_sub {l t : List Int} {m k : Int} (h : quant l = some (some (m, k, t))) : Sub t l ∧ 0 ≤ m ∧ m ≤ 20 ∧ (k = -1 ∨ m ≤ k ∧ k ≤ 20) := by
  unfold quant at h
  split at h
  · cases h; exact ⟨Sub.cons _ (Sub.refl _), by omega, by omega, .inl rfl⟩
  · cases h; exact ⟨Sub.cons _ (Sub.refl _), by omega, by omega, .inl rfl⟩
  · cases h; exact ⟨Sub.cons _ (Sub.refl _), by omega, by omega, .inr ⟨by omega, by omega⟩⟩
  · rename_i u
    have : braces u = some (m, k, t) := by injection h
    obtain ⟨a, b⟩ := braces_sub this
    exact ⟨Sub.cons _ a, b⟩
  · cases h
theorem lazy_sub (l : List Int) : Sub (lazyB l).2 l := by
  unfold lazyB
  split
  · exact Sub.cons _ (Sub.refl _)
  · exact Sub.refl _
theorem leaf_form {x g g' : Int} {t u : List Int} {n : Nd} (hx : x ≤ 1114111) (h : leaf x t g = .ok n u g') : Form g n g' ∧ Sub u (x :: t) := by
  unfold leaf at h
  split at h
  · cases h; exact ⟨.one _ _ (Cl.nots_spec _).1 (by decide +kernel) (by decide +kernel), Sub.cons _ (Sub.refl _)⟩
  split at h
  · cases h; exact ⟨.mark _ _ ⟨by omega, by omega⟩, Sub.cons _ (Sub.refl _)⟩
  split at h
  · cases h; exact ⟨.mark _ _ ⟨by omega, by omega⟩, Sub.cons _ (Sub.refl _)⟩
  split at h
  · split at h
    · cases h
    · rename_i y u'
      split at h
      · cases h; exact ⟨.mark _ _ ⟨by omega, by omega⟩, Sub.cons _ (Sub.cons _ (Sub.refl _))⟩
      split at h
      · cases h; exact ⟨.mark _ _ ⟨by omega, by omega⟩, Sub.cons _ (Sub.cons _ (Sub.refl _))⟩
      split at h
      · cases h
      · rename_i he
        cases h
        exact ⟨.one _ _ (escape_nf y).1 he (escape_nf y).2, Sub.cons _ (Sub.cons _ (Sub.refl _))⟩
  split at h
  · split at h
    · cases h
    · rename_i c u' hc
      cases h
      obtain ⟨a, b, c1, c2⟩ := cls_sub hc
      exact ⟨.one _ _ b c1 c2, Sub.cons _ a⟩
  split at h
  · cases h
  · rename_i hs
    cases h
    exact ⟨.one _ _ (nf_one ⟨(by simp only; omega), hx, Int.le_refl _⟩) (by simp) (by simp), Sub.cons _ (Sub.refl _)⟩
end Go.Proofs.YtdoapojmenojoaaGreatDoor.Sx
end

section
/- What is parsed is in normal form: the whole; what is wrong, from some fuel on. -/
set_option linter.unusedVariables false
namespace Go.Proofs.YtdoapojmenojoaaGreatDoor.Sx

def FormsAt (f : Nat) : Prop :=
  (∀ l g all cur n t g', expr f l g all cur = .ok n t g' → Top l → ∀ g0 g1, Forms g0 all g1 → Forms g1 cur g → Form g0 n g' ∧ Sub t l) ∧
  (∀ l g n t g', piece f l g = .ok n t g' → Top l → Form g n g' ∧ Sub t l) ∧
  (∀ l g n t g', atom f l g = .ok n t g' → Top l → Form g n g' ∧ Sub t l) ∧
  (∀ l g s n t g', group f l g s = .ok n t g' → Top l → Form g n g' ∧ Sub t l)
theorem close_form {all cur : List Nd} {g0 g1 g : Int} (ha : Forms g0 all g1) (hc : Forms g1 cur g) : Form g0 (choice (all ++ [sequence cur])) g :=
  choice_form (forms_app ha (forms_one (sequence_form hc))) (by simp)
theorem forms_at : ∀ f : Nat, FormsAt f
  | 0 => ⟨(fun l g all cur n t g' h => by rw [expr] at h; cases h), (fun l g n t g' h => by rw [piece] at h; cases h), (fun l g n t g' h => by rw [atom] at h; cases h), (fun l g s n t g' h => by rw [group] at h; cases h)⟩
  | f + 1 => by
    obtain ⟨iE, iP, iA, iG⟩ := forms_at f
    refine ⟨?_, ?_, ?_, ?_⟩
    · intro l g all cur n t g' h ht g0 g1 ha hc
      rw [expr.eq_def] at h
      simp only at h
      split at h
      · cases h; exact ⟨close_form ha hc, Sub.refl _⟩
      · rename_i x u
        split at h
        · cases h; exact ⟨close_form ha hc, Sub.refl _⟩
        split at h
        · obtain ⟨a, b⟩ := iE _ _ _ _ _ _ _ h (ht.sub (Sub.cons _ (Sub.refl _))) g0 g (forms_app ha (forms_one (sequence_form hc))) (.nil _)
          exact ⟨a, Sub.cons _ b⟩
        · split at h
          · rename_i m v g2 hp
            obtain ⟨a, b⟩ := iP _ _ _ _ _ hp ht
            obtain ⟨a', b'⟩ := iE _ _ _ _ _ _ _ h (ht.sub b) g0 g1 ha (forms_app hc (forms_one a))
            exact ⟨a', b'.trans b⟩
          · rename_i hno
            exact absurd h (hno _ _ _)
    · intro l g n t g' h ht
      rw [piece] at h
      split at h
      · rename_i m v g2 hp
        obtain ⟨a, b⟩ := iA _ _ _ _ _ hp ht
        split at h
        · cases h; exact ⟨a, b⟩
        · cases h
        · rename_i mn mx w hq
          cases h
          obtain ⟨q1, q2, q3, q4⟩ := quant_sub hq
          exact ⟨.rep mn mx _ a q2 q3 q4, ((lazy_sub w).trans q1).trans b⟩
      · rename_i hno
        exact absurd h (hno _ _ _)
    · intro l g n t g' h ht
      rw [atom.eq_def] at h
      simp only at h
      split at h
      · cases h
      · rename_i x u
        split at h
        · obtain ⟨a, b⟩ := iG _ _ _ _ _ _ h (ht.sub (Sub.cons _ (Sub.refl _)))
          exact ⟨a, Sub.cons _ b⟩
        · exact leaf_form (ht x (List.mem_cons_self ..)) h
    · intro l g s n t g' h ht
      rw [group.eq_def] at h
      simp only at h
      split at h
      · rename_i u
        split at h
        · rename_i m v g2 hp
          cases h
          obtain ⟨a, b⟩ := iE _ _ _ _ _ _ _ hp (ht.sub (Sub.cons _ (Sub.cons _ (Sub.refl _)))) g g (.nil _) (.nil _)
          exact ⟨a, Sub.cons _ (Sub.cons _ (sub_tail b))⟩
        · cases h
        · rename_i hno1 hno2
          exact absurd h (hno2 _ _ _)
      · split at h
        · cases h
        · rename_i hg
          split at h
          · rename_i m v g2 hp
            cases h
            obtain ⟨a, b⟩ := iE _ _ _ _ _ _ _ hp ht (g + 1) (g + 1) (.nil _) (.nil _)
            exact ⟨.grp (by omega) a, sub_tail b⟩
          · cases h
          · rename_i hno1 hno2
            exact absurd h (hno2 _ _ _)
/- what was parsed is in form -/
theorem parsed_form {l t : List Int} {g : Int} {n : Nd} (h : Expr l 0 [] [] (.ok n t g)) (ht : Top l) : Form 0 n g := by
  obtain ⟨F, hF⟩ := h
  exact ((forms_at F).1 _ _ _ _ _ _ _ (hF F (Nat.le_refl _)) ht 0 0 (.nil _) (.nil _)).1
/- what is wrong -/
def isBad (r : R) : Prop := ∃ e left, r = .bad e left
theorem expr_bad {x : Int} {t : List Int} {g : Int} {all cur : List Nd} {e : Int} {s : Nat} (hx : x ≠ 41) (hx' : x ≠ 124) (hp : Piece (x :: t) g (.bad e s)) : Expr (x :: t) g all cur (.bad e s) := by
  obtain ⟨G, hG⟩ := hp
  exact ⟨G + 1, fun f h => by
    obtain ⟨f', rfl, h'⟩ := ge_succ h
    rw [expr]; simp only [hx, hx', if_false]; rw [hG f' (by omega)]⟩
theorem piece_bad {l : List Int} {g e : Int} {s : Nat} (ha : Atom l g (.bad e s)) : Piece l g (.bad e s) := by
  obtain ⟨F, hF⟩ := ha
  exact ⟨F + 1, fun f h => by
    obtain ⟨f', rfl, h'⟩ := ge_succ h
    rw [piece, hF f' h']⟩
theorem piece_times {l t : List Int} {g g' : Int} {n : Nd} (ha : Atom l g (.ok n t g')) (hq : quant t = some none) : Piece l g (.bad 2 t.length) := by
  obtain ⟨F, hF⟩ := ha
  exact ⟨F + 1, fun f h => by
    obtain ⟨f', rfl, h'⟩ := ge_succ h
    rw [piece, hF f' h']; simp only [hq]⟩
theorem atom_bad {t : List Int} {g e : Int} {s : Nat} (h : Grp t g (t.length + 1) (.bad e s)) : Atom (40 :: t) g (.bad e s) := by
  obtain ⟨F, hF⟩ := h
  exact ⟨F + 1, fun f h => by
    obtain ⟨f', rfl, h'⟩ := ge_succ h
    rw [atom]; simp only [if_true]; exact hF f' h'⟩
theorem grp_non_bad {t : List Int} {g e : Int} {s s' : Nat} (h : Expr t g [] [] (.bad e s')) : Grp (63 :: 58 :: t) g s (.bad e s') := by
  obtain ⟨F, hF⟩ := h
  exact ⟨F + 1, fun f h => by
    obtain ⟨f', rfl, h'⟩ := ge_succ h
    rw [group, hF f' h']⟩
theorem grp_non_open {t : List Int} {g g' : Int} {s : Nat} {n : Nd} (h : Expr t g [] [] (.ok n [] g')) : Grp (63 :: 58 :: t) g s (.bad 2 0) := by
  obtain ⟨F, hF⟩ := h
  exact ⟨F + 1, fun f h => by
    obtain ⟨f', rfl, h'⟩ := ge_succ h
    rw [group, hF f' h']⟩
theorem grp_many {t : List Int} {g : Int} {s : Nat} (ht : ∀ u, t ≠ 63 :: 58 :: u) (hg : 8 < g + 1) : Grp t g s (.bad 3 s) := ⟨1, fun f h => by
  obtain ⟨f', rfl, h'⟩ := ge_succ h
  rw [group]
  · simp only [hg, if_true]
  · exact fun u hu => ht u hu⟩
theorem grp_cap_bad {t : List Int} {g e : Int} {s s' : Nat} (ht : ∀ u, t ≠ 63 :: 58 :: u) (hg : g + 1 ≤ 8) (h : Expr t (g + 1) [] [] (.bad e s')) : Grp t g s (.bad e s') := by
  obtain ⟨F, hF⟩ := h
  exact ⟨F + 1, fun f h => by
    obtain ⟨f', rfl, h'⟩ := ge_succ h
    rw [group]
    · simp only [show ¬ 8 < g + 1 by omega, if_false]; rw [hF f' h']
    · exact fun u hu => ht u hu⟩
theorem grp_cap_open {t : List Int} {g g' : Int} {s : Nat} {n : Nd} (ht : ∀ u, t ≠ 63 :: 58 :: u) (hg : g + 1 ≤ 8) (h : Expr t (g + 1) [] [] (.ok n [] g')) : Grp t g s (.bad 2 0) := by
  obtain ⟨F, hF⟩ := h
  exact ⟨F + 1, fun f h => by
    obtain ⟨f', rfl, h'⟩ := ge_succ h
    rw [group]
    · simp only [show ¬ 8 < g + 1 by omega, if_false]; rw [hF f' h']
    · exact fun u hu => ht u hu⟩
/- the sum of a tree, the greatest group, which is right -/
mutual
def size : Nd → Int
  | .mk _ _ _ _ _ _ l => 1 + sizes l
def sizes : List Nd → Int
  | [] => 0
  | n :: l => size n + sizes l
end
mutual
def groups : Nd → Int
  | .mk _ _ _ _ _ g l => groupsL (max g 0) l
def groupsL : Int → List Nd → Int
  | m, [] => m
  | m, n :: l => groupsL (max m (groups n)) l
end
end Go.Proofs.YtdoapojmenojoaaGreatDoor.Sx
end
