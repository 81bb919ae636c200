/- Plain facts about ranges of runes: the form in which each set has one list alone; the document's own way to come to it. -/
import Derived.Test.YtpnakbhbaghhgaaDoorRows
set_option linter.unusedVariables false
namespace Go.Proofs.YtpnakbhbaghhgaaDoor.Cl

abbrev Rg := Int × Int
def may (r : Rg) : Prop := 0 ≤ r.1 ∧ r.2 ≤ 1114111 ∧ r.1 ≤ r.2
instance (r : Rg) : Decidable (may r) := by unfold may; infer_instance
def inn (r : Rg) (x : Int) : Prop := r.1 ≤ x ∧ x ≤ r.2
def mem (l : List Rg) (x : Int) : Prop := ∃ r ∈ l, inn r x
def NF (l : List Rg) : Prop := l.Pairwise (fun r s => r.2 + 1 < s.1) ∧ ∀ r ∈ l, may r
theorem mem_nil (x : Int) : ¬ mem [] x := fun ⟨r, h, _⟩ => by cases h
theorem mem_cons (r : Rg) (l : List Rg) (x : Int) : mem (r :: l) x ↔ inn r x ∨ mem l x := by
  constructor
  · rintro ⟨s, hs, hx⟩
    rcases List.mem_cons.1 hs with rfl | hs
    · exact .inl hx
    · exact .inr ⟨s, hs, hx⟩
  · rintro (h | ⟨s, hs, hx⟩)
    · exact ⟨r, List.mem_cons_self .., h⟩
    · exact ⟨s, List.mem_cons_of_mem _ hs, hx⟩
theorem mem_app (a b : List Rg) (x : Int) : mem (a ++ b) x ↔ mem a x ∨ mem b x := by
  constructor
  · rintro ⟨s, hs, hx⟩
    rcases List.mem_append.1 hs with hs | hs
    · exact .inl ⟨s, hs, hx⟩
    · exact .inr ⟨s, hs, hx⟩
  · rintro (⟨s, hs, hx⟩ | ⟨s, hs, hx⟩)
    · exact ⟨s, List.mem_append_left _ hs, hx⟩
    · exact ⟨s, List.mem_append_right _ hs, hx⟩
theorem nf_nil : NF [] := ⟨List.Pairwise.nil, fun r h => by cases h⟩
theorem nf_cons {r : Rg} {l : List Rg} : NF (r :: l) ↔ may r ∧ (∀ s ∈ l, r.2 + 1 < s.1) ∧ NF l := by
  constructor
  · rintro ⟨h1, h2⟩
    exact ⟨h2 r (List.mem_cons_self ..), (List.pairwise_cons.1 h1).1, (List.pairwise_cons.1 h1).2, fun s hs => h2 s (List.mem_cons_of_mem _ hs)⟩
  · rintro ⟨h1, h2, h3, h4⟩
    refine ⟨List.pairwise_cons.2 ⟨h2, h3⟩, fun s hs => ?_⟩
    rcases List.mem_cons.1 hs with rfl | hs
    · exact h1
    · exact h4 s hs
theorem nf_app {a b : List Rg} : NF (a ++ b) ↔ NF a ∧ NF b ∧ ∀ r ∈ a, ∀ s ∈ b, r.2 + 1 < s.1 := by
  constructor
  · rintro ⟨h1, h2⟩
    obtain ⟨p, q, h⟩ := List.pairwise_append.1 h1
    exact ⟨⟨p, fun r hr => h2 r (List.mem_append_left _ hr)⟩, ⟨q, fun r hr => h2 r (List.mem_append_right _ hr)⟩, h⟩
  · rintro ⟨⟨p, p2⟩, ⟨q, q2⟩, h⟩
    refine ⟨List.pairwise_append.2 ⟨p, q, h⟩, fun r hr => ?_⟩
    rcases List.mem_append.1 hr with hr | hr
    · exact p2 r hr
    · exact q2 r hr
/- what is in a form's tail lies behind its head -/
theorem behind {r : Rg} {l : List Rg} (h : NF (r :: l)) {x : Int} (hx : mem l x) : r.2 + 1 < x := by
  obtain ⟨_, h2, h3⟩ := nf_cons.1 h
  obtain ⟨s, hs, hi⟩ := hx
  have := h2 s hs
  unfold inn at hi
  omega
theorem head_low {r : Rg} {l : List Rg} (h : NF (r :: l)) {x : Int} (hx : mem (r :: l) x) : r.1 ≤ x := by
  rcases (mem_cons r l x).1 hx with h1 | h1
  · exact h1.1
  · have := behind h h1
    have := (nf_cons.1 h).1
    unfold may at this
    omega
theorem nf_unique : ∀ {a b : List Rg}, NF a → NF b → (∀ x, mem a x ↔ mem b x) → a = b
  | [], [], _, _, _ => rfl
  | [], s :: b, _, hb, h => by
    have hs := (nf_cons.1 hb).1
    unfold may at hs
    exact absurd ((h s.1).2 ((mem_cons s b s.1).2 (.inl ⟨Int.le_refl _, by omega⟩))) (mem_nil _)
  | r :: a, [], ha, _, h => by
    have hs := (nf_cons.1 ha).1
    unfold may at hs
    exact absurd ((h r.1).1 ((mem_cons r a r.1).2 (.inl ⟨Int.le_refl _, by omega⟩))) (mem_nil _)
  | r :: a, s :: b, ha, hb, h => by
    have hr := (nf_cons.1 ha).1
    have hs := (nf_cons.1 hb).1
    unfold may at hr hs
    have m1 : mem (r :: a) r.1 := (mem_cons r a _).2 (.inl ⟨Int.le_refl _, by omega⟩)
    have m2 : mem (s :: b) s.1 := (mem_cons s b _).2 (.inl ⟨Int.le_refl _, by omega⟩)
    have l1 := head_low hb ((h _).1 m1)
    have l2 := head_low ha ((h _).2 m2)
    have e1 : r.1 = s.1 := by omega
    have e2 : r.2 = s.2 := by
      rcases Int.lt_trichotomy r.2 s.2 with k | k | k
      · have m : mem (s :: b) (r.2 + 1) := (mem_cons s b _).2 (.inl ⟨by omega, by omega⟩)
        rcases (mem_cons r a _).1 ((h _).2 m) with q | q
        · unfold inn at q; omega
        · have := behind ha q; omega
      · exact k
      · have m : mem (r :: a) (s.2 + 1) := (mem_cons r a _).2 (.inl ⟨by omega, by omega⟩)
        rcases (mem_cons s b _).1 ((h _).1 m) with q | q
        · unfold inn at q; omega
        · have := behind hb q; omega
    have e : r = s := Prod.ext e1 e2
    subst e
    rw [nf_unique (nf_cons.1 ha).2.2 (nf_cons.1 hb).2.2 (fun x => by
      constructor
      · intro hx
        have hb' := behind ha hx
        rcases (mem_cons r b x).1 ((h x).1 ((mem_cons r a x).2 (.inr hx))) with q | q
        · unfold inn at q; omega
        · exact q
      · intro hx
        have hb' := behind hb hx
        rcases (mem_cons r a x).1 ((h x).2 ((mem_cons r b x).2 (.inr hx))) with q | q
        · unfold inn at q; omega
        · exact q)]
/- a range comes to a form -/
def absorb : List Rg → Rg → Rg × List Rg
  | [], r => (r, [])
  | t :: l, r => if t.1 ≤ r.2 + 1 then absorb l (min r.1 t.1, max r.2 t.2) else (r, t :: l)
def put (l : List Rg) (r : Rg) : List Rg := (l.takeWhile fun t => decide (t.2 + 1 < r.1)) ++ ((absorb (l.dropWhile fun t => decide (t.2 + 1 < r.1)) r).1 :: (absorb (l.dropWhile fun t => decide (t.2 + 1 < r.1)) r).2)
theorem absorb_spec : ∀ (l : List Rg) (r : Rg), NF l → may r → (∀ t ∈ l, r.1 ≤ t.2 + 1) →
    may (absorb l r).1 ∧ (∀ t ∈ (absorb l r).2, t ∈ l ∧ (absorb l r).1.2 + 1 < t.1) ∧ NF (absorb l r).2 ∧ (∀ x, inn (absorb l r).1 x ∨ mem (absorb l r).2 x ↔ inn r x ∨ mem l x) ∧
    (∀ z, z < r.1 → (∀ t ∈ l, z < t.1) → z < (absorb l r).1.1)
  | [], r, _, hr, _ => ⟨hr, (fun t h => by cases h), nf_nil, fun x => Iff.rfl, fun z h _ => h⟩
  | t :: l, r, hl, hr, hb => by
    obtain ⟨ht, h2, h3⟩ := nf_cons.1 hl
    unfold absorb
    split
    · rename_i hc
      have hbt := hb t (List.mem_cons_self ..)
      have hm : may (min r.1 t.1, max r.2 t.2) := by unfold may at *; simp only; omega
      obtain ⟨a1, a2, a3, a4, a5⟩ := absorb_spec l (min r.1 t.1, max r.2 t.2) h3 hm (fun u hu => by have := h2 u hu; unfold may at ht; simp only; have hu' := h3.2 u hu; unfold may at hu'; omega)
      refine ⟨a1, fun u hu => ⟨List.mem_cons_of_mem _ (a2 u hu).1, (a2 u hu).2⟩, a3, fun x => ?_, fun z hz hzt => a5 z ?_ (fun u hu => hzt u (List.mem_cons_of_mem _ hu))⟩
      · rw [a4 x, mem_cons]
        unfold may at hr ht
        have : inn (min r.1 t.1, max r.2 t.2) x ↔ inn r x ∨ inn t x := by unfold inn; simp only; omega
        rw [this, or_assoc]
      · have := hzt t (List.mem_cons_self ..)
        simp only; omega
    · rename_i hc
      refine ⟨hr, fun u hu => ⟨hu, ?_⟩, hl, fun x => Iff.rfl, fun z h _ => h⟩
      rcases List.mem_cons.1 hu with rfl | hu
      · simp only; omega
      · have := h2 u hu; unfold may at ht; simp only; omega
theorem take_all {l : List Rg} {r : Rg} : ∀ t ∈ l.takeWhile (fun t => decide (t.2 + 1 < r.1)), t.2 + 1 < r.1 := by
  induction l with
  | nil => intro t h; simp at h
  | cons u l ih =>
    intro t h
    rw [List.takeWhile_cons] at h
    split at h
    · rename_i hc
      rcases List.mem_cons.1 h with rfl | h
      · simpa using hc
      · exact ih t h
    · cases h
theorem drop_all {l : List Rg} {r : Rg} (hl : NF l) : ∀ t ∈ l.dropWhile (fun t => decide (t.2 + 1 < r.1)), r.1 ≤ t.2 + 1 := by
  induction l with
  | nil => intro t h; simp at h
  | cons u l ih =>
    obtain ⟨hu, h2, h3⟩ := nf_cons.1 hl
    intro t h
    rw [List.dropWhile_cons] at h
    split at h
    · exact ih h3 t h
    · rename_i hc
      have hc' : ¬ u.2 + 1 < r.1 := by simpa using hc
      rcases List.mem_cons.1 h with rfl | h
      · omega
      · have := h2 t h
        have ht := h3.2 t h
        unfold may at ht hu
        omega
theorem put_spec {l : List Rg} {r : Rg} (hl : NF l) (hr : may r) : NF (put l r) ∧ ∀ x, mem (put l r) x ↔ inn r x ∨ mem l x := by
  have hd : l.takeWhile (fun t => decide (t.2 + 1 < r.1)) ++ l.dropWhile (fun t => decide (t.2 + 1 < r.1)) = l := List.takeWhile_append_dropWhile
  have hl' := hl
  rw [← hd] at hl'
  obtain ⟨n1, n2, n3⟩ := nf_app.1 hl'
  obtain ⟨a1, a2, a3, a4, a5⟩ := absorb_spec _ r n2 hr (drop_all hl)
  unfold put
  refine ⟨nf_app.2 ⟨n1, nf_cons.2 ⟨a1, fun s hs => (a2 s hs).2, a3⟩, fun u hu s hs => ?_⟩, fun x => ?_⟩
  · have hz := a5 (u.2 + 1) (take_all u hu) (fun t ht => n3 u hu t ht)
    rcases List.mem_cons.1 hs with rfl | hs
    · exact hz
    · exact n3 u hu s (a2 s hs).1
  · rw [mem_app, mem_cons, a4 x]
    have : mem l x ↔ mem (l.takeWhile fun t => decide (t.2 + 1 < r.1)) x ∨ mem (l.dropWhile fun t => decide (t.2 + 1 < r.1)) x := by
      rw [← mem_app, hd]
    rw [this]
    constructor
    · rintro (h | h | h)
      · exact .inr (.inl h)
      · exact .inl h
      · exact .inr (.inr h)
    · rintro (h | h | h)
      · exact .inr (.inl h)
      · exact .inl h
      · exact .inr (.inr h)
/- the form of any ranges -/
def ofL : List Rg → List Rg → List Rg
  | acc, [] => acc
  | acc, r :: l => ofL (if may r then put acc r else acc) l
theorem ofL_app (acc a b : List Rg) : ofL acc (a ++ b) = ofL (ofL acc a) b := by
  induction a generalizing acc with
  | nil => rfl
  | cons r a ih => exact ih _
def of (l : List Rg) : List Rg := ofL [] l
def memM (l : List Rg) (x : Int) : Prop := ∃ r ∈ l, may r ∧ inn r x
theorem ofL_spec : ∀ (l acc : List Rg), NF acc → NF (ofL acc l) ∧ ∀ x, mem (ofL acc l) x ↔ mem acc x ∨ memM l x
  | [], acc, h => ⟨h, fun x => ⟨.inl, fun h => h.elim id (fun ⟨r, hr, _⟩ => by cases hr)⟩⟩
  | r :: l, acc, h => by
    have key : memM (r :: l) = fun x => (may r ∧ inn r x) ∨ memM l x := by
      funext x
      refine propext ⟨?_, ?_⟩
      · rintro ⟨s, hs, h1, h2⟩
        rcases List.mem_cons.1 hs with rfl | hs
        · exact .inl ⟨h1, h2⟩
        · exact .inr ⟨s, hs, h1, h2⟩
      · rintro (⟨h1, h2⟩ | ⟨s, hs, h1, h2⟩)
        · exact ⟨r, List.mem_cons_self .., h1, h2⟩
        · exact ⟨s, List.mem_cons_of_mem _ hs, h1, h2⟩
    unfold ofL
    by_cases hm : may r
    · rw [if_pos hm]
      obtain ⟨p1, p2⟩ := put_spec h hm
      obtain ⟨q1, q2⟩ := ofL_spec l (put acc r) p1
      refine ⟨q1, fun x => ?_⟩
      rw [q2 x, p2 x, key]
      constructor
      · rintro ((a | a) | a)
        · exact .inr (.inl ⟨hm, a⟩)
        · exact .inl a
        · exact .inr (.inr a)
      · rintro (a | ⟨_, a⟩ | a)
        · exact .inl (.inr a)
        · exact .inl (.inl a)
        · exact .inr a
    · rw [if_neg hm]
      obtain ⟨q1, q2⟩ := ofL_spec l acc h
      refine ⟨q1, fun x => ?_⟩
      rw [q2 x, key]
      constructor
      · rintro (a | a)
        · exact .inl a
        · exact .inr (.inr a)
      · rintro (a | ⟨b, _⟩ | a)
        · exact .inl a
        · exact absurd b hm
        · exact .inr a
theorem of_nf (l : List Rg) : NF (of l) := (ofL_spec l [] nf_nil).1
theorem of_mem (l : List Rg) (x : Int) : mem (of l) x ↔ memM l x := by
  rw [of, (ofL_spec l [] nf_nil).2 x]
  exact ⟨fun h => h.elim (fun h => absurd h (mem_nil _)) id, .inr⟩
theorem memM_nf {l : List Rg} (h : NF l) (x : Int) : memM l x ↔ mem l x := ⟨fun ⟨r, a, _, b⟩ => ⟨r, a, b⟩, fun ⟨r, a, b⟩ => ⟨r, a, h.2 r a, b⟩⟩
theorem of_of {l : List Rg} (h : NF l) : of l = l := nf_unique (of_nf l) h (fun x => (of_mem l x).trans (memM_nf h x))
theorem of_same {a b : List Rg} (h : ∀ x, memM a x ↔ memM b x) : of a = of b := nf_unique (of_nf a) (of_nf b) (fun x => by rw [of_mem, of_mem]; exact h x)
/- all others -/
def notL : Int → List Rg → List Rg
  | low, [] => if low ≤ 1114111 then [(low, 1114111)] else []
  | low, r :: l => (if low < r.1 then [(low, r.1 - 1)] else []) ++ notL (r.2 + 1) l
theorem notL_spec : ∀ (l : List Rg) (low : Int), NF l → 0 ≤ low → low ≤ 1114112 → (∀ r ∈ l, low ≤ r.1) →
    NF (notL low l) ∧ (∀ r ∈ notL low l, low ≤ r.1) ∧ ∀ x, mem (notL low l) x ↔ (low ≤ x ∧ x ≤ 1114111 ∧ ¬ mem l x)
  | [], low, _, h0, h1, _ => by
    unfold notL
    split
    · rename_i h
      refine ⟨nf_cons.2 ⟨⟨h0, Int.le_refl _, h⟩, (fun s hs => by cases hs), nf_nil⟩, fun r hr => ?_, fun x => ?_⟩
      · simp at hr; subst hr; exact Int.le_refl _
      · rw [mem_cons]
        have h1 := mem_nil x
        unfold inn
        simp only [h1, or_false, not_false_eq_true, and_true]
    · rename_i h
      refine ⟨nf_nil, fun r hr => (by cases hr), fun x => ⟨fun h => absurd h (mem_nil _), fun h => by omega⟩⟩
  | r :: l, low, hl, h0, h1, hb => by
    obtain ⟨hr, h2, h3⟩ := nf_cons.1 hl
    have hr' := hr
    unfold may at hr'
    have hlow := hb r (List.mem_cons_self ..)
    obtain ⟨q1, q2, q3⟩ := notL_spec l (r.2 + 1) h3 (by omega) (by omega) (fun s hs => by have := h2 s hs; omega)
    have hmem : ∀ x, mem (r :: l) x ↔ inn r x ∨ mem l x := mem_cons r l
    unfold notL
    split
    · rename_i hc
      refine ⟨nf_app.2 ⟨nf_cons.2 ⟨by unfold may; simp only; omega, (fun s hs => by cases hs), nf_nil⟩, q1, fun u hu s hs => ?_⟩, fun u hu => ?_, fun x => ?_⟩
      · simp at hu; subst hu
        have := q2 s hs
        simp only; omega
      · rcases List.mem_append.1 hu with hu | hu
        · simp at hu; subst hu; exact Int.le_refl _
        · have := q2 u hu; omega
      · rw [mem_app, q3 x, hmem x, mem_cons]
        have hn := mem_nil x
        simp only [hn, or_false]
        have hbh : mem l x → r.2 + 1 < x := fun h => behind hl h
        unfold inn
        simp only
        constructor
        · rintro (h | ⟨a, b, c⟩)
          · refine ⟨h.1, by omega, fun h' => ?_⟩
            rcases h' with h' | h'
            · omega
            · have := hbh h'; omega
          · refine ⟨by omega, b, fun h' => ?_⟩
            rcases h' with h' | h'
            · omega
            · exact c h'
        · rintro ⟨a, b, c⟩
          by_cases hx : x < r.1
          · exact .inl ⟨a, by omega⟩
          · refine .inr ⟨?_, b, fun h => c (.inr h)⟩
            by_cases h5 : x ≤ r.2
            · exact absurd (.inl ⟨by omega, h5⟩) c
            · omega
    · rename_i hc
      rw [List.nil_append]
      refine ⟨q1, fun u hu => by have := q2 u hu; omega, fun x => ?_⟩
      rw [q3 x, hmem x]
      unfold inn
      constructor
      · rintro ⟨a, b, c⟩
        refine ⟨by omega, b, fun h' => ?_⟩
        rcases h' with h' | h'
        · omega
        · exact c h'
      · rintro ⟨a, b, c⟩
        refine ⟨?_, b, fun h => c (.inr h)⟩
        by_cases h5 : x ≤ r.2
        · exact absurd (.inl ⟨by omega, h5⟩) c
        · omega
def nots (l : List Rg) : List Rg := notL 0 (of l)
theorem nots_spec (l : List Rg) : NF (nots l) ∧ ∀ x, mem (nots l) x ↔ (0 ≤ x ∧ x ≤ 1114111 ∧ ¬ memM l x) := by
  obtain ⟨a, _, c⟩ := notL_spec (of l) 0 (of_nf l) (Int.le_refl _) (by omega) (fun r hr => ((of_nf l).2 r hr).1)
  exact ⟨a, fun x => by rw [nots, c x, of_mem]⟩
/- how many -/
def sumL : List Rg → Int
  | [] => 0
  | r :: l => (r.2 - r.1 + 1) + sumL l
theorem sumL_app (a b : List Rg) : sumL (a ++ b) = sumL a + sumL b := by
  induction a with
  | nil => simp [sumL]
  | cons r a ih => simp only [List.cons_append, sumL, ih]; omega
/- a form's runes are no more than there are from its least on -/
theorem sum_le : ∀ (l : List Rg) (low : Int), NF l → low ≤ 1114112 → (∀ r ∈ l, low ≤ r.1) → 0 ≤ sumL l ∧ sumL l ≤ 1114112 - low
  | [], low, _, h, _ => by simp only [sumL]; omega
  | r :: l, low, hl, h, hb => by
    obtain ⟨hr, h2, h3⟩ := nf_cons.1 hl
    unfold may at hr
    have := hb r (List.mem_cons_self ..)
    have := sum_le l (r.2 + 1) h3 (by omega) (fun s hs => by have := h2 s hs; omega)
    simp only [sumL]; omega
theorem sum_not : ∀ (l : List Rg) (low : Int), NF l → 0 ≤ low → low ≤ 1114112 → (∀ r ∈ l, low ≤ r.1) → sumL l + sumL (notL low l) = 1114112 - low
  | [], low, _, _, h, _ => by
    unfold notL
    split <;> simp only [sumL] <;> omega
  | r :: l, low, hl, h0, h, hb => by
    obtain ⟨hr, h2, h3⟩ := nf_cons.1 hl
    unfold may at hr
    have hlow := hb r (List.mem_cons_self ..)
    have := sum_not l (r.2 + 1) h3 (by omega) (by omega) (fun s hs => by have := h2 s hs; omega)
    unfold notL
    rw [sumL_app]
    split <;> simp only [sumL] <;> omega
end Go.Proofs.YtpnakbhbaghhgaaDoor.Cl
