/- Plain facts about classes: ranges that rise, merged; put as a text; counted. -/
import Derived.Test.YtpnakbhbaghhgaaDoorClassM
set_option linter.unusedVariables false
namespace Go.Proofs.YtpnakbhbaghhgaaDoor.Cl

/- one more of ranges that rise by their lower ends -/
def step (acc : List Rg) (r : Rg) : List Rg :=
  match acc.getLast? with
  | none => [r]
  | some t => if r.1 ≤ t.2 + 1 then acc.dropLast ++ [(t.1, max t.2 r.2)] else acc ++ [r]
theorem step_nil (r : Rg) : step [] r = [r] := rfl
theorem step_join (i : List Rg) (t r : Rg) (h : r.1 ≤ t.2 + 1) : step (i ++ [t]) r = i ++ [(t.1, max t.2 r.2)] := by
  unfold step; simp [h]
theorem step_more (i : List Rg) (t r : Rg) (h : ¬ r.1 ≤ t.2 + 1) : step (i ++ [t]) r = i ++ [t] ++ [r] := by
  unfold step; simp [h]
theorem step_len (acc : List Rg) (r : Rg) : (step acc r).length ≤ acc.length + 1 := by
  rcases List.eq_nil_or_concat acc with rfl | ⟨i, t, rfl⟩
  · simp [step_nil]
  · rw [List.concat_eq_append]
    by_cases h : r.1 ≤ t.2 + 1
    · rw [step_join _ _ _ h]; simp
    · rw [step_more _ _ _ h]; simp
theorem mem_one (r : Rg) (x : Int) : mem [r] x ↔ inn r x := by
  rw [mem_cons]; exact ⟨fun h => h.elim id (fun h => absurd h (mem_nil _)), .inl⟩
theorem step_spec {acc : List Rg} {r : Rg} (ha : NF acc) (hr : may r) (hl : ∀ t ∈ acc, t.1 ≤ r.1) :
    NF (step acc r) ∧ (∀ x, mem (step acc r) x ↔ mem acc x ∨ inn r x) ∧ ∀ t ∈ step acc r, t.1 ≤ r.1 := by
  rcases List.eq_nil_or_concat acc with rfl | ⟨i, t, rfl⟩
  · rw [step_nil]
    refine ⟨nf_cons.2 ⟨hr, (fun s hs => by cases hs), nf_nil⟩, fun x => ?_, fun t ht => ?_⟩
    · rw [mem_one]; exact ⟨.inr, fun h => h.elim (fun h => absurd h (mem_nil _)) id⟩
    · simp at ht; subst ht; exact Int.le_refl _
  · rw [List.concat_eq_append] at ha hl ⊢
    obtain ⟨n1, n2, n3⟩ := nf_app.1 ha
    have ht := n2.2 t (by simp)
    have htl := hl t (by simp)
    by_cases h : r.1 ≤ t.2 + 1
    · rw [step_join _ _ _ h]
      have hm : may (t.1, max t.2 r.2) := by unfold may at *; simp only; omega
      refine ⟨nf_app.2 ⟨n1, nf_cons.2 ⟨hm, (fun s hs => by cases hs), nf_nil⟩, fun u hu s hs => ?_⟩, fun x => ?_, fun u hu => ?_⟩
      · simp at hs; subst hs
        exact n3 u hu t (by simp)
      · rw [mem_app, mem_app, mem_one, mem_one, or_assoc]
        have : inn (t.1, max t.2 r.2) x ↔ inn t x ∨ inn r x := by unfold may at ht hr; unfold inn; simp only; omega
        rw [this]
      · rcases List.mem_append.1 hu with hu | hu
        · exact hl u (List.mem_append_left _ hu)
        · simp at hu; subst hu; exact htl
    · rw [step_more _ _ _ h]
      refine ⟨nf_app.2 ⟨ha, nf_cons.2 ⟨hr, (fun s hs => by cases hs), nf_nil⟩, fun u hu s hs => ?_⟩, fun x => ?_, fun u hu => ?_⟩
      · simp at hs; subst hs
        rcases List.mem_append.1 hu with hu | hu
        · have := n3 u hu t (by simp); unfold may at ht; omega
        · simp at hu; subst hu; omega
      · rw [mem_app, mem_one]
      · rcases List.mem_append.1 hu with hu | hu
        · exact hl u hu
        · simp at hu; subst hu; exact Int.le_refl _
def mg (l : List Rg) : List Rg := l.foldl step []
theorem mg_aux : ∀ (l acc : List Rg), NF acc → (∀ r ∈ l, may r) → l.Pairwise (fun r s => r.1 ≤ s.1) → (∀ t ∈ acc, ∀ r ∈ l, t.1 ≤ r.1) →
    NF (l.foldl step acc) ∧ ∀ x, mem (l.foldl step acc) x ↔ mem acc x ∨ mem l x
  | [], acc, h, _, _, _ => ⟨h, fun x => ⟨.inl, fun k => k.elim id (fun k => absurd k (mem_nil _))⟩⟩
  | r :: l, acc, h, hm, hp, hb => by
    obtain ⟨p1, p2⟩ := List.pairwise_cons.1 hp
    obtain ⟨s1, s2, s3⟩ := step_spec h (hm r (List.mem_cons_self ..)) (fun t ht => hb t ht r (List.mem_cons_self ..))
    obtain ⟨q1, q2⟩ := mg_aux l (step acc r) s1 (fun t ht => hm t (List.mem_cons_of_mem _ ht)) p2 (fun t ht u hu => Int.le_trans (s3 t ht) (p1 u hu))
    refine ⟨q1, fun x => ?_⟩
    rw [List.foldl_cons, q2 x, s2 x, mem_cons, or_assoc]
theorem mg_of {l m : List Rg} (hm : ∀ r ∈ m, may r) (hp : m.Pairwise (fun r s => r.1 ≤ s.1)) (h : ∀ r, r ∈ m ↔ r ∈ l ∧ may r) : mg m = of l := by
  obtain ⟨a, b⟩ := mg_aux m [] nf_nil hm hp (fun t ht => by cases ht)
  refine nf_unique a (of_nf l) (fun x => ?_)
  rw [show mg m = m.foldl step [] from rfl, b x, of_mem]
  constructor
  · rintro (k | ⟨r, hr, hx⟩)
    · exact absurd k (mem_nil _)
    · exact ⟨r, ((h r).1 hr).1, ((h r).1 hr).2, hx⟩
  · rintro ⟨r, hr, hr', hx⟩
    exact .inr ⟨r, (h r).2 ⟨hr, hr'⟩, hx⟩
theorem mg_take (l : List Rg) (k : Nat) (r : Rg) (h : l[k]? = some r) : mg (l.take (k + 1)) = step (mg (l.take k)) r := by
  have hi := (List.getElem?_eq_some_iff.1 h).1
  have hv := (List.getElem?_eq_some_iff.1 h).2
  unfold mg
  rw [List.take_succ_eq_append_getElem hi, hv, List.foldl_append]
  rfl
theorem fold_len : ∀ (l acc : List Rg), (l.foldl step acc).length ≤ acc.length + l.length
  | [], acc => by simp
  | r :: l, acc => by
    have := fold_len l (step acc r)
    have := step_len acc r
    simp only [List.foldl_cons, List.length_cons]; omega
theorem mg_len (l : List Rg) : (mg l).length ≤ l.length := by have := fold_len l []; simpa [mg] using this
/- which may, in the order in which they stand -/
def mays (l : List Rg) : List Rg := l.filter (fun r => decide (may r))
theorem mays_mem (l : List Rg) (r : Rg) : r ∈ mays l ↔ r ∈ l ∧ may r := by simp [mays]
theorem mays_take (l : List Rg) (k : Nat) (r : Rg) (h : l[k]? = some r) : mays (l.take (k + 1)) = mays (l.take k) ++ (if may r then [r] else []) := by
  have hi := (List.getElem?_eq_some_iff.1 h).1
  have hv := (List.getElem?_eq_some_iff.1 h).2
  unfold mays
  rw [List.take_succ_eq_append_getElem hi, hv, List.filter_append]
  by_cases hm : may r <;> simp [hm]
theorem mays_len (l : List Rg) : (mays l).length ≤ l.length := List.length_filter_le ..
/- how many a form has at most -/
theorem absorb_len : ∀ (l : List Rg) (r : Rg), (absorb l r).2.length ≤ l.length
  | [], r => by simp [absorb]
  | t :: l, r => by
    unfold absorb
    split
    · have := absorb_len l (min r.1 t.1, max r.2 t.2); simp; omega
    · simp
theorem put_len (l : List Rg) (r : Rg) : (put l r).length ≤ l.length + 1 := by
  have h1 : (l.takeWhile fun t => decide (t.2 + 1 < r.1)).length + (l.dropWhile fun t => decide (t.2 + 1 < r.1)).length = l.length := by
    rw [← List.length_append, List.takeWhile_append_dropWhile]
  have := absorb_len (l.dropWhile fun t => decide (t.2 + 1 < r.1)) r
  unfold put
  simp only [List.length_append, List.length_cons]; omega
theorem ofL_len : ∀ (l acc : List Rg), (ofL acc l).length ≤ acc.length + l.length
  | [], acc => by simp [ofL]
  | r :: l, acc => by
    unfold ofL
    split
    · have := ofL_len l (put acc r); have := put_len acc r; simp only [List.length_cons]; omega
    · have := ofL_len l acc; simp only [List.length_cons]; omega
theorem of_len (l : List Rg) : (of l).length ≤ l.length := by have := ofL_len l []; simpa [of] using this
theorem of_take (l : List Rg) (k : Nat) (r : Rg) (h : l[k]? = some r) : of (l.take (k + 1)) = if may r then put (of (l.take k)) r else of (l.take k) := by
  have hi := (List.getElem?_eq_some_iff.1 h).1
  have hv := (List.getElem?_eq_some_iff.1 h).2
  unfold of
  rw [List.take_succ_eq_append_getElem hi, hv, ofL_app]
  rfl
theorem notL_len : ∀ (l : List Rg) (low : Int), (notL low l).length ≤ l.length + 1
  | [], low => by unfold notL; split <;> simp
  | r :: l, low => by
    have := notL_len l (r.2 + 1)
    unfold notL
    split <;> simp <;> omega
theorem nots_len (l : List Rg) : (nots l).length ≤ l.length + 1 := by
  have := notL_len (of l) 0
  have := of_len l
  unfold nots; omega
/- a union has no more runes than both -/
theorem absorb_sum : ∀ (l : List Rg) (r : Rg), NF l → may r → (∀ t ∈ l, r.1 ≤ t.2 + 1) → ((absorb l r).1.2 - (absorb l r).1.1 + 1) + sumL (absorb l r).2 ≤ (r.2 - r.1 + 1) + sumL l
  | [], r, _, _, _ => Int.le_refl _
  | t :: l, r, hl, hr, hb => by
    obtain ⟨ht, h2, h3⟩ := nf_cons.1 hl
    unfold absorb
    split
    · rename_i hc
      have hbt := hb t (List.mem_cons_self ..)
      have hm : may (min r.1 t.1, max r.2 t.2) := by unfold may at *; simp only; omega
      have := absorb_sum l (min r.1 t.1, max r.2 t.2) h3 hm (fun u hu => by have := h2 u hu; unfold may at ht; have hu' := h3.2 u hu; unfold may at hu'; simp only; omega)
      unfold may at ht hr
      simp only [sumL] at *
      omega
    · exact Int.le_refl _
theorem put_sum {l : List Rg} {r : Rg} (hl : NF l) (hr : may r) : sumL (put l r) ≤ sumL l + (r.2 - r.1 + 1) := by
  have hd : l.takeWhile (fun t => decide (t.2 + 1 < r.1)) ++ l.dropWhile (fun t => decide (t.2 + 1 < r.1)) = l := List.takeWhile_append_dropWhile
  have hl' := hl
  rw [← hd] at hl'
  obtain ⟨n1, n2, n3⟩ := nf_app.1 hl'
  have h1 := absorb_sum _ r n2 hr (drop_all hl)
  have h2 : sumL l = sumL (l.takeWhile fun t => decide (t.2 + 1 < r.1)) + sumL (l.dropWhile fun t => decide (t.2 + 1 < r.1)) := by rw [← sumL_app, hd]
  unfold put
  rw [sumL_app, h2]
  simp only [sumL]
  omega
theorem ofL_sum : ∀ (l acc : List Rg), NF acc → (∀ r ∈ l, may r) → sumL (ofL acc l) ≤ sumL acc + sumL l
  | [], acc, _, _ => by simp [ofL, sumL]
  | r :: l, acc, h, hm => by
    have hr := hm r (List.mem_cons_self ..)
    have h1 := ofL_sum l (put acc r) (put_spec h hr).1 (fun t ht => hm t (List.mem_cons_of_mem _ ht))
    have h2 := put_sum h hr
    unfold ofL
    rw [if_pos hr]
    simp only [sumL]; omega
theorem union_sum {a b : List Rg} (ha : NF a) (hb : NF b) : sumL (of (a ++ b)) ≤ sumL a + sumL b := by
  have := ofL_sum (a ++ b) [] nf_nil (fun r hr => (List.mem_append.1 hr).elim (ha.2 r) (hb.2 r))
  rw [sumL_app] at this
  simpa [sumL, of] using this
theorem of_sum (l : List Rg) : 0 ≤ sumL (of l) ∧ sumL (of l) ≤ 1114112 := by
  have := sum_le (of l) 0 (of_nf l) (by omega) (fun r hr => ((of_nf l).2 r hr).1)
  omega
theorem of_not_sum {a : List Rg} (ha : NF a) : sumL a + sumL (nots a) = 1114112 := by
  have := sum_not a 0 ha (by omega) (by omega) (fun r hr => (ha.2 r hr).1)
  unfold nots
  rw [of_of ha]
  omega
/- what is put -/
def hexC (d : Nat) : UInt8 := UInt8.ofNat (if d < 10 then 48 + d else 87 + d)
theorem hexC_nat (d : Nat) (h : d < 16) : (hexC d).toNat = if d < 10 then 48 + d else 87 + d := by
  unfold hexC
  rw [UInt8.toNat_ofNat']
  split <;> omega
def hexD (n : Nat) : List UInt8 := if h : n < 16 then [hexC n] else hexD (n / 16) ++ [hexC (n % 16)]
termination_by n
decreasing_by omega
theorem hexD_small {n : Nat} (h : n < 16) : hexD n = [hexC n] := by rw [hexD, dif_pos h]
theorem hexD_big {n : Nat} (h : ¬ n < 16) : hexD n = hexD (n / 16) ++ [hexC (n % 16)] := by rw [hexD, dif_neg h]
theorem hexD_ne (n : Nat) : hexD n ≠ [] := by
  by_cases h : n < 16
  · rw [hexD_small h]; simp
  · rw [hexD_big h]; simp
theorem hexD_len : ∀ (k n : Nat), n < 16 ^ (k + 1) → (hexD n).length ≤ k + 1
  | 0, n, h => by rw [hexD_small (by simpa using h)]; simp
  | k + 1, n, h => by
    by_cases h' : n < 16
    · rw [hexD_small h']; simp
    · rw [hexD_big h']
      have := hexD_len k (n / 16) (by rw [Nat.pow_succ] at h; omega)
      simp; omega
def unC (c : UInt8) : Nat := if c.toNat < 58 then c.toNat - 48 else c.toNat - 87
theorem unC_hexC (d : Nat) (h : d < 16) : unC (hexC d) = d := by
  unfold unC
  rw [hexC_nat d h]
  repeat' split
  all_goals omega
def unD (l : List UInt8) : Nat := l.foldl (fun a c => a * 16 + unC c) 0
theorem unD_hexD (n : Nat) : unD (hexD n) = n := by
  induction n using Nat.strongRecOn with
  | ind n ih =>
    by_cases h : n < 16
    · rw [hexD_small h]; simp [unD, unC_hexC n h]
    · rw [hexD_big h]
      have := ih (n / 16) (by omega)
      unfold unD at *
      rw [List.foldl_append, this]
      simp [unC_hexC (n % 16) (by omega)]
      omega
theorem hexD_inj {m n : Nat} (h : hexD m = hexD n) : m = n := by rw [← unD_hexD m, h, unD_hexD]
theorem hexD_free (n : Nat) : ∀ c ∈ hexD n, c ≠ 44 ∧ c ≠ 45 := by
  induction n using Nat.strongRecOn with
  | ind n ih =>
    have key : ∀ d, d < 16 → hexC d ≠ 44 ∧ hexC d ≠ 45 := fun d hd => by
      have := hexC_nat d hd
      refine ⟨fun e => ?_, fun e => ?_⟩ <;>
      · rw [e] at this
        revert this
        split <;> (intro h; simp at h; omega)
    intro c hc
    by_cases h : n < 16
    · rw [hexD_small h] at hc; simp at hc; subst hc; exact key n h
    · rw [hexD_big h] at hc
      rcases List.mem_append.1 hc with hc | hc
      · exact ih (n / 16) (by omega) c hc
      · simp at hc; subst hc; exact key _ (by omega)
def hexI (r : Int) : List UInt8 := if r < 0 then 45 :: hexD (-r).toNat else hexD r.toNat
theorem hexI_len (r : Int) (h0 : -2147483648 ≤ r) (h1 : r ≤ 2147483647) : (hexI r).length ≤ 9 := by
  unfold hexI
  split
  · have := hexD_len 7 (-r).toNat (by omega); simp; omega
  · have := hexD_len 7 r.toNat (by omega); omega
def putR (r : Rg) : List UInt8 := hexI r.1 ++ (if r.2 = r.1 then [] else 45 :: hexI r.2)
def putT : List Rg → List UInt8
  | [] => []
  | r :: l => 44 :: (putR r ++ putT l)
def putL : List Rg → List UInt8
  | [] => []
  | r :: l => putR r ++ putT l
theorem putT_app (l : List Rg) (r : Rg) : putT (l ++ [r]) = putT l ++ 44 :: putR r := by
  induction l with
  | nil => simp [putT]
  | cons a l ih => simp [putT, ih]
theorem putL_app (l : List Rg) (r : Rg) : putL (l ++ [r]) = (putL l ++ if l.length = 0 then [] else [44]) ++ putR r := by
  cases l with
  | nil => simp [putL, putT]
  | cons a l => simp [putL, putT_app]
theorem putL_take (l : List Rg) (k : Nat) (r : Rg) (h : l[k]? = some r) : putL (l.take (k + 1)) = (putL (l.take k) ++ if k = 0 then [] else [44]) ++ putR r := by
  have hi := (List.getElem?_eq_some_iff.1 h).1
  have hv := (List.getElem?_eq_some_iff.1 h).2
  rw [List.take_succ_eq_append_getElem hi, hv, putL_app, List.length_take, Nat.min_eq_left (by omega)]
theorem putR_len (r : Rg) (h : -2147483648 ≤ r.1 ∧ r.1 ≤ 2147483647 ∧ -2147483648 ≤ r.2 ∧ r.2 ≤ 2147483647) : (putR r).length ≤ 19 := by
  have h1 := hexI_len r.1 h.1 h.2.1
  have h2 := hexI_len r.2 h.2.2.1 h.2.2.2
  unfold putR
  split
  · simp; omega
  · simp; omega
/- two texts cut at the first sign of one kind -/
theorem sep_eq (c : UInt8) : ∀ (p q t u : List UInt8), (∀ x ∈ p, x ≠ c) → (∀ x ∈ q, x ≠ c) → (t = [] ∨ ∃ t', t = c :: t') → (u = [] ∨ ∃ u', u = c :: u') → p ++ t = q ++ u → p = q ∧ t = u
  | [], [], t, u, _, _, _, _, h => ⟨rfl, h⟩
  | [], y :: q, t, u, _, hq, ht, _, h => by
    rcases ht with rfl | ⟨t', rfl⟩
    · simp at h
    · simp at h; exact absurd h.1.symm (hq y (List.mem_cons_self ..))
  | x :: p, [], t, u, hp, _, _, hu, h => by
    rcases hu with rfl | ⟨u', rfl⟩
    · simp at h
    · simp at h; exact absurd h.1 (hp x (List.mem_cons_self ..))
  | x :: p, y :: q, t, u, hp, hq, ht, hu, h => by
    simp only [List.cons_append, List.cons.injEq] at h
    obtain ⟨h1, h2⟩ := sep_eq c p q t u (fun z hz => hp z (List.mem_cons_of_mem _ hz)) (fun z hz => hq z (List.mem_cons_of_mem _ hz)) ht hu h.2
    exact ⟨by rw [h.1, h1], h2⟩
theorem hexI_may {x : Int} (h : 0 ≤ x) : hexI x = hexD x.toNat := by unfold hexI; rw [if_neg (by omega)]
theorem putR_free {r : Rg} (h : may r) : ∀ c ∈ putR r, c ≠ 44 := by
  unfold may at h
  intro c hc
  unfold putR at hc
  rw [hexI_may h.1] at hc
  rcases List.mem_append.1 hc with hc | hc
  · exact (hexD_free _ c hc).1
  · split at hc
    · cases hc
    · rcases List.mem_cons.1 hc with rfl | hc
      · decide
      · rw [hexI_may (by omega)] at hc; exact (hexD_free _ c hc).1
theorem putR_inj {r s : Rg} (hr : may r) (hs : may s) (h : putR r = putR s) : r = s := by
  unfold may at hr hs
  unfold putR at h
  rw [hexI_may hr.1, hexI_may hs.1, hexI_may (show 0 ≤ r.2 by omega), hexI_may (show 0 ≤ s.2 by omega)] at h
  obtain ⟨h1, h2⟩ := sep_eq 45 _ _ _ _ (fun x hx => (hexD_free _ x hx).2) (fun x hx => (hexD_free _ x hx).2) (by split; exact .inl rfl; exact .inr ⟨_, rfl⟩) (by split; exact .inl rfl; exact .inr ⟨_, rfl⟩) h
  have e1 := hexD_inj h1
  refine Prod.ext (by omega) ?_
  split at h2 <;> split at h2
  · omega
  · cases h2
  · cases h2
  · simp only [List.cons.injEq, true_and] at h2
    have := hexD_inj h2
    omega
theorem putT_head (l : List Rg) : putT l = [] ∨ ∃ t', putT l = 44 :: t' := by
  cases l with
  | nil => exact .inl rfl
  | cons a l => exact .inr ⟨_, rfl⟩
theorem putT_inj : ∀ {a b : List Rg}, (∀ r ∈ a, may r) → (∀ r ∈ b, may r) → putT a = putT b → a = b
  | [], [], _, _, _ => rfl
  | [], s :: b, _, _, h => by simp [putT] at h
  | r :: a, [], _, _, h => by simp [putT] at h
  | r :: a, s :: b, ha, hb, h => by
    simp only [putT, List.cons.injEq, true_and] at h
    have hr := ha r (List.mem_cons_self ..)
    have hs := hb s (List.mem_cons_self ..)
    obtain ⟨h1, h2⟩ := sep_eq 44 _ _ _ _ (putR_free hr) (putR_free hs) (putT_head a) (putT_head b) h
    rw [putR_inj hr hs h1, putT_inj (fun t ht => ha t (List.mem_cons_of_mem _ ht)) (fun t ht => hb t (List.mem_cons_of_mem _ ht)) h2]
theorem putR_ne (r : Rg) : putR r ≠ [] := by
  unfold putR hexI
  have := hexD_ne
  split <;> simp [this]
theorem putL_nil (l : List Rg) : putL l = [] ↔ l = [] := by
  cases l with
  | nil => simp [putL]
  | cons a l => simp [putL, putR_ne]
theorem putL_inj {a b : List Rg} (ha : ∀ r ∈ a, may r) (hb : ∀ r ∈ b, may r) (h : putL a = putL b) : a = b := by
  cases a with
  | nil => exact ((putL_nil b).1 h.symm).symm
  | cons r a =>
    cases b with
    | nil => exact (putL_nil _).1 h
    | cons s b =>
      have h' : putR r ++ putT a = putR s ++ putT b := h
      have hr := ha r (List.mem_cons_self ..)
      have hs := hb s (List.mem_cons_self ..)
      obtain ⟨h1, h2⟩ := sep_eq 44 _ _ _ _ (putR_free hr) (putR_free hs) (putT_head a) (putT_head b) h'
      rw [putR_inj hr hs h1, putT_inj (fun t ht => ha t (List.mem_cons_of_mem _ ht)) (fun t ht => hb t (List.mem_cons_of_mem _ ht)) h2]
theorem putL_len (l : List Rg) (h : ∀ r ∈ l, -2147483648 ≤ r.1 ∧ r.1 ≤ 2147483647 ∧ -2147483648 ≤ r.2 ∧ r.2 ≤ 2147483647) : (putL l).length ≤ 20 * l.length := by
  have key : ∀ m : List Rg, (∀ r ∈ m, -2147483648 ≤ r.1 ∧ r.1 ≤ 2147483647 ∧ -2147483648 ≤ r.2 ∧ r.2 ≤ 2147483647) → (putT m).length ≤ 20 * m.length := by
    intro m
    induction m with
    | nil => intro _; simp [putT]
    | cons a m ih =>
      intro hm
      have := ih (fun r hr => hm r (List.mem_cons_of_mem _ hr))
      have := putR_len a (hm a (List.mem_cons_self ..))
      simp [putT]; omega
  cases l with
  | nil => simp [putL]
  | cons a l =>
    have := key l (fun r hr => h r (List.mem_cons_of_mem _ hr))
    have := putR_len a (h a (List.mem_cons_self ..))
    simp [putL]; omega
end Go.Proofs.YtpnakbhbaghhgaaDoor.Cl
