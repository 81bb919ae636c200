import Derived.Lib.MapLaws
import Derived.Lib.QuoteLoop
set_option linter.unusedSimpArgs false
set_option linter.unusedVariables false
section
/- Plain facts about runes, on strings of bytes: where they stand, what is told there. -/
set_option linter.unusedVariables false
namespace Go.Proofs.YtdoapojmenojoaaGreatDoor.Rn
open Go.Lib

/- the rune that is told at p, and how many bytes it has there -/
def dR (s : ByteArray) (p : Nat) : Nat := (Utf8.decode s p).1
def dW (s : ByteArray) (p : Nat) : Nat := (Utf8.decode s p).2
def at8 (s : ByteArray) (p : Nat) : Nat := (s.data.toList.getD p 0).toNat
def rightB (r : Int) : Bool := (0 ≤ r && r < 55296) || (57343 < r && r ≤ 1114111)
def wordB (r : Int) : Bool := (48 ≤ r && r ≤ 57) || (65 ≤ r && r ≤ 90) || (97 ≤ r && r ≤ 122) || r == 95
theorem right_iff (r : Int) : rightB r = true ↔ (0 ≤ r ∧ r < 55296) ∨ (57343 < r ∧ r ≤ 1114111) := by simp [rightB]
theorem word_iff (r : Int) : wordB r = true ↔ (48 ≤ r ∧ r ≤ 57) ∨ (65 ≤ r ∧ r ≤ 90) ∨ (97 ≤ r ∧ r ≤ 122) ∨ r = 95 := by simp [wordB, or_assoc]

theorem len_eq (s : ByteArray) : s.data.toList.length = s.size := by rw [Array.length_toList]; rfl
theorem at8_lt (s : ByteArray) (p : Nat) : at8 s p < 256 := UInt8.toNat_lt _
theorem dec_eq (s : ByteArray) (p : Nat) : Utf8.decode s p = decodeN (s.size - p) (at8 s p) (at8 s (p + 1)) (at8 s (p + 2)) (at8 s (p + 3)) := by
  rw [decode_N, len_eq]; rfl
theorem dec_pair (s : ByteArray) (p : Nat) : Utf8.decode s p = (dR s p, dW s p) := rfl

/- all that is known of one decoding -/
theorem shape (s : ByteArray) (p : Nat) (hp : p < s.size) :
    (at8 s p < 128 ∧ dR s p = at8 s p ∧ dW s p = 1) ∨
    (at8 s p / 32 = 6 ∧ p + 1 < s.size ∧ at8 s (p + 1) / 64 = 2 ∧ dR s p = at8 s p % 32 * 64 + at8 s (p + 1) % 64 ∧ dW s p = 2 ∧ 128 ≤ dR s p) ∨
    (at8 s p / 16 = 14 ∧ p + 2 < s.size ∧ at8 s (p + 1) / 64 = 2 ∧ at8 s (p + 2) / 64 = 2 ∧ dR s p = at8 s p % 16 * 4096 + at8 s (p + 1) % 64 * 64 + at8 s (p + 2) % 64 ∧ dW s p = 3 ∧ 2048 ≤ dR s p ∧ (dR s p < 55296 ∨ 57344 ≤ dR s p)) ∨
    (at8 s p / 8 = 30 ∧ p + 3 < s.size ∧ at8 s (p + 1) / 64 = 2 ∧ at8 s (p + 2) / 64 = 2 ∧ at8 s (p + 3) / 64 = 2 ∧ dR s p = at8 s p % 8 * 262144 + at8 s (p + 1) % 64 * 4096 + at8 s (p + 2) % 64 * 64 + at8 s (p + 3) % 64 ∧ dW s p = 4 ∧ 65536 ≤ dR s p ∧ dR s p ≤ 1114111) ∨
    (128 ≤ at8 s p ∧ dR s p = 65533 ∧ dW s p = 1) := by
  have h := dec_eq s p
  by_cases h0 : at8 s p < 128
  · left
    have : decodeN (s.size - p) (at8 s p) (at8 s (p + 1)) (at8 s (p + 2)) (at8 s (p + 3)) = (at8 s p, 1) := by unfold decodeN; rw [if_pos h0]
    rw [this] at h
    exact ⟨h0, congrArg Prod.fst h, congrArg Prod.snd h⟩
  · right
    rcases decodeN_shape (s.size - p) (at8 s p) (at8 s (p + 1)) (at8 s (p + 2)) (at8 s (p + 3)) with ⟨c, e⟩ | ⟨c1, c2, c3, cv, e⟩ | ⟨c1, c2, c3, c4, cv, cs, e⟩ | ⟨c1, c2, c3, c4, c5, cv, cw, e⟩ | e
    · omega
    all_goals
      rw [e] at h
      have h1 : dR s p = _ := congrArg Prod.fst h
      have h2 : dW s p = _ := congrArg Prod.snd h
      dsimp only at h1 h2
      clear h e
    · left; exact ⟨c1, by omega, c3, h1, h2, by omega⟩
    · right; left; exact ⟨c1, by omega, c3, c4, h1, h2, by omega, by omega⟩
    · right; right; left; exact ⟨c1, by omega, c3, c4, c5, h1, h2, by omega, by omega⟩
    · right; right; right; exact ⟨by omega, h1, h2⟩

theorem dW_pos (s : ByteArray) (p : Nat) : 1 ≤ dW s p := width_pos s p
theorem dW_le (s : ByteArray) (p : Nat) (hp : p < s.size) : dW s p ≤ 4 ∧ p + dW s p ≤ s.size := by
  rcases shape s p hp with h | h | h | h | h <;> omega
theorem dR_right (s : ByteArray) (p : Nat) (hp : p < s.size) : (dR s p : Int) ≤ 1114111 ∧ rightB (dR s p) = true := by
  have := at8_lt s p
  rw [right_iff]
  rcases shape s p hp with h | h | h | h | h <;> omega
theorem cont (s : ByteArray) (p i : Nat) (hp : p < s.size) (h0 : 0 < i) (hi : i < dW s p) : 192 ≤ at8 s p ∧ 128 ≤ at8 s (p + i) ∧ at8 s (p + i) < 192 := by
  rcases shape s p hp with h | h | h | h | h
  · omega
  · obtain rfl : i = 1 := by omega
    omega
  · rcases (show i = 1 ∨ i = 2 by omega) with rfl | rfl <;> omega
  · rcases (show i = 1 ∨ i = 2 ∨ i = 3 by omega) with rfl | rfl | rfl <;> omega
  · omega

/- what is cut off behind a rune's bytes is not asked -/
theorem dN_cut (n m b0 b1 b2 b3 c1 c2 c3 : Nat) (h1 : 1 ≤ n) (hnm : n ≤ m) (e1 : 1 < n → b1 = c1) (e2 : 2 < n → b2 = c2) (e3 : 3 < n → b3 = c3) (hw : (decodeN m b0 c1 c2 c3).2 ≤ n) :
    decodeN n b0 b1 b2 b3 = decodeN m b0 c1 c2 c3 := by
  by_cases h4 : 3 < n
  · rw [e1 (by omega), e2 (by omega), e3 h4]
    unfold decodeN
    simp only [show 1 < n by omega, show 2 < n by omega, h4, show 1 < m by omega, show 2 < m by omega, show 3 < m by omega, true_and]
  by_cases h3 : 2 < n
  · obtain rfl : n = 3 := by omega
    obtain rfl := e1 (by omega)
    obtain rfl := e2 (by omega)
    unfold decodeN at *
    simp only [show 1 < m by omega, show 2 < m by omega, show (1 : Nat) < 3 by omega, show (2 : Nat) < 3 by omega, show ¬ (3 : Nat) < 3 by omega, true_and, false_and, and_false, if_false] at *
    repeat' split
    all_goals first | rfl | (exfalso; simp_all; done) | skip
    all_goals (simp_all <;> omega)
  by_cases h2 : 1 < n
  · obtain rfl : n = 2 := by omega
    obtain rfl := e1 (by omega)
    unfold decodeN at *
    simp only [show 1 < m by omega, show (1 : Nat) < 2 by omega, show ¬ (2 : Nat) < 2 by omega, show ¬ (3 : Nat) < 2 by omega, true_and, false_and, and_false, if_false] at *
    repeat' split
    all_goals first | rfl | (exfalso; simp_all; done) | skip
    all_goals (simp_all <;> omega)
  · obtain rfl : n = 1 := by omega
    unfold decodeN at *
    simp only [show ¬ (1 : Nat) < 1 by omega, show ¬ (2 : Nat) < 1 by omega, show ¬ (3 : Nat) < 1 by omega, false_and, and_false, if_false] at *
    repeat' split
    all_goals first | rfl | (exfalso; simp_all; done) | skip
    all_goals (simp_all <;> omega)

theorem dec_cut (s t : ByteArray) (p q : Nat) (hp : p < s.size) (hn : s.size - p ≤ t.size - q) (hb : ∀ i, i < 4 → p + i < s.size → at8 s (p + i) = at8 t (q + i)) (hw : dW t q ≤ s.size - p) : Utf8.decode s p = Utf8.decode t q := by
  have hw' : (Utf8.decode t q).2 ≤ s.size - p := hw
  rw [dec_eq] at hw'
  rw [dec_eq, dec_eq, show at8 s p = at8 t q from hb 0 (by omega) hp]
  rw [show at8 t q = at8 t (q + 0) from rfl] at *
  exact dN_cut _ _ _ _ _ _ _ _ _ (by omega) hn (fun h => hb 1 (by omega) (by omega)) (fun h => hb 2 (by omega) (by omega)) (fun h => hb 3 (by omega) (by omega)) hw'

theorem size_ext (s : ByteArray) (i j : Nat) (hi : i ≤ j) (hj : j ≤ s.size) : (s.extract i j).size = j - i := by simp; omega
theorem at8_ext (s : ByteArray) (i j k : Nat) (hk : i + k < j) (hj : j ≤ s.size) : at8 (s.extract i j) k = at8 s (i + k) := by
  have h1 : k < (s.extract i j).data.toList.length := by rw [len_eq, size_ext s i j (by omega) hj]; omega
  have h2 : i + k < s.data.toList.length := by rw [len_eq]; omega
  have h3 : (s.extract i j).data.toList = (s.data.toList.take j).drop i := by simp [ByteArray.data_extract, List.take_drop]; rw [show i + (j - i) = j by omega]
  unfold at8
  rw [h3]
  simp only [List.getD, List.getElem?_drop, List.getElem?_take]
  rw [if_pos hk]
/- a window that holds the rune tells it -/
theorem dec_window (s : ByteArray) (p q j : Nat) (hp : p + q < j) (hj : j ≤ s.size) (hw : p + q + dW s (p + q) ≤ j) : Utf8.decode (s.extract p j) q = Utf8.decode s (p + q) := by
  refine dec_cut _ _ _ _ (by rw [size_ext s p j (by omega) hj]; omega) (by rw [size_ext s p j (by omega) hj]; omega) (fun i _ hi => ?_) (by rw [size_ext s p j (by omega) hj]; omega)
  rw [size_ext s p j (by omega) hj] at hi
  rw [at8_ext s p j _ (by omega) hj, Nat.add_assoc]
theorem dec_first (s : ByteArray) (p : Nat) (hp : p < s.size) : Utf8.decode (s.extract p (min (p + 4) s.size)) 0 = Utf8.decode s p := by
  have := dW_le s p hp
  exact dec_window s p 0 _ (by omega) (by omega) (by simp only [Nat.add_zero]; omega)
theorem dec_tail (s : ByteArray) (p q : Nat) (hp : p + q < s.size) : Utf8.decode (s.extract p s.size) q = Utf8.decode s (p + q) :=
  dec_window s p q _ hp (Nat.le_refl _) (dW_le s _ hp).2
/- where the runes begin, one behind the other -/
def pos (s : ByteArray) : Nat → Nat
  | 0 => 0
  | k + 1 => if pos s k < s.size then pos s k + dW s (pos s k) else pos s k
theorem pos_le (s : ByteArray) : ∀ k, pos s k ≤ s.size
  | 0 => Nat.zero_le _
  | k + 1 => by
    have := pos_le s k
    unfold pos
    split
    · exact (dW_le s _ (by assumption)).2
    · exact this
theorem pos_succ (s : ByteArray) (k : Nat) (h : pos s k < s.size) : pos s (k + 1) = pos s k + dW s (pos s k) := by
  show (if pos s k < s.size then pos s k + dW s (pos s k) else pos s k) = _
  rw [if_pos h]
theorem pos_stay (s : ByteArray) (k : Nat) (h : ¬ pos s k < s.size) : pos s (k + 1) = pos s k := by
  show (if pos s k < s.size then pos s k + dW s (pos s k) else pos s k) = _
  rw [if_neg h]
theorem pos_mono1 (s : ByteArray) (k : Nat) : pos s k ≤ pos s (k + 1) := by
  by_cases h : pos s k < s.size
  · rw [pos_succ s k h]; omega
  · rw [pos_stay s k h]; omega
theorem pos_mono (s : ByteArray) (k : Nat) : ∀ j, pos s k ≤ pos s (k + j)
  | 0 => Nat.le_refl _
  | j + 1 => Nat.le_trans (pos_mono s k j) (pos_mono1 s (k + j))
theorem pos_ge (s : ByteArray) : ∀ k, k ≤ pos s k ∨ pos s k = s.size
  | 0 => .inl (Nat.zero_le _)
  | k + 1 => by
    have hl := pos_le s k
    by_cases h : pos s k < s.size
    · have := dW_pos s (pos s k)
      rw [pos_succ s k h]
      rcases pos_ge s k with h1 | h1 <;> omega
    · rw [pos_stay s k h]; omega
/- how many there are -/
def many (s : ByteArray) : Nat → Nat
  | 0 => 0
  | f + 1 => if pos s f < s.size then f + 1 else many s f
def cnt (s : ByteArray) : Nat := many s s.size
theorem many_spec (s : ByteArray) : ∀ f, many s f ≤ f ∧ (∀ k, k < many s f → pos s k < s.size) ∧ (∀ k, many s f ≤ k → k < f → pos s k = s.size)
  | 0 => ⟨Nat.le_refl _, fun k h => absurd h (Nat.not_lt_zero _), fun k _ h => absurd h (Nat.not_lt_zero _)⟩
  | f + 1 => by
    obtain ⟨h1, h2, h3⟩ := many_spec s f
    unfold many
    split
    · rename_i h
      refine ⟨Nat.le_refl _, fun k hk => ?_, fun k _ _ => by omega⟩
      have := pos_mono s k (f - k)
      rw [show k + (f - k) = f by omega] at this
      omega
    · rename_i h
      refine ⟨by omega, h2, fun k hk hf => ?_⟩
      by_cases e : k = f
      · have := pos_le s f; subst e; omega
      · exact h3 k hk (by omega)
theorem cnt_lt (s : ByteArray) (k : Nat) : k < cnt s ↔ pos s k < s.size := by
  obtain ⟨h1, h2, h3⟩ := many_spec s s.size
  refine ⟨h2 k, fun h => ?_⟩
  by_cases hk : k < cnt s
  · exact hk
  · exfalso
    by_cases hf : k < s.size
    · have := h3 k (by unfold cnt at hk; omega) hf; omega
    · rcases pos_ge s k with h | h <;> omega
theorem cnt_le (s : ByteArray) : cnt s ≤ s.size := (many_spec s s.size).1
theorem pos_cnt (s : ByteArray) : pos s (cnt s) = s.size := by
  have h : ¬ pos s (cnt s) < s.size := fun h0 => Nat.lt_irrefl _ ((cnt_lt s _).2 h0)
  have := pos_le s (cnt s)
  omega
theorem pos_end (s : ByteArray) (k : Nat) (h : cnt s ≤ k) : pos s k = s.size := by
  have h' : ¬ pos s k < s.size := fun h0 => absurd ((cnt_lt s k).2 h0) (by omega)
  have := pos_le s k
  omega

/- places: where a rune begins, or the end -/
def Reach (s : ByteArray) (p : Nat) : Prop := ∃ k, pos s k = p
theorem reach_end (s : ByteArray) : Reach s s.size := ⟨_, pos_cnt s⟩
theorem reach_le {s : ByteArray} {p : Nat} (h : Reach s p) : p ≤ s.size := by obtain ⟨k, rfl⟩ := h; exact pos_le s k
theorem reach_order {s : ByteArray} {p q : Nat} (hp : Reach s p) (hq : Reach s q) (h : p < q) : p + dW s p ≤ q := by
  obtain ⟨k, rfl⟩ := hp
  obtain ⟨j, rfl⟩ := hq
  have hs : pos s k < s.size := by have := pos_le s j; omega
  rw [← pos_succ s k hs]
  have hkj : k + 1 ≤ j := by
    by_cases e : j ≤ k
    · have := pos_mono s j (k - j); rw [show j + (k - j) = k by omega] at this; omega
    · omega
  have := pos_mono s (k + 1) (j - (k + 1))
  rwa [show k + 1 + (j - (k + 1)) = j by omega] at this
theorem reach_last (s : ByteArray) (q : Nat) (hq : q ≤ s.size) : Reach s q ∨ ∃ p, Reach s p ∧ p < q ∧ q < p + dW s p := by
  have key : ∀ k, pos s k ≤ q → Reach s q ∨ (∃ p, Reach s p ∧ p < q ∧ q < p + dW s p) ∨ pos s (k + 1) ≤ q := by
    intro k hk
    by_cases e : pos s k = q
    · exact .inl ⟨k, e⟩
    · have hs : pos s k < s.size := by omega
      rw [pos_succ s k hs]
      by_cases h : q < pos s k + dW s (pos s k)
      · exact .inr (.inl ⟨pos s k, ⟨k, rfl⟩, by omega, h⟩)
      · exact .inr (.inr (by omega))
  have all : ∀ k, Reach s q ∨ (∃ p, Reach s p ∧ p < q ∧ q < p + dW s p) ∨ pos s k ≤ q := by
    intro k
    induction k with
    | zero => exact .inr (.inr (Nat.zero_le _))
    | succ k ih =>
      rcases ih with h | h | h
      · exact .inl h
      · exact .inr (.inl h)
      · exact key k h
  rcases all (cnt s) with h | h | h
  · exact .inl h
  · exact .inr h
  · rw [pos_cnt] at h
    exact .inl (by rw [show q = s.size by omega]; exact reach_end s)
/- a place is told by the few bytes about it -/
theorem reach_iff (s : ByteArray) (q : Nat) (hq : q ≤ s.size) : Reach s q ↔ ∀ p, p < q → q ≤ p + 3 → p + dW s p ≤ q := by
  constructor
  · intro h p hp _
    by_cases hw : q < p + dW s p
    · exfalso
      have hps : p < s.size := by omega
      rcases reach_last s p (by omega) with hr | ⟨o, ho, h1, h2⟩
      · have := reach_order hr h hp; omega
      · have hos : o < s.size := by omega
        have c := cont s o (p - o) hos (by omega) (by omega)
        rw [show o + (p - o) = p by omega] at c
        have d := cont s p (q - p) hps (by omega) (by omega)
        omega
    · omega
  · intro h
    rcases reach_last s q hq with hr | ⟨p, hp, h1, h2⟩
    · exact hr
    · exfalso
      have := (dW_le s p (by omega)).1
      have := h p h1 (by omega)
      omega

/- what is told of a place: a rune, where it begins, its bytes; or nothing -/
abbrev Rec := Nat × Nat × Nat
def recAt (s : ByteArray) (p : Nat) : Rec := (dR s p, p, dW s p)
def Begins (s : ByteArray) (at' : Int) (o : Option Rec) : Prop :=
  (∃ p : Nat, at' = p ∧ Reach s p ∧ p < s.size ∧ o = some (recAt s p)) ∨ (o = none ∧ ∀ p : Nat, at' = p → Reach s p → p < s.size → False)
def Ends (s : ByteArray) (at' : Int) (o : Option Rec) : Prop :=
  (∃ p : Nat, at' = p + dW s p ∧ Reach s p ∧ p < s.size ∧ o = some (recAt s p)) ∨ (o = none ∧ ∀ p : Nat, at' = p + dW s p → Reach s p → p < s.size → False)
theorem begins_some (s : ByteArray) (x : Int) : ∃ o, Begins s x o := by
  by_cases h : ∃ p : Nat, x = p ∧ Reach s p ∧ p < s.size
  · obtain ⟨p, a, b, c⟩ := h
    exact ⟨_, .inl ⟨p, a, b, c, rfl⟩⟩
  · exact ⟨none, .inr ⟨rfl, fun p a b c => h ⟨p, a, b, c⟩⟩⟩
/- the runes of the text -/
def recN (s : ByteArray) (k : Nat) : Rec := recAt s (pos s k)
def pre (s : ByteArray) (k : Nat) : List Rec := (List.range k).map (recN s)
def all (s : ByteArray) : List Rec := pre s (cnt s)
theorem pre_len (s : ByteArray) (k : Nat) : (pre s k).length = k := by simp [pre]
theorem all_len (s : ByteArray) : (all s).length = cnt s := pre_len _ _
theorem pre_get (s : ByteArray) (k n : Nat) (h : k < n) : (pre s n)[k]? = some (recN s k) := by simp [pre, h]
theorem reach_pos (s : ByteArray) (k : Nat) : Reach s (pos s k) := ⟨k, rfl⟩
theorem pos_inj {s : ByteArray} {j k : Nat} (hj : j < cnt s) (hk : k ≤ cnt s) (h : pos s j = pos s k) : j = k := by
  have h1 := (cnt_lt s j).1 hj
  rcases Nat.lt_trichotomy j k with e | e | e
  · have a := pos_succ s j h1
    have b := pos_mono s (j + 1) (k - (j + 1))
    rw [show j + 1 + (k - (j + 1)) = k by omega] at b
    have := dW_pos s (pos s j)
    omega
  · exact e
  · have h2 : pos s k < s.size := by omega
    have a := pos_succ s k h2
    have b := pos_mono s (k + 1) (j - (k + 1))
    rw [show k + 1 + (j - (k + 1)) = j by omega] at b
    have := dW_pos s (pos s k)
    omega
/- found in the list from the front on -/
theorem begins_fun {s : ByteArray} {x : Int} {o o' : Option Rec} (h : Begins s x o) (h' : Begins s x o') : o = o' := by
  rcases h with ⟨p, e, hp, hs, rfl⟩ | ⟨rfl, h⟩ <;> rcases h' with ⟨p', e', hp', hs', rfl⟩ | ⟨rfl, h'⟩
  · obtain rfl : p = p' := by omega
    rfl
  · exact (h' p e hp hs).elim
  · exact (h p' e' hp' hs').elim
  · rfl
/- a rune that is told, or nothing, as numbers -/
def Told (o : Option Rec) (r a z : Nat) (b : Bool) : Prop := (∃ x, o = some x ∧ r = x.1 ∧ a = x.2.1 ∧ z = x.2.2 ∧ b = true) ∨ (o = none ∧ r = 0 ∧ a = 0 ∧ z = 0 ∧ b = false)
theorem told_some (o : Option Rec) : ∃ r a z b, Told o r a z b := by
  cases o with
  | none => exact ⟨0, 0, 0, false, .inr ⟨rfl, rfl, rfl, rfl, rfl⟩⟩
  | some x => exact ⟨_, _, _, true, .inl ⟨x, rfl, rfl, rfl, rfl, rfl⟩⟩
def BeginsT (s : ByteArray) (x : Int) (r a z : Nat) (b : Bool) : Prop := ∃ o, Begins s x o ∧ Told o r a z b
def EndsT (s : ByteArray) (x : Int) (r a z : Nat) (b : Bool) : Prop := ∃ o, Ends s x o ∧ Told o r a z b
theorem beginsT_some (s : ByteArray) (x : Int) : ∃ r a z b, BeginsT s x r a z b := by
  obtain ⟨o, h⟩ := begins_some s x
  obtain ⟨r, a, z, b, k⟩ := told_some o
  exact ⟨r, a, z, b, o, h, k⟩
theorem beginsT_yes {s : ByteArray} {x : Int} {r a z : Nat} {b : Bool} (h : BeginsT s x r a z b) {p : Nat} (hx : x = p) (hr : Reach s p) (hp : p < s.size) : r = dR s p ∧ a = p ∧ z = dW s p ∧ b = true := by
  obtain ⟨o, h1, h2⟩ := h
  have := begins_fun h1 (.inl ⟨p, hx, hr, hp, rfl⟩)
  subst this
  rcases h2 with ⟨x, e, rfl, rfl, rfl, rfl⟩ | ⟨e, _⟩
  · cases e; exact ⟨rfl, rfl, rfl, rfl⟩
  · cases e
theorem beginsT_no {s : ByteArray} {x : Int} {r a z : Nat} {b : Bool} (h : BeginsT s x r a z b) (hn : ∀ p : Nat, x = p → Reach s p → p < s.size → False) : r = 0 ∧ a = 0 ∧ z = 0 ∧ b = false := by
  obtain ⟨o, h1, h2⟩ := h
  have := begins_fun h1 (.inr ⟨rfl, hn⟩)
  subst this
  rcases h2 with ⟨x, e, _⟩ | ⟨_, rfl, rfl, rfl, rfl⟩
  · cases e
  · exact ⟨rfl, rfl, rfl, rfl⟩
/- is there a place? -/
def Placed (s : ByteArray) (x : Int) (b : Bool) : Prop := b = true ↔ ∃ q : Nat, x = q ∧ Reach s q
theorem placed_some (s : ByteArray) (x : Int) : ∃ b, Placed s x b := by
  by_cases h : ∃ q : Nat, x = q ∧ Reach s q
  · exact ⟨true, by simp [Placed, h]⟩
  · exact ⟨false, by simp only [Placed, h]; simp⟩
theorem placed_out {s : ByteArray} {x : Int} {b : Bool} (h : Placed s x b) (hx : x < 0 ∨ s.size < x) : b = false := by
  cases b with
  | false => rfl
  | true =>
    obtain ⟨q, rfl, hq⟩ := h.1 rfl
    have := reach_le hq
    omega
theorem placed_no {s : ByteArray} {q : Nat} {b : Bool} (h : Placed s q b) {p : Nat} (hp : p < q) (hw : q < p + dW s p) (hq : q ≤ s.size) : b = false := by
  cases b with
  | false => rfl
  | true =>
    obtain ⟨q', e, hr⟩ := h.1 rfl
    obtain rfl : q = q' := by omega
    have hps : p < s.size := by omega
    have := (dW_le s p hps).1
    have := (reach_iff s q hq).1 hr p hp (by omega)
    omega
theorem placed_yes {s : ByteArray} {q : Nat} {b : Bool} (h : Placed s q b) (hq : q ≤ s.size) (ha : ∀ p, p < q → q ≤ p + 3 → p + dW s p ≤ q) : b = true := h.2 ⟨q, rfl, (reach_iff s q hq).2 ha⟩
theorem placed_not {s : ByteArray} {q : Nat} (h : Placed s q false) : ¬ Reach s q := fun hr => by have := h.2 ⟨q, rfl, hr⟩; cases this
/- how a rune is put -/
theorem valid_of {r : Int} (h : rightB r = true) : Utf8.valid r = true := by
  rw [right_iff] at h
  simp [Utf8.valid]; omega
theorem valid_not {r : Int} (h : rightB r = false) : Utf8.valid r = false := by
  rw [Bool.eq_false_iff] at h ⊢
  intro k
  apply h
  rw [right_iff]
  simp [Utf8.valid] at k; omega
theorem enc1 {r : Int} (h : rightB r = true) (h0 : 0 ≤ r) (h1 : r < 128) : Utf8.encode r = ⟨#[UInt8.ofNat r.toNat]⟩ := by
  have a : r.toNat < 128 := by omega
  unfold Utf8.encode
  simp only [valid_of h, if_true, a]
theorem enc2 {r : Int} (h : rightB r = true) (h0 : 128 ≤ r) (h1 : r < 2048) : Utf8.encode r = ⟨#[UInt8.ofNat (192 + r / 64).toNat, UInt8.ofNat (128 + r % 64).toNat]⟩ := by
  have a : ¬ r.toNat < 128 := by omega
  have b : r.toNat < 2048 := by omega
  unfold Utf8.encode
  simp only [valid_of h, if_true, a, b, if_false]
  rw [show (192 + r / 64).toNat = 0xC0 + r.toNat / 64 by omega, show (128 + r % 64).toNat = 0x80 + r.toNat % 64 by omega]
theorem enc3 {r : Int} (h : rightB r = true) (h0 : 2048 ≤ r) (h1 : r < 65536) : Utf8.encode r = ⟨#[UInt8.ofNat (224 + r / 4096).toNat, UInt8.ofNat (128 + r / 64 % 64).toNat, UInt8.ofNat (128 + r % 64).toNat]⟩ := by
  have a : ¬ r.toNat < 128 := by omega
  have b : ¬ r.toNat < 2048 := by omega
  have c : r.toNat < 65536 := by omega
  unfold Utf8.encode
  simp only [valid_of h, if_true, a, b, c, if_false]
  rw [show (224 + r / 4096).toNat = 0xE0 + r.toNat / 4096 by omega, show (128 + r / 64 % 64).toNat = 0x80 + r.toNat / 64 % 64 by omega, show (128 + r % 64).toNat = 0x80 + r.toNat % 64 by omega]
theorem enc4 {r : Int} (h : rightB r = true) (h0 : 65536 ≤ r) : Utf8.encode r = ⟨#[UInt8.ofNat (240 + r / 262144).toNat, UInt8.ofNat (128 + r / 4096 % 64).toNat, UInt8.ofNat (128 + r / 64 % 64).toNat, UInt8.ofNat (128 + r % 64).toNat]⟩ := by
  have a : ¬ r.toNat < 128 := by omega
  have b : ¬ r.toNat < 2048 := by omega
  have c : ¬ r.toNat < 65536 := by omega
  unfold Utf8.encode
  simp only [valid_of h, if_true, a, b, c, if_false]
  rw [show (240 + r / 262144).toNat = 0xF0 + r.toNat / 262144 by omega, show (128 + r / 4096 % 64).toNat = 0x80 + r.toNat / 4096 % 64 by omega, show (128 + r / 64 % 64).toNat = 0x80 + r.toNat / 64 % 64 by omega, show (128 + r % 64).toNat = 0x80 + r.toNat % 64 by omega]
theorem enc_bad {r : Int} (h : rightB r = false) : Utf8.encode r = ⟨#[239, 191, 189]⟩ := by
  unfold Utf8.encode
  simp only [valid_not h, Bool.false_eq_true, if_false]
  decide +kernel
/- from q back to the rune that ends there -/
end Go.Proofs.YtdoapojmenojoaaGreatDoor.Rn
end

section
/- Plain facts about runes: a text cut at a place. -/
set_option linter.unusedVariables false
namespace Go.Proofs.YtdoapojmenojoaaGreatDoor.Rn

/- cut at the j-th rune's beginning -/
end Go.Proofs.YtdoapojmenojoaaGreatDoor.Rn
end

section
/- Plain facts about runes: what was put is told again. -/
set_option linter.unusedVariables false
namespace Go.Proofs.YtdoapojmenojoaaGreatDoor.Rn
open Go.Lib

theorem at8_app {s : ByteArray} {X T : List UInt8} (hs : s.data.toList = X ++ T) (i : Nat) (h : i < T.length) : at8 s (X.length + i) = T[i].toNat := by
  unfold at8
  rw [hs, List.getD, List.getElem?_append_right (by omega), Nat.add_sub_cancel_left, List.getElem?_eq_getElem h]; rfl
theorem size_app {s : ByteArray} {l : List UInt8} (hs : s.data.toList = l) : s.size = l.length := by rw [← hs, len_eq]
theorem dec_enc {s : ByteArray} {X E Y : List UInt8} {r : Int} (hr : rightB r = true) (hE : (Utf8.encode r).data.toList = E) (hs : s.data.toList = X ++ (E ++ Y)) : (dR s X.length : Int) = r ∧ dW s X.length = E.length ∧ 1 ≤ E.length ∧ E.length ≤ 4 := by
  have hb := (right_iff r).1 hr
  have hz : s.size = X.length + (E.length + Y.length) := by rw [size_app hs]; simp
  have hd := dec_eq s X.length
  have fin : ∀ {n z : Nat}, decodeN (s.size - X.length) (at8 s X.length) (at8 s (X.length + 1)) (at8 s (X.length + 2)) (at8 s (X.length + 3)) = (n, z) → dR s X.length = n ∧ dW s X.length = z := fun h => by
    rw [h] at hd
    exact ⟨congrArg Prod.fst hd, congrArg Prod.snd hd⟩
  rcases (show (0 ≤ r ∧ r < 128) ∨ (128 ≤ r ∧ r < 2048) ∨ (2048 ≤ r ∧ r < 65536) ∨ (65536 ≤ r ∧ r < 1114112) by omega) with ⟨h0, h1⟩ | ⟨h0, h1⟩ | ⟨h0, h1⟩ | ⟨h0, h1⟩
  · rw [enc1 hr h0 h1] at hE
    subst hE
    have e0 := at8_app hs 0 (by simp)
    simp at e0
    obtain ⟨a, b⟩ := fin (n := r.toNat) (z := 1) (by
      unfold decodeN
      rw [if_pos (by omega)]
      simp only [Prod.mk.injEq, and_true]; omega)
    rw [a, b]
    exact ⟨by omega, rfl, by simp, by simp⟩
  · rw [enc2 hr h0 h1] at hE
    subst hE
    have e0 := at8_app hs 0 (by simp)
    have e1 := at8_app hs 1 (by simp)
    simp at e0 e1 hz
    obtain ⟨a, b⟩ := fin (n := r.toNat) (z := 2) (by
      unfold decodeN
      rw [if_neg (by omega), if_pos (by omega), if_pos (by omega)]
      simp only [Prod.mk.injEq, and_true]; omega)
    rw [a, b]
    exact ⟨by omega, rfl, by simp, by simp⟩
  · rw [enc3 hr h0 h1] at hE
    subst hE
    have e0 := at8_app hs 0 (by simp)
    have e1 := at8_app hs 1 (by simp)
    have e2 := at8_app hs 2 (by simp)
    simp at e0 e1 e2 hz
    obtain ⟨a, b⟩ := fin (n := r.toNat) (z := 3) (by
      unfold decodeN
      rw [if_neg (by omega), if_neg (by omega), if_pos (by omega), if_pos (by omega)]
      simp only [Prod.mk.injEq, and_true]; omega)
    rw [a, b]
    exact ⟨by omega, rfl, by simp, by simp⟩
  · rw [enc4 hr h0] at hE
    subst hE
    have e0 := at8_app hs 0 (by simp)
    have e1 := at8_app hs 1 (by simp)
    have e2 := at8_app hs 2 (by simp)
    have e3 := at8_app hs 3 (by simp)
    simp at e0 e1 e2 e3 hz
    obtain ⟨a, b⟩ := fin (n := r.toNat) (z := 4) (by
      unfold decodeN
      rw [if_neg (by omega), if_neg (by omega), if_neg (by omega), if_pos (by omega), if_pos (by omega)]
      simp only [Prod.mk.injEq, and_true]; omega)
    rw [a, b]
    exact ⟨by omega, rfl, by simp, by simp⟩
/- runes put one behind the other -/
def cat (ws : List Int) : List UInt8 := ws.flatMap fun r => (Utf8.encode r).data.toList
def Rights (ws : List Int) : Prop := ∀ (i : Nat) (r : Int), ws[i]? = some r → rightB r = true
theorem cat_app (a b : List Int) : cat (a ++ b) = cat a ++ cat b := by simp [cat]
theorem cat_at {ws : List Int} {i : Nat} {r : Int} (h : ws[i]? = some r) : cat ws = cat (ws.take i) ++ ((Utf8.encode r).data.toList ++ cat (ws.drop (i + 1))) := by
  have e : ws = ws.take i ++ (r :: ws.drop (i + 1)) := by
    have hi := (List.getElem?_eq_some_iff.1 h).1
    have hv := (List.getElem?_eq_some_iff.1 h).2
    rw [← hv, List.getElem_cons_drop, List.take_append_drop]
  have e2 : cat (r :: ws.drop (i + 1)) = (Utf8.encode r).data.toList ++ cat (ws.drop (i + 1)) := rfl
  conv => lhs; rw [e]
  rw [cat_app, e2]
theorem cat_take {ws : List Int} {i : Nat} {r : Int} (h : ws[i]? = some r) : (cat (ws.take (i + 1))).length = (cat (ws.take i)).length + (Utf8.encode r).data.toList.length := by
  have hi := (List.getElem?_eq_some_iff.1 h).1
  have hv := (List.getElem?_eq_some_iff.1 h).2
  rw [List.take_succ_eq_append_getElem hi, cat_app, List.length_append, hv]
  simp [cat]
theorem back {s : ByteArray} {ws : List Int} (hr : Rights ws) (hs : s.data.toList = cat ws) :
    (∀ i, i ≤ ws.length → pos s i = (cat (ws.take i)).length) ∧ (∀ i r, ws[i]? = some r → (dR s (pos s i) : Int) = r ∧ dW s (pos s i) = (Utf8.encode r).size) ∧ cnt s = ws.length := by
  have step : ∀ i r, ws[i]? = some r → (dR s (cat (ws.take i)).length : Int) = r ∧ dW s (cat (ws.take i)).length = (Utf8.encode r).size ∧ (cat (ws.take i)).length < s.size ∧ (cat (ws.take (i + 1))).length = (cat (ws.take i)).length + (Utf8.encode r).size := fun i r h => by
    have e := cat_at h
    obtain ⟨a, b, c, d⟩ := dec_enc (hr i r h) rfl (hs.trans e)
    have hz := size_app (hs.trans e)
    rw [List.length_append, List.length_append] at hz
    refine ⟨a, by rw [b, len_eq], by omega, by rw [cat_take h, len_eq]⟩
  have hp : ∀ i, i ≤ ws.length → pos s i = (cat (ws.take i)).length := by
    intro i
    induction i with
    | zero => intro _; simp [cat, pos]
    | succ i ih =>
      intro hi
      have h : ws[i]? = some ws[i] := List.getElem?_eq_getElem (by omega)
      obtain ⟨a, b, c, d⟩ := step i _ h
      have e := ih (by omega)
      rw [pos_succ s i (by rw [e]; exact c), e, b, d]
  refine ⟨hp, fun i r h => ?_, ?_⟩
  · have hi := (List.getElem?_eq_some_iff.1 h).1
    obtain ⟨a, b, _⟩ := step i r h
    rw [hp i (by omega)]
    exact ⟨a, b⟩
  · have h1 : ¬ ws.length < cnt s := fun h => by
      have := (cnt_lt _ _).1 h
      rw [hp _ (Nat.le_refl _), List.take_length, size_app hs] at this
      omega
    have h2 : ∀ i, i < ws.length → i < cnt s := fun i hi => (cnt_lt _ i).2 (by
      have h : ws[i]? = some ws[i] := List.getElem?_eq_getElem (by omega)
      rw [hp i (by omega)]
      exact (step i _ h).2.2.1)
    by_cases h3 : cnt s < ws.length
    · exact absurd (h2 _ h3) (Nat.lt_irrefl _)
    · omega
end Go.Proofs.YtdoapojmenojoaaGreatDoor.Rn
end

section
/- Plain facts about runes: what the document's own answer reckons of a first rune. -/
set_option linter.unusedVariables false
namespace Go.Proofs.YtdoapojmenojoaaGreatDoor.Rn
open Go.Lib

def b8 (s : ByteArray) (i : Nat) : UInt8 := UInt8.ofNat (at8 s i)
theorem at8_get (s : ByteArray) (i : Nat) (h : i < s.size) : s[i] = b8 s i := by
  have h' : i < s.data.toList.length := by rw [len_eq]; exact h
  have : s.data.toList.getD i 0 = s[i] := by
    rw [List.getD, List.getElem?_eq_getElem h']; rfl
  unfold b8 at8
  rw [this]; simp
theorem ext_eq (s : ByteArray) (k : Nat) (hk : k ≤ s.size) : s.extract 0 k = ⟨((List.range k).map (b8 s)).toArray⟩ := by
  apply ByteArray.ext
  apply Array.ext
  · have := size_ext s 0 k (by omega) hk
    have e : (s.extract 0 k).data.size = (s.extract 0 k).size := rfl
    rw [e, this]; simp
  · intro i h1 h2
    have hi : i < k := by simpa using h2
    have h3 : (s.extract 0 k).data[i] = s[i]'(by omega) := by simp [ByteArray.data_extract]; rfl
    rw [h3, at8_get s i (by omega)]
    simp
theorem ext1 (s : ByteArray) (h : 1 ≤ s.size) : s.extract 0 1 = ⟨#[b8 s 0]⟩ := by rw [ext_eq s 1 h]; rfl
theorem ext2 (s : ByteArray) (h : 2 ≤ s.size) : s.extract 0 2 = ⟨#[b8 s 0, b8 s 1]⟩ := by rw [ext_eq s 2 h]; rfl
theorem ext3 (s : ByteArray) (h : 3 ≤ s.size) : s.extract 0 3 = ⟨#[b8 s 0, b8 s 1, b8 s 2]⟩ := by rw [ext_eq s 3 h]; rfl
theorem ext4 (s : ByteArray) (h : 4 ≤ s.size) : s.extract 0 4 = ⟨#[b8 s 0, b8 s 1, b8 s 2, b8 s 3]⟩ := by rw [ext_eq s 4 h]; rfl
theorem u8_of {x y : Nat} (hx : x < 256) (hy : y < 256) : UInt8.ofNat x = UInt8.ofNat y ↔ x = y := by
  constructor
  · intro h
    have := congrArg UInt8.toNat h
    simp at this; omega
  · rintro rfl; rfl
theorem b8_of {s : ByteArray} {i : Nat} {x : Nat} (hx : x < 256) : UInt8.ofNat x = b8 s i ↔ x = at8 s i := u8_of hx (at8_lt s i)

/- as the document's own answer reckons it -/
def acc (s : ByteArray) (m : Nat) : Nat → Nat
  | 0 => at8 s 0 % m
  | k + 1 => acc s m k * 64 + at8 s (k + 1) % 64
/- the size z that the first byte tells, and the lead's part m -/
def Lead (s : ByteArray) (z m : Nat) : Prop := (z = 4 ∧ m = 8 ∧ 240 ≤ at8 s 0) ∨ (z = 3 ∧ m = 16 ∧ 224 ≤ at8 s 0 ∧ at8 s 0 < 240) ∨ (z = 2 ∧ m = 32 ∧ 192 ≤ at8 s 0 ∧ at8 s 0 < 224) ∨ (z = 1 ∧ m = 256 ∧ at8 s 0 < 192)
end Go.Proofs.YtdoapojmenojoaaGreatDoor.Rn
end

section
/- A rune that was decoded is put as the bytes that it stood in. -/
set_option linter.unusedVariables false
namespace Go.Proofs.YtdoapojmenojoaaGreatDoor

theorem ext_ext (s : ByteArray) (p d : Nat) (h : p + d ≤ s.size) : (s.extract p s.size).extract 0 d = s.extract p (p + d) := by
  apply ByteArray.ext
  simp only [ByteArray.data_extract]
  rw [Array.extract_extract]
  congr 1
  have : s.data.size = s.size := rfl
  omega
theorem enc_dec0 (s : ByteArray) (hp : 0 < s.size) (h : ¬ (Rn.dR s 0 = 65533 ∧ Rn.dW s 0 = 1)) : Utf8.encode (Rn.dR s 0 : Nat) = s.extract 0 (Rn.dW s 0) := by
  have hr := (Rn.dR_right s 0 hp).2
  have h0 := Rn.at8_lt s 0
  have h1 := Rn.at8_lt s 1
  have h2 := Rn.at8_lt s 2
  have h3 := Rn.at8_lt s 3
  rcases Rn.shape s 0 hp with ⟨c, e, f⟩ | ⟨c, c1, c2, e, f, g⟩ | ⟨c, c1, c2, c3, e, f, g, g'⟩ | ⟨c, c1, c2, c3, c4, e, f, g, g'⟩ | ⟨_, e, f⟩
  · rw [f, Rn.enc1 hr (by omega) (by omega), Rn.ext1 s (by omega), e]
    simp only [ByteArray.mk.injEq, Array.mk.injEq, List.cons.injEq, and_true]
    rw [Rn.b8_of (by omega)]; omega
  · simp only [Nat.zero_add] at c2 e c1
    rw [f, Rn.enc2 hr (by omega) (by omega), Rn.ext2 s (by omega)]
    simp only [ByteArray.mk.injEq, Array.mk.injEq, List.cons.injEq, and_true]
    rw [Rn.b8_of (by omega), Rn.b8_of (by omega)]; omega
  · simp only [Nat.zero_add] at c2 c3 e c1
    rw [f, Rn.enc3 hr (by omega) (by omega), Rn.ext3 s (by omega)]
    simp only [ByteArray.mk.injEq, Array.mk.injEq, List.cons.injEq, and_true]
    rw [Rn.b8_of (by omega), Rn.b8_of (by omega), Rn.b8_of (by omega)]; omega
  · simp only [Nat.zero_add] at c2 c3 c4 e c1
    rw [f, Rn.enc4 hr (by omega), Rn.ext4 s (by omega)]
    simp only [ByteArray.mk.injEq, Array.mk.injEq, List.cons.injEq, and_true]
    rw [Rn.b8_of (by omega), Rn.b8_of (by omega), Rn.b8_of (by omega), Rn.b8_of (by omega)]; omega
  · exact absurd ⟨e, f⟩ h
theorem enc_dec (s : ByteArray) (p : Nat) (hp : p < s.size) (h : ¬ (Rn.dR s p = 65533 ∧ Rn.dW s p = 1)) : Utf8.encode (Rn.dR s p : Nat) = s.extract p (p + Rn.dW s p) := by
  have hz := Rn.size_ext s p s.size (by omega) (Nat.le_refl _)
  have hd := Rn.dec_tail s p 0 (by omega)
  have h1 : Rn.dR (s.extract p s.size) 0 = Rn.dR s p := congrArg Prod.fst hd
  have h2 : Rn.dW (s.extract p s.size) 0 = Rn.dW s p := congrArg Prod.snd hd
  have := enc_dec0 (s.extract p s.size) (by omega) (by rw [h1, h2]; exact h)
  rw [h1, h2, ext_ext s p _ (Rn.dW_le s p hp).2] at this
  exact this
end Go.Proofs.YtdoapojmenojoaaGreatDoor
end
