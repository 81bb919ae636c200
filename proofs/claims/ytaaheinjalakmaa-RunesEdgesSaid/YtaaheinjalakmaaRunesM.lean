/- Plain facts about runes, on strings of bytes: where they stand, what is told there. -/
import Derived.Lib.MapLaws
import Derived.Lib.QuoteLoop
set_option linter.unusedVariables false
namespace Go.Proofs.Ytaaheinjalakmaa.Rn
open Go.Lib

/- the rune that is told at p, and how many bytes it has there -/
def dR (s : ByteArray) (p : Nat) : Nat := (Utf8.decode s p).1
def dW (s : ByteArray) (p : Nat) : Nat := (Utf8.decode s p).2
def at8 (s : ByteArray) (p : Nat) : Nat := (s.data.toList.getD p 0).toNat
def rightB (r : Int) : Bool := (0 ≤ r && r < 55296) || (57343 < r && r ≤ 1114111)
def wordB (r : Int) : Bool := (48 ≤ r && r ≤ 57) || (65 ≤ r && r ≤ 90) || (97 ≤ r && r ≤ 122) || r == 95
theorem right_iff (r : Int) : rightB r = true ↔ (0 ≤ r ∧ r < 55296) ∨ (57343 < r ∧ r ≤ 1114111) := by simp [rightB]
theorem word_iff (r : Int) : wordB r = true ↔ (48 ≤ r ∧ r ≤ 57) ∨ (65 ≤ r ∧ r ≤ 90) ∨ (97 ≤ r ∧ r ≤ 122) ∨ r = 95 := by simp [wordB, or_assoc]

theorem len_eq (s : ByteArray) : s.data.toList.length = s.size := by rw [Array.length_toList]; rfl
theorem at8_lt (s : ByteArray) (p : Nat) : at8 s p < 256 := UInt8.toNat_lt _
theorem dec_eq (s : ByteArray) (p : Nat) : Utf8.decode s p = decodeN (s.size - p) (at8 s p) (at8 s (p + 1)) (at8 s (p + 2)) (at8 s (p + 3)) := by
  rw [decode_N, len_eq]; rfl
theorem dec_pair (s : ByteArray) (p : Nat) : Utf8.decode s p = (dR s p, dW s p) := rfl

/- all that is known of one decoding -/
theorem shape (s : ByteArray) (p : Nat) (hp : p < s.size) :
    (at8 s p < 128 ∧ dR s p = at8 s p ∧ dW s p = 1) ∨
    (at8 s p / 32 = 6 ∧ p + 1 < s.size ∧ at8 s (p + 1) / 64 = 2 ∧ dR s p = at8 s p % 32 * 64 + at8 s (p + 1) % 64 ∧ dW s p = 2 ∧ 128 ≤ dR s p) ∨
    (at8 s p / 16 = 14 ∧ p + 2 < s.size ∧ at8 s (p + 1) / 64 = 2 ∧ at8 s (p + 2) / 64 = 2 ∧ dR s p = at8 s p % 16 * 4096 + at8 s (p + 1) % 64 * 64 + at8 s (p + 2) % 64 ∧ dW s p = 3 ∧ 2048 ≤ dR s p ∧ (dR s p < 55296 ∨ 57344 ≤ dR s p)) ∨
    (at8 s p / 8 = 30 ∧ p + 3 < s.size ∧ at8 s (p + 1) / 64 = 2 ∧ at8 s (p + 2) / 64 = 2 ∧ at8 s (p + 3) / 64 = 2 ∧ dR s p = at8 s p % 8 * 262144 + at8 s (p + 1) % 64 * 4096 + at8 s (p + 2) % 64 * 64 + at8 s (p + 3) % 64 ∧ dW s p = 4 ∧ 65536 ≤ dR s p ∧ dR s p ≤ 1114111) ∨
    (128 ≤ at8 s p ∧ dR s p = 65533 ∧ dW s p = 1) := by
  have h := dec_eq s p
  by_cases h0 : at8 s p < 128
  · left
    have : decodeN (s.size - p) (at8 s p) (at8 s (p + 1)) (at8 s (p + 2)) (at8 s (p + 3)) = (at8 s p, 1) := by unfold decodeN; rw [if_pos h0]
    rw [this] at h
    exact ⟨h0, congrArg Prod.fst h, congrArg Prod.snd h⟩
  · right
    rcases decodeN_shape (s.size - p) (at8 s p) (at8 s (p + 1)) (at8 s (p + 2)) (at8 s (p + 3)) with ⟨c, e⟩ | ⟨c1, c2, c3, cv, e⟩ | ⟨c1, c2, c3, c4, cv, cs, e⟩ | ⟨c1, c2, c3, c4, c5, cv, cw, e⟩ | e
    · omega
    all_goals
      rw [e] at h
      have h1 : dR s p = _ := congrArg Prod.fst h
      have h2 : dW s p = _ := congrArg Prod.snd h
      dsimp only at h1 h2
      clear h e
    · left; exact ⟨c1, by omega, c3, h1, h2, by omega⟩
    · right; left; exact ⟨c1, by omega, c3, c4, h1, h2, by omega, by omega⟩
    · right; right; left; exact ⟨c1, by omega, c3, c4, c5, h1, h2, by omega, by omega⟩
    · right; right; right; exact ⟨by omega, h1, h2⟩

theorem dW_pos (s : ByteArray) (p : Nat) : 1 ≤ dW s p := width_pos s p
theorem dW_le (s : ByteArray) (p : Nat) (hp : p < s.size) : dW s p ≤ 4 ∧ p + dW s p ≤ s.size := by
  rcases shape s p hp with h | h | h | h | h <;> omega
theorem dR_right (s : ByteArray) (p : Nat) (hp : p < s.size) : (dR s p : Int) ≤ 1114111 ∧ rightB (dR s p) = true := by
  have := at8_lt s p
  rw [right_iff]
  rcases shape s p hp with h | h | h | h | h <;> omega
theorem cont (s : ByteArray) (p i : Nat) (hp : p < s.size) (h0 : 0 < i) (hi : i < dW s p) : 192 ≤ at8 s p ∧ 128 ≤ at8 s (p + i) ∧ at8 s (p + i) < 192 := by
  rcases shape s p hp with h | h | h | h | h
  · omega
  · obtain rfl : i = 1 := by omega
    omega
  · rcases (show i = 1 ∨ i = 2 by omega) with rfl | rfl <;> omega
  · rcases (show i = 1 ∨ i = 2 ∨ i = 3 by omega) with rfl | rfl | rfl <;> omega
  · omega

/- what is cut off behind a rune's bytes is not asked -/
theorem dN_cut (n m b0 b1 b2 b3 c1 c2 c3 : Nat) (h1 : 1 ≤ n) (hnm : n ≤ m) (e1 : 1 < n → b1 = c1) (e2 : 2 < n → b2 = c2) (e3 : 3 < n → b3 = c3) (hw : (decodeN m b0 c1 c2 c3).2 ≤ n) :
    decodeN n b0 b1 b2 b3 = decodeN m b0 c1 c2 c3 := by
  by_cases h4 : 3 < n
  · rw [e1 (by omega), e2 (by omega), e3 h4]
    unfold decodeN
    simp only [show 1 < n by omega, show 2 < n by omega, h4, show 1 < m by omega, show 2 < m by omega, show 3 < m by omega, true_and]
  by_cases h3 : 2 < n
  · obtain rfl : n = 3 := by omega
    obtain rfl := e1 (by omega)
    obtain rfl := e2 (by omega)
    unfold decodeN at *
    simp only [show 1 < m by omega, show 2 < m by omega, show (1 : Nat) < 3 by omega, show (2 : Nat) < 3 by omega, show ¬ (3 : Nat) < 3 by omega, true_and, false_and, and_false, if_false] at *
    repeat' split
    all_goals first | rfl | (exfalso; simp_all; done) | skip
    all_goals (simp_all <;> omega)
  by_cases h2 : 1 < n
  · obtain rfl : n = 2 := by omega
    obtain rfl := e1 (by omega)
    unfold decodeN at *
    simp only [show 1 < m by omega, show (1 : Nat) < 2 by omega, show ¬ (2 : Nat) < 2 by omega, show ¬ (3 : Nat) < 2 by omega, true_and, false_and, and_false, if_false] at *
    repeat' split
    all_goals first | rfl | (exfalso; simp_all; done) | skip
    all_goals (simp_all <;> omega)
  · obtain rfl : n = 1 := by omega
    unfold decodeN at *
    simp only [show ¬ (1 : Nat) < 1 by omega, show ¬ (2 : Nat) < 1 by omega, show ¬ (3 : Nat) < 1 by omega, false_and, and_false, if_false] at *
    repeat' split
    all_goals first | rfl | (exfalso; simp_all; done) | skip
    all_goals (simp_all <;> omega)

theorem dec_cut (s t : ByteArray) (p q : Nat) (hp : p < s.size) (hn : s.size - p ≤ t.size - q) (hb : ∀ i, i < 4 → p + i < s.size → at8 s (p + i) = at8 t (q + i)) (hw : dW t q ≤ s.size - p) : Utf8.decode s p = Utf8.decode t q := by
  have hw' : (Utf8.decode t q).2 ≤ s.size - p := hw
  rw [dec_eq] at hw'
  rw [dec_eq, dec_eq, show at8 s p = at8 t q from hb 0 (by omega) hp]
  rw [show at8 t q = at8 t (q + 0) from rfl] at *
  exact dN_cut _ _ _ _ _ _ _ _ _ (by omega) hn (fun h => hb 1 (by omega) (by omega)) (fun h => hb 2 (by omega) (by omega)) (fun h => hb 3 (by omega) (by omega)) hw'

theorem size_ext (s : ByteArray) (i j : Nat) (hi : i ≤ j) (hj : j ≤ s.size) : (s.extract i j).size = j - i := by simp; omega
theorem at8_ext (s : ByteArray) (i j k : Nat) (hk : i + k < j) (hj : j ≤ s.size) : at8 (s.extract i j) k = at8 s (i + k) := by
  have h1 : k < (s.extract i j).data.toList.length := by rw [len_eq, size_ext s i j (by omega) hj]; omega
  have h2 : i + k < s.data.toList.length := by rw [len_eq]; omega
  have h3 : (s.extract i j).data.toList = (s.data.toList.take j).drop i := by simp [ByteArray.data_extract, List.take_drop]; rw [show i + (j - i) = j by omega]
  unfold at8
  rw [h3]
  simp only [List.getD, List.getElem?_drop, List.getElem?_take]
  rw [if_pos hk]
/- a window that holds the rune tells it -/
theorem dec_window (s : ByteArray) (p q j : Nat) (hp : p + q < j) (hj : j ≤ s.size) (hw : p + q + dW s (p + q) ≤ j) : Utf8.decode (s.extract p j) q = Utf8.decode s (p + q) := by
  refine dec_cut _ _ _ _ (by rw [size_ext s p j (by omega) hj]; omega) (by rw [size_ext s p j (by omega) hj]; omega) (fun i _ hi => ?_) (by rw [size_ext s p j (by omega) hj]; omega)
  rw [size_ext s p j (by omega) hj] at hi
  rw [at8_ext s p j _ (by omega) hj, Nat.add_assoc]
theorem dec_first (s : ByteArray) (p : Nat) (hp : p < s.size) : Utf8.decode (s.extract p (min (p + 4) s.size)) 0 = Utf8.decode s p := by
  have := dW_le s p hp
  exact dec_window s p 0 _ (by omega) (by omega) (by simp only [Nat.add_zero]; omega)
theorem dec_tail (s : ByteArray) (p q : Nat) (hp : p + q < s.size) : Utf8.decode (s.extract p s.size) q = Utf8.decode s (p + q) :=
  dec_window s p q _ hp (Nat.le_refl _) (dW_le s _ hp).2
theorem dec_head (s : ByteArray) (q j : Nat) (hq : q < j) (hj : j ≤ s.size) (hw : q + dW s q ≤ j) : Utf8.decode (s.extract 0 j) q = Utf8.decode s q := by
  have := dec_window s 0 q j (by omega) hj (by rw [Nat.zero_add]; exact hw)
  rwa [Nat.zero_add] at this

/- where the runes begin, one behind the other -/
def pos (s : ByteArray) : Nat → Nat
  | 0 => 0
  | k + 1 => if pos s k < s.size then pos s k + dW s (pos s k) else pos s k
theorem pos_le (s : ByteArray) : ∀ k, pos s k ≤ s.size
  | 0 => Nat.zero_le _
  | k + 1 => by
    have := pos_le s k
    unfold pos
    split
    · exact (dW_le s _ (by assumption)).2
    · exact this
theorem pos_succ (s : ByteArray) (k : Nat) (h : pos s k < s.size) : pos s (k + 1) = pos s k + dW s (pos s k) := by
  show (if pos s k < s.size then pos s k + dW s (pos s k) else pos s k) = _
  rw [if_pos h]
theorem pos_stay (s : ByteArray) (k : Nat) (h : ¬ pos s k < s.size) : pos s (k + 1) = pos s k := by
  show (if pos s k < s.size then pos s k + dW s (pos s k) else pos s k) = _
  rw [if_neg h]
theorem pos_mono1 (s : ByteArray) (k : Nat) : pos s k ≤ pos s (k + 1) := by
  by_cases h : pos s k < s.size
  · rw [pos_succ s k h]; omega
  · rw [pos_stay s k h]; omega
theorem pos_mono (s : ByteArray) (k : Nat) : ∀ j, pos s k ≤ pos s (k + j)
  | 0 => Nat.le_refl _
  | j + 1 => Nat.le_trans (pos_mono s k j) (pos_mono1 s (k + j))
theorem pos_ge (s : ByteArray) : ∀ k, k ≤ pos s k ∨ pos s k = s.size
  | 0 => .inl (Nat.zero_le _)
  | k + 1 => by
    have hl := pos_le s k
    by_cases h : pos s k < s.size
    · have := dW_pos s (pos s k)
      rw [pos_succ s k h]
      rcases pos_ge s k with h1 | h1 <;> omega
    · rw [pos_stay s k h]; omega
/- how many there are -/
def many (s : ByteArray) : Nat → Nat
  | 0 => 0
  | f + 1 => if pos s f < s.size then f + 1 else many s f
def cnt (s : ByteArray) : Nat := many s s.size
theorem many_spec (s : ByteArray) : ∀ f, many s f ≤ f ∧ (∀ k, k < many s f → pos s k < s.size) ∧ (∀ k, many s f ≤ k → k < f → pos s k = s.size)
  | 0 => ⟨Nat.le_refl _, fun k h => absurd h (Nat.not_lt_zero _), fun k _ h => absurd h (Nat.not_lt_zero _)⟩
  | f + 1 => by
    obtain ⟨h1, h2, h3⟩ := many_spec s f
    unfold many
    split
    · rename_i h
      refine ⟨Nat.le_refl _, fun k hk => ?_, fun k _ _ => by omega⟩
      have := pos_mono s k (f - k)
      rw [show k + (f - k) = f by omega] at this
      omega
    · rename_i h
      refine ⟨by omega, h2, fun k hk hf => ?_⟩
      by_cases e : k = f
      · have := pos_le s f; subst e; omega
      · exact h3 k hk (by omega)
theorem cnt_lt (s : ByteArray) (k : Nat) : k < cnt s ↔ pos s k < s.size := by
  obtain ⟨h1, h2, h3⟩ := many_spec s s.size
  refine ⟨h2 k, fun h => ?_⟩
  by_cases hk : k < cnt s
  · exact hk
  · exfalso
    by_cases hf : k < s.size
    · have := h3 k (by unfold cnt at hk; omega) hf; omega
    · rcases pos_ge s k with h | h <;> omega
theorem cnt_le (s : ByteArray) : cnt s ≤ s.size := (many_spec s s.size).1
theorem pos_cnt (s : ByteArray) : pos s (cnt s) = s.size := by
  have h : ¬ pos s (cnt s) < s.size := fun h0 => Nat.lt_irrefl _ ((cnt_lt s _).2 h0)
  have := pos_le s (cnt s)
  omega
theorem pos_end (s : ByteArray) (k : Nat) (h : cnt s ≤ k) : pos s k = s.size := by
  have h' : ¬ pos s k < s.size := fun h0 => absurd ((cnt_lt s k).2 h0) (by omega)
  have := pos_le s k
  omega

/- places: where a rune begins, or the end -/
def Reach (s : ByteArray) (p : Nat) : Prop := ∃ k, pos s k = p
theorem reach_zero (s : ByteArray) : Reach s 0 := ⟨0, rfl⟩
theorem reach_end (s : ByteArray) : Reach s s.size := ⟨_, pos_cnt s⟩
theorem reach_le {s : ByteArray} {p : Nat} (h : Reach s p) : p ≤ s.size := by obtain ⟨k, rfl⟩ := h; exact pos_le s k
theorem reach_next {s : ByteArray} {p : Nat} (h : Reach s p) (hp : p < s.size) : Reach s (p + dW s p) := by
  obtain ⟨k, rfl⟩ := h; exact ⟨k + 1, pos_succ s k hp⟩
theorem reach_order {s : ByteArray} {p q : Nat} (hp : Reach s p) (hq : Reach s q) (h : p < q) : p + dW s p ≤ q := by
  obtain ⟨k, rfl⟩ := hp
  obtain ⟨j, rfl⟩ := hq
  have hs : pos s k < s.size := by have := pos_le s j; omega
  rw [← pos_succ s k hs]
  have hkj : k + 1 ≤ j := by
    by_cases e : j ≤ k
    · have := pos_mono s j (k - j); rw [show j + (k - j) = k by omega] at this; omega
    · omega
  have := pos_mono s (k + 1) (j - (k + 1))
  rwa [show k + 1 + (j - (k + 1)) = j by omega] at this
theorem reach_last (s : ByteArray) (q : Nat) (hq : q ≤ s.size) : Reach s q ∨ ∃ p, Reach s p ∧ p < q ∧ q < p + dW s p := by
  have key : ∀ k, pos s k ≤ q → Reach s q ∨ (∃ p, Reach s p ∧ p < q ∧ q < p + dW s p) ∨ pos s (k + 1) ≤ q := by
    intro k hk
    by_cases e : pos s k = q
    · exact .inl ⟨k, e⟩
    · have hs : pos s k < s.size := by omega
      rw [pos_succ s k hs]
      by_cases h : q < pos s k + dW s (pos s k)
      · exact .inr (.inl ⟨pos s k, ⟨k, rfl⟩, by omega, h⟩)
      · exact .inr (.inr (by omega))
  have all : ∀ k, Reach s q ∨ (∃ p, Reach s p ∧ p < q ∧ q < p + dW s p) ∨ pos s k ≤ q := by
    intro k
    induction k with
    | zero => exact .inr (.inr (Nat.zero_le _))
    | succ k ih =>
      rcases ih with h | h | h
      · exact .inl h
      · exact .inr (.inl h)
      · exact key k h
  rcases all (cnt s) with h | h | h
  · exact .inl h
  · exact .inr h
  · rw [pos_cnt] at h
    exact .inl (by rw [show q = s.size by omega]; exact reach_end s)
/- a place is told by the few bytes about it -/
theorem reach_iff (s : ByteArray) (q : Nat) (hq : q ≤ s.size) : Reach s q ↔ ∀ p, p < q → q ≤ p + 3 → p + dW s p ≤ q := by
  constructor
  · intro h p hp _
    by_cases hw : q < p + dW s p
    · exfalso
      have hps : p < s.size := by omega
      rcases reach_last s p (by omega) with hr | ⟨o, ho, h1, h2⟩
      · have := reach_order hr h hp; omega
      · have hos : o < s.size := by omega
        have c := cont s o (p - o) hos (by omega) (by omega)
        rw [show o + (p - o) = p by omega] at c
        have d := cont s p (q - p) hps (by omega) (by omega)
        omega
    · omega
  · intro h
    rcases reach_last s q hq with hr | ⟨p, hp, h1, h2⟩
    · exact hr
    · exfalso
      have := (dW_le s p (by omega)).1
      have := h p h1 (by omega)
      omega

/- what is told of a place: a rune, where it begins, its bytes; or nothing -/
abbrev Rec := Nat × Nat × Nat
def recAt (s : ByteArray) (p : Nat) : Rec := (dR s p, p, dW s p)
def Begins (s : ByteArray) (at' : Int) (o : Option Rec) : Prop :=
  (∃ p : Nat, at' = p ∧ Reach s p ∧ p < s.size ∧ o = some (recAt s p)) ∨ (o = none ∧ ∀ p : Nat, at' = p → Reach s p → p < s.size → False)
def Ends (s : ByteArray) (at' : Int) (o : Option Rec) : Prop :=
  (∃ p : Nat, at' = p + dW s p ∧ Reach s p ∧ p < s.size ∧ o = some (recAt s p)) ∨ (o = none ∧ ∀ p : Nat, at' = p + dW s p → Reach s p → p < s.size → False)
theorem begins_some (s : ByteArray) (x : Int) : ∃ o, Begins s x o := by
  by_cases h : ∃ p : Nat, x = p ∧ Reach s p ∧ p < s.size
  · obtain ⟨p, a, b, c⟩ := h
    exact ⟨_, .inl ⟨p, a, b, c, rfl⟩⟩
  · exact ⟨none, .inr ⟨rfl, fun p a b c => h ⟨p, a, b, c⟩⟩⟩
theorem ends_some (s : ByteArray) (x : Int) : ∃ o, Ends s x o := by
  by_cases h : ∃ p : Nat, x = p + dW s p ∧ Reach s p ∧ p < s.size
  · obtain ⟨p, a, b, c⟩ := h
    exact ⟨_, .inl ⟨p, a, b, c, rfl⟩⟩
  · exact ⟨none, .inr ⟨rfl, fun p a b c => h ⟨p, a, b, c⟩⟩⟩
/- the runes of the text -/
def recN (s : ByteArray) (k : Nat) : Rec := recAt s (pos s k)
def pre (s : ByteArray) (k : Nat) : List Rec := (List.range k).map (recN s)
def all (s : ByteArray) : List Rec := pre s (cnt s)
theorem pre_succ (s : ByteArray) (k : Nat) : pre s (k + 1) = pre s k ++ [recN s k] := by simp [pre, List.range_succ]
theorem pre_len (s : ByteArray) (k : Nat) : (pre s k).length = k := by simp [pre]
theorem all_len (s : ByteArray) : (all s).length = cnt s := pre_len _ _
theorem pre_get (s : ByteArray) (k n : Nat) (h : k < n) : (pre s n)[k]? = some (recN s k) := by simp [pre, h]
theorem reach_pos (s : ByteArray) (k : Nat) : Reach s (pos s k) := ⟨k, rfl⟩
theorem pos_inj {s : ByteArray} {j k : Nat} (hj : j < cnt s) (hk : k ≤ cnt s) (h : pos s j = pos s k) : j = k := by
  have h1 := (cnt_lt s j).1 hj
  rcases Nat.lt_trichotomy j k with e | e | e
  · have a := pos_succ s j h1
    have b := pos_mono s (j + 1) (k - (j + 1))
    rw [show j + 1 + (k - (j + 1)) = k by omega] at b
    have := dW_pos s (pos s j)
    omega
  · exact e
  · have h2 : pos s k < s.size := by omega
    have a := pos_succ s k h2
    have b := pos_mono s (k + 1) (j - (k + 1))
    rw [show k + 1 + (j - (k + 1)) = j by omega] at b
    have := dW_pos s (pos s k)
    omega
/- found in the list from the front on -/
theorem begins_hit {s : ByteArray} {k : Nat} (hk : k < cnt s) : Begins s (pos s k) (some (recN s k)) := .inl ⟨_, rfl, ⟨k, rfl⟩, (cnt_lt s k).1 hk, rfl⟩
theorem begins_miss {s : ByteArray} {x : Int} (h : ∀ k, k < cnt s → x ≠ (pos s k : Int)) : Begins s x none :=
  .inr ⟨rfl, fun p hx hp hs => by
    obtain ⟨k, rfl⟩ := hp
    exact h k ((cnt_lt s k).2 hs) hx⟩
theorem ends_hit {s : ByteArray} {k : Nat} (hk : k < cnt s) : Ends s ((pos s k : Int) + (dW s (pos s k) : Int)) (some (recN s k)) := .inl ⟨_, rfl, ⟨k, rfl⟩, (cnt_lt s k).1 hk, rfl⟩
theorem ends_miss {s : ByteArray} {x : Int} (h : ∀ k, k < cnt s → x ≠ (pos s k : Int) + (dW s (pos s k) : Int)) : Ends s x none :=
  .inr ⟨rfl, fun p hx hp hs => by
    obtain ⟨k, rfl⟩ := hp
    exact h k ((cnt_lt s k).2 hs) hx⟩
theorem begins_fun {s : ByteArray} {x : Int} {o o' : Option Rec} (h : Begins s x o) (h' : Begins s x o') : o = o' := by
  rcases h with ⟨p, e, hp, hs, rfl⟩ | ⟨rfl, h⟩ <;> rcases h' with ⟨p', e', hp', hs', rfl⟩ | ⟨rfl, h'⟩
  · obtain rfl : p = p' := by omega
    rfl
  · exact (h' p e hp hs).elim
  · exact (h p' e' hp' hs').elim
  · rfl
theorem ends_one {s : ByteArray} {p q : Nat} (hp : Reach s p) (hq : Reach s q) (h1 : p < s.size) (h2 : q < s.size) (e : p + dW s p = q + dW s q) : p = q := by
  have := dW_pos s p
  have := dW_pos s q
  rcases Nat.lt_trichotomy p q with h | h | h
  · have := reach_order hp hq h; omega
  · exact h
  · have := reach_order hq hp h; omega
theorem ends_fun {s : ByteArray} {x : Int} {o o' : Option Rec} (h : Ends s x o) (h' : Ends s x o') : o = o' := by
  rcases h with ⟨p, e, hp, hs, rfl⟩ | ⟨rfl, h⟩ <;> rcases h' with ⟨p', e', hp', hs', rfl⟩ | ⟨rfl, h'⟩
  · obtain rfl : p = p' := ends_one hp hp' hs hs' (by omega)
    rfl
  · exact (h' p e hp hs).elim
  · exact (h p' e' hp' hs').elim
  · rfl
/- a rune that is told, or nothing, as numbers -/
def Told (o : Option Rec) (r a z : Nat) (b : Bool) : Prop := (∃ x, o = some x ∧ r = x.1 ∧ a = x.2.1 ∧ z = x.2.2 ∧ b = true) ∨ (o = none ∧ r = 0 ∧ a = 0 ∧ z = 0 ∧ b = false)
theorem told_some (o : Option Rec) : ∃ r a z b, Told o r a z b := by
  cases o with
  | none => exact ⟨0, 0, 0, false, .inr ⟨rfl, rfl, rfl, rfl, rfl⟩⟩
  | some x => exact ⟨_, _, _, true, .inl ⟨x, rfl, rfl, rfl, rfl, rfl⟩⟩
def BeginsT (s : ByteArray) (x : Int) (r a z : Nat) (b : Bool) : Prop := ∃ o, Begins s x o ∧ Told o r a z b
def EndsT (s : ByteArray) (x : Int) (r a z : Nat) (b : Bool) : Prop := ∃ o, Ends s x o ∧ Told o r a z b
theorem beginsT_some (s : ByteArray) (x : Int) : ∃ r a z b, BeginsT s x r a z b := by
  obtain ⟨o, h⟩ := begins_some s x
  obtain ⟨r, a, z, b, k⟩ := told_some o
  exact ⟨r, a, z, b, o, h, k⟩
theorem endsT_some (s : ByteArray) (x : Int) : ∃ r a z b, EndsT s x r a z b := by
  obtain ⟨o, h⟩ := ends_some s x
  obtain ⟨r, a, z, b, k⟩ := told_some o
  exact ⟨r, a, z, b, o, h, k⟩
theorem beginsT_yes {s : ByteArray} {x : Int} {r a z : Nat} {b : Bool} (h : BeginsT s x r a z b) {p : Nat} (hx : x = p) (hr : Reach s p) (hp : p < s.size) : r = dR s p ∧ a = p ∧ z = dW s p ∧ b = true := by
  obtain ⟨o, h1, h2⟩ := h
  have := begins_fun h1 (.inl ⟨p, hx, hr, hp, rfl⟩)
  subst this
  rcases h2 with ⟨x, e, rfl, rfl, rfl, rfl⟩ | ⟨e, _⟩
  · cases e; exact ⟨rfl, rfl, rfl, rfl⟩
  · cases e
theorem beginsT_no {s : ByteArray} {x : Int} {r a z : Nat} {b : Bool} (h : BeginsT s x r a z b) (hn : ∀ p : Nat, x = p → Reach s p → p < s.size → False) : r = 0 ∧ a = 0 ∧ z = 0 ∧ b = false := by
  obtain ⟨o, h1, h2⟩ := h
  have := begins_fun h1 (.inr ⟨rfl, hn⟩)
  subst this
  rcases h2 with ⟨x, e, _⟩ | ⟨_, rfl, rfl, rfl, rfl⟩
  · cases e
  · exact ⟨rfl, rfl, rfl, rfl⟩
theorem endsT_yes {s : ByteArray} {x : Int} {r a z : Nat} {b : Bool} (h : EndsT s x r a z b) {p : Nat} (hx : x = p + dW s p) (hr : Reach s p) (hp : p < s.size) : r = dR s p ∧ a = p ∧ z = dW s p ∧ b = true := by
  obtain ⟨o, h1, h2⟩ := h
  have := ends_fun h1 (.inl ⟨p, hx, hr, hp, rfl⟩)
  subst this
  rcases h2 with ⟨x, e, rfl, rfl, rfl, rfl⟩ | ⟨e, _⟩
  · cases e; exact ⟨rfl, rfl, rfl, rfl⟩
  · cases e
theorem endsT_no {s : ByteArray} {x : Int} {r a z : Nat} {b : Bool} (h : EndsT s x r a z b) (hn : ∀ p : Nat, x = p + dW s p → Reach s p → p < s.size → False) : r = 0 ∧ a = 0 ∧ z = 0 ∧ b = false := by
  obtain ⟨o, h1, h2⟩ := h
  have := ends_fun h1 (.inr ⟨rfl, hn⟩)
  subst this
  rcases h2 with ⟨x, e, _⟩ | ⟨_, rfl, rfl, rfl, rfl⟩
  · cases e
  · exact ⟨rfl, rfl, rfl, rfl⟩
theorem beginsT_rune {s : ByteArray} {x : Int} {r a z : Nat} {b : Bool} (h : BeginsT s x r a z b) : r ≤ 1114111 := by
  obtain ⟨o, h1, h2⟩ := h
  rcases h1 with ⟨p, _, _, hp, rfl⟩ | ⟨rfl, _⟩ <;> rcases h2 with ⟨x, e, rfl, _⟩ | ⟨e, rfl, _⟩
  · cases e; have := (dR_right s p hp).1; simp only [recAt]; omega
  · omega
  · cases e
  · omega
theorem endsT_rune {s : ByteArray} {x : Int} {r a z : Nat} {b : Bool} (h : EndsT s x r a z b) : r ≤ 1114111 := by
  obtain ⟨o, h1, h2⟩ := h
  rcases h1 with ⟨p, _, _, hp, rfl⟩ | ⟨rfl, _⟩ <;> rcases h2 with ⟨x, e, rfl, _⟩ | ⟨e, rfl, _⟩
  · cases e; have := (dR_right s p hp).1; simp only [recAt]; omega
  · omega
  · cases e
  · omega
/- is there a place? -/
def Placed (s : ByteArray) (x : Int) (b : Bool) : Prop := b = true ↔ ∃ q : Nat, x = q ∧ Reach s q
theorem placed_some (s : ByteArray) (x : Int) : ∃ b, Placed s x b := by
  by_cases h : ∃ q : Nat, x = q ∧ Reach s q
  · exact ⟨true, by simp [Placed, h]⟩
  · exact ⟨false, by simp only [Placed, h]; simp⟩
theorem placed_out {s : ByteArray} {x : Int} {b : Bool} (h : Placed s x b) (hx : x < 0 ∨ s.size < x) : b = false := by
  cases b with
  | false => rfl
  | true =>
    obtain ⟨q, rfl, hq⟩ := h.1 rfl
    have := reach_le hq
    omega
theorem placed_no {s : ByteArray} {q : Nat} {b : Bool} (h : Placed s q b) {p : Nat} (hp : p < q) (hw : q < p + dW s p) (hq : q ≤ s.size) : b = false := by
  cases b with
  | false => rfl
  | true =>
    obtain ⟨q', e, hr⟩ := h.1 rfl
    obtain rfl : q = q' := by omega
    have hps : p < s.size := by omega
    have := (dW_le s p hps).1
    have := (reach_iff s q hq).1 hr p hp (by omega)
    omega
theorem placed_yes {s : ByteArray} {q : Nat} {b : Bool} (h : Placed s q b) (hq : q ≤ s.size) (ha : ∀ p, p < q → q ≤ p + 3 → p + dW s p ≤ q) : b = true := h.2 ⟨q, rfl, (reach_iff s q hq).2 ha⟩
theorem placed_true {s : ByteArray} {q : Nat} (h : Reach s q) : Placed s q true := ⟨fun _ => ⟨q, rfl, h⟩, fun _ => rfl⟩
theorem placed_is {s : ByteArray} {q : Nat} (h : Placed s q true) : Reach s q := by
  obtain ⟨q', e, hr⟩ := h.1 rfl
  obtain rfl : q = q' := by omega
  exact hr
theorem placed_not {s : ByteArray} {q : Nat} (h : Placed s q false) : ¬ Reach s q := fun hr => by have := h.2 ⟨q, rfl, hr⟩; cases this
/- how a rune is put -/
theorem valid_of {r : Int} (h : rightB r = true) : Utf8.valid r = true := by
  rw [right_iff] at h
  simp [Utf8.valid]; omega
theorem valid_not {r : Int} (h : rightB r = false) : Utf8.valid r = false := by
  rw [Bool.eq_false_iff] at h ⊢
  intro k
  apply h
  rw [right_iff]
  simp [Utf8.valid] at k; omega
theorem enc1 {r : Int} (h : rightB r = true) (h0 : 0 ≤ r) (h1 : r < 128) : Utf8.encode r = ⟨#[UInt8.ofNat r.toNat]⟩ := by
  have a : r.toNat < 128 := by omega
  unfold Utf8.encode
  simp only [valid_of h, if_true, a]
theorem enc2 {r : Int} (h : rightB r = true) (h0 : 128 ≤ r) (h1 : r < 2048) : Utf8.encode r = ⟨#[UInt8.ofNat (192 + r / 64).toNat, UInt8.ofNat (128 + r % 64).toNat]⟩ := by
  have a : ¬ r.toNat < 128 := by omega
  have b : r.toNat < 2048 := by omega
  unfold Utf8.encode
  simp only [valid_of h, if_true, a, b, if_false]
  rw [show (192 + r / 64).toNat = 0xC0 + r.toNat / 64 by omega, show (128 + r % 64).toNat = 0x80 + r.toNat % 64 by omega]
theorem enc3 {r : Int} (h : rightB r = true) (h0 : 2048 ≤ r) (h1 : r < 65536) : Utf8.encode r = ⟨#[UInt8.ofNat (224 + r / 4096).toNat, UInt8.ofNat (128 + r / 64 % 64).toNat, UInt8.ofNat (128 + r % 64).toNat]⟩ := by
  have a : ¬ r.toNat < 128 := by omega
  have b : ¬ r.toNat < 2048 := by omega
  have c : r.toNat < 65536 := by omega
  unfold Utf8.encode
  simp only [valid_of h, if_true, a, b, c, if_false]
  rw [show (224 + r / 4096).toNat = 0xE0 + r.toNat / 4096 by omega, show (128 + r / 64 % 64).toNat = 0x80 + r.toNat / 64 % 64 by omega, show (128 + r % 64).toNat = 0x80 + r.toNat % 64 by omega]
theorem enc4 {r : Int} (h : rightB r = true) (h0 : 65536 ≤ r) : Utf8.encode r = ⟨#[UInt8.ofNat (240 + r / 262144).toNat, UInt8.ofNat (128 + r / 4096 % 64).toNat, UInt8.ofNat (128 + r / 64 % 64).toNat, UInt8.ofNat (128 + r % 64).toNat]⟩ := by
  have a : ¬ r.toNat < 128 := by omega
  have b : ¬ r.toNat < 2048 := by omega
  have c : ¬ r.toNat < 65536 := by omega
  unfold Utf8.encode
  simp only [valid_of h, if_true, a, b, c, if_false]
  rw [show (240 + r / 262144).toNat = 0xF0 + r.toNat / 262144 by omega, show (128 + r / 4096 % 64).toNat = 0x80 + r.toNat / 4096 % 64 by omega, show (128 + r / 64 % 64).toNat = 0x80 + r.toNat / 64 % 64 by omega, show (128 + r % 64).toNat = 0x80 + r.toNat % 64 by omega]
theorem enc_bad {r : Int} (h : rightB r = false) : Utf8.encode r = ⟨#[239, 191, 189]⟩ := by
  unfold Utf8.encode
  simp only [valid_not h, Bool.false_eq_true, if_false]
  decide +kernel
/- from q back to the rune that ends there -/
theorem back_hit {s : ByteArray} {q k : Nat} {r a z : Nat} {b : Bool} (hq : Reach s q) (hk : k < q) (hr : Reach s k) (hn : ∀ p, k + 1 ≤ p → p < q → ¬ Reach s p) (h : EndsT s q r a z b) : r = dR s k ∧ a = k ∧ z = dW s k ∧ b = true := by
  have hs := reach_le hq
  have h1 := reach_order hr hq hk
  have h2 := dW_pos s k
  have h3 := reach_next hr (by omega)
  have h4 : ¬ k + dW s k < q := fun hlt => hn _ (by omega) hlt h3
  exact endsT_yes h (by omega) hr (by omega)
theorem back_none {s : ByteArray} {q : Nat} {r a z : Nat} {b : Bool} (hn : ∀ p, 0 ≤ p → p < q → ¬ Reach s p) (h : EndsT s q r a z b) : r = 0 ∧ a = 0 ∧ z = 0 ∧ b = false := by
  refine endsT_no h (fun p hp hr hs => ?_)
  have := dW_pos s p
  exact hn p (by omega) (by omega) hr
end Go.Proofs.Ytaaheinjalakmaa.Rn
