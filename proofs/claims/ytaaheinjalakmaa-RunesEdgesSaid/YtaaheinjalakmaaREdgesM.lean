/- Plain facts about runes: edges of a word between others. -/
import Derived.Test.YtaaheinjalakmaaRBackM
set_option linter.unusedVariables false
namespace Go.Proofs.Ytaaheinjalakmaa.Rn
open Go.Lib

/- bytes that are one rune, whatever stands about them -/
def Good (E : List UInt8) (r : Nat) : Prop := 1 ≤ E.length ∧ ∀ (s : ByteArray) (X Y : List UInt8), s.data.toList = X ++ (E ++ Y) → dR s X.length = r ∧ dW s X.length = E.length
abbrev Pc := List UInt8 × Nat
def catP (l : List Pc) : List UInt8 := l.flatMap (·.1)
def Goods (l : List Pc) (b : Bool) : Prop := ∀ (i : Nat) (x : Pc), l[i]? = some x → Good x.1 x.2 ∧ wordB (x.2 : Int) = b
theorem catP_app (a b : List Pc) : catP (a ++ b) = catP a ++ catP b := by simp [catP]
theorem catP_at {l : List Pc} {i : Nat} {x : Pc} (h : l[i]? = some x) : catP l = catP (l.take i) ++ (x.1 ++ catP (l.drop (i + 1))) ∧ catP (l.take (i + 1)) = catP (l.take i) ++ x.1 := by
  have hi := (List.getElem?_eq_some_iff.1 h).1
  have hv := (List.getElem?_eq_some_iff.1 h).2
  constructor
  · have e : l = l.take i ++ (x :: l.drop (i + 1)) := by rw [← hv, List.getElem_cons_drop, List.take_append_drop]
    have e2 : catP (x :: l.drop (i + 1)) = x.1 ++ catP (l.drop (i + 1)) := rfl
    conv => lhs; rw [e]
    rw [catP_app, e2]
  · rw [List.take_succ_eq_append_getElem hi, catP_app, hv]
    simp [catP]
theorem good_ascii {c : UInt8} (h : c.toNat < 128) : Good [c] c.toNat := by
  refine ⟨by simp, fun s X Y hs => ?_⟩
  have hz := size_app hs
  simp at hz
  have e0 := at8_app hs 0 (by simp)
  simp at e0
  rcases shape s X.length (by omega) with ⟨a, b, c⟩ | ⟨a, _⟩ | ⟨a, _⟩ | ⟨a, _⟩ | ⟨a, _⟩
  · exact ⟨by omega, by simpa using c⟩
  all_goals omega
theorem good_ff : Good [255] 65533 := by
  refine ⟨by simp, fun s X Y hs => ?_⟩
  have hz := size_app hs
  simp at hz
  have e0 := at8_app hs 0 (by simp)
  simp at e0
  rcases shape s X.length (by omega) with ⟨a, b, c⟩ | ⟨a, _⟩ | ⟨a, _⟩ | ⟨a, _⟩ | ⟨a, b, c⟩
  · omega
  · omega
  · omega
  · omega
  · exact ⟨b, by simpa using c⟩
theorem good_e : Good [195, 169] 233 := by
  refine ⟨by simp, fun s X Y hs => ?_⟩
  have h : (Utf8.encode 233).data.toList = [195, 169] := by decide +kernel
  obtain ⟨a, b, _⟩ := dec_enc (r := 233) (by decide) h hs
  exact ⟨by omega, b⟩
theorem backP {s : ByteArray} {l : List Pc} (hg : ∀ (i : Nat) (x : Pc), l[i]? = some x → Good x.1 x.2) (hs : s.data.toList = catP l) :
    (∀ i, i ≤ l.length → pos s i = (catP (l.take i)).length) ∧ (∀ i x, l[i]? = some x → dR s (pos s i) = x.2) ∧ cnt s = l.length := by
  have step : ∀ i x, l[i]? = some x → dR s (catP (l.take i)).length = x.2 ∧ dW s (catP (l.take i)).length = x.1.length ∧ (catP (l.take i)).length < s.size ∧ (catP (l.take (i + 1))).length = (catP (l.take i)).length + x.1.length := fun i x h => by
    obtain ⟨e, e'⟩ := catP_at h
    obtain ⟨h1, hd⟩ := hg i x h
    obtain ⟨a, b⟩ := hd s _ _ (hs.trans e)
    have hz := size_app (hs.trans e)
    rw [List.length_append, List.length_append] at hz
    exact ⟨a, b, by omega, by rw [e', List.length_append]⟩
  have hp : ∀ i, i ≤ l.length → pos s i = (catP (l.take i)).length := by
    intro i
    induction i with
    | zero => intro _; simp [catP, pos]
    | succ i ih =>
      intro hi
      have h : l[i]? = some l[i] := List.getElem?_eq_getElem (by omega)
      obtain ⟨a, b, c, d⟩ := step i _ h
      have e := ih (by omega)
      rw [pos_succ s i (by rw [e]; exact c), e, b, d]
  refine ⟨hp, fun i x h => ?_, ?_⟩
  · have hi := (List.getElem?_eq_some_iff.1 h).1
    rw [hp i (by omega)]
    exact (step i x h).1
  · have h1 : ¬ l.length < cnt s := fun h => by
      have := (cnt_lt _ _).1 h
      rw [hp _ (Nat.le_refl _), List.take_length, size_app hs] at this
      omega
    have h2 : ∀ i, i < l.length → i < cnt s := fun i hi => (cnt_lt _ i).2 (by
      have h : l[i]? = some l[i] := List.getElem?_eq_getElem (by omega)
      rw [hp i (by omega)]
      exact (step i _ h).2.2.1)
    by_cases h3 : cnt s < l.length
    · exact absurd (h2 _ h3) (Nat.lt_irrefl _)
    · omega
/- a word between others -/
structure Mid (s : ByteArray) (lp lw lq : List Pc) : Prop where
  hp : Goods lp false
  hw : Goods lw true
  hq : Goods lq false
  hs : s.data.toList = catP (lp ++ lw ++ lq)
  hn : 0 < lw.length
theorem Mid.piece {s : ByteArray} {lp lw lq : List Pc} (h : Mid s lp lw lq) (i : Nat) (x : Pc) (hx : (lp ++ lw ++ lq)[i]? = some x) : Good x.1 x.2 ∧ wordB (x.2 : Int) = (decide (lp.length ≤ i) && decide (i < lp.length + lw.length)) := by
  by_cases h1 : i < lp.length
  · rw [List.append_assoc, List.getElem?_append_left h1] at hx
    have := h.hp i x hx
    rw [decide_eq_false (by omega)]
    simpa using this
  · by_cases h2 : i < lp.length + lw.length
    · rw [List.getElem?_append_left (by simp; omega), List.getElem?_append_right (by omega)] at hx
      have := h.hw _ x hx
      rw [decide_eq_true (by omega), decide_eq_true (by omega)]
      simpa using this
    · rw [List.getElem?_append_right (by simp; omega)] at hx
      have := h.hq _ x hx
      rw [decide_eq_true (by omega), decide_eq_false (by omega)]
      simpa using this
theorem edge_val {s : ByteArray} {lp lw lq : List Pc} (h : Mid s lp lw lq) {x : Int} {r a z r' a' z' : Nat} {b b' : Bool} (hE : EndsT s x r a z b) (hB : BeginsT s x r' a' z' b') :
    ((b && wordB r) != (b' && wordB r')) = decide (x = (catP lp).length ∨ x = (catP lp).length + (catP lw).length) := by
  obtain ⟨h1, h2, h3⟩ := backP (fun i x hx => (h.piece i x hx).1) h.hs
  have hlen : (lp ++ lw ++ lq).length = lp.length + lw.length + lq.length := by simp; omega
  have hn := h.hn
  have hm : pos s lp.length = (catP lp).length := by
    rw [h1 _ (by omega), List.append_assoc, List.take_left]
  have hmq : pos s (lp.length + lw.length) = (catP lp).length + (catP lw).length := by
    rw [h1 _ (by omega), List.take_append_of_le_length (by simp), List.take_of_length_le (by simp), catP_app, List.length_append]
  have hA : (b && wordB r) = true ↔ ∃ i, lp.length ≤ i ∧ i < lp.length + lw.length ∧ x = pos s (i + 1) := by
    constructor
    · intro hb
      simp only [Bool.and_eq_true] at hb
      obtain ⟨o, e1, e2⟩ := hE
      rcases e2 with ⟨y, rfl, hr, _⟩ | ⟨_, _, _, _, e⟩
      · rcases e1 with ⟨p, hx, ⟨i, rfl⟩, hps, hy⟩ | ⟨e1, _⟩
        · cases hy
          have hi := (cnt_lt s i).2 hps
          have hg : (lp ++ lw ++ lq)[i]? = some (lp ++ lw ++ lq)[i] := List.getElem?_eq_getElem (by omega)
          have hw := (h.piece i _ hg).2
          rw [hr, show (recAt s (pos s i)).1 = dR s (pos s i) from rfl, h2 i _ hg, hw] at hb
          simp only [Bool.and_eq_true, decide_eq_true_eq] at hb
          exact ⟨i, hb.2.1, hb.2.2, by rw [hx, pos_succ s i hps]; omega⟩
        · cases e1
      · rw [e] at hb; exact absurd hb.1 (by simp)
    · rintro ⟨i, i1, i2, hx⟩
      have hps := (cnt_lt s i).1 (by omega)
      have hg : (lp ++ lw ++ lq)[i]? = some (lp ++ lw ++ lq)[i] := List.getElem?_eq_getElem (by omega)
      have hw := (h.piece i _ hg).2
      obtain ⟨e1, _, _, e4⟩ := endsT_yes hE (p := pos s i) (by rw [hx, pos_succ s i hps]; omega) ⟨i, rfl⟩ hps
      rw [e4, e1, h2 i _ hg, hw, decide_eq_true i1, decide_eq_true i2]
      rfl
  have hBt : (b' && wordB r') = true ↔ ∃ i, lp.length ≤ i ∧ i < lp.length + lw.length ∧ x = pos s i := by
    constructor
    · intro hb
      simp only [Bool.and_eq_true] at hb
      obtain ⟨o, e1, e2⟩ := hB
      rcases e2 with ⟨y, rfl, hr, _⟩ | ⟨_, _, _, _, e⟩
      · rcases e1 with ⟨p, hx, ⟨i, rfl⟩, hps, hy⟩ | ⟨e1, _⟩
        · cases hy
          have hi := (cnt_lt s i).2 hps
          have hg : (lp ++ lw ++ lq)[i]? = some (lp ++ lw ++ lq)[i] := List.getElem?_eq_getElem (by omega)
          have hw := (h.piece i _ hg).2
          rw [hr, show (recAt s (pos s i)).1 = dR s (pos s i) from rfl, h2 i _ hg, hw] at hb
          simp only [Bool.and_eq_true, decide_eq_true_eq] at hb
          exact ⟨i, hb.2.1, hb.2.2, hx⟩
        · cases e1
      · rw [e] at hb; exact absurd hb.1 (by simp)
    · rintro ⟨i, i1, i2, hx⟩
      have hps := (cnt_lt s i).1 (by omega)
      have hg : (lp ++ lw ++ lq)[i]? = some (lp ++ lw ++ lq)[i] := List.getElem?_eq_getElem (by omega)
      have hw := (h.piece i _ hg).2
      obtain ⟨e1, _, _, e4⟩ := beginsT_yes hB (p := pos s i) hx ⟨i, rfl⟩ hps
      rw [e4, e1, h2 i _ hg, hw, decide_eq_true i1, decide_eq_true i2]
      rfl
  have inj : ∀ i j, i ≤ cnt s → j ≤ cnt s → pos s i = pos s j → i = j := fun i j hi hj e => by
    rcases Nat.lt_trichotomy i j with k | k | k
    · have := pos_lt k hj; omega
    · exact k
    · have := pos_lt k hi; omega
  rw [← hm, show ((pos s lp.length : Nat) : Int) + (catP lw).length = (pos s (lp.length + lw.length) : Nat) by rw [hmq, hm]; simp]
  by_cases c1 : x = (pos s lp.length : Nat)
  · have t : (b' && wordB r') = true := hBt.2 ⟨lp.length, Nat.le_refl _, by omega, c1⟩
    have f : (b && wordB r) = false := Bool.eq_false_iff.2 (fun k => by
      obtain ⟨i, i1, i2, e⟩ := hA.1 k
      have := inj (i + 1) lp.length (by omega) (by omega) (by omega)
      omega)
    rw [t, f, decide_eq_true (.inl c1)]; rfl
  · by_cases c2 : x = (pos s (lp.length + lw.length) : Nat)
    · have t : (b && wordB r) = true := hA.2 ⟨lp.length + lw.length - 1, by omega, by omega, by rw [c2]; congr 2; omega⟩
      have f : (b' && wordB r') = false := Bool.eq_false_iff.2 (fun k => by
        obtain ⟨i, i1, i2, e⟩ := hBt.1 k
        have := inj i (lp.length + lw.length) (by omega) (by omega) (by omega)
        omega)
      rw [t, f, decide_eq_true (.inr c2)]; rfl
    · rw [decide_eq_false (by omega)]
      have key : (b && wordB r) = true ↔ (b' && wordB r') = true := by
        rw [hA, hBt]
        constructor
        · rintro ⟨i, i1, i2, e⟩
          by_cases e2 : i + 1 = lp.length + lw.length
          · rw [e2] at e; exact absurd e c2
          · exact ⟨i + 1, by omega, by omega, e⟩
        · rintro ⟨i, i1, i2, e⟩
          by_cases e2 : i = lp.length
          · rw [e2] at e; exact absurd e c1
          · exact ⟨i - 1, by omega, by omega, by rw [e]; congr 2; omega⟩
      generalize (b && wordB r) = u at key
      generalize (b' && wordB r') = v at key
      cases u <;> cases v <;> simp at key ⊢
theorem goods_snoc {l : List Pc} {b : Bool} {x : Pc} (h : Goods l b) (hx : Good x.1 x.2) (hb : wordB (x.2 : Int) = b) : Goods (l ++ [x]) b := fun i y hy => by
  by_cases hi : i < l.length
  · rw [List.getElem?_append_left hi] at hy; exact h i y hy
  · rw [List.getElem?_append_right (by omega)] at hy
    have : i - l.length = 0 := by
      have := (List.getElem?_eq_some_iff.1 hy).1
      simp at this; omega
    rw [this] at hy
    simp at hy; subst hy; exact ⟨hx, hb⟩
theorem goods_nil (b : Bool) : Goods [] b := fun i x h => by simp at h
end Go.Proofs.Ytaaheinjalakmaa.Rn
