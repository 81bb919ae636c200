/- Plain facts about runes: a text cut at a place. -/
import Derived.Test.YtaaheinjalakmaaRunesM
set_option linter.unusedVariables false
namespace Go.Proofs.Ytaaheinjalakmaa.Rn

theorem pos_lt {s : ByteArray} {i j : Nat} (h : i < j) (hj : j ≤ cnt s) : pos s i < pos s j := by
  have hi := (cnt_lt s i).1 (by omega)
  have a := pos_succ s i hi
  have b := pos_mono s (i + 1) (j - (i + 1))
  rw [show i + 1 + (j - (i + 1)) = j by omega] at b
  have := dW_pos s (pos s i)
  omega
theorem reach_idx {s : ByteArray} {p : Nat} (h : Reach s p) : ∃ j, j ≤ cnt s ∧ pos s j = p := by
  obtain ⟨k, rfl⟩ := h
  by_cases hk : k ≤ cnt s
  · exact ⟨k, hk, rfl⟩
  · exact ⟨cnt s, Nat.le_refl _, by rw [pos_cnt, pos_end s k (by omega)]⟩
/- cut at the j-th rune's beginning -/
theorem cut_head {s : ByteArray} {j : Nat} (hj : j ≤ cnt s) : (∀ i, i ≤ j → pos (s.extract 0 (pos s j)) i = pos s i) ∧ (∀ i, i < j → dR (s.extract 0 (pos s j)) (pos s i) = dR s (pos s i) ∧ dW (s.extract 0 (pos s j)) (pos s i) = dW s (pos s i)) ∧ cnt (s.extract 0 (pos s j)) = j := by
  have hz := size_ext s 0 (pos s j) (by omega) (pos_le s j)
  have hd : ∀ i, i < j → Utf8.decode (s.extract 0 (pos s j)) (pos s i) = Utf8.decode s (pos s i) := fun i hi => by
    have h1 := (cnt_lt s i).1 (by omega)
    have h2 := pos_succ s i h1
    have h3 := pos_mono s (i + 1) (j - (i + 1))
    rw [show i + 1 + (j - (i + 1)) = j by omega] at h3
    exact dec_head s _ _ (pos_lt hi hj) (pos_le s j) (by omega)
  have hw : ∀ i, i < j → dR (s.extract 0 (pos s j)) (pos s i) = dR s (pos s i) ∧ dW (s.extract 0 (pos s j)) (pos s i) = dW s (pos s i) := fun i hi => ⟨congrArg Prod.fst (hd i hi), congrArg Prod.snd (hd i hi)⟩
  have hp : ∀ i, i ≤ j → pos (s.extract 0 (pos s j)) i = pos s i := by
    intro i
    induction i with
    | zero => exact fun _ => rfl
    | succ i ih =>
      intro hi
      have e := ih (by omega)
      have h1 := (cnt_lt s i).1 (by omega)
      have h2 := pos_lt (show i < j by omega) hj
      rw [pos_succ s i h1, pos_succ _ i (by rw [e, hz]; omega), e, (hw i (by omega)).2]
  refine ⟨hp, hw, ?_⟩
  have h1 : ¬ j < cnt (s.extract 0 (pos s j)) := fun h => by
    have := (cnt_lt _ j).1 h
    rw [hp j (Nat.le_refl _), hz] at this
    omega
  have h2 : ∀ i, i < j → i < cnt (s.extract 0 (pos s j)) := fun i hi => (cnt_lt _ i).2 (by
    rw [hp i (by omega), hz]
    have := pos_lt hi hj
    omega)
  by_cases h3 : cnt (s.extract 0 (pos s j)) < j
  · exact absurd (h2 _ h3) (Nat.lt_irrefl _)
  · omega
theorem cut_tail {s : ByteArray} {j : Nat} (hj : j ≤ cnt s) : (∀ i, pos s (j + i) = pos (s.extract (pos s j) s.size) i + pos s j) ∧ cnt s = j + cnt (s.extract (pos s j) s.size) ∧
    (∀ i, j + i < cnt s → dR (s.extract (pos s j) s.size) (pos (s.extract (pos s j) s.size) i) = dR s (pos s (j + i)) ∧ dW (s.extract (pos s j) s.size) (pos (s.extract (pos s j) s.size) i) = dW s (pos s (j + i))) := by
  have hz := size_ext s (pos s j) s.size (pos_le s j) (Nat.le_refl _)
  have hle := pos_le s j
  have hdw : ∀ q, pos s j + q < s.size → dR (s.extract (pos s j) s.size) q = dR s (pos s j + q) ∧ dW (s.extract (pos s j) s.size) q = dW s (pos s j + q) := fun q hq => by
    have := dec_tail s (pos s j) q hq
    exact ⟨congrArg Prod.fst this, congrArg Prod.snd this⟩
  have hp : ∀ i, pos s (j + i) = pos (s.extract (pos s j) s.size) i + pos s j := by
    intro i
    induction i with
    | zero => show pos s j = 0 + pos s j; omega
    | succ i ih =>
      by_cases h : pos s (j + i) < s.size
      · rw [← Nat.add_assoc, pos_succ s (j + i) h, pos_succ _ i (by rw [hz]; omega), (hdw _ (by omega)).2, ih]
        rw [Nat.add_comm (pos s j)]
        omega
      · rw [← Nat.add_assoc, pos_stay s (j + i) h, pos_stay _ i (by rw [hz]; omega), ih]
  refine ⟨hp, ?_, fun i hi => ?_⟩
  · have hc : ∀ i, j + i < cnt s ↔ i < cnt (s.extract (pos s j) s.size) := fun i => by
      rw [cnt_lt, cnt_lt, hp i, hz]; omega
    have h1 := hc (cnt (s.extract (pos s j) s.size))
    have h2 := hc (cnt s - j)
    omega
  · have h := (cnt_lt s _).1 hi
    rw [hp i] at h ⊢
    rw [Nat.add_comm] at h ⊢
    exact hdw _ h
end Go.Proofs.Ytaaheinjalakmaa.Rn
