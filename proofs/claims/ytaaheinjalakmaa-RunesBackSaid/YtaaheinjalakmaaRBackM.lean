/- Plain facts about runes: what was put is told again. -/
import Derived.Test.YtaaheinjalakmaaRCutM
set_option linter.unusedVariables false
namespace Go.Proofs.Ytaaheinjalakmaa.Rn
open Go.Lib

theorem at8_app {s : ByteArray} {X T : List UInt8} (hs : s.data.toList = X ++ T) (i : Nat) (h : i < T.length) : at8 s (X.length + i) = T[i].toNat := by
  unfold at8
  rw [hs, List.getD, List.getElem?_append_right (by omega), Nat.add_sub_cancel_left, List.getElem?_eq_getElem h]; rfl
theorem size_app {s : ByteArray} {l : List UInt8} (hs : s.data.toList = l) : s.size = l.length := by rw [← hs, len_eq]
theorem dec_enc {s : ByteArray} {X E Y : List UInt8} {r : Int} (hr : rightB r = true) (hE : (Utf8.encode r).data.toList = E) (hs : s.data.toList = X ++ (E ++ Y)) : (dR s X.length : Int) = r ∧ dW s X.length = E.length ∧ 1 ≤ E.length ∧ E.length ≤ 4 := by
  have hb := (right_iff r).1 hr
  have hz : s.size = X.length + (E.length + Y.length) := by rw [size_app hs]; simp
  have hd := dec_eq s X.length
  have fin : ∀ {n z : Nat}, decodeN (s.size - X.length) (at8 s X.length) (at8 s (X.length + 1)) (at8 s (X.length + 2)) (at8 s (X.length + 3)) = (n, z) → dR s X.length = n ∧ dW s X.length = z := fun h => by
    rw [h] at hd
    exact ⟨congrArg Prod.fst hd, congrArg Prod.snd hd⟩
  rcases (show (0 ≤ r ∧ r < 128) ∨ (128 ≤ r ∧ r < 2048) ∨ (2048 ≤ r ∧ r < 65536) ∨ (65536 ≤ r ∧ r < 1114112) by omega) with ⟨h0, h1⟩ | ⟨h0, h1⟩ | ⟨h0, h1⟩ | ⟨h0, h1⟩
  · rw [enc1 hr h0 h1] at hE
    subst hE
    have e0 := at8_app hs 0 (by simp)
    simp at e0
    obtain ⟨a, b⟩ := fin (n := r.toNat) (z := 1) (by
      unfold decodeN
      rw [if_pos (by omega)]
      simp only [Prod.mk.injEq, and_true]; omega)
    rw [a, b]
    exact ⟨by omega, rfl, by simp, by simp⟩
  · rw [enc2 hr h0 h1] at hE
    subst hE
    have e0 := at8_app hs 0 (by simp)
    have e1 := at8_app hs 1 (by simp)
    simp at e0 e1 hz
    obtain ⟨a, b⟩ := fin (n := r.toNat) (z := 2) (by
      unfold decodeN
      rw [if_neg (by omega), if_pos (by omega), if_pos (by omega)]
      simp only [Prod.mk.injEq, and_true]; omega)
    rw [a, b]
    exact ⟨by omega, rfl, by simp, by simp⟩
  · rw [enc3 hr h0 h1] at hE
    subst hE
    have e0 := at8_app hs 0 (by simp)
    have e1 := at8_app hs 1 (by simp)
    have e2 := at8_app hs 2 (by simp)
    simp at e0 e1 e2 hz
    obtain ⟨a, b⟩ := fin (n := r.toNat) (z := 3) (by
      unfold decodeN
      rw [if_neg (by omega), if_neg (by omega), if_pos (by omega), if_pos (by omega)]
      simp only [Prod.mk.injEq, and_true]; omega)
    rw [a, b]
    exact ⟨by omega, rfl, by simp, by simp⟩
  · rw [enc4 hr h0] at hE
    subst hE
    have e0 := at8_app hs 0 (by simp)
    have e1 := at8_app hs 1 (by simp)
    have e2 := at8_app hs 2 (by simp)
    have e3 := at8_app hs 3 (by simp)
    simp at e0 e1 e2 e3 hz
    obtain ⟨a, b⟩ := fin (n := r.toNat) (z := 4) (by
      unfold decodeN
      rw [if_neg (by omega), if_neg (by omega), if_neg (by omega), if_pos (by omega), if_pos (by omega)]
      simp only [Prod.mk.injEq, and_true]; omega)
    rw [a, b]
    exact ⟨by omega, rfl, by simp, by simp⟩
/- runes put one behind the other -/
def cat (ws : List Int) : List UInt8 := ws.flatMap fun r => (Utf8.encode r).data.toList
def Rights (ws : List Int) : Prop := ∀ (i : Nat) (r : Int), ws[i]? = some r → rightB r = true
theorem cat_app (a b : List Int) : cat (a ++ b) = cat a ++ cat b := by simp [cat]
theorem cat_at {ws : List Int} {i : Nat} {r : Int} (h : ws[i]? = some r) : cat ws = cat (ws.take i) ++ ((Utf8.encode r).data.toList ++ cat (ws.drop (i + 1))) := by
  have e : ws = ws.take i ++ (r :: ws.drop (i + 1)) := by
    have hi := (List.getElem?_eq_some_iff.1 h).1
    have hv := (List.getElem?_eq_some_iff.1 h).2
    rw [← hv, List.getElem_cons_drop, List.take_append_drop]
  have e2 : cat (r :: ws.drop (i + 1)) = (Utf8.encode r).data.toList ++ cat (ws.drop (i + 1)) := rfl
  conv => lhs; rw [e]
  rw [cat_app, e2]
theorem cat_take {ws : List Int} {i : Nat} {r : Int} (h : ws[i]? = some r) : (cat (ws.take (i + 1))).length = (cat (ws.take i)).length + (Utf8.encode r).data.toList.length := by
  have hi := (List.getElem?_eq_some_iff.1 h).1
  have hv := (List.getElem?_eq_some_iff.1 h).2
  rw [List.take_succ_eq_append_getElem hi, cat_app, List.length_append, hv]
  simp [cat]
theorem back {s : ByteArray} {ws : List Int} (hr : Rights ws) (hs : s.data.toList = cat ws) :
    (∀ i, i ≤ ws.length → pos s i = (cat (ws.take i)).length) ∧ (∀ i r, ws[i]? = some r → (dR s (pos s i) : Int) = r ∧ dW s (pos s i) = (Utf8.encode r).size) ∧ cnt s = ws.length := by
  have step : ∀ i r, ws[i]? = some r → (dR s (cat (ws.take i)).length : Int) = r ∧ dW s (cat (ws.take i)).length = (Utf8.encode r).size ∧ (cat (ws.take i)).length < s.size ∧ (cat (ws.take (i + 1))).length = (cat (ws.take i)).length + (Utf8.encode r).size := fun i r h => by
    have e := cat_at h
    obtain ⟨a, b, c, d⟩ := dec_enc (hr i r h) rfl (hs.trans e)
    have hz := size_app (hs.trans e)
    rw [List.length_append, List.length_append] at hz
    refine ⟨a, by rw [b, len_eq], by omega, by rw [cat_take h, len_eq]⟩
  have hp : ∀ i, i ≤ ws.length → pos s i = (cat (ws.take i)).length := by
    intro i
    induction i with
    | zero => intro _; simp [cat, pos]
    | succ i ih =>
      intro hi
      have h : ws[i]? = some ws[i] := List.getElem?_eq_getElem (by omega)
      obtain ⟨a, b, c, d⟩ := step i _ h
      have e := ih (by omega)
      rw [pos_succ s i (by rw [e]; exact c), e, b, d]
  refine ⟨hp, fun i r h => ?_, ?_⟩
  · have hi := (List.getElem?_eq_some_iff.1 h).1
    obtain ⟨a, b, _⟩ := step i r h
    rw [hp i (by omega)]
    exact ⟨a, b⟩
  · have h1 : ¬ ws.length < cnt s := fun h => by
      have := (cnt_lt _ _).1 h
      rw [hp _ (Nat.le_refl _), List.take_length, size_app hs] at this
      omega
    have h2 : ∀ i, i < ws.length → i < cnt s := fun i hi => (cnt_lt _ i).2 (by
      have h : ws[i]? = some ws[i] := List.getElem?_eq_getElem (by omega)
      rw [hp i (by omega)]
      exact (step i _ h).2.2.1)
    by_cases h3 : cnt s < ws.length
    · exact absurd (h2 _ h3) (Nat.lt_irrefl _)
    · omega
theorem enc_want (r : Int) (h : rightB r = false) : Utf8.encode r = Utf8.encode 65533 := by rw [enc_bad h]; decide +kernel
theorem rights_snoc {ws : List Int} {r : Int} (h : Rights ws) (hr : rightB r = true) : Rights (ws ++ [r]) := fun i x hx => by
  by_cases hi : i < ws.length
  · rw [List.getElem?_append_left hi] at hx; exact h i x hx
  · rw [List.getElem?_append_right (by omega)] at hx
    have : i - ws.length = 0 := by
      have := (List.getElem?_eq_some_iff.1 hx).1
      simp at this; omega
    rw [this] at hx
    simp at hx; subst hx; exact hr
end Go.Proofs.Ytaaheinjalakmaa.Rn
