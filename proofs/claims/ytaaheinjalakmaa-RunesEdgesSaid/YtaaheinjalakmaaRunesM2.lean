/- Plain facts about runes: what the document's own answer reckons of a first rune. -/
import Derived.Test.YtaaheinjalakmaaRunesM
set_option linter.unusedVariables false
namespace Go.Proofs.Ytaaheinjalakmaa.Rn
open Go.Lib

def b8 (s : ByteArray) (i : Nat) : UInt8 := UInt8.ofNat (at8 s i)
theorem at8_get (s : ByteArray) (i : Nat) (h : i < s.size) : s[i] = b8 s i := by
  have h' : i < s.data.toList.length := by rw [len_eq]; exact h
  have : s.data.toList.getD i 0 = s[i] := by
    rw [List.getD, List.getElem?_eq_getElem h']; rfl
  unfold b8 at8
  rw [this]; simp
theorem ext_eq (s : ByteArray) (k : Nat) (hk : k ≤ s.size) : s.extract 0 k = ⟨((List.range k).map (b8 s)).toArray⟩ := by
  apply ByteArray.ext
  apply Array.ext
  · have := size_ext s 0 k (by omega) hk
    have e : (s.extract 0 k).data.size = (s.extract 0 k).size := rfl
    rw [e, this]; simp
  · intro i h1 h2
    have hi : i < k := by simpa using h2
    have h3 : (s.extract 0 k).data[i] = s[i]'(by omega) := by simp [ByteArray.data_extract]; rfl
    rw [h3, at8_get s i (by omega)]
    simp
theorem ext1 (s : ByteArray) (h : 1 ≤ s.size) : s.extract 0 1 = ⟨#[b8 s 0]⟩ := by rw [ext_eq s 1 h]; rfl
theorem ext2 (s : ByteArray) (h : 2 ≤ s.size) : s.extract 0 2 = ⟨#[b8 s 0, b8 s 1]⟩ := by rw [ext_eq s 2 h]; rfl
theorem ext3 (s : ByteArray) (h : 3 ≤ s.size) : s.extract 0 3 = ⟨#[b8 s 0, b8 s 1, b8 s 2]⟩ := by rw [ext_eq s 3 h]; rfl
theorem ext4 (s : ByteArray) (h : 4 ≤ s.size) : s.extract 0 4 = ⟨#[b8 s 0, b8 s 1, b8 s 2, b8 s 3]⟩ := by rw [ext_eq s 4 h]; rfl
theorem u8_of {x y : Nat} (hx : x < 256) (hy : y < 256) : UInt8.ofNat x = UInt8.ofNat y ↔ x = y := by
  constructor
  · intro h
    have := congrArg UInt8.toNat h
    simp at this; omega
  · rintro rfl; rfl
theorem b8_of {s : ByteArray} {i : Nat} {x : Nat} (hx : x < 256) : UInt8.ofNat x = b8 s i ↔ x = at8 s i := u8_of hx (at8_lt s i)

/- as the document's own answer reckons it -/
def acc (s : ByteArray) (m : Nat) : Nat → Nat
  | 0 => at8 s 0 % m
  | k + 1 => acc s m k * 64 + at8 s (k + 1) % 64
/- the size z that the first byte tells, and the lead's part m -/
def Lead (s : ByteArray) (z m : Nat) : Prop := (z = 4 ∧ m = 8 ∧ 240 ≤ at8 s 0) ∨ (z = 3 ∧ m = 16 ∧ 224 ≤ at8 s 0 ∧ at8 s 0 < 240) ∨ (z = 2 ∧ m = 32 ∧ 192 ≤ at8 s 0 ∧ at8 s 0 < 224) ∨ (z = 1 ∧ m = 256 ∧ at8 s 0 < 192)
theorem enc_size (r : Int) (h : rightB r = true) : (Utf8.encode r).size = if r < 128 then 1 else if r < 2048 then 2 else if r < 65536 then 3 else 4 := by
  have hb := (right_iff r).1 h
  split
  · rw [enc1 h (by omega) (by omega)]; rfl
  · split
    · rw [enc2 h (by omega) (by omega)]; rfl
    · split
      · rw [enc3 h (by omega) (by omega)]; rfl
      · rw [enc4 h (by omega)]; rfl
theorem rf_good {s : ByteArray} {z m : Nat} (hl : Lead s z m) (hs : z ≤ s.size) (hr : rightB (acc s m (z - 1) : Nat) = true) (he : Utf8.encode (acc s m (z - 1) : Nat) = s.extract 0 z) :
    dR s 0 = acc s m (z - 1) ∧ dW s 0 = z := by
  have hd := dec_eq s 0
  have h0 := at8_lt s 0
  have h1 := at8_lt s 1
  have h2 := at8_lt s 2
  have h3 := at8_lt s 3
  have hz := congrArg ByteArray.size he
  have hb := (right_iff _).1 hr
  rw [size_ext s 0 z (by omega) hs, enc_size _ hr] at hz
  suffices h : decodeN (s.size - 0) (at8 s 0) (at8 s (0 + 1)) (at8 s (0 + 2)) (at8 s (0 + 3)) = (acc s m (z - 1), z) by
    rw [h] at hd
    exact ⟨congrArg Prod.fst hd, congrArg Prod.snd hd⟩
  simp only [Nat.zero_add, Nat.sub_zero]
  rcases hl with ⟨rfl, rfl, l0⟩ | ⟨rfl, rfl, l0, l1⟩ | ⟨rfl, rfl, l0, l1⟩ | ⟨rfl, rfl, l0⟩
  · have ha : acc s 8 (4 - 1) = ((at8 s 0 % 8 * 64 + at8 s 1 % 64) * 64 + at8 s 2 % 64) * 64 + at8 s 3 % 64 := rfl
    generalize acc s 8 (4 - 1) = n at *
    have hn : 65536 ≤ (n : Int) := by
      split at hz
      · omega
      · split at hz
        · omega
        · split at hz <;> omega
    rw [enc4 hr hn, ext4 s hs] at he
    simp only [ByteArray.mk.injEq, Array.mk.injEq, List.cons.injEq, and_true] at he
    rw [b8_of (by omega), b8_of (by omega), b8_of (by omega), b8_of (by omega)] at he
    unfold decodeN
    rw [if_neg (by omega), if_neg (by omega), if_neg (by omega), if_pos (by omega), if_pos (by omega)]
    rw [ha]
    simp only [Prod.mk.injEq, and_true]
    omega
  · have ha : acc s 16 (3 - 1) = (at8 s 0 % 16 * 64 + at8 s 1 % 64) * 64 + at8 s 2 % 64 := rfl
    generalize acc s 16 (3 - 1) = n at *
    have hn : 2048 ≤ (n : Int) ∧ (n : Int) < 65536 := by
      split at hz
      · omega
      · split at hz
        · omega
        · split at hz <;> omega
    rw [enc3 hr hn.1 hn.2, ext3 s hs] at he
    simp only [ByteArray.mk.injEq, Array.mk.injEq, List.cons.injEq, and_true] at he
    rw [b8_of (by omega), b8_of (by omega), b8_of (by omega)] at he
    unfold decodeN
    rw [if_neg (by omega), if_neg (by omega), if_pos (by omega), if_pos (by omega)]
    rw [ha]
    simp only [Prod.mk.injEq, and_true]
    omega
  · have ha : acc s 32 (2 - 1) = at8 s 0 % 32 * 64 + at8 s 1 % 64 := rfl
    generalize acc s 32 (2 - 1) = n at *
    have hn : 128 ≤ (n : Int) ∧ (n : Int) < 2048 := by
      split at hz
      · omega
      · split at hz
        · omega
        · split at hz <;> omega
    rw [enc2 hr hn.1 hn.2, ext2 s hs] at he
    simp only [ByteArray.mk.injEq, Array.mk.injEq, List.cons.injEq, and_true] at he
    rw [b8_of (by omega), b8_of (by omega)] at he
    unfold decodeN
    rw [if_neg (by omega), if_pos (by omega), if_pos (by omega)]
    rw [ha]
  · have ha : acc s 256 (1 - 1) = at8 s 0 % 256 := rfl
    generalize acc s 256 (1 - 1) = n at *
    have hn : (n : Int) < 128 := by
      split at hz
      · omega
      · split at hz
        · omega
        · split at hz <;> omega
    unfold decodeN
    rw [if_pos (by omega)]
    simp only [Prod.mk.injEq, and_true]
    omega
theorem rf_bad {s : ByteArray} {z m : Nat} (hp : 0 < s.size) (hl : Lead s z m) (hb : s.size < z ∨ (z ≤ s.size ∧ (1114111 < acc s m (z - 1) ∨ rightB (acc s m (z - 1) : Nat) = false ∨ Utf8.encode (acc s m (z - 1) : Nat) ≠ s.extract 0 z))) :
    dR s 0 = 65533 ∧ dW s 0 = 1 := by
  have h0 := at8_lt s 0
  have h1 := at8_lt s 1
  have h2 := at8_lt s 2
  have h3 := at8_lt s 3
  have hr := (dR_right s 0 hp).2
  have key : ∀ n : Nat, dR s 0 = n → z = dW s 0 → acc s m (z - 1) = n → Utf8.encode (n : Nat) = s.extract 0 z → z ≤ s.size → False := by
    intro n e1 e2 e3 e4 e5
    subst e1
    have := (dR_right s 0 hp).1
    rcases hb with hb | ⟨_, hb | hb | hb⟩
    · omega
    · rw [e3] at hb; omega
    · rw [e3, hr] at hb; cases hb
    · rw [e3] at hb; exact hb e4
  rcases shape s 0 hp with ⟨c, e, f⟩ | ⟨c, c1, c2, e, f, g⟩ | ⟨c, c1, c2, c3, e, f, g, g'⟩ | ⟨c, c1, c2, c3, c4, e, f, g, g'⟩ | ⟨_, e, f⟩
  · exfalso
    obtain ⟨rfl, rfl⟩ : z = 1 ∧ m = 256 := by unfold Lead at hl; omega
    refine key _ rfl f.symm (show at8 s 0 % 256 = _ by omega) ?_ (by omega)
    rw [enc1 hr (by omega) (by omega), ext1 s (by omega), e]
    simp only [ByteArray.mk.injEq, Array.mk.injEq, List.cons.injEq, and_true]
    rw [b8_of (by omega)]; omega
  · exfalso
    simp only [Nat.zero_add] at c2 e c1
    obtain ⟨rfl, rfl⟩ : z = 2 ∧ m = 32 := by unfold Lead at hl; omega
    refine key _ rfl f.symm (show at8 s 0 % 32 * 64 + at8 s 1 % 64 = _ by omega) ?_ (by omega)
    rw [enc2 hr (by omega) (by omega), ext2 s (by omega)]
    simp only [ByteArray.mk.injEq, Array.mk.injEq, List.cons.injEq, and_true]
    rw [b8_of (by omega), b8_of (by omega)]; omega
  · exfalso
    simp only [Nat.zero_add] at c2 c3 e c1
    obtain ⟨rfl, rfl⟩ : z = 3 ∧ m = 16 := by unfold Lead at hl; omega
    refine key _ rfl f.symm (show (at8 s 0 % 16 * 64 + at8 s 1 % 64) * 64 + at8 s 2 % 64 = _ by omega) ?_ (by omega)
    rw [enc3 hr (by omega) (by omega), ext3 s (by omega)]
    simp only [ByteArray.mk.injEq, Array.mk.injEq, List.cons.injEq, and_true]
    rw [b8_of (by omega), b8_of (by omega), b8_of (by omega)]; omega
  · exfalso
    simp only [Nat.zero_add] at c2 c3 c4 e c1
    obtain ⟨rfl, rfl⟩ : z = 4 ∧ m = 8 := by unfold Lead at hl; omega
    refine key _ rfl f.symm (show ((at8 s 0 % 8 * 64 + at8 s 1 % 64) * 64 + at8 s 2 % 64) * 64 + at8 s 3 % 64 = _ by omega) ?_ (by omega)
    rw [enc4 hr (by omega), ext4 s (by omega)]
    simp only [ByteArray.mk.injEq, Array.mk.injEq, List.cons.injEq, and_true]
    rw [b8_of (by omega), b8_of (by omega), b8_of (by omega), b8_of (by omega)]; omega
  · exact ⟨e, f⟩
theorem lead_some (s : ByteArray) : ∃ z m, Lead s z m := by
  rcases (show 240 ≤ at8 s 0 ∨ (224 ≤ at8 s 0 ∧ at8 s 0 < 240) ∨ (192 ≤ at8 s 0 ∧ at8 s 0 < 224) ∨ at8 s 0 < 192 by omega) with h | h | h | h
  · exact ⟨4, 8, .inl ⟨rfl, rfl, h⟩⟩
  · exact ⟨3, 16, .inr (.inl ⟨rfl, rfl, h⟩)⟩
  · exact ⟨2, 32, .inr (.inr (.inl ⟨rfl, rfl, h⟩))⟩
  · exact ⟨1, 256, .inr (.inr (.inr ⟨rfl, rfl, h⟩))⟩
theorem acc_bd (s : ByteArray) (z m : Nat) (h : Lead s z m) : ∀ k, k ≤ z - 1 → acc s m k < 2097152 := by
  have h0 := at8_lt s 0
  intro k hk
  rcases h with ⟨rfl, rfl, _⟩ | ⟨rfl, rfl, _⟩ | ⟨rfl, rfl, _⟩ | ⟨rfl, rfl, _⟩
  · rcases (show k = 0 ∨ k = 1 ∨ k = 2 ∨ k = 3 by omega) with rfl | rfl | rfl | rfl <;> simp only [acc] <;> omega
  · rcases (show k = 0 ∨ k = 1 ∨ k = 2 by omega) with rfl | rfl | rfl <;> simp only [acc] <;> omega
  · rcases (show k = 0 ∨ k = 1 by omega) with rfl | rfl <;> simp only [acc] <;> omega
  · obtain rfl : k = 0 := by omega
    simp only [acc]; omega
end Go.Proofs.Ytaaheinjalakmaa.Rn
