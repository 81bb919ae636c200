/- Plain facts about numbers of as few bytes as they need, on numbers and lists of bytes. -/
import Derived.Laws.BitsAllLaws
import Derived.IntWalk
import Derived.Lib.BitFns
namespace Go.Proofs.Ytahckijanjbagaa.Vr

def put (n : Nat) : List UInt8 := if n < 128 then [UInt8.ofNat n] else UInt8.ofNat (n % 128 + 128) :: put (n / 128)
termination_by n
decreasing_by omega
/- from index i on, with acc gathered: the error, the number, how many bytes -/
def nx : Nat → Nat → List UInt8 → Int × Nat × Nat
  | _, _, [] => (4, 0, 0)
  | i, acc, b :: l =>
    if i = 9 ∧ 1 < b.toNat then (3, 0, 0)
    else if b.toNat = 0 ∧ 0 < i then (5, 0, 0)
    else if b.toNat < 128 then (0, acc + b.toNat * 128 ^ i, i + 1)
    else nx (i + 1) (acc + (b.toNat - 128) * 128 ^ i) l

theorem put_lt {n : Nat} (h : n < 128) : put n = [UInt8.ofNat n] := by rw [put, if_pos h]
theorem put_ge {n : Nat} (h : ¬ n < 128) : put n = UInt8.ofNat (n % 128 + 128) :: put (n / 128) := by rw [put, if_neg h]
theorem u8_small {n : Nat} (h : n < 256) : (UInt8.ofNat n).toNat = n := by simp; omega
theorem put_ne (n : Nat) : put n ≠ [] := by
  by_cases h : n < 128
  · rw [put_lt h]; simp
  · rw [put_ge h]; simp
theorem put_pos (n : Nat) : 0 < (put n).length := List.length_pos_iff.2 (put_ne n)

theorem pow_succ' (i : Nat) : 128 ^ (i + 1) = 128 * 128 ^ i := by rw [Nat.pow_succ, Nat.mul_comm]
theorem pow9 : (128 : Nat) ^ 9 = 9223372036854775808 := rfl
theorem step_mul (n i : Nat) : (n / 128) * 128 ^ (i + 1) + (n % 128) * 128 ^ i = n * 128 ^ i := by
  rw [pow_succ', ← Nat.mul_assoc, ← Nat.add_mul]; congr 1; omega
theorem fits_nine {n i : Nat} (h : n * 128 ^ i < 18446744073709551616) (hi : i = 9) : n ≤ 1 := by
  subst hi; rw [pow9] at h; omega
theorem nx_put (n : Nat) : ∀ (i acc : Nat) (r : List UInt8), n * 128 ^ i < 18446744073709551616 → (0 < i → 0 < n) →
    nx i acc (put n ++ r) = (0, acc + n * 128 ^ i, i + (put n).length) := by
  induction n using Nat.strongRecOn with
  | ind n ih =>
    intro i acc r hb hp
    by_cases h : n < 128
    · rw [put_lt h]
      simp only [List.cons_append, List.nil_append, nx, List.length_cons, List.length_nil]
      rw [u8_small (by omega)]
      rw [if_neg (by rintro ⟨rfl, h1⟩; have := fits_nine hb rfl; omega), if_neg (by rintro ⟨h1, h2⟩; have := hp h2; omega), if_pos h]
    · rw [put_ge h]
      simp only [List.cons_append, nx, List.length_cons]
      rw [u8_small (by omega)]
      have hd : (n / 128) * 128 ^ (i + 1) < 18446744073709551616 := by have := step_mul n i; omega
      rw [if_neg (by rintro ⟨rfl, h1⟩; have := fits_nine hb rfl; omega), if_neg (by omega), if_neg (by omega), ih (n / 128) (by omega) _ _ _ hd (fun _ => by omega)]
      have e := step_mul n i
      rw [show n % 128 + 128 - 128 = n % 128 from by omega]
      ext <;> simp <;> omega
theorem nx_used : ∀ (l : List UInt8) (i acc v u : Nat) (e : Int), nx i acc l = (e, v, u) → (e = 0 → i < u ∧ u ≤ i + l.length) ∧ (e ≠ 0 → v = 0 ∧ u = 0) ∧ (e = 0 ∨ e = 3 ∨ e = 4 ∨ e = 5) := by
  intro l
  induction l with
  | nil => intro i acc v u e h; simp only [nx, Prod.mk.injEq] at h; obtain ⟨rfl, rfl, rfl⟩ := h; simp
  | cons b l ih =>
    intro i acc v u e h
    simp only [nx] at h
    by_cases h1 : i = 9 ∧ 1 < b.toNat
    · rw [if_pos h1] at h; simp only [Prod.mk.injEq] at h; obtain ⟨rfl, rfl, rfl⟩ := h; simp
    · rw [if_neg h1] at h
      by_cases h2 : b.toNat = 0 ∧ 0 < i
      · rw [if_pos h2] at h; simp only [Prod.mk.injEq] at h; obtain ⟨rfl, rfl, rfl⟩ := h; simp
      · rw [if_neg h2] at h
        by_cases h3 : b.toNat < 128
        · rw [if_pos h3] at h; simp only [Prod.mk.injEq] at h; obtain ⟨rfl, rfl, rfl⟩ := h; simp
        · rw [if_neg h3] at h
          obtain ⟨a1, a2, a3⟩ := ih _ _ _ _ _ h
          refine ⟨fun he => ?_, a2, a3⟩
          have := a1 he; simp only [List.length_cons]; omega
theorem u8_back {b : UInt8} : UInt8.ofNat b.toNat = b := by simp
/- whatever is read is a number's own bytes -/
theorem nx_inv : ∀ (l : List UInt8) (i acc v u : Nat), i ≤ 9 → nx i acc l = (0, v, u) →
    ∃ n, l.take (u - i) = put n ∧ v = acc + n * 128 ^ i ∧ n * 128 ^ i < 18446744073709551616 ∧ (0 < i → 0 < n) := by
  intro l
  induction l with
  | nil => intro i acc v u _ h; simp [nx] at h
  | cons b l ih =>
    intro i acc v u hi h
    simp only [nx] at h
    by_cases h1 : i = 9 ∧ 1 < b.toNat
    · rw [if_pos h1] at h; simp at h
    · rw [if_neg h1] at h
      by_cases h2 : b.toNat = 0 ∧ 0 < i
      · rw [if_pos h2] at h; simp at h
      · rw [if_neg h2] at h
        have hpw : 128 ^ i * 128 ≤ 9223372036854775808 * 128 := by
          have : 128 ^ i ≤ 128 ^ 9 := Nat.pow_le_pow_right (by omega) hi
          rw [pow9] at this; omega
        by_cases h3 : b.toNat < 128
        · rw [if_pos h3] at h; simp only [Prod.mk.injEq] at h; obtain ⟨-, rfl, rfl⟩ := h
          refine ⟨b.toNat, ?_, rfl, ?_, ?_⟩
          · rw [show i + 1 - i = 1 from by omega, put_lt h3, u8_back]; simp
          · by_cases hi9 : i = 9
            · subst hi9; rw [pow9]; omega
            · have h8 : 128 ^ i ≤ 128 ^ 8 := Nat.pow_le_pow_right (by omega) (by omega)
              have e8 : (128 : Nat) ^ 8 = 72057594037927936 := rfl
              have := Nat.mul_le_mul (show b.toNat ≤ 127 by omega) h8
              rw [e8] at this; omega
          · intro hp; omega
        · rw [if_neg h3] at h
          have hi8 : i ≠ 9 := fun e => h1 ⟨e, by omega⟩
          have hu := (nx_used _ _ _ _ _ _ h).1 rfl
          obtain ⟨n, a1, a2, a3, a4⟩ := ih _ _ _ _ (by omega) h
          have hb := b.toNat_lt
          have hn := a4 (by omega)
          have hs := step_mul (n * 128 + (b.toNat - 128)) i
          rw [show (n * 128 + (b.toNat - 128)) / 128 = n from by omega, show (n * 128 + (b.toNat - 128)) % 128 = b.toNat - 128 from by omega] at hs
          refine ⟨n * 128 + (b.toNat - 128), ?_, ?_, ?_, fun _ => by omega⟩
          · rw [put_ge (by omega), show (n * 128 + (b.toNat - 128)) / 128 = n from by omega, show (n * 128 + (b.toNat - 128)) % 128 + 128 = b.toNat from by omega, u8_back, ← a1]
            rw [show u - i = (u - (i + 1)) + 1 from by omega, List.take_succ_cons]
          · rw [a2, ← hs]; omega
          · have h7 : (b.toNat - 128) * 128 ^ i < 128 ^ i * 128 := by rw [Nat.mul_comm (128 ^ i)]; exact Nat.mul_lt_mul_of_pos_right (by omega) (Nat.pow_pos (by omega))
            have hk : n * 128 ^ (i + 1) = n * 128 * 128 ^ i := by rw [pow_succ', Nat.mul_assoc]
            rw [← hs]
            have hdvd : n * 128 ^ (i + 1) + 128 ^ (i + 1) ≤ 18446744073709551616 := by
              have hsplit : 18446744073709551616 = 128 ^ (i + 1) * (2 ^ (64 - 7 * (i + 1))) := by
                rw [show (128 : Nat) = 2 ^ 7 from rfl, ← Nat.pow_mul, ← Nat.pow_add]
                rw [show 7 * (i + 1) + (64 - 7 * (i + 1)) = 64 from by omega]
              rw [hsplit] at a3 ⊢
              rw [Nat.mul_comm n] at a3 ⊢
              have := Nat.lt_of_mul_lt_mul_left a3
              rw [← Nat.mul_succ]; exact Nat.mul_le_mul_left _ this
            rw [pow_succ'] at hdvd ⊢; omega
/- the beginning of a number alone is short -/
theorem nx_cut (n : Nat) : ∀ (i acc k : Nat), n * 128 ^ i < 18446744073709551616 → k < (put n).length → nx i acc ((put n).take k) = (4, 0, 0) := by
  induction n using Nat.strongRecOn with
  | ind n ih =>
    intro i acc k hb hk
    by_cases h : n < 128
    · rw [put_lt h] at hk ⊢; obtain rfl : k = 0 := by simpa using hk
      simp [nx]
    · rw [put_ge h] at hk ⊢
      cases k with
      | zero => simp [nx]
      | succ k =>
        simp only [List.take_succ_cons, nx]
        rw [u8_small (by omega)]
        have hd : (n / 128) * 128 ^ (i + 1) < 18446744073709551616 := by have := step_mul n i; omega
        rw [if_neg (by rintro ⟨rfl, h1⟩; have := fits_nine hb rfl; omega), if_neg (by omega), if_neg (by omega)]
        exact ih (n / 128) (by omega) _ _ _ hd (by simpa using hk)
theorem put_inj {a b : Nat} (ha : a < 18446744073709551616) (hb : b < 18446744073709551616) (h : put a = put b) : a = b := by
  have h1 := nx_put a 0 0 [] (by simpa using ha) (by omega)
  have h2 := nx_put b 0 0 [] (by simpa using hb) (by omega)
  rw [h, h2] at h1
  have := congrArg (·.2.1) h1
  simpa using this.symm
theorem nx_val {l : List UInt8} {v u : Nat} (h : nx 0 0 l = (0, v, u)) : l.take u = put v ∧ v < 18446744073709551616 := by
  obtain ⟨n, a1, a2, a3, _⟩ := nx_inv l 0 0 v u (by omega) h
  simp at a2 a3 a1; subst a2; exact ⟨a1, a3⟩
theorem put_len (n : Nat) : n < 128 ^ (put n).length ∧ (1 < (put n).length → 128 ^ ((put n).length - 1) ≤ n) := by
  induction n using Nat.strongRecOn with
  | ind n ih =>
    by_cases h : n < 128
    · rw [put_lt h]; simp; omega
    · rw [put_ge h]
      obtain ⟨a, b⟩ := ih (n / 128) (by omega)
      have hp := put_pos (n / 128)
      simp only [List.length_cons]
      rw [pow_succ', show (put (n / 128)).length + 1 - 1 = (put (n / 128)).length from by omega]
      refine ⟨by omega, fun _ => ?_⟩
      by_cases h1 : 1 < (put (n / 128)).length
      · have := b h1
        have e : (put (n / 128)).length = ((put (n / 128)).length - 1) + 1 := by omega
        rw [e, pow_succ']; omega
      · rw [show (put (n / 128)).length = 1 from by omega]; omega
theorem put_len_le {n : Nat} (h : n < 18446744073709551616) : (put n).length ≤ 10 := by
  by_cases h1 : 1 < (put n).length
  · have := (put_len n).2 h1
    by_cases h2 : (put n).length ≤ 10
    · exact h2
    · have := Nat.pow_le_pow_right (show 0 < 128 by omega) (show 10 ≤ (put n).length - 1 by omega)
      have e : (128 : Nat) ^ 10 = 1180591620717411303424 := rfl
      omega
  · omega
/- how many bytes a number needs -/
theorem put_len_bits (n : Nat) : n < 18446744073709551616 → (put n).length = max 1 ((Lib.bitLen n + 7 - 1) / 7) := by
  induction n using Nat.strongRecOn with
  | ind n ih =>
    intro hn
    by_cases h : n < 128
    · rw [put_lt h]
      have := Lib.bitLen_le n 7 (by omega) (by simpa using h)
      simp only [List.length_cons, List.length_nil]; omega
    · rw [put_ge h]
      have hs := Lib.bitLen_shift 7 n (by omega) (by simpa using hn)
      have h2 := ih (n / 128) (by omega) (by omega)
      have hp : 1 ≤ Lib.bitLen (n / 128) := by
        rw [Lib.bitLen_half (n / 128) (by omega) (by simp; omega)]; omega
      simp only [List.length_cons]
      rw [h2, hs, show (2 : Nat) ^ 7 = 128 from rfl]; omega
theorem bits_bd (n : Nat) (h : n < 18446744073709551616) : Lib.bitLen n ≤ 64 := Lib.bitLen_le n 64 (by omega) (by simpa using h)
/- what the rounds write: k bytes, each with what follows -/
def wr (n k : Nat) : List UInt8 := (List.range k).map fun j => UInt8.ofNat (n / 128 ^ j % 128 + 128)
theorem wr_len (n k : Nat) : (wr n k).length = k := by simp [wr]
theorem wr_succ (n k : Nat) : wr n (k + 1) = wr n k ++ [UInt8.ofNat (n / 128 ^ k % 128 + 128)] := by simp [wr, List.range_succ]
theorem wr_put (n : Nat) : put n = wr n ((put n).length - 1) ++ [UInt8.ofNat (n / 128 ^ ((put n).length - 1) % 128)] := by
  induction n using Nat.strongRecOn with
  | ind n ih =>
    by_cases h : n < 128
    · rw [put_lt h]; simp [wr, Nat.mod_eq_of_lt h]
    · have h2 := ih (n / 128) (by omega)
      rw [put_ge h]
      have hp := put_pos (n / 128)
      obtain ⟨L, hL⟩ : ∃ L, (put (n / 128)).length = L + 1 := ⟨(put (n / 128)).length - 1, by omega⟩
      simp only [List.length_cons]
      rw [hL] at h2 ⊢
      rw [show L + 1 + 1 - 1 = L + 1 from rfl] 
      rw [show L + 1 - 1 = L from rfl] at h2
      rw [h2]
      have hw : wr n (L + 1) = UInt8.ofNat (n % 128 + 128) :: wr (n / 128) L := by
        unfold wr; rw [List.range_succ_eq_map]; simp only [List.map_cons, List.map_map, Nat.pow_zero, Nat.div_one, List.cons.injEq, true_and]
        apply List.map_congr_left
        intro j _
        simp only [Function.comp]
        rw [Nat.succ_eq_add_one, pow_succ', Nat.div_div_eq_div_mul]
      rw [hw, pow_succ', Nat.div_div_eq_div_mul]; rfl
theorem or_128 (b : Nat) (hb : b < 256) : bits .or .u8 (b : Int) 128 = ((b % 128 + 128 : Nat) : Int) := by
  have := u8_or_nat b 128 hb (by omega)
  have hx : ∀ x : Fin 256, x.val ||| 128 = x.val % 128 + 128 := by decide +kernel
  rw [hx ⟨b, hb⟩] at this
  exact this
theorem or_256 (m : Nat) : bits .or .u8 ((m : Int) % 256) 128 = ((m % 128 + 128 : Nat) : Int) := by
  have := or_128 (m % 256) (by omega)
  rw [show m % 256 % 128 = m % 128 from by omega] at this
  exact this
/- k bytes are gone through -/
def At (l : List UInt8) (k acc : Nat) : Prop := k ≤ l.length ∧ k ≤ 9 ∧ acc < 128 ^ k ∧ nx 0 0 l = nx k acc (l.drop k)
theorem At.start (l : List UInt8) : At l 0 0 := ⟨Nat.zero_le _, by omega, by simp, by simp⟩
theorem At.stop {l : List UInt8} {k acc : Nat} (h : At l k acc) (hk : k = l.length) : nx 0 0 l = (4, 0, 0) := by
  rw [h.2.2.2, hk, List.drop_length]; rfl
theorem At.over {l : List UInt8} {k acc : Nat} (h : At l k acc) (hk : k < l.length) (h9 : 9 ≤ k) (hb : 1 < l[k].toNat) : nx 0 0 l = (3, 0, 0) := by
  have := h.2.1
  rw [h.2.2.2, List.drop_eq_getElem_cons hk, nx, if_pos ⟨by omega, hb⟩]
theorem At.long {l : List UInt8} {k acc : Nat} (h : At l k acc) (hk : k < l.length) (h0 : 1 ≤ k) (hb : l[k].toNat = 0) : nx 0 0 l = (5, 0, 0) := by
  rw [h.2.2.2, List.drop_eq_getElem_cons hk, nx, if_neg (by omega), if_pos ⟨hb, h0⟩]
theorem At.done {l : List UInt8} {k acc : Nat} (h : At l k acc) (hk : k < l.length) (hb : l[k].toNat < 128) (h0 : k ≤ 0 ∨ 0 < l[k].toNat) (h9 : k ≤ 8 ∨ l[k].toNat ≤ 1) :
    nx 0 0 l = (0, acc + l[k].toNat % 128 * 128 ^ k, k + 1) := by
  rw [h.2.2.2, List.drop_eq_getElem_cons hk, nx, if_neg (by omega), if_neg (by omega), if_pos hb, Nat.mod_eq_of_lt hb]
theorem At.more {l : List UInt8} {k acc : Nat} (h : At l k acc) (hk : k < l.length) (h8 : k ≤ 8) (hb : 128 ≤ l[k].toNat) :
    At l (k + 1) (acc + l[k].toNat % 128 * 128 ^ k) := by
  have hx := l[k].toNat_lt
  have h2 := h.2.2.1
  refine ⟨by omega, by omega, ?_, ?_⟩
  · rw [pow_succ']
    have := Nat.mul_le_mul_right (128 ^ k) (show l[k].toNat % 128 ≤ 127 by omega)
    omega
  · rw [h.2.2.2, List.drop_eq_getElem_cons hk, nx, if_neg (by omega), if_neg (by omega), if_neg (by omega)]
    rw [show l[k].toNat - 128 = l[k].toNat % 128 from by omega]
theorem mul_fits {v k : Nat} (hk : k ≤ 8) (hv : v < 128) : v * 128 ^ k < 18446744073709551616 := by
  have h8 : 128 ^ k ≤ 128 ^ 8 := Nat.pow_le_pow_right (by omega) hk
  have e8 : (128 : Nat) ^ 8 = 72057594037927936 := rfl
  have := Nat.mul_le_mul (show v ≤ 127 by omega) h8
  rw [e8] at this; omega
theorem mul_fits' {v k : Nat} (hk : k ≤ 9) (hv : v ≤ 1) : v * 128 ^ k < 18446744073709551616 := by
  have h8 : 128 ^ k ≤ 128 ^ 9 := Nat.pow_le_pow_right (by omega) hk
  have := Nat.mul_le_mul hv h8
  rw [pow9] at this; omega
theorem acc_fits {acc v k : Nat} (ha : acc < 128 ^ k) (hk : k ≤ 8) (hv : v < 128) : acc + v * 128 ^ k < 18446744073709551616 := by
  have := mul_fits hk hv
  have h8 : 128 ^ k ≤ 128 ^ 8 := Nat.pow_le_pow_right (by omega) hk
  have e8 : (128 : Nat) ^ 8 = 72057594037927936 := rfl
  have := Nat.mul_le_mul (show v ≤ 127 by omega) h8
  rw [e8] at this h8; omega
theorem acc_fits' {acc v k : Nat} (ha : acc < 128 ^ k) (hk : k ≤ 9) (hv : v ≤ 1) : acc + v * 128 ^ k < 18446744073709551616 := by
  have h8 : 128 ^ k ≤ 128 ^ 9 := Nat.pow_le_pow_right (by omega) hk
  have := Nat.mul_le_mul hv h8
  rw [pow9] at this h8; omega
theorem mul_any {b v k : Nat} (hk : k ≤ 9) (hv : v = b % 128) (h : k ≤ 8 ∨ b ≤ 1) : v * 128 ^ k < 18446744073709551616 := by
  rcases h with h | h
  · exact mul_fits h (by omega)
  · exact mul_fits' hk (by omega)
theorem acc_any {acc b v k : Nat} (ha : acc < 128 ^ k) (hk : k ≤ 9) (hv : v = b % 128) (h : k ≤ 8 ∨ b ≤ 1) : acc + v * 128 ^ k < 18446744073709551616 := by
  rcases h with h | h
  · exact acc_fits ha h (by omega)
  · exact acc_fits' ha hk (by omega)
theorem and_not (b : Nat) (hb : b < 256) : bits .andNot .u8 (b : Int) 128 = ((b % 128 : Nat) : Int) := by
  have := u8_andNot_nat b 128 hb (by omega)
  rw [show (255 - 128 : Nat) = 2 ^ 7 - 1 from rfl, Nat.and_two_pow_sub_one_eq_mod] at this
  exact this
theorem pow_two_seven (k : Nat) : (2 : Int) ^ (k * 7) = ((128 ^ k : Nat) : Int) := by
  rw [Nat.mul_comm, Int.pow_mul]; simp
theorem or_at (acc v k : Nat) (ha : acc < 128 ^ k) (hb : v * 128 ^ k < 18446744073709551616) (hc : acc + v * 128 ^ k < 18446744073709551616) :
    bits .or .u64 (acc : Int) (IntKind.u64.wrap ((v : Int) * 2 ^ (k * 7))) = ((acc + v * 128 ^ k : Nat) : Int) := by
  have hw : IntKind.u64.wrap ((v : Int) * 2 ^ (k * 7)) = ((v * 128 ^ k : Nat) : Int) := by
    rw [pow_two_seven, ← Int.natCast_mul]
    exact IntWalk.u64_in _ ⟨by omega, by omega⟩
  rw [hw, u64_or_nat _ _ (by omega) hb, Nat.or_comm, nat_join (7 * k) _ _ (by rw [Nat.pow_mul]; simp) (by rw [Nat.pow_mul]; simpa using ha), Nat.add_comm]
theorem or_at' (acc b v k : Nat) (hv : v = b % 128) (ha : acc < 128 ^ k) (hb : v * 128 ^ k < 18446744073709551616) (hc : acc + v * 128 ^ k < 18446744073709551616) :
    bits .or .u64 (acc : Int) (IntKind.u64.wrap ((b : Int) % 128 * 2 ^ (7 * k))) = ((acc + v * 128 ^ k : Nat) : Int) := by
  have := or_at acc v k ha hb hc
  rw [Nat.mul_comm 7 k]; rw [hv] at this ⊢; exact this
def nV (s : ByteArray) : Nat := (nx 0 0 s.data.toList).2.1
def nE (s : ByteArray) : Int := (nx 0 0 s.data.toList).1
def nR (s : ByteArray) : ByteArray := if nE s = 0 then s.extract (nx 0 0 s.data.toList).2.2 s.size else ⟨#[]⟩
theorem n_of {s : ByteArray} {v u : Nat} {e : Int} (h : nx 0 0 s.data.toList = (e, v, u)) : nV s = v ∧ nE s = e ∧ nR s = if e = 0 then s.extract u s.size else ⟨#[]⟩ := by
  unfold nR nV nE; rw [h]; exact ⟨rfl, rfl, rfl⟩
theorem n_bad {s : ByteArray} {e : Int} (h : nx 0 0 s.data.toList = (e, 0, 0)) (he : ¬ e = 0) : nV s = 0 ∧ nE s = e ∧ nR s = ⟨#[]⟩ := by
  have := n_of h; rw [if_neg he] at this; exact this
theorem n_good {s : ByteArray} {v u : Nat} (h : nx 0 0 s.data.toList = (0, v, u)) : nV s = v ∧ nE s = 0 ∧ nR s = s.extract u s.size := by
  have := n_of h; rw [if_pos rfl] at this; exact this
/- what a reader tells, and what is behind -/
def next (s : ByteArray) (e : Int) : Nat × ByteArray × Int := if e = 0 then (nV s, nR s, nE s) else (0, ⟨#[]⟩, e)
def bytes (s : ByteArray) (e n : Int) : ByteArray × ByteArray × Int :=
  if e = 0 then (if n < 0 ∨ (s.size : Int) < n then (⟨#[]⟩, ⟨#[]⟩, 4) else (s.extract 0 n.toNat, s.extract n.toNat s.size, 0)) else (⟨#[]⟩, ⟨#[]⟩, e)
def text (s : ByteArray) (e : Int) (m : Nat) : ByteArray × ByteArray × Int :=
  if m < (next s e).1 then (⟨#[]⟩, ⟨#[]⟩, 3) else if (next s e).2.1.size < (next s e).1 then (⟨#[]⟩, ⟨#[]⟩, 4)
  else bytes (next s e).2.1 (next s e).2.2 ((next s e).1 : Nat)
def zeros (l : List UInt8) : Bool := l.all (· == 0)
def pad (s : ByteArray) (e n : Int) : ByteArray × Int :=
  if zeros (bytes s e n).1.data.toList = true then ((bytes s e n).2.1, (bytes s e n).2.2) else (⟨#[]⟩, 9)
theorem next_zero (s : ByteArray) : next s 0 = (nV s, nR s, nE s) := if_pos rfl
theorem next_err (s : ByteArray) {e : Int} (h : ¬ e = 0) : next s e = (0, ⟨#[]⟩, e) := if_neg h
theorem nV_bd (s : ByteArray) : nV s < 18446744073709551616 := by
  unfold nV
  generalize h : nx 0 0 s.data.toList = x
  obtain ⟨e, v, u⟩ := x
  have hu := (nx_used _ _ _ _ _ _ h)
  rcases hu.2.2 with rfl | he
  · exact (nx_val h).2
  · rw [(hu.2.1 (by omega)).1]; show (0 : Nat) < 18446744073709551616; omega
theorem size_extract_le (s : ByteArray) (a b : Nat) : (s.extract a b).size ≤ s.size := by simp [ByteArray.size_extract]; omega
theorem nR_le (s : ByteArray) : (nR s).size ≤ s.size := by
  unfold nR; split
  · exact size_extract_le _ _ _
  · exact Nat.zero_le _
theorem next_bd {s r : ByteArray} {e e' : Int} {v : Nat} (h : next s e = (v, r, e')) : v < 18446744073709551616 ∧ r.size ≤ s.size := by
  by_cases he : e = 0
  · subst he; rw [next_zero] at h; simp only [Prod.mk.injEq] at h; obtain ⟨rfl, rfl, rfl⟩ := h; exact ⟨nV_bd s, nR_le s⟩
  · rw [next_err s he] at h; simp only [Prod.mk.injEq] at h; obtain ⟨rfl, rfl, rfl⟩ := h; exact ⟨by decide, Nat.zero_le _⟩
theorem n_zero_of {s : ByteArray} (h : ¬ nE s = 0) : nV s = 0 := by
  unfold nE at h; unfold nV
  generalize hx : nx 0 0 s.data.toList = x at *
  obtain ⟨e, v, u⟩ := x
  exact ((nx_used _ _ _ _ _ _ hx).2.1 h).1
theorem next_zero_of {s r : ByteArray} {e e' : Int} {v : Nat} (h : next s e = (v, r, e')) (he : ¬ e' = 0) : v = 0 := by
  by_cases h0 : e = 0
  · subst h0; rw [next_zero] at h; simp only [Prod.mk.injEq] at h; obtain ⟨rfl, rfl, rfl⟩ := h; exact n_zero_of he
  · rw [next_err s h0] at h; simp only [Prod.mk.injEq] at h; exact h.1.symm
theorem bytes_zero (s : ByteArray) {n : Int} (h0 : 0 ≤ n) (h1 : n ≤ (s.size : Int)) : bytes s 0 n = (s.extract 0 n.toNat, s.extract n.toNat s.size, 0) := by
  unfold bytes; rw [if_pos rfl, if_neg (by omega)]
theorem bytes_short (s : ByteArray) {n : Int} (h : n < 0 ∨ (s.size : Int) < n) : bytes s 0 n = (⟨#[]⟩, ⟨#[]⟩, 4) := by
  unfold bytes; rw [if_pos rfl, if_pos h]
theorem bytes_err (s : ByteArray) {e : Int} (n : Int) (h : ¬ e = 0) : bytes s e n = (⟨#[]⟩, ⟨#[]⟩, e) := if_neg h
theorem bytes_bd {s a r : ByteArray} {e e' n : Int} (h : bytes s e n = (a, r, e')) : a.size ≤ s.size ∧ r.size ≤ s.size := by
  unfold bytes at h
  split at h
  · split at h
    · simp only [Prod.mk.injEq] at h; obtain ⟨rfl, rfl, rfl⟩ := h; exact ⟨Nat.zero_le _, Nat.zero_le _⟩
    · simp only [Prod.mk.injEq] at h; obtain ⟨rfl, rfl, rfl⟩ := h; exact ⟨size_extract_le _ _ _, size_extract_le _ _ _⟩
  · simp only [Prod.mk.injEq] at h; obtain ⟨rfl, rfl, rfl⟩ := h; exact ⟨Nat.zero_le _, Nat.zero_le _⟩
theorem bytes_zero_of {s a r : ByteArray} {e e' n : Int} (h : bytes s e n = (a, r, e')) (he : ¬ e' = 0) : a = ⟨#[]⟩ := by
  unfold bytes at h
  split at h
  · split at h
    · simp only [Prod.mk.injEq] at h; exact h.1.symm
    · simp only [Prod.mk.injEq] at h; omega
  · simp only [Prod.mk.injEq] at h; exact h.1.symm
theorem text_big {s r : ByteArray} {e e' : Int} {v m : Nat} (h : next s e = (v, r, e')) (h1 : m < v) : text s e m = (⟨#[]⟩, ⟨#[]⟩, 3) := by
  unfold text; rw [h, if_pos h1]
theorem text_short {s r : ByteArray} {e e' : Int} {v m : Nat} (h : next s e = (v, r, e')) (h1 : v ≤ m) (h2 : r.size < v) : text s e m = (⟨#[]⟩, ⟨#[]⟩, 4) := by
  unfold text; rw [h, if_neg (by simp; omega), if_pos h2]
theorem text_ok {s r : ByteArray} {e e' : Int} {v m : Nat} (h : next s e = (v, r, e')) (h1 : v ≤ m) (h2 : v ≤ r.size) : text s e m = bytes r e' (v : Nat) := by
  unfold text; rw [h, if_neg (by simp; omega), if_neg (by simp; omega)]
theorem text_bd {s a r : ByteArray} {e e' : Int} {m : Nat} (h : text s e m = (a, r, e')) : a.size ≤ s.size ∧ r.size ≤ s.size := by
  generalize hx : next s e = x
  obtain ⟨v, q, e1⟩ := x
  have hb := next_bd hx
  by_cases h1 : v ≤ m
  · by_cases h2 : v ≤ q.size
    · rw [text_ok hx h1 h2] at h
      have := bytes_bd h; omega
    · rw [text_short hx h1 (by omega)] at h; simp only [Prod.mk.injEq] at h; obtain ⟨rfl, rfl, rfl⟩ := h; exact ⟨Nat.zero_le _, Nat.zero_le _⟩
  · rw [text_big hx (by omega)] at h; simp only [Prod.mk.injEq] at h; obtain ⟨rfl, rfl, rfl⟩ := h; exact ⟨Nat.zero_le _, Nat.zero_le _⟩
theorem pad_ok {s a r : ByteArray} {e e' n : Int} (h : bytes s e n = (a, r, e')) (hz : zeros a.data.toList = true) : pad s e n = (r, e') := by
  unfold pad; rw [h, if_pos hz]
theorem pad_bad {s a r : ByteArray} {e e' n : Int} (h : bytes s e n = (a, r, e')) (hz : zeros a.data.toList = false) : pad s e n = (⟨#[]⟩, 9) := by
  unfold pad; rw [h, if_neg (by simp [hz])]
theorem pad_bd {s r : ByteArray} {e e' n : Int} (h : pad s e n = (r, e')) : r.size ≤ s.size := by
  generalize hx : bytes s e n = x
  obtain ⟨a, q, e1⟩ := x
  have hb := bytes_bd hx
  cases hz : zeros a.data.toList with
  | true => rw [pad_ok hx hz] at h; simp only [Prod.mk.injEq] at h; obtain ⟨rfl, rfl⟩ := h; exact hb.2
  | false => rw [pad_bad hx hz] at h; simp only [Prod.mk.injEq] at h; obtain ⟨rfl, rfl⟩ := h; exact Nat.zero_le _
theorem zeros_take {l : List UInt8} {k : Nat} (h : zeros (l.take k) = true) (hk : k < l.length) (h0 : l[k].toNat = 0) : zeros (l.take (k + 1)) = true := by
  rw [List.take_succ_eq_append_getElem hk]
  have e : l[k] = 0 := UInt8.toNat_inj.1 h0
  unfold zeros at h ⊢; rw [List.all_append, h, e]; rfl
theorem zeros_not {l : List UInt8} {k : Nat} (hk : k < l.length) (h0 : ¬ l[k].toNat = 0) : zeros l = false := by
  unfold zeros
  rw [List.all_eq_false]
  exact ⟨l[k], List.getElem_mem hk, by simp; intro h; exact h0 (by rw [h]; rfl)⟩
/- what a reader ends with -/
def fin (s : ByteArray) (e : Int) : Int := if e = 0 then (if s.toList = [] then 0 else 8) else e
theorem fin_none {s : ByteArray} (h : s.toList = []) : fin s 0 = 0 := by simp [fin, h]
theorem fin_some {s : ByteArray} (h : ¬ s.toList = []) : fin s 0 = 8 := by simp [fin, h]
theorem fin_err {s : ByteArray} {e : Int} (h : ¬ e = 0) : fin s e = e := by simp [fin, h]
end Go.Proofs.Ytahckijanjbagaa.Vr
