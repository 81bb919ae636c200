/- Plain facts about texts of such numbers, one behind the other. -/
import Derived.Test.YtahckijanjbagaaVaryM
namespace Go.Proofs.Ytahckijanjbagaa.Vr

abbrev str (l : List UInt8) : ByteArray := ⟨l.toArray⟩
theorem str_toList (s : ByteArray) : str s.data.toList = s := by cases s; simp [str]
theorem str_data (l : List UInt8) : (str l).data.toList = l := by simp [str]
theorem str_size (l : List UInt8) : (str l).size = l.length := by simp only [str, ByteArray.size, List.size_toArray]
theorem str_append (l m : List UInt8) : str l ++ str m = str (l ++ m) := by
  apply ByteArray.ext
  rw [ByteArray.data_append]; simp [str]
theorem str_of {s : ByteArray} {l : List UInt8} (h : s.data.toList = l) : s = str l := by rw [← h, str_toList]
theorem str_extract (l : List UInt8) (a b : Nat) : (str l).extract a b = str ((l.take b).drop a) := by
  apply ByteArray.ext
  rw [ByteArray.data_extract]
  apply Array.toList_inj.1
  simp [str, List.extract_eq_take_drop, List.drop_take]
theorem nx_next {l : List UInt8} {v u : Nat} (h : nx 0 0 l = (0, v, u)) : next (str l) 0 = (v, str (l.drop u), 0) := by
  have := n_good (s := str l) (by rw [str_data]; exact h)
  rw [next_zero, this.1, this.2.1, this.2.2, str_extract, str_size, List.take_length]
theorem nx_next_bad {l : List UInt8} {e : Int} (h : nx 0 0 l = (e, 0, 0)) (he : ¬ e = 0) : next (str l) 0 = (0, str [], e) := by
  have := n_bad (s := str l) (by rw [str_data]; exact h) he
  rw [next_zero, this.1, this.2.1, this.2.2]
theorem next_str {n : Nat} (hn : n < 18446744073709551616) (r : List UInt8) : next (str (put n ++ r)) 0 = (n, str r, 0) := by
  have := nx_put n 0 0 r (by simpa using hn) (by omega)
  simp only [Nat.pow_zero, Nat.mul_one, Nat.zero_add] at this
  rw [nx_next this]; simp
theorem next_cut {n k : Nat} (hn : n < 18446744073709551616) (hk : k < (put n).length) : next (str ((put n).take k)) 0 = (0, str [], 4) :=
  nx_next_bad (nx_cut n 0 0 k (by simpa using hn) hk) (by decide)
theorem text_str {s : List UInt8} {m : Nat} (hs : s.length < 18446744073709551616) (hm : s.length ≤ m) (r : List UInt8) : text (str (put s.length ++ (s ++ r))) 0 m = (str s, str r, 0) := by
  rw [text_ok (next_str hs (s ++ r)) hm (by rw [str_size]; simp), bytes_zero _ (by omega) (by rw [str_size]; simp; omega), str_extract, str_extract, str_size]
  simp
  rw [← List.length_append, List.take_length, List.drop_left]
theorem text_over {s : List UInt8} {m : Nat} (hs : s.length < 18446744073709551616) (hm : m < s.length) (r : List UInt8) : text (str (put s.length ++ r)) 0 m = (str [], str [], 3) :=
  text_big (next_str hs r) hm
theorem text_less {s : List UInt8} {m k : Nat} (hs : s.length < 18446744073709551616) (hm : s.length ≤ m) (hk : k < s.length) : text (str (put s.length ++ s.take k)) 0 m = (str [], str [], 4) :=
  text_short (next_str hs _) hm (by rw [str_size]; simp; omega)
theorem text_none (e : Int) (he : ¬ e = 0) (m : Nat) : text (str []) e m = (str [], str [], e) := by
  rw [text_ok (next_err (str []) he) (Nat.zero_le _) (Nat.zero_le _), bytes_err _ _ he]
theorem text_cut {n k m : Nat} (hn : n < 18446744073709551616) (hk : k < (put n).length) : text (str ((put n).take k)) 0 m = (str [], str [], 4) := by
  rw [text_ok (next_cut hn hk) (Nat.zero_le _) (Nat.zero_le _), bytes_err _ _ (by decide)]
theorem text_any_cut {s : List UInt8} {m k : Nat} (hs : s.length < 18446744073709551616) (hk : k < (put s.length ++ s).length) :
    text (str ((put s.length ++ s).take k)) 0 m = (str [], str [], if (put s.length).length ≤ k ∧ m < s.length then 3 else 4) := by
  by_cases h : k < (put s.length).length
  · rw [List.take_append_of_le_length (by omega), text_cut hs h, if_neg (by omega)]
  · obtain ⟨j, rfl⟩ : ∃ j, k = (put s.length).length + j := ⟨k - (put s.length).length, by omega⟩
    rw [List.take_length_add_append]
    have hj : j < s.length := by simp at hk; omega
    by_cases hm : m < s.length
    · rw [text_over hs hm, if_pos ⟨by omega, hm⟩]
    · rw [text_less hs (by omega) hj, if_neg (by omega)]
theorem texts {s T : ByteArray} {m k : Nat} (hs : s.size < 18446744073709551616) (hT : (⟨(put s.size).toArray⟩ : ByteArray) ++ s = T) (hk : k < T.size) :
    T.size = (put s.size).length + s.size ∧ (s.size ≤ m → text (T ++ ⟨#[120]⟩) 0 m = (s, ⟨#[120]⟩, 0)) ∧ (m < s.size → text (T ++ ⟨#[120]⟩) 0 m = (⟨#[]⟩, ⟨#[]⟩, 3)) ∧
    text (T.extract 0 k) 0 m = (⟨#[]⟩, ⟨#[]⟩, if (put s.size).length ≤ k ∧ m < s.size then 3 else 4) := by
  have e1 : s.size = s.data.toList.length := by rw [Array.length_toList]; rfl
  have e2 : T = str (put s.size ++ s.data.toList) := by rw [← hT, ← str_append, str_toList]
  have e3 : T ++ (⟨#[120]⟩ : ByteArray) = str (put s.size ++ (s.data.toList ++ [120])) := by
    rw [e2, show (⟨#[120]⟩ : ByteArray) = str [120] from rfl, str_append, List.append_assoc]
  have e4 : T.size = (put s.size).length + s.size := by rw [e2, str_size, List.length_append, ← e1]
  refine ⟨e4, fun h => ?_, fun h => ?_, ?_⟩
  · rw [e3, e1, text_str (by omega) (by omega), str_toList]
  · rw [e3, e1, text_over (by omega) (by omega)]
  · rw [e2, str_extract, List.drop_zero, e1, text_any_cut (by omega) (by rw [List.length_append, ← e1]; omega)]
theorem next_good {s r : ByteArray} {v : Nat} (h : next s 0 = (v, r, 0)) : r.size < s.size ∧ s.extract 0 (s.size - r.size) = ⟨(put v).toArray⟩ ∧ v < 18446744073709551616 := by
  rw [next_zero] at h
  simp only [Prod.mk.injEq] at h
  obtain ⟨hv, hr, he⟩ := h
  generalize hx : nx 0 0 s.data.toList = x
  obtain ⟨e, v', u⟩ := x
  have hn := n_of hx
  rw [hn.1] at hv; rw [hn.2.1] at he; subst he; subst hv
  rw [hn.2.2, if_pos rfl] at hr
  have hu := (nx_used _ _ _ _ _ _ hx).1 rfl
  have hw := nx_val hx
  have hl : s.data.toList.length = s.size := by rw [Array.length_toList]; rfl
  have hrs : r.size = s.size - u := by rw [← hr, ByteArray.size_extract]; omega
  refine ⟨by omega, ?_, hw.2⟩
  rw [show s.size - r.size = u from by omega, ← hw.1]
  conv => lhs; rw [← str_toList s]
  rw [str_extract, List.drop_zero]
theorem next_fail {s r : ByteArray} {v : Nat} {e : Int} (h : next s 0 = (v, r, e)) (he : ¬ e = 0) : v = 0 ∧ r = ⟨#[]⟩ := by
  rw [next_zero] at h
  simp only [Prod.mk.injEq] at h
  obtain ⟨hv, hr, h2⟩ := h
  subst h2
  have h3 := n_zero_of he
  unfold nR at hr
  rw [if_neg he] at hr
  exact ⟨by omega, hr.symm⟩
theorem put_shift {n : Nat} : n / 2 ^ (7 * (put n).length) = 0 := by
  rw [Nat.pow_mul]; exact Nat.div_eq_of_lt (put_len n).1
theorem put_shift' {n : Nat} (h : 1 < (put n).length) : ¬ n / 2 ^ (7 * ((put n).length - 1)) = 0 := by
  have := (put_len n).2 h
  rw [Nat.pow_mul]
  have hp : 0 < (128 : Nat) ^ ((put n).length - 1) := Nat.pow_pos (by omega)
  have := Nat.div_pos this hp
  show ¬ n / 128 ^ ((put n).length - 1) = 0
  omega
/- a byte of 0 behind bytes that go on; a last byte that is too great -/
theorem nx_conts (r : List UInt8) : ∀ (c : List UInt8) (i acc : Nat), (∀ b ∈ c, 128 ≤ b.toNat) → i + c.length ≤ 9 → 0 < i + c.length → nx i acc (c ++ 0 :: r) = (5, 0, 0) := by
  intro c
  induction c with
  | nil => intro i acc _ h1 h2; simp at h2; simp [nx, h2]
  | cons b c ih =>
    intro i acc hb h1 h2
    have hb1 := hb b (by simp)
    simp only [List.length_cons] at h1
    simp only [List.cons_append, nx]
    rw [if_neg (by omega), if_neg (by omega), if_neg (by omega)]
    exact ih _ _ (fun x hx => hb x (by simp [hx])) (by omega) (by omega)
theorem nx_nines (x : UInt8) (r : List UInt8) (hx : 1 < x.toNat) : ∀ (k i acc : Nat), i + k = 9 → nx i acc (List.replicate k 255 ++ x :: r) = (3, 0, 0) := by
  intro k
  induction k with
  | zero => intro i acc h; simp at h; simp [nx, h, hx]
  | succ k ih =>
    intro i acc h
    simp only [List.replicate_succ, List.cons_append, nx]
    have : (255 : UInt8).toNat = 255 := rfl
    rw [this, if_neg (by omega), if_neg (by omega), if_neg (by omega)]
    exact ih _ _ (by omega)
theorem wr_ge (n k : Nat) : ∀ b ∈ wr n k, 128 ≤ b.toNat := by
  intro b hb
  unfold wr at hb
  rw [List.mem_map] at hb
  obtain ⟨j, _, rfl⟩ := hb
  rw [u8_small (by omega)]; omega
theorem long_next {c r : List UInt8} (h : ∀ b ∈ c, 128 ≤ b.toNat) (h0 : 0 < c.length) (h9 : c.length ≤ 9) : next (str c ++ str (0 :: r)) 0 = (0, str [], 5) := by
  rw [str_append]; exact nx_next_bad (nx_conts r c 0 0 h (by omega) (by omega)) (by decide)
theorem over_next (x : UInt8) (hx : 1 < x.toNat) : next ((⟨#[255, 255, 255, 255, 255, 255, 255, 255, 255]⟩ : ByteArray) ++ str [x] ++ (⟨#[120]⟩ : ByteArray)) 0 = (0, str [], 3) := by
  show next (str (List.replicate 9 255) ++ str [x] ++ str [120]) 0 = _
  rw [str_append, str_append, List.append_assoc]
  exact nx_next_bad (nx_nines x [120] hx 9 0 0 rfl) (by decide)
/- what was put is read -/
def row (a : Nat) (s : List UInt8) (b : Nat) : List UInt8 := put a ++ (put s.length ++ (s ++ put b))
theorem row_cut {a b : Nat} {s : List UInt8} {k : Nat} (ha : a < 18446744073709551616) (hb : b < 18446744073709551616) (hs : s.length < 18446744073709551616) (hk : k < (row a s b).length)
    {v1 v3 : Nat} {r1 u2 r2 r3 : ByteArray} {e1 e2 e3 : Int} (h1 : next (str ((row a s b).take k)) 0 = (v1, r1, e1)) (h2 : text r1 e1 s.length = (u2, r2, e2)) (h3 : next r2 e2 = (v3, r3, e3)) : e3 = 4 := by
  unfold row at h1 hk
  by_cases c1 : k < (put a).length
  · rw [List.take_append_of_le_length (by omega), next_cut ha c1] at h1
    simp only [Prod.mk.injEq] at h1; obtain ⟨rfl, rfl, rfl⟩ := h1
    rw [text_none _ (by decide)] at h2
    simp only [Prod.mk.injEq] at h2; obtain ⟨rfl, rfl, rfl⟩ := h2
    rw [next_err _ (by decide)] at h3
    simp only [Prod.mk.injEq] at h3; exact h3.2.2.symm
  · obtain ⟨j, rfl⟩ : ∃ j, k = (put a).length + j := ⟨k - (put a).length, by omega⟩
    rw [List.take_length_add_append, next_str ha] at h1
    simp only [Prod.mk.injEq] at h1; obtain ⟨rfl, rfl, rfl⟩ := h1
    have hj : j < (put s.length ++ (s ++ put b)).length := by simp at hk ⊢; omega
    by_cases c2 : j < (put s.length ++ s).length
    · rw [← List.append_assoc, List.take_append_of_le_length (by omega), text_any_cut hs c2, if_neg (by omega)] at h2
      simp only [Prod.mk.injEq] at h2; obtain ⟨rfl, rfl, rfl⟩ := h2
      rw [next_err _ (by decide)] at h3
      simp only [Prod.mk.injEq] at h3; exact h3.2.2.symm
    · obtain ⟨i, rfl⟩ : ∃ i, j = (put s.length ++ s).length + i := ⟨j - (put s.length ++ s).length, by omega⟩
      rw [← List.append_assoc, List.take_length_add_append, List.append_assoc, text_str hs (Nat.le_refl _)] at h2
      simp only [Prod.mk.injEq] at h2; obtain ⟨rfl, rfl, rfl⟩ := h2
      rw [next_cut hb (by simp at hj; omega)] at h3
      simp only [Prod.mk.injEq] at h3; exact h3.2.2.symm
end Go.Proofs.Ytahckijanjbagaa.Vr
