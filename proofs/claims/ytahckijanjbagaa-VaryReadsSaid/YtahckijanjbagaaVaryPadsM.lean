/- Plain facts about padding; readers that have an error. -/
import Derived.Test.YtahckijanjbagaaVaryM2
namespace Go.Proofs.Ytahckijanjbagaa.Vr
theorem bytes_str (l : List UInt8) (k : Nat) (h : k ≤ l.length) : bytes (str l) 0 (k : Int) = (str (l.take k), str (l.drop k), 0) := by
  rw [bytes_zero _ (by omega) (by rw [str_size]; omega), str_extract, str_extract, str_size, Int.toNat_natCast, List.drop_zero, List.take_length]
theorem zeros_rep (n : Nat) : zeros (List.replicate n 0) = true := by
  unfold zeros; rw [List.all_eq_true]; intro b hb; rw [List.eq_of_mem_replicate hb]; rfl
theorem pad_a (n : Nat) : pad (str (List.replicate n 0) ++ (⟨#[120]⟩ : ByteArray)) 0 (n : Int) = (⟨#[120]⟩, 0) := by
  have h : (⟨#[120]⟩ : ByteArray) = str [120] := rfl
  rw [h, str_append]
  refine pad_ok (a := str (List.replicate n 0)) ?_ (by rw [str_data]; exact zeros_rep n)
  rw [bytes_str _ n (by simp)]; simp
theorem pad_b0 (n : Nat) (x : UInt8) (hx : x.toNat = 0) : pad (str (List.replicate n 0) ++ (⟨#[x]⟩ : ByteArray)) 0 ((n : Int) + 1) = (⟨#[]⟩, 0) := by
  obtain rfl : x = 0 := UInt8.toNat_inj.1 hx
  have h : (⟨#[(0 : UInt8)]⟩ : ByteArray) = str [0] := rfl
  rw [h, str_append, show (List.replicate n (0 : UInt8) ++ [0]) = List.replicate (n + 1) 0 from by rw [List.replicate_succ']]
  refine pad_ok (a := str (List.replicate (n + 1) 0)) ?_ (by rw [str_data]; exact zeros_rep _)
  have := bytes_str (List.replicate (n + 1) 0) (n + 1) (by simp)
  rw [show ((n : Int) + 1) = ((n + 1 : Nat) : Int) from by omega, this]; simp [str]
theorem pad_b1 (n : Nat) (x : UInt8) (hx : ¬ x.toNat = 0) : pad (str (List.replicate n 0) ++ (⟨#[x]⟩ : ByteArray)) 0 ((n : Int) + 1) = (⟨#[]⟩, 9) := by
  have h : (⟨#[x]⟩ : ByteArray) = str [x] := rfl
  rw [h, str_append]
  refine pad_bad (a := str (List.replicate n 0 ++ [x])) (r := str []) (e' := 0) ?_ ?_
  · have := bytes_str (List.replicate n 0 ++ [x]) (n + 1) (by simp)
    rw [show ((n : Int) + 1) = ((n + 1 : Nat) : Int) from by omega, this]
    rw [List.take_of_length_le (by simp), List.drop_eq_nil_of_le (by simp)]
  · rw [str_data]
    have := zeros_not (l := List.replicate n 0 ++ [x]) (k := n) (by simp) (by simpa using hx)
    exact this
theorem pad_c (n : Nat) : pad (str (List.replicate n 0)) 0 ((n : Int) + 1) = (⟨#[]⟩, 4) :=
  pad_ok (bytes_short _ (.inr (by rw [str_size]; simp; omega))) rfl
theorem text_err (s : ByteArray) {e : Int} (h : ¬ e = 0) (m : Nat) : text s e m = (⟨#[]⟩, ⟨#[]⟩, e) := by
  rw [text_ok (next_err s h) (Nat.zero_le _) (Nat.zero_le _), bytes_err _ _ h]
theorem pad_err (s : ByteArray) {e : Int} (h : ¬ e = 0) (n : Int) : pad s e n = (⟨#[]⟩, e) := pad_ok (bytes_err s n h) rfl
end Go.Proofs.Ytahckijanjbagaa.Vr
