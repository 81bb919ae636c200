/- A text of parts. -/
import Derived.Test.YtnbgldlahidjbaaRLaws
set_option linter.unusedVariables false
namespace Go.Proofs.Ytnbgldlahidjbaa
open Go.RowKit

/- a slice of bytes, cell by cell -/
def BCells (w : World) (a : Option Addr) (len : Nat) : Prop := len = 0 ∨ ∃ g off, a = some ⟨g, off, none⟩ ∧ g < w.heap.size ∧ ∀ i, i < len → ∃ c : Int, 0 ≤ c ∧ c ≤ 255 ∧ w.cell? ⟨g, off + i, none⟩ = some (.int .u8 c)
theorem bcells_of {w : World} {a : Option Addr} {len cap : Nat} {l : List UInt8} (h : BArg w a len cap l) : BCells w a len := by
  rcases h with ⟨h, _⟩ | ⟨g, off, rfl, hl, _, _, hb⟩
  · exact .inl h
  · by_cases h0 : len = 0
    · exact .inl h0
    · refine .inr ⟨g, off, rfl, ?_, fun i hi => ⟨_, (u8_lt _).1, (u8_lt _).2, hb i (by omega)⟩⟩
      have := hb 0 (by omega)
      exact World.block_lt_of_cell? w _ this
theorem barg_len {w : World} {a : Option Addr} {len cap : Nat} {l : List UInt8} (h : BArg w a len cap l) : len ≤ 140737488351232 ∧ len ≤ cap := by
  rcases h with ⟨rfl, rfl, _⟩ | ⟨g, off, rfl, hl, h1, h2, hb⟩ <;> omega
theorem BCells.below {w w' : World} {a : Option Addr} {len : Nat} (h : BCells w a len) (hb : Below w.heap.size w w') : BCells w' a len := by
  rcases h with h | ⟨g, off, ha, hg, h⟩
  · exact .inl h
  · refine .inr ⟨g, off, ha, Nat.lt_of_lt_of_le hg hb.size, fun i hi => ?_⟩
    obtain ⟨c, h0, h1, h2⟩ := h i hi
    exact ⟨c, h0, h1, (hb.cell (p := ⟨g, off + i, none⟩) hg).trans h2⟩
def SomeText (n : Nat) (w : World) (e : Ending) (w' : World) : Prop := ∃ t : ByteArray, e = .returned (.string t) ∧ t.size ≤ n ∧ Below w.heap.size w w'
theorem parts_cell (w : World) (j : Nat) (hj : j < 18) : ∃ p : ByteArray, (w.alloc (.cells #[.string ⟨#[97]⟩, .string ⟨#[98]⟩, .string ⟨#[99]⟩, .string ⟨#[95]⟩, .string ⟨#[32]⟩, .string ⟨#[10]⟩, .string ⟨#[55]⟩, .string ⟨#[195, 169]⟩, .string ⟨#[226, 130, 172]⟩, .string ⟨#[240, 159, 152, 128]⟩, .string ⟨#[255]⟩, .string ⟨#[195]⟩, .string ⟨#[226, 130]⟩, .string ⟨#[237, 160, 128]⟩, .string ⟨#[192, 128]⟩, .string ⟨#[244, 144, 128, 128]⟩, .string ⟨#[239, 191, 189]⟩, .string ⟨#[90]⟩] 9)).cell? ⟨w.heap.size, j, none⟩ = some (.string p) ∧ p.size ≤ 4 := by
  rw [World.cell?_alloc_at _ _ _ _ rfl]
  match j, hj with
  | 0, _ => exact ⟨_, rfl, by decide⟩
  | 1, _ => exact ⟨_, rfl, by decide⟩
  | 2, _ => exact ⟨_, rfl, by decide⟩
  | 3, _ => exact ⟨_, rfl, by decide⟩
  | 4, _ => exact ⟨_, rfl, by decide⟩
  | 5, _ => exact ⟨_, rfl, by decide⟩
  | 6, _ => exact ⟨_, rfl, by decide⟩
  | 7, _ => exact ⟨_, rfl, by decide⟩
  | 8, _ => exact ⟨_, rfl, by decide⟩
  | 9, _ => exact ⟨_, rfl, by decide⟩
  | 10, _ => exact ⟨_, rfl, by decide⟩
  | 11, _ => exact ⟨_, rfl, by decide⟩
  | 12, _ => exact ⟨_, rfl, by decide⟩
  | 13, _ => exact ⟨_, rfl, by decide⟩
  | 14, _ => exact ⟨_, rfl, by decide⟩
  | 15, _ => exact ⟨_, rfl, by decide⟩
  | 16, _ => exact ⟨_, rfl, by decide⟩
  | 17, _ => exact ⟨_, rfl, by decide⟩
  | n + 18, h => exact absurd h (by omega)
set_option maxRecDepth 20000 in
set_option maxHeartbeats 4000000 in
theorem text_any (a : Option Addr) (len cap : Nat) (w : World) (h : BCells w a len) (hl : len ≤ 140737488351232) :
    Calls Try.prog 9 #[.slice a len cap] w (SomeText 96 w) := by
  have HB := Lib.hid h
  clear h
  go_enter Try.func9, Try.ntmps9
  go_wp2_with fail
  have hP := parts_cell w
  have bW : Below w.heap.size w (w.alloc (.cells #[.string ⟨#[97]⟩, .string ⟨#[98]⟩, .string ⟨#[99]⟩, .string ⟨#[95]⟩, .string ⟨#[32]⟩, .string ⟨#[10]⟩, .string ⟨#[55]⟩, .string ⟨#[195, 169]⟩, .string ⟨#[226, 130, 172]⟩, .string ⟨#[240, 159, 152, 128]⟩, .string ⟨#[255]⟩, .string ⟨#[195]⟩, .string ⟨#[226, 130]⟩, .string ⟨#[237, 160, 128]⟩, .string ⟨#[192, 128]⟩, .string ⟨#[244, 144, 128, 128]⟩, .string ⟨#[239, 191, 189]⟩, .string ⟨#[90]⟩] 9)) := (Below.refl _ _).alloc (Nat.le_refl _) _
  have zW : w.heap.size < (w.alloc (.cells #[.string ⟨#[97]⟩, .string ⟨#[98]⟩, .string ⟨#[99]⟩, .string ⟨#[95]⟩, .string ⟨#[32]⟩, .string ⟨#[10]⟩, .string ⟨#[55]⟩, .string ⟨#[195, 169]⟩, .string ⟨#[226, 130, 172]⟩, .string ⟨#[240, 159, 152, 128]⟩, .string ⟨#[255]⟩, .string ⟨#[195]⟩, .string ⟨#[226, 130]⟩, .string ⟨#[237, 160, 128]⟩, .string ⟨#[192, 128]⟩, .string ⟨#[244, 144, 128, 128]⟩, .string ⟨#[239, 191, 189]⟩, .string ⟨#[90]⟩] 9)).heap.size := by simp
  generalize (w.alloc (.cells #[.string ⟨#[97]⟩, .string ⟨#[98]⟩, .string ⟨#[99]⟩, .string ⟨#[95]⟩, .string ⟨#[32]⟩, .string ⟨#[10]⟩, .string ⟨#[55]⟩, .string ⟨#[195, 169]⟩, .string ⟨#[226, 130, 172]⟩, .string ⟨#[240, 159, 152, 128]⟩, .string ⟨#[255]⟩, .string ⟨#[195]⟩, .string ⟨#[226, 130]⟩, .string ⟨#[237, 160, 128]⟩, .string ⟨#[192, 128]⟩, .string ⟨#[244, 144, 128, 128]⟩, .string ⟨#[239, 191, 189]⟩, .string ⟨#[90]⟩] 9)) = W at *
  have HP := Lib.hid hP
  have hB := HB.out.below bW
  have HB' := Lib.hid hB
  clear hP hB HB
  go_loop [4, 5] (fun s i => ∃ (k : Nat) (t : ByteArray), k ≤ len ∧ k ≤ 24 ∧ i = .int .i64 (k : Int) ∧ s = .string t ∧ t.size ≤ 4 * k) (fun _ i => len - (intOf i).toNat)
  case atStart => exact ⟨0, ⟨#[]⟩, by omega, by omega, rfl, rfl, by decide⟩
  case round =>
    obtain ⟨k, t, hk, hk2, rfl, rfl, ht⟩ := hrel
    by_cases hlt : k < len ∧ k < 24
    · obtain ⟨h1, h2⟩ := hlt
      rcases HB'.out with h0 | ⟨g, off, rfl, hg, hc⟩
      · omega
      obtain ⟨c, c0, c1, hcc⟩ := hc k h1
      obtain ⟨m, hm⟩ : ∃ m : Nat, c % 18 = (m : Int) := ⟨(c % 18).toNat, by omega⟩
      have hm18 : m < 18 := by omega
      obtain ⟨q, hq, hq4⟩ := HP.out m hm18
      have HM := Lib.hid hc
      clear hc
      go_wp2_with fail
      go_round
      case rel => exact ⟨k + 1, t ++ q, by omega, by omega, by go_num, rfl, by rw [ByteArray.size_append]; omega⟩
      case measure => simp [intOf]; omega
    · rcases (show len ≤ k ∨ (k < len ∧ 24 ≤ k) by omega) with h1 | ⟨h1, h2⟩
      all_goals
        go_wp2_with fail
        go_ret
        exact ⟨_, rfl, by omega, bW⟩
end Go.Proofs.Ytnbgldlahidjbaa
