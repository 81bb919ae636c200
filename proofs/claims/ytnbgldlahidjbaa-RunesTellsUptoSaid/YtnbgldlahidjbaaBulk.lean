/- What a bound on the bulk of the input gives. -/
import Derived.Test.YtnbgldlahidjbaaRows
namespace Go.Proofs.Ytnbgldlahidjbaa.Bulk

theorem pos {H : Type} (d : DataW H) : 1 ≤ Rows.uptoBulk d := by
  cases d with
  | lit l => cases l <;> simp [Rows.uptoBulk]
  | _ => simp [Rows.uptoBulk]
theorem at_le {H : Type} {d : DataW H} {B : Nat} : ∀ {l : List (DataW H)} {i : Nat}, Rows.uptoBulkAll l ≤ B → l[i]? = some d → Rows.uptoBulk d ≤ B
  | [], _, _, h => by simp at h
  | x :: l, 0, hb, h => by
    simp only [List.getElem?_cons_zero, Option.some.injEq] at h
    subst h
    simp only [Rows.uptoBulkAll] at hb
    omega
  | x :: l, i + 1, hb, h => by
    simp only [Rows.uptoBulkAll] at hb
    exact at_le (l := l) (i := i) (by omega) (by simpa using h)
theorem many {H : Type} : ∀ l : List (DataW H), l.length ≤ Rows.uptoBulkAll l
  | [] => by simp [Rows.uptoBulkAll]
  | x :: l => by
    have := pos x
    have := many l
    simp only [Rows.uptoBulkAll, List.length_cons]
    omega
theorem string_at {H : Type} {bytes : List UInt8} {B i : Nat} {l : List (DataW H)} (hb : Rows.uptoBulkAll l ≤ B) (h : l[i]? = some (.lit (.string bytes))) : bytes.length ≤ B := by
  have := at_le hb h
  simp [Rows.uptoBulk] at this
  omega
theorem slice_at {H : Type} {elems spare : List (DataW H)} {B i : Nat} {l : List (DataW H)} (hb : Rows.uptoBulkAll l ≤ B) (h : l[i]? = some (.slice elems spare)) : elems.length + spare.length ≤ B := by
  have := at_le hb h
  have := many elems
  have := many spare
  simp only [Rows.uptoBulk] at *
  omega
end Go.Proofs.Ytnbgldlahidjbaa.Bulk
