/- Rows of runes as they are told; two runes compared. -/
import Derived.Test.YtaaheinjalakmaaRText
set_option linter.unusedVariables false
namespace Go.Proofs.Ytaaheinjalakmaa
open Go.RowKit

/- a row of runes, nil or not -/
def RowU (w : World) (p : Option Addr) (l : List Rn.Rec) : Prop := ∀ (k : Nat) (x : Rn.Rec), l[k]? = some x → ∃ g, p = some ⟨g, 0, none⟩ ∧ g < w.heap.size ∧
    w.cell? ⟨g, k * 3, none⟩ = some (.int .i32 (x.1 : Int)) ∧ w.cell? ⟨g, k * 3 + 1, none⟩ = some (.int .i64 (x.2.1 : Int)) ∧ w.cell? ⟨g, k * 3 + 2, none⟩ = some (.int .i64 (x.2.2 : Int))
theorem row_u {w : World} {B : Nat} {ty : TypeId} {v : Value} {l : List Rn.Rec} (h : w.ownsRow B ty 3 v l.length (rcells l)) : ∃ p cap, v = .slice p l.length cap ∧ l.length ≤ cap ∧ RowU w p l := by
  rcases row_of h with ⟨rfl, rfl⟩ | ⟨g, cap, rfl, hg, hgl, hc, h⟩
  · exact ⟨none, 0, rfl, Nat.le_refl _, fun k x hx => by simp at hx⟩
  · exact ⟨_, cap, rfl, hc, fun k x hx => ⟨g, rfl, hgl, h k x hx⟩⟩
theorem RowU.below {w w' : World} {p : Option Addr} {l : List Rn.Rec} (h : RowU w p l) (hb : Below w.heap.size w w') : RowU w' p l := fun k x hx => by
  obtain ⟨g, hp, hl, h1, h2, h3⟩ := h k x hx
  exact ⟨g, hp, Nat.lt_of_lt_of_le hl hb.size, (hb.cell (p := ⟨g, k * 3, none⟩) hl).trans h1, (hb.cell (p := ⟨g, k * 3 + 1, none⟩) hl).trans h2, (hb.cell (p := ⟨g, k * 3 + 2, none⟩) hl).trans h3⟩
theorem RowU.get {w : World} {p : Option Addr} {s : ByteArray} (h : RowU w p (Rn.all s)) {k : Nat} (hk : k < Rn.cnt s) : ∃ g, p = some ⟨g, 0, none⟩ ∧ g < w.heap.size ∧
    w.cell? ⟨g, k * 3, none⟩ = some (.int .i32 (Rn.dR s (Rn.pos s k) : Int)) ∧ w.cell? ⟨g, k * 3 + 1, none⟩ = some (.int .i64 (Rn.pos s k : Int)) ∧ w.cell? ⟨g, k * 3 + 2, none⟩ = some (.int .i64 (Rn.dW s (Rn.pos s k) : Int)) :=
  h k (Rn.recN s k) (Rn.pre_get s k _ hk)
theorem all_u (s : ByteArray) (w : World) (hs : s.size ≤ 4398046511104) :
    Calls Try.prog 10 #[.string s] w fun e w' => ∃ p cap, e = .returned (.slice p (Rn.cnt s) cap) ∧ Rn.cnt s ≤ cap ∧ RowU w' p (Rn.all s) ∧ Below w.heap.size w w' :=
  (all_any s w hs).mono fun e w' ⟨v, he, hown, hb⟩ => by
    obtain ⟨p, cap, rfl, hc, hu⟩ := row_u hown
    rw [Rn.all_len] at he hc
    exact ⟨p, cap, he, hc, hu, hb⟩
theorem rall_u (s : ByteArray) (w : World) (hs : s.size ≤ 4398046511104) :
    Calls Try.prog 11 #[.string s] w fun e w' => ∃ p cap, e = .returned (.slice p (Rn.cnt s) cap) ∧ Rn.cnt s ≤ cap ∧ RowU w' p (Rn.all s) ∧ Below w.heap.size w w' :=
  (rall_any s w hs).mono fun e w' ⟨v, he, hown, hb⟩ => by
    obtain ⟨p, cap, rfl, hc, hu⟩ := row_u hown
    rw [Rn.all_len] at he hc
    exact ⟨p, cap, he, hc, hu, hb⟩
/- which text it is -/
def Txt (n : Nat) (s : Value) (w w' : World) : Prop := ∃ S : ByteArray, S.size ≤ n ∧ s = .string S ∧ Below w.heap.size w w'
theorem eqn_rune (a b c : Int) (w : World) : (Op.equalIn (9999 + 1) 30 (.agg #[.int .i32 a, .int .i64 b, .int .i64 c]) (.agg #[.int .i32 a, .int .i64 b, .int .i64 c])).run Try.prog w = .ok true w := by
  rw [run_equalIn_struct w 9999 _ _ _ (by kernel_rfl) (by kernel_rfl)]
  simp [Program.fieldsOf, Try.underlying30, Op.eqFields, part, run_equalIn_int, Sem.run_bind, go_sem, Try.underlying21, Try.underlying3]
theorem neq_rune (a b c : Int) (w : World) : (binOp .neq 30 (.agg #[.int .i32 a, .int .i64 b, .int .i64 c]) (.agg #[.int .i32 a, .int .i64 b, .int .i64 c])).run Try.prog w = .ok (.bool false) w := by
  rw [run_neq_struct]
  have := eqn_rune a b c w
  rw [show (10000 : Nat) = 9999 + 1 from rfl, this]
  rfl
theorem eqn_rune' (a b c : Int) (w : World) : (Op.equalIn 10000 30 (.agg #[.int .i32 a, .int .i64 b, .int .i64 c]) (.agg #[.int .i32 a, .int .i64 b, .int .i64 c])).run Try.prog w = .ok true w := eqn_rune a b c w
end Go.Proofs.Ytaaheinjalakmaa
