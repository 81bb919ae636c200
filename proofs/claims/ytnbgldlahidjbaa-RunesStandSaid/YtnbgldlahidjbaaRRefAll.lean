/- The document's own answer: all runes; what begins and ends at a place. -/
import Derived.Test.YtnbgldlahidjbaaRRefFirst
import Derived.RegionTactic
set_option linter.unusedVariables false
namespace Go.Proofs.Ytnbgldlahidjbaa
open Go.RowKit

theorem rfirst_tail (s : ByteArray) (p : Nat) (w : World) (hp : p < s.size) (hs : s.size ≤ 281474976710656) :
    Calls Try.prog 28 #[.string (s.extract p s.size)] w fun e w' => e = .returned (.tuple #[.int .i32 (Rn.dR s p : Int), .int .i64 (Rn.dW s p : Int)]) ∧ Below w.heap.size w w' := by
  have hz := Rn.size_ext s p s.size (by omega) (Nat.le_refl _)
  have hd := Rn.dec_tail s p 0 (by omega)
  have h1 : Rn.dR (s.extract p s.size) 0 = Rn.dR s p := congrArg Prod.fst hd
  have h2 : Rn.dW (s.extract p s.size) 0 = Rn.dW s p := congrArg Prod.snd hd
  have := rfirst_any (s.extract p s.size) w (by omega) (by omega)
  rw [h1, h2] at this
  exact this
theorem Try.infoRRune : (Try.prog.info? 44).map (fun i => (i.zero, i.size, i.bytes)) = some (some (.agg #[.int .i32 0, .int .i64 0, .int .i64 0]), 3, 24) := by kernel_rfl
set_option maxHeartbeats 1600000 in
theorem rall_any (s : ByteArray) (w : World) (hs : s.size ≤ 4398046511104) :
    Calls Try.prog 17 #[.string s] w (Alls w.heap.size 44 (Rn.all s) w) := by
  obtain ⟨i0, hi, hz0, hz1, hz2⟩ := info_parts Try.infoRRune
  go_enter Try.func17, Try.ntmps17
  go_wp2_with fail
  go_loopw [3, 4] (fun v p wr => ∃ k, k ≤ Rn.cnt s ∧ p = .int .i64 (Rn.pos s k : Int) ∧ wr.ownsRow w.heap.size 44 3 v k (rcells (Rn.pre s k)) ∧ Below w.heap.size w wr) (fun _ p _ => s.size - (intOf p).toNat)
  case atStart => exact ⟨0, Nat.zero_le _, rfl, World.ownsRow_nil _ _ _ _, Below.refl _ _⟩
  case round =>
    obtain ⟨k, hk, rfl, hown, b0⟩ := hrel
    have hc := Rn.cnt_le s
    have hps := Rn.pos_le s k
    by_cases hl : Rn.pos s k < s.size
    · have hk' := (Rn.cnt_lt s k).2 hl
      have hpos := Rn.pos_succ s k hl
      have hw := Rn.dW_le s _ hl
      have hw1 := Rn.dW_pos s (Rn.pos s k)
      have hpre := Rn.pre_succ s k
      have H1 := Lib.hid hown
      have HP := Lib.hid hpos
      have HR := Lib.hid hpre
      clear hpos hpre hown
      go_wp2_with fail
      refine (rfirst_tail s (Rn.pos s k) _ hl (by omega)).mono ?_
      rintro e w2 ⟨rfl, hw2⟩
      have bb2 := bvia b0 hw2
      have hsz := hw2.size
      have hown2 := H1.out.kept (w' := w2) (row := none) ⟨hw2.os, hw2.tape, hw2.output, hw2.size, fun j hj _ => hw2.block j hj⟩ (by cases hv : Value.ownBlock _ <;> simp)
      clear H1 hw2 b0
      go_wp2_with (at_builtin; refine wpList_append_own _ rfl _ _ 42 rfl w.heap.size 44 i0 (.agg #[.int .i32 0, .int .i64 0, .int .i64 0]) 3 24 Try.underlying42 hi hz0 hz1 hz2 rfl (by decide) _ _ _ rfl (hown2.alloc _) ⟨w2.heap.size, 0, none⟩ 1 1 [.int .i32 (Rn.dR s (Rn.pos s k) : Int), .int .i64 (Rn.pos s k : Int), .int .i64 (Rn.dW s (Rn.pos s k) : Int)] rfl rfl ?c1 ?c2 ?c3 ?c4 ?c5 ?_)
      case c1 => exact new_three w2 _ _ _ _
      case c2 => intro u hu; simp at hu; rcases hu with rfl | rfl | rfl <;> rfl
      case c3 => unfold maxLen; omega
      case c4 => omega
      case c5 => have := bb2.size; simp; omega
      · intro v' w3 hown3 hgrow _
        have hob := own_block hown2
        have bb3 : Below w.heap.size w w3 := (bb2.alloc bb2.size _).grown hgrow (by have := bb2.size; simp; omega) (by intro g hg; have := hob g hg; omega)
        have e1 : rcells (Rn.pre s k) ++ [.int .i32 (Rn.dR s (Rn.pos s k) : Int), .int .i64 (Rn.pos s k : Int), .int .i64 (Rn.dW s (Rn.pos s k) : Int)] = rcells (Rn.pre s (k + 1)) := by
          rw [HR.out, rcells_app]; rfl
        rw [e1] at hown3
        have HO := Lib.hid hown3
        clear hown3 hgrow hown2 e1 hob bb2
        go_wp2_with fail
        go_roundw
        case rel => exact ⟨k + 1, hk', by rw [HP.out]; go_num, HO.out, bb3⟩
        case measure => simp [intOf]; omega
    · have hkc : k = Rn.cnt s := by
        by_cases e : k < Rn.cnt s
        · exact absurd ((Rn.cnt_lt s k).1 e) hl
        · omega
      subst hkc
      have H1 := Lib.hid hown
      clear hown
      go_wp2_with fail
      go_ret
      refine ⟨_, rfl, ?_, b0⟩
      rw [Rn.all_len]
      exact H1.out
/- a row of runes that lies in a block of its own -/
def RowOf (w : World) (B : Nat) (v : Value) (l : List Rn.Rec) : Prop :=
  (v = .slice none 0 0 ∧ l = []) ∨ ∃ g cap, v = .slice (some ⟨g, 0, none⟩) l.length cap ∧ B ≤ g ∧ g < w.heap.size ∧ l.length ≤ cap ∧ ∀ (k : Nat) (x : Rn.Rec), l[k]? = some x →
    w.cell? ⟨g, k * 3, none⟩ = some (.int .i32 (x.1 : Int)) ∧ w.cell? ⟨g, k * 3 + 1, none⟩ = some (.int .i64 (x.2.1 : Int)) ∧ w.cell? ⟨g, k * 3 + 2, none⟩ = some (.int .i64 (x.2.2 : Int))
theorem row_of {w : World} {B : Nat} {ty : TypeId} {v : Value} {l : List Rn.Rec} (h : w.ownsRow B ty 3 v l.length (rcells l)) : RowOf w B v l := by
  rcases h.2 with ⟨rfl, hn⟩ | ⟨g, cap, cur, rfl, hg, hgg, hc, _⟩
  · exact .inl ⟨rfl, List.eq_nil_of_length_eq_zero hn⟩
  · refine .inr ⟨g, cap, rfl, hg, (Array.getElem?_eq_some_iff.1 hgg).1, hc, fun k x hx => ?_⟩
    obtain ⟨h1, h2, h3⟩ := rcells_at l k x hx
    have hk := (List.getElem?_eq_some_iff.1 hx).1
    exact ⟨(h.cellAt _ (by omega)).trans h1, (h.cellAt _ (by omega)).trans h2, (h.cellAt _ (by omega)).trans h3⟩
theorem RowOf.below {w w' : World} {B : Nat} {v : Value} {l : List Rn.Rec} (h : RowOf w B v l) (hb : Below w.heap.size w w') : RowOf w' B v l := by
  rcases h with h | ⟨g, cap, hv, hg, hl, hc, h⟩
  · exact .inl h
  · refine .inr ⟨g, cap, hv, hg, Nat.lt_of_lt_of_le hl hb.size, hc, fun k x hx => ?_⟩
    obtain ⟨h1, h2, h3⟩ := h k x hx
    exact ⟨(hb.cell (p := ⟨g, k * 3, none⟩) hl).trans h1, (hb.cell (p := ⟨g, k * 3 + 1, none⟩) hl).trans h2, (hb.cell (p := ⟨g, k * 3 + 2, none⟩) hl).trans h3⟩
theorem RowOf.at' {s : ByteArray} {w : World} {B g cap : Nat} (h : RowOf w B (.slice (some ⟨g, 0, none⟩) (Rn.cnt s) cap) (Rn.all s)) (k : Nat) (hk : k < Rn.cnt s) :
    w.cell? ⟨g, k * 3, none⟩ = some (.int .i32 (Rn.dR s (Rn.pos s k) : Int)) ∧ w.cell? ⟨g, k * 3 + 1, none⟩ = some (.int .i64 (Rn.pos s k : Int)) ∧ w.cell? ⟨g, k * 3 + 2, none⟩ = some (.int .i64 (Rn.dW s (Rn.pos s k) : Int)) := by
  rcases h with ⟨h, _⟩ | ⟨g', cap', hv, hg, hl, hc, h⟩
  · cases h
  · simp only [Value.slice.injEq, Option.some.injEq, Addr.mk.injEq] at hv
    obtain ⟨⟨rfl, _⟩, _, rfl⟩ := hv
    exact h k (Rn.recN s k) (Rn.pre_get s k _ hk)
end Go.Proofs.Ytnbgldlahidjbaa
