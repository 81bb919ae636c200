/- All runes of a text. -/
import Derived.Test.YtnbgldlahidjbaaRAhead
set_option linter.unusedVariables false
namespace Go.Proofs.Ytnbgldlahidjbaa
open Go.RowKit

def rcells (l : List Rn.Rec) : List Value := l.flatMap fun x => [.int .i32 (x.1 : Int), .int .i64 (x.2.1 : Int), .int .i64 (x.2.2 : Int)]
theorem rcells_len (l : List Rn.Rec) : (rcells l).length = l.length * 3 := by
  induction l with
  | nil => rfl
  | cons a l ih => show ([_, _, _] ++ rcells l).length = _; rw [List.length_append, ih]; simp; omega
theorem rcells_app (l m : List Rn.Rec) : rcells (l ++ m) = rcells l ++ rcells m := by simp [rcells]
theorem rcells_at (l : List Rn.Rec) (k : Nat) (x : Rn.Rec) (h : l[k]? = some x) :
    (rcells l)[k * 3]? = some (.int .i32 (x.1 : Int)) ∧ (rcells l)[k * 3 + 1]? = some (.int .i64 (x.2.1 : Int)) ∧ (rcells l)[k * 3 + 2]? = some (.int .i64 (x.2.2 : Int)) := by
  induction l generalizing k with
  | nil => simp at h
  | cons a l ih =>
    have e : rcells (a :: l) = [.int .i32 (a.1 : Int), .int .i64 (a.2.1 : Int), .int .i64 (a.2.2 : Int)] ++ rcells l := rfl
    cases k with
    | zero => simp at h; subst h; rw [e]; simp
    | succ k =>
      have h' : l[k]? = some x := by simpa using h
      obtain ⟨h1, h2, h3⟩ := ih k h'
      rw [e]
      refine ⟨?_, ?_, ?_⟩
      · rw [List.getElem?_append_right (by simp; omega)]; simp only [List.length_cons, List.length_nil]; rw [show (k + 1) * 3 - (0 + 1 + 1 + 1) = k * 3 by omega]; exact h1
      · rw [List.getElem?_append_right (by simp; omega)]; simp only [List.length_cons, List.length_nil]; rw [show (k + 1) * 3 + 1 - (0 + 1 + 1 + 1) = k * 3 + 1 by omega]; exact h2
      · rw [List.getElem?_append_right (by simp; omega)]; simp only [List.length_cons, List.length_nil]; rw [show (k + 1) * 3 + 2 - (0 + 1 + 1 + 1) = k * 3 + 2 by omega]; exact h3
theorem rcells_set (l : List Rn.Rec) (r a z z' : Nat) : (rcells (l ++ [(r, a, z)])).set (l.length * 3 + 2) (.int .i64 (z' : Int)) = rcells (l ++ [(r, a, z')]) := by
  rw [rcells_app, rcells_app, List.set_append_right _ _ (by rw [rcells_len]; omega), rcells_len]
  rw [show l.length * 3 + 2 - l.length * 3 = 2 by omega]
  rfl

theorem endLast_nil (x : Int) (w : World) : Calls Try.prog 27 #[.slice none 0 0, .int .i64 x] w fun e w' => e = .returned (.tuple #[]) ∧ w = w' := by
  go_enter Try.func27, Try.ntmps27
  go_wp2_with fail
  go_end0
  exact ⟨rfl, rfl⟩
set_option maxHeartbeats 800000 in
theorem endLast_some (g k cap : Nat) (xs : List Value) (a x : Int) (w : World) (base : Nat) (hown : w.ownsRow base 29 3 (.slice (some ⟨g, 0, none⟩) (k + 1) cap) (k + 1) xs) (hx : xs[k * 3 + 1]? = some (.int .i64 a))
    (hz : ∃ z, xs[k * 3 + 2]? = some z) (hk : k < 281474976710656) (a0 : 0 ≤ a) (a1 : a ≤ x) (x1 : x ≤ 281474976710656) :
    Calls Try.prog 27 #[.slice (some ⟨g, 0, none⟩) (k + 1 : Nat) cap, .int .i64 x] w fun e w' => e = .returned (.tuple #[]) ∧ w.setCell ⟨g, k * 3 + 2, none⟩ (.int .i64 (x - a)) = w' := by
  obtain ⟨z, hz⟩ := hz
  have c1 := (hown.cellAt (k * 3 + 1) (by omega)).trans hx
  have c2 := (hown.cellAt (k * 3 + 2) (by omega)).trans hz
  have f2 := hown.frozenAt (k * 3 + 2)
  clear hown hx hz
  go_enter Try.func27, Try.ntmps27
  go_wp2_with fail
  go_end0
  exact ⟨rfl, rfl⟩

/- behind k runes, the last one's bytes not counted yet -/
def opn (s : ByteArray) : Nat → List Rn.Rec
  | 0 => []
  | k + 1 => Rn.pre s k ++ [(Rn.dR s (Rn.pos s k), Rn.pos s k, 0)]
theorem opn_len (s : ByteArray) (k : Nat) : (opn s k).length = k := by cases k with
  | zero => rfl
  | succ k => simp [opn, Rn.pre_len]
def EndedL (base : Nat) (ty : TypeId) (v : Value) (k : Nat) (xs : List Value) (wr w' : World) : Prop :=
  w'.ownsRow base ty 3 v k xs ∧ w'.heap.size = wr.heap.size ∧ (∀ j, j < base → w'.heap[j]? = wr.heap[j]?) ∧ (∀ B a, Below B a wr → B ≤ base → Below B a w')
theorem ended_any (s : ByteArray) (k : Nat) (v : Value) (wr : World) (base : Nat) (hown : wr.ownsRow base 29 3 v k (rcells (opn s k))) (h0 : k = 0 → v = .slice none 0 0) (hk : k ≤ Rn.cnt s) (hs : s.size ≤ 281474976710656) (x : Int) (hx : x = (Rn.pos s k : Int)) :
    Calls Try.prog 27 #[v, .int .i64 x] wr fun e w' => e = .returned (.tuple #[]) ∧ EndedL base 29 v k (rcells (Rn.pre s k)) wr w' := by
  subst hx
  cases k with
  | zero =>
    obtain rfl := h0 rfl
    refine (endLast_nil _ _).mono ?_
    rintro e w' ⟨rfl, rfl⟩
    exact ⟨rfl, hown, rfl, fun _ _ => rfl, fun _ _ h _ => h⟩
  | succ k =>
    rcases hown.2 with ⟨_, h⟩ | ⟨g, cap, cur, rfl, hg, hgg, _⟩
    · omega
    have hp := (Rn.cnt_lt s k).1 (by omega)
    have hps := Rn.pos_succ s k hp
    have hw := Rn.dW_le s _ hp
    have hc := Rn.cnt_le s
    have hl : (opn s (k + 1))[k]? = some (Rn.dR s (Rn.pos s k), Rn.pos s k, 0) := by
      show (Rn.pre s k ++ [_])[k]? = _
      rw [List.getElem?_append_right (by rw [Rn.pre_len]; omega), Rn.pre_len, Nat.sub_self]; rfl
    obtain ⟨a1, a2, a3⟩ := rcells_at _ _ _ hl
    refine (endLast_some g k cap _ (Rn.pos s k : Int) _ wr base hown a2 ⟨_, a3⟩ (by omega) (by omega) (by omega) (by omega)).mono ?_
    rintro e w' ⟨rfl, rfl⟩
    have hst := (hown.stored (k * 3 + 2) (.int .i64 ((Rn.pos s (k + 1) : Int) - (Rn.pos s k : Int)))).1
    have e1 : (rcells (opn s (k + 1))).set (k * 3 + 2) (.int .i64 ((Rn.pos s (k + 1) : Int) - (Rn.pos s k : Int))) = rcells (Rn.pre s (k + 1)) := by
      have := rcells_set (Rn.pre s k) (Rn.dR s (Rn.pos s k)) (Rn.pos s k) 0 (Rn.dW s (Rn.pos s k))
      rw [Rn.pre_len] at this
      rw [Rn.pre_succ, show (Rn.pos s (k + 1) : Int) - (Rn.pos s k : Int) = (Rn.dW s (Rn.pos s k) : Int) by omega]
      exact this
    rw [e1] at hst
    refine ⟨rfl, hst, by simp, fun j hj => Below.heap_setCell _ _ _ _ (by simp; omega), fun B a h hB => h.setCell (by simp; omega) _⟩
theorem Try.infoRune : (Try.prog.info? 29).map (fun i => (i.zero, i.size, i.bytes)) = some (some (.agg #[.int .i32 0, .int .i64 0, .int .i64 0]), 3, 24) := by kernel_rfl
theorem own_block {w : World} {base : Nat} {e : TypeId} {size : Nat} {v : Value} {n : Nat} {xs : List Value} (hown : w.ownsRow base e size v n xs) : ∀ g, v.ownBlock = some g → base ≤ g := by
  intro g hg
  rcases hown.2 with ⟨h0, _⟩ | ⟨g', cap, cur, h0, hg', _⟩
  · rw [h0] at hg; simp [Value.ownBlock] at hg
  · rw [h0] at hg; simp [Value.ownBlock] at hg; omega
theorem own_mono {w : World} {base base' : Nat} {e : TypeId} {size : Nat} {v : Value} {n : Nat} {xs : List Value} (h : w.ownsRow base e size v n xs) (hb : base' ≤ base) : w.ownsRow base' e size v n xs := by
  refine ⟨h.1, ?_⟩
  rcases h.2 with h0 | ⟨g, cap, cur, hv, hg, hr⟩
  · exact .inl h0
  · exact .inr ⟨g, cap, cur, hv, by omega, hr⟩
theorem Cur.grown {w w' : World} {k : Nat} {s : ByteArray} {pos : Nat} (h : Cur w k s pos) {row : Option Nat} (hg : w.grownBy w' row) (hr : row ≠ some k) : Cur w' k s pos := (hg.block k h.lt (fun e => hr e.symm)).trans h
theorem new_three (w : World) (x y z : Value) (t : TypeId) : ∀ (j : Nat) (u : Value), [x, y, z][j]? = some u → (w.alloc (.cells #[x, y, z] t)).cell? ((⟨w.heap.size, 0, none⟩ : Addr).add j) = some u := by
  intro j u hj
  have := Three.new w x y z t
  rw [Addr.add_defn, Nat.zero_add]
  match j, hj with
  | 0, hj => simp at hj; subst hj; exact this.1
  | 1, hj => simp at hj; subst hj; exact this.2.1
  | 2, hj => simp at hj; subst hj; exact this.2.2.1
/- all runes -/
def Alls (base : Nat) (ty : TypeId) (l : List Rn.Rec) (w : World) (e : Ending) (w' : World) : Prop := ∃ v, e = .returned v ∧ w'.ownsRow base ty 3 v l.length (rcells l) ∧ Below base w w'
def AS (s : ByteArray) (w0 : World) (k : Nat) (v : Value) (w : World) : Prop :=
  k ≤ Rn.cnt s ∧ Cur w w0.heap.size s (Rn.pos s k) ∧ w.ownsRow (w0.heap.size + 1) 29 3 v k (rcells (opn s k)) ∧ (k = 0 → v = .slice none 0 0) ∧ Below w0.heap.size w0 w
set_option maxHeartbeats 1600000 in
theorem all_any (s : ByteArray) (w : World) (hs : s.size ≤ 4398046511104) :
    Calls Try.prog 11 #[.string s] w (Alls w.heap.size 29 (Rn.all s) w) := by
  obtain ⟨i0, hi, hz0, hz1, hz2⟩ := info_parts Try.infoRune
  go_enter Try.func11, Try.ntmps11
  go_wp2_with fail
  go_loopw [2, 3] (fun v _ wr => ∃ k, AS s w k v wr) (fun _ _ wr => s.size - wr.iterPos w.heap.size)
  case atStart => exact ⟨0, Nat.zero_le _, Cur.new w s, World.ownsRow_nil _ _ _ _, fun _ => rfl, Below.alloc (Below.refl _ _) (Nat.le_refl _) _⟩
  case round =>
    obtain ⟨k, hk, i0', hown, hnil, b0⟩ := hrel
    have hc := Rn.cnt_le s
    by_cases hl : Rn.pos s k < s.size
    · obtain ⟨w1, hn, i1, _, _, z1, b1, o1, g1⟩ := next_spec (P := Try.prog) _ _ _ _ i0' hl
      have hk' := (Rn.cnt_lt s k).2 hl
      have hob := own_block hown
      have hown1 := hown.kept g1 (by
        cases hv : Value.ownBlock u2 with
        | none => exact .inl rfl
        | some g => exact .inr (fun e => by cases e; have := hob _ hv; omega))
      have bb := b1 _ _ b0 (Nat.le_refl _)
      have zz := i1.lt
      have hpos := Rn.pos_succ s k hl
      have I1 := Lib.hid i1
      have I0 := Lib.hid i0'.at
      have hps := Rn.pos_le s k
      have H1 := Lib.hid hown1
      have N1 := Lib.hid hnil
      have Z1 := Lib.hid z1
      have HP := Lib.hid hpos
      clear i1 i0' hown hown1 hnil b0 b1 o1 g1 z1 hob hpos
      go_wp2_with fail
      refine (ended_any s k u2 w1 (w.heap.size + 1) H1.out N1.out hk (by omega) _ rfl).mono ?_
      rintro e w2 ⟨rfl, hown2, z2, o2, b2⟩
      have bb2 := b2 _ _ bb (by omega)
      have i2 : Cur w2 w.heap.size s (Rn.pos s k + (Utf8.decode s (Rn.pos s k)).2) := (o2 _ (by omega)).trans I1.out
      have zz2 := i2.lt
      have I2 := Lib.hid i2
      clear I1 i2 o2 b2 bb z2
      go_wp2_with (at_builtin; refine wpList_append_own _ rfl _ _ 26 rfl (w.heap.size + 1) 29 i0 (.agg #[.int .i32 0, .int .i64 0, .int .i64 0]) 3 24 Try.underlying26 hi hz0 hz1 hz2 rfl (by decide) _ _ _ rfl (hown2.alloc _) ⟨w2.heap.size, 0, none⟩ 1 1 [.int .i32 ((Utf8.decode s (Rn.pos s k)).1 : Int), .int .i64 (Rn.pos s k : Int), .int .i64 0] rfl rfl ?c1 ?c2 ?c3 ?c4 ?c5 ?_)
      case c1 => exact new_three w2 _ _ _ _
      case c2 => intro u hu; simp at hu; rcases hu with rfl | rfl | rfl <;> rfl
      case c3 => unfold maxLen; omega
      case c4 => omega
      case c5 => simp; omega
      · intro v' w3 hown3 hgrow _
        have hob := own_block hown2
        have bb3 : Below w.heap.size w w3 := (bb2.alloc bb2.size _).grown hgrow (by simp; omega) (by intro g hg; have := hob g hg; omega)
        have i3 := (I2.out.alloc (.cells #[.int .i32 ((Utf8.decode s (Rn.pos s k)).1 : Int), .int .i64 (Rn.pos s k : Int), .int .i64 0] 29)).grown hgrow (fun e => by have := hob _ e; omega)
        have e1 : rcells (Rn.pre s k) ++ [.int .i32 ((Utf8.decode s (Rn.pos s k)).1 : Int), .int .i64 (Rn.pos s k : Int), .int .i64 0] = rcells (opn s (k + 1)) := by
          rw [opn, rcells_app]; rfl
        rw [e1] at hown3
        have HO := Lib.hid hown3
        have I3 := Lib.hid i3
        clear hown3 hgrow hown2 e1 hob bb2 i3 I2
        go_wp2_with fail
        go_roundw
        case rel => exact ⟨k + 1, hk', by rw [HP.out]; exact I3.out, HO.out, by omega, bb3⟩
        case measure =>
          rw [I3.out.at, I0.out]
          have := Rn.dW_pos s (Rn.pos s k)
          have h2 : (Utf8.decode s (Rn.pos s k)).2 = Rn.dW s (Rn.pos s k) := rfl
          omega
    · have hn := next_end (P := Try.prog) _ _ _ _ i0' hl
      have hkc : k = Rn.cnt s := by
        by_cases e : k < Rn.cnt s
        · exact absurd ((Rn.cnt_lt s k).1 e) hl
        · omega
      subst hkc
      have hpe := Rn.pos_cnt s
      have HP := Lib.hid hpe
      have H1 := Lib.hid hown
      have N1 := Lib.hid hnil
      have hbz := i0'.lt
      clear hpe hown hnil i0'
      go_wp2_with fail
      refine (ended_any s (Rn.cnt s) u2 wr (w.heap.size + 1) H1.out N1.out hk (by omega) _ (by rw [HP.out])).mono ?_
      rintro e w2 ⟨rfl, hown2, z2, o2, b2⟩
      have bb2 := b2 _ _ b0 (by omega)
      have H2 := Lib.hid hown2
      clear hown2 o2 b2 z2
      go_wp2_with fail
      go_ret
      refine ⟨u2, rfl, ?_, bb2⟩
      rw [Rn.all_len]
      exact own_mono H2.out (by omega)
end Go.Proofs.Ytnbgldlahidjbaa
