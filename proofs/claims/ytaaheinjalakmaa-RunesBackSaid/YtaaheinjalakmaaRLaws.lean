/- The chapter's own examples; a text of parts. -/
import Derived.Test.YtaaheinjalakmaaRRefAt
set_option linter.unusedVariables false
namespace Go.Proofs.Ytaaheinjalakmaa
open Go.RowKit

theorem begins_at {s : ByteArray} (k r a z : Nat) (h1 : Rn.pos s k = a) (h2 : a < s.size) (h3 : Rn.dR s a = r) (h4 : Rn.dW s a = z) : Rn.BeginsT s a r a z true := by
  subst h1 h3 h4
  exact ⟨_, .inl ⟨_, rfl, ⟨k, rfl⟩, h2, rfl⟩, .inl ⟨_, rfl, rfl, rfl, rfl, rfl⟩⟩
theorem ends_at {s : ByteArray} (k r a z : Nat) (h1 : Rn.pos s k = a) (h2 : a < s.size) (h3 : Rn.dR s a = r) (h4 : Rn.dW s a = z) : Rn.EndsT s ((a : Int) + (z : Int)) r a z true := by
  subst h1 h3 h4
  exact ⟨_, .inl ⟨_, rfl, ⟨k, rfl⟩, h2, rfl⟩, .inl ⟨_, rfl, rfl, rfl, rfl, rfl⟩⟩
theorem not_reach {s : ByteArray} {x p : Nat} (hx : x ≤ s.size) (hp : p < x) (h : x < p + Rn.dW s p) : ¬ Rn.Reach s x := fun hr => by
  have := (Rn.dW_le s p (by omega)).1
  have := (Rn.reach_iff s x hx).1 hr p hp (by omega)
  omega
theorem begins_not {s : ByteArray} {x : Nat} (p : Nat) (hx : x ≤ s.size) (hp : p < x) (h : x < p + Rn.dW s p) : Rn.BeginsT s x 0 0 0 false :=
  ⟨none, .inr ⟨rfl, fun q e hr _ => by obtain rfl : x = q := by omega
                                       exact not_reach hx hp h hr⟩, .inr ⟨rfl, rfl, rfl, rfl, rfl⟩⟩
theorem placed_no' {s : ByteArray} {x : Nat} (p : Nat) (hx : x ≤ s.size) (hp : p < x) (h : x < p + Rn.dW s p) : Rn.Placed s x false :=
  ⟨(fun e => by cases e), (fun ⟨q, e, hr⟩ => by
    obtain rfl : x = q := by omega
    exact (not_reach hx hp h hr).elim)⟩
theorem put_at (r : Int) (v : ByteArray) (w : World) (h : Utf8.encode r = v) : Calls Try.prog 22 #[.int .i32 r] w fun e w' => e = .returned (.string v) ∧ w = w' := by subst h; exact put_any r w
theorem right_at (r : Int) (b : Bool) (w : World) (h : Rn.rightB r = b) : Calls Try.prog 20 #[.int .i32 r] w fun e w' => e = .returned (.bool b) ∧ w = w' := by subst h; exact right_any r w
theorem word_at (r : Int) (b : Bool) (w : World) (h : Rn.wordB r = b) : Calls Try.prog 24 #[.int .i32 r] w fun e w' => e = .returned (.bool b) ∧ w = w' := by subst h; exact word_any r w
theorem edge_at (s : ByteArray) (x : Int) (r a z r' a' z' : Nat) (b b' c : Bool) (w : World) (hs : s.size ≤ 281474976710656) (x0 : -9223372036854775808 ≤ x) (x1 : x ≤ 9223372036854775807) (h : Rn.EndsT s x r a z b) (h' : Rn.BeginsT s x r' a' z' b') (hc : ((b && Rn.wordB r) != (b' && Rn.wordB r')) = c) :
    Calls Try.prog 18 #[.string s, .int .i64 x] w fun e w' => e = .returned (.bool c) ∧ Below w.heap.size w w' := by subst hc; exact edge_any s x r a z r' a' z' b b' w hs x0 x1 h h'
set_option maxRecDepth 20000 in
set_option maxHeartbeats 4000000 in
theorem runes_examples (w : World) :
    Calls Try.prog 8 #[] w fun x w' => x = .returned (.bool true) ∧ Below w.heap.size w w' := by
  have e1 : Rn.BeginsT ⟨#[97, 195, 169]⟩ (1 : Int) 233 1 2 true := begins_at 1 233 1 2 (by decide +kernel) (by decide +kernel) (by decide +kernel) (by decide +kernel)
  have e2 : Rn.BeginsT ⟨#[97, 195, 169]⟩ (2 : Int) 0 0 0 false := begins_not (x := 2) 1 (by decide +kernel) (by decide) (by decide +kernel)
  have e3 : Rn.EndsT ⟨#[97, 195, 169]⟩ (3 : Int) 233 1 2 true := ends_at 1 233 1 2 (by decide +kernel) (by decide +kernel) (by decide +kernel) (by decide +kernel)
  have e4 : Rn.EndsT ⟨#[97, 32, 98]⟩ (1 : Int) 97 0 1 true := ends_at 0 97 0 1 (by decide +kernel) (by decide +kernel) (by decide +kernel) (by decide +kernel)
  have e5 : Rn.BeginsT ⟨#[97, 32, 98]⟩ (1 : Int) 32 1 1 true := begins_at 1 32 1 1 (by decide +kernel) (by decide +kernel) (by decide +kernel) (by decide +kernel)
  have e6 : Rn.EndsT ⟨#[97, 98]⟩ (1 : Int) 97 0 1 true := ends_at 0 97 0 1 (by decide +kernel) (by decide +kernel) (by decide +kernel) (by decide +kernel)
  have e7 : Rn.BeginsT ⟨#[97, 98]⟩ (1 : Int) 98 1 1 true := begins_at 1 98 1 1 (by decide +kernel) (by decide +kernel) (by decide +kernel) (by decide +kernel)
  have e8 : Rn.Placed ⟨#[97, 195, 169]⟩ (3 : Int) true := Rn.placed_true (q := 3) ⟨2, by decide +kernel⟩
  have e9 : Rn.Placed ⟨#[97, 195, 169]⟩ (2 : Int) false := placed_no' (x := 2) 1 (by decide +kernel) (by decide) (by decide +kernel)
  have p1 : Utf8.encode 233 = ⟨#[195, 169]⟩ := by decide +kernel
  have l1 : Rn.cnt ⟨#[97, 195, 169, 255]⟩ = 3 := by decide +kernel
  have l2 : Rn.recN ⟨#[97, 195, 169, 255]⟩ 1 = (233, 1, 2) := by decide +kernel
  have l3 : Rn.recN ⟨#[97, 195, 169, 255]⟩ 2 = (65533, 3, 1) := by decide +kernel
  have q1 := Lib.hid e1
  have q2 := Lib.hid e2
  have q3 := Lib.hid e3
  have q4 := Lib.hid e4
  have q5 := Lib.hid e5
  have q6 := Lib.hid e6
  have q7 := Lib.hid e7
  have q8 := Lib.hid e8
  have q9 := Lib.hid e9
  have P1 := Lib.hid p1
  have L1 := Lib.hid l1
  have L2 := Lib.hid l2
  have L3 := Lib.hid l3
  have W1 : Hid (Rn.wordB 97 = true) := Lib.hid (by decide)
  clear e1 e2 e3 e4 e5 e6 e7 e8 e9 p1 l1 l2 l3
  go_enter Try.func8, Try.ntmps8
  go_wp2_with fail
  refine (all_any _ _ (by decide)).mono ?_
  rintro e w1 ⟨v, rfl, hown, hb1⟩
  have hrow := row_of hown
  clear hown
  rcases hrow with ⟨_, h0⟩ | ⟨g, cap, rfl, hg, hgl, hcap, hcell⟩
  · have := congrArg List.length h0
    rw [Rn.all_len, L1.out] at this
    cases this
  rw [Rn.all_len, L1.out] at hcap ⊢
  have d1 := hcell 1 (233, 1, 2) (by rw [Rn.all, Rn.pre_get _ _ _ (by rw [L1.out]; decide), L2.out])
  have d2 := hcell 2 (65533, 3, 1) (by rw [Rn.all, Rn.pre_get _ _ _ (by rw [L1.out]; decide), L3.out])
  have D1 := Lib.hid d1
  have D2 := Lib.hid d2
  clear d1 d2 hcell
  go_wp2_with fail
  refine (at_any _ _ _ _ _ _ _ (by decide) (by decide) (by decide) q1.out).mono ?_
  rintro e w2 ⟨rfl, hw2⟩
  go_wp2_with fail
  refine (at_any _ _ _ _ _ _ _ (by decide) (by decide) (by decide) q2.out).mono ?_
  rintro e w3 ⟨rfl, hw3⟩
  go_wp2_with fail
  refine (ahead_any _ _ _ _ _ _ _ (by decide) (by decide) (by decide) q3.out).mono ?_
  rintro e w4 ⟨rfl, hw4⟩
  have z2 := hw2.size
  have z3 := hw3.size
  have z4 := hw4.size
  simp at z3 z4
  have B4 : Below w1.heap.size w1 w4 := (by repeat' (first | exact Below.refl _ _ | (refine Below.drew ?_) | (refine bdrewN ?_) | (refine Below.alloc ?_ (by first | omega | (simp <;> omega)) _) | (refine Below.setCell ?_ (by first | omega | (simp <;> omega)) _) | (refine Below.trans ?_ (Below.mono (by assumption) (by first | omega | (simp <;> omega))))))
  have t2 := ((Three.new w2 (.int .i32 233) (.int .i64 1) (.int .i64 2) 30).below hw3 (by simp)).alloc (.cells #[.int .i32 0, .int .i64 0, .int .i64 0] 30)
  obtain ⟨c20, c21, c22, c23, c24⟩ := t2.below hw4 (by simp; omega)
  have c1 := (B4.cell (p := ⟨g, 3, none⟩) hgl).trans D1.out.1
  have c2 := (B4.cell (p := ⟨g, 4, none⟩) hgl).trans D1.out.2.1
  have c3 := (B4.cell (p := ⟨g, 5, none⟩) hgl).trans D1.out.2.2
  have c4 := (B4.cell (p := ⟨g, 6, none⟩) hgl).trans D2.out.1
  have c5 := (B4.cell (p := ⟨g, 8, none⟩) hgl).trans D2.out.2.2
  have hgl' : g < w4.heap.size := by omega
  have B0 : Below w.heap.size w w4 := hb1.trans (B4.mono hb1.size)
  clear hw2 hw3 hw4 hb1 t2 B4
  go_wp2_with fail
  refine (put_at 233 ⟨#[195, 169]⟩ _ P1.out).mono ?_
  rintro e w' ⟨rfl, rfl⟩
  go_wp2_with fail
  refine (right_at 55296 false _ (by decide)).mono ?_
  rintro e w' ⟨rfl, rfl⟩
  go_wp2_with fail
  refine (right_at 1114111 true _ (by decide)).mono ?_
  rintro e w' ⟨rfl, rfl⟩
  go_wp2_with fail
  refine (word_at 95 true _ (by decide)).mono ?_
  rintro e w' ⟨rfl, rfl⟩
  go_wp2_with fail
  refine (word_at 45 false _ (by decide)).mono ?_
  rintro e w' ⟨rfl, rfl⟩
  go_wp2_with fail
  refine (edge_at _ _ _ _ _ _ _ _ _ _ true _ (by decide) (by decide) (by decide) q4.out q5.out (by decide)).mono ?_
  rintro e w5 ⟨rfl, hw5⟩
  have zw5 := hw5.size
  try simp at zw5
  go_wp2_with fail
  refine (edge_at _ _ _ _ _ _ _ _ _ _ false _ (by decide) (by decide) (by decide) q6.out q7.out (by decide)).mono ?_
  rintro e w6 ⟨rfl, hw6⟩
  have zw6 := hw6.size
  try simp at zw6
  go_wp2_with fail
  refine (place_any _ _ true _ (by decide) (by decide) (by decide) q8.out).mono ?_
  rintro e w7 ⟨rfl, hw7⟩
  have zw7 := hw7.size
  try simp at zw7
  go_wp2_with fail
  refine (place_any _ _ false _ (by decide) (by decide) (by decide) q9.out).mono ?_
  rintro e w8 ⟨rfl, hw8⟩
  have zw8 := hw8.size
  try simp at zw8
  go_wp2_with fail
  go_ret
  exact ⟨rfl, bvia (bvia (bvia (bvia (B0.alloc B0.size _) hw5) hw6) hw7) hw8⟩
end Go.Proofs.Ytaaheinjalakmaa
