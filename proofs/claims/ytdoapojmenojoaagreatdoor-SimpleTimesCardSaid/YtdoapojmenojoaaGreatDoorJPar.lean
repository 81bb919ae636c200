import Derived.Test.YtdoapojmenojoaaGreatDoorJSynV
import Derived.Test.YtdoapojmenojoaaGreatDoorJSynM10
import Derived.Test.YtdoapojmenojoaaGreatDoorJSLay
import Derived.Test.YtdoapojmenojoaaGreatDoorJSynN
import Derived.Test.YtdoapojmenojoaaGreatDoorJRFirst
import Derived.BigQuiet
import Derived.Deep.RegionHeld3
set_option linter.unusedSimpArgs false
set_option linter.unusedVariables false
section
/- The parser's own memory: what stays, what is written. -/
set_option linter.unusedVariables false
namespace Go.Proofs.YtdoapojmenojoaaGreatDoor
open Go.RowKit
open Sx (Nd)

/- all that was there, but the blocks of X, is as it was -/
structure Kp (X : Nat → Prop) (w w' : World) : Prop where
  os : w'.os = w.os
  tape : w'.tape = w.tape
  output : w'.output = w.output
  size : w.heap.size ≤ w'.heap.size
  block : ∀ k, k < w.heap.size → ¬ X k → w'.heap[k]? = w.heap[k]?
theorem Kp.refl (X : Nat → Prop) (w : World) : Kp X w w := ⟨rfl, rfl, rfl, Nat.le_refl _, fun _ _ _ => rfl⟩
theorem Kp.trans {X : Nat → Prop} {a b c : World} (h : Kp X a b) (k : Kp X b c) : Kp X a c :=
  ⟨k.os.trans h.os, k.tape.trans h.tape, k.output.trans h.output, Nat.le_trans h.size k.size, fun i hi hx => (k.block i (Nat.lt_of_lt_of_le hi h.size) hx).trans (h.block i hi hx)⟩
theorem Kp.mono {X Y : Nat → Prop} {a b : World} (h : Kp X a b) (hY : ∀ k, k < a.heap.size → X k → Y k) : Kp Y a b :=
  ⟨h.os, h.tape, h.output, h.size, fun k hk hn => h.block k hk (fun hx => hn (hY k hk hx))⟩
/- behind a step that writes X or what is new -/
theorem Kp.after {X Y : Nat → Prop} {a b c : World} (h : Kp X a b) (k : Kp Y b c) (hY : ∀ i, i < a.heap.size → Y i → X i) : Kp X a c :=
  ⟨k.os.trans h.os, k.tape.trans h.tape, k.output.trans h.output, Nat.le_trans h.size k.size, fun i hi hx => (k.block i (Nat.lt_of_lt_of_le hi h.size) (fun hy => hx (hY i hi hy))).trans (h.block i hi hx)⟩
theorem Kp.drew {X : Nat → Prop} {a w : World} (h : Kp X a w) : Kp X a w.drew := ⟨h.os, h.tape, h.output, h.size, h.block⟩
theorem Kp.drewN {X : Nat → Prop} {a w : World} (h : Kp X a w) (n : Nat) : Kp X a (w.drewN n) := ⟨h.os, h.tape, h.output, h.size, h.block⟩
theorem Kp.alloc {X : Nat → Prop} {a w : World} (h : Kp X a w) (o : Obj) : Kp X a (w.alloc o) :=
  h.trans ⟨rfl, rfl, rfl, by simp, fun k hk _ => Below.heap_alloc _ _ _ hk⟩
theorem Kp.set {X : Nat → Prop} {a w : World} (h : Kp X a w) (p : Addr) (hp : X p.block ∨ a.heap.size ≤ p.block) (u : Value) : Kp X a (w.setCell p u) :=
  h.after (Y := fun k => k = p.block) ⟨rfl, rfl, rfl, by simp [World.setCell], fun k hk hn => Below.heap_setCell _ _ _ _ hn⟩ (fun i hi e => by subst e; rcases hp with hp | hp; exact hp; omega)
theorem Kp.grown {X : Nat → Prop} {a w w' : World} {row : Option Nat} (h : Kp X a w) (hg : w.grownBy w' row) (hr : ∀ k, row = some k → X k ∨ a.heap.size ≤ k) : Kp X a w' :=
  h.after (Y := fun k => row = some k) ⟨hg.os, hg.tape, hg.output, hg.size, fun k hk hn => hg.block k hk (fun e => hn e.symm)⟩ (fun i hi e => by rcases hr i e with h | h; exact h; omega)
theorem Kp.below {X : Nat → Prop} {a w w' : World} (h : Kp X a w) (hb : Below w.heap.size w w') : Kp X a w' :=
  h.trans ⟨hb.os, hb.tape, hb.output, hb.size, fun k hk _ => hb.block k hk⟩
theorem Kp.to {X : Nat → Prop} {a w : World} {B : Nat} (h : Kp X a w) (hB : B ≤ a.heap.size) (hX : ∀ k, k < B → ¬ X k) : Below B a w :=
  ⟨h.os, h.tape, h.output, h.size, fun k hk => h.block k (by omega) (hX k hk)⟩
theorem below_kp (X : Nat → Prop) {w w' : World} (hb : Below w.heap.size w w') : Kp X w w' := (Kp.refl X w).below hb
/- the parser's block -/
def PB (w : World) (p : Nat) (s : ByteArray) (b a g : Int) (v : Value) : Prop := w.heap[p]? = some (.cells #[.string s, .int .i64 b, .int .i64 a, .int .i64 g, v] 76 (0, 0))
section
variable {w w' : World} {p : Nat} {s : ByteArray} {b a g : Int} {v : Value}
theorem PB.c0 (h : PB w p s b a g v) : w.cell? ⟨p, 0, none⟩ = some (.string s) := by rw [Lib.cell_of_heap h]; rfl
theorem PB.c1 (h : PB w p s b a g v) : w.cell? ⟨p, 1, none⟩ = some (.int .i64 b) := by rw [Lib.cell_of_heap h]; rfl
theorem PB.c2 (h : PB w p s b a g v) : w.cell? ⟨p, 2, none⟩ = some (.int .i64 a) := by rw [Lib.cell_of_heap h]; rfl
theorem PB.c3 (h : PB w p s b a g v) : w.cell? ⟨p, 3, none⟩ = some (.int .i64 g) := by rw [Lib.cell_of_heap h]; rfl
theorem PB.c4 (h : PB w p s b a g v) : w.cell? ⟨p, 4, none⟩ = some v := by rw [Lib.cell_of_heap h]; rfl
theorem PB.fz (h : PB w p s b a g v) (o : Nat) : w.frozen? ⟨p, o, none⟩ = false := Lib.frozen_of_heap h o
theorem PB.lt (h : PB w p s b a g v) : p < w.heap.size := (Array.getElem?_eq_some_iff.1 h).1
theorem PB.kp {X : Nat → Prop} (h : PB w p s b a g v) (k : Kp X w w') (hp : ¬ X p) : PB w' p s b a g v := (k.block p h.lt hp).trans h
theorem PB.below (h : PB w p s b a g v) (k : Below w.heap.size w w') : PB w' p s b a g v := (k.block p h.lt).trans h
theorem PB.drew (h : PB w p s b a g v) : PB w.drew p s b a g v := h
theorem PB.drewN (h : PB w p s b a g v) (n : Nat) : PB (w.drewN n) p s b a g v := h
theorem PB.alloc (h : PB w p s b a g v) (o : Obj) : PB (w.alloc o) p s b a g v := (Below.heap_alloc _ _ _ h.lt).trans h
theorem PB.other (h : PB w p s b a g v) {q : Addr} (hq : q.block ≠ p) (u : Value) : PB (w.setCell q u) p s b a g v := (Below.heap_setCell _ _ _ _ (Ne.symm hq)).trans h
theorem PB.set (h : PB w p s b a g v) (j : Nat) (u : Value) : (w.setCell ⟨p, j, none⟩ u).heap[p]? = some (.cells (#[.string s, .int .i64 b, .int .i64 a, .int .i64 g, v].setIfInBounds j u) 76 (0, 0)) := heap_setCell_same w p j _ _ u h
theorem PB.set1 (h : PB w p s b a g v) (x : Int) : PB (w.setCell ⟨p, 1, none⟩ (.int .i64 x)) p s x a g v := h.set 1 _
theorem PB.set2 (h : PB w p s b a g v) (x : Int) : PB (w.setCell ⟨p, 2, none⟩ (.int .i64 x)) p s b x g v := h.set 2 _
theorem PB.set3 (h : PB w p s b a g v) (x : Int) : PB (w.setCell ⟨p, 3, none⟩ (.int .i64 x)) p s b a x v := h.set 3 _
theorem PB.set4 (h : PB w p s b a g v) (x : Value) : PB (w.setCell ⟨p, 4, none⟩ x) p s b a g x := h.set 4 _
end
/- what is wrong is told by a panic -/
def pan (b e : Int) : Ending := .panicked [{ v := .iface 70 (.agg #[.int .i64 b, .int .i64 e]), recovered := false }]
abbrev Own1 (p : Nat) : Nat → Prop := fun k => k = p
theorem wrong_any (p : Nat) (s : ByteArray) (b a g : Int) (v : Value) (w : World) (h : PB w p s b a g v) :
    Calls Tryz.prog 71 #[.pointer (some ⟨p, 0, none⟩)] w fun e w' => e = pan b 2 ∧ w = w' := by
  have h1 := h.c1
  have H := Lib.hid h
  clear h
  go_enter Tryz.func71, Tryz.ntmps71
  go_wp2_with fail
  exact ⟨rfl, rfl, rfl⟩
end Go.Proofs.YtdoapojmenojoaaGreatDoor
end

section
/- Going by a text, if it stands next. -/
set_option linter.unusedVariables false
namespace Go.Proofs.YtdoapojmenojoaaGreatDoor
open Go.RowKit

theorem prefix_at (s T : ByteArray) (a : Nat) (r : Bool) (w : World) (hr : Lib.hasPrefix (s.data.toList.drop a) T.data.toList = r) :
    Calls Tryz.prog 127 #[.string (s.extract a s.size), .string T] w fun e w' => e = .returned (.bool r) ∧ w' = w := by
  refine (Tryz.strings_HasPrefix _ _ _).mono ?_
  rintro e w' ⟨rfl, rfl⟩
  rw [Lib.extract_to_end, hr]
  exact ⟨rfl, rfl⟩
set_option maxRecDepth 20000 in
set_option maxHeartbeats 2000000 in
theorem next_true (p : Nat) (s T : ByteArray) (b g : Int) (a : Nat) (v : Value) (w : World) (h : PB w p s b a g v) (ha : a ≤ s.size) (hs : s.size ≤ 1000000) (hT : T.size ≤ 1000000)
    (hr : Lib.hasPrefix (s.data.toList.drop a) T.data.toList = true) :
    Calls Tryz.prog 100 #[.pointer (some ⟨p, 0, none⟩), .string T] w fun e w' => e = .returned (.bool true) ∧ PB w' p s b ((a + T.size : Nat) : Int) g v ∧ Kp (Own1 p) w w' := by
  have h0 := h.c0
  have h2 := h.c2
  have hf := h.fz 2
  have HP := Lib.hid h
  have HR := Lib.hid hr
  have ha' : (a : Int) ≤ (s.size : Int) := by omega
  clear h hr
  go_enter Tryz.func100, Tryz.ntmps100
  go_wp2_with fail
  go_quiet ((go_at_call 127; refine Calls.quiet_of_same (prefix_at _ _ _ _ _ HR.out)))
  go_wp2_with fail
  go_ret
  refine ⟨rfl, ?_, ((Kp.refl (Own1 p) w).drewN nq).set ⟨p, 2, none⟩ (.inl rfl) _⟩
  rw [Int.natCast_add]
  exact (HP.out.drewN nq).set2 _
set_option maxRecDepth 20000 in
set_option maxHeartbeats 2000000 in
theorem next_false (p : Nat) (s T : ByteArray) (b g : Int) (a : Nat) (v : Value) (w : World) (h : PB w p s b a g v) (ha : a ≤ s.size) (hs : s.size ≤ 1000000) (hT : T.size ≤ 1000000)
    (hr : Lib.hasPrefix (s.data.toList.drop a) T.data.toList = false) :
    Calls Tryz.prog 100 #[.pointer (some ⟨p, 0, none⟩), .string T] w fun e w' => e = .returned (.bool false) ∧ PB w' p s b a g v ∧ Kp (Own1 p) w w' := by
  have h0 := h.c0
  have h2 := h.c2
  have hf := h.fz 2
  have HP := Lib.hid h
  have HR := Lib.hid hr
  have ha' : (a : Int) ≤ (s.size : Int) := by omega
  clear h hr
  go_enter Tryz.func100, Tryz.ntmps100
  go_wp2_with fail
  go_quiet ((go_at_call 127; refine Calls.quiet_of_same (prefix_at _ _ _ _ _ HR.out)))
  go_wp2_with fail
  go_ret
  exact ⟨rfl, HP.out.drewN nq, (Kp.refl _ w).drewN nq⟩
/- by the runes that are left -/
theorem next_yes (T : ByteArray) (p : Nat) (s : ByteArray) (b g : Int) (a : Nat) (v : Value) (w : World) (t : List Int) (h : PB w p s b a g v) (hs : s.size ≤ 200) (hT : T.size ≤ 100) (h7 : ∀ c ∈ T.data.toList, c.toNat < 128) (ha : Sx.At s (T.data.toList.map (fun c => (c.toNat : Int)) ++ t) a) :
    Sx.At s t (a + T.size) ∧ Calls Tryz.prog 100 #[.pointer (some ⟨p, 0, none⟩), .string T] w fun e w' => e = .returned (.bool true) ∧ PB w' p s b ((a + T.size : Nat) : Int) g v ∧ Kp (Own1 p) w w' := by
  have hlen : T.data.toList.length = T.size := by rw [Array.length_toList]; rfl
  have hA : ∀ {T' : List UInt8}, (∀ c ∈ T', c.toNat < 128) → ∀ {a : Nat}, Sx.At s (T'.map (fun c => (c.toNat : Int)) ++ t) a → Sx.At s t (a + T'.length) := by
    intro T'
    induction T' with
    | nil => intro _ a h; exact h
    | cons c T' ih =>
      intro h7 a h
      obtain ⟨h1, h2, h3⟩ := Sx.At.cons h
      have hc := h7 c (by simp)
      have h2' : (c.toNat : Int) = Sx.tok (Rn.recAt s a) := h2
      obtain ⟨_, h4⟩ := Sx.tok_byte h1 h2'.symm (by omega) (by omega)
      rw [h4] at h3
      have := ih (fun d hd => h7 d (by simp [hd])) h3
      rwa [show a + 1 + T'.length = a + (c :: T').length by simp; omega] at this
  have hat := hA h7 ha
  rw [hlen] at hat
  exact ⟨hat, next_true p s T b g a v w h ha.le (by omega) (by omega) ((Sx.pre_iff h7 ha).2 ⟨t, rfl, by rw [hlen]; exact hat⟩)⟩
theorem next_no (T : ByteArray) (p : Nat) (s : ByteArray) (b g : Int) (a : Nat) (v : Value) (w : World) (l : List Int) (h : PB w p s b a g v) (hs : s.size ≤ 200) (hT : T.size ≤ 100) (h7 : ∀ c ∈ T.data.toList, c.toNat < 128) (ha : Sx.At s l a) (hn : ∀ t, l ≠ T.data.toList.map (fun c => (c.toNat : Int)) ++ t) :
    Calls Tryz.prog 100 #[.pointer (some ⟨p, 0, none⟩), .string T] w fun e w' => e = .returned (.bool false) ∧ PB w' p s b a g v ∧ Kp (Own1 p) w w' := by
  refine next_false p s T b g a v w h ha.le (by omega) (by omega) ?_
  cases hr : Lib.hasPrefix (s.data.toList.drop a) T.data.toList with
  | false => rfl
  | true =>
    obtain ⟨t, ht, _⟩ := (Sx.pre_iff h7 ha).1 hr
    exact absurd ht (hn t)
theorem encode_small (r : Int) : (Utf8.encode r).size ≤ 4 := by
  by_cases hr : Rn.rightB r = true
  · have := (Rn.right_iff r).1 hr
    rcases (show r < 128 ∨ 128 ≤ r ∧ r < 2048 ∨ 2048 ≤ r ∧ r < 65536 ∨ 65536 ≤ r by omega) with h | h | h | h
    · rw [Rn.enc1 hr (by omega) h]; show Array.size _ ≤ 4; simp
    · rw [Rn.enc2 hr h.1 h.2]; show Array.size _ ≤ 4; simp
    · rw [Rn.enc3 hr h.1 h.2]; show Array.size _ ≤ 4; simp
    · rw [Rn.enc4 hr h]; show Array.size _ ≤ 4; simp
  · rw [Rn.enc_bad (by simpa using hr)]; decide
/- going by a rune -/
set_option maxRecDepth 20000 in
set_option maxHeartbeats 2000000 in
theorem goBy_ok (p : Nat) (s : ByteArray) (b g : Int) (a : Nat) (v : Value) (w : World) (x : Int) (t : List Int) (h : PB w p s b a g v) (hs : s.size ≤ 200) (ha : Sx.At s (x :: t) a) (hx : 0 ≤ x) :
    Calls Tryz.prog 69 #[.pointer (some ⟨p, 0, none⟩), .int .i32 (Rn.dR s a : Nat)] w fun e w' => e = .returned (.tuple #[]) ∧ PB w' p s b ((a + Rn.dW s a : Nat) : Int) g v ∧ Kp (Own1 p) w w' := by
  obtain ⟨h1, h2, h3⟩ := ha.cons
  obtain ⟨h4, h5⟩ := Sx.rune_pre h1
  rw [← h2] at h4 h5
  rw [decide_eq_true hx] at h4
  have h6 := h5 hx
  have hz := encode_small (Rn.dR s a : Nat)
  have HP := Lib.hid h
  have HA := Lib.hid ha
  have HR := Lib.hid h4
  have H6 := Lib.hid h6
  clear h ha h2 h3 h4 h5 h6
  go_enter Tryz.func69, Tryz.ntmps69
  go_wp2_with (first | (go_at_call 101; refine (put_any _ _).mono ?_; rintro e w' ⟨rfl, rfl⟩) | (go_at_call 100; refine (next_true p s _ b g a v _ HP.out (by omega) (by omega) (by omega) HR.out).mono ?_; rintro e w1 ⟨rfl, hp1, hk1⟩; have HP1 := Lib.hid hp1; have HK1 := Lib.hid hk1; clear hp1 hk1))
  go_end0
  rw [H6.out] at HP1
  exact ⟨rfl, HP1.out, HK1.out⟩
set_option maxRecDepth 20000 in
set_option maxHeartbeats 2000000 in
theorem goBy_bad (p : Nat) (s : ByteArray) (b g : Int) (a : Nat) (v : Value) (w : World) (x : Int) (t : List Int) (h : PB w p s b a g v) (hs : s.size ≤ 200) (ha : Sx.At s (x :: t) a) (hx : ¬ 0 ≤ x) :
    Calls Tryz.prog 69 #[.pointer (some ⟨p, 0, none⟩), .int .i32 (Rn.dR s a : Nat)] w fun e w' => e = pan b 2 ∧ Kp (Own1 p) w w' := by
  obtain ⟨h1, h2, h3⟩ := ha.cons
  obtain ⟨h4, h5⟩ := Sx.rune_pre h1
  rw [← h2] at h4
  rw [decide_eq_false hx] at h4
  have hz := encode_small (Rn.dR s a : Nat)
  have HP := Lib.hid h
  have HR := Lib.hid h4
  clear h ha h2 h3 h4 h5
  go_enter Tryz.func69, Tryz.ntmps69
  go_wp2_with (first | (go_at_call 101; refine (put_any _ _).mono ?_; rintro e w' ⟨rfl, rfl⟩) | (go_at_call 100; refine (next_false p s _ b g a v _ HP.out (by omega) (by omega) (by omega) HR.out).mono ?_; rintro e w1 ⟨rfl, hp1, hk1⟩; have HP1 := Lib.hid hp1; have HK1 := Lib.hid hk1; clear hp1 hk1) | (go_at_call 71; refine (wrong_any p s b a g v _ HP1.out).mono ?_; rintro e w2 ⟨rfl, rfl⟩; unfold pan))
  exact ⟨rfl, rfl, HK1.out⟩
end Go.Proofs.YtdoapojmenojoaaGreatDoor
end

section
/- Variables of seven cells. -/
set_option linter.unusedVariables false
namespace Go.Proofs.YtdoapojmenojoaaGreatDoor
open Go.RowKit
open Sx (Nd)

/- a variable of seven cells, of the call's own -/
def Seven0 (w : World) (B : Nat) : Prop := w.heap[B]? = some (.cells #[.int .i64 0, .slice none 0 0, .int .i64 0, .int .i64 0, .bool false, .int .i64 0, .slice none 0 0] 29 (0, 0))
theorem seven0_new (w : World) : Seven0 (w.alloc (.cells #[.int .i64 0, .slice none 0 0, .int .i64 0, .int .i64 0, .bool false, .int .i64 0, .slice none 0 0] 29)) w.heap.size := new_block w _
theorem Seven0.kp {X : Nat → Prop} {w w' : World} {B : Nat} (h : Seven0 w B) (k : Kp X w w') (hB : ¬ X B) : Seven0 w' B := (k.block B (Array.getElem?_eq_some_iff.1 h).1 hB).trans h
theorem Seven0.below {w w' : World} {B : Nat} (h : Seven0 w B) (k : Below w.heap.size w w') : Seven0 w' B := (k.block B (Array.getElem?_eq_some_iff.1 h).1).trans h
theorem Seven0.cells {w : World} {B : Nat} (h : Seven0 w B) : w.cell? ⟨B, 0, none⟩ = some (.int .i64 0) ∧ w.cell? ⟨B, 1, none⟩ = some (.slice none 0 0) ∧ w.cell? ⟨B, 2, none⟩ = some (.int .i64 0) ∧ w.cell? ⟨B, 3, none⟩ = some (.int .i64 0) ∧ w.cell? ⟨B, 4, none⟩ = some (.bool false) ∧ w.cell? ⟨B, 5, none⟩ = some (.int .i64 0) ∧ w.cell? ⟨B, 6, none⟩ = some (.slice none 0 0) ∧ ∀ o, w.frozen? ⟨B, o, none⟩ = false := by
  refine ⟨?_, ?_, ?_, ?_, ?_, ?_, ?_, fun o => Lib.frozen_of_heap h o⟩ <;> (rw [Lib.cell_of_heap h]; rfl)
theorem Seven0.lt {w : World} {B : Nat} (h : Seven0 w B) : B < w.heap.size := (Array.getElem?_eq_some_iff.1 h).1
theorem Kp.set7 {X : Nat → Prop} {a w : World} (h : Kp X a w) {B : Nat} (hB : a.heap.size ≤ B) (x0 x1 x2 x3 x4 x5 x6 : Value) : Kp X a (set7 w B x0 x1 x2 x3 x4 x5 x6) :=
  ((((((h.set ⟨B, 0, none⟩ (.inr hB) x0).set ⟨B, 1, none⟩ (.inr hB) x1).set ⟨B, 2, none⟩ (.inr hB) x2).set ⟨B, 3, none⟩ (.inr hB) x3).set ⟨B, 4, none⟩ (.inr hB) x4).set ⟨B, 5, none⟩ (.inr hB) x5).set ⟨B, 6, none⟩ (.inr hB) x6
theorem PB.set7 {w : World} {p : Nat} {s : ByteArray} {b a g : Int} {v : Value} (h : PB w p s b a g v) {B : Nat} (hB : p ≠ B) (x0 x1 x2 x3 x4 x5 x6 : Value) : PB (set7 w B x0 x1 x2 x3 x4 x5 x6) p s b a g v := (set7_block _ _ _ _ _ _ _ _ _ p hB).trans h
theorem RowS.set7 {S S' : Nat → Prop} {w : World} {q : Option Addr} {l : List Cl.Rg} (h : RowS S w q l) {B : Nat} (hS : ∀ b, S b → S' b ∧ b ≠ B) (x0 x1 x2 x3 x4 x5 x6 : Value) : RowS S' (set7 w B x0 x1 x2 x3 x4 x5 x6) q l := h.mono (fun b hb => ⟨(hS b hb).1, set7_block _ _ _ _ _ _ _ _ _ b (hS b hb).2⟩)
theorem rows_nil (S : Nat → Prop) (w : World) (q : Option Addr) : RowS S w q [] := fun k x hx => by simp at hx
theorem alloc_setCell (w : World) (o : Obj) (a : Addr) (u : Value) (h : a.block < w.heap.size) : (w.alloc o).setCell a u = (w.setCell a u).alloc o := by
  unfold World.alloc World.setCell
  simp only
  congr 1
  apply Array.ext
  · simp
  · intro i h1 h2
    simp only [Array.getElem_modify, Array.getElem_push]
    by_cases hi : i < w.heap.size
    · simp [hi]
    · have e : ¬ a.block = i := by omega
      simp [hi, e]
theorem set7_alloc (w : World) (ob : Obj) (B : Nat) (hB : B < w.heap.size) (x0 x1 x2 x3 x4 x5 x6 : Value) : set7 (w.alloc ob) B x0 x1 x2 x3 x4 x5 x6 = (set7 w B x0 x1 x2 x3 x4 x5 x6).alloc ob := by
  unfold Go.Proofs.YtdoapojmenojoaaGreatDoor.set7
  rw [alloc_setCell w ob ⟨B, 0, none⟩ x0 hB, alloc_setCell _ ob ⟨B, 1, none⟩ x1 (by simpa [World.setCell] using hB), alloc_setCell _ ob ⟨B, 2, none⟩ x2 (by simpa [World.setCell] using hB), alloc_setCell _ ob ⟨B, 3, none⟩ x3 (by simpa [World.setCell] using hB), alloc_setCell _ ob ⟨B, 4, none⟩ x4 (by simpa [World.setCell] using hB), alloc_setCell _ ob ⟨B, 5, none⟩ x5 (by simpa [World.setCell] using hB), alloc_setCell _ ob ⟨B, 6, none⟩ x6 (by simpa [World.setCell] using hB)]
end Go.Proofs.YtdoapojmenojoaaGreatDoor
end

section
/- The next rune. -/
set_option linter.unusedVariables false
namespace Go.Proofs.YtdoapojmenojoaaGreatDoor
open Go.RowKit

theorem begins_at {s : ByteArray} {x : Int} {t : List Int} {a : Nat} (h : Sx.At s (x :: t) a) : Rn.BeginsT s a (Rn.dR s a) a (Rn.dW s a) true := by
  obtain ⟨r, a', z, b, hb⟩ := Rn.beginsT_some s a
  obtain ⟨rfl, rfl, rfl, rfl⟩ := Rn.beginsT_yes hb rfl h.reach h.cons.1
  exact hb
theorem begins_end {s : ByteArray} {a : Nat} (h : Sx.At s [] a) : Rn.BeginsT s a 0 0 0 false := by
  obtain ⟨r, a', z, b, hb⟩ := Rn.beginsT_some s a
  obtain ⟨rfl, rfl, rfl, rfl⟩ := Rn.beginsT_no hb (fun p hp _ hlt => by have := h.nil; omega)
  exact hb
/- what stands while a rune is asked for -/
structure Rs (w : World) (p : Nat) (s : ByteArray) (b a g : Int) (v : Value) (w' : World) : Prop where
  pb : PB w' p s b a g v
  kp : Kp (Own1 p) w w'
section
variable {w w1 w2 : World} {p : Nat} {s : ByteArray} {b a g : Int} {v : Value}
theorem rs_start (h : PB w p s b a g v) : w.cell? ⟨p, 0, none⟩ = some (.string s) ∧ w.cell? ⟨p, 2, none⟩ = some (.int .i64 a) ∧ Rs w p s b a g v w := ⟨h.c0, h.c2, h, Kp.refl _ _⟩
theorem rs_call (hb : Below w1.heap.size w1 w2) (h : w1.cell? ⟨p, 0, none⟩ = some (.string s) ∧ w1.cell? ⟨p, 2, none⟩ = some (.int .i64 a) ∧ Rs w p s b a g v w1) : w2.cell? ⟨p, 0, none⟩ = some (.string s) ∧ w2.cell? ⟨p, 2, none⟩ = some (.int .i64 a) ∧ Rs w p s b a g v w2 := by
  obtain ⟨_, _, h, k⟩ := h
  have h' := h.below hb
  exact ⟨h'.c0, h'.c2, h', k.below hb⟩
theorem rs_drew (h : w1.cell? ⟨p, 0, none⟩ = some (.string s) ∧ w1.cell? ⟨p, 2, none⟩ = some (.int .i64 a) ∧ Rs w p s b a g v w1) : w1.drew.cell? ⟨p, 0, none⟩ = some (.string s) ∧ w1.drew.cell? ⟨p, 2, none⟩ = some (.int .i64 a) ∧ Rs w p s b a g v w1.drew := rs_call (Below.refl _ _).drew h
theorem rs_alloc {o : Obj} (h : w1.cell? ⟨p, 0, none⟩ = some (.string s) ∧ w1.cell? ⟨p, 2, none⟩ = some (.int .i64 a) ∧ Rs w p s b a g v w1) : (w1.alloc o).cell? ⟨p, 0, none⟩ = some (.string s) ∧ (w1.alloc o).cell? ⟨p, 2, none⟩ = some (.int .i64 a) ∧ Rs w p s b a g v (w1.alloc o) := rs_call (below_new _ _) h
theorem rs_set {x : Addr} {u : Value} (hx : w.heap.size ≤ x.block) (hp : p < w.heap.size) (h : w1.cell? ⟨p, 0, none⟩ = some (.string s) ∧ w1.cell? ⟨p, 2, none⟩ = some (.int .i64 a) ∧ Rs w p s b a g v w1) : (w1.setCell x u).cell? ⟨p, 0, none⟩ = some (.string s) ∧ (w1.setCell x u).cell? ⟨p, 2, none⟩ = some (.int .i64 a) ∧ Rs w p s b a g v (w1.setCell x u) := by
  obtain ⟨_, _, h, k⟩ := h
  have h' := h.other (q := x) (by omega) u
  exact ⟨h'.c0, h'.c2, h', k.set x (.inr hx) u⟩
end
set_option maxRecDepth 20000 in
set_option maxHeartbeats 2000000 in
theorem rune_ok (p : Nat) (s : ByteArray) (b g : Int) (a : Nat) (v : Value) (w : World) (x : Int) (t : List Int) (h : PB w p s b a g v) (hs : s.size ≤ 200) (ha : Sx.At s (x :: t) a) (hx : 0 ≤ x) :
    Calls Tryz.prog 130 #[.pointer (some ⟨p, 0, none⟩)] w fun e w' => e = .returned (.int .i32 x) ∧ PB w' p s b ((a + Rn.dW s a : Nat) : Int) g v ∧ Kp (Own1 p) w w' := by
  have hB := begins_at ha
  have hxr : x = (Rn.dR s a : Int) := by rw [ha.cons.2.1, Sx.tok_rune (by rw [← ha.cons.2.1]; exact hx)]
  have HX := Lib.hid hxr
  clear hxr
  have hle := ha.le
  have hpl := h.lt
  have hS := rs_start h
  have HA := Lib.hid ha
  have HB := Lib.hid hB
  clear h ha hB
  go_enter Tryz.func130, Tryz.ntmps130
  go_wp2_with fail
  go_region_held3 (fun w' => w'.cell? ⟨p, 0, none⟩ = some (.string s) ∧ w'.cell? ⟨p, 2, none⟩ = some (.int .i64 a) ∧ Rs w p s b a g v w') (first | with_reducible assumption | (refine rs_set (Nat.le_refl _) hpl ?_; refine rs_set (Nat.le_refl _) hpl ?_; refine rs_set (Nat.le_refl _) hpl ?_; assumption) | (with_reducible refine rs_drew ?_; with_reducible assumption) | (with_reducible refine rs_alloc ?_; with_reducible assumption) | (with_reducible refine rs_drew ?_; with_reducible refine rs_alloc ?_; with_reducible assumption) | (refine rs_call (by assumption) ?_; assumption)) ((go_at_call 153; refine (at_any s a _ _ _ _ _ (by omega) (by omega) (by omega) HB.out).mono ?_; rintro e w1 ⟨rfl, hb1⟩; have hS1 := rs_call hb1 (by assumption); (try (have hbox := box_after hb1; obtain ⟨hbx, hbf⟩ := hbox; have y0 := hbx 0; have y1 := hbx 1; have y2 := hbx 2; simp at y0 y1 y2; clear hbx))))
  · rename_i hH
    have HH := Lib.hid hH.2.2
    have b0 : (w1.alloc (Obj.cells #[Value.int IntKind.i32 (Rn.dR s a : Nat), Value.int IntKind.i64 (a : Nat), Value.int IntKind.i64 (Rn.dW s a : Nat)] 170)).cell? ⟨w1.heap.size, 0, none⟩ = some (.int .i32 (Rn.dR s a : Nat)) := by rw [World.cell?_alloc_at _ _ _ _ rfl]; rfl
    have hlt : w1.heap.size < (w1.alloc (Obj.cells #[Value.int IntKind.i32 (Rn.dR s a : Nat), Value.int IntKind.i64 (a : Nat), Value.int IntKind.i64 (Rn.dW s a : Nat)] 170)).heap.size := by simp
    have hne : w1.heap.size ≠ p := by have := hS1.2.2.kp.size; omega
    clear hH hS1 hb1
    generalize (w1.alloc (Obj.cells #[Value.int IntKind.i32 (Rn.dR s a : Nat), Value.int IntKind.i64 (a : Nat), Value.int IntKind.i64 (Rn.dW s a : Nat)] 170)) = W at HH b0 hlt ⊢
    generalize w1.heap.size = B at b0 hlt hne ⊢
    go_wp2_with (go_at_call 69; refine (goBy_ok p s b g a v W x t HH.out.pb hs HA.out hx).mono ?_; rintro e w2 ⟨rfl, hp2, hk2⟩; have HP2 := Lib.hid hp2; have b2 : w2.cell? ⟨B, 0, none⟩ = some (.int .i32 (Rn.dR s a : Nat)) := (cell_of_block (a := ⟨B, 0, none⟩) (hk2.block B hlt hne)).trans b0; have HK2 := Lib.hid hk2; clear hp2 hk2)
    go_ret
    exact ⟨by rw [HX.out]; rfl, HP2.out, HH.out.kp.trans HK2.out⟩
  · rename_i hH
    have HH := Lib.hid hH.2.2
    have b0 : (((w1.setCell ⟨w.heap.size, 0, none⟩ (.int .i32 (Rn.dR s a : Nat))).setCell ⟨w.heap.size, 1, none⟩ (.int .i64 (a : Nat))).setCell ⟨w.heap.size, 2, none⟩ (.int .i64 (Rn.dW s a : Nat))).cell? ⟨w.heap.size, 0, none⟩ = some (.int .i32 (Rn.dR s a : Nat)) := sc_o (sc_o (sc_s y0) (by decide)) (by decide)
    have hlt : w.heap.size < (((w1.setCell ⟨w.heap.size, 0, none⟩ (.int .i32 (Rn.dR s a : Nat))).setCell ⟨w.heap.size, 1, none⟩ (.int .i64 (a : Nat))).setCell ⟨w.heap.size, 2, none⟩ (.int .i64 (Rn.dW s a : Nat))).heap.size := by have := hb1.size; simp at this; simp [World.setCell]; omega
    have hne : w.heap.size ≠ p := by omega
    clear hH hS1 hb1 y0 y1 y2 hbf
    generalize (((w1.setCell ⟨w.heap.size, 0, none⟩ (.int .i32 (Rn.dR s a : Nat))).setCell ⟨w.heap.size, 1, none⟩ (.int .i64 (a : Nat))).setCell ⟨w.heap.size, 2, none⟩ (.int .i64 (Rn.dW s a : Nat))) = W at HH b0 hlt ⊢
    generalize w.heap.size = B at b0 hlt hne ⊢
    go_wp2_with (go_at_call 69; refine (goBy_ok p s b g a v W x t HH.out.pb hs HA.out hx).mono ?_; rintro e w2 ⟨rfl, hp2, hk2⟩; have HP2 := Lib.hid hp2; have b2 : w2.cell? ⟨B, 0, none⟩ = some (.int .i32 (Rn.dR s a : Nat)) := (cell_of_block (a := ⟨B, 0, none⟩) (hk2.block B hlt hne)).trans b0; have HK2 := Lib.hid hk2; clear hp2 hk2)
    go_ret
    exact ⟨by rw [HX.out]; rfl, HP2.out, HH.out.kp.trans HK2.out⟩
set_option maxRecDepth 20000 in
set_option maxHeartbeats 2000000 in
theorem rune_bad (p : Nat) (s : ByteArray) (b g : Int) (a : Nat) (v : Value) (w : World) (x : Int) (t : List Int) (h : PB w p s b a g v) (hs : s.size ≤ 200) (ha : Sx.At s (x :: t) a) (hx : ¬ 0 ≤ x) :
    Calls Tryz.prog 130 #[.pointer (some ⟨p, 0, none⟩)] w fun e w' => e = pan b 2 ∧ Kp (Own1 p) w w' := by
  have hB := begins_at ha
  have hle := ha.le
  have hpl := h.lt
  have hS := rs_start h
  have HA := Lib.hid ha
  have HB := Lib.hid hB
  clear h ha hB
  go_enter Tryz.func130, Tryz.ntmps130
  go_wp2_with fail
  go_region_held3 (fun w' => w'.cell? ⟨p, 0, none⟩ = some (.string s) ∧ w'.cell? ⟨p, 2, none⟩ = some (.int .i64 a) ∧ Rs w p s b a g v w') (first | with_reducible assumption | (refine rs_set (Nat.le_refl _) hpl ?_; refine rs_set (Nat.le_refl _) hpl ?_; refine rs_set (Nat.le_refl _) hpl ?_; assumption) | (with_reducible refine rs_drew ?_; with_reducible assumption) | (with_reducible refine rs_alloc ?_; with_reducible assumption) | (with_reducible refine rs_drew ?_; with_reducible refine rs_alloc ?_; with_reducible assumption) | (refine rs_call (by assumption) ?_; assumption)) ((go_at_call 153; refine (at_any s a _ _ _ _ _ (by omega) (by omega) (by omega) HB.out).mono ?_; rintro e w1 ⟨rfl, hb1⟩; have hS1 := rs_call hb1 (by assumption); (try (have hbox := box_after hb1; obtain ⟨hbx, hbf⟩ := hbox; have y0 := hbx 0; have y1 := hbx 1; have y2 := hbx 2; simp at y0 y1 y2; clear hbx))))
  · rename_i hH
    have HH := Lib.hid hH.2.2
    have b0 : (w1.alloc (Obj.cells #[Value.int IntKind.i32 (Rn.dR s a : Nat), Value.int IntKind.i64 (a : Nat), Value.int IntKind.i64 (Rn.dW s a : Nat)] 170)).cell? ⟨w1.heap.size, 0, none⟩ = some (.int .i32 (Rn.dR s a : Nat)) := by rw [World.cell?_alloc_at _ _ _ _ rfl]; rfl
    have hlt : w1.heap.size < (w1.alloc (Obj.cells #[Value.int IntKind.i32 (Rn.dR s a : Nat), Value.int IntKind.i64 (a : Nat), Value.int IntKind.i64 (Rn.dW s a : Nat)] 170)).heap.size := by simp
    have hne : w1.heap.size ≠ p := by have := hS1.2.2.kp.size; omega
    clear hH hS1 hb1
    generalize (w1.alloc (Obj.cells #[Value.int IntKind.i32 (Rn.dR s a : Nat), Value.int IntKind.i64 (a : Nat), Value.int IntKind.i64 (Rn.dW s a : Nat)] 170)) = W at HH b0 hlt ⊢
    generalize w1.heap.size = B at b0 hlt hne ⊢
    go_wp2_with (go_at_call 69; refine (goBy_bad p s b g a v W x t HH.out.pb hs HA.out (by omega)).mono ?_; rintro e w2 ⟨rfl, hk2⟩; unfold pan; have HK2 := Lib.hid hk2; clear hk2)
    exact ⟨rfl, rfl, HH.out.kp.trans HK2.out⟩
  · rename_i hH
    have HH := Lib.hid hH.2.2
    have b0 : (((w1.setCell ⟨w.heap.size, 0, none⟩ (.int .i32 (Rn.dR s a : Nat))).setCell ⟨w.heap.size, 1, none⟩ (.int .i64 (a : Nat))).setCell ⟨w.heap.size, 2, none⟩ (.int .i64 (Rn.dW s a : Nat))).cell? ⟨w.heap.size, 0, none⟩ = some (.int .i32 (Rn.dR s a : Nat)) := sc_o (sc_o (sc_s y0) (by decide)) (by decide)
    have hlt : w.heap.size < (((w1.setCell ⟨w.heap.size, 0, none⟩ (.int .i32 (Rn.dR s a : Nat))).setCell ⟨w.heap.size, 1, none⟩ (.int .i64 (a : Nat))).setCell ⟨w.heap.size, 2, none⟩ (.int .i64 (Rn.dW s a : Nat))).heap.size := by have := hb1.size; simp at this; simp [World.setCell]; omega
    have hne : w.heap.size ≠ p := by omega
    clear hH hS1 hb1 y0 y1 y2 hbf
    generalize (((w1.setCell ⟨w.heap.size, 0, none⟩ (.int .i32 (Rn.dR s a : Nat))).setCell ⟨w.heap.size, 1, none⟩ (.int .i64 (a : Nat))).setCell ⟨w.heap.size, 2, none⟩ (.int .i64 (Rn.dW s a : Nat))) = W at HH b0 hlt ⊢
    generalize w.heap.size = B at b0 hlt hne ⊢
    go_wp2_with (go_at_call 69; refine (goBy_bad p s b g a v W x t HH.out.pb hs HA.out (by omega)).mono ?_; rintro e w2 ⟨rfl, hk2⟩; unfold pan; have HK2 := Lib.hid hk2; clear hk2)
    exact ⟨rfl, rfl, HH.out.kp.trans HK2.out⟩
set_option maxRecDepth 20000 in
set_option maxHeartbeats 2000000 in
theorem rune_end (p : Nat) (s : ByteArray) (b g : Int) (a : Nat) (v : Value) (w : World) (h : PB w p s b a g v) (hs : s.size ≤ 200) (ha : Sx.At s [] a) :
    Calls Tryz.prog 130 #[.pointer (some ⟨p, 0, none⟩)] w fun e w' => e = pan b 2 ∧ Kp (Own1 p) w w' := by
  have hB := begins_end ha
  have hle := ha.le
  have hpl := h.lt
  have hS := rs_start h
  have HA := Lib.hid ha
  have HB := Lib.hid hB
  clear h ha hB
  go_enter Tryz.func130, Tryz.ntmps130
  go_wp2_with fail
  go_region_held3 (fun w' => w'.cell? ⟨p, 0, none⟩ = some (.string s) ∧ w'.cell? ⟨p, 2, none⟩ = some (.int .i64 a) ∧ Rs w p s b a g v w') (first | with_reducible assumption | (refine rs_set (Nat.le_refl _) hpl ?_; refine rs_set (Nat.le_refl _) hpl ?_; refine rs_set (Nat.le_refl _) hpl ?_; assumption) | (with_reducible refine rs_drew ?_; with_reducible assumption) | (with_reducible refine rs_alloc ?_; with_reducible assumption) | (with_reducible refine rs_drew ?_; with_reducible refine rs_alloc ?_; with_reducible assumption) | (refine rs_call (by assumption) ?_; assumption)) ((go_at_call 153; refine (at_any s a _ _ _ _ _ (by omega) (by omega) (by omega) HB.out).mono ?_; rintro e w1 ⟨rfl, hb1⟩; have hS1 := rs_call hb1 (by assumption); (try (have hbox := box_after hb1; obtain ⟨hbx, hbf⟩ := hbox; have y0 := hbx 0; have y1 := hbx 1; have y2 := hbx 2; simp at y0 y1 y2; clear hbx))))
  · rename_i hH
    have HH := Lib.hid hH.2.2
    have b0 : (w1.alloc (Obj.cells #[Value.int IntKind.i32 0, Value.int IntKind.i64 0, Value.int IntKind.i64 0] 170)).cell? ⟨w1.heap.size, 0, none⟩ = some (.int .i32 0) := by rw [World.cell?_alloc_at _ _ _ _ rfl]; rfl
    have hlt : w1.heap.size < (w1.alloc (Obj.cells #[Value.int IntKind.i32 0, Value.int IntKind.i64 0, Value.int IntKind.i64 0] 170)).heap.size := by simp
    have hne : w1.heap.size ≠ p := by have := hS1.2.2.kp.size; omega
    clear hH hS1 hb1
    generalize (w1.alloc (Obj.cells #[Value.int IntKind.i32 0, Value.int IntKind.i64 0, Value.int IntKind.i64 0] 170)) = W at HH b0 hlt ⊢
    generalize w1.heap.size = B at b0 hlt hne ⊢
    go_wp2_with (go_at_call 71; refine (wrong_any p s b a g v _ HH.out.pb).mono ?_; rintro e w2 ⟨rfl, rfl⟩; unfold pan)
    exact ⟨rfl, rfl, HH.out.kp⟩
  · rename_i hH
    have HH := Lib.hid hH.2.2
    have b0 : (((w1.setCell ⟨w.heap.size, 0, none⟩ (.int .i32 0)).setCell ⟨w.heap.size, 1, none⟩ (.int .i64 0)).setCell ⟨w.heap.size, 2, none⟩ (.int .i64 0)).cell? ⟨w.heap.size, 0, none⟩ = some (.int .i32 0) := sc_o (sc_o (sc_s y0) (by decide)) (by decide)
    have hlt : w.heap.size < (((w1.setCell ⟨w.heap.size, 0, none⟩ (.int .i32 0)).setCell ⟨w.heap.size, 1, none⟩ (.int .i64 0)).setCell ⟨w.heap.size, 2, none⟩ (.int .i64 0)).heap.size := by have := hb1.size; simp at this; simp [World.setCell]; omega
    have hne : w.heap.size ≠ p := by omega
    clear hH hS1 hb1 y0 y1 y2 hbf
    generalize (((w1.setCell ⟨w.heap.size, 0, none⟩ (.int .i32 0)).setCell ⟨w.heap.size, 1, none⟩ (.int .i64 0)).setCell ⟨w.heap.size, 2, none⟩ (.int .i64 0)) = W at HH b0 hlt ⊢
    generalize w.heap.size = B at b0 hlt hne ⊢
    go_wp2_with (go_at_call 71; refine (wrong_any p s b a g v _ HH.out.pb).mono ?_; rintro e w2 ⟨rfl, rfl⟩; unfold pan)
    exact ⟨rfl, rfl, HH.out.kp⟩
/- in short: the next one, or none -/
end Go.Proofs.YtdoapojmenojoaaGreatDoor
end
