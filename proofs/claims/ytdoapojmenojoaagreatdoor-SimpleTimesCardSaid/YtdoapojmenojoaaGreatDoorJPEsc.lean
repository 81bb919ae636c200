import Derived.Test.YtdoapojmenojoaaGreatDoorJPar
import Derived.Test.YtdoapojmenojoaaGreatDoorJPCls
import Derived.Test.YtdoapojmenojoaaGreatDoorJPHas
set_option linter.unusedSimpArgs false
set_option linter.unusedVariables false
/- What stands behind a backslash. -/
set_option linter.unusedVariables false
namespace Go.Proofs.YtdoapojmenojoaaGreatDoor
open Go.RowKit
open Sx (Nd)

/- a node without kids, its class elsewhere -/
def Lf (w w' : World) (v : Value) (k : Int) (cl : List Cl.Rg) : Prop := ∃ q c, v = ndv k (.slice q cl.length c) 0 0 false 0 (.slice none 0 0) ∧ RowS (New w w') w' q cl ∧ Ptr q c
/- the parser behind a call within it -/
structure Pz (w : World) (p : Nat) (s : ByteArray) (b : Int) (a : Nat) (g : Int) (v : Value) (t : List Int) (w' : World) : Prop where
  pb : PB w' p s b (a : Int) g v
  kp : Kp (Own1 p) w w'
  at' : Sx.At s t a
theorem rune_is (p : Nat) (s : ByteArray) (b g : Int) (a : Nat) (v : Value) (w : World) (x : Int) (t : List Int) (h : PB w p s b a g v) (hs : s.size ≤ 200) (ha : Sx.At s (x :: t) a) (hx : 0 ≤ x) :
    Calls Tryz.prog 130 #[.pointer (some ⟨p, 0, none⟩)] w fun e w' => e = .returned (.int .i32 x) ∧ ∃ a' : Nat, Sx.At s t a' ∧ PB w' p s b (a' : Int) g v ∧ Kp (Own1 p) w w' :=
  (rune_ok p s b g a v w x t h hs ha hx).mono fun e w' hh => ⟨hh.1, _, ha.cons.2.2, hh.2⟩
theorem rune_no (p : Nat) (s : ByteArray) (b g : Int) (a : Nat) (v : Value) (w : World) (l : List Int) (h : PB w p s b a g v) (hs : s.size ≤ 200) (ha : Sx.At s l a) (hl : ∀ x t, l = x :: t → x < 0) :
    Calls Tryz.prog 130 #[.pointer (some ⟨p, 0, none⟩)] w fun e w' => e = pan b 2 ∧ Kp (Own1 p) w w' := by
  cases l with
  | nil => exact rune_end p s b g a v w h hs ha
  | cons x t => exact rune_bad p s b g a v w x t h hs ha (by have := hl x t rfl; omega)
theorem at_rune {s : ByteArray} {x : Int} {t : List Int} {a : Nat} (h : Sx.At s (x :: t) a) (h0 : 0 ≤ x) : x ≤ 1114111 ∧ Rn.rightB x = true := by
  have h1 := h.cons
  exact ⟨by rw [h1.2.1]; exact Sx.tok_top h1.1, by rw [h1.2.1]; exact Sx.tok_right h1.1 (by rw [← h1.2.1]; exact h0)⟩
def esc (x : Int) : Option (Int × List Cl.Rg) := if x = 98 then some (4, []) else if x = 66 then some (5, []) else if Sx.escape x = [] then none else some (1, Sx.escape x)
abbrev spT : ByteArray := ⟨#[92, 46, 91, 93, 40, 41, 42, 43, 63, 123, 125, 124, 94, 36]⟩
theorem hasR_special {r : Int} (h0 : 0 ≤ r) : hasR spT.data.toList r = Sx.special r := by
  by_cases h : r < 128
  · obtain ⟨n, rfl⟩ := Int.eq_ofNat_of_zero_le h0
    have hn : n < 128 := by omega
    clear h h0
    revert n
    decide
  · unfold hasR
    rw [decide_eq_false h, Bool.false_and]
    unfold Sx.special
    symm
    rw [← Bool.not_eq_true, List.contains_iff_mem]
    simp only [List.mem_cons, List.not_mem_nil, or_false]
    omega
def EscPost (w : World) (p : Nat) (s : ByteArray) (b g : Int) (v : Value) (l : List Int) (e : Ending) (w' : World) : Prop :=
  (∃ x t a' k cl u, l = x :: t ∧ esc x = some (k, cl) ∧ e = .returned u ∧ Lf w w' u k cl ∧ Pz w p s b a' g v t w') ∨ ((∀ x t, l = x :: t → esc x = none) ∧ e = pan b 2 ∧ Kp (Own1 p) w w')
set_option maxRecDepth 20000 in
set_option maxHeartbeats 4000000 in
theorem esc_n (p : Nat) (s : ByteArray) (b g : Int) (a : Nat) (v : Value) (w : World) (t : List Int) (h : PB w p s b a g v) (hs : s.size ≤ 200) (ha : Sx.At s (110 :: t) a) :
    Calls Tryz.prog 109 #[.pointer (some ⟨p, 0, none⟩)] w (EscPost w p s b g v (110 :: t)) := by
  have HE := Lib.hid (show esc 110 = some (1, [(10, 10)]) by decide)
  have HX0 := Lib.hid (show (0 : Int) ≤ 110 by decide)
  have hpl := h.lt
  have HA := Lib.hid ha
  have HP := Lib.hid (h.alloc (.cells #[.int .i64 0, .slice none 0 0, .int .i64 0, .int .i64 0, .bool false, .int .i64 0, .slice none 0 0] 29))
  clear h ha
  go_enter Tryz.func109, Tryz.ntmps109
  go_wp2_with (first | (go_at_call 130; refine (rune_is p s b g a v _ 110 t HP.out hs HA.out HX0.out).mono ?_; rintro e w1 ⟨rfl, a1, hat, hp1, hk1⟩; have S1 := (seven0_new w).kp hk1 (by unfold Own1; omega); have HK1 := Lib.hid (show Kp (Own1 p) w w1 from ((Kp.refl _ w).alloc _).trans hk1); have HP1 := Lib.hid hp1; have HT := Lib.hid hat; have hBw := S1.lt; clear hp1 hk1 hat) | (go_at_call 111; refine (single_any 10 _ (by decide) (by decide)).mono ?_; rintro e w2 ⟨q, c, rfl, hq, hpt, hw2⟩; have S2 := S1.below hw2; have HQ := Lib.hid (show RowS (New w1 w2) w2 q [(10, 10)] from hq); have HPT := Lib.hid (show Ptr q c from hpt); have HP2 := Lib.hid (HP1.out.below hw2); have HKZ := Lib.hid (HK1.out.below hw2); have hsz2 := hw2.size; obtain ⟨y0, y1, y2, y3, y4, y5, y6, yf⟩ := S2.cells; clear hq hpt hw2))
  have h7 := set7_seven w2 w.heap.size 1 0 0 0 false (.slice q 1 c) (.slice none 0 0) y0 y1 y2 y3 y4 y5 y6
  have HF := Lib.hid (show Lf w (set7 w2 w.heap.size (.int .i64 1) (.slice q 1 c) (.int .i64 0) (.int .i64 0) (.bool false) (.int .i64 0) (.slice none 0 0)) (ndv 1 (.slice q 1 c) 0 0 false 0 (.slice none 0 0)) 1 [(10, 10)] ∧ Pz w p s b a1 g v t (set7 w2 w.heap.size (.int .i64 1) (.slice q 1 c) (.int .i64 0) (.int .i64 0) (.bool false) (.int .i64 0) (.slice none 0 0)) from
    ⟨⟨q, c, rfl, HQ.out.set7 (fun bb hbb => ⟨⟨by have := hbb.1; omega, by rw [set7_size]; exact hbb.2⟩, by have := hbb.1; omega⟩) _ _ _ _ _ _ _, HPT.out⟩, ⟨PB.set7 (HP2.out) (by omega) _ _ _ _ _ _ _, Kp.set7 (HKZ.out) (Nat.le_refl _) _ _ _ _ _ _ _, HT.out⟩⟩)
  clear S1 HK1 HP1 HT
  change bodyPost _ _ _ _ _ (set7 w2 w.heap.size (.int .i64 1) (.slice q 1 c) (.int .i64 0) (.int .i64 0) (.bool false) (.int .i64 0) (.slice none 0 0))
  obtain ⟨z0, z1, z2, z3, z4, z5, z6⟩ := h7
  simp only [Nat.zero_add] at z0 z1 z2 z3 z4 z5 z6
  generalize (set7 w2 w.heap.size (.int .i64 1) (.slice q 1 c) (.int .i64 0) (.int .i64 0) (.bool false) (.int .i64 0) (.slice none 0 0)) = wf at *
  exact bodyPost_ret (v := ndv 1 (.slice q 1 c) 0 0 false 0 (.slice none 0 0)) (by unfold ndv; simp [results, Tryz.results109, go_sem, *]) rfl (.inl ⟨_, _, _, _, _, _, rfl, HE.out, rfl, HF.out.1, HF.out.2⟩)
set_option maxRecDepth 20000 in
set_option maxHeartbeats 4000000 in
theorem esc_t (p : Nat) (s : ByteArray) (b g : Int) (a : Nat) (v : Value) (w : World) (t : List Int) (h : PB w p s b a g v) (hs : s.size ≤ 200) (ha : Sx.At s (116 :: t) a) :
    Calls Tryz.prog 109 #[.pointer (some ⟨p, 0, none⟩)] w (EscPost w p s b g v (116 :: t)) := by
  have HE := Lib.hid (show esc 116 = some (1, [(9, 9)]) by decide)
  have HX0 := Lib.hid (show (0 : Int) ≤ 116 by decide)
  have hpl := h.lt
  have HA := Lib.hid ha
  have HP := Lib.hid (h.alloc (.cells #[.int .i64 0, .slice none 0 0, .int .i64 0, .int .i64 0, .bool false, .int .i64 0, .slice none 0 0] 29))
  clear h ha
  go_enter Tryz.func109, Tryz.ntmps109
  go_wp2_with (first | (go_at_call 130; refine (rune_is p s b g a v _ 116 t HP.out hs HA.out HX0.out).mono ?_; rintro e w1 ⟨rfl, a1, hat, hp1, hk1⟩; have S1 := (seven0_new w).kp hk1 (by unfold Own1; omega); have HK1 := Lib.hid (show Kp (Own1 p) w w1 from ((Kp.refl _ w).alloc _).trans hk1); have HP1 := Lib.hid hp1; have HT := Lib.hid hat; have hBw := S1.lt; clear hp1 hk1 hat) | (go_at_call 111; refine (single_any 9 _ (by decide) (by decide)).mono ?_; rintro e w2 ⟨q, c, rfl, hq, hpt, hw2⟩; have S2 := S1.below hw2; have HQ := Lib.hid (show RowS (New w1 w2) w2 q [(9, 9)] from hq); have HPT := Lib.hid (show Ptr q c from hpt); have HP2 := Lib.hid (HP1.out.below hw2); have HKZ := Lib.hid (HK1.out.below hw2); have hsz2 := hw2.size; obtain ⟨y0, y1, y2, y3, y4, y5, y6, yf⟩ := S2.cells; clear hq hpt hw2))
  have h7 := set7_seven w2 w.heap.size 1 0 0 0 false (.slice q 1 c) (.slice none 0 0) y0 y1 y2 y3 y4 y5 y6
  have HF := Lib.hid (show Lf w (set7 w2 w.heap.size (.int .i64 1) (.slice q 1 c) (.int .i64 0) (.int .i64 0) (.bool false) (.int .i64 0) (.slice none 0 0)) (ndv 1 (.slice q 1 c) 0 0 false 0 (.slice none 0 0)) 1 [(9, 9)] ∧ Pz w p s b a1 g v t (set7 w2 w.heap.size (.int .i64 1) (.slice q 1 c) (.int .i64 0) (.int .i64 0) (.bool false) (.int .i64 0) (.slice none 0 0)) from
    ⟨⟨q, c, rfl, HQ.out.set7 (fun bb hbb => ⟨⟨by have := hbb.1; omega, by rw [set7_size]; exact hbb.2⟩, by have := hbb.1; omega⟩) _ _ _ _ _ _ _, HPT.out⟩, ⟨PB.set7 (HP2.out) (by omega) _ _ _ _ _ _ _, Kp.set7 (HKZ.out) (Nat.le_refl _) _ _ _ _ _ _ _, HT.out⟩⟩)
  clear S1 HK1 HP1 HT
  change bodyPost _ _ _ _ _ (set7 w2 w.heap.size (.int .i64 1) (.slice q 1 c) (.int .i64 0) (.int .i64 0) (.bool false) (.int .i64 0) (.slice none 0 0))
  obtain ⟨z0, z1, z2, z3, z4, z5, z6⟩ := h7
  simp only [Nat.zero_add] at z0 z1 z2 z3 z4 z5 z6
  generalize (set7 w2 w.heap.size (.int .i64 1) (.slice q 1 c) (.int .i64 0) (.int .i64 0) (.bool false) (.int .i64 0) (.slice none 0 0)) = wf at *
  exact bodyPost_ret (v := ndv 1 (.slice q 1 c) 0 0 false 0 (.slice none 0 0)) (by unfold ndv; simp [results, Tryz.results109, go_sem, *]) rfl (.inl ⟨_, _, _, _, _, _, rfl, HE.out, rfl, HF.out.1, HF.out.2⟩)
set_option maxRecDepth 20000 in
set_option maxHeartbeats 4000000 in
theorem esc_d (p : Nat) (s : ByteArray) (b g : Int) (a : Nat) (v : Value) (w : World) (t : List Int) (h : PB w p s b a g v) (hs : s.size ≤ 200) (ha : Sx.At s (100 :: t) a) :
    Calls Tryz.prog 109 #[.pointer (some ⟨p, 0, none⟩)] w (EscPost w p s b g v (100 :: t)) := by
  have HE := Lib.hid (show esc 100 = some (1, [(48, 57)]) by decide)
  have HX0 := Lib.hid (show (0 : Int) ≤ 100 by decide)
  have hpl := h.lt
  have HA := Lib.hid ha
  have HP := Lib.hid (h.alloc (.cells #[.int .i64 0, .slice none 0 0, .int .i64 0, .int .i64 0, .bool false, .int .i64 0, .slice none 0 0] 29))
  clear h ha
  go_enter Tryz.func109, Tryz.ntmps109
  go_wp2_with (first | (go_at_call 130; refine (rune_is p s b g a v _ 100 t HP.out hs HA.out HX0.out).mono ?_; rintro e w1 ⟨rfl, a1, hat, hp1, hk1⟩; have S1 := (seven0_new w).kp hk1 (by unfold Own1; omega); have HK1 := Lib.hid (show Kp (Own1 p) w w1 from ((Kp.refl _ w).alloc _).trans hk1); have HP1 := Lib.hid hp1; have HT := Lib.hid hat; have hBw := S1.lt; clear hp1 hk1 hat) | (go_at_call 131; refine (sdigits_any _).mono ?_; rintro e w2 ⟨q, c, rfl, hq, hpt, hw2⟩; have S2 := S1.below hw2; have HQ := Lib.hid (show RowS (New w1 w2) w2 q [(48, 57)] from hq); have HPT := Lib.hid (show Ptr q c from hpt); have HP2 := Lib.hid (HP1.out.below hw2); have HKZ := Lib.hid (HK1.out.below hw2); have hsz2 := hw2.size; obtain ⟨y0, y1, y2, y3, y4, y5, y6, yf⟩ := S2.cells; clear hq hpt hw2))
  have h7 := set7_seven w2 w.heap.size 1 0 0 0 false (.slice q 1 c) (.slice none 0 0) y0 y1 y2 y3 y4 y5 y6
  have HF := Lib.hid (show Lf w (set7 w2 w.heap.size (.int .i64 1) (.slice q 1 c) (.int .i64 0) (.int .i64 0) (.bool false) (.int .i64 0) (.slice none 0 0)) (ndv 1 (.slice q 1 c) 0 0 false 0 (.slice none 0 0)) 1 [(48, 57)] ∧ Pz w p s b a1 g v t (set7 w2 w.heap.size (.int .i64 1) (.slice q 1 c) (.int .i64 0) (.int .i64 0) (.bool false) (.int .i64 0) (.slice none 0 0)) from
    ⟨⟨q, c, rfl, HQ.out.set7 (fun bb hbb => ⟨⟨by have := hbb.1; omega, by rw [set7_size]; exact hbb.2⟩, by have := hbb.1; omega⟩) _ _ _ _ _ _ _, HPT.out⟩, ⟨PB.set7 (HP2.out) (by omega) _ _ _ _ _ _ _, Kp.set7 (HKZ.out) (Nat.le_refl _) _ _ _ _ _ _ _, HT.out⟩⟩)
  clear S1 HK1 HP1 HT
  change bodyPost _ _ _ _ _ (set7 w2 w.heap.size (.int .i64 1) (.slice q 1 c) (.int .i64 0) (.int .i64 0) (.bool false) (.int .i64 0) (.slice none 0 0))
  obtain ⟨z0, z1, z2, z3, z4, z5, z6⟩ := h7
  simp only [Nat.zero_add] at z0 z1 z2 z3 z4 z5 z6
  generalize (set7 w2 w.heap.size (.int .i64 1) (.slice q 1 c) (.int .i64 0) (.int .i64 0) (.bool false) (.int .i64 0) (.slice none 0 0)) = wf at *
  exact bodyPost_ret (v := ndv 1 (.slice q 1 c) 0 0 false 0 (.slice none 0 0)) (by unfold ndv; simp [results, Tryz.results109, go_sem, *]) rfl (.inl ⟨_, _, _, _, _, _, rfl, HE.out, rfl, HF.out.1, HF.out.2⟩)
set_option maxRecDepth 20000 in
set_option maxHeartbeats 4000000 in
theorem esc_w (p : Nat) (s : ByteArray) (b g : Int) (a : Nat) (v : Value) (w : World) (t : List Int) (h : PB w p s b a g v) (hs : s.size ≤ 200) (ha : Sx.At s (119 :: t) a) :
    Calls Tryz.prog 109 #[.pointer (some ⟨p, 0, none⟩)] w (EscPost w p s b g v (119 :: t)) := by
  have HE := Lib.hid (show esc 119 = some (1, [(48, 57), (65, 90), (95, 95), (97, 122)]) by decide)
  have HX0 := Lib.hid (show (0 : Int) ≤ 119 by decide)
  have hpl := h.lt
  have HA := Lib.hid ha
  have HP := Lib.hid (h.alloc (.cells #[.int .i64 0, .slice none 0 0, .int .i64 0, .int .i64 0, .bool false, .int .i64 0, .slice none 0 0] 29))
  clear h ha
  go_enter Tryz.func109, Tryz.ntmps109
  go_wp2_with (first | (go_at_call 130; refine (rune_is p s b g a v _ 119 t HP.out hs HA.out HX0.out).mono ?_; rintro e w1 ⟨rfl, a1, hat, hp1, hk1⟩; have S1 := (seven0_new w).kp hk1 (by unfold Own1; omega); have HK1 := Lib.hid (show Kp (Own1 p) w w1 from ((Kp.refl _ w).alloc _).trans hk1); have HP1 := Lib.hid hp1; have HT := Lib.hid hat; have hBw := S1.lt; clear hp1 hk1 hat) | (go_at_call 132; refine (swords_any _).mono ?_; rintro e w2 ⟨q, c, rfl, hq, hpt, hw2⟩; have S2 := S1.below hw2; have HQ := Lib.hid (show RowS (New w1 w2) w2 q [(48, 57), (65, 90), (95, 95), (97, 122)] from hq); have HPT := Lib.hid (show Ptr q c from hpt); have HP2 := Lib.hid (HP1.out.below hw2); have HKZ := Lib.hid (HK1.out.below hw2); have hsz2 := hw2.size; obtain ⟨y0, y1, y2, y3, y4, y5, y6, yf⟩ := S2.cells; clear hq hpt hw2))
  have h7 := set7_seven w2 w.heap.size 1 0 0 0 false (.slice q 4 c) (.slice none 0 0) y0 y1 y2 y3 y4 y5 y6
  have HF := Lib.hid (show Lf w (set7 w2 w.heap.size (.int .i64 1) (.slice q 4 c) (.int .i64 0) (.int .i64 0) (.bool false) (.int .i64 0) (.slice none 0 0)) (ndv 1 (.slice q 4 c) 0 0 false 0 (.slice none 0 0)) 1 [(48, 57), (65, 90), (95, 95), (97, 122)] ∧ Pz w p s b a1 g v t (set7 w2 w.heap.size (.int .i64 1) (.slice q 4 c) (.int .i64 0) (.int .i64 0) (.bool false) (.int .i64 0) (.slice none 0 0)) from
    ⟨⟨q, c, rfl, HQ.out.set7 (fun bb hbb => ⟨⟨by have := hbb.1; omega, by rw [set7_size]; exact hbb.2⟩, by have := hbb.1; omega⟩) _ _ _ _ _ _ _, HPT.out⟩, ⟨PB.set7 (HP2.out) (by omega) _ _ _ _ _ _ _, Kp.set7 (HKZ.out) (Nat.le_refl _) _ _ _ _ _ _ _, HT.out⟩⟩)
  clear S1 HK1 HP1 HT
  change bodyPost _ _ _ _ _ (set7 w2 w.heap.size (.int .i64 1) (.slice q 4 c) (.int .i64 0) (.int .i64 0) (.bool false) (.int .i64 0) (.slice none 0 0))
  obtain ⟨z0, z1, z2, z3, z4, z5, z6⟩ := h7
  simp only [Nat.zero_add] at z0 z1 z2 z3 z4 z5 z6
  generalize (set7 w2 w.heap.size (.int .i64 1) (.slice q 4 c) (.int .i64 0) (.int .i64 0) (.bool false) (.int .i64 0) (.slice none 0 0)) = wf at *
  exact bodyPost_ret (v := ndv 1 (.slice q 4 c) 0 0 false 0 (.slice none 0 0)) (by unfold ndv; simp [results, Tryz.results109, go_sem, *]) rfl (.inl ⟨_, _, _, _, _, _, rfl, HE.out, rfl, HF.out.1, HF.out.2⟩)
set_option maxRecDepth 20000 in
set_option maxHeartbeats 4000000 in
theorem esc_s (p : Nat) (s : ByteArray) (b g : Int) (a : Nat) (v : Value) (w : World) (t : List Int) (h : PB w p s b a g v) (hs : s.size ≤ 200) (ha : Sx.At s (115 :: t) a) :
    Calls Tryz.prog 109 #[.pointer (some ⟨p, 0, none⟩)] w (EscPost w p s b g v (115 :: t)) := by
  have HE := Lib.hid (show esc 115 = some (1, [(9, 10), (13, 13), (32, 32)]) by decide)
  have HX0 := Lib.hid (show (0 : Int) ≤ 115 by decide)
  have hpl := h.lt
  have HA := Lib.hid ha
  have HP := Lib.hid (h.alloc (.cells #[.int .i64 0, .slice none 0 0, .int .i64 0, .int .i64 0, .bool false, .int .i64 0, .slice none 0 0] 29))
  clear h ha
  go_enter Tryz.func109, Tryz.ntmps109
  go_wp2_with (first | (go_at_call 130; refine (rune_is p s b g a v _ 115 t HP.out hs HA.out HX0.out).mono ?_; rintro e w1 ⟨rfl, a1, hat, hp1, hk1⟩; have S1 := (seven0_new w).kp hk1 (by unfold Own1; omega); have HK1 := Lib.hid (show Kp (Own1 p) w w1 from ((Kp.refl _ w).alloc _).trans hk1); have HP1 := Lib.hid hp1; have HT := Lib.hid hat; have hBw := S1.lt; clear hp1 hk1 hat) | (go_at_call 133; refine (sspaces_any _).mono ?_; rintro e w2 ⟨q, c, rfl, hq, hpt, hw2⟩; have S2 := S1.below hw2; have HQ := Lib.hid (show RowS (New w1 w2) w2 q [(9, 10), (13, 13), (32, 32)] from hq); have HPT := Lib.hid (show Ptr q c from hpt); have HP2 := Lib.hid (HP1.out.below hw2); have HKZ := Lib.hid (HK1.out.below hw2); have hsz2 := hw2.size; obtain ⟨y0, y1, y2, y3, y4, y5, y6, yf⟩ := S2.cells; clear hq hpt hw2))
  have h7 := set7_seven w2 w.heap.size 1 0 0 0 false (.slice q 3 c) (.slice none 0 0) y0 y1 y2 y3 y4 y5 y6
  have HF := Lib.hid (show Lf w (set7 w2 w.heap.size (.int .i64 1) (.slice q 3 c) (.int .i64 0) (.int .i64 0) (.bool false) (.int .i64 0) (.slice none 0 0)) (ndv 1 (.slice q 3 c) 0 0 false 0 (.slice none 0 0)) 1 [(9, 10), (13, 13), (32, 32)] ∧ Pz w p s b a1 g v t (set7 w2 w.heap.size (.int .i64 1) (.slice q 3 c) (.int .i64 0) (.int .i64 0) (.bool false) (.int .i64 0) (.slice none 0 0)) from
    ⟨⟨q, c, rfl, HQ.out.set7 (fun bb hbb => ⟨⟨by have := hbb.1; omega, by rw [set7_size]; exact hbb.2⟩, by have := hbb.1; omega⟩) _ _ _ _ _ _ _, HPT.out⟩, ⟨PB.set7 (HP2.out) (by omega) _ _ _ _ _ _ _, Kp.set7 (HKZ.out) (Nat.le_refl _) _ _ _ _ _ _ _, HT.out⟩⟩)
  clear S1 HK1 HP1 HT
  change bodyPost _ _ _ _ _ (set7 w2 w.heap.size (.int .i64 1) (.slice q 3 c) (.int .i64 0) (.int .i64 0) (.bool false) (.int .i64 0) (.slice none 0 0))
  obtain ⟨z0, z1, z2, z3, z4, z5, z6⟩ := h7
  simp only [Nat.zero_add] at z0 z1 z2 z3 z4 z5 z6
  generalize (set7 w2 w.heap.size (.int .i64 1) (.slice q 3 c) (.int .i64 0) (.int .i64 0) (.bool false) (.int .i64 0) (.slice none 0 0)) = wf at *
  exact bodyPost_ret (v := ndv 1 (.slice q 3 c) 0 0 false 0 (.slice none 0 0)) (by unfold ndv; simp [results, Tryz.results109, go_sem, *]) rfl (.inl ⟨_, _, _, _, _, _, rfl, HE.out, rfl, HF.out.1, HF.out.2⟩)
set_option maxRecDepth 20000 in
set_option maxHeartbeats 4000000 in
theorem esc_dash (p : Nat) (s : ByteArray) (b g : Int) (a : Nat) (v : Value) (w : World) (t : List Int) (h : PB w p s b a g v) (hs : s.size ≤ 200) (ha : Sx.At s (45 :: t) a) :
    Calls Tryz.prog 109 #[.pointer (some ⟨p, 0, none⟩)] w (EscPost w p s b g v (45 :: t)) := by
  have HE := Lib.hid (show esc 45 = some (1, [(45, 45)]) by decide)
  have HX0 := Lib.hid (show (0 : Int) ≤ 45 by decide)
  have hpl := h.lt
  have HA := Lib.hid ha
  have HP := Lib.hid (h.alloc (.cells #[.int .i64 0, .slice none 0 0, .int .i64 0, .int .i64 0, .bool false, .int .i64 0, .slice none 0 0] 29))
  clear h ha
  go_enter Tryz.func109, Tryz.ntmps109
  go_wp2_with (first | (go_at_call 130; refine (rune_is p s b g a v _ 45 t HP.out hs HA.out HX0.out).mono ?_; rintro e w1 ⟨rfl, a1, hat, hp1, hk1⟩; have S1 := (seven0_new w).kp hk1 (by unfold Own1; omega); have HK1 := Lib.hid (show Kp (Own1 p) w w1 from ((Kp.refl _ w).alloc _).trans hk1); have HP1 := Lib.hid hp1; have HT := Lib.hid hat; have hBw := S1.lt; clear hp1 hk1 hat) | (go_at_call 111; refine (single_any 45 _ (by decide) (by decide)).mono ?_; rintro e w2 ⟨q, c, rfl, hq, hpt, hw2⟩; have S2 := S1.below hw2; have HQ := Lib.hid (show RowS (New w1 w2) w2 q [(45, 45)] from hq); have HPT := Lib.hid (show Ptr q c from hpt); have HP2 := Lib.hid (HP1.out.below hw2); have HKZ := Lib.hid (HK1.out.below hw2); have hsz2 := hw2.size; obtain ⟨y0, y1, y2, y3, y4, y5, y6, yf⟩ := S2.cells; clear hq hpt hw2))
  have h7 := set7_seven w2 w.heap.size 1 0 0 0 false (.slice q 1 c) (.slice none 0 0) y0 y1 y2 y3 y4 y5 y6
  have HF := Lib.hid (show Lf w (set7 w2 w.heap.size (.int .i64 1) (.slice q 1 c) (.int .i64 0) (.int .i64 0) (.bool false) (.int .i64 0) (.slice none 0 0)) (ndv 1 (.slice q 1 c) 0 0 false 0 (.slice none 0 0)) 1 [(45, 45)] ∧ Pz w p s b a1 g v t (set7 w2 w.heap.size (.int .i64 1) (.slice q 1 c) (.int .i64 0) (.int .i64 0) (.bool false) (.int .i64 0) (.slice none 0 0)) from
    ⟨⟨q, c, rfl, HQ.out.set7 (fun bb hbb => ⟨⟨by have := hbb.1; omega, by rw [set7_size]; exact hbb.2⟩, by have := hbb.1; omega⟩) _ _ _ _ _ _ _, HPT.out⟩, ⟨PB.set7 (HP2.out) (by omega) _ _ _ _ _ _ _, Kp.set7 (HKZ.out) (Nat.le_refl _) _ _ _ _ _ _ _, HT.out⟩⟩)
  clear S1 HK1 HP1 HT
  change bodyPost _ _ _ _ _ (set7 w2 w.heap.size (.int .i64 1) (.slice q 1 c) (.int .i64 0) (.int .i64 0) (.bool false) (.int .i64 0) (.slice none 0 0))
  obtain ⟨z0, z1, z2, z3, z4, z5, z6⟩ := h7
  simp only [Nat.zero_add] at z0 z1 z2 z3 z4 z5 z6
  generalize (set7 w2 w.heap.size (.int .i64 1) (.slice q 1 c) (.int .i64 0) (.int .i64 0) (.bool false) (.int .i64 0) (.slice none 0 0)) = wf at *
  exact bodyPost_ret (v := ndv 1 (.slice q 1 c) 0 0 false 0 (.slice none 0 0)) (by unfold ndv; simp [results, Tryz.results109, go_sem, *]) rfl (.inl ⟨_, _, _, _, _, _, rfl, HE.out, rfl, HF.out.1, HF.out.2⟩)
set_option maxRecDepth 20000 in
set_option maxHeartbeats 4000000 in
theorem esc_b (p : Nat) (s : ByteArray) (b g : Int) (a : Nat) (v : Value) (w : World) (t : List Int) (h : PB w p s b a g v) (hs : s.size ≤ 200) (ha : Sx.At s (98 :: t) a) :
    Calls Tryz.prog 109 #[.pointer (some ⟨p, 0, none⟩)] w (EscPost w p s b g v (98 :: t)) := by
  have HE := Lib.hid (show esc 98 = some (4, []) by decide)
  have HX0 := Lib.hid (show (0 : Int) ≤ 98 by decide)
  have hpl := h.lt
  have HA := Lib.hid ha
  have HP := Lib.hid (h.alloc (.cells #[.int .i64 0, .slice none 0 0, .int .i64 0, .int .i64 0, .bool false, .int .i64 0, .slice none 0 0] 29))
  clear h ha
  go_enter Tryz.func109, Tryz.ntmps109
  go_wp2_with (go_at_call 130; refine (rune_is p s b g a v _ 98 t HP.out hs HA.out HX0.out).mono ?_; rintro e w1 ⟨rfl, a1, hat, hp1, hk1⟩; have S1 := (seven0_new w).kp hk1 (by unfold Own1; omega); have HK1 := Lib.hid (show Kp (Own1 p) w w1 from ((Kp.refl _ w).alloc _).trans hk1); have HP1 := Lib.hid hp1; have HT := Lib.hid hat; have hBw := S1.lt; clear hp1 hk1 hat; have HKZ := HK1; obtain ⟨y0, y1, y2, y3, y4, y5, y6, yf⟩ := S1.cells)
  have h7 := set7_seven w1 w.heap.size 4 0 0 0 false (.slice none 0 0) (.slice none 0 0) y0 y1 y2 y3 y4 y5 y6
  have HF := Lib.hid (show Lf w (set7 w1 w.heap.size (.int .i64 4) (.slice none 0 0) (.int .i64 0) (.int .i64 0) (.bool false) (.int .i64 0) (.slice none 0 0)) (ndv 4 (.slice none 0 0) 0 0 false 0 (.slice none 0 0)) 4 [] ∧ Pz w p s b a1 g v t (set7 w1 w.heap.size (.int .i64 4) (.slice none 0 0) (.int .i64 0) (.int .i64 0) (.bool false) (.int .i64 0) (.slice none 0 0)) from
    ⟨⟨none, 0, rfl, rows_nil _ _ _, .inl ⟨rfl, rfl⟩⟩, ⟨PB.set7 (HP1.out) (by omega) _ _ _ _ _ _ _, Kp.set7 (HKZ.out) (Nat.le_refl _) _ _ _ _ _ _ _, HT.out⟩⟩)
  clear S1 HK1 HP1 HT
  change bodyPost _ _ _ _ _ (set7 w1 w.heap.size (.int .i64 4) (.slice none 0 0) (.int .i64 0) (.int .i64 0) (.bool false) (.int .i64 0) (.slice none 0 0))
  obtain ⟨z0, z1, z2, z3, z4, z5, z6⟩ := h7
  simp only [Nat.zero_add] at z0 z1 z2 z3 z4 z5 z6
  generalize (set7 w1 w.heap.size (.int .i64 4) (.slice none 0 0) (.int .i64 0) (.int .i64 0) (.bool false) (.int .i64 0) (.slice none 0 0)) = wf at *
  exact bodyPost_ret (v := ndv 4 (.slice none 0 0) 0 0 false 0 (.slice none 0 0)) (by unfold ndv; simp [results, Tryz.results109, go_sem, *]) rfl (.inl ⟨_, _, _, _, _, _, rfl, HE.out, rfl, HF.out.1, HF.out.2⟩)
set_option maxRecDepth 20000 in
set_option maxHeartbeats 4000000 in
theorem esc_B (p : Nat) (s : ByteArray) (b g : Int) (a : Nat) (v : Value) (w : World) (t : List Int) (h : PB w p s b a g v) (hs : s.size ≤ 200) (ha : Sx.At s (66 :: t) a) :
    Calls Tryz.prog 109 #[.pointer (some ⟨p, 0, none⟩)] w (EscPost w p s b g v (66 :: t)) := by
  have HE := Lib.hid (show esc 66 = some (5, []) by decide)
  have HX0 := Lib.hid (show (0 : Int) ≤ 66 by decide)
  have hpl := h.lt
  have HA := Lib.hid ha
  have HP := Lib.hid (h.alloc (.cells #[.int .i64 0, .slice none 0 0, .int .i64 0, .int .i64 0, .bool false, .int .i64 0, .slice none 0 0] 29))
  clear h ha
  go_enter Tryz.func109, Tryz.ntmps109
  go_wp2_with (go_at_call 130; refine (rune_is p s b g a v _ 66 t HP.out hs HA.out HX0.out).mono ?_; rintro e w1 ⟨rfl, a1, hat, hp1, hk1⟩; have S1 := (seven0_new w).kp hk1 (by unfold Own1; omega); have HK1 := Lib.hid (show Kp (Own1 p) w w1 from ((Kp.refl _ w).alloc _).trans hk1); have HP1 := Lib.hid hp1; have HT := Lib.hid hat; have hBw := S1.lt; clear hp1 hk1 hat; have HKZ := HK1; obtain ⟨y0, y1, y2, y3, y4, y5, y6, yf⟩ := S1.cells)
  have h7 := set7_seven w1 w.heap.size 5 0 0 0 false (.slice none 0 0) (.slice none 0 0) y0 y1 y2 y3 y4 y5 y6
  have HF := Lib.hid (show Lf w (set7 w1 w.heap.size (.int .i64 5) (.slice none 0 0) (.int .i64 0) (.int .i64 0) (.bool false) (.int .i64 0) (.slice none 0 0)) (ndv 5 (.slice none 0 0) 0 0 false 0 (.slice none 0 0)) 5 [] ∧ Pz w p s b a1 g v t (set7 w1 w.heap.size (.int .i64 5) (.slice none 0 0) (.int .i64 0) (.int .i64 0) (.bool false) (.int .i64 0) (.slice none 0 0)) from
    ⟨⟨none, 0, rfl, rows_nil _ _ _, .inl ⟨rfl, rfl⟩⟩, ⟨PB.set7 (HP1.out) (by omega) _ _ _ _ _ _ _, Kp.set7 (HKZ.out) (Nat.le_refl _) _ _ _ _ _ _ _, HT.out⟩⟩)
  clear S1 HK1 HP1 HT
  change bodyPost _ _ _ _ _ (set7 w1 w.heap.size (.int .i64 5) (.slice none 0 0) (.int .i64 0) (.int .i64 0) (.bool false) (.int .i64 0) (.slice none 0 0))
  obtain ⟨z0, z1, z2, z3, z4, z5, z6⟩ := h7
  simp only [Nat.zero_add] at z0 z1 z2 z3 z4 z5 z6
  generalize (set7 w1 w.heap.size (.int .i64 5) (.slice none 0 0) (.int .i64 0) (.int .i64 0) (.bool false) (.int .i64 0) (.slice none 0 0)) = wf at *
  exact bodyPost_ret (v := ndv 5 (.slice none 0 0) 0 0 false 0 (.slice none 0 0)) (by unfold ndv; simp [results, Tryz.results109, go_sem, *]) rfl (.inl ⟨_, _, _, _, _, _, rfl, HE.out, rfl, HF.out.1, HF.out.2⟩)
set_option maxRecDepth 20000 in
set_option maxHeartbeats 4000000 in
theorem esc_sp (p : Nat) (s : ByteArray) (b g : Int) (a : Nat) (v : Value) (w : World) (x : Int) (t : List Int) (h : PB w p s b a g v) (hs : s.size ≤ 200) (ha : Sx.At s (x :: t) a) (h0 : 0 ≤ x) (n110 : (x == 110) = false) (n116 : (x == 116) = false) (n100 : (x == 100) = false) (n119 : (x == 119) = false) (n115 : (x == 115) = false) (n98 : (x == 98) = false) (n66 : (x == 66) = false) (n45 : (x == 45) = false) (hsp : Sx.special x = true) :
    Calls Tryz.prog 109 #[.pointer (some ⟨p, 0, none⟩)] w (EscPost w p s b g v (x :: t)) := by
  have HE := Lib.hid (show esc x = some (1, [(x, x)]) by
    have e : Sx.escape x = [(x, x)] := Sx.escape_sp (.inl hsp)
    unfold esc; rw [if_neg (by simpa using n98), if_neg (by simpa using n66), e, if_neg (by simp)])
  have HH := Lib.hid ((hasR_special h0).trans hsp)
  have HX0 := Lib.hid h0
  have HXR := Lib.hid (at_rune ha h0)
  have m45 : (x != 45) = true := by rw [bne, n45]; rfl
  clear hsp h0
  have hpl := h.lt
  have HA := Lib.hid ha
  have HP := Lib.hid (h.alloc (.cells #[.int .i64 0, .slice none 0 0, .int .i64 0, .int .i64 0, .bool false, .int .i64 0, .slice none 0 0] 29))
  clear h ha
  go_enter Tryz.func109, Tryz.ntmps109
  go_wp2_with (first | (go_at_call 130; refine (rune_is p s b g a v _ x t HP.out hs HA.out HX0.out).mono ?_; rintro e w1 ⟨rfl, a1, hat, hp1, hk1⟩; have S1 := (seven0_new w).kp hk1 (by unfold Own1; omega); have HK1 := Lib.hid (show Kp (Own1 p) w w1 from ((Kp.refl _ w).alloc _).trans hk1); have HP1 := Lib.hid hp1; have HT := Lib.hid hat; have hBw := S1.lt; clear hp1 hk1 hat) | (go_at_call 134; refine (crune_any spT x true _ HXR.out.2 (by decide) (by decide) (by decide) HH.out).mono ?_; rintro e w3 ⟨rfl, hw3⟩; have S3 := S1.below hw3; have HP3 := Lib.hid (HP1.out.below hw3); have HK3 := Lib.hid (HK1.out.below hw3); have hB3 := S3.lt; clear hw3) | (go_at_call 111; refine (single_any x _ HX0.out HXR.out.1).mono ?_; rintro e w2 ⟨q, c, rfl, hq, hpt, hw2⟩; have S2 := S3.below hw2; have HQ := Lib.hid (show RowS (New w3 w2) w2 q [(x, x)] from hq); have HPT := Lib.hid (show Ptr q c from hpt); have HP2 := Lib.hid (HP3.out.below hw2); have HKZ := Lib.hid (HK3.out.below hw2); have hsz2 := hw2.size; obtain ⟨y0, y1, y2, y3, y4, y5, y6, yf⟩ := S2.cells; clear hq hpt hw2))
  have h7 := set7_seven w2 w.heap.size 1 0 0 0 false (.slice q 1 c) (.slice none 0 0) y0 y1 y2 y3 y4 y5 y6
  have HF := Lib.hid (show Lf w (set7 w2 w.heap.size (.int .i64 1) (.slice q 1 c) (.int .i64 0) (.int .i64 0) (.bool false) (.int .i64 0) (.slice none 0 0)) (ndv 1 (.slice q 1 c) 0 0 false 0 (.slice none 0 0)) 1 [(x, x)] ∧ Pz w p s b a1 g v t (set7 w2 w.heap.size (.int .i64 1) (.slice q 1 c) (.int .i64 0) (.int .i64 0) (.bool false) (.int .i64 0) (.slice none 0 0)) from
    ⟨⟨q, c, rfl, HQ.out.set7 (fun bb hbb => ⟨⟨by have := hbb.1; omega, by rw [set7_size]; exact hbb.2⟩, by have := hbb.1; omega⟩) _ _ _ _ _ _ _, HPT.out⟩, ⟨PB.set7 (HP2.out) (by omega) _ _ _ _ _ _ _, Kp.set7 (HKZ.out) (Nat.le_refl _) _ _ _ _ _ _ _, HT.out⟩⟩)
  clear S1 HK1 HP1 S3 HK3 HP3 HT
  change bodyPost _ _ _ _ _ (set7 w2 w.heap.size (.int .i64 1) (.slice q 1 c) (.int .i64 0) (.int .i64 0) (.bool false) (.int .i64 0) (.slice none 0 0))
  obtain ⟨z0, z1, z2, z3, z4, z5, z6⟩ := h7
  simp only [Nat.zero_add] at z0 z1 z2 z3 z4 z5 z6
  generalize (set7 w2 w.heap.size (.int .i64 1) (.slice q 1 c) (.int .i64 0) (.int .i64 0) (.bool false) (.int .i64 0) (.slice none 0 0)) = wf at *
  exact bodyPost_ret (v := ndv 1 (.slice q 1 c) 0 0 false 0 (.slice none 0 0)) (by unfold ndv; simp [results, Tryz.results109, go_sem, *]) rfl (.inl ⟨_, _, _, _, _, _, rfl, HE.out, rfl, HF.out.1, HF.out.2⟩)
set_option maxRecDepth 20000 in
set_option maxHeartbeats 4000000 in
theorem esc_no (p : Nat) (s : ByteArray) (b g : Int) (a : Nat) (v : Value) (w : World) (x : Int) (t : List Int) (h : PB w p s b a g v) (hs : s.size ≤ 200) (ha : Sx.At s (x :: t) a) (h0 : 0 ≤ x) (n110 : (x == 110) = false) (n116 : (x == 116) = false) (n100 : (x == 100) = false) (n119 : (x == 119) = false) (n115 : (x == 115) = false) (n98 : (x == 98) = false) (n66 : (x == 66) = false) (n45 : (x == 45) = false) (hsp : Sx.special x = false) :
    Calls Tryz.prog 109 #[.pointer (some ⟨p, 0, none⟩)] w (EscPost w p s b g v (x :: t)) := by
  have HE := Lib.hid (show ∀ y u, x :: t = y :: u → esc y = none from fun y u hy => by
    simp only [List.cons.injEq] at hy
    obtain ⟨rfl, _⟩ := hy
    have e : Sx.escape x = [] := by
      unfold Sx.escape
      rw [if_neg (by rw [hsp]; simpa using n45), if_neg (by simpa using n110), if_neg (by simpa using n116), if_neg (by simpa using n100), if_neg (by simpa using n119), if_neg (by simpa using n115)]
    unfold esc; rw [if_neg (by simpa using n98), if_neg (by simpa using n66), e, if_pos rfl])
  have HH := Lib.hid ((hasR_special h0).trans hsp)
  have m45 : (x != 45) = true := by rw [bne, n45]; rfl
  clear hsp
  have hpl := h.lt
  have HA := Lib.hid ha
  have HP := Lib.hid (h.alloc (.cells #[.int .i64 0, .slice none 0 0, .int .i64 0, .int .i64 0, .bool false, .int .i64 0, .slice none 0 0] 29))
  have HX0 := Lib.hid h0
  have HXR := Lib.hid (at_rune ha h0)
  clear h ha h0
  go_enter Tryz.func109, Tryz.ntmps109
  go_wp2_with (first | (go_at_call 130; refine (rune_is p s b g a v _ x t HP.out hs HA.out HX0.out).mono ?_; rintro e w1 ⟨rfl, a1, hat, hp1, hk1⟩; have S1 := (seven0_new w).kp hk1 (by unfold Own1; omega); have HK1 := Lib.hid (show Kp (Own1 p) w w1 from ((Kp.refl _ w).alloc _).trans hk1); have HP1 := Lib.hid hp1; have HT := Lib.hid hat; have hBw := S1.lt; clear hp1 hk1 hat) | (go_at_call 134; refine (crune_any spT x false _ HXR.out.2 (by decide) (by decide) (by decide) HH.out).mono ?_; rintro e w3 ⟨rfl, hw3⟩; have HP3 := Lib.hid (HP1.out.below hw3); have HK3 := Lib.hid (HK1.out.below hw3); clear hw3) | (go_at_call 71; refine (wrong_any p s b a1 g v _ HP3.out).mono ?_; rintro e w4 ⟨rfl, rfl⟩; unfold pan))
  exact ⟨rfl, .inr ⟨HE.out, rfl, HK3.out⟩⟩
set_option maxRecDepth 20000 in
set_option maxHeartbeats 4000000 in
theorem esc_bad (p : Nat) (s : ByteArray) (b g : Int) (a : Nat) (v : Value) (w : World) (l : List Int) (h : PB w p s b a g v) (hs : s.size ≤ 200) (ha : Sx.At s l a) (hl : ∀ x t, l = x :: t → x < 0) :
    Calls Tryz.prog 109 #[.pointer (some ⟨p, 0, none⟩)] w (EscPost w p s b g v l) := by
  have HE := Lib.hid (show ∀ y u, l = y :: u → esc y = none from fun y u hy => by
    have hn := hl y u hy
    have e : Sx.escape y = [] := by
      unfold Sx.escape
      have hsp : Sx.special y = false := by
        unfold Sx.special
        rw [← Bool.not_eq_true, List.contains_iff_mem]
        simp only [List.mem_cons, List.not_mem_nil, or_false]
        omega
      rw [if_neg (by rw [hsp]; simp; omega), if_neg (by omega), if_neg (by omega), if_neg (by omega), if_neg (by omega), if_neg (by omega)]
    unfold esc; rw [if_neg (by omega), if_neg (by omega), e, if_pos rfl])
  have HL := Lib.hid hl
  clear hl
  have hpl := h.lt
  have HA := Lib.hid ha
  have HP := Lib.hid (h.alloc (.cells #[.int .i64 0, .slice none 0 0, .int .i64 0, .int .i64 0, .bool false, .int .i64 0, .slice none 0 0] 29))
  clear h ha
  go_enter Tryz.func109, Tryz.ntmps109
  go_wp2_with (go_at_call 130; refine (rune_no p s b g a v _ _ HP.out hs HA.out HL.out).mono ?_; rintro e w1 ⟨rfl, hk1⟩; unfold pan)
  exact ⟨rfl, .inr ⟨HE.out, rfl, ((Kp.refl _ w).alloc _).trans hk1⟩⟩
theorem escape_any (p : Nat) (s : ByteArray) (b g : Int) (a : Nat) (v : Value) (w : World) (l : List Int) (h : PB w p s b a g v) (hs : s.size ≤ 200) (ha : Sx.At s l a) :
    Calls Tryz.prog 109 #[.pointer (some ⟨p, 0, none⟩)] w (EscPost w p s b g v l) := by
  cases l with
  | nil => exact esc_bad p s b g a v w [] h hs ha (fun x t e => by cases e)
  | cons x t =>
    by_cases h0 : x < 0
    · exact esc_bad p s b g a v w _ h hs ha (fun y u e => by simp only [List.cons.injEq] at e; omega)
    by_cases e0 : x = 110
    · subst e0; exact esc_n p s b g a v w t h hs ha
    by_cases e1 : x = 116
    · subst e1; exact esc_t p s b g a v w t h hs ha
    by_cases e2 : x = 100
    · subst e2; exact esc_d p s b g a v w t h hs ha
    by_cases e3 : x = 119
    · subst e3; exact esc_w p s b g a v w t h hs ha
    by_cases e4 : x = 115
    · subst e4; exact esc_s p s b g a v w t h hs ha
    by_cases e5 : x = 98
    · subst e5; exact esc_b p s b g a v w t h hs ha
    by_cases e6 : x = 66
    · subst e6; exact esc_B p s b g a v w t h hs ha
    by_cases e7 : x = 45
    · subst e7; exact esc_dash p s b g a v w t h hs ha
    have f : ∀ y, x ≠ y → (x == y) = false := fun y hy => beq_eq_false_iff_ne.2 hy
    cases hsp : Sx.special x with
    | true => exact esc_sp p s b g a v w x t h hs ha (by omega) (f _ e0) (f _ e1) (f _ e2) (f _ e3) (f _ e4) (f _ e5) (f _ e6) (f _ e7) hsp
    | false => exact esc_no p s b g a v w x t h hs ha (by omega) (f _ e0) (f _ e1) (f _ e2) (f _ e3) (f _ e4) (f _ e5) (f _ e6) (f _ e7) hsp
end Go.Proofs.YtdoapojmenojoaaGreatDoor
