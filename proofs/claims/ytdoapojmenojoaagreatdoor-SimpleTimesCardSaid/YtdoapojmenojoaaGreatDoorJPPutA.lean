import Derived.Test.YtdoapojmenojoaaGreatDoorJPHas
import Derived.Test.YtdoapojmenojoaaGreatDoorJPEsc
import Derived.Test.YtdoapojmenojoaaGreatDoorJPMem
import Derived.Test.YtdoapojmenojoaaGreatDoorJCPut
import Derived.Test.YtdoapojmenojoaaGreatDoorJCBld
import Derived.Test.YtdoapojmenojoaaGreatDoorJSynP
import Derived.Test.YtdoapojmenojoaaGreatDoorJPCls
set_option linter.unusedSimpArgs false
set_option linter.unusedVariables false
section
/- What is put, on one builder: runes, classes, how often. -/
set_option linter.unusedVariables false
namespace Go.Proofs.YtdoapojmenojoaaGreatDoor
open Go.RowKit
open Sx (Nd)

theorem bld_on {B b : Nat} {bs : List Value} {w w' : World} (h : BldF B b bs w) (hb : Below w.heap.size w w') : BldF B b bs w' := by
  have key : ∀ p, Lib.BuilderAtF 91 5 B b p bs w → Lib.BuilderAtF 91 5 B b p bs w' := by
    rintro p ⟨h1, v, h2, h3, h4⟩
    refine ⟨h1, v, (hb.block b (Array.getElem?_eq_some_iff.1 h2).1).trans h2, ⟨h3.1, ?_⟩, h4⟩
    rcases h3.2 with h5 | ⟨g, cap, cur, fz, h5, h6, h7, h8⟩
    · exact .inl h5
    · exact .inr ⟨g, cap, cur, fz, h5, h6, (hb.block g (Array.getElem?_eq_some_iff.1 h7).1).trans h7, h8⟩
  exact h.elim (fun x => .inl (key _ x)) (fun x => .inr (key _ x))
/- the builder stands in the block behind w0 -/
structure PW (w0 : World) (l : List UInt8) (w : World) : Prop where
  bld : BldF w0.heap.size w0.heap.size (Lib.byteCells l) w
  bel : Below w0.heap.size w0 w
structure Wr (w0 : World) (l : List UInt8) (w w' : World) : Prop where
  pw : PW w0 l w'
  oth : OthK w0.heap.size w w'
  size : w.heap.size ≤ w'.heap.size
theorem othk_below {b : Nat} {w w' : World} (h : Below w.heap.size w w') : OthK b w w' := fun k o hk _ _ => (h.block k (Array.getElem?_eq_some_iff.1 hk).1).trans hk
theorem PW.call {w0 : World} {l : List UInt8} {w w' : World} (h : PW w0 l w) (hb : Below w.heap.size w w') : PW w0 l w' := ⟨bld_on h.bld hb, bvia h.bel hb⟩
theorem PW.stay {w0 : World} {l : List UInt8} {w : World} (h : PW w0 l w) : Wr w0 l w w := ⟨h, Lib.OthersKept.refl _ _ _, Nat.le_refl _⟩
theorem PW.calls {w0 : World} {l : List UInt8} {w w' : World} (h : PW w0 l w) (hb : Below w.heap.size w w') : Wr w0 l w w' := ⟨h.call hb, othk_below hb, hb.size⟩
theorem Wr.trans {w0 : World} {l m : List UInt8} {a b c : World} (h : Wr w0 l a b) (k : Wr w0 m b c) : Wr w0 m a c := ⟨k.pw, h.oth.trans k.oth, Nat.le_trans h.size k.size⟩
theorem Wr.call {w0 : World} {l : List UInt8} {a b c : World} (h : Wr w0 l a b) (hb : Below b.heap.size b c) : Wr w0 l a c := h.trans (h.pw.calls hb)
/- a block of another type stays -/
theorem Wr.box {w0 : World} {l : List UInt8} {w w' : World} (h : Wr w0 l w w') {k : Nat} {cs : Array Value} {ty : TypeId} {fr : Nat × Nat} (hk : w.heap[k]? = some (.cells cs ty fr)) (ht : ty ≠ 5) (hb : k ≠ w0.heap.size) : w'.heap[k]? = some (.cells cs ty fr) :=
  h.oth k _ hk (fun e => hb (Option.some.inj e)) (fun c fz e => by simp only [Obj.cells.injEq] at e; exact ht e.2.1)
theorem PW.byte {w0 : World} {l : List UInt8} {w : World} (h : PW w0 l w) (c : UInt8) (x : Int) (hx : x = (c.toNat : Int)) (hl : l.length ≤ 1000000000) :
    Calls Tryz.prog 83 #[.pointer (some ⟨w0.heap.size, 0, none⟩), .int .u8 x] w fun e w' => e = .returned .nilIface ∧ Wr w0 (l ++ [c]) w w' := by
  subst hx
  refine (wbyte_any _ _ _ _ _ h.bld (by rw [Lib.byteCells_length]; omega) h.bel.size).mono ?_
  rintro e w' ⟨rfl, h1, h2, h3⟩
  exact ⟨rfl, ⟨by rw [Lib.byteCells_append]; exact h1, h.bel.trans h2⟩, h3, h2.size⟩
theorem PW.str {w0 : World} {l : List UInt8} {w : World} (h : PW w0 l w) (s : ByteArray) (t : List UInt8) (hs : s.data.toList = t) (hz : s.size ≤ 1000000000) (hl : l.length ≤ 1000000000) :
    Calls Tryz.prog 84 #[.pointer (some ⟨w0.heap.size, 0, none⟩), .string s] w fun e w' => (∃ n, e = .returned (.tuple #[.int .i64 n, .nilIface])) ∧ Wr w0 (l ++ t) w w' := by
  subst hs
  refine (wstr_any _ _ _ _ _ h.bld (by rw [Lib.byteCells_length]; omega) h.bel.size).mono ?_
  rintro e w' ⟨rfl, h1, h2, h3⟩
  exact ⟨⟨_, rfl⟩, ⟨by rw [Lib.byteCells_append]; exact h1, h.bel.trans h2⟩, h3, h2.size⟩
/- any rune, in a text of few signs -/
set_option maxRecDepth 20000 in
set_option maxHeartbeats 4000000 in
theorem irune_no (s : ByteArray) (r : Int) (w : World) (hv : Lib.validRune r = false) (h : 128 ≤ r) (hn : (r == 65533) = false) :
    Calls Tryz.prog 155 #[.string s, .int .i32 r] w fun e w' => e = .returned (.int .i64 (-1)) ∧ Below w.heap.size w w' := by
  have d1 : decide (r < 128) = false := by rw [decide_eq_false_iff_not]; omega
  have d0 : decide (0 ≤ r) = true := by rw [decide_eq_true_eq]; omega
  have h0 : 0 ≤ r := by omega
  have hrb : ¬ r < 128 := by omega
  go_enter Tryz.func155, Tryz.ntmps155
  go_wp2_with (first | (go_at_call 175; refine (Tryz.utf8_ValidRune _ _).mono ?_; rintro e w' ⟨rfl, rfl⟩; rw [hv]))
  try rw [Exit.noGoto_ret]
  go_wp2_with fail
  try rw [Exit.noGoto_ret]
  go_ret
  exact ⟨rfl, (by repeat' (first | exact Below.refl _ _ | (refine Below.drew ?_) | (refine bdrewN ?_) | (refine Below.alloc ?_ (by first | omega | (simp <;> omega)) _) | (refine Below.setCell ?_ (by first | omega | (simp <;> omega)) _) | (refine Below.trans ?_ (Below.mono (by assumption) (by first | omega | (simp <;> omega))))))⟩
theorem crune_all (s : ByteArray) (r : Int) (v : Bool) (w : World) (h0 : 0 ≤ r) (h1 : r ≤ 1114111) (h4 : 4 ≤ s.size) (hs : s.size ≤ 100) (h7 : ∀ b ∈ s.data.toList, b.toNat < 128) (hv : hasR s.data.toList r = v) :
    Calls Tryz.prog 134 #[.string s, .int .i32 r] w fun e w' => e = .returned (.bool v) ∧ Below w.heap.size w w' := by
  by_cases hr : Rn.rightB r = true
  · exact crune_any s r v w hr h4 hs h7 hv
  · have hnr : 55296 ≤ r ∧ r ≤ 57343 := by
      have h2 : ¬ (0 ≤ r ∧ r < 55296 ∨ 57343 < r ∧ r ≤ 1114111) := fun e => hr ((Rn.right_iff r).2 e)
      omega
    have hvr : Lib.validRune r = false := by
      unfold Lib.validRune
      simp
      omega
    have hv2 : v = false := by rw [← hv]; unfold hasR; rw [decide_eq_false (by omega)]; rfl
    subst hv2
    have he : (r == 65533) = false := beq_eq_false_iff_ne.2 (by omega)
    have HE := Lib.hid he
    have HVR := Lib.hid hvr
    have hge : 128 ≤ r := by omega
    have HG := Lib.hid hge
    clear hv he hvr hr hge h7
    go_enter Tryz.func134, Tryz.ntmps134
    go_wp2_with (go_at_call 155; refine (irune_no s r _ HVR.out HG.out HE.out).mono ?_; rintro e w1 ⟨rfl, hw1⟩)
    go_ret
    exact ⟨rfl, hw1⟩
set_option maxRecDepth 20000 in
set_option maxHeartbeats 4000000 in
theorem prune_any (w0 : World) (T : ByteArray) (r : Int) (v : Bool) (l : List UInt8) (w : World) (h0 : 0 ≤ r) (h1 : r ≤ 1114111) (h4 : 4 ≤ T.size) (hs : T.size ≤ 100) (h7 : ∀ b ∈ T.data.toList, b.toNat < 128) (hv : hasR T.data.toList r = v) (h : PW w0 l w) (hl : l.length ≤ 900000000) :
    Calls Tryz.prog 118 #[.pointer (some ⟨w0.heap.size, 0, none⟩), .int .i32 r, .string T] w fun e w' => e = .returned (.tuple #[]) ∧ Wr w0 (l ++ ((if v then [92] else []) ++ (Utf8.encode r).data.toList)) w w' := by
  have HC := Lib.hid (crune_all T r v w h0 h1 h4 hs h7 hv)
  have H := Lib.hid h
  have hz := encode_small r
  clear h hv h7
  cases v with
  | true =>
    go_enter Tryz.func118, Tryz.ntmps118
    go_wp2_with (first | (go_at_call 134; refine HC.out.mono ?_; rintro e w1 ⟨rfl, hw1⟩; have H1 := Lib.hid (H.out.calls hw1); clear hw1) | (go_at_call 83; refine (H1.out.pw.byte 92 _ rfl (by omega)).mono ?_; rintro e w2 ⟨rfl, hw2⟩; have H2 := Lib.hid (H1.out.trans hw2); clear hw2) | (go_at_call 101; refine (put_any _ _).mono ?_; rintro e w' ⟨rfl, rfl⟩) | (go_at_call 84; refine (H2.out.pw.str (Utf8.encode r) _ rfl (by omega) (by simp; omega)).mono ?_; rintro e w3 ⟨⟨n3, rfl⟩, hw3⟩; have H3 := Lib.hid (H2.out.trans hw3); clear hw3))
    go_end0
    refine ⟨rfl, ?_⟩
    have := H3.out
    rw [List.append_assoc] at this
    exact this
  | false =>
    go_enter Tryz.func118, Tryz.ntmps118
    go_wp2_with (first | (go_at_call 134; refine HC.out.mono ?_; rintro e w1 ⟨rfl, hw1⟩; have H1 := Lib.hid (H.out.calls hw1); clear hw1) | (go_at_call 101; refine (put_any _ _).mono ?_; rintro e w' ⟨rfl, rfl⟩) | (go_at_call 84; refine (H1.out.pw.str (Utf8.encode r) _ rfl (by omega) (by omega)).mono ?_; rintro e w3 ⟨⟨n3, rfl⟩, hw3⟩; have H3 := Lib.hid (H1.out.trans hw3); clear hw3))
    go_end0
    exact ⟨rfl, H3.out⟩
theorem cat_two (r : Int) : Rn.cat [92, r] = [92] ++ (Utf8.encode r).data.toList := by
  simp only [Rn.cat, List.flatMap_cons, List.flatMap_nil, List.append_nil]
  rw [show (Utf8.encode 92).data.toList = [92] by decide +kernel]
theorem cat_one (r : Int) : Rn.cat [r] = (Utf8.encode r).data.toList := by simp [Rn.cat]
theorem cat_sp (r : Int) (h0 : 0 ≤ r) : (if hasR spT.data.toList r then [92] else []) ++ (Utf8.encode r).data.toList = Rn.cat (if Sx.special r = true then [92, r] else [r]) := by
  rw [hasR_special h0]
  cases Sx.special r with
  | true => rw [if_pos rfl, if_pos rfl, cat_two]
  | false => rw [if_neg (by simp), if_neg (by simp), cat_one]; rfl
theorem cat_in1 (r : Int) (h0 : 0 ≤ r) : (if hasR in1T.data.toList r then [92] else []) ++ (Utf8.encode r).data.toList = Rn.cat (Sx.mem2 r) := by
  rw [hasR_in1 h0]
  unfold Sx.mem2
  by_cases h : r = 92 ∨ r = 93 ∨ r = 45 ∨ r = 94
  · rw [decide_eq_true h, if_pos rfl, if_pos h, cat_two]
  · rw [decide_eq_false h, if_neg (by simp), if_neg h, cat_one]; rfl
end Go.Proofs.YtdoapojmenojoaaGreatDoor
end

section
/- What is put, on one builder: how often, and classes. -/
set_option linter.unusedVariables false
namespace Go.Proofs.YtdoapojmenojoaaGreatDoor
open Go.RowKit
open Sx (Nd)

theorem dec_digits : ∀ i : Nat, i < 21 → Lib.decDigits i = Rn.cat (Sx.digits (i : Int)) := by decide +kernel
theorem cat_times (mn mx : Int) (lz : Bool) : Rn.cat (Sx.times mn mx lz) = Rn.cat (Sx.times mn mx false) ++ (if lz then [63] else []) := by
  unfold Sx.times
  rw [Rn.cat_app, Rn.cat_app]
  cases lz with
  | true => simp only [if_true, Bool.false_eq_true, if_false]; rw [show Rn.cat [63] = [63] by decide +kernel, show Rn.cat [] = [] from rfl, List.append_nil]
  | false => simp
/- how often -/
def Often (mn mx : Int) (w : World) (e : Ending) (w' : World) : Prop := ∃ t : ByteArray, e = .returned (.string t) ∧ t.data.toList = Rn.cat (Sx.times mn mx false) ∧ t.size ≤ 100 ∧ Below w.heap.size w w'
theorem itoa_at (n : Int) (w : World) (h0 : 0 ≤ n) (h1 : n ≤ 20) : Calls Tryz.prog 121 #[.int .i64 n] w fun e w' => e = .returned (.string ⟨(Rn.cat (Sx.digits n)).toArray⟩) ∧ w' = w := by
  obtain ⟨i, rfl⟩ := Int.eq_ofNat_of_zero_le h0
  have := Tryz.strconv_Itoa_small i (by omega) w
  rw [dec_digits i (by omega)] at this
  exact this
theorem times_star : Rn.cat (Sx.times 0 (-1) false) = [42] := by decide +kernel
theorem times_plus : Rn.cat (Sx.times 1 (-1) false) = [43] := by decide +kernel
theorem times_opt : Rn.cat (Sx.times 0 1 false) = [63] := by decide +kernel
theorem odig_len (n : Int) (h0 : 0 ≤ n) (h1 : n ≤ 20) : (⟨(Rn.cat (Sx.digits n)).toArray⟩ : ByteArray).size ≤ 2 := by
  obtain ⟨i, rfl⟩ := Int.eq_ofNat_of_zero_le h0
  have hi : i < 21 := by omega
  clear h0 h1
  show (Rn.cat (Sx.digits (i : Int))).toArray.size ≤ 2
  revert i
  decide +kernel
theorem cat_curl (l : List Int) : Rn.cat (123 :: l) = 123 :: Rn.cat l := by
  show (Utf8.encode 123).data.toList ++ _ = _
  rw [show (Utf8.encode 123).data.toList = [123] by decide +kernel]; rfl
theorem times_eq {mn : Int} (h : ¬ (mn = 0 ∧ mn = -1)) (h1 : ¬ (mn = 1 ∧ mn = -1)) (h2 : ¬ (mn = 0 ∧ mn = 1)) : Rn.cat (Sx.times mn mn false) = 123 :: (Rn.cat (Sx.digits mn) ++ [125]) := by
  unfold Sx.times
  rw [if_neg h, if_neg h1, if_neg h2, if_pos rfl]
  simp only [Bool.false_eq_true, if_false, List.append_nil, List.cons_append]
  rw [cat_curl, Rn.cat_app, show Rn.cat [125] = [125] by decide +kernel]
theorem times_end {mn : Int} (h : mn ≠ 0) (h1 : mn ≠ 1) (h2 : mn ≠ -1) : Rn.cat (Sx.times mn (-1) false) = 123 :: (Rn.cat (Sx.digits mn) ++ [44, 125]) := by
  unfold Sx.times
  rw [if_neg (by omega), if_neg (by omega), if_neg (by omega), if_neg h2, if_pos rfl]
  simp only [Bool.false_eq_true, if_false, List.append_nil, List.cons_append]
  rw [cat_curl, Rn.cat_app, show Rn.cat [44, 125] = [44, 125] by decide +kernel]
theorem times_to {mn mx : Int} (h : mx ≠ -1) (h1 : ¬ (mn = 0 ∧ mx = 1)) (h2 : mn ≠ mx) : Rn.cat (Sx.times mn mx false) = 123 :: (Rn.cat (Sx.digits mn) ++ (44 :: (Rn.cat (Sx.digits mx) ++ [125]))) := by
  unfold Sx.times
  rw [if_neg (by omega), if_neg (by omega), if_neg h1, if_neg h2, if_neg h]
  simp only [Bool.false_eq_true, if_false, List.append_nil, List.cons_append]
  rw [cat_curl, Rn.cat_app]
  congr 2
  show (Utf8.encode 44).data.toList ++ Rn.cat _ = _
  rw [Rn.cat_app, show (Utf8.encode 44).data.toList = [44] by decide +kernel, show Rn.cat [125] = [125] by decide +kernel]
  rfl
set_option maxRecDepth 20000 in
set_option maxHeartbeats 4000000 in
theorem often_any (mn mx : Int) (w : World) (h0 : 0 ≤ mn ∧ mn ≤ 20) (hm : mx = -1 ∨ mn ≤ mx ∧ mx ≤ 20) : Calls Tryz.prog 86 #[.int .i64 mn, .int .i64 mx] w (Often mn mx w) := by
  by_cases e1 : mn = 0 ∧ mx = -1
  · obtain ⟨rfl, rfl⟩ := e1
    go_enter Tryz.func86, Tryz.ntmps86
    go_wp2_with fail
    go_ret
    exact ⟨_, rfl, times_star.symm, by decide, (by repeat' (first | exact Below.refl _ _ | (refine Below.drew ?_) | (refine bdrewN ?_) | (refine Below.alloc ?_ (by first | omega | (simp <;> omega)) _) | (refine Below.setCell ?_ (by first | omega | (simp <;> omega)) _) | (refine Below.trans ?_ (Below.mono (by assumption) (by first | omega | (simp <;> omega))))))⟩
  by_cases e2 : mn = 1 ∧ mx = -1
  · obtain ⟨rfl, rfl⟩ := e2
    go_enter Tryz.func86, Tryz.ntmps86
    go_wp2_with fail
    go_ret
    exact ⟨_, rfl, times_plus.symm, by decide, (by repeat' (first | exact Below.refl _ _ | (refine Below.drew ?_) | (refine bdrewN ?_) | (refine Below.alloc ?_ (by first | omega | (simp <;> omega)) _) | (refine Below.setCell ?_ (by first | omega | (simp <;> omega)) _) | (refine Below.trans ?_ (Below.mono (by assumption) (by first | omega | (simp <;> omega))))))⟩
  by_cases e3 : mn = 0 ∧ mx = 1
  · obtain ⟨rfl, rfl⟩ := e3
    go_enter Tryz.func86, Tryz.ntmps86
    go_wp2_with fail
    go_ret
    exact ⟨_, rfl, times_opt.symm, by decide, (by repeat' (first | exact Below.refl _ _ | (refine Below.drew ?_) | (refine bdrewN ?_) | (refine Below.alloc ?_ (by first | omega | (simp <;> omega)) _) | (refine Below.setCell ?_ (by first | omega | (simp <;> omega)) _) | (refine Below.trans ?_ (Below.mono (by assumption) (by first | omega | (simp <;> omega))))))⟩
  have dl := odig_len mn h0.1 h0.2
  have HI := Lib.hid (fun w => itoa_at mn w h0.1 h0.2)
  have s123 : (⟨#[123]⟩ : ByteArray).size = 1 := rfl
  have s125 : (⟨#[125]⟩ : ByteArray).size = 1 := rfl
  have s44 : (⟨#[44]⟩ : ByteArray).size = 1 := rfl
  have s4 : (⟨#[44, 125]⟩ : ByteArray).size = 2 := rfl
  by_cases e4 : mn = mx
  · subst e4
    have HT := Lib.hid (times_eq e1 e2 e3)
    have bm : (mn == -1) = false := beq_eq_false_iff_ne.2 (by omega)
    clear e1 e2 e3
    generalize hD : (⟨(Rn.cat (Sx.digits mn)).toArray⟩ : ByteArray) = D at HI dl
    have HD := Lib.hid (show D.data.toList = Rn.cat (Sx.digits mn) by rw [← hD])
    clear hD hm
    rcases (show mn = 0 ∨ mn = 1 ∨ (mn ≠ 0 ∧ mn ≠ 1) by omega) with rfl | rfl | ⟨n0, n1⟩
    · skip
      go_enter Tryz.func86, Tryz.ntmps86
      go_wp2_with (first | (go_at_call 121; refine (HI.out _).mono ?_; rintro e w' ⟨rfl, rfl⟩))
      go_ret
      refine ⟨_, rfl, ?_, ?_, (by repeat' (first | exact Below.refl _ _ | (refine Below.drew ?_) | (refine bdrewN ?_) | (refine Below.alloc ?_ (by first | omega | (simp <;> omega)) _) | (refine Below.setCell ?_ (by first | omega | (simp <;> omega)) _) | (refine Below.trans ?_ (Below.mono (by assumption) (by first | omega | (simp <;> omega))))))⟩
      · rw [HT.out]; simp only [ByteArray.data_append, Array.toList_append, HD.out]; simp
      · simp only [ByteArray.size_append]; omega
    · skip
      go_enter Tryz.func86, Tryz.ntmps86
      go_wp2_with (first | (go_at_call 121; refine (HI.out _).mono ?_; rintro e w' ⟨rfl, rfl⟩))
      go_ret
      refine ⟨_, rfl, ?_, ?_, (by repeat' (first | exact Below.refl _ _ | (refine Below.drew ?_) | (refine bdrewN ?_) | (refine Below.alloc ?_ (by first | omega | (simp <;> omega)) _) | (refine Below.setCell ?_ (by first | omega | (simp <;> omega)) _) | (refine Below.trans ?_ (Below.mono (by assumption) (by first | omega | (simp <;> omega))))))⟩
      · rw [HT.out]; simp only [ByteArray.data_append, Array.toList_append, HD.out]; simp
      · simp only [ByteArray.size_append]; omega
    · have b0 : (mn == 0) = false := beq_eq_false_iff_ne.2 n0
      have b1 : (mn == 1) = false := beq_eq_false_iff_ne.2 n1
      clear n0 n1
      go_enter Tryz.func86, Tryz.ntmps86
      go_wp2_with (first | (go_at_call 121; refine (HI.out _).mono ?_; rintro e w' ⟨rfl, rfl⟩))
      go_ret
      refine ⟨_, rfl, ?_, ?_, (by repeat' (first | exact Below.refl _ _ | (refine Below.drew ?_) | (refine bdrewN ?_) | (refine Below.alloc ?_ (by first | omega | (simp <;> omega)) _) | (refine Below.setCell ?_ (by first | omega | (simp <;> omega)) _) | (refine Below.trans ?_ (Below.mono (by assumption) (by first | omega | (simp <;> omega))))))⟩
      · rw [HT.out]; simp only [ByteArray.data_append, Array.toList_append, HD.out]; simp
      · simp only [ByteArray.size_append]; omega
  by_cases e5 : mx = -1
  · subst e5
    have HT := Lib.hid (times_end (mn := mn) (fun h => e1 ⟨h, rfl⟩) (fun h => e2 ⟨h, rfl⟩) (by omega))
    have b0 : (mn == 0) = false := beq_eq_false_iff_ne.2 (fun h => e1 ⟨h, rfl⟩)
    have b1 : (mn == 1) = false := beq_eq_false_iff_ne.2 (fun h => e2 ⟨h, rfl⟩)
    have bm : (mn == -1) = false := beq_eq_false_iff_ne.2 (by omega)
    clear e1 e2 e3 e4
    generalize hD : (⟨(Rn.cat (Sx.digits mn)).toArray⟩ : ByteArray) = D at HI dl
    have HD := Lib.hid (show D.data.toList = Rn.cat (Sx.digits mn) by rw [← hD])
    clear hD hm
    go_enter Tryz.func86, Tryz.ntmps86
    go_wp2_with (first | (go_at_call 121; refine (HI.out _).mono ?_; rintro e w' ⟨rfl, rfl⟩))
    go_ret
    refine ⟨_, rfl, ?_, ?_, (by repeat' (first | exact Below.refl _ _ | (refine Below.drew ?_) | (refine bdrewN ?_) | (refine Below.alloc ?_ (by first | omega | (simp <;> omega)) _) | (refine Below.setCell ?_ (by first | omega | (simp <;> omega)) _) | (refine Below.trans ?_ (Below.mono (by assumption) (by first | omega | (simp <;> omega))))))⟩
    · rw [HT.out]; simp only [ByteArray.data_append, Array.toList_append, HD.out]; simp
    · simp only [ByteArray.size_append]; omega
  have hx : 0 ≤ mx ∧ mx ≤ 20 := by omega
  have dx := odig_len mx hx.1 hx.2
  have HJ := Lib.hid (fun w => itoa_at mx w hx.1 hx.2)
  have HT := Lib.hid (times_to e5 e3 e4)
  have bx : (mx == -1) = false := beq_eq_false_iff_ne.2 e5
  have be : (mn == mx) = false := beq_eq_false_iff_ne.2 e4
  have h01 := e3
  clear e1 e2 e3 e4 e5 hm
  generalize hD : (⟨(Rn.cat (Sx.digits mn)).toArray⟩ : ByteArray) = D at HI dl
  have HD := Lib.hid (show D.data.toList = Rn.cat (Sx.digits mn) by rw [← hD])
  generalize hJ : (⟨(Rn.cat (Sx.digits mx)).toArray⟩ : ByteArray) = J at HJ dx
  have HDJ := Lib.hid (show J.data.toList = Rn.cat (Sx.digits mx) by rw [← hJ])
  clear hD hJ
  rcases (show mn = 0 ∨ mn = 1 ∨ (mn ≠ 0 ∧ mn ≠ 1) by omega) with rfl | rfl | ⟨n0, n1⟩
  · have b1 : (mx == 1) = false := beq_eq_false_iff_ne.2 (fun h => h01 ⟨rfl, h⟩)
    clear h01
    go_enter Tryz.func86, Tryz.ntmps86
    go_wp2_with (first | (go_at_call 121; refine (HI.out _).mono ?_; rintro e w' ⟨rfl, rfl⟩) | (go_at_call 121; refine (HJ.out _).mono ?_; rintro e w' ⟨rfl, rfl⟩))
    go_ret
    refine ⟨_, rfl, ?_, ?_, (by repeat' (first | exact Below.refl _ _ | (refine Below.drew ?_) | (refine bdrewN ?_) | (refine Below.alloc ?_ (by first | omega | (simp <;> omega)) _) | (refine Below.setCell ?_ (by first | omega | (simp <;> omega)) _) | (refine Below.trans ?_ (Below.mono (by assumption) (by first | omega | (simp <;> omega))))))⟩
    · rw [HT.out]; simp only [ByteArray.data_append, Array.toList_append, HD.out, HDJ.out]; simp
    · simp only [ByteArray.size_append]; omega
  · skip
    clear h01
    go_enter Tryz.func86, Tryz.ntmps86
    go_wp2_with (first | (go_at_call 121; refine (HI.out _).mono ?_; rintro e w' ⟨rfl, rfl⟩) | (go_at_call 121; refine (HJ.out _).mono ?_; rintro e w' ⟨rfl, rfl⟩))
    go_ret
    refine ⟨_, rfl, ?_, ?_, (by repeat' (first | exact Below.refl _ _ | (refine Below.drew ?_) | (refine bdrewN ?_) | (refine Below.alloc ?_ (by first | omega | (simp <;> omega)) _) | (refine Below.setCell ?_ (by first | omega | (simp <;> omega)) _) | (refine Below.trans ?_ (Below.mono (by assumption) (by first | omega | (simp <;> omega))))))⟩
    · rw [HT.out]; simp only [ByteArray.data_append, Array.toList_append, HD.out, HDJ.out]; simp
    · simp only [ByteArray.size_append]; omega
  · have b0 : (mn == 0) = false := beq_eq_false_iff_ne.2 n0
    have b1 : (mn == 1) = false := beq_eq_false_iff_ne.2 n1
    clear n0 n1
    clear h01
    go_enter Tryz.func86, Tryz.ntmps86
    go_wp2_with (first | (go_at_call 121; refine (HI.out _).mono ?_; rintro e w' ⟨rfl, rfl⟩) | (go_at_call 121; refine (HJ.out _).mono ?_; rintro e w' ⟨rfl, rfl⟩))
    go_ret
    refine ⟨_, rfl, ?_, ?_, (by repeat' (first | exact Below.refl _ _ | (refine Below.drew ?_) | (refine bdrewN ?_) | (refine Below.alloc ?_ (by first | omega | (simp <;> omega)) _) | (refine Below.setCell ?_ (by first | omega | (simp <;> omega)) _) | (refine Below.trans ?_ (Below.mono (by assumption) (by first | omega | (simp <;> omega))))))⟩
    · rw [HT.out]; simp only [ByteArray.data_append, Array.toList_append, HD.out, HDJ.out]; simp
    · simp only [ByteArray.size_append]; omega
end Go.Proofs.YtdoapojmenojoaaGreatDoor
end

section
/- What is put of a class, on one builder. -/
set_option linter.unusedVariables false
namespace Go.Proofs.YtdoapojmenojoaaGreatDoor
open Go.RowKit
open Sx (Nd)

theorem cat_len (l : List Int) : (Rn.cat l).length ≤ 4 * l.length := by
  have := bs_size l
  have e : (bs l).size = (Rn.cat l).length := by show (Rn.cat l).toArray.size = _; simp
  omega
theorem Wr.drewN {w0 : World} {l : List UInt8} {a b : World} (h : Wr w0 l a b) (m : Nat) : Wr w0 l a (b.drewN m) := h.call (bdrewN (Below.refl _ b))
def InR (c : List Cl.Rg) : Prop := ∀ r ∈ c, 0 ≤ r.1 ∧ r.1 ≤ 1114111 ∧ 0 ≤ r.2 ∧ r.2 ≤ 1114111
set_option maxRecDepth 20000 in
set_option maxHeartbeats 8000000 in
theorem pone_any (w0 : World) (c : List Cl.Rg) (p : Option Addr) (cap : Nat) (l : List UInt8) (w : World) (hp : RowP w0 p c) (hi : InR c) (hc : c.length ≤ 1000) (h : PW w0 l w) (hl : l.length ≤ 800000000) :
    Calls Tryz.prog 82 #[.pointer (some ⟨w0.heap.size, 0, none⟩), .slice p c.length cap] w fun e w' => e = .returned (.tuple #[]) ∧ Wr w0 (l ++ Rn.cat (Sx.putC c)) w w' := by
  have HP := Lib.hid hp
  have HI := Lib.hid hi
  have H := Lib.hid h
  have hdl : Sx.dot.length ≤ 1000000 := by decide
  clear hp hi h
  by_cases hd : c = Sx.dot
  · subst hd
    have HE := Lib.hid (show Rn.cat (Sx.putC Sx.dot) = [46] by decide +kernel)
    go_enter Tryz.func82, Tryz.ntmps82
    go_wp2_with (first | (go_at_call 108; refine (sdot_any _).mono ?_; rintro e w1 ⟨q, c1, rfl, hq, hpt, hw1⟩; have HQ := Lib.hid (show RowP w1 q Sx.dot from hq.is (fun b hb => hb.2)); have H1 := Lib.hid (H.out.calls hw1); clear hq hw1) | (go_at_call 55; refine (same_any p q cap c1 Sx.dot Sx.dot true _ (HP.out.below H1.out.pw.bel) HQ.out hdl hdl (decide_eq_true rfl)).mono ?_; rintro e w2 ⟨rfl, hw2⟩; have H2 := Lib.hid (H1.out.call hw2); clear hw2) | (go_at_call 83; refine (H2.out.pw.byte 46 _ rfl (by omega)).mono ?_; rintro e w3 ⟨rfl, hw3⟩; have H3 := Lib.hid (H2.out.trans hw3); clear hw3))
    go_end0
    refine ⟨rfl, ?_⟩
    rw [HE.out]
    exact H3.out
  have hdc : decide (c = Sx.dot) = false := decide_eq_false hd
  have HDC := Lib.hid hdc
  have HD := Lib.hid hd
  have hc9 : c.length ≤ 1000000 := by omega
  clear hdc hd
  by_cases h1 : ∃ a, c = [(a, a)]
  · obtain ⟨a, rfl⟩ := h1
    have ha := HI.out (a, a) (by simp)
    simp only at ha
    obtain ⟨g, off, rfl, hg, x0, _⟩ := HP.out 0 (a, a) rfl
    simp only [Nat.zero_mul, Nat.add_zero] at x0
    have HE := Lib.hid ((cat_sp a ha.1).trans (by rw [← putC_pair HD.out]))
    go_enter Tryz.func82, Tryz.ntmps82
    go_wp2_with (first | (go_at_call 108; refine (sdot_any _).mono ?_; rintro e w1 ⟨q, c1, rfl, hq, hpt, hw1⟩; have HQ := Lib.hid (show RowP w1 q Sx.dot from hq.is (fun b hb => hb.2)); have H1 := Lib.hid (H.out.calls hw1); clear hq hw1) | (go_at_call 55; refine (same_any (some ⟨g, off, none⟩) q cap c1 [(a, a)] Sx.dot false _ (HP.out.below H1.out.pw.bel) HQ.out hc9 hdl HDC.out).mono ?_; rintro e w2 ⟨rfl, hw2⟩; have H2 := Lib.hid (H1.out.call hw2); clear hw2) | (go_at_call 117; refine (isone_any (some ⟨g, off, none⟩) cap [(a, a)] w2 (HP.out.below H2.out.pw.bel) true (by simp [oneB])).mono ?_; rintro e w3 ⟨rfl, m3, rfl⟩; have H3 := Lib.hid (H2.out.drewN m3); have x3 := (H3.out.pw.bel.cell (p := ⟨g, off, none⟩) hg).trans x0) | (go_at_call 118; refine (prune_any w0 spT a _ l _ ha.1 ha.2.1 (by decide) (by decide) (by decide) rfl H3.out.pw (by omega)).mono ?_; rintro e w4 ⟨rfl, hw4⟩; have H4 := Lib.hid (H3.out.trans hw4); clear hw4))
    go_end0
    refine ⟨rfl, ?_⟩
    rw [← HE.out]
    exact H4.out
  · have hob : oneB c = false := by
      unfold oneB
      split
      · next r => rw [beq_eq_false_iff_ne]; exact fun e => h1 ⟨r.1, by rw [show r = (r.1, r.1) from Prod.ext rfl e.symm]⟩
      · rfl
    have HOB := Lib.hid hob
    have HE := Lib.hid (putC_more HD.out h1)
    clear hob h1
    go_enter Tryz.func82, Tryz.ntmps82
    go_wp2_with (first | (go_at_call 108; refine (sdot_any _).mono ?_; rintro e w1 ⟨q, c1, rfl, hq, hpt, hw1⟩; have HQ := Lib.hid (show RowP w1 q Sx.dot from hq.is (fun b hb => hb.2)); have H1 := Lib.hid (H.out.calls hw1); clear hq hw1) | (go_at_call 55; refine (same_any p q cap c1 c Sx.dot false _ (HP.out.below H1.out.pw.bel) HQ.out hc9 hdl HDC.out).mono ?_; rintro e w2 ⟨rfl, hw2⟩; have H2 := Lib.hid (H1.out.call hw2); clear hw2) | (go_at_call 117; refine (isone_any p cap c w2 (HP.out.below H2.out.pw.bel) false HOB.out).mono ?_; rintro e w3 ⟨rfl, m3, rfl⟩; have H3 := Lib.hid (H2.out.drewN m3)) | (go_at_call 83; refine (H3.out.pw.byte 91 _ rfl (by omega)).mono ?_; rintro e w4 ⟨rfl, hw4⟩; have H4 := Lib.hid (H3.out.trans hw4); clear hw4))
    go_loopw [10] (fun i wr => ∃ m : Nat, i = .int .i64 (m : Int) ∧ m ≤ c.length ∧ Wr w0 (l ++ [91] ++ Rn.cat (Sx.putRs (c.take m))) w wr) (fun i _ => c.length - (intOf i).toNat)
    case atStart => exact ⟨0, rfl, Nat.zero_le _, by rw [List.take_zero]; simpa [Sx.putRs, Rn.cat] using H4.out⟩
    case round =>
      obtain ⟨m, rfl, hm, hwr⟩ := hrel
      by_cases hlt : m < c.length
      · obtain ⟨⟨a, b⟩, hx⟩ : ∃ x, c[m]? = some x := ⟨_, List.getElem?_eq_getElem hlt⟩
        obtain ⟨g, off, rfl, hg, x0, x1⟩ := (HP.out.below hwr.pw.bel) m (a, b) hx
        have hab := HI.out (a, b) (List.mem_of_getElem? hx)
        simp only at hab x0 x1
        have hml : (m : Int) < (c.length : Int) := by omega
        have hst := Lib.hid (putRs_take hx)
        have hacc : (Rn.cat (Sx.putRs (c.take m))).length ≤ 20000 := by
          have h1 := cat_len (Sx.putRs (c.take m))
          have h2 := putRs_len5 (c.take m)
          have h3 : (c.take m).length ≤ c.length := by rw [List.length_take]; omega
          omega
        have hbx := new_block wr (.cells #[.int .i32 a, .int .i32 b] 116)
        have hne : wr.heap.size ≠ w0.heap.size := by
          have h1 := H.out.bld
          have h2 : w0.heap.size < w.heap.size := by
            rcases h1 with ⟨_, _, h5, _⟩ | ⟨_, _, h5, _⟩ <;> exact (Array.getElem?_eq_some_iff.1 h5).1
          have := hwr.size
          omega
        have HW := Lib.hid (hwr.call (below_new wr (.cells #[.int .i32 a, .int .i32 b] 116)))
        generalize hR : Rn.cat (Sx.putRs (c.take m)) = R at hacc HW
        have HRR := Lib.hid hR
        clear hx hwr hR
        have hb4 := hbx
        clear hbx
        by_cases hba : b = a
        · subst hba
          rw [if_pos rfl, List.append_nil] at hst
          go_wp2_with (first | (go_at_call 118; refine (prune_any w0 in1T b _ (l ++ [91] ++ R) _ hab.1 hab.2.1 (by decide) (by decide) (by decide) rfl HW.out.pw (by simp only [List.length_append, List.length_cons, List.length_nil]; omega)).mono ?_; rintro e w5 ⟨rfl, hw5⟩; have hb5 := hw5.box hb4 (by decide) hne; have q50 : w5.cell? ⟨wr.heap.size, 0, none⟩ = some (.int .i32 b) := (by rw [Lib.cell_of_heap hb5]; rfl); have q51 : w5.cell? ⟨wr.heap.size, 1, none⟩ = some (.int .i32 b) := (by rw [Lib.cell_of_heap hb5]; rfl); have H5 := Lib.hid (HW.out.trans hw5); clear hw5))
          go_roundw
          case rel =>
            refine ⟨m + 1, by go_num, by omega, ?_⟩
            rw [hst.out, Rn.cat_app, HRR.out, ← cat_in1 b hab.1]
            simpa [List.append_assoc] using H5.out
          case measure => simp [intOf]; omega
        · have hne2 : (b != a) = true := by rw [bne_iff_ne]; exact hba
          rw [if_neg hba] at hst
          have hal : (Rn.cat (Sx.mem2 a)).length ≤ 8 := by have h1 := cat_len (Sx.mem2 a); have h2 := mem2_len a; omega
          rw [← cat_in1 a hab.1] at hal
          have hal' : ((if hasR in1T.data.toList a then [92] else []) ++ (Utf8.encode a).data.toList).length ≤ 8 := hal
          have HA := Lib.hid (cat_in1 a hab.1)
          have HB := Lib.hid (cat_in1 b hab.2.2.1)
          generalize ((if hasR in1T.data.toList a then [92] else []) ++ (Utf8.encode a).data.toList) = A at hal' HA
          have HPA := Lib.hid (show ∀ (l : List UInt8) (w : World), PW w0 l w → l.length ≤ 900000000 → Calls Tryz.prog 118 #[.pointer (some ⟨w0.heap.size, 0, none⟩), .int .i32 a, .string in1T] w fun e w' => e = .returned (.tuple #[]) ∧ Wr w0 (l ++ Rn.cat (Sx.mem2 a)) w w' from fun l w h hl => by rw [← cat_in1 a hab.1]; exact prune_any w0 in1T a _ l w hab.1 hab.2.1 (by decide) (by decide) (by decide) rfl h hl)
          have HPB := Lib.hid (show ∀ (l : List UInt8) (w : World), PW w0 l w → l.length ≤ 900000000 → Calls Tryz.prog 118 #[.pointer (some ⟨w0.heap.size, 0, none⟩), .int .i32 b, .string in1T] w fun e w' => e = .returned (.tuple #[]) ∧ Wr w0 (l ++ Rn.cat (Sx.mem2 b)) w w' from fun l w h hl => by rw [← cat_in1 b hab.2.2.1]; exact prune_any w0 in1T b _ l w hab.2.2.1 hab.2.2.2 (by decide) (by decide) (by decide) rfl h hl)
          have hl2 : (Rn.cat (Sx.mem2 a)).length ≤ 8 := by have h1 := cat_len (Sx.mem2 a); have h2 := mem2_len a; omega
          clear hal hal' HA HB
          generalize hMA : Rn.cat (Sx.mem2 a) = MA at HPA hl2
          have HMA := Lib.hid hMA
          clear hMA
          go_wp2_with (first | (go_at_call 118; refine (HPA.out (l ++ [91] ++ R) _ HW.out.pw (by simp only [List.length_append, List.length_cons, List.length_nil]; omega)).mono ?_; rintro e w5 ⟨rfl, hw5⟩; have hb5 := hw5.box hb4 (by decide) hne; have q50 : w5.cell? ⟨wr.heap.size, 0, none⟩ = some (.int .i32 a) := (by rw [Lib.cell_of_heap hb5]; rfl); have q51 : w5.cell? ⟨wr.heap.size, 1, none⟩ = some (.int .i32 b) := (by rw [Lib.cell_of_heap hb5]; rfl); have H5 := Lib.hid (HW.out.trans hw5); clear hw5 HPA) | (go_at_call 83; refine (H5.out.pw.byte 45 _ rfl (by simp only [List.length_append, List.length_cons, List.length_nil]; omega)).mono ?_; rintro e w6 ⟨rfl, hw6⟩; have hb6 := hw6.box hb5 (by decide) hne; have q61 : w6.cell? ⟨wr.heap.size, 1, none⟩ = some (.int .i32 b) := (by rw [Lib.cell_of_heap hb6]; rfl); have H6 := Lib.hid (H5.out.trans hw6); clear hw6) | (go_at_call 118; refine (HPB.out _ _ H6.out.pw (by simp only [List.length_append, List.length_cons, List.length_nil]; omega)).mono ?_; rintro e w7 ⟨rfl, hw7⟩; have H7 := Lib.hid (H6.out.trans hw7); clear hw7))
          go_roundw
          case rel =>
            refine ⟨m + 1, by go_num, by omega, ?_⟩
            rw [hst.out, Rn.cat_app, HRR.out, Rn.cat_app, HMA.out, show Rn.cat (45 :: Sx.mem2 b) = [45] ++ Rn.cat (Sx.mem2 b) from (by rw [show (45 :: Sx.mem2 b : List Int) = [45] ++ Sx.mem2 b from rfl, Rn.cat_app, show Rn.cat [45] = [45] by decide +kernel])]
            simpa [List.append_assoc] using H7.out
          case measure => simp [intOf]; omega
      · obtain rfl : m = c.length := by omega
        have H5 := Lib.hid hwr
        have hacc : (Rn.cat (Sx.putRs (c.take c.length))).length ≤ 20000 := by
          have h1 := cat_len (Sx.putRs (c.take c.length))
          have h2 := putRs_len5 (c.take c.length)
          have h3 : (c.take c.length).length ≤ c.length := by rw [List.length_take]; omega
          omega
        clear hwr
        go_wp2_with (first | (go_at_call 83; refine (H5.out.pw.byte 93 _ rfl (by simp only [List.length_append, List.length_cons, List.length_nil]; omega)).mono ?_; rintro e w6 ⟨rfl, hw6⟩; have H6 := Lib.hid (H5.out.trans hw6); clear hw6))
        go_end0
        refine ⟨rfl, ?_⟩
        have h6 := H6.out
        rw [List.take_length] at h6
        rw [HE.out, show (91 :: Sx.putRs c ++ [93] : List Int) = [91] ++ (Sx.putRs c ++ [93]) from rfl, Rn.cat_app, Rn.cat_app, show Rn.cat [91] = [91] by decide +kernel, show Rn.cat [93] = [93] by decide +kernel]
        simpa [List.append_assoc] using h6
end Go.Proofs.YtdoapojmenojoaaGreatDoor
end
