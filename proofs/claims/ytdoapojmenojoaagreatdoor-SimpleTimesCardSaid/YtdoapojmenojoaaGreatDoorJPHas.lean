import Derived.Test.YtdoapojmenojoaaGreatDoorJPar
import Derived.Test.YtdoapojmenojoaaGreatDoorJKit
import Derived.BigQuiet
import Derived.IntWalk
set_option linter.unusedSimpArgs false
set_option linter.unusedVariables false
/- Whether a rune is one of a text of runes below 128. -/
set_option linter.unusedVariables false
namespace Go.Proofs.YtdoapojmenojoaaGreatDoor
open Go.RowKit

theorem idx_none {l : List UInt8} {c : UInt8} (h : ∀ b ∈ l, b ≠ c) : Lib.indexByte l c = -1 := by
  induction l with
  | nil => rfl
  | cons b l ih =>
    have h1 := h b (by simp)
    have h2 := ih (fun x hx => h x (by simp [hx]))
    rw [Lib.indexByte, h2, if_neg (by rw [beq_iff_eq]; exact h1)]
    decide
theorem idx_some {l : List UInt8} {c : UInt8} (h : c ∈ l) : 0 ≤ Lib.indexByte l c := by
  induction l with
  | nil => cases h
  | cons b l ih =>
    rw [Lib.indexByte]
    by_cases e : b = c
    · rw [if_pos (by rw [beq_iff_eq]; exact e)]; omega
    · rcases List.mem_cons.1 h with rfl | h
      · exact absurd rfl e
      · have := ih h
        rw [if_neg (by rw [beq_iff_eq]; exact e), if_neg (by rw [beq_iff_eq]; omega)]
        omega
/- the last byte of a rune from 128 on -/
theorem enc_last {r : Int} (hr : Rn.rightB r = true) (h : 128 ≤ r) : ∃ m, (Utf8.encode r).size = m + 1 ∧ 1 ≤ m ∧ m ≤ 3 ∧ ∀ h : m < (Utf8.encode r).size, 128 ≤ ((Utf8.encode r)[m]).toNat := by
  have := (Rn.right_iff r).1 hr
  have key : ∀ x : Int, 0 ≤ x → x < 64 → 128 ≤ (UInt8.ofNat (128 + x).toNat).toNat := fun x h0 h1 => by
    have e : (UInt8.ofNat (128 + x).toNat).toNat = (128 + x).toNat % 256 := by simp
    rw [e]; omega
  rcases (show r < 2048 ∨ 2048 ≤ r ∧ r < 65536 ∨ 65536 ≤ r by omega) with h' | h' | h'
  · refine ⟨1, by rw [Rn.enc2 hr h h']; rfl, by decide, by decide, fun hm => ?_⟩
    have e := Rn.enc2 hr h h'
    revert hm; rw [e]; intro hm
    exact key _ (by omega) (by omega)
  · refine ⟨2, by rw [Rn.enc3 hr h'.1 h'.2]; rfl, by decide, by decide, fun hm => ?_⟩
    have e := Rn.enc3 hr h'.1 h'.2
    revert hm; rw [e]; intro hm
    exact key _ (by omega) (by omega)
  · refine ⟨3, by rw [Rn.enc4 hr h']; rfl, by decide, by decide, fun hm => ?_⟩
    have e := Rn.enc4 hr h'
    revert hm; rw [e]; intro hm
    exact key _ (by omega) (by omega)
theorem indexb_at (s : ByteArray) (a : Nat) (c : UInt8) (w : World) (hc : 128 ≤ c.toNat) (h7 : ∀ b ∈ s.data.toList, b.toNat < 128) :
    Calls Tryz.prog 174 #[.string (s.extract a s.size), .int .u8 (c.toNat : Int)] w fun e w' => e = .returned (.int .i64 (-1)) ∧ w' = w := by
  refine (Tryz.strings_IndexByte _ _ _).mono ?_
  rintro e w' ⟨rfl, rfl⟩
  refine ⟨?_, rfl⟩
  have hcc : ((c.toNat : Int)).toNat.toUInt8 = c := by simp
  rw [Lib.extract_to_end, hcc, idx_none]
  intro b hb e
  have := h7 b (List.mem_of_mem_drop hb)
  rw [e] at this
  omega
set_option maxRecDepth 20000 in
set_option maxHeartbeats 4000000 in
theorem irune_far (s : ByteArray) (r : Int) (w : World) (hr : Rn.rightB r = true) (h : 128 ≤ r) (hn : (r == 65533) = false) (h4 : 4 ≤ s.size) (hs : s.size ≤ 100) (h7 : ∀ b ∈ s.data.toList, b.toNat < 128) :
    Calls Tryz.prog 155 #[.string s, .int .i32 r] w fun e w' => e = .returned (.int .i64 (-1)) ∧ Below w.heap.size w w' := by
  obtain ⟨m, hm, hm1, hm3, hlast⟩ := enc_last hr h
  have hml : m < (Utf8.encode r).size := by omega
  have hc := hlast hml
  have hbyte : ∀ (i : Nat) (hi : i < s.size), (s[i].toNat : Int) < 128 := fun i hi => by
    have := h7 s[i] (by rw [ByteArray.getElem_eq_getElem_data]; exact Array.getElem_mem_toList _)
    omega
  have hv : Lib.validRune r = true := by
    have := (Rn.right_iff r).1 hr
    unfold Lib.validRune
    simp
    omega
  have d1 : decide (r < 128) = false := by rw [decide_eq_false_iff_not]; omega
  have d0 : decide (0 ≤ r) = true := by rw [decide_eq_true_eq]; omega
  have h0 : 0 ≤ r := by omega
  have hrb : ¬ r < 128 := by omega
  have HB := Lib.hid hbyte
  have HC := Lib.hid hlast
  have HM := Lib.hid hm
  clear hbyte hlast
  go_enter Tryz.func155, Tryz.ntmps155
  go_wp2_with (first | (go_at_call 175; refine (Tryz.utf8_ValidRune _ _).mono ?_; rintro e w' ⟨rfl, rfl⟩; rw [hv]))
  generalize hE : Utf8.encode r = E at *
  have hz8 : (E.size : Int) - 1 = (m : Int) := by omega
  have hlt2 : (m : Int) < (s.size : Int) := by omega
  have hltE : (m : Int) < (E.size : Int) := by omega
  have hms : m < s.size := by omega
  have hb2 := HB.out m hms
  have hne : ((s[m].toNat : Int) != (E[m].toNat : Int)) = true := by rw [bne_iff_ne]; omega
  obtain ⟨M, hM⟩ : ∃ M, M = m + 1 := ⟨_, rfl⟩
  have hw1 : IntKind.i64.wrap ((m : Int) + 1) = (M : Int) := (IntWalk.i64_in _ ⟨by omega, by omega⟩).trans (by omega)
  have hle2 : (M : Int) ≤ (s.size : Int) := by omega
  have HM2 := Lib.hid hM
  clear hM
  clear hm
  go_step3
  go_wp2_with fail
  go_loopw [9, 10] (fun i _ wr => i = .int .i64 (m : Int) ∧ Below w'.heap.size w' wr) (fun _ _ _ => 0)
  case atStart => exact ⟨rfl, Below.refl _ _⟩
  case round =>
    obtain ⟨rfl, hbel⟩ := hrel
    go_wp2_with fail
    go_step3
    go_wp2_with fail
    go_quiet (fail)
    have b2 := bdrewN (n := nq) hbel
    clear hbel
    generalize wr.drewN nq = wq at b2 ⊢
    go_wp2_with fail
    go_quiet ((go_at_call 174; refine Calls.quiet_of_same (indexb_at s M _ _ hc h7)))
    go_wp2_with fail
    rw [Exit.noGoto_ret]
    go_wp2_with fail
    try rw [Exit.noGoto_ret]
    go_ret
    exact ⟨rfl, (by repeat' (first | exact Below.refl _ _ | (refine Below.drew ?_) | (refine bdrewN ?_) | (refine Below.alloc ?_ (by first | omega | (simp <;> omega)) _) | (refine Below.setCell ?_ (by first | omega | (simp <;> omega)) _) | (refine Below.trans ?_ (Below.mono (by assumption) (by first | omega | (simp <;> omega))))))⟩
set_option maxRecDepth 20000 in
set_option maxHeartbeats 4000000 in
theorem irune_bad (s : ByteArray) (w : World) (hs : s.size ≤ 100) (h7 : ∀ b ∈ s.data.toList, b.toNat < 128) :
    Calls Tryz.prog 155 #[.string s, .int .i32 65533] w fun e w' => e = .returned (.int .i64 (-1)) ∧ Below w.heap.size w w' := by
  go_enter Tryz.func155, Tryz.ntmps155
  go_wp2_with fail
  try go_step3
  try go_wp2_with fail
  go_loopw [5, 6] (fun _ _ wr => ∃ q, q ≤ s.size ∧ Cur wr w.heap.size s q ∧ Below w.heap.size w wr) (fun _ _ wr => s.size - wr.iterPos w.heap.size)
  case atStart => exact ⟨0, Nat.zero_le _, Cur.new w s, Below.alloc (Below.refl _ _) (Nat.le_refl _) _⟩
  case round =>
    obtain ⟨q, hq, i0, b0⟩ := hrel
    by_cases hl : q < s.size
    · obtain ⟨w1, hn, i1, _, _, z1, b1, o1, g1⟩ := next_spec (P := Tryz.prog) _ _ _ _ i0 hl
      have bb := b1 _ _ b0 (Nat.le_refl _)
      have hb : (s.data.toList.getD q 0).toNat < 128 := by
        rw [List.getD, List.getElem?_eq_getElem (by rw [Rn.len_eq]; exact hl)]
        exact h7 _ (List.getElem_mem _)
      have hd := Sx.byte_tok hl hb
      have hR : ((Utf8.decode s q).1 : Int) < 128 := by
        rcases Rn.shape s q hl with ⟨_, e, _⟩ | ⟨c, _⟩ | ⟨c, _⟩ | ⟨c, _⟩ | ⟨c, _⟩
        · have : (Utf8.decode s q).1 = Rn.at8 s q := e
          rw [this]; unfold Rn.at8; omega
        all_goals (unfold Rn.at8 at c; omega)
      have hne : (((Utf8.decode s q).1 : Int) == 65533) = false := by rw [beq_eq_false_iff_ne]; omega
      have hW : (Utf8.decode s q).2 = 1 := hd.2
      have I1 := Lib.hid i1
      have I0 := Lib.hid i0.at
      have HW := Lib.hid hW
      clear i1 i0 b0 b1 o1 g1 z1 hd hb hW
      go_wp2_with fail
      go_roundw
      case rel => exact ⟨q + 1, hl, by have := I1.out; rw [HW.out] at this; exact this, bb⟩
      case measure =>
        have := I1.out.at
        rw [HW.out] at this
        rw [this, I0.out]; omega
    · have hn := next_end (P := Tryz.prog) _ _ _ _ i0 hl
      clear i0
      go_wp2_with fail
      try rw [Exit.noGoto_ret]
      go_wp2_with fail
      try rw [Exit.noGoto_ret]
      go_ret
      exact ⟨rfl, b0⟩
/- in short -/
def hasR (l : List UInt8) (r : Int) : Bool := decide (r < 128) && l.contains r.toNat.toUInt8
theorem crune_any (s : ByteArray) (r : Int) (v : Bool) (w : World) (hr : Rn.rightB r = true) (h4 : 4 ≤ s.size) (hs : s.size ≤ 100) (h7 : ∀ b ∈ s.data.toList, b.toNat < 128) (hv : hasR s.data.toList r = v) :
    Calls Tryz.prog 134 #[.string s, .int .i32 r] w fun e w' => e = .returned (.bool v) ∧ Below w.heap.size w w' := by
  have hb := (Rn.right_iff r).1 hr
  by_cases h : r < 128
  · refine (Tryz.strings_ContainsRune_ascii s r w (by omega) h).mono ?_
    rintro e w' ⟨rfl, rfl⟩
    refine ⟨ret_bool ?_, Below.refl _ _⟩
    rw [← hv]
    unfold hasR
    rw [decide_eq_true h, Bool.true_and]
    by_cases hc : r.toNat.toUInt8 ∈ s.data.toList
    · rw [List.contains_iff_mem.2 hc, decide_eq_true (idx_some hc)]
    · rw [idx_none (c := r.toNat.toUInt8) (fun b hb' e => hc (by rw [← e]; exact hb'))]
      rw [show s.data.toList.contains r.toNat.toUInt8 = false by rw [← Bool.not_eq_true, List.contains_iff_mem]; exact hc]
      rfl
  · have hv2 : v = false := by rw [← hv]; unfold hasR; rw [decide_eq_false h]; rfl
    subst hv2
    have H7 := Lib.hid h7
    by_cases e : r = 65533
    · subst e
      clear hv hb hr h h7
      go_enter Tryz.func134, Tryz.ntmps134
      go_wp2_with (go_at_call 155; refine (irune_bad s _ hs H7.out).mono ?_; rintro e w1 ⟨rfl, hw1⟩)
      go_ret
      exact ⟨rfl, hw1⟩
    · have he : (r == 65533) = false := beq_eq_false_iff_ne.2 e
      have HE := Lib.hid he
      have HR := Lib.hid hr
      have HN := Lib.hid h
      clear hv hb hr h h7 he e
      go_enter Tryz.func134, Tryz.ntmps134
      go_wp2_with (go_at_call 155; refine (irune_far s r _ HR.out (by have := HN.out; omega) HE.out h4 hs H7.out).mono ?_; rintro e w1 ⟨rfl, hw1⟩)
      go_ret
      exact ⟨rfl, hw1⟩
end Go.Proofs.YtdoapojmenojoaaGreatDoor
