import Derived.Test.YtdoapojmenojoaaGreatDoorJPEsc
import Derived.Test.YtdoapojmenojoaaGreatDoorJSynM10
import Derived.StillTailTactics
set_option linter.unusedSimpArgs false
set_option linter.unusedVariables false
section
/- A member of a class. -/
set_option linter.unusedVariables false
namespace Go.Proofs.YtdoapojmenojoaaGreatDoor
open Go.RowKit
open Sx (Nd)

/- a class that is read, the parser behind it -/
def ClsPost (w : World) (p : Nat) (s : ByteArray) (b g : Int) (v : Value) (r : Option (List Cl.Rg × List Int)) (e : Ending) (w' : World) : Prop :=
  (∃ c t a' q cap, r = some (c, t) ∧ e = .returned (.slice q c.length cap) ∧ RowS (New w w') w' q c ∧ Ptr q cap ∧ Pz w p s b a' g v t w') ∨ (r = none ∧ e = pan b 2 ∧ Kp (Own1 p) w w')
theorem rows_from {w w1 w' : World} {q : Option Addr} {c : List Cl.Rg} (h : RowS (New w1 w') w' q c) (hs : w.heap.size ≤ w1.heap.size) : RowS (New w w') w' q c := h.mono (fun b hb => ⟨⟨Nat.le_trans hs hb.1, hb.2⟩, rfl⟩)
theorem rows_later {w w1 w' : World} {q : Option Addr} {c : List Cl.Rg} (h : RowS (New w w1) w1 q c) (hb : Below w1.heap.size w1 w') : RowS (New w w') w' q c := h.mono (fun b hb' => ⟨⟨hb'.1, Nat.lt_of_lt_of_le hb'.2 hb.size⟩, hb.block b hb'.2⟩)
theorem pz_from {w w1 w' : World} {p : Nat} {s : ByteArray} {b g : Int} {a : Nat} {v : Value} {t : List Int} (h : Pz w1 p s b a g v t w') (hk : Kp (Own1 p) w w1) : Pz w p s b a g v t w' := ⟨h.pb, hk.trans h.kp, h.at'⟩
theorem pz_later {w w1 w' : World} {p : Nat} {s : ByteArray} {b g : Int} {a : Nat} {v : Value} {t : List Int} (h : Pz w p s b a g v t w1) (hb : Below w1.heap.size w1 w') : Pz w p s b a g v t w' := ⟨h.pb.below hb, h.kp.below hb, h.at'⟩
theorem pz_mk {w w' : World} {p : Nat} {s : ByteArray} {b g : Int} {a : Nat} {v : Value} {t : List Int} (h : PB w' p s b (a : Int) g v) (k : Kp (Own1 p) w w') (ha : Sx.At s t a) : Pz w p s b a g v t w' := ⟨h, k, ha⟩
abbrev in1T : ByteArray := ⟨#[92, 93, 45, 94]⟩
theorem hasR_in1 {r : Int} (h0 : 0 ≤ r) : hasR in1T.data.toList r = decide (r = 92 ∨ r = 93 ∨ r = 45 ∨ r = 94) := by
  by_cases h : r < 128
  · obtain ⟨n, rfl⟩ := Int.eq_ofNat_of_zero_le h0
    have hn : n < 128 := by omega
    clear h h0
    revert n
    decide
  · unfold hasR
    rw [decide_eq_false h, Bool.false_and]
    symm
    rw [decide_eq_false_iff_not]
    omega
def escM : List Int → Option (List Cl.Rg × List Int)
  | [] => none
  | x :: t => if Sx.escape x = [] then none else some (Sx.escape x, t)
theorem member_92 (t : List Int) : Sx.member (92 :: t) = escM t := by
  simp only [Sx.member]
  rw [if_neg (by decide), if_neg (by decide)]
  cases t <;> rfl
set_option maxRecDepth 20000 in
set_option maxHeartbeats 4000000 in
theorem mem_bad (p : Nat) (s : ByteArray) (b g : Int) (a : Nat) (v : Value) (w : World) (l : List Int) (h : PB w p s b a g v) (hs : s.size ≤ 200) (ha : Sx.At s l a) (hl : ∀ x t, l = x :: t → x < 0) :
    Calls Tryz.prog 156 #[.pointer (some ⟨p, 0, none⟩)] w (ClsPost w p s b g v (Sx.member l)) := by
  have HM := Lib.hid (show Sx.member l = none by
    cases l with
    | nil => rfl
    | cons x t => have := hl x t rfl; simp only [Sx.member]; rw [if_pos (.inl this)])
  have HP := Lib.hid h
  have HA := Lib.hid ha
  have HL := Lib.hid hl
  clear h ha hl
  go_enter Tryz.func156, Tryz.ntmps156
  go_wp2_with (go_at_call 130; refine (rune_no p s b g a v _ _ HP.out hs HA.out HL.out).mono ?_; rintro e w1 ⟨rfl, hk1⟩; unfold pan)
  exact ⟨rfl, .inr ⟨HM.out, rfl, hk1⟩⟩
set_option maxRecDepth 20000 in
set_option maxHeartbeats 4000000 in
theorem mem_esc (p : Nat) (s : ByteArray) (b g : Int) (a : Nat) (v : Value) (w : World) (t : List Int) (h : PB w p s b a g v) (hs : s.size ≤ 200) (ha : Sx.At s (92 :: t) a) :
    Calls Tryz.prog 156 #[.pointer (some ⟨p, 0, none⟩)] w (ClsPost w p s b g v (Sx.member (92 :: t))) := by
  have HM := Lib.hid (member_92 t)
  have HP := Lib.hid h
  have HA := Lib.hid ha
  clear h ha
  go_enter Tryz.func156, Tryz.ntmps156
  go_wp2_with (go_at_call 130; refine (rune_is p s b g a v _ 92 t HP.out hs HA.out (by decide)).mono ?_; rintro e w1 ⟨rfl, a1, hat, hp1, hk1⟩; have HP1 := Lib.hid hp1; have HT1 := Lib.hid hat; have HK1 := Lib.hid hk1; clear hp1 hk1 hat)
  refine (escape_any p s b g a1 v _ t HP1.out hs HT1.out).mono ?_
  rintro e w2 (⟨x, t', a2, k, cl, u, rfl, he, rfl, ⟨q, c, rfl, hq, hpt⟩, hz⟩ | ⟨hn, rfl, hk2⟩)
  · unfold ndv
    have hsz := hz.kp.size
    have hK1s := HK1.out.size
    have HQ := Lib.hid (rows_from hq hK1s)
    have HPT := Lib.hid hpt
    have HZ := Lib.hid (pz_from hz HK1.out)
    have HE := Lib.hid he
    clear hq hpt hz he
    by_cases hk : k = 1
    · subst hk
      have hcl : cl = Sx.escape x ∧ Sx.escape x ≠ [] := by
        have := HE.out
        unfold esc at this
        split at this
        · simp at this
        · split at this
          · simp at this
          · split at this
            · simp at this
            · rename_i h3; simp at this; exact ⟨this.symm, h3⟩
      have HC := Lib.hid hcl
      clear hcl
      go_wp2_with fail
      go_ret
      refine .inl ⟨cl, t', a2, q, c, ?_, rfl, rows_later HQ.out (below_new _ _), HPT.out, pz_later HZ.out (below_new _ _)⟩
      rw [HM.out, escM, if_neg HC.out.2, ← HC.out.1]
    · have hk2 : (k != 1) = true := by rw [bne_iff_ne]; exact hk
      have hcl : Sx.escape x = [] := by
        have := HE.out
        unfold esc at this
        split at this
        · rename_i h; subst h; rfl
        · split at this
          · rename_i h; subst h; rfl
          · split at this
            · assumption
            · simp at this; exact absurd this.1.symm hk
      have HC := Lib.hid hcl
      clear hcl hk
      go_wp2_with (go_at_call 71; refine (wrong_any p s b a2 g v _ (HZ.out.pb.alloc _)).mono ?_; rintro e w4 ⟨rfl, rfl⟩; unfold pan)
      refine ⟨rfl, .inr ⟨?_, rfl, HZ.out.kp.alloc _⟩⟩
      rw [HM.out, escM, if_pos HC.out]
  · unfold pan
    go_wp2_with fail
    refine ⟨rfl, .inr ⟨?_, rfl, HK1.out.trans hk2⟩⟩
    rw [HM.out]
    cases t with
    | nil => rfl
    | cons x t' =>
      have := hn x t' rfl
      rw [escM, if_pos]
      unfold esc at this
      split at this
      · simp at this
      · split at this
        · simp at this
        · split at this
          · assumption
          · simp at this
set_option maxRecDepth 20000 in
set_option maxHeartbeats 4000000 in
theorem mem_sp (p : Nat) (s : ByteArray) (b g : Int) (a : Nat) (v : Value) (w : World) (x : Int) (t : List Int) (h : PB w p s b a g v) (hs : s.size ≤ 200) (ha : Sx.At s (x :: t) a) (h0 : 0 ≤ x) (n92 : (x == 92) = false) (hx : x = 93 ∨ x = 45 ∨ x = 94) :
    Calls Tryz.prog 156 #[.pointer (some ⟨p, 0, none⟩)] w (ClsPost w p s b g v (Sx.member (x :: t))) := by
  have HM := Lib.hid (show Sx.member (x :: t) = none by simp only [Sx.member]; rw [if_pos (.inr hx)])
  have HH := Lib.hid ((hasR_in1 h0).trans (decide_eq_true (.inr hx)))
  have HXR := Lib.hid (at_rune ha h0)
  have HX0 := Lib.hid h0
  have HP := Lib.hid h
  have HA := Lib.hid ha
  clear h ha hx h0
  go_enter Tryz.func156, Tryz.ntmps156
  go_wp2_with (first | (go_at_call 130; refine (rune_is p s b g a v _ x t HP.out hs HA.out HX0.out).mono ?_; rintro e w1 ⟨rfl, a1, hat, hp1, hk1⟩; have HP1 := Lib.hid hp1; have HT1 := Lib.hid hat; have HK1 := Lib.hid hk1; clear hp1 hk1 hat) | (go_at_call 134; refine (crune_any in1T x true _ HXR.out.2 (by decide) (by decide) (by decide) HH.out).mono ?_; rintro e w3 ⟨rfl, hw3⟩; have HP3 := Lib.hid (HP1.out.below hw3); have HK3 := Lib.hid (HK1.out.below hw3); clear hw3) | (go_at_call 71; refine (wrong_any p s b a1 g v _ HP3.out).mono ?_; rintro e w4 ⟨rfl, rfl⟩; unfold pan))
  exact ⟨rfl, .inr ⟨HM.out, rfl, HK3.out⟩⟩
set_option maxRecDepth 20000 in
set_option maxHeartbeats 4000000 in
theorem mem_one (p : Nat) (s : ByteArray) (b g : Int) (a : Nat) (v : Value) (w : World) (x : Int) (t : List Int) (h : PB w p s b a g v) (hs : s.size ≤ 200) (ha : Sx.At s (x :: t) a) (h0 : 0 ≤ x) (n92 : (x == 92) = false) (hx : ¬ (x = 93 ∨ x = 45 ∨ x = 94)) :
    Calls Tryz.prog 156 #[.pointer (some ⟨p, 0, none⟩)] w (ClsPost w p s b g v (Sx.member (x :: t))) := by
  have n92' : x ≠ 92 := by simpa using n92
  have HM := Lib.hid (show Sx.member (x :: t) = some ([(x, x)], t) by simp only [Sx.member]; rw [if_neg (by omega), if_pos n92'])
  have HH := Lib.hid ((hasR_in1 h0).trans (decide_eq_false (by omega)))
  have HXR := Lib.hid (at_rune ha h0)
  have HX0 := Lib.hid h0
  have HP := Lib.hid h
  have HA := Lib.hid ha
  clear h ha hx h0 n92'
  go_enter Tryz.func156, Tryz.ntmps156
  go_wp2_with (first | (go_at_call 130; refine (rune_is p s b g a v _ x t HP.out hs HA.out HX0.out).mono ?_; rintro e w1 ⟨rfl, a1, hat, hp1, hk1⟩; have HP1 := Lib.hid hp1; have HT1 := Lib.hid hat; have HK1 := Lib.hid hk1; clear hp1 hk1 hat) | (go_at_call 134; refine (crune_any in1T x false _ HXR.out.2 (by decide) (by decide) (by decide) HH.out).mono ?_; rintro e w3 ⟨rfl, hw3⟩; have HP3 := Lib.hid (HP1.out.below hw3); have HK3 := Lib.hid (HK1.out.below hw3); clear hw3) | (go_at_call 111; refine (single_any x _ HX0.out HXR.out.1).mono ?_; rintro e w4 ⟨q, c, rfl, hq, hpt, hw4⟩; have HQ := Lib.hid (rows_from hq HK3.out.size); have HPT := Lib.hid hpt; have HZ := Lib.hid (pz_later (pz_mk HP3.out HK3.out HT1.out) hw4); clear hq hpt hw4))
  go_ret
  exact .inl ⟨_, _, _, q, c, HM.out, rfl, HQ.out, HPT.out, HZ.out⟩
theorem member_any (p : Nat) (s : ByteArray) (b g : Int) (a : Nat) (v : Value) (w : World) (l : List Int) (h : PB w p s b a g v) (hs : s.size ≤ 200) (ha : Sx.At s l a) :
    Calls Tryz.prog 156 #[.pointer (some ⟨p, 0, none⟩)] w (ClsPost w p s b g v (Sx.member l)) := by
  cases l with
  | nil => exact mem_bad p s b g a v w [] h hs ha (fun x t e => by cases e)
  | cons x t =>
    by_cases h0 : x < 0
    · exact mem_bad p s b g a v w _ h hs ha (fun y u e => by simp only [List.cons.injEq] at e; omega)
    by_cases e : x = 92
    · subst e; exact mem_esc p s b g a v w t h hs ha
    by_cases hx : x = 93 ∨ x = 45 ∨ x = 94
    · exact mem_sp p s b g a v w x t h hs ha (by omega) (beq_eq_false_iff_ne.2 e) hx
    · exact mem_one p s b g a v w x t h hs ha (by omega) (beq_eq_false_iff_ne.2 e) hx
end Go.Proofs.YtdoapojmenojoaaGreatDoor
end

section
/- An item of a class. -/
set_option linter.unusedVariables false
namespace Go.Proofs.YtdoapojmenojoaaGreatDoor
open Go.RowKit
open Sx (Nd)

theorem oneB_eq (l : List Cl.Rg) : oneB l = Sx.oneP l := by
  match l with
  | [] => rfl
  | [_] => rfl
  | _ :: _ :: _ => rfl
theorem rows_kp {w w1 w2 : World} {p : Nat} {q : Option Addr} {c : List Cl.Rg} (h : RowS (New w w1) w1 q c) (hp : p < w.heap.size) (k : Kp (Own1 p) w1 w2) : RowS (New w w2) w2 q c := h.mono (fun b hb => ⟨⟨hb.1, Nat.lt_of_lt_of_le hb.2 k.size⟩, k.block b hb.2 (by have := hb.1; unfold Own1; omega)⟩)
theorem rows_drewN {S : Nat → Prop} {w : World} {q : Option Addr} {c : List Cl.Rg} (n : Nat) (h : RowS S w q c) : RowS S (w.drewN n) q c := h
theorem rows_p {w w' : World} {q : Option Addr} {c : List Cl.Rg} (h : RowS (New w w') w' q c) : RowP w' q c := h.is (fun b hb => hb.2)
theorem isone_q (q : Option Addr) (c : Nat) (l : List Cl.Rg) (w : World) (n : Nat) (h : RowP w q l) (r : Bool) (hr : Sx.oneP l = r) :
    Calls Tryz.prog 117 #[.slice q l.length c] (w.drewN n) fun e w' => e = .returned (.bool r) ∧ ∃ m, w' = w.drewN m :=
  Calls.quiet_of (isone_any q c l (w.drewN n) h r (by rw [oneB_eq]; exact hr))
def ItemSt (w : World) (p : Nat) (s : ByteArray) (b g : Int) (v : Value) (c d : List Cl.Rg) (t : List Int) (a : Nat) (q q2 : Option Addr) (w' : World) : Prop :=
  RowS (New w w') w' q c ∧ RowS (New w w') w' q2 d ∧ Pz w p s b a g v t w'
theorem pz_drewN {w w' : World} {p : Nat} {s : ByteArray} {b g : Int} {a : Nat} {v : Value} {t : List Int} (h : Pz w p s b a g v t w') (n : Nat) : Pz w p s b a g v t (w'.drewN n) := ⟨h.pb.drewN n, h.kp.drewN n, h.at'⟩
theorem one_cell {w w' : World} {q : Option Addr} {x : Int} (h : RowS (New w w') w' q [(x, x)]) : ∃ g off, q = some ⟨g, off, none⟩ ∧ w'.cell? ⟨g, off, none⟩ = some (.int .i32 x) ∧ g < w'.heap.size := by
  obtain ⟨g, off, rfl, hg, h2, _⟩ := h 0 _ rfl
  exact ⟨g, off, rfl, by simpa using h2, hg.2⟩
theorem isone_q1 (q : Option Addr) (c : Nat) (x : Int) (w : World) (n : Nat) (h : RowP w q [(x, x)]) :
    Calls Tryz.prog 117 #[.slice q 1 c] (w.drewN n) fun e w' => e = .returned (.bool true) ∧ ∃ m, w' = w.drewN m :=
  isone_q q c [(x, x)] w n h true (by simp [Sx.oneP])
set_option maxRecDepth 20000 in
set_option maxHeartbeats 4000000 in
theorem item_any (p : Nat) (s : ByteArray) (b g : Int) (a : Nat) (v : Value) (w : World) (l : List Int) (h : PB w p s b a g v) (hs : s.size ≤ 200) (ha : Sx.At s l a) :
    Calls Tryz.prog 135 #[.pointer (some ⟨p, 0, none⟩)] w (ClsPost w p s b g v (Sx.item l)) := by
  have hpl := h.lt
  have HP := Lib.hid h
  have HA := Lib.hid ha
  clear h ha
  go_enter Tryz.func135, Tryz.ntmps135
  go_wp2_with fail
  refine (member_any p s b g a v _ l HP.out hs HA.out).mono ?_
  rintro e w1 (⟨c, t, a1, q, cap, hm, rfl, hq, hpt, hz⟩ | ⟨hm, rfl, hk⟩)
  · have HM := Lib.hid hm
    have HQ := Lib.hid hq
    have HPT := Lib.hid hpt
    have HZ := Lib.hid hz
    have hcl := (Sx.member_nf hm HA.out.top).2.1
    clear hm hq hpt hz
    by_cases ht : ∃ t', t = 45 :: t'
    · obtain ⟨t', rfl⟩ := ht
      obtain ⟨hat, hnx⟩ := next_yes ⟨#[45]⟩ p s b g a1 v w1 t' HZ.out.pb hs (by decide) (by decide) HZ.out.at'
      have HN := Lib.hid hnx
      have HT := Lib.hid hat
      clear hnx hat
      go_wp2_with (go_at_call 100; refine HN.out.mono ?_; rintro e w2 ⟨rfl, hp2, hk2⟩; have HP2 := Lib.hid hp2; have HK2 := Lib.hid hk2; clear hp2 hk2)
      refine (member_any p s b g _ v _ t' HP2.out hs HT.out).mono ?_
      rintro e w3 (⟨d, t2, a3, q2, cap2, hm2, rfl, hq2, hpt2, hz2⟩ | ⟨hm2, rfl, hk2⟩)
      · have HM2 := Lib.hid hm2
        have hdl := (Sx.member_nf hm2 HT.out.top).2.1
        have n1 := (Sx.member_nf HM.out HA.out.top).1
        have n2 := (Sx.member_nf hm2 HT.out.top).1
        have hz3 := pz_from hz2 (HZ.out.kp.trans HK2.out)
        have hq3 := rows_kp (rows_kp HQ.out hpl HK2.out) hpl hz2.kp
        have hq4 := rows_from hq2 (Nat.le_trans HZ.out.kp.size HK2.out.size)
        have ST := Lib.hid (show ItemSt w p s b g v c d t2 a3 q q2 w3 from ⟨hq3, hq4, hz3⟩)
        have hie : (Sx.single c ∧ Sx.single d ∧ Sx.low c ≤ Sx.low d → Sx.item l = some ([(Sx.low c, Sx.low d)], t2)) ∧ (¬ (Sx.single c ∧ Sx.single d ∧ Sx.low c ≤ Sx.low d) → Sx.item l = none) := by
          constructor
          · intro hh; unfold Sx.item; rw [HM.out]; simp only; rw [HM2.out]; simp only; rw [if_pos hh]
          · intro hh; unfold Sx.item; rw [HM.out]; simp only; rw [HM2.out]; simp only; rw [if_neg hh]
        have HIE := Lib.hid hie
        have HB2 := Lib.hid n2
        have HB1 := Lib.hid n1
        clear hm2 hq2 hpt2 hz2 hz3 hq3 hq4 HZ HQ HK2 HP2 hie n1 n2 HN HT HA HP HM HM2 hcl hdl
        by_cases o1 : Sx.oneP c = true
        · by_cases o2 : Sx.oneP d = true
          · obtain ⟨x, rfl⟩ : ∃ x, c = [(x, x)] := ⟨_, Sx.one_low o1⟩
            obtain ⟨y, rfl⟩ : ∃ y, d = [(y, y)] := ⟨_, Sx.one_low o2⟩
            obtain ⟨g1, f1, rfl, c1, hg1⟩ := one_cell ST.out.1
            obtain ⟨g2, f2, rfl, c2, hg2⟩ := one_cell ST.out.2.1
            have hone : (0 : Int) < ((1 : Nat) : Int) := by decide
            clear o1 o2
            by_cases hlt : y < x
            · have d1 : decide (y < x) = true := decide_eq_true hlt
              go_wp2_with fail
              go_quiet (first | ((go_at_call 117; refine isone_q1 _ _ x _ _ (rows_p ST.out.1))) | ((go_at_call 117; refine isone_q1 _ _ y _ _ (rows_p ST.out.2.1))))
              go_wp2_with (go_at_call 71; refine (wrong_any p s b a3 g v _ (ST.out.2.2.pb.drewN _)).mono ?_; rintro e w4 ⟨rfl, rfl⟩; unfold pan)
              refine ⟨rfl, .inr ⟨HIE.out.2 (fun hh => by have := hh.2.2; simp only [Sx.low] at this; omega), rfl, (pz_drewN ST.out.2.2 _).kp⟩⟩
            · have d1 : decide (y < x) = false := decide_eq_false hlt
              go_wp2_with fail
              go_quiet (first | ((go_at_call 117; refine isone_q1 _ _ x _ _ (rows_p ST.out.1))) | ((go_at_call 117; refine isone_q1 _ _ y _ _ (rows_p ST.out.2.1))))
              go_wp2_with fail
              have S2 := Lib.hid (show ItemSt w p s b g v [(x, x)] [(y, y)] t2 a3 (some ⟨g1, f1, none⟩) (some ⟨g2, f2, none⟩) (w3.drewN nq) from ⟨rows_drewN nq ST.out.1, rows_drewN nq ST.out.2.1, pz_drewN ST.out.2.2 nq⟩)
              have k1 : (w3.drewN nq).cell? ⟨g1, f1, none⟩ = some (.int .i32 x) := c1
              have k2 : (w3.drewN nq).cell? ⟨g2, f2, none⟩ = some (.int .i32 y) := c2
              have hg1' : g1 < (w3.drewN nq).heap.size := hg1
              have hg2' : g2 < (w3.drewN nq).heap.size := hg2
              clear ST c1 c2 hg1 hg2 d1
              generalize w3.drewN nq = wq at S2 k1 k2 hg1' hg2' ⊢
              have m1 := HB1.out.2 (x, x) (by simp)
              have m2 := HB2.out.2 (y, y) (by simp)
              unfold Cl.may at m1 m2
              simp only at m1 m2
              have HO := Lib.hid (Cl.of_one (show Cl.may (x, y) from ⟨m1.1, m2.2.1, by omega⟩))
              clear m1 m2
              go_still_tail 9, (by kernel_rfl)
              change wpList _ _ _ _ _ wq.drew
              have S3 := Lib.hid (show ItemSt w p s b g v [(x, x)] [(y, y)] t2 a3 (some ⟨g1, f1, none⟩) (some ⟨g2, f2, none⟩) wq.drew from ⟨rows_drewN 1 S2.out.1, rows_drewN 1 S2.out.2.1, pz_drewN S2.out.2.2 1⟩)
              clear S2 k1 k2 hg1' hg2'
              generalize wq.drew = wd at S3 ⊢
              go_wp2_with (go_at_call 116; refine (of_any (some ⟨wd.heap.size, 0, none⟩) 1 [(x, y)] _ (lv_new wd _ _ 1 _ rfl).1 (by simp)).mono ?_; rintro e w5 hmk; rw [HO.out] at hmk; obtain ⟨q5, cp5, rfl, hq5, hpt5, hw5⟩ := cls_from (mk_cls hmk) (below_new wd _); have HQ5 := Lib.hid (rows_from hq5 S3.out.2.2.kp.size); have HPT5 := Lib.hid hpt5; have HZ5 := Lib.hid (pz_later S3.out.2.2 hw5); clear hmk hq5 hpt5 hw5)
              go_ret
              exact .inl ⟨[(x, y)], t2, a3, q5, cp5, HIE.out.1 ⟨(Sx.one_single HB1.out).1 (by simp [Sx.oneP]), (Sx.one_single HB2.out).1 (by simp [Sx.oneP]), by simp only [Sx.low]; omega⟩, rfl, HQ5.out, HPT5.out, HZ5.out⟩
          · have HO2 := Lib.hid (show Sx.oneP d = false by simpa using o2)
            have HO1 := Lib.hid o1
            have HNO := Lib.hid (show Sx.item l = none from HIE.out.2 (fun hh => o2 ((Sx.one_single HB2.out).2 hh.2.1)))
            have R1 := Lib.hid (fun n => isone_q q cap c w3 n (rows_p ST.out.1) true HO1.out)
            have R2 := Lib.hid (fun n => isone_q q2 cap2 d w3 n (rows_p ST.out.2.1) false HO2.out)
            clear o1 o2
            go_wp2_with fail
            go_quiet (first | ((go_at_call 117; with_reducible exact R1.out _)) | ((go_at_call 117; with_reducible exact R2.out _)))
            go_wp2_with (go_at_call 71; refine (wrong_any p s b a3 g v _ (ST.out.2.2.pb.drewN _)).mono ?_; rintro e w4 ⟨rfl, rfl⟩; unfold pan)
            refine ⟨rfl, .inr ⟨HNO.out, rfl, (pz_drewN ST.out.2.2 _).kp⟩⟩
        · have HO1 := Lib.hid (show Sx.oneP c = false by simpa using o1)
          have HNO := Lib.hid (show Sx.item l = none from HIE.out.2 (fun hh => o1 ((Sx.one_single HB1.out).2 hh.1)))
          have R1 := Lib.hid (fun n => isone_q q cap c w3 n (rows_p ST.out.1) false HO1.out)
          clear o1
          go_wp2_with fail
          go_quiet (first | ((go_at_call 117; with_reducible exact R1.out _)))
          go_wp2_with (go_at_call 71; refine (wrong_any p s b a3 g v _ (ST.out.2.2.pb.drewN _)).mono ?_; rintro e w4 ⟨rfl, rfl⟩; unfold pan)
          refine ⟨rfl, .inr ⟨HNO.out, rfl, (pz_drewN ST.out.2.2 _).kp⟩⟩
      · have HNO := Lib.hid (show Sx.item l = none by unfold Sx.item; rw [HM.out]; simp only; rw [hm2])
        clear hm2
        unfold pan
        go_wp2_with fail
        exact ⟨rfl, .inr ⟨HNO.out, rfl, (HZ.out.kp.trans HK2.out).trans hk2⟩⟩
    · have hnx := next_no ⟨#[45]⟩ p s b g a1 v w1 t HZ.out.pb hs (by decide) (by decide) HZ.out.at' (fun u hu => ht ⟨u, hu⟩)
      have HN := Lib.hid hnx
      have HI := Lib.hid (show Sx.item l = some (c, t) by
        unfold Sx.item; rw [HM.out]; simp only
        split
        · exact absurd ⟨_, rfl⟩ ht
        · rfl)
      clear hnx ht
      go_wp2_with (go_at_call 100; refine HN.out.mono ?_; rintro e w2 ⟨rfl, hp2, hk2⟩; have HP2 := Lib.hid hp2; have HK2 := Lib.hid hk2; clear hp2 hk2)
      go_ret
      exact .inl ⟨c, t, a1, q, cap, HI.out, rfl, rows_kp HQ.out hpl HK2.out, HPT.out, HP2.out, HZ.out.kp.trans HK2.out, HZ.out.at'⟩
  · have HNO := Lib.hid (show Sx.item l = none by unfold Sx.item; rw [hm])
    clear hm
    unfold pan
    go_wp2_with fail
    exact ⟨rfl, .inr ⟨HNO.out, rfl, hk⟩⟩
end Go.Proofs.YtdoapojmenojoaaGreatDoor
end
