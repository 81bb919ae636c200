import Derived.Test.YtdoapojmenojoaaGreatDoorJPMem
import Derived.Test.YtdoapojmenojoaaGreatDoorJSynM11
import Derived.Test.YtdoapojmenojoaaGreatDoorJSynM10
set_option linter.unusedSimpArgs false
set_option linter.unusedVariables false
section
/- A class, up to the bracket that ends it. -/
set_option linter.unusedVariables false
namespace Go.Proofs.YtdoapojmenojoaaGreatDoor
open Go.RowKit
open Sx (Nd)

theorem nf_rin' {l : List Cl.Rg} (h : Cl.NF l) : RIn l := fun k r hr => by
  have := h.2 r (List.mem_of_getElem? hr)
  unfold Cl.may at this
  omega
theorem nf_rt {l : List Cl.Rg} (h : Cl.NF l) : Rt l (decide (l.length ≤ 64)) := by
  unfold Rt
  rw [decide_eq_true_eq]
  refine ⟨fun hl => ⟨hl, fun j hj r hr => ⟨h.2 r (List.mem_of_getElem? hr), fun i s hi hs => ?_⟩⟩, fun hr => hr.1⟩
  subst hi
  have h1 := (List.pairwise_iff_getElem.1 h.1) i (i + 1) (List.getElem?_eq_some_iff.1 hs).1 (List.getElem?_eq_some_iff.1 hr).1 (by omega)
  rw [(List.getElem?_eq_some_iff.1 hs).2, (List.getElem?_eq_some_iff.1 hr).2] at h1
  exact h1
theorem Sx.At.lt {s : ByteArray} {t t2 : List Int} {a a2 : Nat} (h : Sx.At s t a) (h2 : Sx.At s t2 a2) (hl : t2.length < t.length) : a < a2 := by
  obtain ⟨k, hk, rfl, rfl⟩ := h
  obtain ⟨k2, hk2, rfl, rfl⟩ := h2
  rw [List.length_drop, List.length_drop, Sx.toks_len] at hl
  have h1 := Rn.pos_mono s k (k2 - k)
  rw [show k + (k2 - k) = k2 by omega] at h1
  have h2 : Rn.pos s k ≠ Rn.pos s k2 := fun e => by have := Rn.pos_inj (by omega) hk2 e; omega
  omega
def restI (f : Nat) (t : List Int) (acc : List Cl.Rg) : Option (List Cl.Rg × List Int) := match t with
  | 93 :: t' => some (acc, t')
  | _ => Sx.items f t acc
theorem restI_no {f : Nat} {t : List Int} {acc : List Cl.Rg} (h : ∀ u, t ≠ 93 :: u) : restI f t acc = Sx.items f t acc := by
  unfold restI
  split
  · exact absurd rfl (h _)
  · rfl
theorem items_step {f : Nat} {l t : List Int} {acc x : List Cl.Rg} (h : Sx.item l = some (x, t)) : Sx.items (f + 1) l acc = restI f t (Cl.of (acc ++ x)) := by
  unfold Sx.items restI
  rw [h]
  rfl
theorem items_none {f : Nat} {l : List Int} {acc : List Cl.Rg} (h : Sx.item l = none) : Sx.items (f + 1) l acc = none := by
  unfold Sx.items
  rw [h]
theorem nots_len (l : List Cl.Rg) : (Cl.nots l).length ≤ l.length + 1 := by
  have hn : ∀ (l : List Cl.Rg) (low : Int), (Cl.notL low l).length ≤ l.length + 1 := by
    intro l
    induction l with
    | nil => intro low; unfold Cl.notL; split <;> simp
    | cons r t ih => intro low; unfold Cl.notL; have := ih (r.2 + 1); simp only [List.length_append, List.length_cons]; split <;> simp <;> omega
  have := hn (Cl.of l) 0
  have := Cl.of_len l
  show (Cl.notL 0 (Cl.of l)).length ≤ _
  omega
theorem clsEnd_ok {b : Bool} {c c2 : List Cl.Rg} {t : List Int} (h2 : (if b then Cl.nots c else c) = c2) (h : (!c2.isEmpty && decide (c2.length ≤ 64)) = true) : Sx.clsEnd b (some (c, t)) = some (c2, t) := by
  unfold Sx.clsEnd
  simp only
  rw [h2]
  rw [Bool.and_eq_true, decide_eq_true_eq] at h
  rw [if_neg]
  rintro (e | e)
  · rw [e] at h; simp at h
  · omega
theorem clsEnd_no {b : Bool} {c c2 : List Cl.Rg} {t : List Int} (h2 : (if b then Cl.nots c else c) = c2) (h : (!c2.isEmpty && decide (c2.length ≤ 64)) = false) : Sx.clsEnd b (some (c, t)) = none := by
  unfold Sx.clsEnd
  simp only
  rw [h2, if_pos]
  by_cases e : c2 = []
  · exact .inl e
  · right
    have : c2.isEmpty = false := by cases c2 with | nil => exact absurd rfl e | cons x t => rfl
    rw [this] at h
    simp at h
    exact h
/- what holds at the loop's head -/
def CL (w : World) (p : Nat) (s : ByteArray) (b g : Int) (v : Value) (r : Option (List Cl.Rg × List Int)) (told : Value) (wr : World) : Prop :=
  ∃ acc t a q cap f, told = .slice q acc.length cap ∧ RowS (New w wr) wr q acc ∧ Ptr q cap ∧ Pz w p s b a g v t wr ∧ Cl.NF acc ∧ acc.length + 64 * t.length ≤ 13000 ∧ t.length < f ∧ r = restI f t acc
set_option maxRecDepth 20000 in
set_option maxHeartbeats 4000000 in
theorem pclass_not (p : Nat) (s : ByteArray) (b g : Int) (a : Nat) (v : Value) (w : World) (l : List Int) (h : PB w p s b a g v) (hs : s.size ≤ 200) (ha : Sx.At s (94 :: l) a) :
    Calls Tryz.prog 110 #[.pointer (some ⟨p, 0, none⟩)] w (ClsPost w p s b g v (Sx.clsEnd true (Sx.items (l.length + 1) l []))) := by
  have hpl := h.lt
  obtain ⟨hat, hnx⟩ := next_yes ⟨#[94]⟩ p s b g a v w l h hs (by decide) (by decide) ha
  have HN := Lib.hid hnx
  have HT := Lib.hid hat
  clear hnx hat
  have hll := HT.out.len
  have hcn := Rn.cnt_le s
  clear h ha
  go_enter Tryz.func110, Tryz.ntmps110
  go_wp2_with (go_at_call 100; refine HN.out.mono ?_; rintro e w1 ⟨rfl, hp1, hk1⟩; have HP1 := Lib.hid hp1; have HK1 := Lib.hid hk1; clear hp1 hk1)
  refine (item_any p s b g _ v _ l HP1.out hs HT.out).mono ?_
  rintro e w2 (⟨x, t, a2, q, cap, hi, rfl, hq, hpt, hz⟩ | ⟨hi, rfl, hk2⟩)
  rotate_left
  · have HNO := Lib.hid (items_none (f := l.length) (acc := []) hi)
    clear hi
    unfold pan
    go_wp2_with fail
    exact ⟨rfl, .inr ⟨by rw [HNO.out]; rfl, rfl, HK1.out.trans hk2⟩⟩
  have hnf := Sx.item_nf hi HT.out.top
  have hlen := Sx.item_len hi
  obtain ⟨r, hr⟩ : ∃ r, r = Sx.items (l.length + 1) l [] := ⟨_, rfl⟩
  rw [← hr]
  have HI := Lib.hid (show CL w p s b g v r (.slice q x.length cap) w2 from ⟨x, t, a2, q, cap, l.length, rfl, rows_from hq HK1.out.size, hpt, pz_from hz HK1.out, hnf.1, by omega, hlen, by rw [hr, items_step hi, List.nil_append, Cl.of_of hnf.1]⟩)
  have HR0 := Lib.hid hr
  clear hi hq hpt hz hnf hlen hr HP1 HK1 HN HT hll hcn
  go_wp2_with fail
  go_loopw [4] (fun told wr => CL w p s b g v r told wr) (fun _ wr => intOf ((wr.cell? ⟨p, 2, none⟩).getD .nilIface) |> fun k => s.size - k.toNat)
  case atStart => exact HI.out
  case round =>
    clear HI
    obtain ⟨acc, t, a, q, cap, f, rfl, hq, hpt, hz, hnf, hln, hf, hr⟩ := hrel
    have HQ := Lib.hid hq
    have HPT := Lib.hid hpt
    have HZ := Lib.hid hz
    have HNF := Lib.hid hnf
    have HR := Lib.hid hr
    clear hq hpt hz hnf hr
    by_cases ht : ∃ t', t = 93 :: t'
    · obtain ⟨t', rfl⟩ := ht
      obtain ⟨hat, hnx⟩ := next_yes ⟨#[93]⟩ p s b g a v wr t' HZ.out.pb hs (by decide) (by decide) HZ.out.at'
      have HN := Lib.hid hnx
      have HT := Lib.hid hat
      clear hnx hat
      have hnl := nots_len acc
      have HNF2 := Lib.hid (Cl.nots_spec acc).1
      obtain ⟨rr, hrr⟩ : ∃ rr, (!(Cl.nots acc).isEmpty && decide ((Cl.nots acc).length ≤ 64)) = rr := ⟨_, rfl⟩
      have HRR := Lib.hid hrr
      have HRI := Lib.hid (show r = some (acc, t') from HR.out)
      clear hrr HR
      cases rr with
      | true =>
        go_wp2_with (first | (go_at_call 100; refine HN.out.mono ?_; rintro e w5 ⟨rfl, hp5, hk5⟩; have HP5 := Lib.hid hp5; have HK5 := Lib.hid hk5; have HQ5 := Lib.hid (rows_kp HQ.out hpl hk5); have HZ5 := Lib.hid (pz_mk hp5 (HZ.out.kp.trans hk5) HT.out); clear hp5 hk5) | (go_at_call 81; refine (not_any q cap acc _ (rows_p HQ5.out) (by omega)).mono ?_; rintro e w6 hmk; obtain ⟨q6, cp6, rfl, hq6, hpt6, hw6⟩ := mk_cls hmk; have HQ6 := Lib.hid (rows_from hq6 HZ5.out.kp.size); have HPT6 := Lib.hid hpt6; have HZ6 := Lib.hid (pz_later HZ5.out hw6); clear hmk hq6 hpt6 hw6) | (go_at_call 93; refine (smay_any q6 cp6 (Cl.nots acc) _ (rows_p HQ6.out) (nf_rin' HNF2.out) (by omega) true _ (nf_rt HNF2.out) HRR.out).mono ?_; rintro e w9 ⟨rfl, hw9⟩; have HQ9 := Lib.hid (rows_later HQ6.out hw9); have HZ9 := Lib.hid (pz_later HZ6.out hw9); clear hw9) | (go_at_call 71; refine (wrong_any p s b _ g v _ HZ9.out.pb).mono ?_; rintro e w10 ⟨rfl, rfl⟩; unfold pan))
        go_ret
        exact .inl ⟨(Cl.nots acc), t', _, q6, cp6, by rw [← HR0.out, HRI.out]; exact clsEnd_ok rfl HRR.out, rfl, HQ9.out, HPT6.out, HZ9.out⟩
      | false =>
        go_wp2_with (first | (go_at_call 100; refine HN.out.mono ?_; rintro e w5 ⟨rfl, hp5, hk5⟩; have HP5 := Lib.hid hp5; have HK5 := Lib.hid hk5; have HQ5 := Lib.hid (rows_kp HQ.out hpl hk5); have HZ5 := Lib.hid (pz_mk hp5 (HZ.out.kp.trans hk5) HT.out); clear hp5 hk5) | (go_at_call 81; refine (not_any q cap acc _ (rows_p HQ5.out) (by omega)).mono ?_; rintro e w6 hmk; obtain ⟨q6, cp6, rfl, hq6, hpt6, hw6⟩ := mk_cls hmk; have HQ6 := Lib.hid (rows_from hq6 HZ5.out.kp.size); have HPT6 := Lib.hid hpt6; have HZ6 := Lib.hid (pz_later HZ5.out hw6); clear hmk hq6 hpt6 hw6) | (go_at_call 93; refine (smay_any q6 cp6 (Cl.nots acc) _ (rows_p HQ6.out) (nf_rin' HNF2.out) (by omega) false _ (nf_rt HNF2.out) HRR.out).mono ?_; rintro e w9 ⟨rfl, hw9⟩; have HQ9 := Lib.hid (rows_later HQ6.out hw9); have HZ9 := Lib.hid (pz_later HZ6.out hw9); clear hw9) | (go_at_call 71; refine (wrong_any p s b _ g v _ HZ9.out.pb).mono ?_; rintro e w10 ⟨rfl, rfl⟩; unfold pan))
        exact ⟨rfl, .inr ⟨by rw [← HR0.out, HRI.out]; exact clsEnd_no rfl HRR.out, rfl, HZ9.out.kp⟩⟩
    · have hno : ∀ u, t ≠ 93 :: u := fun u hu => ht ⟨u, hu⟩
      have hnx := next_no ⟨#[93]⟩ p s b g a v wr t HZ.out.pb hs (by decide) (by decide) HZ.out.at' hno
      have HN := Lib.hid hnx
      have HRI := Lib.hid (HR.out.trans (restI_no hno))
      clear hnx ht hno HR
      obtain ⟨f', rfl⟩ : ∃ f', f = f' + 1 := ⟨f - 1, by omega⟩
      go_wp2_with (go_at_call 100; refine HN.out.mono ?_; rintro e w5 ⟨rfl, hp5, hk5⟩; have HP5 := Lib.hid hp5; have HK5 := Lib.hid hk5; clear hp5 hk5)
      refine (item_any p s b g a v _ t HP5.out hs HZ.out.at').mono ?_
      rintro e w6 (⟨x, t2, a2, q6, cap6, hi, rfl, hq6, hpt6, hz6⟩ | ⟨hi, rfl, hk6⟩)
      rotate_left
      · have HNO := Lib.hid (HRI.out.trans (items_none hi))
        clear hi
        unfold pan
        go_wp2_with fail
        exact ⟨rfl, .inr ⟨by rw [← HR0.out, HNO.out]; rfl, rfl, (HZ.out.kp.trans HK5.out).trans hk6⟩⟩
      have hnf6 := Sx.item_nf hi HZ.out.at'.top
      have hlen := Sx.item_len hi
      have HU := Lib.hid (HRI.out.trans (items_step hi))
      have HQ6 := Lib.hid (rows_kp (rows_kp HQ.out hpl HK5.out) hpl hz6.kp)
      have HX6 := Lib.hid (rows_from hq6 (Nat.le_trans HZ.out.kp.size HK5.out.size))
      have HPX := Lib.hid hpt6
      have HZ6 := Lib.hid (pz_from hz6 (HZ.out.kp.trans HK5.out))
      have hol := Cl.of_len (acc ++ x)
      rw [List.length_append] at hol
      have hx64 := hnf6.2.1
      have HOL := Lib.hid hol
      have HMM := Lib.hid (show a < a2 from Sx.At.lt HZ.out.at' hz6.at' hlen)
      clear hi hq6 hpt6 hz6 hnf6 HRI hol
      go_wp2_with (go_at_call 136; refine (union_any q q6 cap cap6 acc x _ (rows_p HQ6.out) HPT.out (rows_p HX6.out) HPX.out (by omega) (by omega)).mono ?_; rintro e w7 hmk; obtain ⟨q7, cp7, rfl, hq7, hpt7, hw7⟩ := mk_cls hmk; have HQ7 := Lib.hid (rows_from hq7 HZ6.out.kp.size); have HPT7 := Lib.hid hpt7; have HZ7 := Lib.hid (pz_later HZ6.out hw7); clear hmk hq7 hpt7 hw7)
      go_roundw
      case rel => exact ⟨Cl.of (acc ++ x), t2, a2, q7, cp7, f', rfl, HQ7.out, HPT7.out, HZ7.out, Cl.of_nf _, by have := HOL.out; omega, by omega, HU.out⟩
      case measure =>
        rw [HZ7.out.pb.c2, HZ.out.pb.c2]
        have h1 := HMM.out
        have h2 := HZ7.out.at'.le
        simp [intOf]
        omega
set_option maxRecDepth 20000 in
set_option maxHeartbeats 4000000 in
theorem pclass_yes (p : Nat) (s : ByteArray) (b g : Int) (a : Nat) (v : Value) (w : World) (l : List Int) (h : PB w p s b a g v) (hs : s.size ≤ 200) (ha : Sx.At s l a) (hno : ∀ u, l ≠ 94 :: u) :
    Calls Tryz.prog 110 #[.pointer (some ⟨p, 0, none⟩)] w (ClsPost w p s b g v (Sx.clsEnd false (Sx.items (l.length + 1) l []))) := by
  have hpl := h.lt
  have hnx := next_no ⟨#[94]⟩ p s b g a v w l h hs (by decide) (by decide) ha (fun u hu => hno u hu)
  have HN := Lib.hid hnx
  have HT := Lib.hid ha
  clear hnx hno
  have hll := HT.out.len
  have hcn := Rn.cnt_le s
  clear h ha
  go_enter Tryz.func110, Tryz.ntmps110
  go_wp2_with (go_at_call 100; refine HN.out.mono ?_; rintro e w1 ⟨rfl, hp1, hk1⟩; have HP1 := Lib.hid hp1; have HK1 := Lib.hid hk1; clear hp1 hk1)
  refine (item_any p s b g _ v _ l HP1.out hs HT.out).mono ?_
  rintro e w2 (⟨x, t, a2, q, cap, hi, rfl, hq, hpt, hz⟩ | ⟨hi, rfl, hk2⟩)
  rotate_left
  · have HNO := Lib.hid (items_none (f := l.length) (acc := []) hi)
    clear hi
    unfold pan
    go_wp2_with fail
    exact ⟨rfl, .inr ⟨by rw [HNO.out]; rfl, rfl, HK1.out.trans hk2⟩⟩
  have hnf := Sx.item_nf hi HT.out.top
  have hlen := Sx.item_len hi
  obtain ⟨r, hr⟩ : ∃ r, r = Sx.items (l.length + 1) l [] := ⟨_, rfl⟩
  rw [← hr]
  have HI := Lib.hid (show CL w p s b g v r (.slice q x.length cap) w2 from ⟨x, t, a2, q, cap, l.length, rfl, rows_from hq HK1.out.size, hpt, pz_from hz HK1.out, hnf.1, by omega, hlen, by rw [hr, items_step hi, List.nil_append, Cl.of_of hnf.1]⟩)
  have HR0 := Lib.hid hr
  clear hi hq hpt hz hnf hlen hr HP1 HK1 HN HT hll hcn
  go_wp2_with fail
  go_loopw [4] (fun told wr => CL w p s b g v r told wr) (fun _ wr => intOf ((wr.cell? ⟨p, 2, none⟩).getD .nilIface) |> fun k => s.size - k.toNat)
  case atStart => exact HI.out
  case round =>
    clear HI
    obtain ⟨acc, t, a, q, cap, f, rfl, hq, hpt, hz, hnf, hln, hf, hr⟩ := hrel
    have HQ := Lib.hid hq
    have HPT := Lib.hid hpt
    have HZ := Lib.hid hz
    have HNF := Lib.hid hnf
    have HR := Lib.hid hr
    clear hq hpt hz hnf hr
    by_cases ht : ∃ t', t = 93 :: t'
    · obtain ⟨t', rfl⟩ := ht
      obtain ⟨hat, hnx⟩ := next_yes ⟨#[93]⟩ p s b g a v wr t' HZ.out.pb hs (by decide) (by decide) HZ.out.at'
      have HN := Lib.hid hnx
      have HT := Lib.hid hat
      clear hnx hat
      obtain ⟨rr, hrr⟩ : ∃ rr, (!acc.isEmpty && decide (acc.length ≤ 64)) = rr := ⟨_, rfl⟩
      have HRR := Lib.hid hrr
      have HRI := Lib.hid (show r = some (acc, t') from HR.out)
      clear hrr HR
      cases rr with
      | true =>
        go_wp2_with (first | (go_at_call 100; refine HN.out.mono ?_; rintro e w5 ⟨rfl, hp5, hk5⟩; have HP5 := Lib.hid hp5; have HK5 := Lib.hid hk5; have HQ5 := Lib.hid (rows_kp HQ.out hpl hk5); have HZ5 := Lib.hid (pz_mk hp5 (HZ.out.kp.trans hk5) HT.out); clear hp5 hk5) | (go_at_call 93; refine (smay_any q cap acc _ (rows_p HQ5.out) (nf_rin' HNF.out) (by omega) true _ (nf_rt HNF.out) HRR.out).mono ?_; rintro e w9 ⟨rfl, hw9⟩; have HQ9 := Lib.hid (rows_later HQ5.out hw9); have HZ9 := Lib.hid (pz_later HZ5.out hw9); clear hw9) | (go_at_call 71; refine (wrong_any p s b _ g v _ HZ9.out.pb).mono ?_; rintro e w10 ⟨rfl, rfl⟩; unfold pan))
        go_ret
        exact .inl ⟨acc, t', _, q, cap, by rw [← HR0.out, HRI.out]; exact clsEnd_ok rfl HRR.out, rfl, HQ9.out, HPT.out, HZ9.out⟩
      | false =>
        go_wp2_with (first | (go_at_call 100; refine HN.out.mono ?_; rintro e w5 ⟨rfl, hp5, hk5⟩; have HP5 := Lib.hid hp5; have HK5 := Lib.hid hk5; have HQ5 := Lib.hid (rows_kp HQ.out hpl hk5); have HZ5 := Lib.hid (pz_mk hp5 (HZ.out.kp.trans hk5) HT.out); clear hp5 hk5) | (go_at_call 93; refine (smay_any q cap acc _ (rows_p HQ5.out) (nf_rin' HNF.out) (by omega) false _ (nf_rt HNF.out) HRR.out).mono ?_; rintro e w9 ⟨rfl, hw9⟩; have HQ9 := Lib.hid (rows_later HQ5.out hw9); have HZ9 := Lib.hid (pz_later HZ5.out hw9); clear hw9) | (go_at_call 71; refine (wrong_any p s b _ g v _ HZ9.out.pb).mono ?_; rintro e w10 ⟨rfl, rfl⟩; unfold pan))
        exact ⟨rfl, .inr ⟨by rw [← HR0.out, HRI.out]; exact clsEnd_no rfl HRR.out, rfl, HZ9.out.kp⟩⟩
    · have hno : ∀ u, t ≠ 93 :: u := fun u hu => ht ⟨u, hu⟩
      have hnx := next_no ⟨#[93]⟩ p s b g a v wr t HZ.out.pb hs (by decide) (by decide) HZ.out.at' hno
      have HN := Lib.hid hnx
      have HRI := Lib.hid (HR.out.trans (restI_no hno))
      clear hnx ht hno HR
      obtain ⟨f', rfl⟩ : ∃ f', f = f' + 1 := ⟨f - 1, by omega⟩
      go_wp2_with (go_at_call 100; refine HN.out.mono ?_; rintro e w5 ⟨rfl, hp5, hk5⟩; have HP5 := Lib.hid hp5; have HK5 := Lib.hid hk5; clear hp5 hk5)
      refine (item_any p s b g a v _ t HP5.out hs HZ.out.at').mono ?_
      rintro e w6 (⟨x, t2, a2, q6, cap6, hi, rfl, hq6, hpt6, hz6⟩ | ⟨hi, rfl, hk6⟩)
      rotate_left
      · have HNO := Lib.hid (HRI.out.trans (items_none hi))
        clear hi
        unfold pan
        go_wp2_with fail
        exact ⟨rfl, .inr ⟨by rw [← HR0.out, HNO.out]; rfl, rfl, (HZ.out.kp.trans HK5.out).trans hk6⟩⟩
      have hnf6 := Sx.item_nf hi HZ.out.at'.top
      have hlen := Sx.item_len hi
      have HU := Lib.hid (HRI.out.trans (items_step hi))
      have HQ6 := Lib.hid (rows_kp (rows_kp HQ.out hpl HK5.out) hpl hz6.kp)
      have HX6 := Lib.hid (rows_from hq6 (Nat.le_trans HZ.out.kp.size HK5.out.size))
      have HPX := Lib.hid hpt6
      have HZ6 := Lib.hid (pz_from hz6 (HZ.out.kp.trans HK5.out))
      have hol := Cl.of_len (acc ++ x)
      rw [List.length_append] at hol
      have hx64 := hnf6.2.1
      have HOL := Lib.hid hol
      have HMM := Lib.hid (show a < a2 from Sx.At.lt HZ.out.at' hz6.at' hlen)
      clear hi hq6 hpt6 hz6 hnf6 HRI hol
      go_wp2_with (go_at_call 136; refine (union_any q q6 cap cap6 acc x _ (rows_p HQ6.out) HPT.out (rows_p HX6.out) HPX.out (by omega) (by omega)).mono ?_; rintro e w7 hmk; obtain ⟨q7, cp7, rfl, hq7, hpt7, hw7⟩ := mk_cls hmk; have HQ7 := Lib.hid (rows_from hq7 HZ6.out.kp.size); have HPT7 := Lib.hid hpt7; have HZ7 := Lib.hid (pz_later HZ6.out hw7); clear hmk hq7 hpt7 hw7)
      go_roundw
      case rel => exact ⟨Cl.of (acc ++ x), t2, a2, q7, cp7, f', rfl, HQ7.out, HPT7.out, HZ7.out, Cl.of_nf _, by have := HOL.out; omega, by omega, HU.out⟩
      case measure =>
        rw [HZ7.out.pb.c2, HZ.out.pb.c2]
        have h1 := HMM.out
        have h2 := HZ7.out.at'.le
        simp [intOf]
        omega
theorem pclass_any (p : Nat) (s : ByteArray) (b g : Int) (a : Nat) (v : Value) (w : World) (l : List Int) (h : PB w p s b a g v) (hs : s.size ≤ 200) (ha : Sx.At s l a) :
    Calls Tryz.prog 110 #[.pointer (some ⟨p, 0, none⟩)] w (ClsPost w p s b g v (Sx.cls l)) := by
  by_cases hc : ∃ u, l = 94 :: u
  · obtain ⟨u, rfl⟩ := hc
    exact pclass_not p s b g a v w u h hs ha
  · have e : Sx.cls l = Sx.clsEnd false (Sx.items (l.length + 1) l []) := by
      unfold Sx.cls
      split
      · exact absurd ⟨_, rfl⟩ hc
      · rfl
    rw [e]
    exact pclass_yes p s b g a v w l h hs ha (fun u hu => hc ⟨u, hu⟩)
end Go.Proofs.YtdoapojmenojoaaGreatDoor
end

section
/- A number that tells how often. -/
set_option linter.unusedVariables false
namespace Go.Proofs.YtdoapojmenojoaaGreatDoor
open Go.RowKit
open Sx (Nd)

/- the errors that the library tells stand as laid, below B -/
def Errs (B : Nat) (w : World) : Prop := (∃ ev, w.cell? ⟨2, 0, none⟩ = some ev ∧ (ev = .nilIface ∨ ∃ te pe, ev = .iface te pe)) ∧ (∃ ev, w.cell? ⟨3, 0, none⟩ = some ev ∧ (ev = .nilIface ∨ ∃ te pe, ev = .iface te pe)) ∧ 2 < B ∧ 3 < B
theorem Errs.below {B : Nat} {w w' : World} (h : Errs B w) (hb : Below B w w') : Errs B w' := by
  obtain ⟨⟨e1, h1, h2⟩, ⟨e2, h3, h4⟩, h5, h6⟩ := h
  exact ⟨⟨e1, (hb.cell (p := ⟨_, 0, none⟩) h5).trans h1, h2⟩, ⟨e2, (hb.cell (p := ⟨_, 0, none⟩) h6).trans h3, h4⟩, h5, h6⟩
theorem Errs.kp {B p : Nat} {w w' : World} (h : Errs B w) (k : Kp (Own1 p) w w') (hp : B ≤ p) (hs : B ≤ w.heap.size) : Errs B w' := h.below (k.to hs (fun i hi e => by unfold Own1 at e; omega))
abbrev digT : ByteArray := ⟨#[48, 49, 50, 51, 52, 53, 54, 55, 56, 57]⟩
theorem digT_iff (c : UInt8) : digT.data.toList.contains c = decide (Sx.Dig c) := by
  have : ∀ n : Fin 256, digT.data.toList.contains (UInt8.ofNat n.val) = decide (Sx.Dig (UInt8.ofNat n.val)) := by decide +kernel
  have h := this ⟨c.toNat, c.toNat_lt⟩
  simpa using h
theorem trim_digits {D B : List UInt8} (h : ∀ c ∈ D, Sx.Dig c) (hB : ∀ c u, B = c :: u → ¬ Sx.Dig c) : Lib.trimLeftS (D ++ B) digT.data.toList = B := by
  unfold Lib.trimLeftS
  induction D with
  | nil =>
    cases B with
    | nil => rfl
    | cons c u => rw [List.nil_append, List.dropWhile_cons, digT_iff, decide_eq_false (hB c u rfl)]; rfl
  | cons c D ih =>
    rw [List.cons_append, List.dropWhile_cons, digT_iff, decide_eq_true (h c (by simp))]
    exact ih (fun x hx => h x (by simp [hx]))
theorem trim_at (S1 : ByteArray) (D B : List UInt8) (w : World) (hS : S1.data.toList = D ++ B) (h : ∀ c ∈ D, Sx.Dig c) (hB : ∀ c u, B = c :: u → ¬ Sx.Dig c) :
    Calls Tryz.prog 151 #[.string S1, .string digT] w fun e w' => e = .returned (.string ⟨B.toArray⟩) ∧ Below w.heap.size w w' := by
  refine (Tryz.strings_TrimLeft_laid S1 digT w (by decide) (fun j b hj => (by decide : ∀ c ∈ digT.data.toList, c.toNat < 128) b (List.mem_of_getElem? hj))).mono ?_
  rintro e w' ⟨rfl, hw⟩
  rw [hS, trim_digits h hB]
  exact ⟨rfl, hw⟩
/- how Atoi ends at digits -/
theorem atoi_bad (T : ByteArray) (D : List UInt8) (B : Nat) (w : World) (hT : T.data.toList = D) (hz : T.size ≤ 1000) (hG : Errs B w) (h : ∀ v, Lib.atoiAll D ≠ .ok v) :
    Calls Tryz.prog 152 #[.string T] w fun e w' => ∃ n N, e = .returned (.tuple #[.int .i64 n, .iface 212 (.pointer (some ⟨N, 0, none⟩))]) ∧ Below w.heap.size w w' := by
  obtain ⟨⟨e1, h1, h2⟩, ⟨e2, h3, h4⟩, _, _⟩ := hG
  by_cases hr : Lib.atoiAll D = .range
  rotate_left
  · refine (Tryz.strconv_Atoi_syntax T (by omega) (by rw [hT]; exact ⟨hr, h⟩) e1 w h1 h2).mono ?_
    rintro e w' ⟨N, rfl, _, _, hb⟩
    exact ⟨_, N, rfl, hb⟩
  · refine (Tryz.strconv_Atoi_range T (by omega) (by rw [hT]; exact hr) e2 w h3 h4).mono ?_
    rintro e w' ⟨N, rfl, _, _, hb⟩
    exact ⟨_, N, rfl, hb⟩
theorem atoi_good (T : ByteArray) (D : List UInt8) (n : Int) (w : World) (hT : T.data.toList = D) (hz : T.size ≤ 1000) (h : Lib.atoiAll D = .ok n) :
    Calls Tryz.prog 152 #[.string T] w fun e w' => e = .returned (.tuple #[.int .i64 n, .nilIface]) ∧ Below w.heap.size w w' := by
  refine (Tryz.strconv_Atoi_ok T (by omega) n (by rw [hT]; exact h) w).mono ?_
  rintro e w' ⟨rfl, hw⟩
  refine ⟨rfl, ?_⟩
  rcases hw with rfl | ⟨t, rfl⟩
  · exact Below.refl _ _
  · exact Lib.bytesWorld_below _ _ _
def NumPost (w : World) (p : Nat) (s : ByteArray) (b g : Int) (v : Value) (r : Option (Int × List Int)) (e : Ending) (w' : World) : Prop :=
  (∃ n t a', r = some (n, t) ∧ 0 ≤ n ∧ n ≤ 20 ∧ e = .returned (.int .i64 n) ∧ Pz w p s b a' g v t w') ∨ (r = none ∧ e = pan b 2 ∧ Kp (Own1 p) w w')
theorem bytes_cmp {x y : ByteArray} {r : Bool} (h : (x.data.toList == y.data.toList) = r) : (x.toList == y.toList) = r := by rw [Lib.toList_data, Lib.toList_data]; exact h
set_option maxRecDepth 20000 in
set_option maxHeartbeats 4000000 in
theorem number_any (B0 p : Nat) (s : ByteArray) (b g : Int) (a : Nat) (v : Value) (w : World) (l : List Int) (h : PB w p s b a g v) (hs : s.size ≤ 200) (ha : Sx.At s l a) (hG : Errs B0 w) (hBw : B0 ≤ w.heap.size) :
    Calls Tryz.prog 129 #[.pointer (some ⟨p, 0, none⟩)] w (NumPost w p s b g v (Sx.number l)) := by
  obtain ⟨D, B, rest, d1, d2, d3, rfl, d5, d6⟩ := Sx.digits_at ha
  have hnum := Sx.number_eq d1 d6
  have hle := ha.le
  have h0 := h.c0
  have h2 := h.c2
  have hf := h.fz 2
  have ha' : (a : Int) ≤ (s.size : Int) := by omega
  obtain ⟨S1, hS1⟩ : ∃ S1, S1 = s.extract a s.size := ⟨_, rfl⟩
  have hSl : S1.data.toList = D ++ B := by rw [hS1, Lib.extract_to_end, d2]
  have hSz : S1.size = D.length + B.length := by rw [← Rn.len_eq, hSl, List.length_append]
  have hSz2 : S1.size = s.size - a := by rw [hS1, Rn.size_ext s a s.size hle (Nat.le_refl _)]
  obtain ⟨k, hk⟩ : ∃ k, k = D.length := ⟨_, rfl⟩
  obtain ⟨tb, htb⟩ : ∃ tb : ByteArray, tb = ⟨B.toArray⟩ := ⟨_, rfl⟩
  have htz : tb.size = B.length := by rw [htb]; show B.toArray.size = _; simp
  obtain ⟨T, hT⟩ : ∃ T, T = S1.extract 0 k := ⟨_, rfl⟩
  have hTl : T.data.toList = D := by rw [hT, Lib.extract_data, hSl, hk]; simp
  have hTz : T.size = k := by rw [← Rn.len_eq, hTl, hk]
  have hw1 : IntKind.i64.wrap ((S1.size : Int) - (tb.size : Int)) = (k : Int) := (IntWalk.i64_in _ ⟨by omega, by omega⟩).trans (by omega)
  have hw2 : wrap64 ((S1.size : Int) - (tb.size : Int)) = (k : Int) := (IntWalk.wrap64_in _ ⟨by omega, by omega⟩).trans (by omega)
  have hw3 : IntKind.i64.wrap ((a : Int) + (k : Int)) = ((a + k : Nat) : Int) := (IntWalk.i64_in _ ⟨by omega, by omega⟩).trans (by omega)
  have hkS : (k : Int) ≤ (S1.size : Int) := by omega
  have HT := Lib.hid (fun w => trim_at S1 D B w hSl d1 d3)
  rw [← htb] at HT
  have HTE := Lib.hid hT
  have HP := Lib.hid h
  have HK := Lib.hid (Kp.refl (Own1 p) w)
  have HG := Lib.hid hG
  have HA := Lib.hid (show Sx.At s rest (a + k) by rw [hk]; exact d5)
  have HD := Lib.hid hTl
  have HTZ := Lib.hid hTz
  have hT200 : T.size ≤ 1000 := by omega
  have HNUM := Lib.hid hnum
  have HD1 := Lib.hid d1
  have hs1 := hS1.symm
  have ht1 := hT.symm
  clear h ha hS1 hT hSl hSz hSz2 hTl hTz htb htz d1 d2 d3 d5 d6 hnum hG hk
  go_enter Tryz.func129, Tryz.ntmps129
  go_wp2_with fail
  go_quiet (fail)
  have HP0 := Lib.hid (HP.out.drewN nq)
  have HK0 := Lib.hid (HK.out.drewN nq)
  have hb0 := bdrewN (n := nq) (Below.refl B0 w)
  have HG0 := Lib.hid (HG.out.below hb0)
  clear HP HK HG hb0
  have hBw0 : B0 ≤ (w.drewN nq).heap.size := hBw
  generalize w.drewN nq = w0 at HP0 HK0 HG0 hBw0 ⊢
  clear h0 h2 hs1
  go_wp2_with (go_at_call 151; refine (HT.out _).mono ?_; rintro e w1 ⟨rfl, hw1⟩; have HP1 := Lib.hid (HP0.out.below hw1); have HK1 := Lib.hid (HK0.out.below hw1); have HG1 := Lib.hid (HG0.out.below (hw1.mono hBw0)); clear hw1)
  by_cases hD0 : D = []
  · have HBAD := Lib.hid (fun w hG => atoi_bad T D B0 w HD.out hT200 hG (by rw [hD0]; exact fun v e => by simp [Lib.atoiAll] at e))
    have HNO := Lib.hid (HNUM.out.trans (if_neg (fun hh => hh.1 hD0)))
    clear hD0
    go_wp2_with (first | (go_at_call 152; refine (HBAD.out _ HG1.out).mono ?_; rintro e w2 ⟨n, N, rfl, hw2'⟩; have HP2 := Lib.hid (HP1.out.below hw2'); have HK2 := Lib.hid (HK1.out.below hw2'); clear hw2') | (go_at_call 71; refine (wrong_any p s b a g v _ HP2.out).mono ?_; rintro e w10 ⟨rfl, rfl⟩; unfold pan))
    exact ⟨rfl, .inr ⟨HNO.out, rfl, HK2.out⟩⟩
  · have hat := Sx.atoi_digits HD1.out hD0
    have HD0 := Lib.hid hD0
    clear hD0
    obtain ⟨m, hm⟩ : ∃ m, m = Sx.dval 0 D := ⟨_, rfl⟩
    rw [← hm] at hat HNUM
    rcases hat with hat | ⟨hat, hgt⟩
    · have HOK := Lib.hid (fun w => atoi_good T D (m : Int) w HD.out hT200 hat)
      have HM := Lib.hid hm
      clear hat hm
      by_cases h20 : (20 : Int) < (m : Int)
      · have HNO := Lib.hid (HNUM.out.trans (if_neg (fun hh => by have := hh.2.1; omega)))
        go_wp2_with (first | (go_at_call 152; refine (HOK.out _).mono ?_; rintro e w2 ⟨rfl, hw2'⟩; have HP2 := Lib.hid (HP1.out.below hw2'); have HK2 := Lib.hid (HK1.out.below hw2'); clear hw2') | (go_at_call 71; refine (wrong_any p s b a g v _ HP2.out).mono ?_; rintro e w10 ⟨rfl, rfl⟩; unfold pan))
        exact ⟨rfl, .inr ⟨HNO.out, rfl, HK2.out⟩⟩
      · have HIT := Lib.hid (fun w => Tryz.strconv_Itoa_small m (by omega) w)
        obtain ⟨I, hI⟩ : ∃ I : ByteArray, I = ⟨(Lib.decDigits m).toArray⟩ := ⟨_, rfl⟩
        have hIl : I.data.toList = Lib.decDigits m := by rw [hI]
        rw [← hI] at HIT
        by_cases he : Lib.decDigits m = D
        · have hcmp : (I.toList == T.toList) = true := bytes_cmp (by rw [hIl, HD.out, he, beq_iff_eq])
          have HYES := Lib.hid (HNUM.out.trans (if_pos ⟨HD0.out, by omega, he⟩))
          clear hI hIl he
          have hTk : (T.size : Int) = (k : Int) := by have := HTZ.out; omega
          go_wp2_with (first | (go_at_call 152; refine (HOK.out _).mono ?_; rintro e w2 ⟨rfl, hw2'⟩; have HP2 := Lib.hid (HP1.out.below hw2'); have HK2 := Lib.hid (HK1.out.below hw2'); clear hw2') | (go_at_call 121; refine (HIT.out _).mono ?_; rintro e w3 ⟨rfl, rfl⟩; have g0 := HP2.out.c2; have gf := HP2.out.fz 2))
          go_ret
          refine .inl ⟨(m : Int), rest, a + k, HYES.out, by omega, by omega, rfl, ?_, HK2.out.set ⟨p, 2, none⟩ (.inl rfl) _, HA.out⟩
          rw [Int.natCast_add]
          exact HP2.out.set2 _
        · have hcmp : (I.toList == T.toList) = false := bytes_cmp (by rw [hIl, HD.out, beq_eq_false_iff_ne]; exact he)
          have HNO := Lib.hid (HNUM.out.trans (if_neg (fun hh => he hh.2.2)))
          clear hI hIl he
          go_wp2_with (first | (go_at_call 152; refine (HOK.out _).mono ?_; rintro e w2 ⟨rfl, hw2'⟩; have HP2 := Lib.hid (HP1.out.below hw2'); have HK2 := Lib.hid (HK1.out.below hw2'); clear hw2') | (go_at_call 121; refine (HIT.out _).mono ?_; rintro e w3 ⟨rfl, rfl⟩) | (go_at_call 71; refine (wrong_any p s b a g v _ HP2.out).mono ?_; rintro e w10 ⟨rfl, rfl⟩; unfold pan))
          exact ⟨rfl, .inr ⟨HNO.out, rfl, HK2.out⟩⟩
    · have HBAD := Lib.hid (fun w hG => atoi_bad T D B0 w HD.out hT200 hG (fun v e => by rw [hat] at e; cases e))
      have HNO := Lib.hid (HNUM.out.trans (if_neg (fun hh => by have := hh.2.1; omega)))
      clear hat hgt hm
      go_wp2_with (first | (go_at_call 152; refine (HBAD.out _ HG1.out).mono ?_; rintro e w2 ⟨n, N, rfl, hw2'⟩; have HP2 := Lib.hid (HP1.out.below hw2'); have HK2 := Lib.hid (HK1.out.below hw2'); clear hw2') | (go_at_call 71; refine (wrong_any p s b a g v _ HP2.out).mono ?_; rintro e w10 ⟨rfl, rfl⟩; unfold pan))
      exact ⟨rfl, .inr ⟨HNO.out, rfl, HK2.out⟩⟩
end Go.Proofs.YtdoapojmenojoaaGreatDoor
end

section
/- How often something is repeated. -/
set_option linter.unusedVariables false
namespace Go.Proofs.YtdoapojmenojoaaGreatDoor
open Go.RowKit
open Sx (Nd)

def TimesPost (w : World) (p : Nat) (s : ByteArray) (b g : Int) (v : Value) (r : Option (Int × Int × List Int)) (e : Ending) (w' : World) : Prop :=
  (∃ mn mx t a', r = some (mn, mx, t) ∧ 0 ≤ mn ∧ mn ≤ 20 ∧ -1 ≤ mx ∧ mx ≤ 20 ∧ e = .returned (.tuple #[.int .i64 mn, .int .i64 mx]) ∧ Pz w p s b a' g v t w') ∨ (r = none ∧ e = pan b 2 ∧ Kp (Own1 p) w w')
theorem braces_none {l : List Int} (h : Sx.number l = none) : Sx.braces l = none := by unfold Sx.braces; rw [h]
theorem braces_one {l t : List Int} {m : Int} (h : Sx.number l = some (m, 125 :: t)) : Sx.braces l = some (m, m, t) := by unfold Sx.braces; rw [h]; rfl
theorem braces_end {l t : List Int} {m : Int} (h : Sx.number l = some (m, 44 :: 125 :: t)) : Sx.braces l = some (m, -1, t) := by unfold Sx.braces; rw [h]; rfl
theorem braces_bad {l t : List Int} {m : Int} (h : Sx.number l = some (m, t)) (h1 : ∀ u, t ≠ 125 :: u) (h3 : ∀ u, t ≠ 44 :: u) : Sx.braces l = none := by
  unfold Sx.braces
  rw [h]
  simp only
  split
  · exact absurd rfl (h1 _)
  · exact absurd rfl (h3 _)
  · exact absurd rfl (h3 _)
  · rfl
def numEnd (m : Int) (r : Option (Int × List Int)) : Option (Int × Int × List Int) := match r with
  | some (k, 125 :: t'') => if k < m then none else some (m, k, t'')
  | _ => none
theorem braces_two {l t : List Int} {m : Int} (h : Sx.number l = some (m, 44 :: t)) (h2 : ∀ u, t ≠ 125 :: u) : Sx.braces l = numEnd m (Sx.number t) := by
  unfold Sx.braces
  rw [h]
  cases t with
  | nil => rfl
  | cons x u =>
    have hx : x ≠ 125 := fun e => h2 u (by rw [e])
    unfold numEnd
    simp only
    split
    · rename_i heq; rw [heq]; rfl
    · rename_i hno
      split
      · rename_i heq; exact (hno _ _ heq).elim
      · rfl
theorem numEnd_no {t2 : List Int} {k m : Int} (h1 : ∀ u, t2 ≠ 125 :: u) : numEnd m (some (k, t2)) = none := by
  unfold numEnd
  split
  · rename_i heq; simp only [Option.some.injEq, Prod.mk.injEq] at heq; exact absurd heq.2 (h1 _)
  · rfl
set_option maxRecDepth 20000 in
set_option maxHeartbeats 4000000 in
theorem times_any (B0 p : Nat) (s : ByteArray) (b g : Int) (a : Nat) (v : Value) (w : World) (l : List Int) (h : PB w p s b a g v) (hs : s.size ≤ 200) (ha : Sx.At s l a) (hG : Errs B0 w) (hBw : B0 ≤ w.heap.size) (hBp : B0 ≤ p) :
    Calls Tryz.prog 106 #[.pointer (some ⟨p, 0, none⟩)] w (TimesPost w p s b g v (Sx.braces l)) := by
  have HP := Lib.hid h
  have HA := Lib.hid ha
  have HG := Lib.hid hG
  clear h ha hG
  go_enter Tryz.func106, Tryz.ntmps106
  go_wp2_with fail
  refine (number_any B0 p s b g a v _ l HP.out hs HA.out HG.out hBw).mono ?_
  rintro e w1 (⟨m, t, a1, hn, m0, m20, rfl, hz⟩ | ⟨hn, rfl, hk⟩)
  rotate_left
  · have HNO := Lib.hid (braces_none hn)
    clear hn
    unfold pan
    go_wp2_with fail
    exact ⟨rfl, .inr ⟨HNO.out, rfl, hk⟩⟩
  have HN := Lib.hid hn
  have HZ := Lib.hid hz
  clear hn hz HP HA
  by_cases h1 : ∃ u, t = 125 :: u
  · obtain ⟨u, rfl⟩ := h1
    obtain ⟨hat, hnx⟩ := next_yes ⟨#[125]⟩ p s b g a1 v w1 u HZ.out.pb hs (by decide) (by decide) HZ.out.at'
    have HNX := Lib.hid hnx
    have HT := Lib.hid hat
    have HB := Lib.hid (braces_one HN.out)
    clear hnx hat
    go_wp2_with (go_at_call 100; refine HNX.out.mono ?_; rintro e w2 ⟨rfl, hp2, hk2⟩; have HZ2 := Lib.hid (pz_mk hp2 (HZ.out.kp.trans hk2) HT.out); clear hp2 hk2)
    go_ret2
    exact .inl ⟨m, m, u, _, HB.out, m0, m20, by omega, m20, rfl, HZ2.out⟩
  have HX1 := Lib.hid (next_no ⟨#[125]⟩ p s b g a1 v w1 t HZ.out.pb hs (by decide) (by decide) HZ.out.at' (fun u hu => h1 ⟨u, hu⟩))
  by_cases h2 : ∃ u, t = 44 :: 125 :: u
  · obtain ⟨u, rfl⟩ := h2
    have HB := Lib.hid (braces_end HN.out)
    have HY := Lib.hid (fun w' hp => next_yes ⟨#[44, 125]⟩ p s b g a1 v w' u hp hs (by decide) (by decide) HZ.out.at')
    clear h1
    go_wp2_with (first | (go_at_call 100; with_reducible refine HX1.out.mono ?_; rintro e w2 ⟨rfl, hp2, hk2⟩; have HP2 := Lib.hid hp2; have HK2 := Lib.hid (HZ.out.kp.trans hk2); have HYC := Lib.hid (HY.out _ hp2).2; have HYA := Lib.hid (HY.out _ hp2).1; clear hp2 hk2) | (go_at_call 100; with_reducible refine HYC.out.mono ?_; rintro e w3 ⟨rfl, hp3, hk3⟩; have HZ3 := Lib.hid (pz_mk hp3 (HK2.out.trans hk3) HYA.out); clear hp3 hk3))
    go_ret2
    exact .inl ⟨m, -1, u, _, HB.out, m0, m20, by omega, by omega, rfl, HZ3.out⟩
  have HX2 := Lib.hid (fun w' (hp : PB w' p s b (a1 : Int) g v) => next_no ⟨#[44, 125]⟩ p s b g a1 v w' t hp hs (by decide) (by decide) HZ.out.at' (fun u hu => h2 ⟨u, hu⟩))
  by_cases h3 : ∃ u, t = 44 :: u
  · obtain ⟨u, rfl⟩ := h3
    have hu : ∀ u', u ≠ 125 :: u' := fun u' e => h2 ⟨u', by rw [e]⟩
    have HB := Lib.hid (braces_two HN.out hu)
    have HY := Lib.hid (fun w' hp => next_yes ⟨#[44]⟩ p s b g a1 v w' u hp hs (by decide) (by decide) HZ.out.at')
    clear h1 h2 hu
    go_wp2_with (first | (go_at_call 100; with_reducible refine HX1.out.mono ?_; rintro e w2 ⟨rfl, hp2, hk2⟩; have HK2 := Lib.hid (HZ.out.kp.trans hk2); have HXC := Lib.hid (HX2.out _ hp2); clear hp2 hk2) | (go_at_call 100; with_reducible refine HXC.out.mono ?_; rintro e w3 ⟨rfl, hp3, hk3⟩; have HK3 := Lib.hid (HK2.out.trans hk3); have HYC := Lib.hid (HY.out _ hp3).2; have HYA := Lib.hid (HY.out _ hp3).1; clear hp3 hk3) | (go_at_call 100; with_reducible refine HYC.out.mono ?_; rintro e w4 ⟨rfl, hp4, hk4⟩; have HZ4 := Lib.hid (pz_mk hp4 (HK3.out.trans hk4) HYA.out); clear hp4 hk4))
    have HG4 := Lib.hid (HG.out.kp HZ4.out.kp hBp hBw)
    have hBw4 : B0 ≤ w4.heap.size := Nat.le_trans hBw HZ4.out.kp.size
    refine (number_any B0 p s b g _ v _ u HZ4.out.pb hs HZ4.out.at' HG4.out hBw4).mono ?_
    rintro e w5 (⟨k, t2, a5, hn5, k0, k20, rfl, hz5⟩ | ⟨hn5, rfl, hk5⟩)
    rotate_left
    · have HNO := Lib.hid (HB.out.trans (by rw [hn5]; first | done | rfl))
      clear hn5
      unfold pan
      go_wp2_with fail
      exact ⟨rfl, .inr ⟨HNO.out, rfl, HZ4.out.kp.trans hk5⟩⟩
    have HZ5 := Lib.hid (pz_from hz5 HZ4.out.kp)
    have HN5 := Lib.hid hn5
    clear hz5 hn5 HZ4 HG4 HX1 HXC HYC HYA HY HK2 HK3 HX2
    by_cases hkm : k < m
    · have d1 : decide (k < m) = true := decide_eq_true hkm
      have HNO := Lib.hid (show Sx.braces l = none by
        rw [HB.out, HN5.out]
        unfold numEnd
        split
        · rename_i heq; simp only [Option.some.injEq, Prod.mk.injEq] at heq; rw [if_pos (by rw [← heq.1]; exact hkm)]
        · rfl)
      go_wp2_with (go_at_call 71; refine (wrong_any p s b a5 g v _ HZ5.out.pb).mono ?_; rintro e w10 ⟨rfl, rfl⟩; unfold pan)
      exact ⟨rfl, .inr ⟨HNO.out, rfl, HZ5.out.kp⟩⟩
    · have d1 : decide (k < m) = false := decide_eq_false hkm
      by_cases h5 : ∃ u', t2 = 125 :: u'
      · obtain ⟨u', rfl⟩ := h5
        obtain ⟨hat, hnx⟩ := next_yes ⟨#[125]⟩ p s b g a5 v w5 u' HZ5.out.pb hs (by decide) (by decide) HZ5.out.at'
        have HNX := Lib.hid hnx
        have HT := Lib.hid hat
        have HYS := Lib.hid (show Sx.braces l = some (m, k, u') by rw [HB.out, HN5.out]; unfold numEnd; simp only; rw [if_neg hkm])
        clear hnx hat
        go_wp2_with (go_at_call 100; refine HNX.out.mono ?_; rintro e w6 ⟨rfl, hp6, hk6⟩; have HZ6 := Lib.hid (pz_mk hp6 (HZ5.out.kp.trans hk6) HT.out); clear hp6 hk6)
        go_ret2
        exact .inl ⟨m, k, u', _, HYS.out, m0, m20, by omega, k20, rfl, HZ6.out⟩
      · have HNX := Lib.hid (next_no ⟨#[125]⟩ p s b g a5 v w5 t2 HZ5.out.pb hs (by decide) (by decide) HZ5.out.at' (fun u' hu => h5 ⟨u', hu⟩))
        have HNO := Lib.hid (show Sx.braces l = none by rw [HB.out, HN5.out]; exact numEnd_no (fun u' hu => h5 ⟨u', hu⟩))
        clear h5
        go_wp2_with (first | (go_at_call 100; refine HNX.out.mono ?_; rintro e w6 ⟨rfl, hp6, hk6⟩; have HP6 := Lib.hid hp6; have HK6 := Lib.hid (HZ5.out.kp.trans hk6); clear hp6 hk6) | (go_at_call 71; refine (wrong_any p s b a5 g v _ HP6.out).mono ?_; rintro e w10 ⟨rfl, rfl⟩; unfold pan))
        exact ⟨rfl, .inr ⟨HNO.out, rfl, HK6.out⟩⟩
  · have HB := Lib.hid (braces_bad HN.out (fun u hu => h1 ⟨u, hu⟩) (fun u hu => h3 ⟨u, hu⟩))
    have HX3 := Lib.hid (fun w' (hp : PB w' p s b (a1 : Int) g v) => next_no ⟨#[44]⟩ p s b g a1 v w' t hp hs (by decide) (by decide) HZ.out.at' (fun u hu => h3 ⟨u, hu⟩))
    clear h1 h2 h3
    go_wp2_with (first | (go_at_call 100; with_reducible refine HX1.out.mono ?_; rintro e w2 ⟨rfl, hp2, hk2⟩; have HK2 := Lib.hid (HZ.out.kp.trans hk2); have HXC := Lib.hid (HX2.out _ hp2); clear hp2 hk2) | (go_at_call 100; with_reducible refine HXC.out.mono ?_; rintro e w3 ⟨rfl, hp3, hk3⟩; have HK3 := Lib.hid (HK2.out.trans hk3); have HYC := Lib.hid (HX3.out _ hp3); clear hp3 hk3) | (go_at_call 100; with_reducible refine HYC.out.mono ?_; rintro e w4 ⟨rfl, hp4, hk4⟩; have HP4 := Lib.hid hp4; have HK4 := Lib.hid (HK3.out.trans hk4); clear hp4 hk4) | (go_at_call 71; refine (wrong_any p s b a1 g v _ HP4.out).mono ?_; rintro e w10 ⟨rfl, rfl⟩; unfold pan))
    exact ⟨rfl, .inr ⟨HB.out, rfl, HK4.out⟩⟩
end Go.Proofs.YtdoapojmenojoaaGreatDoor
end
