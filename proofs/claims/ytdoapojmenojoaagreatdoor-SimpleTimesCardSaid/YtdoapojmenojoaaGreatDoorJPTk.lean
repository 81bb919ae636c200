import Derived.Test.YtdoapojmenojoaaGreatDoorJPEnter
import Derived.Test.YtdoapojmenojoaaGreatDoorJPClass
set_option linter.unusedSimpArgs false
set_option linter.unusedVariables false
section
/- What a rune does to the stack of open expressions: what must be known ahead, what is told behind. -/
set_option linter.unusedVariables false
namespace Go.Proofs.YtdoapojmenojoaaGreatDoor
open Go.RowKit
open Sx (Nd)

structure Env (base : Nat) (P : Nat → Prop) (p : Nat) (s : ByteArray) (w : World) : Prop where
  hbw : base ≤ w.heap.size
  hpw : ∀ b, P b → b < w.heap.size
  hPp : P p
  hs : s.size ≤ 200
  hbp : base ≤ p
  errs : ∃ B0, Errs B0 w ∧ B0 ≤ base
theorem Env.kp {base : Nat} {P : Nat → Prop} {p : Nat} {s : ByteArray} {w w' : World} (E : Env base P p s w) (k : Kp (Xp base P p) w w') : Env base P p s w' := by
  obtain ⟨B0, hB, hb⟩ := E.errs
  exact ⟨Nat.le_trans E.hbw k.size, fun b hb => Nat.lt_of_lt_of_le (E.hpw b hb) k.size, E.hPp, E.hs, E.hbp, B0, hB.below (k.to (Nat.le_trans hb E.hbw) (fun i hi hx => by have := hx.1; omega)), hb⟩
/- ahead of a rune's doing: it is gone by -/
structure St (base : Nat) (P : Nat → Prop) (p : Nat) (s : ByteArray) (b : Int) (cn : Nat) (x : Int) (t : List Int) (g : Int) (v : Value) (y : Ent) (L : List Ent) (w : World) : Prop where
  sk : SK base w P v (y :: L)
  pb : ∃ a : Nat, PB w p s b (a : Int) g v ∧ Sx.At s t a
  inv : Sx.Inv cn (x :: t) g y.e (L.map Ent.e)
/- behind it -/
structure Sv (base : Nat) (P : Nat → Prop) (p : Nat) (s : ByteArray) (b : Int) (cn : Nat) (l : List Int) (g : Int) (v : Value) (y : Ent) (L : List Ent) (w : World) : Prop where
  sk : SK base w P v (y :: L)
  pb : ∃ a : Nat, PB w p s b (a : Int) g v ∧ Sx.At s l a
  inv : Sx.Inv cn l g y.e (L.map Ent.e)
def TakeOk (base : Nat) (P : Nat → Prop) (p : Nat) (s : ByteArray) (b : Int) (cn : Nat) (l : List Int) (g : Int) (y : Ent) (L : List Ent) (w w' : World) : Prop :=
  ∃ v' y' L' g' l', Sv base P p s b cn l' g' v' y' L' w' ∧ (∀ r, Sx.Ran l' g' y'.e (L'.map Ent.e) r → Sx.Ran l g y.e (L.map Ent.e) r) ∧ Kp (Xp base P p) w w' ∧ l'.length < l.length
def TakeBad (base : Nat) (P : Nat → Prop) (p : Nat) (l : List Int) (g : Int) (y : Ent) (L : List Ent) (k : Int) (w w' : World) : Prop :=
  (k = 2 ∨ k = 3) ∧ Sx.Ran l g y.e (L.map Ent.e) (.bad k l.length) ∧ Kp (Xp base P p) w w'
def TakePost (base : Nat) (P : Nat → Prop) (p : Nat) (s : ByteArray) (b : Int) (cn : Nat) (l : List Int) (g : Int) (y : Ent) (L : List Ent) (w : World) (e : Ending) (w' : World) : Prop :=
  (e = .returned (.tuple #[]) ∧ TakeOk base P p s b cn l g y L w w') ∨ ∃ k, e = pan b k ∧ TakeBad base P p l g y L k w w'
section
variable {base : Nat} {P : Nat → Prop} {p : Nat} {s : ByteArray} {b : Int} {cn : Nat} {g : Int} {v : Value} {y : Ent} {L : List Ent} {w : World}
theorem own_xp {w1 : World} (E : Env base P p s w) (k : Kp (Own1 p) w w1) : Kp (Xp base P p) w w1 := k.mono (fun i _ e => by have e' : i = p := e; subst e'; exact ⟨E.hbp, fun _ => rfl⟩)
theorem TakePost.from {l : List Int} {w1 w' : World} {e : Ending} (h : TakePost base P p s b cn l g y L w1 e w') (k : Kp (Xp base P p) w w1) : TakePost base P p s b cn l g y L w e w' := by
  rcases h with ⟨rfl, v', y', L', g', l', h1, h2, h3, h4⟩ | ⟨q, rfl, h1, h2, h3⟩
  · exact .inl ⟨rfl, v', y', L', g', l', h1, h2, k.trans h3, h4⟩
  · exact .inr ⟨q, rfl, h1, h2, k.trans h3⟩
theorem quant_self {x : Int} {t : List Int} (h42 : x ≠ 42) (h43 : x ≠ 43) (h63 : x ≠ 63) (h123 : x ≠ 123) : Sx.quant (x :: t) = none := by
  unfold Sx.quant
  split
  · rename_i h; simp only [List.cons.injEq] at h; exact absurd h.1 h42
  · rename_i h; simp only [List.cons.injEq] at h; exact absurd h.1 h43
  · rename_i h; simp only [List.cons.injEq] at h; exact absurd h.1 h63
  · rename_i h; simp only [List.cons.injEq] at h; exact absurd h.1 h123
  · rfl
theorem spec_self {x : Int} (h124 : x ≠ 124) (h40 : x ≠ 40) (h41 : x ≠ 41) (h42 : x ≠ 42) (h43 : x ≠ 43) (h63 : x ≠ 63) (h123 : x ≠ 123) (h93 : x ≠ 93) (h125 : x ≠ 125) (h94 : x ≠ 94) (h36 : x ≠ 36) (h46 : x ≠ 46) (h92 : x ≠ 92) (h91 : x ≠ 91) : Sx.special x = false := by
  unfold Sx.special
  rw [← Bool.not_eq_true, List.contains_iff_mem]
  simp only [List.mem_cons, List.not_mem_nil, or_false]
  omega
theorem leaf_self {x : Int} {t : List Int} (h0 : 0 ≤ x) (h46 : x ≠ 46) (h94 : x ≠ 94) (h36 : x ≠ 36) (h92 : x ≠ 92) (h91 : x ≠ 91) (hs : Sx.special x = false) : Sx.leaf x t g = .ok (.mk 1 [(x, x)] 0 0 false 0 []) t g := by
  unfold Sx.leaf
  rw [if_neg h46, if_neg h94, if_neg h36, if_neg h92, if_neg h91, if_neg (by rw [hs]; simp; omega)]
  rfl
theorem esc_leaf {x k : Int} {t : List Int} {cl : List Cl.Rg} (h : esc x = some (k, cl)) : Sx.leaf 92 (x :: t) g = .ok (.mk k cl 0 0 false 0 []) t g ∧ (1 ≤ k ∧ k ≤ 5) ∧ RIn cl ∧ cl.length ≤ 64 := by
  unfold esc at h
  unfold Sx.leaf
  rw [if_neg (by decide), if_neg (by decide), if_neg (by decide), if_pos rfl]
  simp only
  split at h
  · next hx => rw [if_pos hx]; cases h; exact ⟨rfl, by decide, fun k r hr => by simp at hr, by decide⟩
  · next hx =>
    rw [if_neg hx]
    split at h
    · next hy => rw [if_pos hy]; cases h; exact ⟨rfl, by decide, fun k r hr => by simp at hr, by decide⟩
    · next hy =>
      rw [if_neg hy]
      split at h
      · cases h
      · next hz =>
        rw [if_neg hz]
        simp only [Option.some.injEq, Prod.mk.injEq] at h
        obtain ⟨rfl, rfl⟩ := h
        have hn := Sx.escape_nf x
        exact ⟨rfl, by decide, nf_rin' hn.1, hn.2⟩
theorem esc_leaf_bad {t : List Int} (h : ∀ x u, t = x :: u → esc x = none) : Sx.leaf 92 t g = .bad 2 (t.length + 1) := by
  unfold Sx.leaf
  rw [if_neg (by decide), if_neg (by decide), if_neg (by decide), if_pos rfl]
  cases t with
  | nil => rfl
  | cons x u =>
    have hx := h x u rfl
    unfold esc at hx
    simp only
    split at hx
    · cases hx
    · next h1 =>
      rw [if_neg h1]
      split at hx
      · cases hx
      · next h2 =>
        rw [if_neg h2]
        split at hx
        · next h3 => rw [if_pos h3]; rfl
        · cases hx
theorem cls_leaf {t t' : List Int} {c : List Cl.Rg} (h : Sx.cls t = some (c, t')) : Sx.leaf 91 t g = .ok (.mk 1 c 0 0 false 0 []) t' g ∧ RIn c ∧ c.length ≤ 64 := by
  have hn := Sx.cls_sub h
  unfold Sx.leaf
  rw [if_neg (by decide), if_neg (by decide), if_neg (by decide), if_neg (by decide), if_pos rfl, h]
  exact ⟨rfl, nf_rin' hn.2.1, hn.2.2.2⟩
theorem cls_leaf_bad {t : List Int} (h : Sx.cls t = none) : Sx.leaf 91 t g = .bad 2 (t.length + 1) := by
  unfold Sx.leaf
  rw [if_neg (by decide), if_neg (by decide), if_neg (by decide), if_neg (by decide), if_pos rfl, h]
theorem add_leaf {l : List Int} {gi cap : Nat} {w1 : World} {k : Int} {c : List Cl.Rg} {q : Option Addr} {capq : Nat} (E : Env base P p s w) (hcn : cn ≤ 200) (hsk : SK base w P (.slice (some ⟨gi, 0, none⟩) (L.length + 1) cap) (y :: L)) (inv : Sx.Inv cn l g y.e (L.map Ent.e)) (hk1 : Kp (Own1 p) w w1)
    (hk : 1 ≤ k ∧ k ≤ 5) (hc : RIn c) (hcl : c.length ≤ 64) (hr : RowS (New w w1) w1 q c) :
    Calls Tryz.prog 107 #[.pointer (some ⟨gi, L.length * 4, none⟩), .agg #[.int .i64 k, .slice q c.length capq, .int .i64 0, .int .i64 0, .bool false, .int .i64 0, .slice none 0 0]] w1 fun e w' => e = .returned (.tuple #[]) ∧ ∃ vl', SK base w' P (.slice (some ⟨gi, 0, none⟩) (L.length + 1) cap) (⟨y.va, vl', y.e.add (.mk k c 0 0 false 0 [])⟩ :: L) ∧ Kp (UpX (.slice (some ⟨gi, 0, none⟩) (L.length + 1) cap) y) w1 w' := by
  have hsm := inv.small hcn
  rw [List.length_map] at hsm
  have hs1 := hsk.kp hk1 (fun c _ e => by have e' : c = p := e; rw [e']; exact E.hPp)
  refine add_any base P _ gi cap y L w1 k 0 0 0 false q none c.length capq 0 0 _ rfl hs1 (by omega) (by omega) (Nat.le_trans E.hbw hk1.size) (fun b hb => Nat.lt_of_lt_of_le (E.hpw b hb) hk1.size) ?_
  rw [NodeS]
  refine ⟨rfl, rfl, rfl, rfl, rfl, ⟨by omega, by omega⟩, ⟨by decide, by decide⟩, ⟨by decide, by decide⟩, ⟨by decide, by decide⟩, by omega, hc, by simp, ⟨q, capq, rfl, ?_⟩, none, 0, rfl, by rw [KidsS]; trivial⟩
  refine RowS.mono hr ?_
  intro b hb
  exact ⟨⟨hsk.newF E.hpw E.hbw hb.1, hb.2⟩, rfl⟩
theorem leaf_post {x : Int} {t t' : List Int} {vl : Value} {w1 w' : World} {a' : Nat} {k : Int} {c : List Cl.Rg} (E : Env base P p s w) (hsk : SK base w P v (y :: L)) (inv : Sx.Inv cn (x :: t) g y.e (L.map Ent.e)) (hq : Sx.quant (x :: t) = none) (h40 : x ≠ 40) (h41 : x ≠ 41) (h124 : x ≠ 124)
    (hlf : Sx.leaf x t g = .ok (.mk k c 0 0 false 0 []) t' g) (hk5 : 1 ≤ k ∧ k ≤ 5) (hp1 : PB w1 p s b (a' : Int) g v) (ha : Sx.At s t' a') (hk1 : Kp (Own1 p) w w1) (hs' : SK base w' P v (⟨y.va, vl, y.e.add (.mk k c 0 0 false 0 [])⟩ :: L)) (hk' : Kp (UpX v y) w1 w') :
    TakePost base P p s b cn (x :: t) g y L w (.returned (.tuple #[])) w' := by
  have hl := Sx.leaf_len hlf
  refine .inl ⟨rfl, v, ⟨y.va, vl, y.e.add (.mk k c 0 0 false 0 [])⟩, L, g, t', ⟨hs', ⟨a', hp1.kp hk' (fun h => (hsk.upx h).2.1 E.hPp), ha⟩, inv.addN (by simp <;> omega) (by omega) (Sx.ne_mk (.inl ⟨by omega, by omega⟩) (fun n hn => by cases hn))⟩, fun r hr => .leaf hq h40 h41 h124 hlf hr, ?_, by simp <;> omega⟩
  exact (own_xp E hk1).after hk' (fun i _ hx => ⟨(hsk.upx hx).1, fun hP => absurd hP (hsk.upx hx).2.1⟩)
theorem leaf_bad_post {x : Int} {t : List Int} {w' : World} (E : Env base P p s w) (inv : Sx.Inv cn (x :: t) g y.e (L.map Ent.e)) (hq : Sx.quant (x :: t) = none) (h40 : x ≠ 40) (h41 : x ≠ 41) (h124 : x ≠ 124)
    (hlf : Sx.leaf x t g = .bad 2 (t.length + 1)) (hk : Kp (Own1 p) w w') : TakePost base P p s b cn (x :: t) g y L w (pan b 2) w' :=
  .inr ⟨2, rfl, .inl rfl, .leafBad _ hq h40 h41 h124 hlf, own_xp E hk⟩
theorem turn_at {l : List Int} {gi cap : Nat} (E : Env base P p s w) (hcn : cn ≤ 200) (hsk : SK base w P (.slice (some ⟨gi, 0, none⟩) (L.length + 1) cap) (y :: L)) (inv : Sx.Inv cn l g y.e (L.map Ent.e)) (m : Nat) :
    Calls Tryz.prog 102 #[.pointer (some ⟨gi, L.length * 4, none⟩)] (w.drewN m) fun e w' => e = .returned (.tuple #[]) ∧ ∃ va', SK base w' P (.slice (some ⟨gi, 0, none⟩) (L.length + 1) cap) (⟨va', .slice none 0 0, y.e.turn⟩ :: L) ∧ Kp (UpX (.slice (some ⟨gi, 0, none⟩) (L.length + 1) cap) y) (w.drewN m) w' := by
  have hsm := inv.small hcn
  rw [List.length_map] at hsm
  refine (turn_any base P _ gi cap y L (w.drewN m) rfl (hsk.below (bdrewN (Below.refl _ w))) (by omega) (by omega) E.hbw E.hpw (by omega) (by omega) hsm.2.2.2.2.1).mono ?_
  rintro e w' ⟨rfl, va', h1, h2⟩
  exact ⟨rfl, va', h1, h2.mono (fun _ _ hb => hb.elim .inl (fun hb => .inr (.inl hb)))⟩
theorem bar_post {t : List Int} {va : Value} {w' : World} {a m : Nat} (E : Env base P p s w) (hsk : SK base w P v (y :: L)) (inv : Sx.Inv cn (124 :: t) g y.e (L.map Ent.e)) (hp : PB w p s b (a : Int) g v) (ha : Sx.At s t a)
    (hs' : SK base w' P v (⟨va, .slice none 0 0, y.e.turn⟩ :: L)) (hk' : Kp (UpX v y) (w.drewN m) w') : TakePost base P p s b cn (124 :: t) g y L w (.returned (.tuple #[])) w' := by
  refine .inl ⟨rfl, v, ⟨va, .slice none 0 0, y.e.turn⟩, L, g, t, ⟨hs', ⟨a, (hp.drewN m).kp hk' (fun h => (hsk.upx h).2.1 E.hPp), ha⟩, inv.turn⟩, fun r hr => .turn hr, ?_, by simp⟩
  exact ((Kp.refl (Xp base P p) w).drewN m).after hk' (fun i _ hx => ⟨(hsk.upx hx).1, fun hP => absurd hP (hsk.upx hx).2.1⟩)
theorem rep_at {l t2 : List Int} {mn mx : Int} (E : Env base P p s w) (hcn : cn ≤ 200) (hsk : SK base w P v (y :: L)) (hpb : ∃ a : Nat, PB w p s b (a : Int) g v ∧ Sx.At s t2 a) (inv : Sx.Inv cn l g y.e (L.map Ent.e)) (ht : t2.length + 1 ≤ l.length) (hq : Sx.quant l = some (some (mn, mx, t2))) (hm : 0 ≤ mn ∧ mn ≤ 20) (hx : -1 ≤ mx ∧ mx ≤ 20) :
    Calls Tryz.prog 105 #[.pointer (some ⟨p, 0, none⟩), .int .i64 mn, .int .i64 mx] w (TakePost base P p s b cn l g y L w) := by
  obtain ⟨a, hp, ha⟩ := hpb
  obtain ⟨gi, cap, hv, hbg, hgl, hgp, hgc, _⟩ := hsk.inner
  have hsm := inv.small hcn
  rw [List.length_map] at hsm
  cases hat : y.e.at' with
  | false =>
    refine (rep_bad base P p s b g mn mx a v gi cap y L w hv hp hsk (by omega) hat).mono ?_
    rintro e w' ⟨rfl, hk⟩
    exact .inr ⟨2, rfl, .inl rfl, .repBad _ hq (.inr hat), own_xp E hk⟩
  | true =>
    have hne := inv.ok y.e (by simp) hat
    have hla : y.e.la = y.e.la.dropLast ++ [y.e.la.getLast hne] := (List.dropLast_concat_getLast hne).symm
    refine (rep_ok base P p s b g mn mx a v gi cap y L w _ _ t2 hv hp hsk (by omega) hat hla (by simp <;> omega) E.hpw E.hPp E.hs ha hm hx E.hbw).mono ?_
    rintro e w' ⟨rfl, a2, h1, h2, h3, h4⟩
    have hll := Sx.lazy_len t2
    refine .inl ⟨rfl, v, _, L, g, (Sx.lazyB t2).2, ⟨h1, ⟨a2, h2, h3⟩, inv.rep (by omega) hla⟩, fun r hr => .rep hq hat hla hr, ?_, by omega⟩
    refine h4.mono (fun i _ hi => ?_)
    rcases hi with e | e | e
    · subst e; exact ⟨E.hbp, fun _ => rfl⟩
    · have := hsk.upx (.inl e); exact ⟨this.1, fun hP => absurd hP this.2.1⟩
    · have := hsk.upx (.inr (.inr e)); exact ⟨this.1, fun hP => absurd hP this.2.1⟩
theorem rep_at2 {l t2 : List Int} {w1 : World} {mn mx : Int} (E : Env base P p s w) (hcn : cn ≤ 200) (hsk : SK base w P v (y :: L)) (hk1 : Kp (Own1 p) w w1) (hpb : ∃ a : Nat, PB w1 p s b (a : Int) g v ∧ Sx.At s t2 a) (inv : Sx.Inv cn l g y.e (L.map Ent.e)) (ht : t2.length + 1 ≤ l.length) (hq : Sx.quant l = some (some (mn, mx, t2))) (hm : 0 ≤ mn ∧ mn ≤ 20) (hx : -1 ≤ mx ∧ mx ≤ 20) :
    Calls Tryz.prog 105 #[.pointer (some ⟨p, 0, none⟩), .int .i64 mn, .int .i64 mx] w1 (TakePost base P p s b cn l g y L w) :=
  (rep_at (E.kp (own_xp E hk1)) hcn (hsk.kp hk1 (fun c _ e => by have e' : c = p := e; rw [e']; exact E.hPp)) hpb inv ht hq hm hx).mono (fun e w' h => h.from (own_xp E hk1))
theorem times_at {t : List Int} (E : Env base P p s w) (hsk : SK base w P v (y :: L)) (hpb : ∃ a : Nat, PB w p s b (a : Int) g v ∧ Sx.At s t a) : Calls Tryz.prog 106 #[.pointer (some ⟨p, 0, none⟩)] w (TimesPost w p s b g v (Sx.braces t)) := by
  obtain ⟨a, hp, ha⟩ := hpb
  obtain ⟨B0, hB, hb⟩ := E.errs
  exact times_any B0 p s b g a v w t hp E.hs ha hB (Nat.le_trans hb E.hbw) (Nat.le_trans hb E.hbp)
theorem times_bad_post {t : List Int} {w' : World} (E : Env base P p s w) (inv : Sx.Inv cn (123 :: t) g y.e (L.map Ent.e)) (hq : Sx.quant (123 :: t) = some none) (hk : Kp (Own1 p) w w') : TakePost base P p s b cn (123 :: t) g y L w (pan b 2) w' :=
  .inr ⟨2, rfl, .inl rfl, .repBad _ hq (.inl rfl), own_xp E hk⟩
theorem enter_at {t : List Int} (E : Env base P p s w) (hcn : cn ≤ 200) (hx : St base P p s b cn 40 t g v y L w) : Calls Tryz.prog 103 #[.pointer (some ⟨p, 0, none⟩)] w (TakePost base P p s b cn (40 :: t) g y L w) := by
  obtain ⟨hsk, ⟨a, hp, ha⟩, inv⟩ := hx
  have hsm := inv.small hcn
  rw [List.length_map] at hsm
  have hown : ∀ i, (i = p ∨ v.ownBlock = some i) → Xp base P p i := fun i hi => by
    rcases hi with e | e
    · subst e; exact ⟨E.hbp, fun _ => rfl⟩
    · have := hsk.upx (.inl e); exact ⟨this.1, fun hP => absurd hP this.2.1⟩
  by_cases hno : ∃ u, t = 63 :: 58 :: u
  · obtain ⟨u, rfl⟩ := hno
    refine (enter_non base P p s b g a v (y :: L) w u hp hsk (by simp <;> omega) E.hpw E.hPp E.hs ha E.hbw).mono ?_
    rintro e w' ⟨rfl, v', n2, cap2, rfl, a2, h1, h2, h3, h4⟩
    exact .inl ⟨rfl, _, entN 0, y :: L, g, u, ⟨h1, ⟨a2, h2, h3⟩, inv.push (by simp <;> omega) inv.g (by decide)⟩, fun r hr => .non hr, h4.mono (fun i _ hi => hown i hi), by simp <;> omega⟩
  · have hno' : ∀ u, t ≠ 63 :: 58 :: u := fun u hu => hno ⟨u, hu⟩
    by_cases h8 : g + 1 ≤ 8
    · refine (enter_cap base P p s b g a v (y :: L) w t hp hsk (by simp <;> omega) E.hpw E.hPp E.hs ha hno' ⟨inv.g.1, h8⟩ E.hbw).mono ?_
      rintro e w' ⟨rfl, v', n2, cap2, rfl, a2, h1, h2, h3, h4⟩
      have hg0 := inv.g.1
      exact .inl ⟨rfl, _, entN (g + 1), y :: L, g + 1, t, ⟨h1, ⟨a2, h2, h3⟩, inv.push (by simp) ⟨by omega, h8⟩ ⟨by omega, h8⟩⟩, fun r hr => .cap hno' hg0 h8 hr, h4.mono (fun i _ hi => hown i hi), by simp⟩
    · refine (enter_many p s b g a v w t hp E.hs ha hno' ⟨by omega, inv.g.2⟩).mono ?_
      rintro e w' ⟨rfl, hk⟩
      exact .inr ⟨3, rfl, .inr rfl, .many hno' (by omega), own_xp E hk⟩
theorem leave_at {t : List Int} (E : Env base P p s w) (hcn : cn ≤ 200) (hx : St base P p s b cn 41 t g v y L w) : Calls Tryz.prog 104 #[.pointer (some ⟨p, 0, none⟩)] w (TakePost base P p s b cn (41 :: t) g y L w) := by
  obtain ⟨hsk, ⟨a, hp, ha⟩, inv⟩ := hx
  have hsm := inv.small hcn
  rw [List.length_map] at hsm
  cases L with
  | nil =>
    refine (leave_bad base P p s b g a v y w hp hsk).mono ?_
    rintro e w' ⟨rfl, hk⟩
    exact .inr ⟨2, rfl, .inl rfl, .leaveBad t g y.e, own_xp E hk⟩
  | cons x' L =>
    have hpop := inv.pop
    have hsm2 := hpop.small hcn
    simp only [List.length_cons] at hsm
    have hl' : x'.e.la.length ≤ 1000 := by have h2 := hsm2.2.2.1; simp only [Sx.E.add, List.length_append] at h2; omega
    refine (leave_ok base P p s b g a v y x' L w hp hsk (by omega) E.hpw E.hPp E.hbp E.hbw (inv.gs y.e (by simp)) (by omega) (by omega) (by omega) hsm.2.2.2.2.1 (by omega) hsm.2.2.2.2.2.2 hl').mono ?_
    rintro e w' ⟨rfl, v', vl', h1, h2, h3⟩
    exact .inl ⟨rfl, v', _, L, g, t, ⟨h1, ⟨a, h2, ha⟩, hpop⟩, fun r hr => .leave hr, h3, by simp⟩
end
end Go.Proofs.YtdoapojmenojoaaGreatDoor
end

section
/- What begins with a rune is added to the inner expression (written by gen_take.py). -/
set_option linter.unusedVariables false
namespace Go.Proofs.YtdoapojmenojoaaGreatDoor
open Go.RowKit
open Sx (Nd)
set_option maxRecDepth 20000 in
set_option maxHeartbeats 4000000 in
theorem take_begin (base : Nat) (P : Nat → Prop) (p : Nat) (s : ByteArray) (b : Int) (cn : Nat) (g : Int) (v : Value) (y : Ent) (L : List Ent) (w : World) (t : List Int) (E : Env base P p s w) (hcn : cn ≤ 200) (hx : St base P p s b cn (94) t g v y L w) :
    Calls Tryz.prog 70 #[.pointer (some ⟨p, 0, none⟩), .int .i32 (94)] w (TakePost base P p s b cn ((94) :: t) g y L w) := by
  obtain ⟨hsk, ⟨a, hp, ha⟩, inv⟩ := hx
  obtain ⟨gi, cap, hv, hbg, hgl, hgp, hgc, _⟩ := hsk.inner
  subst hv
  have hL := (inv.small hcn).1
  rw [List.length_map] at hL
  have HP := Lib.hid hp
  have HI := Lib.hid (inner_any base p s b (a : Int) g gi L.length cap w hp (by omega))
  have HADD := Lib.hid (fun m => add_leaf E (hcn := hcn) (w1 := w.drewN m) hsk inv ((Kp.refl (Own1 p) w).drewN m) (k := 2) (c := []) (q := none) (capq := 0) (by decide) (fun k r hr => by simp at hr) (by decide) (rows_nil _ _ _))
  have HT := Lib.hid (fun vl w1 w' hs' hk1 hp1 hk' => leaf_post (b := b) (cn := cn) (vl := vl) (w1 := w1) (w' := w') (g := g) (x := 94) (t := t) E (a' := a) (t' := t) hsk inv rfl (by decide) (by decide) (by decide) rfl ⟨by decide, by decide⟩ hp1 ha hk1 hs' hk')
  clear hsk hp ha inv
  go_enter Tryz.func70, Tryz.ntmps70
  go_wp2_with (first | (go_at_call 72; refine HI.out.mono ?_; rintro e w1 ⟨rfl, m1, rfl⟩) | (go_at_call 107; refine (HADD.out m1).mono ?_; rintro e w2 ⟨rfl, vl2, hs2, hk2⟩; have HS2 := Lib.hid hs2; have HK2 := Lib.hid hk2; clear hs2 hk2))
  go_end0
  exact HT.out vl2 (w.drewN m1) _ HS2.out ((Kp.refl (Own1 p) w).drewN m1) (HP.out.drewN m1) HK2.out
set_option maxRecDepth 20000 in
set_option maxHeartbeats 4000000 in
theorem take_end (base : Nat) (P : Nat → Prop) (p : Nat) (s : ByteArray) (b : Int) (cn : Nat) (g : Int) (v : Value) (y : Ent) (L : List Ent) (w : World) (t : List Int) (E : Env base P p s w) (hcn : cn ≤ 200) (hx : St base P p s b cn (36) t g v y L w) :
    Calls Tryz.prog 70 #[.pointer (some ⟨p, 0, none⟩), .int .i32 (36)] w (TakePost base P p s b cn ((36) :: t) g y L w) := by
  obtain ⟨hsk, ⟨a, hp, ha⟩, inv⟩ := hx
  obtain ⟨gi, cap, hv, hbg, hgl, hgp, hgc, _⟩ := hsk.inner
  subst hv
  have hL := (inv.small hcn).1
  rw [List.length_map] at hL
  have HP := Lib.hid hp
  have HI := Lib.hid (inner_any base p s b (a : Int) g gi L.length cap w hp (by omega))
  have HADD := Lib.hid (fun m => add_leaf E (hcn := hcn) (w1 := w.drewN m) hsk inv ((Kp.refl (Own1 p) w).drewN m) (k := 3) (c := []) (q := none) (capq := 0) (by decide) (fun k r hr => by simp at hr) (by decide) (rows_nil _ _ _))
  have HT := Lib.hid (fun vl w1 w' hs' hk1 hp1 hk' => leaf_post (b := b) (cn := cn) (vl := vl) (w1 := w1) (w' := w') (g := g) (x := 36) (t := t) E (a' := a) (t' := t) hsk inv rfl (by decide) (by decide) (by decide) rfl ⟨by decide, by decide⟩ hp1 ha hk1 hs' hk')
  clear hsk hp ha inv
  go_enter Tryz.func70, Tryz.ntmps70
  go_wp2_with (first | (go_at_call 72; refine HI.out.mono ?_; rintro e w1 ⟨rfl, m1, rfl⟩) | (go_at_call 107; refine (HADD.out m1).mono ?_; rintro e w2 ⟨rfl, vl2, hs2, hk2⟩; have HS2 := Lib.hid hs2; have HK2 := Lib.hid hk2; clear hs2 hk2))
  go_end0
  exact HT.out vl2 (w.drewN m1) _ HS2.out ((Kp.refl (Own1 p) w).drewN m1) (HP.out.drewN m1) HK2.out
set_option maxRecDepth 20000 in
set_option maxHeartbeats 4000000 in
theorem take_dot (base : Nat) (P : Nat → Prop) (p : Nat) (s : ByteArray) (b : Int) (cn : Nat) (g : Int) (v : Value) (y : Ent) (L : List Ent) (w : World) (t : List Int) (E : Env base P p s w) (hcn : cn ≤ 200) (hx : St base P p s b cn (46) t g v y L w) :
    Calls Tryz.prog 70 #[.pointer (some ⟨p, 0, none⟩), .int .i32 (46)] w (TakePost base P p s b cn ((46) :: t) g y L w) := by
  obtain ⟨hsk, ⟨a, hp, ha⟩, inv⟩ := hx
  obtain ⟨gi, cap, hv, hbg, hgl, hgp, hgc, _⟩ := hsk.inner
  subst hv
  have hL := (inv.small hcn).1
  rw [List.length_map] at hL
  have HP := Lib.hid hp
  have HI := Lib.hid (inner_any base p s b (a : Int) g gi L.length cap w hp (by omega))
  have HADD := Lib.hid (fun w1 hk1 q capq hr => add_leaf E (hcn := hcn) (w1 := w1) hsk inv hk1 (k := 1) (c := Sx.dot) (q := q) (capq := capq) (by decide) (nf_rin' (Cl.nots_spec _).1) (by decide) hr)
  have HT := Lib.hid (fun vl w1 w' hs' hk1 hp1 hk' => leaf_post (b := b) (cn := cn) (vl := vl) (w1 := w1) (w' := w') (g := g) (x := 46) (t := t) E (a' := a) (t' := t) hsk inv rfl (by decide) (by decide) (by decide) rfl ⟨by decide, by decide⟩ hp1 ha hk1 hs' hk')
  clear hsk hp ha inv
  go_enter Tryz.func70, Tryz.ntmps70
  go_wp2_with (first | (go_at_call 72; refine HI.out.mono ?_; rintro e w1 ⟨rfl, m1, rfl⟩) | (go_at_call 108; refine (sdot_any _).mono ?_; rintro e w1 ⟨q, c, rfl, hq, hpt, hw1⟩; have HQ := Lib.hid (rows_from (w := w) hq (Nat.le_refl _)); have HW := Lib.hid hw1; have HK := Lib.hid (((Kp.refl (Own1 p) w).drewN m1).below hw1); clear hq hw1) | (go_at_call 107; refine (HADD.out _ HK.out q c HQ.out).mono ?_; rintro e w2 ⟨rfl, vl2, hs2, hk2⟩; have HS2 := Lib.hid hs2; have HK2 := Lib.hid hk2; clear hs2 hk2))
  go_end0
  exact HT.out vl2 _ _ HS2.out HK.out ((HP.out.drewN m1).below HW.out) HK2.out
set_option maxRecDepth 20000 in
set_option maxHeartbeats 4000000 in
theorem take_self (base : Nat) (P : Nat → Prop) (p : Nat) (s : ByteArray) (b : Int) (cn : Nat) (g : Int) (v : Value) (y : Ent) (L : List Ent) (w : World) (x : Int) (t : List Int) (E : Env base P p s w) (hcn : cn ≤ 200) (hx : St base P p s b cn (x) t g v y L w) (h0 : 0 ≤ x) (h1 : x ≤ 1114111) (n124 : (x == 124) = false) (n40 : (x == 40) = false) (n41 : (x == 41) = false) (n42 : (x == 42) = false) (n43 : (x == 43) = false) (n63 : (x == 63) = false) (n123 : (x == 123) = false) (n93 : (x == 93) = false) (n125 : (x == 125) = false) (n94 : (x == 94) = false) (n36 : (x == 36) = false) (n46 : (x == 46) = false) (n92 : (x == 92) = false) (n91 : (x == 91) = false) :
    Calls Tryz.prog 70 #[.pointer (some ⟨p, 0, none⟩), .int .i32 (x)] w (TakePost base P p s b cn ((x) :: t) g y L w) := by
  obtain ⟨hsk, ⟨a, hp, ha⟩, inv⟩ := hx
  obtain ⟨gi, cap, hv, hbg, hgl, hgp, hgc, _⟩ := hsk.inner
  subst hv
  have hL := (inv.small hcn).1
  rw [List.length_map] at hL
  have HP := Lib.hid hp
  have HI := Lib.hid (inner_any base p s b (a : Int) g gi L.length cap w hp (by omega))
  have hq0 : Sx.quant (x :: t) = none := quant_self (by simpa using n42) (by simpa using n43) (by simpa using n63) (by simpa using n123)
  have hlf : Sx.leaf x t g = .ok (.mk 1 [(x, x)] 0 0 false 0 []) t g := leaf_self h0 (by simpa using n46) (by simpa using n94) (by simpa using n36) (by simpa using n92) (by simpa using n91) (spec_self (by simpa using n124) (by simpa using n40) (by simpa using n41) (by simpa using n42) (by simpa using n43) (by simpa using n63) (by simpa using n123) (by simpa using n93) (by simpa using n125) (by simpa using n94) (by simpa using n36) (by simpa using n46) (by simpa using n92) (by simpa using n91))
  have HADD := Lib.hid (fun w1 hk1 q capq hr => add_leaf E (hcn := hcn) (w1 := w1) hsk inv hk1 (k := 1) (c := [(x, x)]) (q := q) (capq := capq) (by decide) (nf_rin' (Sx.nf_one ⟨h0, h1, Int.le_refl _⟩)) (by simp) hr)
  have HT := Lib.hid (fun vl w1 w' hs' hk1 hp1 hk' => leaf_post (b := b) (cn := cn) (vl := vl) (w1 := w1) (w' := w') (g := g) (x := x) (t := t)  E (a' := a) (t' := t) hsk inv hq0 (by simpa using n40) (by simpa using n41) (by simpa using n124) hlf ⟨by decide, by decide⟩ hp1 ha hk1 hs' hk')
  clear hsk hp ha inv hq0 hlf
  go_enter Tryz.func70, Tryz.ntmps70
  go_wp2_with (first | (go_at_call 72; refine HI.out.mono ?_; rintro e w1 ⟨rfl, m1, rfl⟩) | (go_at_call 111; refine (single_any x _ h0 h1).mono ?_; rintro e w1 ⟨q, c, rfl, hq, hpt, hw1⟩; have HQ := Lib.hid (rows_from (w := w) hq (Nat.le_refl _)); have HW := Lib.hid hw1; have HK := Lib.hid (((Kp.refl (Own1 p) w).drewN m1).below hw1); clear hq hw1) | (go_at_call 107; refine (HADD.out _ HK.out q c HQ.out).mono ?_; rintro e w2 ⟨rfl, vl2, hs2, hk2⟩; have HS2 := Lib.hid hs2; have HK2 := Lib.hid hk2; clear hs2 hk2))
  go_end0
  exact HT.out vl2 _ _ HS2.out HK.out ((HP.out.drewN m1).below HW.out) HK2.out
set_option maxRecDepth 20000 in
set_option maxHeartbeats 4000000 in
theorem take_esc (base : Nat) (P : Nat → Prop) (p : Nat) (s : ByteArray) (b : Int) (cn : Nat) (g : Int) (v : Value) (y : Ent) (L : List Ent) (w : World) (t : List Int) (E : Env base P p s w) (hcn : cn ≤ 200) (hx : St base P p s b cn (92) t g v y L w) :
    Calls Tryz.prog 70 #[.pointer (some ⟨p, 0, none⟩), .int .i32 (92)] w (TakePost base P p s b cn ((92) :: t) g y L w) := by
  obtain ⟨hsk, ⟨a, hp, ha⟩, inv⟩ := hx
  obtain ⟨gi, cap, hv, hbg, hgl, hgp, hgc, _⟩ := hsk.inner
  subst hv
  have hL := (inv.small hcn).1
  rw [List.length_map] at hL
  have HP := Lib.hid hp
  have HI := Lib.hid (inner_any base p s b (a : Int) g gi L.length cap w hp (by omega))
  have HES := Lib.hid (fun m => escape_any p s b g a _ (w.drewN m) t (hp.drewN m) E.hs ha)
  have HADD := Lib.hid (fun w1 hk1 k c q capq hk hc hcl hr => add_leaf E (hcn := hcn) (w1 := w1) hsk inv hk1 (k := k) (c := c) (q := q) (capq := capq) hk hc hcl hr)
  have HT := Lib.hid (fun vl w1 w' k c t' a' hs' hk1 hk' hlf hk hp ha => leaf_post (b := b) (cn := cn) (vl := vl) (w1 := w1) (w' := w') (g := g) (x := 92) (t := t) (k := k) (c := c) E (a' := a') (t' := t') hsk inv rfl (by decide) (by decide) (by decide) hlf hk hp ha hk1 hs' hk')
  have HB := Lib.hid (fun w' hlf hk => leaf_bad_post (P := P) (base := base) (b := b) (cn := cn) (w' := w') (g := g) (x := 92) (t := t) E inv rfl (by decide) (by decide) (by decide) hlf hk)
  clear hsk hp ha inv
  go_enter Tryz.func70, Tryz.ntmps70
  go_wp2_with (first | (go_at_call 72; refine HI.out.mono ?_; rintro e w1 ⟨rfl, m1, rfl⟩))
  refine (HES.out m1).mono ?_
  rintro e w1 (⟨y2, t', a', k, cl, u, ht, hesc, rfl, ⟨q, c, rfl, hr, hpt⟩, hz⟩ | ⟨hno, rfl, hk⟩)
  · subst ht
    obtain ⟨hlf, hk5, hrin, hlen⟩ := esc_leaf (g := g) (t := t') hesc
    have HLF := Lib.hid hlf
    have HK := Lib.hid (((Kp.refl (Own1 p) w).drewN m1).trans hz.kp)
    have HZ := Lib.hid hz
    have HQ := Lib.hid (And.intro (rows_from (w := w) hr (Nat.le_refl _)) hrin)
    clear hz hr hrin hlf
    unfold ndv
    go_wp2_with (go_at_call 107; refine (HADD.out _ HK.out k cl q c hk5 HQ.out.2 hlen HQ.out.1).mono ?_; rintro e w2 ⟨rfl, vl2, hs2, hk2⟩; have HS2 := Lib.hid hs2; have HK2 := Lib.hid hk2; clear hs2 hk2)
    go_end0
    exact HT.out vl2 _ _ k cl t' a' HS2.out HK.out HK2.out HLF.out hk5 HZ.out.pb HZ.out.at'
  · have HLB := Lib.hid (esc_leaf_bad (g := g) hno)
    have HK := Lib.hid (((Kp.refl (Own1 p) w).drewN m1).trans hk)
    clear hno hk
    unfold pan
    go_wp2_with fail
    exact ⟨rfl, HB.out _ HLB.out HK.out⟩
set_option maxRecDepth 20000 in
set_option maxHeartbeats 4000000 in
theorem take_cls (base : Nat) (P : Nat → Prop) (p : Nat) (s : ByteArray) (b : Int) (cn : Nat) (g : Int) (v : Value) (y : Ent) (L : List Ent) (w : World) (t : List Int) (E : Env base P p s w) (hcn : cn ≤ 200) (hx : St base P p s b cn (91) t g v y L w) :
    Calls Tryz.prog 70 #[.pointer (some ⟨p, 0, none⟩), .int .i32 (91)] w (TakePost base P p s b cn ((91) :: t) g y L w) := by
  obtain ⟨hsk, ⟨a, hp, ha⟩, inv⟩ := hx
  obtain ⟨gi, cap, hv, hbg, hgl, hgp, hgc, _⟩ := hsk.inner
  subst hv
  have hL := (inv.small hcn).1
  rw [List.length_map] at hL
  have HP := Lib.hid hp
  have HI := Lib.hid (inner_any base p s b (a : Int) g gi L.length cap w hp (by omega))
  have HES := Lib.hid (fun m => pclass_any p s b g a _ (w.drewN m) t (hp.drewN m) E.hs ha)
  have HADD := Lib.hid (fun w1 hk1 c q capq hc hcl hr => add_leaf E (hcn := hcn) (w1 := w1) hsk inv hk1 (k := 1) (c := c) (q := q) (capq := capq) (by decide) hc hcl hr)
  have HT := Lib.hid (fun vl w1 w' c t' a' hs' hk1 hk' hlf hp1 ha => leaf_post (b := b) (cn := cn) (vl := vl) (w1 := w1) (w' := w') (g := g) (x := 91) (t := t) (k := 1) (c := c) E (a' := a') (t' := t') hsk inv rfl (by decide) (by decide) (by decide) hlf ⟨by decide, by decide⟩ hp1 ha hk1 hs' hk')
  have HB := Lib.hid (fun w' hlf hk => leaf_bad_post (P := P) (base := base) (b := b) (cn := cn) (w' := w') (g := g) (x := 91) (t := t) E inv rfl (by decide) (by decide) (by decide) hlf hk)
  clear hsk hp ha inv
  go_enter Tryz.func70, Tryz.ntmps70
  go_wp2_with (first | (go_at_call 72; refine HI.out.mono ?_; rintro e w1 ⟨rfl, m1, rfl⟩))
  refine (HES.out m1).mono ?_
  rintro e w1 (⟨cl, t', a', q, c, hcls, rfl, hr, hpt, hz⟩ | ⟨hno, rfl, hk⟩)
  · obtain ⟨hlf, hrin, hlen⟩ := cls_leaf (g := g) hcls
    have HLF := Lib.hid hlf
    have HK := Lib.hid (((Kp.refl (Own1 p) w).drewN m1).trans hz.kp)
    have HZ := Lib.hid hz
    have HQ := Lib.hid (And.intro (rows_from (w := w) hr (Nat.le_refl _)) hrin)
    clear hz hr hrin hlf hcls
    go_wp2_with (go_at_call 107; refine (HADD.out _ HK.out cl q c HQ.out.2 hlen HQ.out.1).mono ?_; rintro e w2 ⟨rfl, vl2, hs2, hk2⟩; have HS2 := Lib.hid hs2; have HK2 := Lib.hid hk2; clear hs2 hk2)
    go_end0
    exact HT.out vl2 _ _ cl t' a' HS2.out HK.out HK2.out HLF.out HZ.out.pb HZ.out.at'
  · have HLB := Lib.hid (cls_leaf_bad (g := g) hno)
    have HK := Lib.hid (((Kp.refl (Own1 p) w).drewN m1).trans hk)
    clear hno hk
    unfold pan
    go_wp2_with fail
    exact ⟨rfl, HB.out _ HLB.out HK.out⟩
set_option maxRecDepth 20000 in
set_option maxHeartbeats 4000000 in
theorem take_sq (base : Nat) (P : Nat → Prop) (p : Nat) (s : ByteArray) (b : Int) (cn : Nat) (g : Int) (v : Value) (y : Ent) (L : List Ent) (w : World) (t : List Int) (E : Env base P p s w) (hcn : cn ≤ 200) (hx : St base P p s b cn (93) t g v y L w) :
    Calls Tryz.prog 70 #[.pointer (some ⟨p, 0, none⟩), .int .i32 (93)] w (TakePost base P p s b cn ((93) :: t) g y L w) := by
  obtain ⟨hsk, ⟨a, hp, ha⟩, inv⟩ := hx
  have HW := Lib.hid (wrong_any p s b (a : Int) g v w hp)
  have HB := Lib.hid (leaf_bad_post (P := P) (base := base) (b := b) (cn := cn) (w' := w) (g := g) (x := 93) (t := t) E inv rfl (by decide) (by decide) (by decide) rfl (Kp.refl _ _))
  clear hsk hp ha inv
  go_enter Tryz.func70, Tryz.ntmps70
  go_wp2_with (go_at_call 71; refine HW.out.mono ?_; rintro e w1 ⟨rfl, rfl⟩; unfold pan)
  exact ⟨rfl, HB.out⟩
set_option maxRecDepth 20000 in
set_option maxHeartbeats 4000000 in
theorem take_cu (base : Nat) (P : Nat → Prop) (p : Nat) (s : ByteArray) (b : Int) (cn : Nat) (g : Int) (v : Value) (y : Ent) (L : List Ent) (w : World) (t : List Int) (E : Env base P p s w) (hcn : cn ≤ 200) (hx : St base P p s b cn (125) t g v y L w) :
    Calls Tryz.prog 70 #[.pointer (some ⟨p, 0, none⟩), .int .i32 (125)] w (TakePost base P p s b cn ((125) :: t) g y L w) := by
  obtain ⟨hsk, ⟨a, hp, ha⟩, inv⟩ := hx
  have HW := Lib.hid (wrong_any p s b (a : Int) g v w hp)
  have HB := Lib.hid (leaf_bad_post (P := P) (base := base) (b := b) (cn := cn) (w' := w) (g := g) (x := 125) (t := t) E inv rfl (by decide) (by decide) (by decide) rfl (Kp.refl _ _))
  clear hsk hp ha inv
  go_enter Tryz.func70, Tryz.ntmps70
  go_wp2_with (go_at_call 71; refine HW.out.mono ?_; rintro e w1 ⟨rfl, rfl⟩; unfold pan)
  exact ⟨rfl, HB.out⟩
set_option maxRecDepth 20000 in
set_option maxHeartbeats 4000000 in
theorem take_bar (base : Nat) (P : Nat → Prop) (p : Nat) (s : ByteArray) (b : Int) (cn : Nat) (g : Int) (v : Value) (y : Ent) (L : List Ent) (w : World) (t : List Int) (E : Env base P p s w) (hcn : cn ≤ 200) (hx : St base P p s b cn (124) t g v y L w) :
    Calls Tryz.prog 70 #[.pointer (some ⟨p, 0, none⟩), .int .i32 (124)] w (TakePost base P p s b cn ((124) :: t) g y L w) := by
  obtain ⟨hsk, ⟨a, hp, ha⟩, inv⟩ := hx
  obtain ⟨gi, cap, hv, hbg, hgl, hgp, hgc, _⟩ := hsk.inner
  subst hv
  have hL := (inv.small hcn).1
  rw [List.length_map] at hL
  have HP := Lib.hid hp
  have HI := Lib.hid (inner_any base p s b (a : Int) g gi L.length cap w hp (by omega))
  have HTU := Lib.hid (fun m => turn_at E (hcn := hcn) hsk inv m)
  have HT := Lib.hid (fun m va w' hs' hk' => bar_post (b := b) (cn := cn) (va := va) (w' := w') (t := t) E hsk inv hp ha (m := m) hs' hk')
  clear hsk hp ha inv
  go_enter Tryz.func70, Tryz.ntmps70
  go_wp2_with (first | (go_at_call 72; refine HI.out.mono ?_; rintro e w1 ⟨rfl, m1, rfl⟩) | (go_at_call 102; refine (HTU.out m1).mono ?_; rintro e w2 ⟨rfl, va2, hs2, hk2⟩; have HS2 := Lib.hid hs2; have HK2 := Lib.hid hk2; clear hs2 hk2))
  go_end0
  exact HT.out m1 va2 _ HS2.out HK2.out
set_option maxRecDepth 20000 in
set_option maxHeartbeats 4000000 in
theorem take_star (base : Nat) (P : Nat → Prop) (p : Nat) (s : ByteArray) (b : Int) (cn : Nat) (g : Int) (v : Value) (y : Ent) (L : List Ent) (w : World) (t : List Int) (E : Env base P p s w) (hcn : cn ≤ 200) (hx : St base P p s b cn (42) t g v y L w) :
    Calls Tryz.prog 70 #[.pointer (some ⟨p, 0, none⟩), .int .i32 (42)] w (TakePost base P p s b cn ((42) :: t) g y L w) := by
  have HR := Lib.hid (rep_at (l := 42 :: t) (mn := 0) (mx := -1) (t2 := t) E hcn hx.sk hx.pb hx.inv (by simp) rfl (by decide) (by decide))
  clear hx
  go_enter Tryz.func70, Tryz.ntmps70
  go_wp2_with fail
  refine HR.out.mono ?_
  rintro e w1 (⟨rfl, h⟩ | ⟨k, rfl, h⟩)
  · have H := Lib.hid h
    clear h
    go_wp2_with fail
    go_end0
    exact .inl ⟨rfl, H.out⟩
  · have H := Lib.hid h
    clear h
    unfold pan
    go_wp2_with fail
    exact ⟨rfl, .inr ⟨k, rfl, H.out⟩⟩
set_option maxRecDepth 20000 in
set_option maxHeartbeats 4000000 in
theorem take_plus (base : Nat) (P : Nat → Prop) (p : Nat) (s : ByteArray) (b : Int) (cn : Nat) (g : Int) (v : Value) (y : Ent) (L : List Ent) (w : World) (t : List Int) (E : Env base P p s w) (hcn : cn ≤ 200) (hx : St base P p s b cn (43) t g v y L w) :
    Calls Tryz.prog 70 #[.pointer (some ⟨p, 0, none⟩), .int .i32 (43)] w (TakePost base P p s b cn ((43) :: t) g y L w) := by
  have HR := Lib.hid (rep_at (l := 43 :: t) (mn := 1) (mx := -1) (t2 := t) E hcn hx.sk hx.pb hx.inv (by simp) rfl (by decide) (by decide))
  clear hx
  go_enter Tryz.func70, Tryz.ntmps70
  go_wp2_with fail
  refine HR.out.mono ?_
  rintro e w1 (⟨rfl, h⟩ | ⟨k, rfl, h⟩)
  · have H := Lib.hid h
    clear h
    go_wp2_with fail
    go_end0
    exact .inl ⟨rfl, H.out⟩
  · have H := Lib.hid h
    clear h
    unfold pan
    go_wp2_with fail
    exact ⟨rfl, .inr ⟨k, rfl, H.out⟩⟩
set_option maxRecDepth 20000 in
set_option maxHeartbeats 4000000 in
theorem take_opt (base : Nat) (P : Nat → Prop) (p : Nat) (s : ByteArray) (b : Int) (cn : Nat) (g : Int) (v : Value) (y : Ent) (L : List Ent) (w : World) (t : List Int) (E : Env base P p s w) (hcn : cn ≤ 200) (hx : St base P p s b cn (63) t g v y L w) :
    Calls Tryz.prog 70 #[.pointer (some ⟨p, 0, none⟩), .int .i32 (63)] w (TakePost base P p s b cn ((63) :: t) g y L w) := by
  have HR := Lib.hid (rep_at (l := 63 :: t) (mn := 0) (mx := 1) (t2 := t) E hcn hx.sk hx.pb hx.inv (by simp) rfl (by decide) (by decide))
  clear hx
  go_enter Tryz.func70, Tryz.ntmps70
  go_wp2_with fail
  refine HR.out.mono ?_
  rintro e w1 (⟨rfl, h⟩ | ⟨k, rfl, h⟩)
  · have H := Lib.hid h
    clear h
    go_wp2_with fail
    go_end0
    exact .inl ⟨rfl, H.out⟩
  · have H := Lib.hid h
    clear h
    unfold pan
    go_wp2_with fail
    exact ⟨rfl, .inr ⟨k, rfl, H.out⟩⟩
set_option maxRecDepth 20000 in
set_option maxHeartbeats 4000000 in
theorem take_cur (base : Nat) (P : Nat → Prop) (p : Nat) (s : ByteArray) (b : Int) (cn : Nat) (g : Int) (v : Value) (y : Ent) (L : List Ent) (w : World) (t : List Int) (E : Env base P p s w) (hcn : cn ≤ 200) (hx : St base P p s b cn (123) t g v y L w) :
    Calls Tryz.prog 70 #[.pointer (some ⟨p, 0, none⟩), .int .i32 (123)] w (TakePost base P p s b cn ((123) :: t) g y L w) := by
  have HTM := Lib.hid (times_at (t := t) E hx.sk hx.pb)
  have HB := Lib.hid (fun w' hq hk => times_bad_post (P := P) (base := base) (b := b) (cn := cn) (w' := w') (g := g) (t := t) E hx.inv hq hk)
  have HR := Lib.hid (fun w1 mn mx t2 hk1 hp1 hq h1 h2 ht => rep_at2 (b := b) (l := 123 :: t) (w := w) (w1 := w1) (mn := mn) (mx := mx) (t2 := t2) E hcn hx.sk hk1 hp1 hx.inv ht hq h1 h2)
  clear hx
  go_enter Tryz.func70, Tryz.ntmps70
  go_wp2_with fail
  refine HTM.out.mono ?_
  rintro e w1 (⟨mn, mx, t2, a2, hb, h0, h1, h2, h3, rfl, hz⟩ | ⟨hno, rfl, hk⟩)
  · have HRR := Lib.hid (HR.out w1 mn mx t2 hz.kp ⟨a2, hz.pb, hz.at'⟩ (show Sx.quant (123 :: t) = some (some (mn, mx, t2)) from (show some (Sx.braces t) = _ by rw [hb])) ⟨h0, h1⟩ ⟨h2, h3⟩ (by have := Sx.braces_len hb; simp; omega))
    clear hz hb HR HB
    go_wp2_with fail
    refine HRR.out.mono ?_
    rintro e w2 (⟨rfl, h⟩ | ⟨k, rfl, h⟩)
    · have H := Lib.hid h
      clear h
      go_wp2_with fail
      go_end0
      exact .inl ⟨rfl, H.out⟩
    · have H := Lib.hid h
      clear h
      unfold pan
      go_wp2_with fail
      exact ⟨rfl, .inr ⟨k, rfl, H.out⟩⟩
  · have HBB := Lib.hid (HB.out w1 (show Sx.quant (123 :: t) = some none from (show some (Sx.braces t) = _ by rw [hno])) hk)
    clear hno hk HB HR
    unfold pan
    go_wp2_with fail
    exact ⟨rfl, HBB.out⟩
set_option maxRecDepth 20000 in
set_option maxHeartbeats 4000000 in
theorem take_open (base : Nat) (P : Nat → Prop) (p : Nat) (s : ByteArray) (b : Int) (cn : Nat) (g : Int) (v : Value) (y : Ent) (L : List Ent) (w : World) (t : List Int) (E : Env base P p s w) (hcn : cn ≤ 200) (hx : St base P p s b cn (40) t g v y L w) :
    Calls Tryz.prog 70 #[.pointer (some ⟨p, 0, none⟩), .int .i32 (40)] w (TakePost base P p s b cn ((40) :: t) g y L w) := by
  have HO := Lib.hid (enter_at E hcn hx)
  clear hx
  go_enter Tryz.func70, Tryz.ntmps70
  go_wp2_with fail
  refine HO.out.mono ?_
  rintro e w1 (⟨rfl, h⟩ | ⟨k, rfl, h⟩)
  · have H := Lib.hid h
    clear h
    go_wp2_with fail
    go_end0
    exact .inl ⟨rfl, H.out⟩
  · have H := Lib.hid h
    clear h
    unfold pan
    go_wp2_with fail
    exact ⟨rfl, .inr ⟨k, rfl, H.out⟩⟩
set_option maxRecDepth 20000 in
set_option maxHeartbeats 4000000 in
theorem take_close (base : Nat) (P : Nat → Prop) (p : Nat) (s : ByteArray) (b : Int) (cn : Nat) (g : Int) (v : Value) (y : Ent) (L : List Ent) (w : World) (t : List Int) (E : Env base P p s w) (hcn : cn ≤ 200) (hx : St base P p s b cn (41) t g v y L w) :
    Calls Tryz.prog 70 #[.pointer (some ⟨p, 0, none⟩), .int .i32 (41)] w (TakePost base P p s b cn ((41) :: t) g y L w) := by
  have HO := Lib.hid (leave_at E hcn hx)
  clear hx
  go_enter Tryz.func70, Tryz.ntmps70
  go_wp2_with fail
  refine HO.out.mono ?_
  rintro e w1 (⟨rfl, h⟩ | ⟨k, rfl, h⟩)
  · have H := Lib.hid h
    clear h
    go_wp2_with fail
    go_end0
    exact .inl ⟨rfl, H.out⟩
  · have H := Lib.hid h
    clear h
    unfold pan
    go_wp2_with fail
    exact ⟨rfl, .inr ⟨k, rfl, H.out⟩⟩
theorem take_any (base : Nat) (P : Nat → Prop) (p : Nat) (s : ByteArray) (b : Int) (cn : Nat) (g : Int) (v : Value) (y : Ent) (L : List Ent) (w : World) (x : Int) (t : List Int) (E : Env base P p s w) (hcn : cn ≤ 200) (hx : St base P p s b cn x t g v y L w) (h0 : 0 ≤ x) (h1 : x ≤ 1114111) :
    Calls Tryz.prog 70 #[.pointer (some ⟨p, 0, none⟩), .int .i32 x] w (TakePost base P p s b cn (x :: t) g y L w) := by
  by_cases e124 : x = 124
  · subst e124; exact take_bar base P p s b cn g v y L w t E hcn hx
  by_cases e40 : x = 40
  · subst e40; exact take_open base P p s b cn g v y L w t E hcn hx
  by_cases e41 : x = 41
  · subst e41; exact take_close base P p s b cn g v y L w t E hcn hx
  by_cases e42 : x = 42
  · subst e42; exact take_star base P p s b cn g v y L w t E hcn hx
  by_cases e43 : x = 43
  · subst e43; exact take_plus base P p s b cn g v y L w t E hcn hx
  by_cases e63 : x = 63
  · subst e63; exact take_opt base P p s b cn g v y L w t E hcn hx
  by_cases e123 : x = 123
  · subst e123; exact take_cur base P p s b cn g v y L w t E hcn hx
  by_cases e93 : x = 93
  · subst e93; exact take_sq base P p s b cn g v y L w t E hcn hx
  by_cases e125 : x = 125
  · subst e125; exact take_cu base P p s b cn g v y L w t E hcn hx
  by_cases e94 : x = 94
  · subst e94; exact take_begin base P p s b cn g v y L w t E hcn hx
  by_cases e36 : x = 36
  · subst e36; exact take_end base P p s b cn g v y L w t E hcn hx
  by_cases e46 : x = 46
  · subst e46; exact take_dot base P p s b cn g v y L w t E hcn hx
  by_cases e92 : x = 92
  · subst e92; exact take_esc base P p s b cn g v y L w t E hcn hx
  by_cases e91 : x = 91
  · subst e91; exact take_cls base P p s b cn g v y L w t E hcn hx
  have f : ∀ z, x ≠ z → (x == z) = false := fun z hz => beq_eq_false_iff_ne.2 hz
  exact take_self base P p s b cn g v y L w x t E hcn hx h0 h1 (f _ e124) (f _ e40) (f _ e41) (f _ e42) (f _ e43) (f _ e63) (f _ e123) (f _ e93) (f _ e125) (f _ e94) (f _ e36) (f _ e46) (f _ e92) (f _ e91)
end Go.Proofs.YtdoapojmenojoaaGreatDoor
end
