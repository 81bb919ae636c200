import Derived.Test.YtfibhhegfhikmaaGreatDoorJPLeave
import Derived.Test.YtfibhhegfhikmaaGreatDoorJPClass
set_option linter.unusedSimpArgs false
set_option linter.unusedVariables false
/- What a rune does to the stack of open expressions: what must be known ahead, what is told behind. -/
set_option linter.unusedVariables false
namespace Go.Proofs.YtfibhhegfhikmaaGreatDoor
open Go.RowKit
open Sx (Nd)

structure Env (base : Nat) (P : Nat → Prop) (p : Nat) (s : ByteArray) (w : World) : Prop where
  hbw : base ≤ w.heap.size
  hpw : ∀ b, P b → b < w.heap.size
  hPp : P p
  hs : s.size ≤ 200
  hbp : base ≤ p
  errs : ∃ B0, Errs B0 w ∧ B0 ≤ base
theorem Env.kp {base : Nat} {P : Nat → Prop} {p : Nat} {s : ByteArray} {w w' : World} (E : Env base P p s w) (k : Kp (Xp base P p) w w') : Env base P p s w' := by
  obtain ⟨B0, hB, hb⟩ := E.errs
  exact ⟨Nat.le_trans E.hbw k.size, fun b hb => Nat.lt_of_lt_of_le (E.hpw b hb) k.size, E.hPp, E.hs, E.hbp, B0, hB.below (k.to (Nat.le_trans hb E.hbw) (fun i hi hx => by have := hx.1; omega)), hb⟩
/- ahead of a rune's doing: it is gone by -/
structure St (base : Nat) (P : Nat → Prop) (p : Nat) (s : ByteArray) (b : Int) (cn : Nat) (x : Int) (t : List Int) (g : Int) (v : Value) (y : Ent) (L : List Ent) (w : World) : Prop where
  sk : SK base w P v (y :: L)
  pb : ∃ a : Nat, PB w p s b (a : Int) g v ∧ Sx.At s t a
  inv : Sx.Inv cn (x :: t) g y.e (L.map Ent.e)
/- behind it -/
structure Sv (base : Nat) (P : Nat → Prop) (p : Nat) (s : ByteArray) (b : Int) (cn : Nat) (l : List Int) (g : Int) (v : Value) (y : Ent) (L : List Ent) (w : World) : Prop where
  sk : SK base w P v (y :: L)
  pb : ∃ a : Nat, PB w p s b (a : Int) g v ∧ Sx.At s l a
  inv : Sx.Inv cn l g y.e (L.map Ent.e)
def TakeOk (base : Nat) (P : Nat → Prop) (p : Nat) (s : ByteArray) (b : Int) (cn : Nat) (l : List Int) (g : Int) (y : Ent) (L : List Ent) (w w' : World) : Prop :=
  ∃ v' y' L' g' l', Sv base P p s b cn l' g' v' y' L' w' ∧ (∀ r, Sx.Ran l' g' y'.e (L'.map Ent.e) r → Sx.Ran l g y.e (L.map Ent.e) r) ∧ Kp (Xp base P p) w w' ∧ l'.length < l.length
def TakeBad (base : Nat) (P : Nat → Prop) (p : Nat) (l : List Int) (g : Int) (y : Ent) (L : List Ent) (k : Int) (w w' : World) : Prop :=
  (k = 2 ∨ k = 3) ∧ Sx.Ran l g y.e (L.map Ent.e) (.bad k l.length) ∧ Kp (Xp base P p) w w'
def TakePost (base : Nat) (P : Nat → Prop) (p : Nat) (s : ByteArray) (b : Int) (cn : Nat) (l : List Int) (g : Int) (y : Ent) (L : List Ent) (w : World) (e : Ending) (w' : World) : Prop :=
  (e = .returned (.tuple #[]) ∧ TakeOk base P p s b cn l g y L w w') ∨ ∃ k, e = pan b k ∧ TakeBad base P p l g y L k w w'
section
variable {base : Nat} {P : Nat → Prop} {p : Nat} {s : ByteArray} {b : Int} {cn : Nat} {g : Int} {v : Value} {y : Ent} {L : List Ent} {w : World}
theorem own_xp {w1 : World} (E : Env base P p s w) (k : Kp (Own1 p) w w1) : Kp (Xp base P p) w w1 := k.mono (fun i _ e => by have e' : i = p := e; subst e'; exact ⟨E.hbp, fun _ => rfl⟩)
theorem TakePost.from {l : List Int} {w1 w' : World} {e : Ending} (h : TakePost base P p s b cn l g y L w1 e w') (k : Kp (Xp base P p) w w1) : TakePost base P p s b cn l g y L w e w' := by
  rcases h with ⟨rfl, v', y', L', g', l', h1, h2, h3, h4⟩ | ⟨q, rfl, h1, h2, h3⟩
  · exact .inl ⟨rfl, v', y', L', g', l', h1, h2, k.trans h3, h4⟩
  · exact .inr ⟨q, rfl, h1, h2, k.trans h3⟩
theorem quant_self {x : Int} {t : List Int} (h42 : x ≠ 42) (h43 : x ≠ 43) (h63 : x ≠ 63) (h123 : x ≠ 123) : Sx.quant (x :: t) = none := by
  unfold Sx.quant
  split
  · rename_i h; simp only [List.cons.injEq] at h; exact absurd h.1 h42
  · rename_i h; simp only [List.cons.injEq] at h; exact absurd h.1 h43
  · rename_i h; simp only [List.cons.injEq] at h; exact absurd h.1 h63
  · rename_i h; simp only [List.cons.injEq] at h; exact absurd h.1 h123
  · rfl
theorem spec_self {x : Int} (h124 : x ≠ 124) (h40 : x ≠ 40) (h41 : x ≠ 41) (h42 : x ≠ 42) (h43 : x ≠ 43) (h63 : x ≠ 63) (h123 : x ≠ 123) (h93 : x ≠ 93) (h125 : x ≠ 125) (h94 : x ≠ 94) (h36 : x ≠ 36) (h46 : x ≠ 46) (h92 : x ≠ 92) (h91 : x ≠ 91) : Sx.special x = false := by
  unfold Sx.special
  rw [← Bool.not_eq_true, List.contains_iff_mem]
  simp only [List.mem_cons, List.not_mem_nil, or_false]
  omega
theorem leaf_self {x : Int} {t : List Int} (h0 : 0 ≤ x) (h46 : x ≠ 46) (h94 : x ≠ 94) (h36 : x ≠ 36) (h92 : x ≠ 92) (h91 : x ≠ 91) (hs : Sx.special x = false) : Sx.leaf x t g = .ok (.mk 1 [(x, x)] 0 0 false 0 []) t g := by
  unfold Sx.leaf
  rw [if_neg h46, if_neg h94, if_neg h36, if_neg h92, if_neg h91, if_neg (by rw [hs]; simp; omega)]
  rfl
theorem esc_leaf {x k : Int} {t : List Int} {cl : List Cl.Rg} (h : esc x = some (k, cl)) : Sx.leaf 92 (x :: t) g = .ok (.mk k cl 0 0 false 0 []) t g ∧ (1 ≤ k ∧ k ≤ 5) ∧ RIn cl ∧ cl.length ≤ 64 := by
  unfold esc at h
  unfold Sx.leaf
  rw [if_neg (by decide), if_neg (by decide), if_neg (by decide), if_pos rfl]
  simp only
  split at h
  · next hx => rw [if_pos hx]; cases h; exact ⟨rfl, by decide, fun k r hr => by simp at hr, by decide⟩
  · next hx =>
    rw [if_neg hx]
    split at h
    · next hy => rw [if_pos hy]; cases h; exact ⟨rfl, by decide, fun k r hr => by simp at hr, by decide⟩
    · next hy =>
      rw [if_neg hy]
      split at h
      · cases h
      · next hz =>
        rw [if_neg hz]
        simp only [Option.some.injEq, Prod.mk.injEq] at h
        obtain ⟨rfl, rfl⟩ := h
        have hn := Sx.escape_nf x
        exact ⟨rfl, by decide, nf_rin' hn.1, hn.2⟩
theorem esc_leaf_bad {t : List Int} (h : ∀ x u, t = x :: u → esc x = none) : Sx.leaf 92 t g = .bad 2 (t.length + 1) := by
  unfold Sx.leaf
  rw [if_neg (by decide), if_neg (by decide), if_neg (by decide), if_pos rfl]
  cases t with
  | nil => rfl
  | cons x u =>
    have hx := h x u rfl
    unfold esc at hx
    simp only
    split at hx
    · cases hx
    · next h1 =>
      rw [if_neg h1]
      split at hx
      · cases hx
      · next h2 =>
        rw [if_neg h2]
        split at hx
        · next h3 => rw [if_pos h3]; rfl
        · cases hx
theorem cls_leaf {t t' : List Int} {c : List Cl.Rg} (h : Sx.cls t = some (c, t')) : Sx.leaf 91 t g = .ok (.mk 1 c 0 0 false 0 []) t' g ∧ RIn c ∧ c.length ≤ 64 := by
  have hn := Sx.cls_sub h
  unfold Sx.leaf
  rw [if_neg (by decide), if_neg (by decide), if_neg (by decide), if_neg (by decide), if_pos rfl, h]
  exact ⟨rfl, nf_rin' hn.2.1, hn.2.2.2⟩
theorem cls_leaf_bad {t : List Int} (h : Sx.cls t = none) : Sx.leaf 91 t g = .bad 2 (t.length + 1) := by
  unfold Sx.leaf
  rw [if_neg (by decide), if_neg (by decide), if_neg (by decide), if_neg (by decide), if_pos rfl, h]
theorem add_leaf {l : List Int} {gi cap : Nat} {w1 : World} {k : Int} {c : List Cl.Rg} {q : Option Addr} {capq : Nat} (E : Env base P p s w) (hcn : cn ≤ 200) (hsk : SK base w P (.slice (some ⟨gi, 0, none⟩) (L.length + 1) cap) (y :: L)) (inv : Sx.Inv cn l g y.e (L.map Ent.e)) (hk1 : Kp (Own1 p) w w1)
    (hk : 1 ≤ k ∧ k ≤ 5) (hc : RIn c) (hcl : c.length ≤ 64) (hr : RowS (New w w1) w1 q c) :
    Calls Tryz.prog 83 #[.pointer (some ⟨gi, L.length * 4, none⟩), .agg #[.int .i64 k, .slice q c.length capq, .int .i64 0, .int .i64 0, .bool false, .int .i64 0, .slice none 0 0]] w1 fun e w' => e = .returned (.tuple #[]) ∧ ∃ vl', SK base w' P (.slice (some ⟨gi, 0, none⟩) (L.length + 1) cap) (⟨y.va, vl', y.e.add (.mk k c 0 0 false 0 [])⟩ :: L) ∧ Kp (UpX (.slice (some ⟨gi, 0, none⟩) (L.length + 1) cap) y) w1 w' := by
  have hsm := inv.small hcn
  rw [List.length_map] at hsm
  have hs1 := hsk.kp hk1 (fun c _ e => by have e' : c = p := e; rw [e']; exact E.hPp)
  refine add_any base P _ gi cap y L w1 k 0 0 0 false q none c.length capq 0 0 _ rfl hs1 (by omega) (by omega) (Nat.le_trans E.hbw hk1.size) (fun b hb => Nat.lt_of_lt_of_le (E.hpw b hb) hk1.size) ?_
  rw [NodeS]
  refine ⟨rfl, rfl, rfl, rfl, rfl, ⟨by omega, by omega⟩, ⟨by decide, by decide⟩, ⟨by decide, by decide⟩, ⟨by decide, by decide⟩, by omega, hc, by simp, ⟨q, capq, rfl, ?_⟩, none, 0, rfl, by rw [KidsS]; trivial⟩
  refine RowS.mono hr ?_
  intro b hb
  exact ⟨⟨hsk.newF E.hpw E.hbw hb.1, hb.2⟩, rfl⟩
theorem leaf_post {x : Int} {t t' : List Int} {vl : Value} {w1 w' : World} {a' : Nat} {k : Int} {c : List Cl.Rg} (E : Env base P p s w) (hsk : SK base w P v (y :: L)) (inv : Sx.Inv cn (x :: t) g y.e (L.map Ent.e)) (hq : Sx.quant (x :: t) = none) (h40 : x ≠ 40) (h41 : x ≠ 41) (h124 : x ≠ 124)
    (hlf : Sx.leaf x t g = .ok (.mk k c 0 0 false 0 []) t' g) (hk5 : 1 ≤ k ∧ k ≤ 5) (hp1 : PB w1 p s b (a' : Int) g v) (ha : Sx.At s t' a') (hk1 : Kp (Own1 p) w w1) (hs' : SK base w' P v (⟨y.va, vl, y.e.add (.mk k c 0 0 false 0 [])⟩ :: L)) (hk' : Kp (UpX v y) w1 w') :
    TakePost base P p s b cn (x :: t) g y L w (.returned (.tuple #[])) w' := by
  have hl := Sx.leaf_len hlf
  refine .inl ⟨rfl, v, ⟨y.va, vl, y.e.add (.mk k c 0 0 false 0 [])⟩, L, g, t', ⟨hs', ⟨a', hp1.kp hk' (fun h => (hsk.upx h).2.1 E.hPp), ha⟩, inv.addN (by simp <;> omega) (by omega) (Sx.ne_mk (.inl ⟨by omega, by omega⟩) (fun n hn => by cases hn))⟩, fun r hr => .leaf hq h40 h41 h124 hlf hr, ?_, by simp <;> omega⟩
  exact (own_xp E hk1).after hk' (fun i _ hx => ⟨(hsk.upx hx).1, fun hP => absurd hP (hsk.upx hx).2.1⟩)
theorem leaf_bad_post {x : Int} {t : List Int} {w' : World} (E : Env base P p s w) (inv : Sx.Inv cn (x :: t) g y.e (L.map Ent.e)) (hq : Sx.quant (x :: t) = none) (h40 : x ≠ 40) (h41 : x ≠ 41) (h124 : x ≠ 124)
    (hlf : Sx.leaf x t g = .bad 2 (t.length + 1)) (hk : Kp (Own1 p) w w') : TakePost base P p s b cn (x :: t) g y L w (pan b 2) w' :=
  .inr ⟨2, rfl, .inl rfl, .leafBad _ hq h40 h41 h124 hlf, own_xp E hk⟩
theorem turn_at {l : List Int} {gi cap : Nat} (E : Env base P p s w) (hcn : cn ≤ 200) (hsk : SK base w P (.slice (some ⟨gi, 0, none⟩) (L.length + 1) cap) (y :: L)) (inv : Sx.Inv cn l g y.e (L.map Ent.e)) (m : Nat) :
    Calls Tryz.prog 78 #[.pointer (some ⟨gi, L.length * 4, none⟩)] (w.drewN m) fun e w' => e = .returned (.tuple #[]) ∧ ∃ va', SK base w' P (.slice (some ⟨gi, 0, none⟩) (L.length + 1) cap) (⟨va', .slice none 0 0, y.e.turn⟩ :: L) ∧ Kp (UpX (.slice (some ⟨gi, 0, none⟩) (L.length + 1) cap) y) (w.drewN m) w' := by
  have hsm := inv.small hcn
  rw [List.length_map] at hsm
  refine (turn_any base P _ gi cap y L (w.drewN m) rfl (hsk.below (bdrewN (Below.refl _ w))) (by omega) (by omega) E.hbw E.hpw (by omega) (by omega) hsm.2.2.2.2.1).mono ?_
  rintro e w' ⟨rfl, va', h1, h2⟩
  exact ⟨rfl, va', h1, h2.mono (fun _ _ hb => hb.elim .inl (fun hb => .inr (.inl hb)))⟩
theorem bar_post {t : List Int} {va : Value} {w' : World} {a m : Nat} (E : Env base P p s w) (hsk : SK base w P v (y :: L)) (inv : Sx.Inv cn (124 :: t) g y.e (L.map Ent.e)) (hp : PB w p s b (a : Int) g v) (ha : Sx.At s t a)
    (hs' : SK base w' P v (⟨va, .slice none 0 0, y.e.turn⟩ :: L)) (hk' : Kp (UpX v y) (w.drewN m) w') : TakePost base P p s b cn (124 :: t) g y L w (.returned (.tuple #[])) w' := by
  refine .inl ⟨rfl, v, ⟨va, .slice none 0 0, y.e.turn⟩, L, g, t, ⟨hs', ⟨a, (hp.drewN m).kp hk' (fun h => (hsk.upx h).2.1 E.hPp), ha⟩, inv.turn⟩, fun r hr => .turn hr, ?_, by simp⟩
  exact ((Kp.refl (Xp base P p) w).drewN m).after hk' (fun i _ hx => ⟨(hsk.upx hx).1, fun hP => absurd hP (hsk.upx hx).2.1⟩)
theorem rep_at {l t2 : List Int} {mn mx : Int} (E : Env base P p s w) (hcn : cn ≤ 200) (hsk : SK base w P v (y :: L)) (hpb : ∃ a : Nat, PB w p s b (a : Int) g v ∧ Sx.At s t2 a) (inv : Sx.Inv cn l g y.e (L.map Ent.e)) (ht : t2.length + 1 ≤ l.length) (hq : Sx.quant l = some (some (mn, mx, t2))) (hm : 0 ≤ mn ∧ mn ≤ 20) (hx : -1 ≤ mx ∧ mx ≤ 20) :
    Calls Tryz.prog 81 #[.pointer (some ⟨p, 0, none⟩), .int .i64 mn, .int .i64 mx] w (TakePost base P p s b cn l g y L w) := by
  obtain ⟨a, hp, ha⟩ := hpb
  obtain ⟨gi, cap, hv, hbg, hgl, hgp, hgc, _⟩ := hsk.inner
  have hsm := inv.small hcn
  rw [List.length_map] at hsm
  cases hat : y.e.at' with
  | false =>
    refine (rep_bad base P p s b g mn mx a v gi cap y L w hv hp hsk (by omega) hat).mono ?_
    rintro e w' ⟨rfl, hk⟩
    exact .inr ⟨2, rfl, .inl rfl, .repBad _ hq (.inr hat), own_xp E hk⟩
  | true =>
    have hne := inv.ok y.e (by simp) hat
    have hla : y.e.la = y.e.la.dropLast ++ [y.e.la.getLast hne] := (List.dropLast_concat_getLast hne).symm
    refine (rep_ok base P p s b g mn mx a v gi cap y L w _ _ t2 hv hp hsk (by omega) hat hla (by simp <;> omega) E.hpw E.hPp E.hs ha hm hx E.hbw).mono ?_
    rintro e w' ⟨rfl, a2, h1, h2, h3, h4⟩
    have hll := Sx.lazy_len t2
    refine .inl ⟨rfl, v, _, L, g, (Sx.lazyB t2).2, ⟨h1, ⟨a2, h2, h3⟩, inv.rep (by omega) hla⟩, fun r hr => .rep hq hat hla hr, ?_, by omega⟩
    refine h4.mono (fun i _ hi => ?_)
    rcases hi with e | e | e
    · subst e; exact ⟨E.hbp, fun _ => rfl⟩
    · have := hsk.upx (.inl e); exact ⟨this.1, fun hP => absurd hP this.2.1⟩
    · have := hsk.upx (.inr (.inr e)); exact ⟨this.1, fun hP => absurd hP this.2.1⟩
theorem rep_at2 {l t2 : List Int} {w1 : World} {mn mx : Int} (E : Env base P p s w) (hcn : cn ≤ 200) (hsk : SK base w P v (y :: L)) (hk1 : Kp (Own1 p) w w1) (hpb : ∃ a : Nat, PB w1 p s b (a : Int) g v ∧ Sx.At s t2 a) (inv : Sx.Inv cn l g y.e (L.map Ent.e)) (ht : t2.length + 1 ≤ l.length) (hq : Sx.quant l = some (some (mn, mx, t2))) (hm : 0 ≤ mn ∧ mn ≤ 20) (hx : -1 ≤ mx ∧ mx ≤ 20) :
    Calls Tryz.prog 81 #[.pointer (some ⟨p, 0, none⟩), .int .i64 mn, .int .i64 mx] w1 (TakePost base P p s b cn l g y L w) :=
  (rep_at (E.kp (own_xp E hk1)) hcn (hsk.kp hk1 (fun c _ e => by have e' : c = p := e; rw [e']; exact E.hPp)) hpb inv ht hq hm hx).mono (fun e w' h => h.from (own_xp E hk1))
theorem times_at {t : List Int} (E : Env base P p s w) (hsk : SK base w P v (y :: L)) (hpb : ∃ a : Nat, PB w p s b (a : Int) g v ∧ Sx.At s t a) : Calls Tryz.prog 82 #[.pointer (some ⟨p, 0, none⟩)] w (TimesPost w p s b g v (Sx.braces t)) := by
  obtain ⟨a, hp, ha⟩ := hpb
  obtain ⟨B0, hB, hb⟩ := E.errs
  exact times_any B0 p s b g a v w t hp E.hs ha hB (Nat.le_trans hb E.hbw) (Nat.le_trans hb E.hbp)
theorem times_bad_post {t : List Int} {w' : World} (E : Env base P p s w) (inv : Sx.Inv cn (123 :: t) g y.e (L.map Ent.e)) (hq : Sx.quant (123 :: t) = some none) (hk : Kp (Own1 p) w w') : TakePost base P p s b cn (123 :: t) g y L w (pan b 2) w' :=
  .inr ⟨2, rfl, .inl rfl, .repBad _ hq (.inl rfl), own_xp E hk⟩
theorem enter_at {t : List Int} (E : Env base P p s w) (hcn : cn ≤ 200) (hx : St base P p s b cn 40 t g v y L w) : Calls Tryz.prog 79 #[.pointer (some ⟨p, 0, none⟩)] w (TakePost base P p s b cn (40 :: t) g y L w) := by
  obtain ⟨hsk, ⟨a, hp, ha⟩, inv⟩ := hx
  have hsm := inv.small hcn
  rw [List.length_map] at hsm
  have hown : ∀ i, (i = p ∨ v.ownBlock = some i) → Xp base P p i := fun i hi => by
    rcases hi with e | e
    · subst e; exact ⟨E.hbp, fun _ => rfl⟩
    · have := hsk.upx (.inl e); exact ⟨this.1, fun hP => absurd hP this.2.1⟩
  by_cases hno : ∃ u, t = 63 :: 58 :: u
  · obtain ⟨u, rfl⟩ := hno
    refine (enter_non base P p s b g a v (y :: L) w u hp hsk (by simp <;> omega) E.hpw E.hPp E.hs ha E.hbw).mono ?_
    rintro e w' ⟨rfl, v', n2, cap2, rfl, a2, h1, h2, h3, h4⟩
    exact .inl ⟨rfl, _, entN 0, y :: L, g, u, ⟨h1, ⟨a2, h2, h3⟩, inv.push (by simp <;> omega) inv.g (by decide)⟩, fun r hr => .non hr, h4.mono (fun i _ hi => hown i hi), by simp <;> omega⟩
  · have hno' : ∀ u, t ≠ 63 :: 58 :: u := fun u hu => hno ⟨u, hu⟩
    by_cases h8 : g + 1 ≤ 8
    · refine (enter_cap base P p s b g a v (y :: L) w t hp hsk (by simp <;> omega) E.hpw E.hPp E.hs ha hno' ⟨inv.g.1, h8⟩ E.hbw).mono ?_
      rintro e w' ⟨rfl, v', n2, cap2, rfl, a2, h1, h2, h3, h4⟩
      have hg0 := inv.g.1
      exact .inl ⟨rfl, _, entN (g + 1), y :: L, g + 1, t, ⟨h1, ⟨a2, h2, h3⟩, inv.push (by simp) ⟨by omega, h8⟩ ⟨by omega, h8⟩⟩, fun r hr => .cap hno' hg0 h8 hr, h4.mono (fun i _ hi => hown i hi), by simp⟩
    · refine (enter_many p s b g a v w t hp E.hs ha hno' ⟨by omega, inv.g.2⟩).mono ?_
      rintro e w' ⟨rfl, hk⟩
      exact .inr ⟨3, rfl, .inr rfl, .many hno' (by omega), own_xp E hk⟩
theorem leave_at {t : List Int} (E : Env base P p s w) (hcn : cn ≤ 200) (hx : St base P p s b cn 41 t g v y L w) : Calls Tryz.prog 80 #[.pointer (some ⟨p, 0, none⟩)] w (TakePost base P p s b cn (41 :: t) g y L w) := by
  obtain ⟨hsk, ⟨a, hp, ha⟩, inv⟩ := hx
  have hsm := inv.small hcn
  rw [List.length_map] at hsm
  cases L with
  | nil =>
    refine (leave_bad base P p s b g a v y w hp hsk).mono ?_
    rintro e w' ⟨rfl, hk⟩
    exact .inr ⟨2, rfl, .inl rfl, .leaveBad t g y.e, own_xp E hk⟩
  | cons x' L =>
    have hpop := inv.pop
    have hsm2 := hpop.small hcn
    simp only [List.length_cons] at hsm
    have hl' : x'.e.la.length ≤ 1000 := by have h2 := hsm2.2.2.1; simp only [Sx.E.add, List.length_append] at h2; omega
    refine (leave_ok base P p s b g a v y x' L w hp hsk (by omega) E.hpw E.hPp E.hbp E.hbw (inv.gs y.e (by simp)) (by omega) (by omega) (by omega) hsm.2.2.2.2.1 (by omega) hsm.2.2.2.2.2.2 hl').mono ?_
    rintro e w' ⟨rfl, v', vl', h1, h2, h3⟩
    exact .inl ⟨rfl, v', _, L, g, t, ⟨h1, ⟨a, h2, ha⟩, hpop⟩, fun r hr => .leave hr, h3, by simp⟩
end
end Go.Proofs.YtfibhhegfhikmaaGreatDoor
