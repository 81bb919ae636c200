import Derived.Test.YtdoapojmenojoaaGreatDoorJPTk
import Derived.Test.YtdoapojmenojoaaGreatDoorJSynM8
set_option linter.unusedSimpArgs false
set_option linter.unusedVariables false
/- The whole of a pattern: the walk over its runes. -/
set_option linter.unusedVariables false
namespace Go.Proofs.YtdoapojmenojoaaGreatDoor
open Go.RowKit
open Sx (Nd)

theorem At.step {s : ByteArray} {l l' : List Int} {a a' : Nat} (h : Sx.At s l a) (h' : Sx.At s l' a') (hl : l'.length < l.length) (ha : a < s.size) : a + Rn.dW s a ≤ a' := by
  obtain ⟨k, hk, rfl, rfl⟩ := h
  obtain ⟨k', hk', rfl, rfl⟩ := h'
  rw [List.length_drop, List.length_drop, Sx.toks_len] at hl
  rw [← Rn.pos_succ s k ha]
  have := Rn.pos_mono s (k + 1) (k' - (k + 1))
  rwa [show k + 1 + (k' - (k + 1)) = k' by omega] at this
theorem At.skip {s : ByteArray} {l : List Int} {a k : Nat} (h : Sx.At s l a) (hk : Rn.pos s k < a) : Rn.pos s (k + 1) ≤ a := by
  obtain ⟨k', hk', rfl, rfl⟩ := h
  by_cases hle : k' ≤ k
  · have := Rn.pos_mono s k' (k - k')
    rw [show k' + (k - k') = k by omega] at this
    omega
  · have := Rn.pos_mono s (k + 1) (k' - (k + 1))
    rwa [show k + 1 + (k' - (k + 1)) = k' by omega] at this
/- the stack at a rune's beginning; the iterator is not behind it -/
structure PL (base : Nat) (P0 P : Nat → Prop) (p : Nat) (s : ByteArray) (R : Nat) (w0 : World) (k : Nat) (a : Nat) (b : Int) (l : List Int) (g : Int) (v : Value) (y : Ent) (L : List Ent) (w : World) : Prop where
  hk : k ≤ Rn.cnt s
  ha : Rn.pos s k ≤ a
  sk : SK base w P v (y :: L)
  pb : PB w p s b (a : Int) g v
  at' : Sx.At s l a
  inv : Sx.Inv (Rn.cnt s) l g y.e (L.map Ent.e)
  ran : ∀ r, Sx.Ran l g y.e (L.map Ent.e) r → Sx.whole (Sx.toks s) r
  kp : Kp (Xp base P0 p) w0 w
  env : Env base P p s w
  sev : Seven0 w R
def PLoop (base : Nat) (P0 P : Nat → Prop) (p : Nat) (s : ByteArray) (R I : Nat) (w0 : World) (w : World) : Prop :=
  ∃ k a b l g v y L, Cur w I s (Rn.pos s k) ∧ PL base P0 P p s R w0 k a b l g v y L w
def PatPost (base : Nat) (P : Nat → Prop) (p : Nat) (s : ByteArray) (w : World) (e : Ending) (w' : World) : Prop :=
  ((∃ u n g, e = .returned u ∧ NodeVS (fun b => base ≤ b ∧ ¬ P b ∧ b < w'.heap.size) w' u n ∧ Sx.whole (Sx.toks s) (.ok n [] g)) ∨ ∃ k left, e = pan (Sx.plc s left) k ∧ (k = 2 ∨ k = 3) ∧ Sx.whole (Sx.toks s) (.bad k left)) ∧ Kp (Xp base P p) w w'
theorem xp_weak {base : Nat} {P P' : Nat → Prop} {p : Nat} {w w' : World} (h : Kp (Xp base P' p) w w') (hP : ∀ b, P b → P' b) : Kp (Xp base P p) w w' := h.mono (fun _ _ hx => ⟨hx.1, fun hp => hx.2 (hP _ hp)⟩)
def P2 (P : Nat → Prop) (w : World) : Nat → Prop := fun b => (P b ∨ b = w.heap.size) ∨ b = w.heap.size + 1
abbrev W0 (s : ByteArray) (w : World) : World := (w.alloc (.cells #[.int .i64 0, .slice none 0 0, .int .i64 0, .int .i64 0, .bool false, .int .i64 0, .slice none 0 0] 29)).iter s 0
theorem w0_below (s : ByteArray) (w : World) : Below w.heap.size w (W0 s w) := ((Below.refl w.heap.size w).alloc (Nat.le_refl _) _).trans (Below.alloc (Below.refl _ _) (by simp) _)
theorem w0_size (s : ByteArray) (w : World) : (W0 s w).heap.size = w.heap.size + 2 := by
  show ((w.alloc (.cells #[.int .i64 0, .slice none 0 0, .int .i64 0, .int .i64 0, .bool false, .int .i64 0, .slice none 0 0] 29)).alloc (.stringIter s 0)).heap.size = _
  rw [World.size_alloc, World.size_alloc]
theorem w0_cur (s : ByteArray) (w : World) : Cur (W0 s w) (w.heap.size + 1) s 0 := by
  have := Cur.new (w.alloc (.cells #[.int .i64 0, .slice none 0 0, .int .i64 0, .int .i64 0, .bool false, .int .i64 0, .slice none 0 0] 29)) s
  rwa [World.size_alloc] at this
theorem w0_seven (s : ByteArray) (w : World) : Seven0 (W0 s w) w.heap.size :=
  (Below.heap_alloc (w.alloc (.cells #[.int .i64 0, .slice none 0 0, .int .i64 0, .int .i64 0, .bool false, .int .i64 0, .slice none 0 0] 29)) (.stringIter s 0) w.heap.size (by simp)).trans (seven0_new w)
theorem w0_sk {base : Nat} {P : Nat → Prop} {v : Value} {L : List Ent} {w : World} (s : ByteArray) (h : SK base w P v L) : SK base (W0 s w) (P2 P w) v L := by
  have := (h.excl (.cells #[.int .i64 0, .slice none 0 0, .int .i64 0, .int .i64 0, .bool false, .int .i64 0, .slice none 0 0] 29)).excl (.stringIter s 0)
  rw [World.size_alloc] at this
  exact this
theorem w0_env {base : Nat} {P : Nat → Prop} {p : Nat} {s : ByteArray} {w : World} (E : Env base P p s w) : Env base (P2 P w) p s (W0 s w) := by
  obtain ⟨B0, hB, hb⟩ := E.errs
  have hz := w0_size s w
  refine ⟨by have := E.hbw; omega, fun b hb => ?_, .inl (.inl E.hPp), E.hs, E.hbp, B0, hB.below ((w0_below s w).mono (Nat.le_trans hb E.hbw)), hb⟩
  rw [hz]
  rcases hb with (h | h) | h
  · have := E.hpw b h; omega
  · omega
  · omega
theorem pl_start {base : Nat} {P : Nat → Prop} {p : Nat} {s : ByteArray} {v0 : Value} {w : World} (E : Env base P p s w) (hp : PB w p s 0 0 0 v0) (hsk : SK base w P v0 [entN 0]) : PLoop base P (P2 P w) p s w.heap.size (w.heap.size + 1) w (W0 s w) := by
  refine ⟨0, 0, 0, Sx.toks s, 0, v0, entN 0, [], w0_cur s w, Nat.zero_le _, Nat.zero_le _, w0_sk s hsk, hp.below (w0_below s w), Sx.at_start s, ?_, fun r hr => hr, below_kp _ (w0_below s w), w0_env E, w0_seven s w⟩
  have := Sx.Inv.start (Sx.toks s)
  rwa [Sx.toks_len] at this
/- the pieces of a round -/
structure RdZ (base : Nat) (P0 P : Nat → Prop) (p : Nat) (s : ByteArray) (k : Nat) (b : Int) (x : Int) (t : List Int) (g : Int) (v : Value) (y : Ent) (L : List Ent) (R I : Nat) (w0 w1 : World) : Prop where
  sk : SK base w1 P v (y :: L)
  pb : PB w1 p s b (Rn.pos s k : Nat) g v
  at' : Sx.At s (x :: t) (Rn.pos s k)
  inv : Sx.Inv (Rn.cnt s) (x :: t) g y.e (L.map Ent.e)
  ran : ∀ r, Sx.Ran (x :: t) g y.e (L.map Ent.e) r → Sx.whole (Sx.toks s) r
  kp : Kp (Xp base P0 p) w0 w1
  cur : Cur w1 I s (Rn.pos s (k + 1))
  env : Env base P p s w1
  sev : Seven0 w1 R
section
variable {base : Nat} {P0 P : Nat → Prop} {p : Nat} {s : ByteArray} {k : Nat} {b : Int} {x : Int} {t : List Int} {g : Int} {v : Value} {y : Ent} {L : List Ent} {R I : Nat} {w0 w1 w2 : World}
theorem goBy_at (h : RdZ base P0 P p s k b x t g v y L R I w0 w1) (hP : ∀ b, P0 b → P b) (hI : P I ∧ I ≠ p) (hR : P R ∧ R ≠ p) (hx : 0 ≤ x) :
    Calls Tryz.prog 69 #[.pointer (some ⟨p, 0, none⟩), .int .i32 (Rn.dR s (Rn.pos s k) : Nat)] (w1.setCell ⟨p, 1, none⟩ (.int .i64 (Rn.pos s k : Nat))) fun e w' => e = .returned (.tuple #[]) ∧ St base P p s (Rn.pos s k : Nat) (Rn.cnt s) x t g v y L w' ∧ Kp (Xp base P0 p) w0 w' ∧ Cur w' I s (Rn.pos s (k + 1)) ∧ Env base P p s w' ∧ Seven0 w' R := by
  refine (goBy_ok p s (Rn.pos s k : Nat) g (Rn.pos s k) v _ x t (h.pb.set1 _) h.env.hs h.at' hx).mono ?_
  rintro e w' ⟨rfl, hp, hk⟩
  have hset : Kp (Own1 p) w1 (w1.setCell ⟨p, 1, none⟩ (.int .i64 (Rn.pos s k : Nat))) := (Kp.refl (Own1 p) w1).set ⟨p, 1, none⟩ (.inl rfl) _
  have hkk := hset.trans hk
  exact ⟨rfl, ⟨h.sk.kp hkk (fun c _ e => by have e' : c = p := e; rw [e']; exact h.env.hPp), ⟨_, hp, h.at'.cons.2.2⟩, h.inv⟩, h.kp.trans (xp_weak (own_xp h.env hkk) hP), (hkk.block I h.cur.lt (fun e => hI.2 e)).trans h.cur, h.env.kp (own_xp h.env hkk), h.sev.kp hkk (fun e => hR.2 e)⟩
theorem goBy_not (h : RdZ base P0 P p s k b x t g v y L R I w0 w1) (hP : ∀ b, P0 b → P b) (hx : ¬ 0 ≤ x) :
    Calls Tryz.prog 69 #[.pointer (some ⟨p, 0, none⟩), .int .i32 (Rn.dR s (Rn.pos s k) : Nat)] (w1.setCell ⟨p, 1, none⟩ (.int .i64 (Rn.pos s k : Nat))) fun e w' => e = pan (Rn.pos s k : Nat) 2 ∧ (∃ left, ((Rn.pos s k : Nat) : Int) = Sx.plc s left ∧ Sx.whole (Sx.toks s) (.bad 2 left)) ∧ Kp (Xp base P0 p) w0 w' := by
  refine (goBy_bad p s (Rn.pos s k : Nat) g (Rn.pos s k) v _ x t (h.pb.set1 _) h.env.hs h.at' hx).mono ?_
  rintro e w' ⟨rfl, hk⟩
  have hset : Kp (Own1 p) w1 (w1.setCell ⟨p, 1, none⟩ (.int .i64 (Rn.pos s k : Nat))) := (Kp.refl (Own1 p) w1).set ⟨p, 1, none⟩ (.inl rfl) _
  refine ⟨rfl, ⟨(x :: t).length, h.at'.plc.symm, h.ran _ ?_⟩, h.kp.trans (xp_weak (own_xp h.env (hset.trans hk)) hP)⟩
  refine .leafBad _ (quant_self (by omega) (by omega) (by omega) (by omega)) (by omega) (by omega) (by omega) ?_
  unfold Sx.leaf
  rw [if_neg (by omega), if_neg (by omega), if_neg (by omega), if_neg (by omega), if_neg (by omega), if_pos (.inl (by omega))]
  rfl
def TkPost (base : Nat) (P0 P : Nat → Prop) (p : Nat) (s : ByteArray) (k R I : Nat) (w0 : World) (e : Ending) (w' : World) : Prop :=
  (e = .returned (.tuple #[]) ∧ PLoop base P0 P p s R I w0 w' ∧ Cur w' I s (Rn.pos s (k + 1))) ∨ (∃ q, e = pan (Rn.pos s k : Nat) q ∧ (q = 2 ∨ q = 3) ∧ (∃ left, ((Rn.pos s k : Nat) : Int) = Sx.plc s left ∧ Sx.whole (Sx.toks s) (.bad q left)) ∧ Kp (Xp base P0 p) w0 w')
theorem take_at (h : RdZ base P0 P p s k b x t g v y L R I w0 w1) (hP : ∀ b, P0 b → P b) (hI : P I ∧ I ≠ p) (hR : P R ∧ R ≠ p) (hx : 0 ≤ x) (hk0 : k < Rn.cnt s)
    (hs : St base P p s (Rn.pos s k : Nat) (Rn.cnt s) x t g v y L w2) (hk2 : Kp (Xp base P0 p) w0 w2) (hc2 : Cur w2 I s (Rn.pos s (k + 1))) (E2 : Env base P p s w2) (h7 : Seven0 w2 R) :
    Calls Tryz.prog 70 #[.pointer (some ⟨p, 0, none⟩), .int .i32 (Rn.dR s (Rn.pos s k) : Nat)] w2 (TkPost base P0 P p s k R I w0) := by
  have hcn : Rn.cnt s ≤ 200 := Nat.le_trans (Rn.cnt_le s) E2.hs
  have hpl := (Rn.cnt_lt s k).1 hk0
  have hxe : x = (Rn.dR s (Rn.pos s k) : Nat) := by
    have h1 := h.at'.cons.2.1
    rw [h1, Sx.tok_rune (by rw [← h1]; exact hx)]
  have htop : x ≤ 1114111 := by rw [h.at'.cons.2.1]; exact Sx.tok_top hpl
  rw [← hxe]
  refine (take_any base P p s (Rn.pos s k : Nat) (Rn.cnt s) g v y L w2 x t E2 hcn hs hx htop).mono ?_
  rintro e w' (⟨rfl, v', y', L', g', l', hv, hr, hk, hl⟩ | ⟨q, rfl, hq, hr, hk⟩)
  · obtain ⟨a', hp', ha'⟩ := hv.pb
    have hst := At.step h.at' ha' hl hpl
    have hcur : Cur w' I s (Rn.pos s (k + 1)) := (hk.block I hc2.lt (fun hx => hI.2 (hx.2 hI.1))).trans hc2
    refine .inl ⟨rfl, ⟨k + 1, a', _, l', g', v', y', L', hcur, by omega, ?_, hv.sk, hp', ha', hv.inv, fun r hr' => h.ran r (hr r hr'), hk2.trans (xp_weak hk hP), E2.kp hk, h7.kp hk (fun hx => hR.2 (hx.2 hR.1))⟩, hcur⟩
    rw [Rn.pos_succ s k hpl]
    exact hst
  · exact .inr ⟨q, rfl, hq, ⟨(x :: t).length, h.at'.plc.symm, h.ran _ hr⟩, hk2.trans (xp_weak hk hP)⟩
end
set_option maxRecDepth 20000 in
set_option maxHeartbeats 4000000 in
theorem pattern_any (base : Nat) (P : Nat → Prop) (p : Nat) (s : ByteArray) (v0 : Value) (w : World) (E : Env base P p s w) (hp : PB w p s 0 0 0 v0) (hsk : SK base w P v0 [entN 0]) :
    Calls Tryz.prog 42 #[.pointer (some ⟨p, 0, none⟩)] w (PatPost base P p s w) := by
  have hpl := hp.lt
  have c0 := hp.c0
  have hpn : ¬ p = w.heap.size := Nat.ne_of_lt hpl
  have HP := Lib.hid hp
  have HS := Lib.hid hsk
  have HE := Lib.hid E
  clear hp hsk E
  go_enter Tryz.func42, Tryz.ntmps42
  have hRp : w.heap.size ≠ p := fun e => hpn e.symm
  have hIp : w.heap.size + 1 ≠ p := by omega
  go_wp2_with fail
  go_loopw [3, 4] (fun _ _ wr => PLoop base P (P2 P w) p s w.heap.size (w.heap.size + 1) w wr) (fun _ _ wr => s.size - wr.iterPos (w.heap.size + 1))
  case atStart => exact pl_start HE.out HP.out HS.out
  case round =>
    obtain ⟨k, a, b, l, g, v, y, L, hcur, hpl1⟩ := hrel
    have I0 := Lib.hid hcur.at
    have HPL := Lib.hid hpl1
    have HQ := Lib.hid (show (∀ b, P b → P2 P w b) ∧ (P2 P w (w.heap.size + 1) ∧ w.heap.size + 1 ≠ p) ∧ (P2 P w w.heap.size ∧ w.heap.size ≠ p) from ⟨fun b hb => .inl (.inl hb), ⟨.inr rfl, hIp⟩, .inl (.inr rfl), hRp⟩)
    have hs2 := HE.out.hs
    clear hpl1
    by_cases hl : Rn.pos s k < s.size
    · obtain ⟨w1, hn, i1, _, _, z1, b1, o1, g1⟩ := next_spec (P := Tryz.prog) _ _ _ _ hcur hl
      have hk' := (Rn.cnt_lt s k).2 hl
      have hps := Rn.pos_succ s k hl
      have HI1 := Lib.hid (show Cur w1 (w.heap.size + 1) s (Rn.pos s (k + 1)) by rw [hps]; exact i1)
      have hkp : Kp (fun b => b = w.heap.size + 1) wr w1 := (Kp.refl _ wr).grown g1 (fun j e => .inl (by simp at e; exact e.symm))
      have HS1 := Lib.hid (HPL.out.sk.kp hkp (fun c _ e => by rw [e]; exact HQ.out.2.1.1))
      have HP1 := Lib.hid (HPL.out.pb.kp hkp (fun e => HQ.out.2.1.2 e.symm))
      have hIle : w.heap.size ≤ w.heap.size + 1 := Nat.le_succ _
      have HK1 := Lib.hid (HPL.out.kp.after hkp (fun i hi e => by omega))
      have HE1 := Lib.hid (show Env base (P2 P w) p s w1 from ⟨Nat.le_trans HPL.out.env.hbw hkp.size, fun b hb => Nat.lt_of_lt_of_le (HPL.out.env.hpw b hb) hkp.size, HPL.out.env.hPp, hs2, HPL.out.env.hbp, by
        obtain ⟨B0, hB, hb⟩ := HPL.out.env.errs
        exact ⟨B0, hB.below (hkp.to (Nat.le_trans hb HPL.out.env.hbw) (fun i hi e => by have := HE.out.hbw; omega)), hb⟩⟩)
      have HV1 := Lib.hid (HPL.out.sev.kp hkp (by omega))
      have c2 := HP1.out.c2
      have c1 := HP1.out.c1
      have f1 := HP1.out.fz 1
      have hplt := HP1.out.lt
      have hdw := Rn.dW_pos s (Rn.pos s k)
      have hpl2 := Rn.pos_le s (k + 1)
      have hmeas : (w1.iterPos (w.heap.size + 1)) = Rn.pos s (k + 1) := HI1.out.at
      clear i1 z1 b1 o1 g1 hkp hcur
      by_cases hlt : Rn.pos s k < a
      · have hd : decide (((Rn.pos s k : Nat) : Int) < (a : Int)) = true := by rw [decide_eq_true_iff]; omega
        go_wp2_with fail
        go_roundw
        case rel => exact ⟨k + 1, a, b, l, g, v, y, L, HI1.out, hk', At.skip HPL.out.at' hlt, HS1.out, HP1.out, HPL.out.at', HPL.out.inv, HPL.out.ran, HK1.out, HE1.out, HV1.out⟩
        case measure => rw [hmeas, I0.out]; omega
      · have hae : a = Rn.pos s k := by have := HPL.out.ha; omega
        subst hae
        have hd : decide (((Rn.pos s k : Nat) : Int) < ((Rn.pos s k : Nat) : Int)) = false := by rw [decide_eq_false_iff_not]; omega
        obtain ⟨x, t, rfl⟩ := HPL.out.at'.more hl
        have HZ := Lib.hid (show RdZ base P (P2 P w) p s k b x t g v y L w.heap.size (w.heap.size + 1) w w1 from ⟨HS1.out, HP1.out, HPL.out.at', HPL.out.inv, HPL.out.ran, HK1.out, HI1.out, HE1.out, HV1.out⟩)
        by_cases hx : 0 ≤ x
        · have HG := Lib.hid (goBy_at HZ.out HQ.out.1 HQ.out.2.1 HQ.out.2.2 hx)
          clear HS1 HP1 HPL HK1 HI1 HE1 HV1
          go_wp2_with (go_at_call 69; refine HG.out.mono ?_; rintro e w2 ⟨rfl, hst, hk2, hc2, he2, h72⟩; have HT := Lib.hid (take_at HZ.out HQ.out.1 HQ.out.2.1 HQ.out.2.2 hx hk' hst hk2 hc2 he2 h72); clear hst hk2 hc2 he2 h72)
          refine HT.out.mono ?_
          rintro e w3 (⟨rfl, hlp, hc3⟩ | ⟨q, rfl, hq, ⟨left, hpe, hwh⟩, hk3⟩)
          · have HLP := Lib.hid hlp
            have hm3 : (w3.iterPos (w.heap.size + 1)) = Rn.pos s (k + 1) := hc3.at
            clear hlp hc3
            go_wp2_with fail
            go_roundw
            case rel => exact HLP.out
            case measure => rw [hm3, I0.out]; omega
          · have HF := Lib.hid (And.intro hwh hk3)
            clear hwh hk3
            rw [hpe]
            unfold pan
            go_wp2_with fail
            exact ⟨rfl, .inr ⟨q, left, rfl, hq, HF.out.1⟩, HF.out.2⟩
        · have HG := Lib.hid (goBy_not HZ.out HQ.out.1 hx)
          clear HS1 HP1 HPL HK1 HI1 HE1 HV1
          go_wp2_with fail
          refine HG.out.mono ?_
          rintro e w2 ⟨rfl, ⟨left, hpe, hwh⟩, hk3⟩
          have HF := Lib.hid (And.intro hwh hk3)
          clear hwh hk3
          rw [hpe]
          unfold pan
          go_wp2_with fail
          exact ⟨rfl, .inr ⟨2, left, rfl, .inl rfl, HF.out.1⟩, HF.out.2⟩
    · have hn := next_end (P := Tryz.prog) _ _ _ _ hcur hl
      have hps : Rn.pos s k = s.size := by have := Rn.pos_le s k; omega
      have has : a = s.size := by have := HPL.out.at'.le; have := HPL.out.ha; omega
      subst has
      obtain rfl : l = [] := by
        cases l with
        | nil => rfl
        | cons x t => have := HPL.out.at'.cons.1; omega
      have hpb := HPL.out.pb
      have c0 := hpb.c0
      have c1 := hpb.c1
      have f1 := hpb.fz 1
      have c4 := hpb.c4
      have hplt := hpb.lt
      obtain ⟨gi, cap, hv, hbg, hgl, hgp, hgc, _⟩ := HPL.out.sk.inner
      subst hv
      clear hpb
      cases L with
      | cons y2 L =>
        have hd : decide (((L.length : Int) + 1 + 1) > 1) = true := by rw [decide_eq_true_iff]; omega
        have HW := Lib.hid (wrong_any p s (s.size : Int) _ _ _ _ (HPL.out.pb.set1 (s.size : Int)))
        have HF := Lib.hid (show Sx.whole (Sx.toks s) (.bad 2 0) ∧ Sx.plc s 0 = (s.size : Int) ∧ Kp (Xp base P p) w (wr.setCell ⟨p, 1, none⟩ (.int .i64 (s.size : Int))) from ⟨HPL.out.ran _ (.endBad _ _ _ _), HPL.out.at'.plc, HPL.out.kp.set ⟨p, 1, none⟩ (.inl ⟨HE.out.hbp, fun _ => rfl⟩) _⟩)
        clear HPL
        simp only [List.length_cons] at c4
        go_wp2_with (go_at_call 71; refine HW.out.mono ?_; rintro e w2 ⟨rfl, rfl⟩; unfold pan)
        refine ⟨rfl, .inr ⟨2, 0, ?_, .inl rfl, HF.out.1⟩, HF.out.2.2⟩
        rw [HF.out.2.1]
        rfl
      | nil =>
        have hcn : Rn.cnt s ≤ 200 := Nat.le_trans (Rn.cnt_le s) hs2
        have hsm := HPL.out.inv.small hcn
        have hset : Kp (Own1 p) wr (wr.setCell ⟨p, 1, none⟩ (.int .i64 (s.size : Int))) := (Kp.refl (Own1 p) wr).set ⟨p, 1, none⟩ (.inl rfl) _
        have hskz := HPL.out.sk.kp hset (fun c _ e => by have e' : c = p := e; rw [e']; exact HPL.out.env.hPp)
        have hpz := HPL.out.pb.set1 (s.size : Int)
        have hez := HPL.out.env.kp (own_xp HPL.out.env hset)
        have hkz := HPL.out.kp.trans (xp_weak (own_xp HPL.out.env hset) HQ.out.1)
        have h7z := HPL.out.sev.kp hset (fun e => hRp e)
        have HWH := Lib.hid (HPL.out.ran _ (.fin g y.e))
        generalize hwz : wr.setCell ⟨p, 1, none⟩ (.int .i64 (s.size : Int)) = wz at hskz hpz hez hkz h7z
        have d4 := hpz.c4
        simp only [List.length_nil, Nat.zero_add] at c4 d4
        have HI := Lib.hid (inner_any base p s (s.size : Int) (s.size : Int) g gi 0 cap wz hpz (by omega))
        have HT := Lib.hid (fun m => through_any base (P2 P w) _ gi cap y [] (wz.drewN m) rfl (hskz.below (bdrewN (Below.refl _ wz))) (by simp) (by omega) hez.hbw hez.hpw (by omega) (by omega) hsm.2.2.2.2.1 (by omega) hsm.2.2.2.2.2.2)
        have HX := Lib.hid (fun b hb => hskz.upx (b := b) hb)
        have HZ := Lib.hid (And.intro hkz h7z)
        clear HPL hskz hpz hez hkz h7z hsm hset
        go_wp2_with (first | (go_at_call 72; refine HI.out.mono ?_; rintro e w1 ⟨rfl, m1, rfl⟩) | (go_at_call 73; refine (HT.out m1).mono ?_; rintro e w2 ⟨u, rfl, ⟨k9, vc, mn, mx, lz, gn, vl, rfl, hnd⟩, _, hk⟩; obtain ⟨ka, ki, kj, kb, ks, kt, rfl, rfl⟩ := nodeS_shape hnd; have hnR : ∀ b, (Value.ownBlock (.slice (some ⟨gi, 0, none⟩) 1 cap) = some b ∨ y.va.ownBlock = some b) → base ≤ b ∧ ¬ P2 P w b := fun b hb => (fun h => ⟨h.1, h.2.1⟩) (HX.out b (hb.elim .inl (fun h => .inr (.inl h)))); have h7 := (HZ.out.2.kp ((Kp.refl (fun _ => False) wz).drewN m1) (fun h => h)).kp hk (fun h => (hnR _ h).2 HQ.out.2.2.1); have HN := Lib.hid hnd; have HK := Lib.hid ((HZ.out.1.drewN m1).trans (hk.mono (fun b _ hb => ⟨(hnR b hb).1, fun hP => absurd (.inl (.inl hP)) (hnR b hb).2⟩))); obtain ⟨y0, y1, y2, y3, y4, y5, y6, yf⟩ := h7.cells; clear hk h7 hnR hnd; unfold ndv))
        have h7 := set7_seven w2 w.heap.size k9 mn mx gn lz (.slice ka ki kj) (.slice kb ks kt) y0 y1 y2 y3 y4 y5 y6
        have HNF := Lib.hid (show NodeVS (fun b => base ≤ b ∧ ¬ P b ∧ b < (set7 w2 w.heap.size (.int .i64 k9) (.slice ka ki kj) (.int .i64 mn) (.int .i64 mx) (.bool lz) (.int .i64 gn) (.slice kb ks kt)).heap.size) (set7 w2 w.heap.size (.int .i64 k9) (.slice ka ki kj) (.int .i64 mn) (.int .i64 mx) (.bool lz) (.int .i64 gn) (.slice kb ks kt)) (ndv k9 (.slice ka ki kj) mn mx lz gn (.slice kb ks kt)) y.e.thr from NodeVS.set7 HN.out (fun b hb => ⟨⟨hb.1.1, fun hP => hb.1.2.1 (.inl (.inl hP)), by rw [set7_size]; exact hb.2⟩, fun e => hb.1.2.1 (.inl (.inr e))⟩) _ _ _ _ _ _ _)
        have HKF := Lib.hid (HK.out.set7 (B := w.heap.size) (Nat.le_refl _) (.int .i64 k9) (.slice ka ki kj) (.int .i64 mn) (.int .i64 mx) (.bool lz) (.int .i64 gn) (.slice kb ks kt))
        change bodyPost _ _ _ _ _ (set7 w2 w.heap.size (.int .i64 k9) (.slice ka ki kj) (.int .i64 mn) (.int .i64 mx) (.bool lz) (.int .i64 gn) (.slice kb ks kt))
        obtain ⟨z0, z1, z2, z3, z4, z5, z6⟩ := h7
        simp only [Nat.zero_add] at z0 z1 z2 z3 z4 z5 z6
        clear y0 y1 y2 y3 y4 y5 y6 yf HN HK HZ HX HT HI c4 d4 c0 c1 f1 hwz
        generalize (set7 w2 w.heap.size (.int .i64 k9) (.slice ka ki kj) (.int .i64 mn) (.int .i64 mx) (.bool lz) (.int .i64 gn) (.slice kb ks kt)) = wf at *
        exact bodyPost_ret (v := ndv k9 (.slice ka ki kj) mn mx lz gn (.slice kb ks kt)) (by unfold ndv; simp [results, Tryz.results42, go_sem, *]) rfl ⟨.inl ⟨_, y.e.thr, g, rfl, HNF.out, HWH.out⟩, HKF.out⟩
end Go.Proofs.YtdoapojmenojoaaGreatDoor
