import Derived.Test.YtdoapojmenojoaaGreatDoorJPSize
import Derived.Test.YtdoapojmenojoaaGreatDoorJSynM12
import Derived.Test.YtdoapojmenojoaaGreatDoorJSmOver
import Derived.Test.YtdoapojmenojoaaGreatDoorJSimM
import Derived.Deep.RegionHeld3
import Derived.Lib.MinMax
set_option linter.unusedSimpArgs false
set_option linter.unusedVariables false
section
/- What is known of a pattern that was parsed. -/
set_option linter.unusedVariables false
namespace Go.Proofs.YtdoapojmenojoaaGreatDoor
open Go.RowKit
open Sx (Nd)

theorem few_pat {ws : List Int} {t : ByteArray} (h : PatText ws t) : Sx.Few (Sx.toks t) := by
  rw [(Sx.backT h.2.1 h.1).2.2]
  exact h.2.2
theorem ok_parsed {s : ByteArray} {n : Nd} {a : Int} (h : Sx.Parsed s n a 0) (hf : Sx.Few (Sx.toks s)) : nsz n ≤ 602 ∧ Sx.right n ∧ (0 ≤ Sx.groups n ∧ Sx.groups n ≤ 8) ∧ (bs (Sx.put n)).size ≤ 1360000 ∧ a = s.size := by
  obtain ⟨hz, ha, g, he⟩ := Sx.parsed_tree h
  have hF := Sx.parsed_form he hf.top
  have hr := Sx.form_right hF (by decide)
  have hg := Sx.form_groups hF (by decide)
  have h8 := (Sx.form_mono hF).2 (by decide)
  have hs := Sx.parsed_small h
  refine ⟨hs, hr, ?_, Sx.put_bytes hr (by omega), ha⟩
  rw [hg]
  split <;> omega
theorem bad_parsed {s : ByteArray} {n : Nd} {a e : Int} (h : Sx.Parsed s n a e) (he : e ≠ 0) (hz : s.size ≤ 200) : n = Sx.empty ∧ 0 ≤ a ∧ a ≤ s.size := by
  have hp : ∀ left, 0 ≤ Sx.plc s left ∧ Sx.plc s left ≤ s.size := fun left => by
    unfold Sx.plc
    have := Rn.pos_le s (Rn.cnt s - left)
    omega
  cases h with
  | long h => omega
  | ok n g => exact absurd rfl he
  | close n x t g => exact ⟨rfl, hp _⟩
  | bad e left => exact ⟨rfl, hp _⟩
theorem nv_empty {w : World} {k : Int} {ka : Option Addr} {ki kj : Nat} {mn mx : Int} {lz : Bool} {g : Int} {kb : Option Addr} {ks kt : Nat} (h : NodeV w (nv k ka ki kj mn mx lz g kb ks kt) Sx.empty) : k = 0 ∧ ks = 0 := by
  obtain ⟨k', c, mn', mx', lz', g', kids, p, cap, q, cap', e1, e2, _⟩ := node_open h
  unfold Sx.empty at e1
  unfold ndv at e2
  simp only [Value.agg.injEq, Array.mk.injEq, List.cons.injEq, Value.int.injEq, Value.slice.injEq, true_and, and_true] at e2
  injection e1 with x1 x2 x3 x4 x5 x6 x7
  subst x7
  exact ⟨by rw [e2.1, ← x1], e2.2.2.2.2.2.2.2.1⟩
end Go.Proofs.YtdoapojmenojoaaGreatDoor
end

section
/- The laws of chapter 6: what each call of theirs tells, in one form. -/
set_option linter.unusedVariables false
namespace Go.Proofs.YtdoapojmenojoaaGreatDoor
open Go.RowKit
open Sx (Nd)

/- what Of is to tell -/
def OfIs (n t : Nd) (er : Int) : Prop := (Sx.right n ∧ Sx.un n = some t ∧ er = 0) ∨ (Sx.right n ∧ Sx.un n = none ∧ t = Sx.empty ∧ er = 3) ∨ (¬ Sx.right n ∧ t = Sx.empty ∧ er = 1)
abbrev PoPost (n : Nd) (er : Int) (w : World) (e : Ending) (w' : World) : Prop :=
  ∃ k ka ki kj mn mx lz g kb ks kt, e = .returned (.tuple #[nv k ka ki kj mn mx lz g kb ks kt, .int .i64 er]) ∧ NodeV w' (nv k ka ki kj mn mx lz g kb ks kt) n ∧ Below w.heap.size w w'
theorem zero_node (w : World) : NodeV w (nv 0 none 0 0 0 0 false 0 none 0 0) Sx.empty := ⟨0, _, 0, 0, false, 0, _, rfl, node_mk (c := []) (kids := []) ⟨by decide, by decide⟩ ⟨by decide, by decide⟩ ⟨by decide, by decide⟩ ⟨by decide, by decide⟩ (by simp) (fun k r hr => by simp at hr) (by simp) (RowP.nil _ _) (fun i n h => by simp at h)⟩
theorem po_any {n t : Nd} {er : Int} {u : Value} (w : World) (h : NodeV w u n) (ho : OfIs n t er) (hz : nsz n ≤ 500000) : Calls Tryz.prog 30 #[u] w (PoPost t er w) := by
  refine (sof_any n u w h hz).mono ?_
  rintro e w' (⟨u', t', hr, hu, rfl, hn, hb⟩ | ⟨hr, hu, rfl, hb⟩ | ⟨hr, rfl, hb⟩)
  · rcases ho with ⟨_, hu', rfl⟩ | ⟨_, hu', _⟩ | ⟨hr', _⟩
    · rw [hu] at hu'
      cases hu'
      obtain ⟨k, ka, ki, kj, mn, mx, lz, g, kb, ks, kt, rfl, hv⟩ := (NodeVS.is hn (fun b hb' => Joined.lt (fun b h => h) hb.size hb')).open
      exact ⟨k, ka, ki, kj, mn, mx, lz, g, kb, ks, kt, rfl, hv, hb⟩
    · rw [hu] at hu'; cases hu'
    · exact absurd hr hr'
  · rcases ho with ⟨_, hu', _⟩ | ⟨_, _, rfl, rfl⟩ | ⟨hr', _⟩
    · rw [hu] at hu'; cases hu'
    · exact ⟨0, none, 0, 0, 0, 0, false, 0, none, 0, 0, rfl, zero_node _, hb⟩
    · exact absurd hr hr'
  · rcases ho with ⟨hr', _⟩ | ⟨hr', _⟩ | ⟨_, rfl, rfl⟩
    · exact absurd hr' hr
    · exact absurd hr' hr
    · exact ⟨0, none, 0, 0, 0, 0, false, 0, none, 0, 0, rfl, zero_node _, hb⟩
/- a sequence, a choice: a node told -/
abbrev PnPost (n : Nd) (w : World) (e : Ending) (w' : World) : Prop :=
  ∃ k ka ki kj mn mx lz g kb ks kt, e = .returned (.agg #[.int .i64 k, .slice ka ki kj, .int .i64 mn, .int .i64 mx, .bool lz, .int .i64 g, .slice kb ks kt]) ∧ NodeV w' (nv k ka ki kj mn mx lz g kb ks kt) n ∧ Below w.heap.size w w'
theorem seqn_any {l : List Nd} {n : Nd} {q : Option Addr} {N cap : Nat} (w : World) (h : Kids w q l) (hN : l.length = N) (hn : Sx.sequence l = n) (hl : l.length ≤ 600000) (hf : nszs l ≤ 600000) : Calls Tryz.prog 34 #[.slice q N cap] w (PnPost n w) := by
  subst hN hn
  refine (sseq_any l q cap (All w) w h.toS (fun b h => h) hl (by have := flat6_len l; omega)).mono ?_
  rintro e w' ⟨u, rfl, hu, hb⟩
  obtain ⟨k, ka, ki, kj, mn, mx, lz, g, kb, ks, kt, rfl, hv⟩ := (NodeVS.is hu (fun b hb' => Joined.lt (fun b h => h) hb.size hb')).open
  exact ⟨k, ka, ki, kj, mn, mx, lz, g, kb, ks, kt, rfl, hv, hb⟩
theorem chon_any {l : List Nd} {n : Nd} {q : Option Addr} {N cap : Nat} (w : World) (h : Kids w q l) (hN : l.length = N) (hn : Sx.choice0 l = n) (hl : l.length ≤ 600000) (hf : nszs l ≤ 600000) : Calls Tryz.prog 36 #[.slice q N cap] w (PnPost n w) := by
  subst hN hn
  refine (scho_any l q cap (All w) w h.toS (fun b h => h) hl (by have := flat7_len l; omega)).mono ?_
  rintro e w' ⟨u, rfl, hu, hb⟩
  obtain ⟨k, ka, ki, kj, mn, mx, lz, g, kb, ks, kt, rfl, hv⟩ := (NodeVS.is hu (fun b hb' => Joined.lt (fun b h => h) hb.size hb')).open
  exact ⟨k, ka, ki, kj, mn, mx, lz, g, kb, ks, kt, rfl, hv, hb⟩
theorem is_at {n : Nd} {u : Value} (v : Bool) (w : World) (h : NodeV w u n) (hv : v = true ↔ Sx.right n ∧ Sx.isUn n) : Calls Tryz.prog 38 #[u] w fun e w' => e = .returned (.bool v) ∧ Below w.heap.size w w' := is_any n u v w h hv
end Go.Proofs.YtdoapojmenojoaaGreatDoor
end

section
/- The chapter's examples: the laws' own question. -/
set_option linter.unusedVariables false
namespace Go.Proofs.YtdoapojmenojoaaGreatDoor
open Go.RowKit
open Sx (Nd)

/- two variables that are kept -/
structure EXs (B0 : Nat) (w0 : World) (bN : Nat) (kN : Int) (kaN : Option Addr) (kiN kjN : Nat) (mnN mxN : Int) (lzN : Bool) (gN : Int) (kbN : Option Addr) (ksN ktN : Nat) (n : Nd) (bM : Nat) (kM : Int) (kaM : Option Addr) (kiM kjM : Nat) (mnM mxM : Int) (lzM : Bool) (gM : Int) (kbM : Option Addr) (ksM ktM : Nat) (m : Nd) (w : World) : Prop where
  hn : NBx w bN kN kaN kiN kjN mnN mxN lzN gN kbN ksN ktN n
  hm : NBx w bM kM kaM kiM kjM mnM mxM lzM gM kbM ksM ktM m
  lw : Lw B0 w0 w
theorem EXs.on {B0 : Nat} {w0 : World} {bN : Nat} {kN : Int} {kaN : Option Addr} {kiN kjN : Nat} {mnN mxN : Int} {lzN : Bool} {gN : Int} {kbN : Option Addr} {ksN ktN : Nat} {n : Nd} {bM : Nat} {kM : Int} {kaM : Option Addr} {kiM kjM : Nat} {mnM mxM : Int} {lzM : Bool} {gM : Int} {kbM : Option Addr} {ksM ktM : Nat} {m : Nd} {w w' : World} (h : EXs B0 w0 bN kN kaN kiN kjN mnN mxN lzN gN kbN ksN ktN n bM kM kaM kiM kjM mnM mxM lzM gM kbM ksM ktM m w) (hb : Below w.heap.size w w') : EXs B0 w0 bN kN kaN kiN kjN mnN mxN lzN gN kbN ksN ktN n bM kM kaM kiM kjM mnM mxM lzM gM kbM ksM ktM m w' := ⟨h.hn.below hb, h.hm.below hb, h.lw.on hb⟩
theorem EXs.drw {B0 : Nat} {w0 : World} {bN : Nat} {kN : Int} {kaN : Option Addr} {kiN kjN : Nat} {mnN mxN : Int} {lzN : Bool} {gN : Int} {kbN : Option Addr} {ksN ktN : Nat} {n : Nd} {bM : Nat} {kM : Int} {kaM : Option Addr} {kiM kjM : Nat} {mnM mxM : Int} {lzM : Bool} {gM : Int} {kbM : Option Addr} {ksM ktM : Nat} {m : Nd} {w : World} (h : EXs B0 w0 bN kN kaN kiN kjN mnN mxN lzN gN kbN ksN ktN n bM kM kaM kiM kjM mnM mxM lzM gM kbM ksM ktM m w) : EXs B0 w0 bN kN kaN kiN kjN mnN mxN lzN gN kbN ksN ktN n bM kM kaM kiM kjM mnM mxM lzM gM kbM ksM ktM m w.drew := h.on (Below.refl _ _).drew
theorem EXs.alc {B0 : Nat} {w0 : World} {bN : Nat} {kN : Int} {kaN : Option Addr} {kiN kjN : Nat} {mnN mxN : Int} {lzN : Bool} {gN : Int} {kbN : Option Addr} {ksN ktN : Nat} {n : Nd} {bM : Nat} {kM : Int} {kaM : Option Addr} {kiM kjM : Nat} {mnM mxM : Int} {lzM : Bool} {gM : Int} {kbM : Option Addr} {ksM ktM : Nat} {m : Nd} {w : World} {ob : Obj} (h : EXs B0 w0 bN kN kaN kiN kjN mnN mxN lzN gN kbN ksN ktN n bM kM kaM kiM kjM mnM mxM lzM gM kbM ksM ktM m w) : EXs B0 w0 bN kN kaN kiN kjN mnN mxN lzN gN kbN ksN ktN n bM kM kaM kiM kjM mnM mxM lzM gM kbM ksM ktM m (w.alloc ob) := h.on (below_new _ _)
abbrev EXc (B0 : Nat) (w0 : World) (bN : Nat) (kN : Int) (kaN : Option Addr) (kiN kjN : Nat) (mnN mxN : Int) (lzN : Bool) (gN : Int) (kbN : Option Addr) (ksN ktN : Nat) (n : Nd) (bM : Nat) (kM : Int) (kaM : Option Addr) (kiM kjM : Nat) (mnM mxM : Int) (lzM : Bool) (gM : Int) (kbM : Option Addr) (ksM ktM : Nat) (m : Nd) (w : World) : Prop := w.cell? ⟨bN, 0, none⟩ = some (.int .i64 kN) ∧ w.cell? ⟨bN, 1, none⟩ = some (.slice kaN kiN kjN) ∧ w.cell? ⟨bN, 2, none⟩ = some (.int .i64 mnN) ∧ w.cell? ⟨bN, 3, none⟩ = some (.int .i64 mxN) ∧ w.cell? ⟨bN, 4, none⟩ = some (.bool lzN) ∧ w.cell? ⟨bN, 5, none⟩ = some (.int .i64 gN) ∧ w.cell? ⟨bN, 6, none⟩ = some (.slice kbN ksN ktN) ∧ w.cell? ⟨bM, 0, none⟩ = some (.int .i64 kM) ∧ w.cell? ⟨bM, 1, none⟩ = some (.slice kaM kiM kjM) ∧ w.cell? ⟨bM, 2, none⟩ = some (.int .i64 mnM) ∧ w.cell? ⟨bM, 3, none⟩ = some (.int .i64 mxM) ∧ w.cell? ⟨bM, 4, none⟩ = some (.bool lzM) ∧ w.cell? ⟨bM, 5, none⟩ = some (.int .i64 gM) ∧ w.cell? ⟨bM, 6, none⟩ = some (.slice kbM ksM ktM) ∧ EXs B0 w0 bN kN kaN kiN kjN mnN mxN lzN gN kbN ksN ktN n bM kM kaM kiM kjM mnM mxM lzM gM kbM ksM ktM m w
theorem EXs.all {B0 : Nat} {w0 : World} {bN : Nat} {kN : Int} {kaN : Option Addr} {kiN kjN : Nat} {mnN mxN : Int} {lzN : Bool} {gN : Int} {kbN : Option Addr} {ksN ktN : Nat} {n : Nd} {bM : Nat} {kM : Int} {kaM : Option Addr} {kiM kjM : Nat} {mnM mxM : Int} {lzM : Bool} {gM : Int} {kbM : Option Addr} {ksM ktM : Nat} {m : Nd} {w : World} (h : EXs B0 w0 bN kN kaN kiN kjN mnN mxN lzN gN kbN ksN ktN n bM kM kaM kiM kjM mnM mxM lzM gM kbM ksM ktM m w) : EXc B0 w0 bN kN kaN kiN kjN mnN mxN lzN gN kbN ksN ktN n bM kM kaM kiM kjM mnM mxM lzM gM kbM ksM ktM m w := by
  obtain ⟨a0, a1, a2, a3, a4, a5, a6⟩ := h.hn.cells
  obtain ⟨b0, b1, b2, b3, b4, b5, b6⟩ := h.hm.cells
  exact ⟨a0, a1, a2, a3, a4, a5, a6, b0, b1, b2, b3, b4, b5, b6, h⟩
theorem node99 (w : World) : NodeV w (nv 99 none 0 0 0 0 false 0 none 0 0) (.mk 99 [] 0 0 false 0 []) := ⟨99, _, 0, 0, false, 0, _, rfl, node_mk (c := []) (kids := []) ⟨by decide, by decide⟩ ⟨by decide, by decide⟩ ⟨by decide, by decide⟩ ⟨by decide, by decide⟩ (by simp) (fun k r hr => by simp at hr) (by simp) (RowP.nil _ _) (fun i n h => by simp at h)⟩
theorem seq_nil : Sx.sequence [] = Sx.empty := rfl
theorem cho_one (n : Nd) : Sx.choice0 [n] = n := rfl
theorem seq0_any (w : World) : Calls Tryz.prog 34 #[.slice none 0 0] w (PnPost Sx.empty w) := seqn_any (l := []) (n := Sx.empty) (N := 0) w (Kids.nil _ _) rfl rfl (by decide) (by decide)
theorem cho1_any (w : World) {n : Nd} {k : Int} {ka : Option Addr} {ki kj : Nat} {mn mx : Int} {lz : Bool} {g : Int} {kb : Option Addr} {ks kt : Nat} (h : NodeV w (nv k ka ki kj mn mx lz g kb ks kt) n) (hz : nsz n ≤ 500000) : Calls Tryz.prog 36 #[.slice (some ⟨w.heap.size, 0, none⟩) 1 1] (w.alloc (nc k ka ki kj mn mx lz g kb ks kt)) (PnPost n (w.alloc (nc k ka ki kj mn mx lz g kb ks kt))) :=
  chon_any (l := [n]) (n := n) (N := 1) _ (kids_one (NBx.new h)) rfl rfl (by simp) (by rw [nszs, nszs]; omega)
theorem smM_small : nsz Sx.smM1 ≤ 500000 := by decide
theorem field_k (x0 x1 x2 x3 x4 x5 x6 : Value) (w : World) : (Instr.field 29 (.agg #[x0, x1, x2, x3, x4, x5, x6]) 0).run Tryz.prog w = .ok x0 w := by kernel_rfl
theorem same_kind {w w' : World} {n : Nd} {k ka ki kj mn mx lz g kb ks kt k' ka' ki' kj' mn' mx' lz' g' kb' ks' kt'} (h : NodeV w (nv k ka ki kj mn mx lz g kb ks kt) n) (h' : NodeV w' (nv k' ka' ki' kj' mn' mx' lz' g' kb' ks' kt') n) : k' = k := (node_kind h').symm.trans (node_kind h)
set_option maxRecDepth 20000 in
set_option maxHeartbeats 4000000 in
theorem sexamples_any {B0 : Nat} {w0 : World} (w : World) (h : Lw B0 w0 w) : Calls Tryz.prog 28 #[] w fun e w' => e = .returned (.bool true) ∧ Below w.heap.size w w' := by
  have HL0 := Lib.hid (show Lw B0 w w from ⟨h.errs, h.lt, Below.refl _ _⟩)
  clear h
  have hs1 : (Sx.smT3.toList == Sx.smT3.toList) = true := bytes_eq _
  go_enter Tryz.func28, Tryz.ntmps28
  go_wp2_with fail
  refine (pk_any _ Sx.sm1 HL0.out (by decide)).mono ?_
  rintro e w1 ⟨kN, kaN, kiN, kjN, mnN, mxN, lzN, gN, kbN, ksN, ktN, rfl, hn, hb1⟩
  have HL1 := Lib.hid (HL0.out.on hb1)
  clear hb1
  go_wp2_with fail
  have HN := Lib.hid (NBx.new hn)
  have hbv := below_new w1 (nc kN kaN kiN kjN mnN mxN lzN gN kbN ksN ktN)
  have HL2 := Lib.hid (HL1.out.on hbv)
  clear HL1
  clear hn hbv
  generalize w1.alloc (nc kN kaN kiN kjN mnN mxN lzN gN kbN ksN ktN) = v1 at *
  generalize w1.heap.size = bN at *
  refine (po_any (t := Sx.smM1) (er := 0) _ HN.out.nd (.inl ⟨Sx.sm1_right, Sx.sm1_un, rfl⟩) (by decide)).mono ?_
  rintro e w3 ⟨kM, kaM, kiM, kjM, mnM, mxM, lzM, gM, kbM, ksM, ktM, rfl, hn, hb3⟩
  have HL3 := Lib.hid (HL2.out.on hb3)
  clear HL2
  replace HN := Lib.hid (HN.out.below hb3)
  clear hb3
  go_wp2_with fail
  have HM := Lib.hid (NBx.new hn)
  have hbv := below_new w3 (nc kM kaM kiM kjM mnM mxM lzM gM kbM ksM ktM)
  have HL4 := Lib.hid (HL3.out.on hbv)
  clear HL3
  replace HN := Lib.hid (HN.out.below hbv)
  clear hn hbv
  generalize w3.alloc (nc kM kaM kiM kjM mnM mxM lzM gM kbM ksM ktM) = v3 at *
  generalize w3.heap.size = bM at *
  refine (po_any (n := .mk 99 [] 0 0 false 0 []) (t := Sx.empty) (er := 1) _ (node99 _) (.inr (.inr ⟨Sx.bad99, rfl, rfl⟩)) (by decide)).mono ?_
  rintro e w5 ⟨kX, kaX, kiX, kjX, mnX, mxX, lzX, gX, kbX, ksX, ktX, rfl, hn, hb5⟩
  have HL5 := Lib.hid (HL4.out.on hb5)
  clear HL4
  replace HN := Lib.hid (HN.out.below hb5)
  replace HM := Lib.hid (HM.out.below hb5)
  clear hb5
  go_wp2_with fail
  have HX := Lib.hid (NBx.new hn)
  have hbv := below_new w5 (nc kX kaX kiX kjX mnX mxX lzX gX kbX ksX ktX)
  have HL6 := Lib.hid (HL5.out.on hbv)
  clear HL5
  replace HN := Lib.hid (HN.out.below hbv)
  replace HM := Lib.hid (HM.out.below hbv)
  clear hn hbv
  generalize w5.alloc (nc kX kaX kiX kjX mnX mxX lzX gX kbX ksX ktX) = v5 at *
  generalize w5.heap.size = bX at *
  clear HX
  refine (pk_any _ Sx.sm2 HL6.out (by decide)).mono ?_
  rintro e w7 ⟨kK, kaK, kiK, kjK, mnK, mxK, lzK, gK, kbK, ksK, ktK, rfl, hn, hb7⟩
  have HL7 := Lib.hid (HL6.out.on hb7)
  clear HL6
  replace HN := Lib.hid (HN.out.below hb7)
  replace HM := Lib.hid (HM.out.below hb7)
  clear hb7
  go_wp2_with fail
  have HK := Lib.hid (NBx.new hn)
  have hbv := below_new w7 (nc kK kaK kiK kjK mnK mxK lzK gK kbK ksK ktK)
  have HL8 := Lib.hid (HL7.out.on hbv)
  clear HL7
  replace HN := Lib.hid (HN.out.below hbv)
  replace HM := Lib.hid (HM.out.below hbv)
  clear hn hbv
  generalize w7.alloc (nc kK kaK kiK kjK mnK mxK lzK gK kbK ksK ktK) = v7 at *
  generalize w7.heap.size = bK at *
  refine (po_any (t := Sx.empty) (er := 3) _ HK.out.nd (.inr (.inl ⟨Sx.sm2_right, Sx.sm2_un, rfl, rfl⟩)) (by decide)).mono ?_
  rintro e w9 ⟨kY, kaY, kiY, kjY, mnY, mxY, lzY, gY, kbY, ksY, ktY, rfl, hn, hb9⟩
  have HL9 := Lib.hid (HL8.out.on hb9)
  clear HL8
  replace HN := Lib.hid (HN.out.below hb9)
  replace HM := Lib.hid (HM.out.below hb9)
  replace HK := Lib.hid (HK.out.below hb9)
  clear hb9
  go_upto_region 6 with fail
  have hx := EXs.mk HN.out HM.out HL9.out
  have hx2 := hx.alc (ob := nc kY kaY kiY kjY mnY mxY lzY gY kbY ksY ktY)
  clear hn
  generalize w9.alloc (nc kY kaY kiY kjY mnY mxY lzY gY kbY ksY ktY) = v9 at *
  have hfld := field_k
  have HW9 := Lib.hid hx2.lw.bel
  have hx3 := hx2.drw
  have hk6 : (kM == kM) = true := beq_self_eq_true _
  go_region_held3 (fun w' => w'.cell? ⟨bN, 0, none⟩ = some (.int .i64 kN) ∧ w'.cell? ⟨bN, 1, none⟩ = some (.slice kaN kiN kjN) ∧ w'.cell? ⟨bN, 2, none⟩ = some (.int .i64 mnN) ∧ w'.cell? ⟨bN, 3, none⟩ = some (.int .i64 mxN) ∧ w'.cell? ⟨bN, 4, none⟩ = some (.bool lzN) ∧ w'.cell? ⟨bN, 5, none⟩ = some (.int .i64 gN) ∧ w'.cell? ⟨bN, 6, none⟩ = some (.slice kbN ksN ktN) ∧ w'.cell? ⟨bM, 0, none⟩ = some (.int .i64 kM) ∧ w'.cell? ⟨bM, 1, none⟩ = some (.slice kaM kiM kjM) ∧ w'.cell? ⟨bM, 2, none⟩ = some (.int .i64 mnM) ∧ w'.cell? ⟨bM, 3, none⟩ = some (.int .i64 mxM) ∧ w'.cell? ⟨bM, 4, none⟩ = some (.bool lzM) ∧ w'.cell? ⟨bM, 5, none⟩ = some (.int .i64 gM) ∧ w'.cell? ⟨bM, 6, none⟩ = some (.slice kbM ksM ktM) ∧ EXs B0 w bN kN kaN kiN kjN mnN mxN lzN gN kbN ksN ktN Sx.smN1 bM kM kaM kiM kjM mnM mxM lzM gM kbM ksM ktM Sx.smM1 w') (first | (refine EXs.all ?_; with_reducible assumption) | (refine EXs.all ?_; with_reducible refine EXs.drw ?_; with_reducible assumption) | (refine EXs.all ?_; with_reducible refine EXs.alc ?_; with_reducible assumption) | (refine EXs.all ?_; with_reducible refine EXs.drw ?_; with_reducible refine EXs.alc ?_; with_reducible assumption)) ((first | (go_at_call 19; with_reducible refine (put_at _ hx3.hm.nd Sx.smM_gd.right Sx.smM_put (by decide)).mono ?_; rintro e w11 ⟨rfl, hb11⟩; have hy1 := hx3.on hb11) | (go_at_call 38; with_reducible refine (is_at true _ hy1.hm.nd ⟨fun _ => ⟨Sx.smM_gd.right, Sx.smM_gd.un⟩, fun _ => rfl⟩).mono ?_; rintro e w12 ⟨rfl, hb12⟩; have hy2 := hy1.on hb12) | (go_at_call 38; with_reducible refine (is_at false _ hy2.hn.nd ⟨fun e => (by cases e), fun h => absurd h.2 Sx.sm1_not⟩).mono ?_; rintro e w13 ⟨rfl, hb13⟩; have hy3 := hy2.on hb13) | (go_at_call 34; with_reducible refine (seq0_any _).mono ?_; rintro e w14 ⟨k8, ka8, ki8, kj8, mn8, mx8, lz8, g8, kb8, ks8, kt8, rfl, hn8, hb14⟩; have hk8 := nv_empty hn8; obtain ⟨rfl, _⟩ := hk8; have hy4 := hy3.on hb14) | (go_at_call 36; with_reducible refine (cho1_any _ hy4.hm.nd smM_small).mono ?_; rintro e w15 ⟨k9, ka9, ki9, kj9, mn9, mx9, lz9, g9, kb9, ks9, kt9, rfl, hn9, hb15⟩; have hk9 := same_kind hn9 hy4.hm.nd; obtain rfl := hk9; have hy5 := hy4.alc.on hb15) | fail "none"))
  all_goals
    go_wp2_with fail
    go_ret
    exact ⟨rfl, hy5.lw.bel⟩
end Go.Proofs.YtdoapojmenojoaaGreatDoor
end

section
/- Letters, piece by piece. -/
set_option linter.unusedVariables false
namespace Go.Proofs.YtdoapojmenojoaaGreatDoor
open Go.RowKit
open Sx (Nd)

/- a text of k letters, none of them special -/
def LetText (k : Nat) (ws : List Int) (t : ByteArray) : Prop := t.data.toList = Sx.catT ws ∧ Sx.OkT ws ∧ Sx.Letters ws ∧ (∀ r ∈ ws, r ≤ 1114111) ∧ ws.length = k ∧ t.size ≤ 3 * k
theorem LetText.nil : LetText 0 [] ⟨#[]⟩ := ⟨rfl, Sx.OkT.nil, fun x h => (by cases h), fun x h => (by cases h), rfl, by decide⟩
theorem LetText.more {k : Nat} {ws : List Int} {t q : ByteArray} (h : LetText k ws t) (r : Int) (hq : q.data.toList = Sx.catT [r]) (hr : (decide (r = -1) || Rn.rightB r) = true) (hl : Sx.special r = false ∧ 0 ≤ r) (hm : r ≤ 1114111) (hz : q.size ≤ 3) : LetText (k + 1) (ws ++ [r]) (t ++ q) := by
  obtain ⟨h1, h2, h3, h4, h5, h6⟩ := h
  refine ⟨?_, ?_, ?_, ?_, ?_, ?_⟩
  · rw [ByteArray.data_append, Array.toList_append, h1, hq, Sx.catT_app]
  · exact h2.app (fun y hy => by rw [List.mem_singleton.1 hy]; simpa using hr)
  · intro y hy
    rcases List.mem_append.1 hy with hy | hy
    · exact h3 y hy
    · rw [List.mem_singleton.1 hy]; exact hl
  · intro y hy
    rcases List.mem_append.1 hy with hy | hy
    · exact h4 y hy
    · rw [List.mem_singleton.1 hy]; exact hm
  · rw [List.length_append, h5]; rfl
  · rw [ByteArray.size_append]; omega
/- letters gathered, at most m -/
def Lets (m len : Nat) (B0 : Nat) (w0 : World) (s : Value) (wr : World) : Prop := ∃ (k : Nat) (t : ByteArray) (ws : List Int), k = min len m ∧ s = .string t ∧ LetText k ws t ∧ Lw B0 w0 wr
end Go.Proofs.YtdoapojmenojoaaGreatDoor
end

section
/- Letters alone, and behind them one that is special. -/
set_option linter.unusedVariables false
namespace Go.Proofs.YtdoapojmenojoaaGreatDoor
open Go.RowKit
open Sx (Nd)

/- a backslash and one that is special -/
def SpecText (c : Int) (T : ByteArray) : Prop := Sx.special c = true ∧ 0 ≤ c ∧ c ≤ 1114111 ∧ Rn.rightB c = true ∧ T.data.toList = Sx.catT [92, c] ∧ T.size = 2
theorem bs_of {l : List Int} {t : ByteArray} (h : t.data.toList = Sx.catT l) (hk : Sx.OkT l) (h0 : ∀ r ∈ l, 0 ≤ r) : bs l = t := by
  have hl : Sx.OkL l := fun x hx => (hk x hx).resolve_left (fun e => by have := h0 x hx; omega)
  rw [Sx.catT_cat hl] at h
  show (⟨(Rn.cat l).toArray⟩ : ByteArray) = t
  rw [← h]
end Go.Proofs.YtdoapojmenojoaaGreatDoor
end

section
/- Letters, groups and repetitions, each so often. -/
set_option linter.unusedVariables false
namespace Go.Proofs.YtdoapojmenojoaaGreatDoor
open Go.RowKit
open Sx (Nd)

/- a text, by its runes; at most so long -/
def TxtIs (ws : List Int) (b : Nat) (t : ByteArray) : Prop := t.data.toList = Sx.catT ws ∧ t.size ≤ b
theorem TxtIs.nil : TxtIs [] 0 ⟨#[]⟩ := ⟨rfl, by decide⟩
theorem TxtIs.app {ws us vs : List Int} {b c : Nat} {t q : ByteArray} (h : TxtIs ws b t) (hq : q.data.toList = Sx.catT us) (hz : q.size ≤ c) (hv : vs = ws ++ us) : TxtIs vs (b + c) (t ++ q) := by
  subst hv
  exact ⟨by rw [ByteArray.data_append, Array.toList_append, h.1, hq, Sx.catT_app], by rw [ByteArray.size_append]; have := h.2; omega⟩
theorem TxtIs.le {ws : List Int} {b c : Nat} {t : ByteArray} (h : TxtIs ws b t) (hc : b ≤ c) : TxtIs ws c t := ⟨h.1, Nat.le_trans h.2 hc⟩
theorem g1_next (j : Nat) : List.replicate (j + 1) (97 : Int) = List.replicate j 97 ++ [97] := List.replicate_succ'
theorem g2_next (n j : Nat) : Sx.szText n (j + 1) 0 = Sx.szText n j 0 ++ [40, 98, 41] := by
  unfold Sx.szText
  rw [List.replicate_succ', List.flatten_append]
  simp
theorem g2_zero (n : Nat) : List.replicate n (97 : Int) = Sx.szText n 0 0 := by unfold Sx.szText; simp
theorem g3_next (n m j : Nat) : Sx.szText n m (j + 1) = Sx.szText n m j ++ Sx.rtext j := by
  unfold Sx.szText
  rw [List.range_succ, List.flatMap_append]
  simp
theorem sz_runes {n m k : Nat} : ∀ r ∈ Sx.szText n m k, 0 ≤ r ∧ Rn.rightB r = true := by
  intro r hr
  unfold Sx.szText at hr
  rcases List.mem_append.1 hr with hr | hr
  · rcases List.mem_append.1 hr with hr | hr
    · rw [(List.mem_replicate.1 hr).2]; decide
    · obtain ⟨l, hl, hr⟩ := List.mem_flatten.1 hr
      rw [(List.mem_replicate.1 hl).2] at hr
      simp at hr
      rcases hr with rfl | rfl | rfl <;> decide
  · obtain ⟨i, _, hr⟩ := List.mem_flatMap.1 hr
    unfold Sx.rtext at hr
    split at hr
    · simp at hr; rcases hr with rfl | rfl <;> decide
    · split at hr
      · simp at hr; rcases hr with rfl | rfl | rfl <;> decide
      · split at hr
        · simp at hr; rcases hr with rfl | rfl | rfl | rfl <;> decide
        · simp at hr; rcases hr with rfl | rfl <;> decide
theorem sz_text {n m k b : Nat} {t : ByteArray} (h : TxtIs (Sx.szText n m k) b t) (hb : b ≤ 200) (h2 : 2 ≤ n) (h8 : m ≤ 8) : ∃ N, Sx.Parsed t N t.size 0 ∧ Sx.right N ∧ bs (Sx.put N) = t ∧ (nsz N : Int) = 1 + (n : Int) + 2 * (m : Int) + 2 * (k : Int) ∧ Sx.groups N = (m : Int) := by
  obtain ⟨he, hF, hp, hs, hg⟩ := Sx.sz_all n m k h2 h8
  have hk : Sx.OkT (Sx.szText n m k) := fun r hr => .inr (sz_runes r hr).2
  have ht := (Sx.backT hk h.1).2.2
  refine ⟨_, .ok _ m (by have := h.2; omega) (by rw [ht]; exact he), Sx.form_right hF (by decide), by rw [hp]; exact bs_of h.1 hk (fun r hr => (sz_runes r hr).1), ?_, hg⟩
  rw [← size_nsz, hs]
end Go.Proofs.YtdoapojmenojoaaGreatDoor
end
