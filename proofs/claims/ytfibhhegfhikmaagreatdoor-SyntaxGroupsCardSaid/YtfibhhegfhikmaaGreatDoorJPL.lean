import Derived.Test.YtfibhhegfhikmaaGreatDoorJPRec
import Derived.Test.YtfibhhegfhikmaaGreatDoorJPPutN
import Derived.Test.YtfibhhegfhikmaaGreatDoorJPSame
import Derived.Test.YtfibhhegfhikmaaGreatDoorJPRight
import Derived.Test.YtfibhhegfhikmaaGreatDoorJPSize
import Derived.Test.YtfibhhegfhikmaaGreatDoorJSynM12
set_option linter.unusedSimpArgs false
set_option linter.unusedVariables false
section
/- The laws of chapter 5: what each call of theirs tells, in one form. -/
set_option linter.unusedVariables false
namespace Go.Proofs.YtfibhhegfhikmaaGreatDoor
open Go.RowKit
open Sx (Nd)

abbrev nv (k : Int) (ka : Option Addr) (ki kj : Nat) (mn mx : Int) (lz : Bool) (g : Int) (kb : Option Addr) (ks kt : Nat) : Value := .agg #[.int .i64 k, .slice ka ki kj, .int .i64 mn, .int .i64 mx, .bool lz, .int .i64 g, .slice kb ks kt]
abbrev nc (k : Int) (ka : Option Addr) (ki kj : Nat) (mn mx : Int) (lz : Bool) (g : Int) (kb : Option Addr) (ks kt : Nat) : Obj := .cells #[.int .i64 k, .slice ka ki kj, .int .i64 mn, .int .i64 mx, .bool lz, .int .i64 g, .slice kb ks kt] 29
/- a variable that holds a node -/
structure NBx (w : World) (B : Nat) (k : Int) (ka : Option Addr) (ki kj : Nat) (mn mx : Int) (lz : Bool) (g : Int) (kb : Option Addr) (ks kt : Nat) (n : Nd) : Prop where
  box : Seven w B 0 k (.slice ka ki kj) mn mx lz g (.slice kb ks kt)
  nd : NodeV w (nv k ka ki kj mn mx lz g kb ks kt) n
  lt : B < w.heap.size
theorem NBx.below {w w' : World} {B : Nat} {k : Int} {ka : Option Addr} {ki kj : Nat} {mn mx : Int} {lz : Bool} {g : Int} {kb : Option Addr} {ks kt : Nat} {n : Nd} (h : NBx w B k ka ki kj mn mx lz g kb ks kt n) (hb : Below w.heap.size w w') : NBx w' B k ka ki kj mn mx lz g kb ks kt n :=
  ⟨h.box.below hb h.lt, h.nd.below hb, Nat.lt_of_lt_of_le h.lt hb.size⟩
theorem NBx.new {w : World} {k : Int} {ka : Option Addr} {ki kj : Nat} {mn mx : Int} {lz : Bool} {g : Int} {kb : Option Addr} {ks kt : Nat} {n : Nd} (h : NodeV w (nv k ka ki kj mn mx lz g kb ks kt) n) : NBx (w.alloc (nc k ka ki kj mn mx lz g kb ks kt)) w.heap.size k ka ki kj mn mx lz g kb ks kt n :=
  ⟨Seven.box .., h.below (below_new w _), by simp⟩
theorem NBx.cells {w : World} {B : Nat} {k : Int} {ka : Option Addr} {ki kj : Nat} {mn mx : Int} {lz : Bool} {g : Int} {kb : Option Addr} {ks kt : Nat} {n : Nd} (h : NBx w B k ka ki kj mn mx lz g kb ks kt n) :
    w.cell? ⟨B, 0, none⟩ = some (.int .i64 k) ∧ w.cell? ⟨B, 1, none⟩ = some (.slice ka ki kj) ∧ w.cell? ⟨B, 2, none⟩ = some (.int .i64 mn) ∧ w.cell? ⟨B, 3, none⟩ = some (.int .i64 mx) ∧ w.cell? ⟨B, 4, none⟩ = some (.bool lz) ∧ w.cell? ⟨B, 5, none⟩ = some (.int .i64 g) ∧ w.cell? ⟨B, 6, none⟩ = some (.slice kb ks kt) := by
  obtain ⟨z0, z1, z2, z3, z4, z5, z6⟩ := h.box
  simp only [Nat.zero_add] at z0 z1 z2 z3 z4 z5 z6
  exact ⟨z0, z1, z2, z3, z4, z5, z6⟩
/- what a law goes on with -/
structure Lw (B0 : Nat) (w0 w : World) : Prop where
  errs : Errs B0 w
  lt : B0 ≤ w.heap.size
  bel : Below w0.heap.size w0 w
theorem Lw.on {B0 : Nat} {w0 w w' : World} (h : Lw B0 w0 w) (hb : Below w.heap.size w w') : Lw B0 w0 w' := ⟨h.errs.below (hb.mono h.lt), Nat.le_trans h.lt hb.size, bvia h.bel hb⟩
/- Parse, its node written out -/
def PsPost (s : ByteArray) (w : World) (e : Ending) (w' : World) : Prop :=
  ∃ k ka ki kj mn mx lz g kb ks kt n at' er, e = .returned (.tuple #[nv k ka ki kj mn mx lz g kb ks kt, .int .i64 at', .int .i64 er]) ∧ NodeV w' (nv k ka ki kj mn mx lz g kb ks kt) n ∧ Sx.Parsed s n at' er ∧ Below w.heap.size w w'
theorem nodeVS_v {S : Nat → Prop} {w : World} {u : Value} {n : Nd} (h : NodeVS S w u n) (hS : ∀ b, S b → b < w.heap.size) : ∃ k ka ki kj mn mx lz g kb ks kt, u = nv k ka ki kj mn mx lz g kb ks kt ∧ NodeV w (nv k ka ki kj mn mx lz g kb ks kt) n := by
  obtain ⟨k, vc, mn, mx, lz, g, vl, rfl, hn⟩ := h
  obtain ⟨ka, ki, kj, kb, ks, kt, rfl, rfl⟩ := nodeS_shape hn
  exact ⟨k, ka, ki, kj, mn, mx, lz, g, kb, ks, kt, rfl, k, _, mn, mx, lz, g, _, rfl, NodeS.is hS hn⟩
theorem ps_any {B0 : Nat} {w0 : World} (s : ByteArray) (w : World) (h : Lw B0 w0 w) (hz : s.size ≤ 1000000000000) : Calls Tryz.prog 13 #[.string s] w (PsPost s w) := by
  refine (parse_any B0 s w hz h.errs h.lt).mono ?_
  rintro e w' ⟨u, n, at', er, rfl, hn, hp, hb⟩
  obtain ⟨k, ka, ki, kj, mn, mx, lz, g, kb, ks, kt, rfl, hv⟩ := nodeVS_v hn (fun b hb => hb.2)
  exact ⟨k, ka, ki, kj, mn, mx, lz, g, kb, ks, kt, n, at', er, rfl, hv, hp, hb⟩
/- .. where what it tells is known -/
def PkPost (n : Nd) (at' er : Int) (w : World) (e : Ending) (w' : World) : Prop :=
  ∃ k ka ki kj mn mx lz g kb ks kt, e = .returned (.tuple #[nv k ka ki kj mn mx lz g kb ks kt, .int .i64 at', .int .i64 er]) ∧ NodeV w' (nv k ka ki kj mn mx lz g kb ks kt) n ∧ Below w.heap.size w w'
theorem pk_any {B0 : Nat} {w0 : World} {s : ByteArray} {n : Nd} {at' er : Int} (w : World) (hp : Sx.Parsed s n at' er) (h : Lw B0 w0 w) (hz : s.size ≤ 1000000000000) : Calls Tryz.prog 13 #[.string s] w (PkPost n at' er w) := by
  refine (ps_any s w h hz).mono ?_
  rintro e w' ⟨k, ka, ki, kj, mn, mx, lz, g, kb, ks, kt, m, a2, e2, rfl, hv, hq, hb⟩
  obtain ⟨rfl, rfl, rfl⟩ := Sx.parsed_only hq hp
  exact ⟨k, ka, ki, kj, mn, mx, lz, g, kb, ks, kt, rfl, hv, hb⟩
theorem put_at {n : Nd} {u : Value} {t : ByteArray} (w : World) (h : NodeV w u n) (hr : Sx.right n) (ht : bs (Sx.put n) = t) (hz : t.size ≤ 700000000) : Calls Tryz.prog 18 #[u] w fun e w' => e = .returned (.string t) ∧ Below w.heap.size w w' := by
  subst ht
  exact pput_any n u w h hr hz
theorem groups_at {n : Nd} {u : Value} {g : Int} (w : World) (h : NodeV w u n) (hg : Sx.groups n = g) : Calls Tryz.prog 25 #[u] w fun e w' => e = .returned (.int .i64 g) ∧ Below w.heap.size w w' := by
  subst hg
  exact groups_any _ n (Nat.le_refl _) u w h
theorem size_at {n : Nd} {u : Value} {g : Int} (w : World) (h : NodeV w u n) (hg : (nsz n : Int) = g) (hz : nsz n ≤ 1099511627776) : Calls Tryz.prog 23 #[u] w fun e w' => e = .returned (.int .i64 g) ∧ Below w.heap.size w w' := by
  subst hg
  exact size_any _ n (Nat.le_refl _) u w h hz
theorem right_at {n : Nd} {u : Value} (w : World) (h : NodeV w u n) (hr : Sx.right n) : Calls Tryz.prog 21 #[u] w fun e w' => e = .returned (.bool true) ∧ Below w.heap.size w w' :=
  pright_any n u true w h ⟨fun _ => hr, fun _ => rfl⟩
theorem same_self {n : Nd} {u : Value} (w : World) (h : NodeV w u n) : Calls Tryz.prog 20 #[u, u] w fun e w' => e = .returned (.bool true) ∧ Below w.heap.size w w' :=
  psame_any n n u u true w h h ⟨fun _ => rfl, fun _ => rfl⟩
end Go.Proofs.YtfibhhegfhikmaaGreatDoor
end

section
/- The chapter's examples: the law's own question. -/
set_option linter.unusedVariables false
namespace Go.Proofs.YtfibhhegfhikmaaGreatDoor
open Go.RowKit
open Sx (Nd)

set_option maxRecDepth 20000 in
set_option maxHeartbeats 1600000 in
theorem examples_any {B0 : Nat} {w0 : World} (w : World) (h : Lw B0 w0 w) : Calls Tryz.prog 11 #[] w fun e w' => e = .returned (.bool true) ∧ Below w.heap.size w w' := by
  have HL0 := Lib.hid (show Lw B0 w w from ⟨h.errs, h.lt, Below.refl _ _⟩)
  clear h
  have hs1 : (Sx.exT1.toList == Sx.exT1.toList) = true := bytes_eq _
  have hs5 : ((⟨#[97, 98]⟩ : ByteArray).toList == (⟨#[97, 98]⟩ : ByteArray).toList) = true := bytes_eq _
  go_enter Tryz.func11, Tryz.ntmps11
  go_wp2_with fail
  refine (pk_any _ Sx.ex1 HL0.out (by decide)).mono ?_
  rintro e w1 ⟨kN, kaN, kiN, kjN, mnN, mxN, lzN, gN, kbN, ksN, ktN, rfl, hn, hb1⟩
  have HL1 := Lib.hid (HL0.out.on hb1)
  clear hb1
  go_wp2_with fail
  have HN := Lib.hid (NBx.new hn)
  have hbv := below_new w1 (nc kN kaN kiN kjN mnN mxN lzN gN kbN ksN ktN)
  have HL2 := Lib.hid (HL1.out.on hbv)
  clear HL1
  clear hn hbv
  generalize w1.alloc (nc kN kaN kiN kjN mnN mxN lzN gN kbN ksN ktN) = v1 at *
  generalize w1.heap.size = bN at *
  refine (pk_any _ Sx.ex2 HL2.out (by decide)).mono ?_
  rintro e w3 ⟨kX, kaX, kiX, kjX, mnX, mxX, lzX, gX, kbX, ksX, ktX, rfl, hn, hb3⟩
  have HL3 := Lib.hid (HL2.out.on hb3)
  clear HL2
  replace HN := Lib.hid (HN.out.below hb3)
  clear hb3
  go_wp2_with fail
  have HX := Lib.hid (NBx.new hn)
  have hbv := below_new w3 (nc kX kaX kiX kjX mnX mxX lzX gX kbX ksX ktX)
  have HL4 := Lib.hid (HL3.out.on hbv)
  clear HL3
  replace HN := Lib.hid (HN.out.below hbv)
  clear hn hbv
  generalize w3.alloc (nc kX kaX kiX kjX mnX mxX lzX gX kbX ksX ktX) = v3 at *
  generalize w3.heap.size = bX at *
  clear HX
  refine (pk_any _ Sx.ex3 HL4.out (by decide)).mono ?_
  rintro e w5 ⟨kY, kaY, kiY, kjY, mnY, mxY, lzY, gY, kbY, ksY, ktY, rfl, hn, hb5⟩
  have HL5 := Lib.hid (HL4.out.on hb5)
  clear HL4
  replace HN := Lib.hid (HN.out.below hb5)
  clear hb5
  go_wp2_with fail
  have HY := Lib.hid (NBx.new hn)
  have hbv := below_new w5 (nc kY kaY kiY kjY mnY mxY lzY gY kbY ksY ktY)
  have HL6 := Lib.hid (HL5.out.on hbv)
  clear HL5
  replace HN := Lib.hid (HN.out.below hbv)
  clear hn hbv
  generalize w5.alloc (nc kY kaY kiY kjY mnY mxY lzY gY kbY ksY ktY) = v5 at *
  generalize w5.heap.size = bY at *
  clear HY
  refine (pk_any _ Sx.ex4 HL6.out (by decide)).mono ?_
  rintro e w7 ⟨kZ, kaZ, kiZ, kjZ, mnZ, mxZ, lzZ, gZ, kbZ, ksZ, ktZ, rfl, hn, hb7⟩
  have HL7 := Lib.hid (HL6.out.on hb7)
  clear HL6
  replace HN := Lib.hid (HN.out.below hb7)
  clear hb7
  go_wp2_with fail
  have HZ := Lib.hid (NBx.new hn)
  have hbv := below_new w7 (nc kZ kaZ kiZ kjZ mnZ mxZ lzZ gZ kbZ ksZ ktZ)
  have HL8 := Lib.hid (HL7.out.on hbv)
  clear HL7
  replace HN := Lib.hid (HN.out.below hbv)
  clear hn hbv
  generalize w7.alloc (nc kZ kaZ kiZ kjZ mnZ mxZ lzZ gZ kbZ ksZ ktZ) = v7 at *
  generalize w7.heap.size = bZ at *
  clear HZ
  refine (pk_any _ Sx.ex5 HL8.out (by decide)).mono ?_
  rintro e w9 ⟨kM, kaM, kiM, kjM, mnM, mxM, lzM, gM, kbM, ksM, ktM, rfl, hn, hb9⟩
  have HL9 := Lib.hid (HL8.out.on hb9)
  clear HL8
  replace HN := Lib.hid (HN.out.below hb9)
  clear hb9
  obtain ⟨cN0, cN1, cN2, cN3, cN4, cN5, cN6⟩ := HN.out.cells
  have qN : ¬ bN = w9.heap.size := Nat.ne_of_lt HN.out.lt
  have rN := HN.out.lt
  go_wp2_with fail
  clear cN0 cN1 cN2 cN3 cN4 cN5 cN6
  clear qN rN
  have HM := Lib.hid (NBx.new hn)
  have hbv := below_new w9 (nc kM kaM kiM kjM mnM mxM lzM gM kbM ksM ktM)
  have HL10 := Lib.hid (HL9.out.on hbv)
  clear HL9
  replace HN := Lib.hid (HN.out.below hbv)
  clear hn hbv
  generalize w9.alloc (nc kM kaM kiM kjM mnM mxM lzM gM kbM ksM ktM) = v9 at *
  generalize w9.heap.size = bM at *
  refine (put_at _ HN.out.nd Sx.ex1_right Sx.ex1_put (by decide)).mono ?_
  rintro e w11 ⟨rfl, hb11⟩
  have HL11 := Lib.hid (HL10.out.on hb11)
  clear HL10
  replace HN := Lib.hid (HN.out.below hb11)
  replace HM := Lib.hid (HM.out.below hb11)
  clear hb11
  obtain ⟨cN0, cN1, cN2, cN3, cN4, cN5, cN6⟩ := HN.out.cells
  obtain ⟨cM0, cM1, cM2, cM3, cM4, cM5, cM6⟩ := HM.out.cells
  go_wp2_with fail
  refine (groups_at _ HN.out.nd Sx.ex1_groups).mono ?_
  rintro e w12 ⟨rfl, hb12⟩
  clear cM0 cM1 cM2 cM3 cM4 cM5 cM6 cN0 cN1 cN2 cN3 cN4 cN5 cN6
  have HL12 := Lib.hid (HL11.out.on hb12)
  clear HL11
  replace HN := Lib.hid (HN.out.below hb12)
  replace HM := Lib.hid (HM.out.below hb12)
  clear hb12
  obtain ⟨cN0, cN1, cN2, cN3, cN4, cN5, cN6⟩ := HN.out.cells
  obtain ⟨cM0, cM1, cM2, cM3, cM4, cM5, cM6⟩ := HM.out.cells
  go_wp2_with fail
  refine (right_at _ HN.out.nd Sx.ex1_right).mono ?_
  rintro e w13 ⟨rfl, hb13⟩
  clear cM0 cM1 cM2 cM3 cM4 cM5 cM6 cN0 cN1 cN2 cN3 cN4 cN5 cN6
  have HL13 := Lib.hid (HL12.out.on hb13)
  clear HL12
  replace HN := Lib.hid (HN.out.below hb13)
  replace HM := Lib.hid (HM.out.below hb13)
  clear hb13
  obtain ⟨cN0, cN1, cN2, cN3, cN4, cN5, cN6⟩ := HN.out.cells
  obtain ⟨cM0, cM1, cM2, cM3, cM4, cM5, cM6⟩ := HM.out.cells
  go_wp2_with fail
  refine (same_self _ HN.out.nd).mono ?_
  rintro e w14 ⟨rfl, hb14⟩
  clear cM0 cM1 cM2 cM3 cM4 cM5 cM6 cN0 cN1 cN2 cN3 cN4 cN5 cN6
  have HL14 := Lib.hid (HL13.out.on hb14)
  clear HL13
  replace HN := Lib.hid (HN.out.below hb14)
  replace HM := Lib.hid (HM.out.below hb14)
  clear hb14
  obtain ⟨cN0, cN1, cN2, cN3, cN4, cN5, cN6⟩ := HN.out.cells
  obtain ⟨cM0, cM1, cM2, cM3, cM4, cM5, cM6⟩ := HM.out.cells
  go_wp2_with fail
  refine (size_at (g := 8) _ HN.out.nd (by decide) (by decide)).mono ?_
  rintro e w15 ⟨rfl, hb15⟩
  clear cM0 cM1 cM2 cM3 cM4 cM5 cM6 cN0 cN1 cN2 cN3 cN4 cN5 cN6
  have HL15 := Lib.hid (HL14.out.on hb15)
  clear HL14
  replace HN := Lib.hid (HN.out.below hb15)
  replace HM := Lib.hid (HM.out.below hb15)
  clear hb15
  obtain ⟨cM0, cM1, cM2, cM3, cM4, cM5, cM6⟩ := HM.out.cells
  go_wp2_with fail
  refine (put_at _ HM.out.nd Sx.ex5_right Sx.ex5_put (by decide)).mono ?_
  rintro e w16 ⟨rfl, hb16⟩
  clear cM0 cM1 cM2 cM3 cM4 cM5 cM6
  have HL16 := Lib.hid (HL15.out.on hb16)
  clear HL15
  replace HN := Lib.hid (HN.out.below hb16)
  replace HM := Lib.hid (HM.out.below hb16)
  clear hb16
  go_wp2_with fail
  go_ret
  exact ⟨rfl, HL16.out.bel⟩
end Go.Proofs.YtfibhhegfhikmaaGreatDoor
end
