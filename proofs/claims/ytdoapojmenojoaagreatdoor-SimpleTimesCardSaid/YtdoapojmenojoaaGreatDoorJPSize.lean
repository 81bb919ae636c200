import Derived.Test.YtdoapojmenojoaaGreatDoorJSynV
import Derived.Test.YtdoapojmenojoaaGreatDoorJPRec
import Derived.Test.YtdoapojmenojoaaGreatDoorJPPutN
import Derived.Test.YtdoapojmenojoaaGreatDoorJPSame
import Derived.Test.YtdoapojmenojoaaGreatDoorJPRight
import Derived.Test.YtdoapojmenojoaaGreatDoorJSynM12
set_option linter.unusedSimpArgs false
set_option linter.unusedVariables false
section
/- How many nodes, how many groups: the program's own. -/
set_option linter.unusedVariables false
namespace Go.Proofs.YtdoapojmenojoaaGreatDoor
open Go.RowKit
open Sx (Nd)

set_option maxHeartbeats 1600000 in
theorem size_any : ∀ (N : Nat) (n : Nd), nsz n ≤ N → ∀ (v : Value) (w : World), NodeV w v n → nsz n ≤ 1099511627776 →
    Calls Tryz.prog 24 #[v] w fun e w' => e = .returned (.int .i64 (nsz n : Int)) ∧ Below w.heap.size w w' := by
  intro N
  induction N with
  | zero => intro n hn; have := nsz_pos n; omega
  | succ N ih =>
    intro n hN v w hv hB
    obtain ⟨k, c, mn, mx, lz, g, kids, p, cap, q, cap', rfl, rfl, i1, i2, i3, i4, hc, hr, hk, hp, hq⟩ := node_open hv
    have HQ := Lib.hid hq
    have hN' : nszs kids ≤ N := by rw [nsz] at hN; omega
    have hB' : nszs kids ≤ 1099511627776 := by rw [nsz] at hB; omega
    have hE := Lib.hid (show (nsz (.mk k c mn mx lz g kids) : Int) = 1 + (nszs kids : Int) by rw [nsz]; omega)
    have IH := Lib.hid ih
    clear hv hp hq hr i1 i2 i3 i4 ih hN hB
    unfold ndv
    go_enter Tryz.func24, Tryz.ntmps24
    go_wp2_with fail
    go_loopw [2, 8] (fun s i wr => ∃ m : Nat, m ≤ kids.length ∧ i = .int .i64 (m : Int) ∧ s = .int .i64 (1 + (nszs (kids.take m) : Int)) ∧ Below w.heap.size w wr) (fun s i _ => kids.length - (intOf i).toNat)
    case atStart => exact ⟨0, Nat.zero_le _, rfl, by simp [nszs], (by repeat' (first | exact Below.refl _ _ | (refine Below.drew ?_) | (refine bdrewN ?_) | (refine Below.alloc ?_ (by first | omega | (simp <;> omega)) _) | (refine Below.setCell ?_ (by first | omega | (simp <;> omega)) _) | (refine Below.trans ?_ (Below.mono (by assumption) (by first | omega | (simp <;> omega))))))⟩
    case round =>
      obtain ⟨m, hm, rfl, rfl, br⟩ := hrel
      by_cases hlt : m < kids.length
      · obtain ⟨x, hx⟩ : ∃ x, kids[m]? = some x := ⟨_, List.getElem?_eq_getElem hlt⟩
        obtain ⟨b, o, k', vc', mn', mx', lz', g', vl', rfl, hb, f7, hx'⟩ := (HQ.out.below br).get hx
        have hst := Lib.hid (nszs_take hx)
        have hle := nszs_le kids (m + 1)
        rw [hst.out] at hle
        have hpo := nsz_pos x
        have hml : (m : Int) < (kids.length : Int) := by omega
        obtain ⟨a1, i1, j1, b1, s1, t1, rfl, rfl⟩ := node_shape hx'
        have HX := Lib.hid hx'
        clear hx hx'
        obtain ⟨f0, f1, f2, f3, f4, f5, f6⟩ := f7
        go_wp2_with fail
        refine (IH.out x (by omega) _ _ (HX.out.below (below_new wr _)) (by omega)).mono ?_
        rintro e w1 ⟨rfl, hw1⟩
        have hw := (br.trans ((below_new wr _).mono br.size)).trans (hw1.mono (by simp; have := br.size; omega))
        have hsum : (1 : Int) + (nszs (kids.take (m + 1)) : Int) = 1 + (nszs (kids.take m) : Int) + (nsz x : Int) := by rw [hst.out]; omega
        go_wp2_with fail
        go_roundw
        case rel => exact ⟨m + 1, by omega, by go_num, by rw [hsum], hw⟩
        case measure => simp [intOf]; omega
      · obtain rfl : m = kids.length := by omega
        have hf : (1 : Int) + (nszs (kids.take kids.length) : Int) = (nsz (.mk k c mn mx lz g kids) : Int) := by rw [List.take_length, hE.out]
        go_wp2_with fail
        go_ret
        exact ⟨ret_int hf, br⟩
set_option maxHeartbeats 1600000 in
theorem groups_any : ∀ (N : Nat) (n : Nd), nsz n ≤ N → ∀ (v : Value) (w : World), NodeV w v n →
    Calls Tryz.prog 26 #[v] w fun e w' => e = .returned (.int .i64 (Sx.groups n)) ∧ Below w.heap.size w w' := by
  intro N
  induction N with
  | zero => intro n hn; have := nsz_pos n; omega
  | succ N ih =>
    intro n hN v w hv
    obtain ⟨k, c, mn, mx, lz, g, kids, p, cap, q, cap', rfl, rfl, i1, i2, i3, i4, hc, hr, hk, hp, hq⟩ := node_open hv
    have HQ := Lib.hid hq
    have hN' : nszs kids ≤ N := by rw [nsz] at hN; omega
    have hE := Lib.hid (show Sx.groups (.mk k c mn mx lz g kids) = Sx.groupsL (max g 0) kids by rw [Sx.groups])
    have IH := Lib.hid ih
    clear hv hp hq hr i1 i2 i3 i4 ih hN
    unfold ndv
    go_enter Tryz.func26, Tryz.ntmps26
    go_wp2_with fail
    go_loopw [2, 11] (fun s i wr => ∃ m : Nat, m ≤ kids.length ∧ i = .int .i64 (m : Int) ∧ s = .int .i64 (Sx.groupsL (max g 0) (kids.take m)) ∧ Below w.heap.size w wr) (fun s i _ => kids.length - (intOf i).toNat)
    case atStart => exact ⟨0, Nat.zero_le _, rfl, by simp [Sx.groupsL, Int.max_comm], (by repeat' (first | exact Below.refl _ _ | (refine Below.drew ?_) | (refine bdrewN ?_) | (refine Below.alloc ?_ (by first | omega | (simp <;> omega)) _) | (refine Below.setCell ?_ (by first | omega | (simp <;> omega)) _) | (refine Below.trans ?_ (Below.mono (by assumption) (by first | omega | (simp <;> omega))))))⟩
    case round =>
      obtain ⟨m, hm, rfl, rfl, br⟩ := hrel
      by_cases hlt : m < kids.length
      · obtain ⟨x, hx⟩ : ∃ x, kids[m]? = some x := ⟨_, List.getElem?_eq_getElem hlt⟩
        obtain ⟨b, o, k', vc', mn', mx', lz', g', vl', rfl, hb, f7, hx'⟩ := (HQ.out.below br).get hx
        have hst := Lib.hid (groupsL_take (max g 0) hx)
        have hle := nszs_mem hx
        have hml : (m : Int) < (kids.length : Int) := by omega
        obtain ⟨a1, i1, j1, b1, s1, t1, rfl, rfl⟩ := node_shape hx'
        have HX := Lib.hid hx'
        clear hx hx'
        obtain ⟨f0, f1, f2, f3, f4, f5, f6⟩ := f7
        generalize Sx.groupsL (max g 0) (kids.take m) = sm at hst ⊢
        go_wp2_with fail
        refine (IH.out x (by omega) _ _ (HX.out.below (below_new wr _))).mono ?_
        rintro e w1 ⟨rfl, hw1⟩
        have hw := (br.trans ((below_new wr _).mono br.size)).trans (hw1.mono (by simp; have := br.size; omega))
        go_wp2_with fail
        go_roundw
        case rel => exact ⟨m + 1, by omega, by go_num, by rw [hst.out], hw⟩
        case measure => simp [intOf]; omega
      · obtain rfl : m = kids.length := by omega
        have hf : Sx.groupsL (max g 0) (kids.take kids.length) = Sx.groups (.mk k c mn mx lz g kids) := by rw [List.take_length, hE.out]
        go_wp2_with fail
        go_ret
        exact ⟨ret_int hf, br⟩
end Go.Proofs.YtdoapojmenojoaaGreatDoor
end

section
/- The laws of chapter 5: what each call of theirs tells, in one form. -/
set_option linter.unusedVariables false
namespace Go.Proofs.YtdoapojmenojoaaGreatDoor
open Go.RowKit
open Sx (Nd)

abbrev nv (k : Int) (ka : Option Addr) (ki kj : Nat) (mn mx : Int) (lz : Bool) (g : Int) (kb : Option Addr) (ks kt : Nat) : Value := .agg #[.int .i64 k, .slice ka ki kj, .int .i64 mn, .int .i64 mx, .bool lz, .int .i64 g, .slice kb ks kt]
abbrev nc (k : Int) (ka : Option Addr) (ki kj : Nat) (mn mx : Int) (lz : Bool) (g : Int) (kb : Option Addr) (ks kt : Nat) : Obj := .cells #[.int .i64 k, .slice ka ki kj, .int .i64 mn, .int .i64 mx, .bool lz, .int .i64 g, .slice kb ks kt] 29
/- a variable that holds a node -/
structure NBx (w : World) (B : Nat) (k : Int) (ka : Option Addr) (ki kj : Nat) (mn mx : Int) (lz : Bool) (g : Int) (kb : Option Addr) (ks kt : Nat) (n : Nd) : Prop where
  box : Seven w B 0 k (.slice ka ki kj) mn mx lz g (.slice kb ks kt)
  nd : NodeV w (nv k ka ki kj mn mx lz g kb ks kt) n
  lt : B < w.heap.size
theorem NBx.below {w w' : World} {B : Nat} {k : Int} {ka : Option Addr} {ki kj : Nat} {mn mx : Int} {lz : Bool} {g : Int} {kb : Option Addr} {ks kt : Nat} {n : Nd} (h : NBx w B k ka ki kj mn mx lz g kb ks kt n) (hb : Below w.heap.size w w') : NBx w' B k ka ki kj mn mx lz g kb ks kt n :=
  ⟨h.box.below hb h.lt, h.nd.below hb, Nat.lt_of_lt_of_le h.lt hb.size⟩
theorem NBx.new {w : World} {k : Int} {ka : Option Addr} {ki kj : Nat} {mn mx : Int} {lz : Bool} {g : Int} {kb : Option Addr} {ks kt : Nat} {n : Nd} (h : NodeV w (nv k ka ki kj mn mx lz g kb ks kt) n) : NBx (w.alloc (nc k ka ki kj mn mx lz g kb ks kt)) w.heap.size k ka ki kj mn mx lz g kb ks kt n :=
  ⟨Seven.box .., h.below (below_new w _), by simp⟩
theorem NBx.cells {w : World} {B : Nat} {k : Int} {ka : Option Addr} {ki kj : Nat} {mn mx : Int} {lz : Bool} {g : Int} {kb : Option Addr} {ks kt : Nat} {n : Nd} (h : NBx w B k ka ki kj mn mx lz g kb ks kt n) :
    w.cell? ⟨B, 0, none⟩ = some (.int .i64 k) ∧ w.cell? ⟨B, 1, none⟩ = some (.slice ka ki kj) ∧ w.cell? ⟨B, 2, none⟩ = some (.int .i64 mn) ∧ w.cell? ⟨B, 3, none⟩ = some (.int .i64 mx) ∧ w.cell? ⟨B, 4, none⟩ = some (.bool lz) ∧ w.cell? ⟨B, 5, none⟩ = some (.int .i64 g) ∧ w.cell? ⟨B, 6, none⟩ = some (.slice kb ks kt) := by
  obtain ⟨z0, z1, z2, z3, z4, z5, z6⟩ := h.box
  simp only [Nat.zero_add] at z0 z1 z2 z3 z4 z5 z6
  exact ⟨z0, z1, z2, z3, z4, z5, z6⟩
/- what a law goes on with -/
structure Lw (B0 : Nat) (w0 w : World) : Prop where
  errs : Errs B0 w
  lt : B0 ≤ w.heap.size
  bel : Below w0.heap.size w0 w
theorem Lw.on {B0 : Nat} {w0 w w' : World} (h : Lw B0 w0 w) (hb : Below w.heap.size w w') : Lw B0 w0 w' := ⟨h.errs.below (hb.mono h.lt), Nat.le_trans h.lt hb.size, bvia h.bel hb⟩
/- Parse, its node written out -/
def PsPost (s : ByteArray) (w : World) (e : Ending) (w' : World) : Prop :=
  ∃ k ka ki kj mn mx lz g kb ks kt n at' er, e = .returned (.tuple #[nv k ka ki kj mn mx lz g kb ks kt, .int .i64 at', .int .i64 er]) ∧ NodeV w' (nv k ka ki kj mn mx lz g kb ks kt) n ∧ Sx.Parsed s n at' er ∧ Below w.heap.size w w'
theorem nodeVS_v {S : Nat → Prop} {w : World} {u : Value} {n : Nd} (h : NodeVS S w u n) (hS : ∀ b, S b → b < w.heap.size) : ∃ k ka ki kj mn mx lz g kb ks kt, u = nv k ka ki kj mn mx lz g kb ks kt ∧ NodeV w (nv k ka ki kj mn mx lz g kb ks kt) n := by
  obtain ⟨k, vc, mn, mx, lz, g, vl, rfl, hn⟩ := h
  obtain ⟨ka, ki, kj, kb, ks, kt, rfl, rfl⟩ := nodeS_shape hn
  exact ⟨k, ka, ki, kj, mn, mx, lz, g, kb, ks, kt, rfl, k, _, mn, mx, lz, g, _, rfl, NodeS.is hS hn⟩
theorem ps_any {B0 : Nat} {w0 : World} (s : ByteArray) (w : World) (h : Lw B0 w0 w) (hz : s.size ≤ 1000000000000) : Calls Tryz.prog 14 #[.string s] w (PsPost s w) := by
  refine (parse_any B0 s w hz h.errs h.lt).mono ?_
  rintro e w' ⟨u, n, at', er, rfl, hn, hp, hb⟩
  obtain ⟨k, ka, ki, kj, mn, mx, lz, g, kb, ks, kt, rfl, hv⟩ := nodeVS_v hn (fun b hb => hb.2)
  exact ⟨k, ka, ki, kj, mn, mx, lz, g, kb, ks, kt, n, at', er, rfl, hv, hp, hb⟩
/- .. where what it tells is known -/
def PkPost (n : Nd) (at' er : Int) (w : World) (e : Ending) (w' : World) : Prop :=
  ∃ k ka ki kj mn mx lz g kb ks kt, e = .returned (.tuple #[nv k ka ki kj mn mx lz g kb ks kt, .int .i64 at', .int .i64 er]) ∧ NodeV w' (nv k ka ki kj mn mx lz g kb ks kt) n ∧ Below w.heap.size w w'
theorem pk_any {B0 : Nat} {w0 : World} {s : ByteArray} {n : Nd} {at' er : Int} (w : World) (hp : Sx.Parsed s n at' er) (h : Lw B0 w0 w) (hz : s.size ≤ 1000000000000) : Calls Tryz.prog 14 #[.string s] w (PkPost n at' er w) := by
  refine (ps_any s w h hz).mono ?_
  rintro e w' ⟨k, ka, ki, kj, mn, mx, lz, g, kb, ks, kt, m, a2, e2, rfl, hv, hq, hb⟩
  obtain ⟨rfl, rfl, rfl⟩ := Sx.parsed_only hq hp
  exact ⟨k, ka, ki, kj, mn, mx, lz, g, kb, ks, kt, rfl, hv, hb⟩
theorem put_at {n : Nd} {u : Value} {t : ByteArray} (w : World) (h : NodeV w u n) (hr : Sx.right n) (ht : bs (Sx.put n) = t) (hz : t.size ≤ 700000000) : Calls Tryz.prog 19 #[u] w fun e w' => e = .returned (.string t) ∧ Below w.heap.size w w' := by
  subst ht
  exact pput_any n u w h hr hz
theorem groups_at {n : Nd} {u : Value} {g : Int} (w : World) (h : NodeV w u n) (hg : Sx.groups n = g) : Calls Tryz.prog 26 #[u] w fun e w' => e = .returned (.int .i64 g) ∧ Below w.heap.size w w' := by
  subst hg
  exact groups_any _ n (Nat.le_refl _) u w h
theorem size_at {n : Nd} {u : Value} {g : Int} (w : World) (h : NodeV w u n) (hg : (nsz n : Int) = g) (hz : nsz n ≤ 1099511627776) : Calls Tryz.prog 24 #[u] w fun e w' => e = .returned (.int .i64 g) ∧ Below w.heap.size w w' := by
  subst hg
  exact size_any _ n (Nat.le_refl _) u w h hz
theorem right_at {n : Nd} {u : Value} (w : World) (h : NodeV w u n) (hr : Sx.right n) : Calls Tryz.prog 22 #[u] w fun e w' => e = .returned (.bool true) ∧ Below w.heap.size w w' :=
  pright_any n u true w h ⟨fun _ => hr, fun _ => rfl⟩
theorem same_self {n : Nd} {u : Value} (w : World) (h : NodeV w u n) : Calls Tryz.prog 21 #[u, u] w fun e w' => e = .returned (.bool true) ∧ Below w.heap.size w w' :=
  psame_any n n u u true w h h ⟨fun _ => rfl, fun _ => rfl⟩
end Go.Proofs.YtdoapojmenojoaaGreatDoor
end

section
/- The chapter's examples: the law's own question. -/
set_option linter.unusedVariables false
namespace Go.Proofs.YtdoapojmenojoaaGreatDoor
open Go.RowKit
open Sx (Nd)

end Go.Proofs.YtdoapojmenojoaaGreatDoor
end
