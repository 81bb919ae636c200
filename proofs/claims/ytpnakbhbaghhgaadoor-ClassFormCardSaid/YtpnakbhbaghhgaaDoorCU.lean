/- Rows that calls tell, kept from call to call. -/
import Derived.Test.YtpnakbhbaghhgaaDoorCRuns
set_option linter.unusedVariables false
namespace Go.Proofs.YtpnakbhbaghhgaaDoor
open Go.RowKit

def Lv (w : World) (p : Option Addr) (cap : Nat) (l : List Cl.Rg) : Prop := RowP w p l ∧ Ptr p cap
theorem Lv.below {w w' : World} {p : Option Addr} {cap : Nat} {l : List Cl.Rg} (h : Lv w p cap l) (hb : Below w.heap.size w w') : Lv w' p cap l := ⟨h.1.below hb, h.2⟩
theorem mk_u {ty : TypeId} {l : List Cl.Rg} {w w' : World} {e : Ending} (h : Mk ty l w e w') : ∃ q c, e = .returned (.slice q l.length c) ∧ Lv w' q c l ∧ Below w.heap.size w w' := by
  obtain ⟨v, rfl, hown, hb⟩ := h
  obtain ⟨q, c, rfl, hp, _, hr⟩ := row_q hown
  exact ⟨q, c, rfl, ⟨hr, hp⟩, hb⟩
/- a row written out -/
theorem rowp_block {w : World} {g : Nat} {cs : Array Value} {e : TypeId} {fz : Nat × Nat} (l : List Cl.Rg) (h : w.heap[g]? = some (.cells cs e fz)) (hc : cs.toList = pcells l) : RowP w (some ⟨g, 0, none⟩) l := fun k x hx => by
  obtain ⟨h1, h2⟩ := pcells_at l k x hx
  rw [← hc] at h1 h2
  refine ⟨g, 0, rfl, (Array.getElem?_eq_some_iff.1 h).1, ?_, ?_⟩
  · rw [Lib.cell_of_heap h, Nat.zero_add, ← Array.getElem?_toList]; exact h1
  · rw [Lib.cell_of_heap h, Nat.zero_add, ← Array.getElem?_toList]; exact h2
theorem lv_new (w : World) (cs : Array Value) (e : TypeId) (n : Nat) (l : List Cl.Rg) (hc : cs.toList = pcells l) : Lv (w.alloc (.cells cs e)) (some ⟨w.heap.size, 0, none⟩) n l :=
  ⟨rowp_block l (new_block w _) hc, .inr ⟨_, _, rfl⟩⟩
theorem below_new (w : World) (o : Obj) : Below w.heap.size w (w.alloc o) := Below.alloc (Below.refl _ _) (Nat.le_refl _) o
/- forms for calls whose answers are told -/
theorem of_at (p : Option Addr) (cap : Nat) (l m : List Cl.Rg) (w : World) (h : Lv w p cap l) (hl : l.length ≤ 1000) (he : Cl.of l = m) : Calls Tryd.prog 12 #[.slice p l.length cap] w (Mk 48 m w) := by
  subst he; exact of_any p cap l w h.1 (by omega)
theorem rof_at (p : Option Addr) (cap : Nat) (l m : List Cl.Rg) (w : World) (h : Lv w p cap l) (hl : l.length ≤ 1000) (he : Cl.of l = m) : Calls Tryd.prog 13 #[.slice p l.length cap] w (Mk 56 m w) := by
  subst he; exact rof_any p cap l w h.1 (by omega)
theorem not_at (p : Option Addr) (cap : Nat) (l m : List Cl.Rg) (w : World) (h : Lv w p cap l) (hl : l.length ≤ 1000) (he : Cl.nots l = m) : Calls Tryd.prog 16 #[.slice p l.length cap] w (Mk 48 m w) := by
  subst he; exact not_any p cap l w h.1 (by omega)
theorem rnot_at (p : Option Addr) (cap : Nat) (l m : List Cl.Rg) (w : World) (h : Lv w p cap l) (hl : l.length ≤ 1000) (he : Cl.nots l = m) : Calls Tryd.prog 17 #[.slice p l.length cap] w (Mk 56 m w) := by
  subst he; exact rnot_any p cap l w h.1 (by omega)
theorem union_at (p q : Option Addr) (cap cap' : Nat) (l m n : List Cl.Rg) (w : World) (h : Lv w p cap l) (h' : Lv w q cap' m) (hl : l.length ≤ 1000) (hm : m.length ≤ 1000) (he : Cl.of (l ++ m) = n) : Calls Tryd.prog 14 #[.slice p l.length cap, .slice q m.length cap'] w (Mk 48 n w) := by
  subst he; exact union_any p q cap cap' l m w h.1 h.2 h'.1 h'.2 (by omega) (by omega)
theorem runion_at (p q : Option Addr) (cap cap' : Nat) (l m n : List Cl.Rg) (w : World) (h : Lv w p cap l) (h' : Lv w q cap' m) (hl : l.length ≤ 1000) (hm : m.length ≤ 1000) (he : Cl.of (l ++ m) = n) : Calls Tryd.prog 15 #[.slice p l.length cap, .slice q m.length cap'] w (Mk 56 n w) := by
  subst he; exact runion_any p q cap cap' l m w h.1 h.2 h'.1 h'.2 (by omega) (by omega)
theorem refc_at (p : Option Addr) (cap : Nat) (l : List Cl.Rg) (w : World) (h : Lv w p cap l) (hl : l.length ≤ 1000) : Calls Tryd.prog 10 #[.slice p l.length cap] w (Mk 56 l w) := refc_any p cap l w h.1 (by omega)
theorem has_at (p : Option Addr) (cap : Nat) (l : List Cl.Rg) (x : Int) (v : Bool) (w : World) (h : Lv w p cap l) (hl : l.length ≤ 1000) (hv : hasB l x = v) : Calls Tryd.prog 20 #[.slice p l.length cap, .int .i32 x] w fun e w' => e = .returned (.bool v) ∧ Below w.heap.size w w' := has_any p cap l x v w h.1 (by omega) hv
theorem rhas_at (p : Option Addr) (cap : Nat) (l : List Cl.Rg) (x : Int) (v : Bool) (w : World) (h : Lv w p cap l) (hl : l.length ≤ 1000) (hv : hasB l x = v) : Calls Tryd.prog 21 #[.slice p l.length cap, .int .i32 x] w fun e w' => e = .returned (.bool v) ∧ Below w.heap.size w w' := rhas_any p cap l x v w h.1 (by omega) hv
theorem many_at (p : Option Addr) (cap : Nat) (l : List Cl.Rg) (n : Int) (w : World) (h : Lv w p cap l) (hl : l.length ≤ 1000) (hv : Cl.sumL (Cl.of l) = n) : Calls Tryd.prog 22 #[.slice p l.length cap] w fun e w' => e = .returned (.int .i64 n) ∧ Below w.heap.size w w' := many_any p cap l n w h.1 (by omega) hv
theorem rmany_at (p : Option Addr) (cap : Nat) (l : List Cl.Rg) (n : Int) (w : World) (h : Lv w p cap l) (hl : l.length ≤ 1000) (hv : Cl.sumL (Cl.of l) = n) : Calls Tryd.prog 23 #[.slice p l.length cap] w fun e w' => e = .returned (.int .i64 n) ∧ Below w.heap.size w w' := rmany_any p cap l n w h.1 (by omega) hv
theorem same_at (p q : Option Addr) (cap cap' : Nat) (l m : List Cl.Rg) (v : Bool) (w : World) (h : Lv w p cap l) (h' : Lv w q cap' m) (hl : l.length ≤ 1000) (hm : m.length ≤ 1000) (hv : decide (l = m) = v) : Calls Tryd.prog 24 #[.slice p l.length cap, .slice q m.length cap'] w fun e w' => e = .returned (.bool v) ∧ Below w.heap.size w w' := same_any p q cap cap' l m v w h.1 h'.1 (by omega) (by omega) hv
theorem rsame_at (p q : Option Addr) (cap cap' : Nat) (l m : List Cl.Rg) (v : Bool) (w : World) (h : Lv w p cap l) (h' : Lv w q cap' m) (hl : l.length ≤ 1000) (hm : m.length ≤ 1000) (hv : decide (l = m) = v) : Calls Tryd.prog 11 #[.slice p l.length cap, .slice q m.length cap'] w fun e w' => e = .returned (.bool v) ∧ Below w.heap.size w w' := rsame_any p q cap cap' l m v w h.1 h'.1 (by omega) (by omega) hv
theorem cright_at (p : Option Addr) (cap : Nat) (l : List Cl.Rg) (v : Bool) (w : World) (h : Lv w p cap l) (hl : l.length ≤ 1000) (hi : RIn l) (hv : Rt l v) : Calls Tryd.prog 18 #[.slice p l.length cap] w fun e w' => e = .returned (.bool v) ∧ Below w.heap.size w w' := right_any p cap l v w h.1 hi (by omega) hv
theorem crright_at (p : Option Addr) (cap : Nat) (l : List Cl.Rg) (v : Bool) (w : World) (h : Lv w p cap l) (hl : l.length ≤ 1000) (hi : RIn l) (hv : Rt l v) : Calls Tryd.prog 19 #[.slice p l.length cap] w fun e w' => e = .returned (.bool v) ∧ Below w.heap.size w w' := rright_any p cap l v w h.1 hi (by omega) hv
theorem cput_at (p : Option Addr) (cap : Nat) (l : List Cl.Rg) (s : ByteArray) (w : World) (h : Lv w p cap l) (hl : l.length ≤ 1000) (hi : RIn l) (hT : Tab w) (hv : (⟨(Cl.putL l).toArray⟩ : ByteArray) = s) : Calls Tryd.prog 25 #[.slice p l.length cap] w fun e w' => e = .returned (.string s) ∧ Below w.heap.size w w' := by
  subst hv; exact put_any p cap l w h.1 hi hT (by omega)
theorem crput_at (p : Option Addr) (cap : Nat) (l : List Cl.Rg) (s : ByteArray) (w : World) (h : Lv w p cap l) (hl : l.length ≤ 1000) (hi : RIn l) (hv : (⟨(Cl.putL l).toArray⟩ : ByteArray) = s) : Calls Tryd.prog 26 #[.slice p l.length cap] w fun e w' => e = .returned (.string s) ∧ Below w.heap.size w w' := by
  subst hv; exact rputs_any p cap l w h.1 hi (by omega)
/- what a form is, besides -/
theorem nf_rin {l : List Cl.Rg} (h : Cl.NF l) : RIn l := fun k r hr => by
  have := h.2 r (List.mem_of_getElem? hr)
  unfold Cl.may at this
  omega
theorem nf_right {l : List Cl.Rg} (h : Cl.NF l) (hl : l.length ≤ 64) : Rt l true := by
  refine ⟨fun _ => ⟨hl, fun j hj r hr => ⟨h.2 r (List.mem_of_getElem? hr), fun i s hi hs => ?_⟩⟩, fun _ => rfl⟩
  subst hi
  have h1 := (List.pairwise_iff_getElem.1 h.1) i (i + 1) (List.getElem?_eq_some_iff.1 hs).1 (List.getElem?_eq_some_iff.1 hr).1 (by omega)
  rw [(List.getElem?_eq_some_iff.1 hs).2, (List.getElem?_eq_some_iff.1 hr).2] at h1
  exact h1
theorem hasB_eq {l m : List Cl.Rg} {x y : Int} (h : Cl.mem l x ↔ Cl.mem m y) : hasB l x = hasB m y := by
  rw [Bool.eq_iff_iff, hasB_iff, hasB_iff]; exact h
theorem rin_lit {l : List Cl.Rg} (h : ∀ r ∈ l, RgB r.1 r.2) : RIn l := fun k r hr => h r (List.mem_of_getElem? hr)
end Go.Proofs.YtpnakbhbaghhgaaDoor
