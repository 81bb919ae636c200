/- Ranges appended to a row of the call's own. -/
import Derived.Test.YtpnakbhbaghhgaaDoorPairs
import Derived.Test.YtpnakbhbaghhgaaDoorClassM2
import Derived.Laws.AppendOwnNone
set_option linter.unusedVariables false
namespace Go.Proofs.YtpnakbhbaghhgaaDoor
open Go.RowKit

theorem Tryd.infoP : (Tryd.prog.info? 48).map (fun i => (i.zero, i.size, i.bytes)) = some (some (.agg #[.int .i32 0, .int .i32 0]), 2, 8) := by kernel_rfl
theorem Tryd.infoQ : (Tryd.prog.info? 56).map (fun i => (i.zero, i.size, i.bytes)) = some (some (.agg #[.int .i32 0, .int .i32 0]), 2, 8) := by kernel_rfl
theorem grown_alloc {w w' : World} {o : Obj} {row : Option Nat} (h : (w.alloc o).grownBy w' row) : w.grownBy w' row := by
  refine ⟨h.os, h.tape, h.output, Nat.le_trans (by simp) h.size, fun k hk hr => ?_⟩
  rw [h.block k (by simp; omega) hr]; exact Below.heap_alloc w o k hk
theorem grown_refl (w : World) (row : Option Nat) : w.grownBy w row := ⟨rfl, rfl, rfl, Nat.le_refl _, fun _ _ _ => rfl⟩
theorem grown_below {w w' : World} (h : w.grownBy w' none) : Below w.heap.size w w' := ⟨h.os, h.tape, h.output, h.size, fun k hk => h.block k hk (fun e => by cases e)⟩
/- a row of ranges of the call's own -/
def OwnP (w : World) (base : Nat) (e : TypeId) (v : Value) (l : List Cl.Rg) : Prop := w.ownsRow base e 2 v l.length (pcells l)
theorem OwnP.drewN {w : World} {base : Nat} {e : TypeId} {v : Value} {l : List Cl.Rg} (h : OwnP w base e v l) (q : Nat) : OwnP (w.drewN q) base e v l := h
theorem OwnP.drew {w : World} {base : Nat} {e : TypeId} {v : Value} {l : List Cl.Rg} (h : OwnP w base e v l) : OwnP w.drew base e v l := h
theorem OwnP.alloc {w : World} {base : Nat} {e : TypeId} {v : Value} {l : List Cl.Rg} (h : OwnP w base e v l) (o : Obj) : OwnP (w.alloc o) base e v l := World.ownsRow.alloc h o
theorem OwnP.below {w w' : World} {base : Nat} {e : TypeId} {v : Value} {l : List Cl.Rg} (h : OwnP w base e v l) (hb : Below w.heap.size w w') : OwnP w' base e v l := own_below h hb
theorem OwnP.mono {w : World} {base base' : Nat} {e : TypeId} {v : Value} {l : List Cl.Rg} (h : OwnP w base e v l) (hb : base' ≤ base) : OwnP w base' e v l := own_mono h hb
theorem OwnP.nil (w : World) (base : Nat) (e : TypeId) : OwnP w base e (.slice none 0 0) [] := World.ownsRow_nil _ _ _ _
theorem OwnP.kept {w w' : World} {base : Nat} {e : TypeId} {v : Value} {l : List Cl.Rg} (h : OwnP w base e v l) {row : Option Nat} (hg : w.grownBy w' row) (hr : ∀ g, row = some g → g < base) : OwnP w' base e v l := by
  refine World.ownsRow.kept (row := row) h hg ?_
  cases hv : Value.ownBlock v with
  | none => exact .inl rfl
  | some g => exact .inr (fun e => by have := hr g e.symm; have := own_block h g hv; omega)
theorem OwnP.set {w : World} {base : Nat} {e : TypeId} {v : Value} {l : List Cl.Rg} (h : OwnP w base e v l) {a : Addr} (ha : a.block < base) (u : Value) : OwnP (w.setCell a u) base e v l :=
  h.kept (row := some a.block) ⟨rfl, rfl, rfl, by simp [World.setCell], fun k _ hk => Below.heap_setCell _ _ _ _ (fun e => hk (by rw [e]))⟩ (fun g e => by cases e; exact ha)
theorem below_own {w w' : World} {B base : Nat} {w0 : World} {e : TypeId} {v : Value} {l : List Cl.Rg} (hb : Below B w0 w) (hown : OwnP w base e v l) (hB : B ≤ base) (hs : B ≤ w.heap.size) (hg : w.grownBy w' v.ownBlock) : Below B w0 w' :=
  hb.grown hg hs (fun g hg' => by have := own_block hown g hg'; omega)
theorem two_own {w w' : World} {b base : Nat} {e : TypeId} {v : Value} {x y : Value} {l : List Cl.Rg} (ht : Two w b x y) (hown : OwnP w base e v l) (hB : b < base) (hg : w.grownBy w' v.ownBlock) : Two w' b x y :=
  ht.kept hg (fun e => by have := own_block hown _ e; omega)
theorem own_drewN {w : World} {base : Nat} {e : TypeId} {size : Nat} {v : Value} {n : Nat} {xs : List Value} (h : w.ownsRow base e size v n xs) (q : Nat) : (w.drewN q).ownsRow base e size v n xs := h
/- a range that stands in a block of its own is appended -/
theorem append_pair {P : Program} {ops : Array Oper} {rest : List Oper} {o : Oper} {a : Act} {Q : Exit → Act → World → Prop} (hgd : o.guard = none) (s x : Operand) (t : TypeId)
    (ho : o.op = .call { callee := .builtin .append, args := #[s, x], argTypes := #[t, t] })
    (base : Nat) (e : TypeId) (ht : P.underlying t = some (.slice e)) (hi : (P.info? e).map (fun i => (i.zero, i.size, i.bytes)) = some (some (.agg #[.int .i32 0, .int .i32 0]), 2, 8))
    (w : World) (v : Value) (l : List Cl.Rg) (c d : Int) (hs : a.eval s = v) (hown : OwnP w base e v l)
    (hx : a.eval x = .slice (some ⟨w.heap.size, 0, none⟩) 1 1) (hl : l.length ≤ 4398046511104) (hbase : base ≤ w.heap.size)
    (h : ∀ v' w', OwnP w' base e v' (l ++ [(c, d)]) → w.grownBy w' v.ownBlock → wpList P ops Q rest (a.put o.dst v') w') : wpList P ops Q (o :: rest) a (w.alloc (.cells #[.int .i32 c, .int .i32 d] e)) := by
  obtain ⟨i0, hi, hz0, hz1, hz2⟩ := info_parts hi
  refine wpList_append_own _ hgd s x t ho base e i0 _ 2 8 ht hi hz0 hz1 hz2 rfl (by decide) v l.length (pcells l) hs (World.ownsRow.alloc hown _) ⟨w.heap.size, 0, none⟩ 1 1 [.int .i32 c, .int .i32 d] hx rfl (new_two w _ _ _) (by intro u hu; simp at hu; rcases hu with rfl | rfl <;> rfl) (by unfold maxLen; omega) (by omega) (by simp; omega) ?_
  intro v' w' hown' hg _
  exact h v' w' (by unfold OwnP; rw [List.length_append, pcells_app]; exact hown') (grown_alloc hg)
/- nil, or where a row begins -/
def Ptr (p : Option Addr) (cap : Nat) : Prop := (p = none ∧ cap = 0) ∨ ∃ g off, p = some ⟨g, off, none⟩
theorem Ptr.cap0 {p : Option Addr} {cap : Nat} (h : Ptr p cap) (hp : p = none) : cap = 0 := by
  rcases h with ⟨_, h⟩ | ⟨g, off, h⟩
  · exact h
  · rw [hp] at h; cases h
/- all ranges of another row are appended -/
theorem append_row {P : Program} {ops : Array Oper} {rest : List Oper} {o : Oper} {a : Act} {Q : Exit → Act → World → Prop} (hgd : o.guard = none) (s x : Operand) (t : TypeId)
    (ho : o.op = .call { callee := .builtin .append, args := #[s, x], argTypes := #[t, t] })
    (base : Nat) (e : TypeId) (ht : P.underlying t = some (.slice e)) (hi : (P.info? e).map (fun i => (i.zero, i.size, i.bytes)) = some (some (.agg #[.int .i32 0, .int .i32 0]), 2, 8))
    (w : World) (v : Value) (l m : List Cl.Rg) (p : Option Addr) (cap : Nat) (hs : a.eval s = v) (hown : OwnP w base e v l)
    (hx : a.eval x = .slice p m.length cap) (hp : RowP w p m) (hn : Ptr p cap) (hl : l.length + m.length ≤ 4398046511104) (hbase : base ≤ w.heap.size)
    (h : ∀ v' w', OwnP w' base e v' (l ++ m) → w.grownBy w' v.ownBlock → wpList P ops Q rest (a.put o.dst v') w') : wpList P ops Q (o :: rest) a w := by
  obtain ⟨i0, hi, hz0, hz1, hz2⟩ := info_parts hi
  cases p with
  | none =>
    have hm : m = [] := by
      cases m with
      | nil => rfl
      | cons r m => obtain ⟨g, off, he, _⟩ := hp 0 r rfl; cases he
    subst hm
    have hc := hn.cap0 rfl
    subst hc
    refine wpList_append_own_none hgd s x t ho base e i0 2 ht hi v l.length (pcells l) hs hown hx ?_
    exact h v w (by simpa using hown) (grown_refl _ _)
  | some ad =>
    refine wpList_append_own _ hgd s x t ho base e i0 _ 2 8 ht hi hz0 hz1 hz2 rfl (by decide) v l.length (pcells l) hs hown ad m.length cap (pcells m) hx (pcells_len m) (fun j u hj => ?_) (pcells_one m) (by unfold maxLen; omega) (by omega) hbase ?_
    · obtain ⟨k, r, hk, h1⟩ := pcells_of m j u hj
      obtain ⟨g, off, he, _, c1, c2⟩ := hp k r hk
      cases he
      rw [Addr.add_defn]
      rcases h1 with ⟨rfl, rfl⟩ | ⟨rfl, rfl⟩
      · exact c1
      · rw [← Nat.add_assoc]; exact c2
    · intro v' w' hown' hg _
      exact h v' w' (by unfold OwnP; rw [List.length_append, pcells_app]; exact hown') hg
def Mk (ty : TypeId) (l : List Cl.Rg) (w : World) (e : Ending) (w' : World) : Prop := ∃ v, e = .returned v ∧ OwnP w' w.heap.size ty v l ∧ Below w.heap.size w w'
/- a row that a call made, as a slice -/
theorem row_q {w : World} {B : Nat} {ty : TypeId} {v : Value} {l : List Cl.Rg} (h : OwnP w B ty v l) : ∃ p cap, v = .slice p l.length cap ∧ Ptr p cap ∧ l.length ≤ cap ∧ RowP w p l := by
  obtain ⟨p, cap, hv, hc, hr⟩ := row_p h
  refine ⟨p, cap, hv, ?_, hc, hr⟩
  rcases h.2 with ⟨h0, _⟩ | ⟨g, cap', cur, h0, _⟩
  · rw [hv] at h0; simp only [Value.slice.injEq] at h0; exact .inl ⟨h0.1, h0.2.2⟩
  · rw [hv] at h0; simp only [Value.slice.injEq] at h0; exact .inr ⟨_, _, h0.1⟩
theorem RowP.get {w : World} {p : Option Addr} {l : List Cl.Rg} (h : RowP w p l) {k : Nat} (hk : k < l.length) : ∃ g off a b, p = some ⟨g, off, none⟩ ∧ g < w.heap.size ∧ l[k]? = some (a, b) ∧ w.cell? ⟨g, off + k * 2, none⟩ = some (.int .i32 a) ∧ w.cell? ⟨g, off + k * 2 + 1, none⟩ = some (.int .i32 b) := by
  obtain ⟨g, off, hp, hg, h1, h2⟩ := h k _ (List.getElem?_eq_getElem hk)
  exact ⟨g, off, _, _, hp, hg, List.getElem?_eq_getElem hk, h1, h2⟩
theorem RowP.drop {w : World} {g off : Nat} {l : List Cl.Rg} (h : RowP w (some ⟨g, off, none⟩) l) (k : Nat) : RowP w (some ⟨g, off + k * 2, none⟩) (l.drop k) := fun j x hx => by
  rw [List.getElem?_drop] at hx
  obtain ⟨g', off', he, hg, h1, h2⟩ := h (k + j) x hx
  simp only [Option.some.injEq, Addr.mk.injEq, and_true] at he
  obtain ⟨rfl, rfl⟩ := he
  refine ⟨_, _, rfl, hg, ?_, ?_⟩
  · rw [← h1]; congr 2; omega
  · rw [← h2]; congr 2; omega
theorem rowp_nil {w : World} {l : List Cl.Rg} (h : RowP w none l) : l = [] := by
  cases l with
  | nil => rfl
  | cons r m => obtain ⟨g, off, he, _⟩ := h 0 r rfl; cases he
end Go.Proofs.YtpnakbhbaghhgaaDoor
