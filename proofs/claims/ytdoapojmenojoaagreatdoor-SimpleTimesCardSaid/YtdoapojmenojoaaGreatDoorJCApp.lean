import Derived.Test.YtdoapojmenojoaaGreatDoorJPairs
import Derived.Test.YtdoapojmenojoaaGreatDoorJClassM
import Derived.Laws.AppendOwnNone
import Derived.ArgAppend
set_option linter.unusedSimpArgs false
set_option linter.unusedVariables false
section
/- Ranges appended to a row of the call's own. -/
set_option linter.unusedVariables false
namespace Go.Proofs.YtdoapojmenojoaaGreatDoor
open Go.RowKit

theorem Tryz.infoP : (Tryz.prog.info? 116).map (fun i => (i.zero, i.size, i.bytes)) = some (some (.agg #[.int .i32 0, .int .i32 0]), 2, 8) := by kernel_rfl
theorem grown_alloc {w w' : World} {o : Obj} {row : Option Nat} (h : (w.alloc o).grownBy w' row) : w.grownBy w' row := by
  refine ⟨h.os, h.tape, h.output, Nat.le_trans (by simp) h.size, fun k hk hr => ?_⟩
  rw [h.block k (by simp; omega) hr]; exact Below.heap_alloc w o k hk
theorem grown_refl (w : World) (row : Option Nat) : w.grownBy w row := ⟨rfl, rfl, rfl, Nat.le_refl _, fun _ _ _ => rfl⟩
/- a row of ranges of the call's own -/
def OwnP (w : World) (base : Nat) (e : TypeId) (v : Value) (l : List Cl.Rg) : Prop := w.ownsRow base e 2 v l.length (pcells l)
theorem OwnP.drewN {w : World} {base : Nat} {e : TypeId} {v : Value} {l : List Cl.Rg} (h : OwnP w base e v l) (q : Nat) : OwnP (w.drewN q) base e v l := h
theorem OwnP.drew {w : World} {base : Nat} {e : TypeId} {v : Value} {l : List Cl.Rg} (h : OwnP w base e v l) : OwnP w.drew base e v l := h
theorem OwnP.alloc {w : World} {base : Nat} {e : TypeId} {v : Value} {l : List Cl.Rg} (h : OwnP w base e v l) (o : Obj) : OwnP (w.alloc o) base e v l := World.ownsRow.alloc h o
theorem OwnP.below {w w' : World} {base : Nat} {e : TypeId} {v : Value} {l : List Cl.Rg} (h : OwnP w base e v l) (hb : Below w.heap.size w w') : OwnP w' base e v l := own_below h hb
theorem OwnP.mono {w : World} {base base' : Nat} {e : TypeId} {v : Value} {l : List Cl.Rg} (h : OwnP w base e v l) (hb : base' ≤ base) : OwnP w base' e v l := own_mono h hb
theorem OwnP.nil (w : World) (base : Nat) (e : TypeId) : OwnP w base e (.slice none 0 0) [] := World.ownsRow_nil _ _ _ _
theorem OwnP.kept {w w' : World} {base : Nat} {e : TypeId} {v : Value} {l : List Cl.Rg} (h : OwnP w base e v l) {row : Option Nat} (hg : w.grownBy w' row) (hr : ∀ g, row = some g → g < base) : OwnP w' base e v l := by
  refine World.ownsRow.kept (row := row) h hg ?_
  cases hv : Value.ownBlock v with
  | none => exact .inl rfl
  | some g => exact .inr (fun e => by have := hr g e.symm; have := own_block h g hv; omega)
theorem OwnP.set {w : World} {base : Nat} {e : TypeId} {v : Value} {l : List Cl.Rg} (h : OwnP w base e v l) {a : Addr} (ha : a.block < base) (u : Value) : OwnP (w.setCell a u) base e v l :=
  h.kept (row := some a.block) ⟨rfl, rfl, rfl, by simp [World.setCell], fun k _ hk => Below.heap_setCell _ _ _ _ (fun e => hk (by rw [e]))⟩ (fun g e => by cases e; exact ha)
theorem below_own {w w' : World} {B base : Nat} {w0 : World} {e : TypeId} {v : Value} {l : List Cl.Rg} (hb : Below B w0 w) (hown : OwnP w base e v l) (hB : B ≤ base) (hs : B ≤ w.heap.size) (hg : w.grownBy w' v.ownBlock) : Below B w0 w' :=
  hb.grown hg hs (fun g hg' => by have := own_block hown g hg'; omega)
/- a range that stands in a block of its own is appended -/
theorem append_pair {P : Program} {ops : Array Oper} {rest : List Oper} {o : Oper} {a : Act} {Q : Exit → Act → World → Prop} (hgd : o.guard = none) (s x : Operand) (t : TypeId)
    (ho : o.op = .call { callee := .builtin .append, args := #[s, x], argTypes := #[t, t] })
    (base : Nat) (e : TypeId) (ht : P.underlying t = some (.slice e)) (hi : (P.info? e).map (fun i => (i.zero, i.size, i.bytes)) = some (some (.agg #[.int .i32 0, .int .i32 0]), 2, 8))
    (w : World) (v : Value) (l : List Cl.Rg) (c d : Int) (hs : a.eval s = v) (hown : OwnP w base e v l)
    (hx : a.eval x = .slice (some ⟨w.heap.size, 0, none⟩) 1 1) (hl : l.length ≤ 4398046511104) (hbase : base ≤ w.heap.size)
    (h : ∀ v' w', OwnP w' base e v' (l ++ [(c, d)]) → w.grownBy w' v.ownBlock → wpList P ops Q rest (a.put o.dst v') w') : wpList P ops Q (o :: rest) a (w.alloc (.cells #[.int .i32 c, .int .i32 d] e)) := by
  obtain ⟨i0, hi, hz0, hz1, hz2⟩ := info_parts hi
  refine wpList_append_own _ hgd s x t ho base e i0 _ 2 8 ht hi hz0 hz1 hz2 rfl (by decide) v l.length (pcells l) hs (World.ownsRow.alloc hown _) ⟨w.heap.size, 0, none⟩ 1 1 [.int .i32 c, .int .i32 d] hx rfl (new_two w _ _ _) (by intro u hu; simp at hu; rcases hu with rfl | rfl <;> rfl) (by unfold maxLen; omega) (by omega) (by simp; omega) ?_
  intro v' w' hown' hg _
  exact h v' w' (by unfold OwnP; rw [List.length_append, pcells_app]; exact hown') (grown_alloc hg)
/- nil, or where a row begins -/
def Ptr (p : Option Addr) (cap : Nat) : Prop := (p = none ∧ cap = 0) ∨ ∃ g off, p = some ⟨g, off, none⟩
theorem Ptr.cap0 {p : Option Addr} {cap : Nat} (h : Ptr p cap) (hp : p = none) : cap = 0 := by
  rcases h with ⟨_, h⟩ | ⟨g, off, h⟩
  · exact h
  · rw [hp] at h; cases h
/- all ranges of another row are appended -/
theorem append_row {P : Program} {ops : Array Oper} {rest : List Oper} {o : Oper} {a : Act} {Q : Exit → Act → World → Prop} (hgd : o.guard = none) (s x : Operand) (t : TypeId)
    (ho : o.op = .call { callee := .builtin .append, args := #[s, x], argTypes := #[t, t] })
    (base : Nat) (e : TypeId) (ht : P.underlying t = some (.slice e)) (hi : (P.info? e).map (fun i => (i.zero, i.size, i.bytes)) = some (some (.agg #[.int .i32 0, .int .i32 0]), 2, 8))
    (w : World) (v : Value) (l m : List Cl.Rg) (p : Option Addr) (cap : Nat) (hs : a.eval s = v) (hown : OwnP w base e v l)
    (hx : a.eval x = .slice p m.length cap) (hp : RowP w p m) (hn : Ptr p cap) (hl : l.length + m.length ≤ 4398046511104) (hbase : base ≤ w.heap.size)
    (h : ∀ v' w', OwnP w' base e v' (l ++ m) → w.grownBy w' v.ownBlock → wpList P ops Q rest (a.put o.dst v') w') : wpList P ops Q (o :: rest) a w := by
  obtain ⟨i0, hi, hz0, hz1, hz2⟩ := info_parts hi
  cases p with
  | none =>
    have hm : m = [] := by
      cases m with
      | nil => rfl
      | cons r m => obtain ⟨g, off, he, _⟩ := hp 0 r rfl; cases he
    subst hm
    have hc := hn.cap0 rfl
    subst hc
    refine wpList_append_own_none hgd s x t ho base e i0 2 ht hi v l.length (pcells l) hs hown hx ?_
    exact h v w (by simpa using hown) (grown_refl _ _)
  | some ad =>
    refine wpList_append_own _ hgd s x t ho base e i0 _ 2 8 ht hi hz0 hz1 hz2 rfl (by decide) v l.length (pcells l) hs hown ad m.length cap (pcells m) hx (pcells_len m) (fun j u hj => ?_) (pcells_one m) (by unfold maxLen; omega) (by omega) hbase ?_
    · obtain ⟨k, r, hk, h1⟩ := pcells_of m j u hj
      obtain ⟨g, off, he, _, c1, c2⟩ := hp k r hk
      cases he
      rw [Addr.add_defn]
      rcases h1 with ⟨rfl, rfl⟩ | ⟨rfl, rfl⟩
      · exact c1
      · rw [← Nat.add_assoc]; exact c2
    · intro v' w' hown' hg _
      exact h v' w' (by unfold OwnP; rw [List.length_append, pcells_app]; exact hown') hg
def Mk (ty : TypeId) (l : List Cl.Rg) (w : World) (e : Ending) (w' : World) : Prop := ∃ v, e = .returned v ∧ OwnP w' w.heap.size ty v l ∧ Below w.heap.size w w'
/- a row that a call made, as a slice -/
theorem row_q {w : World} {B : Nat} {ty : TypeId} {v : Value} {l : List Cl.Rg} (h : OwnP w B ty v l) : ∃ p cap, v = .slice p l.length cap ∧ Ptr p cap ∧ l.length ≤ cap ∧ RowP w p l := by
  obtain ⟨p, cap, hv, hc, hr⟩ := row_p h
  refine ⟨p, cap, hv, ?_, hc, hr⟩
  rcases h.2 with ⟨h0, _⟩ | ⟨g, cap', cur, h0, _⟩
  · rw [hv] at h0; simp only [Value.slice.injEq] at h0; exact .inl ⟨h0.1, h0.2.2⟩
  · rw [hv] at h0; simp only [Value.slice.injEq] at h0; exact .inr ⟨_, _, h0.1⟩
theorem RowP.get {w : World} {p : Option Addr} {l : List Cl.Rg} (h : RowP w p l) {k : Nat} (hk : k < l.length) : ∃ g off a b, p = some ⟨g, off, none⟩ ∧ g < w.heap.size ∧ l[k]? = some (a, b) ∧ w.cell? ⟨g, off + k * 2, none⟩ = some (.int .i32 a) ∧ w.cell? ⟨g, off + k * 2 + 1, none⟩ = some (.int .i32 b) := by
  obtain ⟨g, off, hp, hg, h1, h2⟩ := h k _ (List.getElem?_eq_getElem hk)
  exact ⟨g, off, _, _, hp, hg, List.getElem?_eq_getElem hk, h1, h2⟩
theorem RowP.drop {w : World} {g off : Nat} {l : List Cl.Rg} (h : RowP w (some ⟨g, off, none⟩) l) (k : Nat) : RowP w (some ⟨g, off + k * 2, none⟩) (l.drop k) := fun j x hx => by
  rw [List.getElem?_drop] at hx
  obtain ⟨g', off', he, hg, h1, h2⟩ := h (k + j) x hx
  simp only [Option.some.injEq, Addr.mk.injEq, and_true] at he
  obtain ⟨rfl, rfl⟩ := he
  refine ⟨_, _, rfl, hg, ?_, ?_⟩
  · rw [← h1]; congr 2; omega
  · rw [← h2]; congr 2; omega
end Go.Proofs.YtdoapojmenojoaaGreatDoor
end

section
/- A row of the call's own is appended to: it stays where it was, or is new. -/
set_option linter.unusedVariables false
namespace Go.Proofs.YtdoapojmenojoaaGreatDoor
open Go.RowKit

def Fresh (w : World) (v v' : Value) : Prop := v'.ownBlock = v.ownBlock ∨ ∀ g, v'.ownBlock = some g → w.heap.size ≤ g
theorem run_append_new {P : Program} (w : World) (base : Nat) (t ty e : TypeId) (i : TypeInfo) (z : Value) (size bytes : Nat) (ht : P.underlying t = some (.slice e)) (hi : P.info? e = some i) (hz : i.zero = some z)
    (hsize : i.size = size) (hby : i.bytes = bytes) (hzs : z.cells.size = size) (hsz : 0 < size)
    (v : Value) (n : Nat) (xs : List Value) (hown : w.ownsRow base e size v n xs)
    (a : Addr) (m c : Nat) (news : List Value) (hl : news.length = m * size) (hnews : ∀ j u, news[j]? = some u → w.cell? (a.add j) = some u) (h1 : ∀ u ∈ news, u.oneCell' = true)
    (h63 : n + m ≤ maxLen) (hbytes : (n + m) * bytes ≤ 140737488355328) (hbase : base ≤ w.heap.size) :
    ∃ v' w', (Builtin.append_ #[t, t] ty #[v, .slice (some a) m c]).run P w = .ok v' w' ∧ w'.ownsRow base e size v' (n + m) (xs ++ news) ∧ w.grownBy w' v.ownBlock ∧ Fresh w v v' := by
  obtain ⟨v', w', hr, h2, h3, _⟩ := run_append_own (P := P) w base t ty e i z size bytes ht hi hz hsize hby hzs hsz v n xs hown a m c news hl hnews h1 h63 hbytes hbase
  refine ⟨v', w', hr, h2, h3, ?_⟩
  rcases hown.2 with ⟨rfl, rfl⟩ | ⟨g, cap, cur, rfl, hbg, hg, hnc, hcm, hcs, htake⟩
  · have hx : xs = [] := List.eq_nil_of_length_eq_zero (by simpa using hown.1)
    subst hx
    obtain ⟨v2, w2, hr2, h22, _, _⟩ := run_append_own (P := P) w w.heap.size t ty e i z size bytes ht hi hz hsize hby hzs hsz (.slice none 0 0) 0 [] (World.ownsRow_nil w _ e size) a m c news hl hnews h1 h63 hbytes (Nat.le_refl _)
    rw [hr] at hr2
    simp only [Result.ok.injEq] at hr2
    obtain ⟨rfl, rfl⟩ := hr2
    exact .inr (fun g hg => (h22.lt g hg).1)
  · by_cases hroom : n + m ≤ cap
    · subst hsize
      have hfit : n * i.size + news.length ≤ cur.size := by rw [hl, hcs, ← Nat.add_mul]; exact Nat.mul_le_mul_right _ hroom
      have hr2 := run_append_room (P := P) w t ty e i ht hi g n cap cur hg a m c news hl hnews h1 hroom hfit
      rw [hr] at hr2
      simp only [Result.ok.injEq] at hr2
      exact .inl (by rw [hr2.1]; rfl)
    · have holds : ∀ j u, xs[j]? = some u → w.cell? ((⟨g, 0, none⟩ : Addr).add j) = some u := hown.cells (g := g) rfl
      obtain ⟨v2, w2, hr2, h22, _⟩ := run_append_arg_grows (P := P) w t ty e i z size bytes ht hi hz hsize hby hzs hsz ⟨g, 0, none⟩ n cap xs hown.1 holds a m c news hl hnews (by omega) h63 hbytes
      rw [hr] at hr2
      simp only [Result.ok.injEq] at hr2
      obtain ⟨rfl, rfl⟩ := hr2
      exact .inr (fun g hg => (h22.lt g hg).1)
theorem wp_append_new {P : Program} (w : World) {o : Oper} {a : Act} {K : Act → World → Prop} {Q : Exit → Act → World → Prop} (s x : Operand) (t : TypeId)
    (ho : o.op = .call { callee := .builtin .append, args := #[s, x], argTypes := #[t, t] })
    (base : Nat) (e : TypeId) (i : TypeInfo) (z : Value) (size bytes : Nat) (ht : P.underlying t = some (.slice e)) (hi : P.info? e = some i) (hz : i.zero = some z)
    (hsize : i.size = size) (hby : i.bytes = bytes) (hzs : z.cells.size = size) (hsz : 0 < size)
    (v : Value) (n : Nat) (xs : List Value) (hs : a.eval s = v) (hown : w.ownsRow base e size v n xs)
    (ad : Addr) (m c : Nat) (news : List Value) (hx : a.eval x = .slice (some ad) m c) (hl : news.length = m * size) (hnews : ∀ j u, news[j]? = some u → w.cell? (ad.add j) = some u) (h1 : ∀ u ∈ news, u.oneCell' = true)
    (h63 : n + m ≤ maxLen) (hbytes : (n + m) * bytes ≤ 140737488355328) (hbase : base ≤ w.heap.size)
    (h : ∀ v' w', w'.ownsRow base e size v' (n + m) (xs ++ news) → w.grownBy w' v.ownBlock → Fresh w v v' → K (a.put o.dst v') w') : o.wp P a w K Q := by
  obtain ⟨v', w', hr, h2, h3, h4⟩ := run_append_new (P := P) w base t o.type e i z size bytes ht hi hz hsize hby hzs hsz v n xs hown ad m c news hl hnews h1 h63 hbytes hbase
  unfold Oper.wp execOp
  simp only [ho, resolve, invoke, builtin, Sem.run_bind, Sem.run_pure, Result.andThen_ok, List.map_toArray, List.map_cons, List.map_nil, hs, hx, hr]
  exact h v' w' h2 h3 h4
theorem wpList_append_new {P : Program} (w : World) {ops : Array Oper} {rest : List Oper} {o : Oper} {a : Act} {Q : Exit → Act → World → Prop} (hgd : o.guard = none) (s x : Operand) (t : TypeId)
    (ho : o.op = .call { callee := .builtin .append, args := #[s, x], argTypes := #[t, t] })
    (base : Nat) (e : TypeId) (i : TypeInfo) (z : Value) (size bytes : Nat) (ht : P.underlying t = some (.slice e)) (hi : P.info? e = some i) (hz : i.zero = some z)
    (hsize : i.size = size) (hby : i.bytes = bytes) (hzs : z.cells.size = size) (hsz : 0 < size)
    (v : Value) (n : Nat) (xs : List Value) (hs : a.eval s = v) (hown : w.ownsRow base e size v n xs)
    (ad : Addr) (m c : Nat) (news : List Value) (hx : a.eval x = .slice (some ad) m c) (hl : news.length = m * size) (hnews : ∀ j u, news[j]? = some u → w.cell? (ad.add j) = some u) (h1 : ∀ u ∈ news, u.oneCell' = true)
    (h63 : n + m ≤ maxLen) (hbytes : (n + m) * bytes ≤ 140737488355328) (hbase : base ≤ w.heap.size)
    (h : ∀ v' w', w'.ownsRow base e size v' (n + m) (xs ++ news) → w.grownBy w' v.ownBlock → Fresh w v v' → wpList P ops Q rest (a.put o.dst v') w') : wpList P ops Q (o :: rest) a w :=
  wpList_plain hgd fun _ hK => wp_append_new w s x t ho base e i z size bytes ht hi hz hsize hby hzs hsz v n xs hs hown ad m c news hx hl hnews h1 h63 hbytes hbase fun v' w' h2 h3 h4 => hK _ _ (h v' w' h2 h3 h4)
/- grown, and grown again: the row is where it was, or new -/
def Grew (w : World) (v : Value) (w' : World) (v' : Value) : Prop := w.grownBy w' v.ownBlock ∧ Fresh w v v'
theorem Grew.refl (w : World) (v : Value) : Grew w v w v := ⟨grown_refl _ _, .inl rfl⟩
theorem Grew.trans {a b c : World} {u v x : Value} (h : Grew a u b v) (k : Grew b v c x) : Grew a u c x := by
  obtain ⟨g1, f1⟩ := h
  obtain ⟨g2, f2⟩ := k
  refine ⟨⟨g2.os.trans g1.os, g2.tape.trans g1.tape, g2.output.trans g1.output, Nat.le_trans g1.size g2.size, fun i hi hn => ?_⟩, ?_⟩
  · have hv : some i ≠ v.ownBlock := fun e => by
      rcases f1 with f | f
      · rw [f] at e; exact hn e
      · have := f i e.symm; omega
    exact (g2.block i (Nat.lt_of_lt_of_le hi g1.size) hv).trans (g1.block i hi hn)
  · rcases f2 with f | f
    · rcases f1 with f' | f'
      · exact .inl (f.trans f')
      · exact .inr (fun g hg => f' g (by rw [← f]; exact hg))
    · exact .inr (fun g hg => Nat.le_trans g1.size (f g hg))
theorem Grew.alloc (w : World) (v : Value) (o : Obj) : Grew w v (w.alloc o) v := ⟨World.grownBy_alloc w o _, .inl rfl⟩
theorem Grew.below {w0 w w' : World} {v v' : Value} {e : TypeId} {size n : Nat} {xs : List Value} (h : Grew w v w' v') (hb : Below w0.heap.size w0 w) (ho : w.ownsRow w0.heap.size e size v n xs) : Below w0.heap.size w0 w' :=
  hb.grown h.1 hb.size (fun k hk => (ho.lt k hk).1)
theorem Grew.block {w w' : World} {v v' : Value} (h : Grew w v w' v') {k : Nat} (hk : k < w.heap.size) (hn : v.ownBlock ≠ some k) : w'.heap[k]? = w.heap[k]? := h.1.block k hk (fun e => hn e.symm)
end Go.Proofs.YtdoapojmenojoaaGreatDoor
end
